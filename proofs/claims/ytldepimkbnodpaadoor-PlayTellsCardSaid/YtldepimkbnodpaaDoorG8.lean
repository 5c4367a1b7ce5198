/-
  Merged: Po, Bb.
-/
import Derived.Test.YtldepimkbnodpaaDoorPn
import Derived.Test.YtldepimkbnodpaaDoorBq
import Derived.Test.YtldepimkbnodpaaDoorBe

namespace Go.Proofs.YtldepimkbnodpaaDoor
open Go.RowKit Go.Sort
set_option linter.unusedSimpArgs false
set_option linter.unusedVariables false

theorem tkP_eq (P : Nat → Int) (f t k : Int) : tkP P f t k = if fltN P f t k = 0 then tksN P f.toNat t.toNat else -1 := by
  unfold tkP
  rw [flt_hand]
  rcases flt_cases P f t k with h | ⟨h, a, b, rfl, rfl, ha, hb⟩
  · rw [if_neg (by rcases h with h | h <;> omega), if_neg (by rcases h with h | h <;> omega)]
  · rw [if_pos h, if_pos h, Int.toNat_natCast, Int.toNat_natCast, tks_hand P a b ha hb]
theorem at_int (f t : Nat) (ht : t < 64) (hf : f < 64) : ∃ q r : Int, (f : Int).tdiv 8 = q ∧ (t : Int).tmod 8 = r ∧ q * 8 + r = ((8 * (f / 8) + t % 8 : Nat) : Int) ∧ 0 ≤ q ∧ q < 8 ∧ 0 ≤ r ∧ r < 8 :=
  ⟨(f : Int) / 8, (t : Int) % 8, Int.tdiv_eq_ediv_of_nonneg (by omega), Int.tmod_eq_emod_of_nonneg (by omega), by omega, by omega, by omega, by omega, by omega⟩
theorem tks_parts (P : Nat → Int) (f t : Nat) (a : Nat) (ha : atN P f t = a) : tksN P f t = if emB P a then -1 else (a : Int) := by unfold tksN; rw [ha]
set_option maxHeartbeats 4000000 in
set_option maxRecDepth 100000 in
theorem rTakes_any (P : Nat → Int) (f t k : Int) (w : World) :
    Calls Tryd.prog 13 #[.agg (pc P).toArray, .agg #[.int .i64 f, .int .i64 t, .int .i64 k]] w fun e w' => e = .returned (.int .i64 (tkP P f t k)) ∧ Below w.heap.size w w' := by
  obtain ⟨X, hX⟩ : ∃ X, X = (pc P).toArray := ⟨_, rfl⟩
  have hv := tkP_eq P f t k
  obtain ⟨V, hV⟩ : ∃ V, tkP P f t k = V := ⟨_, rfl⟩
  rw [hV] at hv
  rw [hV, ← hX]
  have HI := Lib.hid (MC.begin w P f t k X hX)
  have HX := Lib.hid hX
  have HV := Lib.hid hv
  have HBAD := Lib.hid (flt_bad P f t k)
  have hcases : (sq f = false) ∨ (sq f = true ∧ sq t = false) ∨ (sq f = true ∧ sq t = true ∧ f = t) ∨ (sq f = true ∧ sq t = true ∧ ¬ f = t ∧ ∃ a b : Nat, f = a ∧ t = b ∧ a < 64 ∧ b < 64 ∧ a ≠ b) := by
    rcases sq_cases f with ⟨_, h⟩ | ⟨_, h⟩ | ⟨a0, a1, h⟩
    · exact .inl h
    · exact .inl h
    · rcases sq_cases t with ⟨_, h2⟩ | ⟨_, h2⟩ | ⟨b0, b1, h2⟩
      · exact .inr (.inl ⟨h, h2⟩)
      · exact .inr (.inl ⟨h, h2⟩)
      · by_cases e : f = t
        · exact .inr (.inr (.inl ⟨h, h2, e⟩))
        · exact .inr (.inr (.inr ⟨h, h2, e, f.toNat, t.toNat, by omega, by omega, by omega, by omega, by omega⟩))
  have M1 := Lib.hid (fun W => rIs8_any f W)
  have M2 := Lib.hid (fun W => rIs8_any t W)
  clear hX hv hV
  go_enter Tryd.func13, Tryd.ntmps13
  go_upto_region 1 with (fail)
  refine forget_B (fun W => MC w W P f t k) HI.out ?_
  clear HI
  intro W hi
  have HI := Lib.hid hi
  clear hi
  obtain ⟨q0, q1, q2, qf, qz⟩ := row3 HI.out.m
  rcases hcases with h1 | ⟨h1, h2⟩ | ⟨h1, h2, rfl⟩ | ⟨s1, s2, hne0, fn, tn, hfn, htn, hf, ht, hne⟩
  · have HF := Lib.hid (show V = -1 by rw [HV.out, HBAD.out (by rw [h1]; rfl)]; rfl)
    rw [h1] at M1
    clear h1 HV HBAD
    go_wp2_with fail
    refine (M1.out _).mono ?_
    rintro e w1 ⟨rfl, rfl⟩
    go_wp2
    go_ret
    exact ⟨q_i HF.out.symm, HI.out.b⟩
  · have HF := Lib.hid (show V = -1 by rw [HV.out, HBAD.out (by rw [h2]; simp)]; rfl)
    rw [h1] at M1
    rw [h2] at M2
    clear h1 h2 HV HBAD
    go_wp2_with fail
    refine (M1.out _).mono ?_
    rintro e w1 ⟨rfl, rfl⟩
    go_wp2_with fail
    refine (M2.out _).mono ?_
    rintro e w1 ⟨rfl, rfl⟩
    go_wp2
    go_ret
    exact ⟨q_i HF.out.symm, HI.out.b⟩
  · have HF := Lib.hid (show V = -1 by rw [HV.out, HBAD.out (by simp)]; rfl)
    rw [h1] at M1
    clear h1 h2 HV HBAD M2
    go_wp2_with fail
    refine (M1.out _).mono ?_
    rintro e w1 ⟨rfl, rfl⟩
    go_wp2_with fail
    refine (M1.out _).mono ?_
    rintro e w1 ⟨rfl, rfl⟩
    go_wp2
    go_ret
    exact ⟨q_i HF.out.symm, HI.out.b⟩
  · rw [s1] at M1
    rw [s2] at M2
    have hne2 : (f == t) = false := beq_eq_false_iff_ne.2 hne0
    have hon := flt_on P fn tn k hf ht hne
    have hv := HV.out
    have M3 := Lib.hid (fun W => rCan_any P fn tn k hf ht W)
    have M4 := Lib.hid (fun W => rOver8_any P fn tn k hf ht W)
    obtain ⟨a, ha⟩ : ∃ a : Nat, atN P fn tn = a := ⟨_, rfl⟩
    have ha64 : a < 64 := by rw [← ha]; exact atN_lt P fn tn hf ht
    have hao : (a : Int) = if ovrB P fn tn then ((8 * (fn / 8) + tn % 8 : Nat) : Int) else (tn : Int) := by rw [← ha]; unfold atN; split <;> rfl
    obtain ⟨qd, rm, td, tm, hqr, d0, d8, r0, r8⟩ := at_int fn tn ht hf
    rw [← hqr] at hao
    rw [← hfn, ← htn] at hon
    rw [← hfn, ← htn, ← HX.out] at M3 M4
    rw [← hfn] at td
    rw [← htn] at tm hao
    rw [hon, show f.toNat = fn by omega, show t.toNat = tn by omega, tks_parts P fn tn a ha] at hv
    have hem := emB_at P a
    obtain ⟨A, hA⟩ : ∃ A : Int, (a : Int) = A := ⟨_, rfl⟩
    rw [show a = A.toNat by omega] at hem
    have HC := Lib.hid (show ∀ W, MC w W P f t k → W.cell? ⟨w.heap.size, A.toNat * 2, none⟩ = some (.int .i64 (P (A.toNat * 2))) ∧ W.cell? ⟨w.heap.size, A.toNat * 2 + 1, none⟩ = some (.int .i64 (P (A.toNat * 2 + 1))) from fun W h => ⟨h.p.cell _ (by omega), h.p.cell _ (by omega)⟩)
    rw [show emB P a = emB P A.toNat by rw [show a = A.toNat by omega]] at hv
    have a0 : (0 : Int) ≤ A := by omega
    have a1 : A < 64 := by omega
    rw [hA] at hv hao
    replace hem := hem.symm
    clear s1 s2 HV HBAD hon ha hqr hfn htn ha64 hA
    generalize emB P A.toNat = em at *
    generalize P (A.toNat * 2) = pk at *
    generalize P (A.toNat * 2 + 1) = pd at *
    generalize ovrB P fn tn = ov at *
    obtain ⟨cb, hcb⟩ : ∃ c, (ownB P fn && becB P fn tn k) = c := ⟨_, rfl⟩
    rw [hcb] at M3 hv
    have HV := Lib.hid hv
    have HAO := Lib.hid hao
    clear hcb hv hao hne hf ht a fn tn
    go_wp2_with fail
    refine (M1.out _).mono ?_
    rintro e w1 ⟨rfl, rfl⟩
    go_wp2_with fail
    refine (M2.out _).mono ?_
    rintro e w1 ⟨rfl, rfl⟩
    go_wp2_with (refine wpList_pos (by rfl) _ (by rfl) w.heap.size P X HX.out (by rfl) HI.out.p ?_)
    refine (M3.out _).mono ?_
    rintro e w1 ⟨rfl, hb1⟩
    replace HI := Lib.hid (HI.out.go hb1)
    clear q0 q1 q2 qf qz hb1 hne0 hne2
    obtain ⟨q0, q1, q2, qf, qz⟩ := row3 HI.out.m
    cases cb
    · go_wp2
      go_ret
      exact ⟨q_i (by rw [HV.out]; rfl), HI.out.b⟩
    go_wp2_with (refine wpList_pos (by rfl) _ (by rfl) w.heap.size P X HX.out (by rfl) HI.out.p ?_)
    refine (M4.out _).mono ?_
    rintro e w2 ⟨rfl, hb1⟩
    replace HI := Lib.hid (HI.out.go hb1)
    clear q0 q1 q2 qf qz hb1
    obtain ⟨q0, q1, q2, qf, qz⟩ := row3 HI.out.m
    cases ov
    · obtain rfl : A = t := HAO.out
      obtain ⟨e1, e2⟩ := HC.out _ HI.out
      cases em
      all_goals
        go_wp2
        go_ret
        exact ⟨q_i (by rw [HV.out]; rfl), HI.out.b⟩
    · have hq9 : qd * 8 + rm = A := HAO.out.symm
      obtain ⟨e1, e2⟩ := HC.out _ HI.out
      have w1 : wrap64 qd = qd := by unfold wrap64; omega
      have w2 : wrap64 (qd * 8) = qd * 8 := by unfold wrap64; omega
      obtain ⟨q8, hq8⟩ : ∃ q8, qd * 8 = q8 := ⟨_, rfl⟩
      rw [hq8] at hq9 w2
      have w3 : wrap64 A = A := by unfold wrap64; omega
      clear HAO
      cases em
      all_goals
        go_wp2
        go_ret
        exact ⟨q_i (by rw [HV.out]; rfl), HI.out.b⟩
end Go.Proofs.YtldepimkbnodpaaDoor

namespace Go.Proofs.YtldepimkbnodpaaDoor
open Go.RowKit Go.Sort
set_option linter.unusedSimpArgs false
set_option linter.unusedVariables false

/-- a position is loaded, in a walk of the text's order -/
theorem wpQuiet_pos {ops : Array Oper} {C : World → Prop} {Q : Act → Prop} {rest : List Oper} {o : Oper} {a : Act} (hw : Region.wanted o (yielded ops a.tmps) = true) (x : Operand) (ho : o.op = .load 29 x)
    (b : Nat) (P : Nat → Int) (X : Array Value) (hX : X = (pc P).toArray) (hx : a.eval x = .pointer (some ⟨b, 0, none⟩)) (hc : ∀ W, C W → PB W b P) (h : wpQuiet Tryd.prog ops C Q rest (a.put o.dst (.agg X))) : wpQuiet Tryd.prog ops C Q (o :: rest) a := by
  subst hX
  exact wpQuiet_rows (b := b) (ty := 29) (x := x) (cs := pc P) (fun W hW => (hc W hW).range) Tryd.underlying29 rfl (by rw [infoPos, pc_len]) hw ho hx h
theorem wpQuiet_bin {ops : Array Oper} {C : World → Prop} {Q : Act → Prop} {rest : List Oper} {o : Oper} {a : Act} (hw : Region.wanted o (yielded ops a.tmps) = true) (bop : BinOp) (x y : Operand) (t r : TypeId) (ho : o.op = .binOp bop t x y r)
    (v1 v2 v : Value) (hx : a.eval x = v1) (hy : a.eval y = v2) (hg : ∀ W, (eqGuard bop t x y v1 v2).run Tryd.prog W = .ok () W) (h : ∀ W, (binOp bop t v1 v2).run Tryd.prog W = .ok v W) (k : wpQuiet Tryd.prog ops C Q rest (a.put o.dst v)) : wpQuiet Tryd.prog ops C Q (o :: rest) a :=
  BigFrame.wpQuiet_want hw fun K hK => ⟨v, fun W hW => by
    unfold Oper.quietAt execOp
    simp [ho, hx, hy, hg, h]
    exact ⟨rfl, rfl⟩, hK _ k⟩
theorem yields_posC {ops : Array Oper} {S : World → Prop} {op : Oper} {a : Act} (hw : Region.wanted op (yielded ops a.tmps) = true) (x : Operand) (ho : op.op = .load 29 x)
    (b : Nat) (P : Nat → Int) (X : Array Value) (hX : X = (pc P).toArray) (hx : a.eval x = .pointer (some ⟨b, 0, none⟩)) (hS : ∀ w, S w → PB w b P) : YieldsIf Tryd.prog ops S op (.agg X) a := by
  subst hX
  exact yieldsIf_load_mid hw 29 x ho b 0 hx (pc P) _ (fun w h => (hS w h).range) Tryd.underlying29 rfl (by rw [infoPos, pc_len])
theorem yields_pieC {ops : Array Oper} {S : World → Prop} {op : Oper} {a : Act} (hw : Region.wanted op (yielded ops a.tmps) = true) (x : Operand) (ho : op.op = .load 25 x)
    (b : Nat) (k d : Int) (hx : a.eval x = .pointer (some ⟨b, 0, none⟩)) (hS : ∀ w, S w → w.heap[b]? = some (.cells #[.int .i64 k, .int .i64 d] 25 (0, 0))) : YieldsIf Tryd.prog ops S op (.agg #[.int .i64 k, .int .i64 d]) a :=
  yieldsIf_load_mid hw 25 x ho b 0 hx [.int .i64 k, .int .i64 d] _ (fun w h j v hv => by
    obtain ⟨q1, q2, _, _⟩ := row2 (hS w h)
    rcases j with _ | _ | j
    · simpa using q1.trans (by simpa using hv)
    · simpa using q2.trans (by simpa using hv)
    · simp at hv) Tryd.underlying25 rfl (by rw [infoPie]; rfl)
end Go.Proofs.YtldepimkbnodpaaDoor
