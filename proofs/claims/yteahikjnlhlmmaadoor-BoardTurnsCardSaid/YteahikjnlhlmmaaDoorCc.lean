/-
  The walk of BoardTurns.
-/
import Derived.Test.YteahikjnlhlmmaaDoorCb
namespace Go.Proofs.YteahikjnlhlmmaaDoor
open Go.RowKit Go.Sort
set_option linter.unusedSimpArgs false
set_option linter.unusedVariables false

theorem wpQuiet_bin {ops : Array Oper} {C : World → Prop} {Q : Act → Prop} {rest : List Oper} {o : Oper} {a : Act} (hw : Region.wanted o (yielded ops a.tmps) = true) (bop : BinOp) (x y : Operand) (t r : TypeId) (ho : o.op = .binOp bop t x y r)
    (v1 v2 v : Value) (hx : a.eval x = v1) (hy : a.eval y = v2) (hg : ∀ W, (eqGuard bop t x y v1 v2).run Tryd.prog W = .ok () W) (h : ∀ W, (binOp bop t v1 v2).run Tryd.prog W = .ok v W) (k : wpQuiet Tryd.prog ops C Q rest (a.put o.dst v)) : wpQuiet Tryd.prog ops C Q (o :: rest) a :=
  BigFrame.wpQuiet_want hw fun K hK => ⟨v, fun W hW => by
    unfold Oper.quietAt execOp
    simp [ho, hx, hy, hg, h]
    exact ⟨rfl, rfl⟩, hK _ k⟩
theorem yields_posC {ops : Array Oper} {S : World → Prop} {op : Oper} {a : Act} (hw : Region.wanted op (yielded ops a.tmps) = true) (x : Operand) (ho : op.op = .load 29 x)
    (b : Nat) (P : Nat → Int) (X : Array Value) (hX : X = (pc P).toArray) (hx : a.eval x = .pointer (some ⟨b, 0, none⟩)) (hS : ∀ w, S w → PB w b P) : YieldsIf Tryd.prog ops S op (.agg X) a := by
  subst hX
  exact yieldsIf_load_mid hw 29 x ho b 0 hx (pc P) _ (fun w h => (hS w h).range) Tryd.underlying29 rfl (by rw [infoPos, pc_len])
theorem yields_pieC {ops : Array Oper} {S : World → Prop} {op : Oper} {a : Act} (hw : Region.wanted op (yielded ops a.tmps) = true) (x : Operand) (ho : op.op = .load 25 x)
    (b : Nat) (k d : Int) (hx : a.eval x = .pointer (some ⟨b, 0, none⟩)) (hS : ∀ w, S w → w.heap[b]? = some (.cells #[.int .i64 k, .int .i64 d] 25 (0, 0))) : YieldsIf Tryd.prog ops S op (.agg #[.int .i64 k, .int .i64 d]) a :=
  yieldsIf_load_mid hw 25 x ho b 0 hx [.int .i64 k, .int .i64 d] _ (fun w h j v hv => by
    obtain ⟨q1, q2, _, _⟩ := row2 (hS w h)
    rcases j with _ | _ | j
    · simpa using q1.trans (by simpa using hv)
    · simpa using q2.trans (by simpa using hv)
    · simp at hv) Tryd.underlying25 rfl (by rw [infoPieB]; rfl)
/-- what stands in BoardTurns ahead of the squares found -/
structure TU (B : Nat) (w W : World) (P : Nat → Int) : Prop where
  p : PB W w.heap.size P
  b : Below w.heap.size w W
  g : GB B W
theorem TU.go {B : Nat} {w W W' : World} {P : Nat → Int} (hB : B ≤ w.heap.size) (h : TU B w W P) (g : Below W.heap.size W W') : TU B w W' P :=
  ⟨h.p.go g, h.b.trans (g.mono h.b.size), h.g.below (g.mono (Nat.le_trans hB h.b.size))⟩
/-- .. with the position turned, and the two pieces -/
structure TV (B : Nat) (w W : World) (b8 b9 : Nat) (P Q : Nat → Int) (k d e : Int) : Prop where
  u : TU B w W P
  q : PB W b8 Q
  x : W.heap[b9]? = some (.cells #[.int .i64 k, .int .i64 d] 25 (0, 0))
  y : W.heap[b9 + 1]? = some (.cells #[.int .i64 k, .int .i64 e] 25 (0, 0))
theorem TV.go {B : Nat} {w W W' : World} {b8 b9 : Nat} {P Q : Nat → Int} {k d e : Int} (hB : B ≤ w.heap.size) (h : TV B w W b8 b9 P Q k d e) (g : Below W.heap.size W W') : TV B w W' b8 b9 P Q k d e :=
  ⟨h.u.go hB g, h.q.go g, sl_go h.x g, sl_go h.y g⟩
theorem TV.begin {B : Nat} {w w6 : World} {b8 : Nat} {P Q : Nat → Int} (k d : Int) (hB : B ≤ w.heap.size) (hu : TU B w w6 P) (hq : PB w6 b8 Q) :
    TV B w ((w6.alloc (.cells #[.int .i64 k, .int .i64 d] 25)).alloc (.cells #[.int .i64 k, .int .i64 d] 25)) b8 w6.heap.size P Q k d d := by
  obtain ⟨a1, a2, a3, a4⟩ := two_at w6 (.cells #[.int .i64 k, .int .i64 d] 25) (.cells #[.int .i64 k, .int .i64 d] 25)
  exact ⟨hu.go hB a3, hq.go a3, a1, a2⟩
theorem TV.side {B : Nat} {w W : World} {b8 b9 : Nat} {P Q : Nat → Int} {k d e : Int} (e' : Int) (hB : B ≤ w.heap.size) (h8 : b8 < b9) (h9 : w.heap.size < b9) (h : TV B w W b8 b9 P Q k d e) : TV B w (W.setCell ⟨b9 + 1, 1, none⟩ (.int .i64 e')) b8 b9 P Q k d e' :=
  ⟨⟨h.u.p.other (by omega) _ _, h.u.b.setCell (p := ⟨b9 + 1, 1, none⟩) (by simp; omega) _, h.u.g.below ((Below.refl B W).setCell (p := ⟨b9 + 1, 1, none⟩) (by simp; omega) _)⟩,
    h.q.other (by omega) _ _, (Go.heap_setCell_other _ _ _ _ (by simp)).trans h.x, Go.heap_setCell_same W (b9 + 1) 1 _ _ (.int .i64 e') h.y⟩
set_option maxHeartbeats 8000000 in
set_option maxRecDepth 100000 in
theorem turns_walk6 (P : Nat → Int) (a1 a2 : Int) (w : World) (B : Nat) (hg : GB B w) (hB : B ≤ w.heap.size) :
    Calls Tryd.prog 5 #[.agg (pc P).toArray, .int .i64 a1, .int .i64 a2] w fun e w' => e = .returned (.bool true) ∧ Below w.heap.size w w' := by
  obtain ⟨kk, hkk⟩ : ∃ k, 1 + a1 % 6 = k := ⟨_, rfl⟩
  obtain ⟨dd, hdd⟩ : ∃ d, a2 % 2 = d := ⟨_, rfl⟩
  have hk1 : 1 ≤ kk := by omega
  have hd2 : dd = 0 ∨ dd = 1 := by omega
  have PK1 := Lib.hid (pick6_any a1)
  have PK2 := Lib.hid (pick2_any a2)
  rw [hdd] at PK2
  have h6 : 0 ≤ a1 % 6 ∧ a1 % 6 < 6 := by omega
  obtain ⟨k6, hk6⟩ : ∃ k, a1 % 6 = k := ⟨_, rfl⟩
  rw [hk6] at PK1 hkk h6
  obtain ⟨h60, h61⟩ := h6
  obtain ⟨X, hX⟩ : ∃ X, X = (pc P).toArray := ⟨_, rfl⟩
  obtain ⟨T, hT⟩ : ∃ T, T = (pc (turnN P)).toArray := ⟨_, rfl⟩
  have MR := Lib.hid (fun W h1 h2 => right_any P W B h1 h2)
  have MS := Lib.hid (fun W h1 h2 => right_any (turnN P) W B h1 h2)
  have MT := Lib.hid (turn_any P)
  have MU := Lib.hid (turn_any (turnN P))
  have MF := Lib.hid (find_any P kk dd)
  have MG := Lib.hid (find_any (turnN P) kk (oth dd))
  have NX := Lib.hid (show ∀ W, (binOp .neq 29 (.agg X) (.agg X)).run Tryd.prog W = .ok (.bool false) W from fun W => by rw [hX, neq_pos, posEq_self]; rfl)
  have XX := Lib.hid (show Fit P → (P 128 = 0 ∨ P 128 = 1) → (pc (turnN (turnN P))).toArray = X from fun h1 h2 => by rw [hX, pc_congr (turn_twice P h1 h2)])
  rw [← hT] at MS MT MU MG
  rw [← hX] at MR MT MF ⊢
  have HX := Lib.hid hX
  have HT := Lib.hid hT
  have HD2 := Lib.hid hd2
  have HK1 := Lib.hid hk1
  have HU0 := Lib.hid (show TU B w (w.alloc (.cells X 29)) P from ⟨by rw [hX]; exact PB.new rfl, below_new _, hg.below ((below_new (w := w) (.cells X 29)).mono hB)⟩)
  have HGO := Lib.hid (fun W W' => TU.go (W := W) (W' := W') (P := P) hB)
  clear hX hT hdd hk6 hg hd2 hk1
  go_enter Tryd.func5, Tryd.ntmps5
  go_upto_region 1 with (fail)
  refine forget_B (fun W => TU B w W P) HU0.out ?_
  clear HU0
  intro W hu
  have HU := Lib.hid hu
  clear hu
  go_wp2_with fail
  refine (awakeB_any _ B HU.out.g (Nat.le_trans hB HU.out.b.size)).mono ?_
  rintro e w1 ⟨rfl, hb⟩
  replace HU := Lib.hid (HGO.out _ _ HU.out hb)
  clear hb
  go_wp2
  go_loopw [7] (fun i wr => ∃ j : Nat, j ≤ 64 ∧ i = .int .i64 (j : Int) ∧ TU B w wr P ∧ ∀ s, s < j → pe (P (2 * s)) (P (2 * s + 1)) 0 0 = true ∨ mayB (P (2 * s)) (P (2 * s + 1)) = true) (fun i _ => 64 - (intOf i).toNat)
  case atStart => exact ⟨0, Nat.zero_le _, rfl, HU.out, fun s hs => by omega⟩
  case round =>
    clear HU
    obtain ⟨j, hj, rfl, h1, h2⟩ := hrel
    have HU := Lib.hid h1
    have HF := Lib.hid h2
    clear h1 h2
    by_cases hlt : j < 64
    · have e1 := HU.out.p.cell (j * 2) (by omega)
      have e2 := HU.out.p.cell (j * 2 + 1) (by omega)
      have hstep : (pe (P (2 * j)) (P (2 * j + 1)) 0 0 = true ∨ mayB (P (2 * j)) (P (2 * j + 1)) = true) → ∀ s, s < j + 1 → pe (P (2 * s)) (P (2 * s + 1)) 0 0 = true ∨ mayB (P (2 * s)) (P (2 * s + 1)) = true := fun h s hs => by
        rcases Nat.lt_succ_iff_lt_or_eq.1 hs with h' | rfl
        · exact HF.out s h'
        · exact h
      have hnr := not_right P j hlt
      rw [Nat.mul_comm 2 j] at hstep hnr
      obtain ⟨k, hk⟩ : ∃ k, P (j * 2) = k := ⟨_, rfl⟩
      obtain ⟨d, hd⟩ : ∃ d, P (j * 2 + 1) = d := ⟨_, rfl⟩
      rw [hk] at e1
      rw [hd] at e2
      rw [hk, hd] at hstep hnr
      clear hk hd
      obtain ⟨a, ha⟩ : ∃ a, pe k d 0 0 = a := ⟨_, rfl⟩
      obtain ⟨m, hm⟩ : ∃ m, mayB k d = m := ⟨_, rfl⟩
      rw [ha, hm] at hstep hnr
      have HST := Lib.hid hstep
      have HNR := Lib.hid hnr
      have HM := Lib.hid hm
      clear hstep hnr hm
      cases a
      · go_wp2_with fail
        refine (rMay_any k d _).mono ?_
        rw [HM.out]
        rintro e w2 ⟨rfl, hb⟩
        replace HU := Lib.hid (HGO.out _ _ HU.out hb)
        clear hb e1 e2
        cases m
        · have HRF := Lib.hid (HNR.out (by trivial) (by trivial))
          go_wp2_with (refine wpList_pos (by rfl) _ (by rfl) w.heap.size P X HX.out (by rfl) HU.out.p ?_)
          refine (MR.out _ HU.out.g (Nat.le_trans hB HU.out.b.size)).mono ?_
          rw [HRF.out]
          rintro e w3 ⟨rfl, hb⟩
          go_wp2
          go_ret
          exact ⟨rfl, HU.out.b.trans (hb.mono HU.out.b.size)⟩
        · have HS2 := Lib.hid (HST.out (.inr rfl))
          go_wp2
          go_roundw
          case rel => exact ⟨j + 1, by omega, by go_num, HU.out, HS2.out⟩
          case measure => simp [intOf]; omega
      · have HS2 := Lib.hid (HST.out (.inl rfl))
        go_wp2
        go_roundw
        case rel => exact ⟨j + 1, by omega, by go_num, HU.out, HS2.out⟩
        case measure => simp [intOf]; omega
    · obtain rfl : j = 64 := by omega
      have e3 := HU.out.p.cell 128 (by omega)
      obtain ⟨sd, hsd⟩ : ∃ s, P 128 = s := ⟨_, rfl⟩
      rw [hsd] at e3 XX
      have HSD := Lib.hid hsd
      clear hsd
      have hsc : (sd = 0 ∨ sd = 1) ∨ ((sd != 0) = true ∧ (sd != 1) = true ∧ sideB sd = false) := by
        rcases side_cases sd with ⟨h, _⟩ | ⟨h, _⟩ | ⟨h1, h2, h3⟩
        · exact .inl (.inl h)
        · exact .inl (.inr h)
        · refine .inr ⟨?_, ?_, h3⟩
          · simpa using h1
          · simpa using h2
      rcases hsc with hs01 | ⟨h1, h2, h3⟩
      · have HS01 := Lib.hid hs01
        have HFIT := Lib.hid (show Fit P from HF.out)
        have HXX := Lib.hid (XX.out HFIT.out hs01)
        rw [HXX.out] at MU
        have hrt := right_turn P HFIT.out (by rw [HSD.out]; exact hs01)
        rw [hrt] at MS
        obtain ⟨rb, hrb⟩ : ∃ b, rightB P = b := ⟨_, rfl⟩
        rw [hrb] at MS MR
        clear hrt hrb HF XX
        have hll := fnd_turn P HFIT.out kk dd HK1.out HD2.out
        have hri := fnd_rising P kk dd 64
        have hacr := fnd_across P HFIT.out kk dd HK1.out HD2.out
        have hel : ∀ i, i < (fnd P kk dd 64).length → ∃ s : Nat, s < 64 ∧ (fnd P kk dd 64).getD i 0 = (s : Int) ∧ among (fnd (turnN P) kk (oth dd) 64) ((mir s : Nat) : Int) (fnd P kk dd 64).length = true := fun i hi => by
          have hg : (fnd P kk dd 64).getD i 0 = (fnd P kk dd 64)[i] := by simp [List.getD, hi]
          have hin : (fnd P kk dd 64)[i] ∈ fnd P kk dd 64 := List.getElem_mem hi
          obtain ⟨s, hs, e, _⟩ := (fnd_mem P kk dd 64 _).1 hin
          obtain ⟨_, h2⟩ := hacr s (by rw [← e]; exact hin)
          exact ⟨s, hs, by rw [hg, e], by rw [← hll]; exact among_mem _ _ h2⟩
        have hfl := fnd_len P kk dd 64
        obtain ⟨L, hL⟩ : ∃ L, fnd P kk dd 64 = L := ⟨_, rfl⟩
        obtain ⟨L2, hL2⟩ : ∃ L, fnd (turnN P) kk (oth dd) 64 = L := ⟨_, rfl⟩
        rw [hL] at MF hll hri hel hfl
        rw [hL2] at MG hll hel
        have HLL := Lib.hid hll
        have HRI := Lib.hid hri
        have HEL := Lib.hid hel
        clear hll hri hacr hel hL hL2
        rcases hs01 with rfl | rfl
        all_goals
          go_wp2_with (first | refine wpList_new T (turnN P) HT.out (by rfl) (by rfl) ?_ | refine wpList_pos (by rfl) _ (by rfl) w.heap.size P X HX.out (by rfl) HU.out.p ?_)
          refine (MT.out _).mono ?_
          rintro e w4 ⟨rfl, hb⟩
          replace HU := Lib.hid (HGO.out _ _ HU.out hb)
          clear hb e3
          go_wp2_with (refine wpList_new T (turnN P) HT.out (by rfl) (by rfl) ?_)
          intro w5 hq hb hz
          replace HU := Lib.hid (HGO.out _ _ HU.out hb)
          have H8 := Lib.hid hq
          generalize w4.heap.size = b8 at H8 ⊢
          clear hb hq hz
          go_upto_region 11 with (fail)
          have s1 := cell_regrown (HU.out.p.cell 128 (by omega))
          have s2 := cell_regrown (H8.out.cell 128 (by omega))
          rw [HSD.out] at s1
          rw [(turnN_parts P).1, HSD.out] at s2
          have c1 := regrown_call (w := w5) MU.out
          have c2 : ∀ d os, Calls Tryd.prog 12 #[.agg T] (grow (redrawn w5 d) os) fun e w'' => e = .returned (.bool rb) ∧ ∃ p : Regrown, w'' = grow (redrawn w5 p.d) p.os := fun d os =>
            Calls.regrown_of (MS.out _ (HU.out.g.below ((below_regrown w5 d os).mono (Nat.le_trans hB HU.out.b.size))) (Nat.le_trans (Nat.le_trans hB HU.out.b.size) (below_regrown w5 d os).size))
          have c3 : ∀ d os, Calls Tryd.prog 12 #[.agg X] (grow (redrawn w5 d) os) fun e w'' => e = .returned (.bool rb) ∧ ∃ p : Regrown, w'' = grow (redrawn w5 p.d) p.os := fun d os =>
            Calls.regrown_of (MR.out _ (HU.out.g.below ((below_regrown w5 d os).mono (Nat.le_trans hB HU.out.b.size))) (Nat.le_trans (Nat.le_trans hB HU.out.b.size) (below_regrown w5 d os).size))
          have c4 := fun s => regrown_same (w := w5) (other_any s)
          have HC8 := Lib.hid H8.out.regrown
          have HCP := Lib.hid HU.out.p.regrown
          refine wp_region_quiet_below (by kernel_rfl) (by kernel_rfl) ?_
          refine wpQuiet_pos (by rfl) _ (by rfl) b8 _ T HT.out (by rfl) HC8.out ?_
          try simp only [Act.put, List.setIfInBounds_toArray, List.set_cons_zero, List.set_cons_succ]
          go_big_quiet_step (exact c1 _ _)
          refine wpQuiet_pos (by rfl) _ (by rfl) w.heap.size P X HX.out (by rfl) HCP.out ?_
          try simp only [Act.put, List.setIfInBounds_toArray, List.set_cons_zero, List.set_cons_succ]
          refine wpQuiet_bin (by rfl) _ _ _ _ _ (by rfl) (.agg X) (.agg X) (.bool false) (by rfl) (by rfl) (fun W => by go_simp) NX.out ?_
          try simp only [Act.put, List.setIfInBounds_toArray, List.set_cons_zero, List.set_cons_succ]
          go_big_quiet_step (fail)
          refine wpQuiet_pos (by rfl) _ (by rfl) b8 _ T HT.out (by rfl) HC8.out ?_
          try simp only [Act.put, List.setIfInBounds_toArray, List.set_cons_zero, List.set_cons_succ]
          go_big_quiet_step (exact c2 _ _)
          refine wpQuiet_pos (by rfl) _ (by rfl) w.heap.size P X HX.out (by rfl) HCP.out ?_
          try simp only [Act.put, List.setIfInBounds_toArray, List.set_cons_zero, List.set_cons_succ]
          go_big_quiet_step (exact c3 _ _)
          repeat (go_big_quiet_step (exact c4 _ _ _))
          refine wpQuiet_nil ?_
          rintro w6 ⟨q, rfl⟩
          have b4 := below_regrown w5 q.d q.os
          replace HU := Lib.hid (HGO.out _ _ HU.out b4)
          replace H8 := Lib.hid (H8.out.go b4)
          clear b4 c1 c2 c3 c4 s1 s2 HC8 HCP
          generalize grow (redrawn w5 q.d) q.os = w6 at HU H8 ⊢
          go_wp2_with fail
          refine (PK1.out _).mono ?_
          rintro e w7 ⟨rfl, rfl⟩
          go_wp2_with fail
          refine (PK2.out _).mono ?_
          rintro e w7 ⟨rfl, rfl⟩
          go_upto_region 15 with (fail)
          have HVB := Lib.hid (TV.begin kk dd hB HU.out H8.out)
          have hlt8 := H8.out.lt
          have hltp := HU.out.p.lt
          clear HU H8
          generalize w6.heap.size = b9 at HVB hlt8 hltp ⊢
          refine forget_B (fun W => TV B w W b8 b9 P (turnN P) kk dd dd) HVB.out ?_
          clear HVB
          intro w7 hv
          obtain ⟨q1, q2, qf, qz⟩ := row2 hv.x
          obtain ⟨r1, r2, rf, rz⟩ := row2 hv.y
          have HV := Lib.hid hv
          clear hv
          go_wp2_with fail
          refine (other_any dd _).mono ?_
          rintro e w8 ⟨rfl, rfl⟩
          go_upto_region 16 with (fail)
          refine forget_B (fun W => TV B w W b8 b9 P (turnN P) kk dd (oth dd)) (TV.side (oth dd) hB hlt8 hltp HV.out) ?_
          clear HV q1 q2 qf qz r1 r2 rf rz hlt8 hltp
          intro w9 hv
          have HV := Lib.hid hv
          clear hv
          have HVG := Lib.hid (fun W W' => TV.go (W := W) (W' := W') (b8 := b8) (b9 := b9) (P := P) (Q := turnN P) (k := kk) (d := dd) (e := oth dd) hB)
          refine wp_region_noPanic ?_
          refine wp_region_start (n := 8) (l := #[false, false, false, false, false, false, false, false]) (S := (fun W => TV B w W b8 b9 P (turnN P) kk dd (oth dd))) (by kernel_rfl) rfl (by kernel_rfl) (by first | exact HV.out | exact HVG.out _ _ HV.out (Below.refl _ _).drew) (fun hHeld => ?_)
          replace HV := Lib.hid (HVG.out _ _ HV.out (Below.refl w9.heap.size w9).drew)
          generalize w9.drew = V0 at hHeld HV ⊢
          refine take_to (i := 0) (d := some 82) (v := (.agg X)) (l' := #[true, false, false, false, false, false, false, false]) rfl rfl (by kernel_rfl) (by kernel_rfl) (by kernel_rfl) (by kernel_rfl) (fun _ _ _ h => h) ?_ (by assumption) ?_
          · exact yields_posC (by rfl) _ (by rfl) w.heap.size P X HX.out (by rfl) (fun W h => h.u.p)
          try simp only [Act.put, List.setIfInBounds_toArray, List.set_cons_zero, List.set_cons_succ]
          refine take_to (i := 1) (d := some 83) (v := (.agg #[.int .i64 kk, .int .i64 dd])) (l' := #[true, true, false, false, false, false, false, false]) rfl rfl (by kernel_rfl) (by kernel_rfl) (by kernel_rfl) (by kernel_rfl) (fun _ _ _ h => h) ?_ (by assumption) ?_
          · exact yields_pieC (by rfl) _ (by rfl) b9 kk dd (by rfl) (fun W h => h.x)
          try simp only [Act.put, List.setIfInBounds_toArray, List.set_cons_zero, List.set_cons_succ]
          refine take_to (i := 3) (d := some 85) (v := (.agg T)) (l' := #[true, true, false, true, false, false, false, false]) rfl rfl (by kernel_rfl) (by kernel_rfl) (by kernel_rfl) (by kernel_rfl) (fun _ _ _ h => h) ?_ (by assumption) ?_
          · exact yields_posC (by rfl) _ (by rfl) b8 (turnN P) T HT.out (by rfl) (fun W h => h.q)
          try simp only [Act.put, List.setIfInBounds_toArray, List.set_cons_zero, List.set_cons_succ]
          refine take_to (i := 4) (d := some 86) (v := (.agg #[.int .i64 kk, .int .i64 (oth dd)])) (l' := #[true, true, false, true, true, false, false, false]) rfl rfl (by kernel_rfl) (by kernel_rfl) (by kernel_rfl) (by kernel_rfl) (fun _ _ _ h => h) ?_ (by assumption) ?_
          · exact yields_pieC (by rfl) _ (by rfl) (b9 + 1) kk (oth dd) (by rfl) (fun W h => h.y)
          try simp only [Act.put, List.setIfInBounds_toArray, List.set_cons_zero, List.set_cons_succ]
          refine one_to (i := 2) (l' := #[true, true, true, true, true, false, false, false]) rfl (by kernel_rfl) (by kernel_rfl) (fun K hK => ?_)
          go_simp
          refine (MF.out _).mono ?_
          rintro e A ⟨vA, rfl, hb, hown⟩
          rw [ivals_range] at hown
          obtain ⟨pA, cA, rfl, hrA, _⟩ := sq_reads hown
          have HRA := Lib.hid hrA
          replace HV := Lib.hid (HVG.out _ _ HV.out hb)
          clear hb hown hrA
          dsimp only
          refine hK.out _ _ (by first | exact HV.out | exact HVG.out _ _ HV.out (Below.refl _ _).drew) (fun hHeld => ?_)
          clear hK K
          try simp only [Act.put, List.setIfInBounds_toArray, List.set_cons_zero, List.set_cons_succ]
          refine one_to (i := 5) (l' := #[true, true, true, true, true, true, false, false]) rfl (by kernel_rfl) (by kernel_rfl) (fun K hK => ?_)
          go_simp
          refine (MG.out _).mono ?_
          rintro e E ⟨vE, rfl, hb, hown⟩
          rw [ivals_range] at hown
          obtain ⟨pE, cE, rfl, hrE, _⟩ := sq_reads hown
          have HRE := Lib.hid hrE
          replace HRA := Lib.hid ((HRA.out.below hb).mono hb.size)
          replace HV := Lib.hid (HVG.out _ _ HV.out hb)
          clear hb hown hrE
          dsimp only
          refine hK.out _ _ (by first | exact HV.out | exact HVG.out _ _ HV.out (Below.refl _ _).drew) (fun hHeld => ?_)
          clear hK K
          try simp only [Act.put, List.setIfInBounds_toArray, List.set_cons_zero, List.set_cons_succ]
          refine take_to (i := 6) (d := some 11) (v := ?_) (l' := #[true, true, true, true, true, true, true, false]) rfl rfl (by kernel_rfl) (by kernel_rfl) (by kernel_rfl) (by kernel_rfl) (fun _ _ _ h => h) (Or.inl ⟨by rfl, ?_⟩) (by assumption) ?_; rotate_left; · (intro w' hSw; (try dsimp only at hSw); go_simp; (try with_reducible rfl))
          try simp only [Act.put, List.setIfInBounds_toArray, List.set_cons_zero, List.set_cons_succ]
          refine take_to (i := 7) (d := some 12) (v := ?_) (l' := #[true, true, true, true, true, true, true, true]) rfl rfl (by kernel_rfl) (by kernel_rfl) (by kernel_rfl) (by kernel_rfl) (fun _ _ _ h => h) (Or.inl ⟨by rfl, ?_⟩) (by assumption) ?_; rotate_left; · (intro w' hSw; (try dsimp only at hSw); go_simp; (try with_reducible rfl))
          try simp only [Act.put, List.setIfInBounds_toArray, List.set_cons_zero, List.set_cons_succ]
          refine wpAnyH_done (by kernel_rfl) ?_ _
          refine NoPanic.normal ?_
          clear hHeld
          rw [HLL.out] at HRE ⊢
          go_wp2
          go_loopw [13] (fun t wr => ∃ i : Nat, i ≤ L.length ∧ t = .int .i64 (i : Int) ∧ Below w.heap.size w wr ∧ Reads wr.heap.size wr pA L.length (fun i => .int .i64 (L.getD i 0)) ∧ Reads wr.heap.size wr pE L.length (fun i => .int .i64 (L2.getD i 0))) (fun t _ => L.length - (intOf t).toNat)
          case atStart => exact ⟨0, Nat.zero_le _, rfl, HV.out.u.b, HRA.out, HRE.out⟩
          case round =>
            clear HV HRA HRE
            obtain ⟨i, hi, rfl, h1, h2, h3⟩ := hrel
            have HB := Lib.hid h1
            have HRA := Lib.hid h2
            have HRE := Lib.hid h3
            clear h1 h2 h3
            by_cases hlt : i < L.length
            · obtain ⟨s, hs64, hxs, hmem⟩ := HEL.out i hlt
              obtain ⟨hq, hr, hz, ha8, hb8⟩ := mir_parts s hs64
              have HAM := Lib.hid hmem
              have HXS := Lib.hid hxs
              have hm64 := mir_lt s hs64
              clear hmem hxs
              obtain ⟨m, hmm⟩ : ∃ m, mir s = m := ⟨_, rfl⟩
              rw [hmm] at hz HAM hm64
              clear hmm
              obtain ⟨a8, ha⟩ : ∃ a, s / 8 = a := ⟨_, rfl⟩
              obtain ⟨b8', hb⟩ : ∃ a, s % 8 = a := ⟨_, rfl⟩
              have hq2 : (s : Int) / 8 = (a8 : Int) := by omega
              have hr2 : (s : Int) % 8 = (b8' : Int) := by omega
              rw [ha] at hq hz ha8
              rw [hb] at hr hz hb8
              clear ha hb
              have w1 := wrap_sq a8 (by omega)
              have w2 := wrap_sq b8' (by omega)
              have w3 : IntKind.i64.wrap (7 - (a8 : Int)) = 7 - a8 := IntWalk.i64_in _ (by omega)
              have w4 : IntKind.i64.wrap (8 * (7 - (a8 : Int))) = 8 * (7 - a8) := IntWalk.i64_in _ (by omega)
              have w5 := wrap_sq m hm64
              go_wp2
              go_loopw [14, 15] (fun t k wr2 => ∃ l : Nat, l ≤ L.length ∧ k = .int .i64 (l : Int) ∧ t = .bool (among L2 (m : Int) l) ∧ Below wr.heap.size wr wr2) (fun _ k _ => L.length - (intOf k).toNat)
              case atStart => exact ⟨0, Nat.zero_le _, rfl, rfl, Below.refl _ _⟩
              case round =>
                obtain ⟨l, hl, rfl, rfl, h1⟩ := hrel
                have HB2 := Lib.hid h1
                clear h1
                by_cases hlt2 : l < L.length
                · rcases HRA.out.below HB2.out with h0 | ⟨b, off, rfl, hbb, hc⟩
                  · omega
                  rcases HRE.out.below HB2.out with h0 | ⟨b', off', rfl, hbb', hc'⟩
                  · omega
                  have e1 : wr.cell? ⟨b, off + i, none⟩ = some (.int .i64 (L.getD i 0)) := hc i hlt
                  have e2 : wr.cell? ⟨b', off' + l, none⟩ = some (.int .i64 (L2.getD l 0)) := hc' l hlt2
                  rw [HXS.out] at e1
                  have hst : among L2 (m : Int) (l + 1) = (among L2 (m : Int) l || (L2.getD l 0 == (m : Int))) := rfl
                  have HST := Lib.hid hst
                  clear hst hc hc'
                  generalize L2.getD l 0 = y at e2 HST
                  obtain ⟨am, ham⟩ : ∃ a, among L2 (m : Int) l = a := ⟨_, rfl⟩
                  rw [ham] at HST ⊢
                  clear ham
                  have k1 := cell_regrown e1
                  have k2 := cell_regrown e2
                  clear e1 e2
                  have n0 : (0 : Int) ≤ l := by omega
                  have n1 : (l : Int) < (L.length : Int) := by omega
                  have n2 : (0 : Int) ≤ i := by omega
                  have n3 : (i : Int) < (L.length : Int) := by omega
                  cases am
                  all_goals
                    go_upto_region 26 with (fail)
                    refine wp_region_quiet_below (by kernel_rfl) (by kernel_rfl) ?_
                    repeat (first | go_big_quiet_step (fail) | quiet_step (fail))
                    refine wpQuiet_nil ?_
                    rintro W4 ⟨q, rfl⟩
                    go_wp2
                    go_roundw
                    case rel => exact ⟨l + 1, by omega, by go_num, by rw [HST.out]; first | rfl | simp, HB2.out.trans ((below_regrown wr q.d q.os).mono HB2.out.size)⟩
                    case measure => simp [intOf]; omega
                · obtain rfl : l = L.length := by omega
                  rw [HAM.out]
                  replace HB := Lib.hid (HB.out.trans (HB2.out.mono HB.out.size))
                  replace HRA := Lib.hid ((HRA.out.below HB2.out).mono HB2.out.size)
                  replace HRE := Lib.hid ((HRE.out.below HB2.out).mono HB2.out.size)
                  clear HB2 w1 w2 w3 w4 w5 hq hr hz hq2 hr2 ha8 hb8
                  have n2 : (0 : Int) ≤ i := by omega
                  have n3 : (i : Int) < (L.length : Int) := by omega
                  by_cases hi0 : i = 0
                  · subst hi0
                    have np : ¬ (0 : Int) < ((0 : Nat) : Int) := by omega
                    go_upto_region 27 with (fail)
                    refine wp_region_quiet_below (by kernel_rfl) (by kernel_rfl) ?_
                    repeat (first | go_big_quiet_step (fail) | quiet_step (fail))
                    refine wpQuiet_nil ?_
                    rintro W4 ⟨q, rfl⟩
                    have b4 := below_regrown wr q.d q.os
                    have HB4 := Lib.hid (HB.out.trans (b4.mono HB.out.size))
                    have HRA4 := Lib.hid ((HRA.out.below b4).mono b4.size)
                    have HRE4 := Lib.hid ((HRE.out.below b4).mono b4.size)
                    clear b4
                    go_wp2
                    go_roundw
                    case rel => exact ⟨1, by omega, by go_num, HB4.out, HRA4.out, HRE4.out⟩
                    case measure => simp [intOf]; omega
                  · obtain ⟨i0, hi0⟩ : ∃ i0, i = i0 + 1 := ⟨i - 1, by omega⟩
                    have z1 : (i : Int) - 1 = (i0 : Int) := by omega
                    have z2 : IntKind.i64.wrap (i0 : Int) = (i0 : Int) := IntWalk.i64_in _ (by omega)
                    have np : (0 : Int) < (i : Int) := by omega
                    have np2 : 0 < i := by omega
                    have n4 : (0 : Int) ≤ i0 := by omega
                    have n5 : (i0 : Int) < (L.length : Int) := by omega
                    have hx0 : L.getD i0 0 < (s : Int) := by
                      rw [← HXS.out]
                      have := (List.pairwise_iff_getElem.1 HRI.out) i0 i (by omega) hlt (by omega)
                      simpa [List.getD, hlt, show i0 < L.length by omega] using this
                    rcases HRA.out with h0 | ⟨b, off, rfl, hbb, hc⟩
                    · omega
                    have e1 : wr.cell? ⟨b, off + i, none⟩ = some (.int .i64 (L.getD i 0)) := hc i hlt
                    have e2 : wr.cell? ⟨b, off + i0, none⟩ = some (.int .i64 (L.getD i0 0)) := hc i0 (by omega)
                    rw [HXS.out] at e1
                    clear hc
                    generalize L.getD i0 0 = x0 at e2 hx0
                    have k1 := cell_regrown e1
                    have k2 := cell_regrown e2
                    have hx1 : ¬ (s : Int) ≤ x0 := by omega
                    clear e1 e2 hi0
                    go_upto_region 27 with (fail)
                    refine wp_region_quiet_below (by kernel_rfl) (by kernel_rfl) ?_
                    repeat (first | go_big_quiet_step (fail) | quiet_step (fail))
                    refine wpQuiet_nil ?_
                    rintro W4 ⟨q, rfl⟩
                    have b4 := below_regrown wr q.d q.os
                    have HB4 := Lib.hid (HB.out.trans (b4.mono HB.out.size))
                    have HRA4 := Lib.hid ((HRA.out.below b4).mono b4.size)
                    have HRE4 := Lib.hid ((HRE.out.below b4).mono b4.size)
                    clear b4 k1 k2
                    go_wp2
                    go_roundw
                    case rel => exact ⟨i + 1, by omega, by go_num, HB4.out, HRA4.out, HRE4.out⟩
                    case measure => simp [intOf]; omega
            · obtain rfl : i = L.length := by omega
              go_wp2
              go_ret
              exact ⟨rfl, HB.out⟩
      · have HRF := Lib.hid (not_right2 P (by rw [HSD.out]; exact h3))
        go_wp2_with (refine wpList_pos (by rfl) _ (by rfl) w.heap.size P X HX.out (by rfl) HU.out.p ?_)
        refine (MR.out _ HU.out.g (Nat.le_trans hB HU.out.b.size)).mono ?_
        rw [HRF.out]
        rintro e w3 ⟨rfl, hb⟩
        go_wp2
        go_ret
        exact ⟨rfl, HU.out.b.trans (hb.mono HU.out.b.size)⟩
end Go.Proofs.YteahikjnlhlmmaaDoor
