/-
  Merged: Pi, Pj, Nb, Ml, Na, Cb, Qa, Qb, Qc, Qd, Qe, Qf, Mm.
-/
import Derived.Test.YtkncfeijlmomaaaGreatDoorPh
import Derived.Test.YtkncfeijlmomaaaGreatDoorG1
import Derived.Laws.OwnMore
import Derived.Lib.AppendZeros
import Derived.Test.YtkncfeijlmomaaaGreatDoorG13
import Derived.Test.YtkncfeijlmomaaaGreatDoorG3
import Derived.Test.YtkncfeijlmomaaaGreatDoorG5
import Derived.Test.YtkncfeijlmomaaaGreatDoorG11
import Derived.Sort.QuietIn
import Derived.Test.YtkncfeijlmomaaaGreatDoorG4
import Derived.Test.YtkncfeijlmomaaaGreatDoorG15

namespace Go.Proofs.YtkncfeijlmomaaaGreatDoor
open Go.RowKit Go.Sort
set_option linter.unusedSimpArgs false
set_option linter.unusedVariables false
set_option maxRecDepth 20000

/-- a hand is laid into a block of its own, in a region that does not draw -/
theorem wpList_newH {ops : Array Oper} {rest : List Oper} {d : Tmp} {y : Operand} {t1 t2 : TypeId} {p1 p2 : String} {e1 e2 : Array Edge} {a : Act} {w : World} {Q : Exit → Act → World → Prop}
    (E : Array Value) (P : Nat → Int) (hE : E = (pc P).toArray) (hx : (a.put (some d) (.pointer (some ⟨w.heap.size, 0, none⟩))).eval (.tmp d) = .pointer (some ⟨w.heap.size, 0, none⟩)) (hy : (a.put (some d) (.pointer (some ⟨w.heap.size, 0, none⟩))).eval y = .agg E)
    (k : ∀ W, PB W w.heap.size P → Below w.heap.size w W → W.heap.size = w.heap.size + 1 → wpList Tryz.prog ops Q rest (a.put (some d) (.pointer (some ⟨w.heap.size, 0, none⟩))) W) :
    wpList Tryz.prog ops Q ({ dst := some d, op := .alloc 172, type := t1, pos := p1, after := e1, guard := none } :: { dst := none, op := .store 172 (.tmp d) y, type := t2, pos := p2, after := e2, guard := none } :: rest) a w := by
  subst hE
  refine wpList_plain rfl (fun K hK => ?_)
  go_simp
  refine hK _ _ ?_
  clear hK K
  have hpn : PB (w.alloc (.cells Tryz.zeroCells172 172)) w.heap.size (fun _ => 0) := by rw [zeroHand]; exact PB.new rfl
  refine wpList_store_mid rfl 172 _ _ rfl w.heap.size 0 (pc P).toArray hx hy (by rw [pc_size]; exact hpn.there) (by rw [infoHand, pc_size]) (pc_one P) ?_
  rw [List.toList_toArray]
  exact k _ (hpn.store (Q := P)) (below_store (b := w.heap.size) P (below_new _) (Nat.le_refl _) (by simp)) (by rw [sizes_B]; simp)
/-- the position behind a move -/
def mvP (P : Nat → Int) (f t k : Int) : Nat → Int := if fltN (handP P) f t k = 0 then cmN (handP P) f.toNat t.toNat k else fun _ => 0
theorem flt_cases (P : Nat → Int) (f t k : Int) : (fltN P f t k = 6 ∨ fltN P f t k = 8) ∨ (fltN P f t k = 0 ∧ ∃ a b : Nat, f = a ∧ t = b ∧ a < 64 ∧ b < 64) := by
  unfold fltN
  by_cases h : (!sq f || !sq t || f == t) = true
  · rw [if_pos h]; exact .inl (.inl rfl)
  · rw [if_neg h]
    split
    · refine .inr ⟨rfl, f.toNat, t.toNat, ?_⟩
      simp only [Bool.or_eq_true, Bool.not_eq_true', not_or, Bool.not_eq_false] at h
      have h1 := (sq_iff f).1 h.1.1
      have h2 := (sq_iff t).1 h.1.2
      omega
    · exact .inl (.inr rfl)
/-- what stands in Move, ahead of the hand -/
structure MA (w W : World) (P : Nat → Int) (f t k : Int) : Prop where
  p : PB W w.heap.size P
  m : W.heap[w.heap.size + 1]? = some (.cells #[.int .i64 f, .int .i64 t, .int .i64 k] 46 (0, 0))
  z : PB W (w.heap.size + 2) (fun _ => 0)
  b : Below w.heap.size w W
  s : w.heap.size + 3 ≤ W.heap.size
theorem MA.go {w W W' : World} {P : Nat → Int} {f t k : Int} (h : MA w W P f t k) (g : Below W.heap.size W W') : MA w W' P f t k :=
  ⟨h.p.go g, sl_go h.m g, h.z.go g, h.b.trans (g.mono h.b.size), Nat.le_trans h.s g.size⟩
theorem MA.begin (w : World) (P : Nat → Int) (f t k : Int) (X : Array Value) (hX : X = (pc P).toArray) :
    MA w (((w.alloc (.cells X 29)).alloc (.cells #[.int .i64 f, .int .i64 t, .int .i64 k] 46)).alloc (.cells Tryz.zeroCells29 29)) P f t k := by
  obtain ⟨a1, a2, a3, a4, a5⟩ := three_at w (.cells X 29) (.cells #[.int .i64 f, .int .i64 t, .int .i64 k] 46) (.cells Tryz.zeroCells29 29)
  rw [zeroPos] at *
  exact ⟨PB.of_block (by rw [hX] at a1 ⊢; exact a1), a2, PB.of_block a3, a4, by rw [a5]; exact Nat.le_refl _⟩
/-- .. with the hand -/
structure MB' (w W : World) (P : Nat → Int) (f t k : Int) (hb : Nat) (Q : Nat → Int) : Prop where
  a : MA w W P f t k
  h : PB W hb Q
  l : w.heap.size + 3 ≤ hb
theorem MB'.go {w W W' : World} {P : Nat → Int} {f t k : Int} {hb : Nat} {Q : Nat → Int} (h : MB' w W P f t k hb Q) (g : Below W.heap.size W W') : MB' w W' P f t k hb Q := ⟨h.a.go g, h.h.go g, h.l⟩
theorem MB'.turn {w W W' : World} {P : Nat → Int} {f t k : Int} {hb : Nat} {Q Q' : Nat → Int} (h : MB' w W P f t k hb Q) (g : HG W W' hb Q') : MB' w W' P f t k hb Q' := by
  have hl := h.l
  exact ⟨⟨h.a.p.gr g.g (by intro e; injection e; omega), gr_at g.g h.a.m (by intro e; injection e; omega), h.a.z.gr g.g (by intro e; injection e; omega), h.a.b.grown g.g h.a.b.size (by rintro i ⟨⟩; omega), Nat.le_trans h.a.s g.g.size⟩, g.q, hl⟩
theorem MA.stored {w W : World} {P Q : Nat → Int} {f t k : Int} (h : MA w W P f t k) : (W.setCells (w.heap.size + 2) 0 (pc Q)).rangeAt (w.heap.size + 2) 0 (pc Q) ∧ Below w.heap.size w (W.setCells (w.heap.size + 2) 0 (pc Q)) :=
  ⟨(h.z.store (Q := Q)).range, below_store (b := w.heap.size + 2) Q h.b (by omega) h.b.size⟩
set_option maxHeartbeats 4000000 in
set_option maxRecDepth 100000 in
theorem move_any (P : Nat → Int) (f t k : Int) (w : World) (B : Nat) (hg : GP B w) (hB : B ≤ w.heap.size) :
    Calls Tryz.prog 137 #[.agg (pc P).toArray, .agg #[.int .i64 f, .int .i64 t, .int .i64 k]] w fun e w' => e = .returned (.tuple #[.agg (pc (mvP P f t k)).toArray, .int .i64 (fltN (handP P) f t k)]) ∧ Below w.heap.size w w' := by
  obtain ⟨X, hX⟩ : ∃ X, X = (pc P).toArray := ⟨_, rfl⟩
  obtain ⟨Y, hY⟩ : ∃ Y, Y = (pc (handP P)).toArray := ⟨_, rfl⟩
  have M1 := Lib.hid (fun W => handOf_any P W)
  rw [← hY, ← hX] at M1
  rw [← hX]
  have hres : ∀ (F : Int), fltN (handP P) f t k = F → mvP P f t k = if F = 0 then cmN (handP P) f.toNat t.toNat k else fun _ => 0 := fun F h => by unfold mvP; rw [h]
  obtain ⟨Z, hZ⟩ : ∃ Z, Z = (pc (mvP P f t k)).toArray := ⟨_, rfl⟩
  rw [← hZ]
  have HI := Lib.hid (MA.begin w P f t k X hX)
  have M2 := Lib.hid (fun b W h => fault_any b (handP P) f t k W h)
  have hfc := flt_cases (handP P) f t k
  obtain ⟨F, hF⟩ : ∃ F, fltN (handP P) f t k = F := ⟨_, rfl⟩
  have hR := hres F hF
  rw [hR] at hZ
  rw [hF] at hfc M2 ⊢
  have HX := Lib.hid hX
  have HY := Lib.hid hY
  have HZ := Lib.hid hZ
  have HGG := Lib.hid hg
  clear hX hY hZ hg hres hR hF
  generalize handP P = H at *
  go_enter Tryz.func137, Tryz.ntmps137
  go_upto_region 1 with (fail)
  refine forget_B (fun W => MA w W P f t k) HI.out ?_
  clear HI
  intro W hi
  have HI := Lib.hid hi
  clear hi
  go_wp2_with (first | refine wpList_newH Y H HY.out (by rfl) (by rfl) ?_ | refine wpList_pos (by rfl) _ (by rfl) w.heap.size P X HX.out (by rfl) HI.out.p ?_)
  refine (M1.out _).mono ?_
  rintro e w1 ⟨rfl, hb1⟩
  replace HI := Lib.hid (HI.out.go hb1)
  clear hb1
  go_wp2_with (first | refine wpList_newH Y H HY.out (by rfl) (by rfl) ?_ | fail)
  intro w2 hq hb hz
  have HI2 := Lib.hid (show MB' w w2 P f t k w1.heap.size H from ⟨HI.out.go hb, hq, HI.out.s⟩)
  clear hb hq hz HI
  generalize w1.heap.size = hb at HI2 ⊢
  obtain ⟨q0, q1, q2, qf, qz⟩ := row3 HI2.out.a.m
  go_wp2_with fail
  refine (M2.out _ _ HI2.out.h).mono ?_
  rintro e w3 ⟨rfl, hb1⟩
  replace HI2 := Lib.hid (HI2.out.go hb1)
  clear q0 q1 q2 qf qz hb1
  obtain ⟨q0, q1, q2, qf, qz⟩ := row3 HI2.out.a.m
  rcases hfc with hF | ⟨rfl, fn, tn, rfl, rfl, hf, ht⟩
  · have hF0 : (F != 0) = true := by rcases hF with rfl | rfl <;> rfl
    have hF1 : ¬ F = 0 := by rcases hF with rfl | rfl <;> omega
    rw [if_neg hF1] at HZ
    clear hF hF1
    go_upto_region 4 with (fail)
    refine wp_region_lit ?_
    refine wpList_plain rfl (fun K hK => ?_)
    go_simp
    refine hK _ _ ?_
    clear hK K
    refine wpList_plain rfl (fun K hK => ?_)
    go_simp
    refine hK _ _ ?_
    clear hK K
    refine wpList_store_mid rfl 29 _ _ rfl (w.heap.size + 2) 0 (pc fun _ => 0).toArray rfl (congrArg Value.agg zeroPos) (by rw [pc_size]; exact HI2.out.a.z.there) (by rw [infoPos, pc_size]) (pc_one _) ?_
    rw [List.toList_toArray]
    obtain ⟨hr1, hb1⟩ := HI2.out.a.stored (Q := fun _ => 0)
    have HR := Lib.hid hr1
    have HB := Lib.hid hb1
    clear hr1 hb1 HI2 q0 q1 q2 qf qz
    generalize w3.setCells (w.heap.size + 2) 0 (pc fun _ => 0) = W8 at HR HB ⊢
    refine wpList_plain rfl (fun K hK => ?_)
    go_simp
    refine hK _ _ ?_
    clear hK K
    show Exit.then _ _ Exit.normal _ _
    refine ret_go (by assumption) ?_
    repeat (first | refine then_ret ?_ | refine block_ret ?_)
    refine bodyPost_ret (v := .tuple #[.agg (pc fun _ => 0).toArray, .int .i64 F]) ?_ rfl ⟨by rw [HZ.out], HB.out⟩
    exact results_mid2 (p := 4) (u := 5) (ty := 29) rfl _ W8 (w.heap.size + 2) _ _ _ rfl rfl HR.out Tryz.underlying29 rfl (by rw [infoPos, pc_len])
  · rw [if_pos rfl, Int.toNat_natCast, Int.toNat_natCast] at HZ
    go_wp2_with fail
    refine (carryOut_any hb H fn tn k hf ht _ HI2.out.h B (HGG.out.below (HI2.out.a.b.mono hB)) (Nat.le_trans hB HI2.out.a.b.size) (by have := HI2.out.l; omega)).mono ?_
    rintro e w4 ⟨rfl, hg1⟩
    replace HI2 := Lib.hid (HI2.out.turn hg1)
    clear q0 q1 q2 qf qz hg1 M1 M2
    generalize cmN H fn tn k = R at *
    go_upto_region 6 with (fail)
    refine wp_region_lit ?_
    refine wpList_plain rfl (fun K hK => ?_)
    go_simp
    refine hK _ _ ?_
    clear hK K
    refine wpList_pos (by rfl) _ (by rfl) hb R Z HZ.out (by rfl) HI2.out.h ?_
    refine wpList_store_mid rfl 29 _ _ rfl (w.heap.size + 2) 0 Z rfl rfl (by rw [HZ.out, pc_size]; exact HI2.out.a.z.there) (by rw [infoPos, HZ.out, pc_size]) (by rw [HZ.out]; exact pc_one _) ?_
    refine forgetL_B (fun W => W.rangeAt (w.heap.size + 2) 0 (pc R) ∧ Below w.heap.size w W) (by rw [HZ.out, List.toList_toArray]; exact HI2.out.a.stored (Q := R)) ?_
    rintro W8 ⟨hr1, hb1⟩
    have HR := Lib.hid hr1
    have HB := Lib.hid hb1
    clear hr1 hb1 HI2
    refine wpList_plain rfl (fun K hK => ?_)
    go_simp
    refine hK _ _ ?_
    clear hK K
    show Exit.then _ _ Exit.normal _ _
    refine ret_go (by assumption) ?_
    repeat (first | refine then_ret ?_ | refine block_ret ?_)
    refine bodyPost_ret (v := .tuple #[.agg (pc R).toArray, .int .i64 0]) ?_ rfl ⟨by rw [HZ.out], HB.out⟩
    exact results_mid2 (p := 4) (u := 5) (ty := 29) rfl _ W8 (w.heap.size + 2) _ _ _ rfl rfl HR.out Tryz.underlying29 rfl (by rw [infoPos, pc_len])
/-- where a move takes -/
def tkP (P : Nat → Int) (f t k : Int) : Int := if fltN (handP P) f t k = 0 then tksN (handP P) f.toNat t.toNat else -1
/-- what stands in Takes -/
structure MC (w W : World) (P : Nat → Int) (f t k : Int) : Prop where
  p : PB W w.heap.size P
  m : W.heap[w.heap.size + 1]? = some (.cells #[.int .i64 f, .int .i64 t, .int .i64 k] 46 (0, 0))
  b : Below w.heap.size w W
theorem MC.go {w W W' : World} {P : Nat → Int} {f t k : Int} (h : MC w W P f t k) (g : Below W.heap.size W W') : MC w W' P f t k := ⟨h.p.go g, sl_go h.m g, h.b.trans (g.mono h.b.size)⟩
theorem MC.begin (w : World) (P : Nat → Int) (f t k : Int) (X : Array Value) (hX : X = (pc P).toArray) :
    MC w ((w.alloc (.cells X 29)).alloc (.cells #[.int .i64 f, .int .i64 t, .int .i64 k] 46)) P f t k := by
  obtain ⟨a1, a2, a3, a4⟩ := two_at w (.cells X 29) (.cells #[.int .i64 f, .int .i64 t, .int .i64 k] 46)
  exact ⟨PB.of_block (by rw [hX] at a1 ⊢; exact a1), a2, a3⟩
set_option maxHeartbeats 4000000 in
set_option maxRecDepth 100000 in
theorem takesP_any (P : Nat → Int) (f t k : Int) (w : World) :
    Calls Tryz.prog 179 #[.agg (pc P).toArray, .agg #[.int .i64 f, .int .i64 t, .int .i64 k]] w fun e w' => e = .returned (.int .i64 (tkP P f t k)) ∧ Below w.heap.size w w' := by
  obtain ⟨X, hX⟩ : ∃ X, X = (pc P).toArray := ⟨_, rfl⟩
  obtain ⟨Y, hY⟩ : ∃ Y, Y = (pc (handP P)).toArray := ⟨_, rfl⟩
  have M1 := Lib.hid (fun W => handOf_any P W)
  rw [← hY, ← hX] at M1
  rw [← hX]
  have hres : ∀ (F : Int), fltN (handP P) f t k = F → tkP P f t k = if F = 0 then tksN (handP P) f.toNat t.toNat else -1 := fun F h => by unfold tkP; rw [h]
  have HI := Lib.hid (MC.begin w P f t k X hX)
  have M2 := Lib.hid (fun b W h => fault_any b (handP P) f t k W h)
  have hfc := flt_cases (handP P) f t k
  obtain ⟨F, hF⟩ : ∃ F, fltN (handP P) f t k = F := ⟨_, rfl⟩
  have hR := hres F hF
  obtain ⟨T, hT⟩ : ∃ T, tkP P f t k = T := ⟨_, rfl⟩
  rw [hT] at hR ⊢
  have HR := Lib.hid hR
  rw [hF] at hfc M2
  have HX := Lib.hid hX
  have HY := Lib.hid hY
  clear hX hY hres hR hF hT
  generalize handP P = H at *
  go_enter Tryz.func179, Tryz.ntmps179
  go_upto_region 1 with (fail)
  refine forget_B (fun W => MC w W P f t k) HI.out ?_
  clear HI
  intro W hi
  have HI := Lib.hid hi
  clear hi
  go_wp2_with (first | refine wpList_newH Y H HY.out (by rfl) (by rfl) ?_ | refine wpList_pos (by rfl) _ (by rfl) w.heap.size P X HX.out (by rfl) HI.out.p ?_)
  refine (M1.out _).mono ?_
  rintro e w1 ⟨rfl, hb1⟩
  replace HI := Lib.hid (HI.out.go hb1)
  clear hb1
  go_wp2_with (first | refine wpList_newH Y H HY.out (by rfl) (by rfl) ?_ | fail)
  intro w2 hq hb hz
  replace HI := Lib.hid (HI.out.go hb)
  have HH := Lib.hid hq
  clear hb hq hz
  generalize w1.heap.size = hb at HH ⊢
  obtain ⟨q0, q1, q2, qf, qz⟩ := row3 HI.out.m
  go_wp2_with fail
  refine (M2.out _ _ HH.out).mono ?_
  rintro e w3 ⟨rfl, hb1⟩
  replace HI := Lib.hid (HI.out.go hb1)
  replace HH := Lib.hid (HH.out.go hb1)
  clear q0 q1 q2 qf qz hb1
  obtain ⟨q0, q1, q2, qf, qz⟩ := row3 HI.out.m
  rcases hfc with hF | ⟨rfl, fn, tn, rfl, rfl, hf, ht⟩
  · have hF0 : (F != 0) = true := by rcases hF with rfl | rfl <;> rfl
    have hF1 : ¬ F = 0 := by rcases hF with rfl | rfl <;> omega
    have HT := Lib.hid (show T = -1 by rw [HR.out, if_neg hF1])
    clear hF hF1
    go_wp2
    go_ret
    exact ⟨q_i HT.out.symm, HI.out.b⟩
  · have HT := Lib.hid (show T = tksN H fn tn by rw [HR.out, if_pos rfl, Int.toNat_natCast, Int.toNat_natCast])
    go_wp2_with fail
    refine (takes_any hb H fn tn k hf ht _ HH.out).mono ?_
    rintro e w4 ⟨rfl, hb1⟩
    replace HI := Lib.hid (HI.out.go hb1)
    go_wp2
    go_ret
    exact ⟨q_i HT.out.symm, HI.out.b⟩
end Go.Proofs.YtkncfeijlmomaaaGreatDoor

namespace Go.Proofs.YtkncfeijlmomaaaGreatDoor
open Go.RowKit Go.Sort
set_option linter.unusedSimpArgs false
set_option linter.unusedVariables false
set_option maxRecDepth 20000

theorem list_go {P : Program} {ops : Array Oper} {Q : Exit → Act → World → Prop} {rest : List Oper} {K : Act → World → Prop} {a : Act} {w : World} (h : ∀ a w, wpList P ops Q rest a w → K a w) (hq : wpList P ops Q rest a w) : K a w := h _ _ hq
/-- a row of moves -/
def Reads3 (B : Nat) (w : World) (p : Option Addr) (n : Nat) (F T K : Nat → Int) : Prop :=
  n = 0 ∨ ∃ b off, p = some ⟨b, off, none⟩ ∧ b < B ∧ ∀ i, i < n → w.cell? ⟨b, off + i * 3, none⟩ = some (.int .i64 (F i)) ∧ w.cell? ⟨b, off + i * 3 + 1, none⟩ = some (.int .i64 (T i)) ∧ w.cell? ⟨b, off + i * 3 + 2, none⟩ = some (.int .i64 (K i))
theorem Reads3.below {B : Nat} {w w' : World} {p : Option Addr} {n : Nat} {F T K : Nat → Int} (h : Reads3 B w p n F T K) (hb : Below B w w') : Reads3 B w' p n F T K := by
  rcases h with h | ⟨b, off, h1, h2, h3⟩
  · exact .inl h
  · exact .inr ⟨b, off, h1, h2, fun i hi => ⟨(hb.cell (p := ⟨b, off + i * 3, none⟩) h2).trans (h3 i hi).1, (hb.cell (p := ⟨b, off + i * 3 + 1, none⟩) h2).trans (h3 i hi).2.1, (hb.cell (p := ⟨b, off + i * 3 + 2, none⟩) h2).trans (h3 i hi).2.2⟩⟩
theorem Reads3.mono {B B' : Nat} {w : World} {p : Option Addr} {n : Nat} {F T K : Nat → Int} (h : Reads3 B w p n F T K) (hB : B ≤ B') : Reads3 B' w p n F T K := by
  rcases h with h | ⟨b, off, h1, h2, h3⟩
  · exact .inl h
  · exact .inr ⟨b, off, h1, Nat.lt_of_lt_of_le h2 hB, h3⟩
theorem Reads3.take {B : Nat} {w : World} {p : Option Addr} {n m : Nat} {F T K : Nat → Int} (h : Reads3 B w p n F T K) (hm : m ≤ n) : Reads3 B w p m F T K := by
  rcases h with h | ⟨b, off, h1, h2, h3⟩
  · exact .inl (by omega)
  · exact .inr ⟨b, off, h1, h2, fun i hi => h3 i (by omega)⟩
theorem Reads3.addr {B : Nat} {w : World} {p : Option Addr} {n : Nat} {F T K : Nat → Int} (h : Reads3 B w p n F T K) {i : Nat} (hi : i < n) : ∃ b o, p = some ⟨b, o, none⟩ := by
  rcases h with h | ⟨b, o, h1, _⟩
  · omega
  · exact ⟨b, o, h1⟩
theorem Reads3.cells {B : Nat} {w : World} {b o n : Nat} {F T K : Nat → Int} (h : Reads3 B w (some ⟨b, o, none⟩) n F T K) {i : Nat} (hi : i < n) :
    w.cell? ⟨b, o + i * 3, none⟩ = some (.int .i64 (F i)) ∧ w.cell? ⟨b, o + i * 3 + 1, none⟩ = some (.int .i64 (T i)) ∧ w.cell? ⟨b, o + i * 3 + 2, none⟩ = some (.int .i64 (K i)) := by
  rcases h with h | ⟨b', o', h1, _, h3⟩
  · omega
  · injection h1 with h1; injection h1 with h1 h2; subst h1; subst h2; exact h3 i hi
/-- what stands in Moves -/
structure MS (w W : World) (Q : Nat → Int) (B : Nat) (p : Option Addr) (n : Nat) (F T K : Nat → Int) : Prop where
  q : PB W w.heap.size Q
  z : PB W (w.heap.size + 1) (fun _ => 0)
  b : Below w.heap.size w W
  r : Reads3 B W p n F T K
  s : w.heap.size + 2 ≤ W.heap.size
theorem MS.go {w W W' : World} {Q : Nat → Int} {B : Nat} {p : Option Addr} {n : Nat} {F T K : Nat → Int} (hB : B ≤ w.heap.size) (h : MS w W Q B p n F T K) (g : Below W.heap.size W W') : MS w W' Q B p n F T K :=
  ⟨h.q.go g, h.z.go g, h.b.trans (g.mono h.b.size), h.r.below (g.mono (Nat.le_trans hB h.b.size)), Nat.le_trans h.s g.size⟩
theorem MS.store {w W : World} {Q : Nat → Int} {B : Nat} {p : Option Addr} {n : Nat} {F T K : Nat → Int} (hB : B ≤ w.heap.size) (h : MS w W Q B p n F T K) (R : Nat → Int) : MS w (W.setCells w.heap.size 0 (pc R)) R B p n F T K :=
  ⟨h.q.store, h.z.others (by omega) 0 _, below_store (b := w.heap.size) R h.b (Nat.le_refl _) h.b.size, h.r.below (below_store (b := w.heap.size) R (Below.refl B W) hB (Nat.le_trans hB h.b.size)), by rw [sizes_B]; exact h.s⟩
theorem MS.stored {w W : World} {Q : Nat → Int} {B : Nat} {p : Option Addr} {n : Nat} {F T K : Nat → Int} (h : MS w W Q B p n F T K) (R : Nat → Int) : (W.setCells (w.heap.size + 1) 0 (pc R)).rangeAt (w.heap.size + 1) 0 (pc R) ∧ Below w.heap.size w (W.setCells (w.heap.size + 1) 0 (pc R)) :=
  ⟨(h.z.store (Q := R)).range, below_store (b := w.heap.size + 1) R h.b (by omega) h.b.size⟩
theorem MS.begin (w : World) (P : Nat → Int) (X : Array Value) (hX : X = (pc P).toArray) {B : Nat} {p : Option Addr} {n : Nat} {F T K : Nat → Int} (hB : B ≤ w.heap.size) (hr : Reads3 B w p n F T K) :
    MS w ((w.alloc (.cells X 29)).alloc (.cells Tryz.zeroCells29 29)) P B p n F T K := by
  obtain ⟨a1, a2, a3, a4⟩ := two_at w (.cells X 29) (.cells Tryz.zeroCells29 29)
  rw [zeroPos] at *
  exact ⟨PB.of_block (by rw [hX] at a1 ⊢; exact a1), PB.of_block a2, a3, hr.below (a3.mono hB), by rw [a4]; exact Nat.le_refl _⟩
end Go.Proofs.YtkncfeijlmomaaaGreatDoor

namespace Go.Proofs.YtkncfeijlmomaaaGreatDoor
open Go.RowKit Go.Sort
set_option linter.unusedSimpArgs false
set_option linter.unusedVariables false
set_option maxRecDepth 20000

/-- == on moves -/
theorem equal_mv (a b c a' b' c' : Int) (n : Nat) (w : World) : (Op.equalIn (n + 2) 46 (mvV a b c) (mvV a' b' c')).run Tryz.prog w = .ok (a == a' && b == b' && c == c') w := by
  unfold mvV
  rw [run_equalIn_agg w (n + 1) 46 _ _ (by kernel_rfl) (by kernel_rfl)]
  have hf : (Tryz.prog.fieldsOf 46).toList.map (fun f => (f.name, f.type, f.offset)) = [("From", 3, 0), ("To", 3, 1), ("Becomes", 22, 2)] := by kernel_rfl
  generalize (Tryz.prog.fieldsOf 46).toList = fs at hf ⊢
  · obtain ⟨f, fs, rfl, hf1, hf⟩ := List.map_eq_cons_iff.1 hf
    obtain ⟨g, fs, rfl, hf2, hf⟩ := List.map_eq_cons_iff.1 hf
    obtain ⟨h, fs, rfl, hf3, hf⟩ := List.map_eq_cons_iff.1 hf
    obtain rfl := List.map_eq_nil_iff.1 hf
    simp only [Prod.mk.injEq] at hf1 hf2 hf3
    obtain ⟨n1, t1, o1⟩ := hf1
    obtain ⟨n2, t2, o2⟩ := hf2
    obtain ⟨n3, t3, o3⟩ := hf3
    have p1 : ∀ a b c : Int, (part 3 #[.int .i64 a, .int .i64 b, .int .i64 c] 0).run Tryz.prog w = .ok (.int .i64 a) w := fun a b c => by
      simp [part, isAgg, run_underlying Tryz.underlying3]
    have p2 : ∀ a b c : Int, (part 3 #[.int .i64 a, .int .i64 b, .int .i64 c] 1).run Tryz.prog w = .ok (.int .i64 b) w := fun a b c => by
      simp [part, isAgg, run_underlying Tryz.underlying3]
    have p3 : ∀ a b c : Int, (part 22 #[.int .i64 a, .int .i64 b, .int .i64 c] 2).run Tryz.prog w = .ok (.int .i64 c) w := fun a b c => by
      simp [part, isAgg, run_underlying Tryz.underlying22]
    have e1 : ∀ a b : Int, (Op.equalIn (n + 1) 3 (.int .i64 a) (.int .i64 b)).run Tryz.prog w = .ok (a == b) w := fun a b => run_equalIn_int w n 3 .i64 .i64 a b Tryz.underlying3
    have e3 : ∀ a b : Int, (Op.equalIn (n + 1) 22 (.int .i64 a) (.int .i64 b)).run Tryz.prog w = .ok (a == b) w := fun a b => run_equalIn_int w n 22 .i64 .i64 a b Tryz.underlying22
    have n1' : f.name ≠ "_" := by rw [n1]; decide
    have n2' : g.name ≠ "_" := by rw [n2]; decide
    have n3' : h.name ≠ "_" := by rw [n3]; decide
    simp only [Op.eqFields, Sem.run_bind, Sem.run_ite, n1', n2', n3', ne_eq, not_false_eq_true, if_true, t1, t2, t3, o1, o2, o3, p1, p2, p3, e1, e3, Result.andThen_ok]
    cases a == a' <;> cases b == b' <;> cases c == c' <;> simp
end Go.Proofs.YtkncfeijlmomaaaGreatDoor

namespace Go.Proofs.YtkncfeijlmomaaaGreatDoor
open Go.RowKit Go.Sort
set_option linter.unusedSimpArgs false
set_option linter.unusedVariables false
set_option maxRecDepth 20000

def mF (l : List (Int × Int × Int)) (i : Nat) : Int := (l.getD i (0, 0, 0)).1
def mT (l : List (Int × Int × Int)) (i : Nat) : Int := (l.getD i (0, 0, 0)).2.1
def mK (l : List (Int × Int × Int)) (i : Nat) : Int := (l.getD i (0, 0, 0)).2.2
theorem mvals_get (l : List (Int × Int × Int)) : ∀ i, i < l.length → (mvals l)[i * 3]? = some (.int .i64 (mF l i)) ∧ (mvals l)[i * 3 + 1]? = some (.int .i64 (mT l i)) ∧ (mvals l)[i * 3 + 2]? = some (.int .i64 (mK l i)) := by
  induction l with
  | nil => intro i hi; simp at hi
  | cons a l ih =>
    intro i hi
    have e : mvals (a :: l) = .int .i64 a.1 :: .int .i64 a.2.1 :: .int .i64 a.2.2 :: mvals l := rfl
    cases i with
    | zero => rw [e]; exact ⟨rfl, rfl, rfl⟩
    | succ i =>
      have h := ih i (by simpa using hi)
      rw [e, show (i + 1) * 3 = i * 3 + 1 + 1 + 1 by omega]
      simp only [List.getElem?_cons_succ]
      exact h
theorem reads3_own {w : World} {base : Nat} {v : Value} {l : List (Int × Int × Int)} (h : w.ownsRow base 46 3 v l.length (mvals l)) :
    ∃ p c, v = .slice p l.length c ∧ Reads3 w.heap.size w p l.length (mF l) (mT l) (mK l) := by
  rcases h.2 with ⟨rfl, h0⟩ | ⟨g, cap, cur, rfl, hb, hg, hnc, hcm, hcs, ht⟩
  · exact ⟨none, 0, by rw [h0], .inl h0⟩
  · refine ⟨_, _, rfl, .inr ⟨g, 0, rfl, (Array.getElem?_eq_some_iff.1 hg).1, fun i hi => ?_⟩⟩
    have key : ∀ j u, j < l.length * 3 → (mvals l)[j]? = some u → w.cell? ⟨g, 0 + j, none⟩ = some u := by
      intro j u hj hu
      rw [cell_of_row w g (0 + j) cur _ (0, 0) hg, Nat.zero_add]
      rw [← ht, List.getElem?_take_of_lt hj] at hu
      simpa using hu
    obtain ⟨h1, h2, h3⟩ := mvals_get l i hi
    exact ⟨key _ _ (by omega) h1, by rw [Nat.add_assoc]; exact key _ _ (by omega) h2, by rw [Nat.add_assoc]; exact key _ _ (by omega) h3⟩
end Go.Proofs.YtkncfeijlmomaaaGreatDoor

namespace Go.Proofs.YtkncfeijlmomaaaGreatDoor
open Go.RowKit
set_option linter.unusedSimpArgs false
set_option linter.unusedVariables false
set_option maxRecDepth 20000

end Go.Proofs.YtkncfeijlmomaaaGreatDoor

namespace Go.Proofs.YtkncfeijlmomaaaGreatDoor
open Go.RowKit Go.Sort
set_option linter.unusedSimpArgs false
set_option linter.unusedVariables false

/-- on each square stands none, or a piece that may be -/
def Fit (P : Nat → Int) : Prop := ∀ s, s < 64 → pe (P (2 * s)) (P (2 * s + 1)) 0 0 = true ∨ mayB (P (2 * s)) (P (2 * s + 1)) = true
theorem may_parts (k d : Int) (h : mayB k d = true) : 1 ≤ k ∧ k ≤ 6 ∧ (d = 0 ∨ d = 1) := by
  unfold mayB sideB at h
  simp only [Bool.and_eq_true, Bool.or_eq_true, beq_iff_eq, decide_eq_true_eq] at h
  exact ⟨h.1.1, h.1.2, h.2⟩
theorem oth_side {d : Int} (h : d = 0 ∨ d = 1) : (oth d = 0 ∨ oth d = 1) ∧ oth (oth d) = d ∧ oth d ≠ d := by
  rcases h with h | h <;> subst h <;> decide
theorem not_right (P : Nat → Int) (s : Nat) (hs : s < 64) (h0 : pe (P (2 * s)) (P (2 * s + 1)) 0 0 = false) (h1 : mayB (P (2 * s)) (P (2 * s + 1)) = false) : rightB P = false := by
  have hb : badP P s = true := by unfold badP; rw [h0, h1]; rfl
  rw [rightB_eq]; unfold piecesB; rw [okS_false P hs hb]; rfl
theorem not_right2 (P : Nat → Int) (h : sideB (P 128) = false) : rightB P = false := by
  rw [rightB_eq]; unfold piecesB; rw [h]; simp
end Go.Proofs.YtkncfeijlmomaaaGreatDoor

namespace Go.Proofs.YtkncfeijlmomaaaGreatDoor
open Go.RowKit
set_option linter.unusedSimpArgs false
set_option linter.unusedVariables false
set_option maxRecDepth 20000

end Go.Proofs.YtkncfeijlmomaaaGreatDoor

namespace Go.Proofs.YtkncfeijlmomaaaGreatDoor
open Go.RowKit
set_option linter.unusedSimpArgs false
set_option linter.unusedVariables false
set_option maxRecDepth 20000

theorem setN_at (P : Nat → Int) (i : Nat) (x : Int) : setN P i x i = x := by unfold setN; rw [if_pos rfl]
theorem setN_off (P : Nat → Int) (i j : Nat) (x : Int) (h : j ≠ i) : setN P i x j = P j := by unfold setN; rw [if_neg h]
theorem ptN_k (P : Nat → Int) (m s : Nat) (k d : Int) : ptN P m k d (2 * s) = if s = m then k else P (2 * s) := by
  unfold ptN
  rw [setN_off _ _ _ _ (by omega)]
  unfold setN
  by_cases h : s = m
  · rw [if_pos (by omega), if_pos h]
  · rw [if_neg (by omega), if_neg h]
theorem ptN_d (P : Nat → Int) (m s : Nat) (k d : Int) : ptN P m k d (2 * s + 1) = if s = m then d else P (2 * s + 1) := by
  unfold ptN
  by_cases h : s = m
  · rw [if_pos h, h, setN_at]
  · rw [if_neg h, setN_off _ _ _ _ (by omega), setN_off _ _ _ _ (by omega)]
theorem ptN_end (P : Nat → Int) (m i : Nat) (k d : Int) (hm : m < 64) (hi : 128 ≤ i) : ptN P m k d i = P i := by
  unfold ptN
  rw [setN_off _ _ _ _ (by omega), setN_off _ _ _ _ (by omega)]
end Go.Proofs.YtkncfeijlmomaaaGreatDoor

namespace Go.Proofs.YtkncfeijlmomaaaGreatDoor
open Go.RowKit
set_option linter.unusedSimpArgs false
set_option linter.unusedVariables false
set_option maxRecDepth 20000

theorem lostN_cas : ∀ f : Fin 64, ∃ i : Fin 16, lostN (f.val : Int) = (i.val : Int) := by decide
/-- the castling of the other side -/
def othJ (j : Nat) : Nat := (j + 2) % 4
end Go.Proofs.YtkncfeijlmomaaaGreatDoor

namespace Go.Proofs.YtkncfeijlmomaaaGreatDoor
open Go.RowKit
set_option linter.unusedSimpArgs false
set_option linter.unusedVariables false
set_option maxRecDepth 20000

theorem csX_sq (P : Nat → Int) (f t j : Nat) (h : csX P f t j = true) : (f : Int) = kasN (j * 5 + 2) ∧ (t : Int) = kasN (j * 5 + 3) := by
  unfold csX at h
  simp only [Bool.and_eq_true, beq_iff_eq] at h
  exact ⟨h.1.1.2, h.1.2⟩
theorem csI4 (P : Nat → Int) (f t : Nat) : csI P f t 4 = if csX P f t 0 then some 0 else if csX P f t 1 then some 1 else if csX P f t 2 then some 2 else if csX P f t 3 then some 3 else none := by
  simp only [csI]
  cases csX P f t 0 <;> cases csX P f t 1 <;> cases csX P f t 2 <;> cases csX P f t 3 <;> rfl
theorem csI_sq (P : Nat → Int) (f t j : Nat) (h : csI P f t 4 = some j) : j < 4 ∧ (f : Int) = kasN (j * 5 + 2) ∧ (t : Int) = kasN (j * 5 + 3) := by
  rw [csI4] at h
  split at h
  · rename_i hx; injection h with h; subst h; exact ⟨by omega, csX_sq P f t 0 hx⟩
  · split at h
    · rename_i hx; injection h with h; subst h; exact ⟨by omega, csX_sq P f t 1 hx⟩
    · split at h
      · rename_i hx; injection h with h; subst h; exact ⟨by omega, csX_sq P f t 2 hx⟩
      · split at h
        · rename_i hx; injection h with h; subst h; exact ⟨by omega, csX_sq P f t 3 hx⟩
        · cases h
theorem kas_mid : ∀ j : Fin 4, (mir (kasN (j.val * 5 + 2)).toNat + mir (kasN (j.val * 5 + 3)).toNat) / 2 = mir (((kasN (j.val * 5 + 2)).toNat + (kasN (j.val * 5 + 3)).toNat) / 2) ∧ ((kasN (j.val * 5 + 2)).toNat + (kasN (j.val * 5 + 3)).toNat) / 2 < 64 ∧ (kasN (othJ j.val * 5 + 4)).toNat = mir (kasN (j.val * 5 + 4)).toNat ∧ (kasN (j.val * 5 + 4)).toNat < 64 ∧ kasN (othJ j.val * 5 + 1) = tSide 4 (kasN (j.val * 5 + 1)) := by decide +kernel
theorem rkk_end (P : Nat → Int) (f t : Nat) (o : Option Nat) (ho : ∀ j, o = some j → j < 4 ∧ (f : Int) = kasN (j * 5 + 2) ∧ (t : Int) = kasN (j * 5 + 3)) (i : Nat) (hi : 128 ≤ i) : rkkN P f t o i = P i := by
  cases o with
  | none => rfl
  | some j =>
    obtain ⟨h1, h2, h3⟩ := ho j rfl
    obtain ⟨k1, k2, k3, k4, k5⟩ := kas_mid ⟨j, h1⟩
    simp only [← h2, ← h3, Int.toNat_natCast] at k1 k2 k3 k4 k5
    simp only [rkkN, rookN]
    rw [ptN_end _ _ _ _ _ k2 hi, ptN_end _ _ _ _ _ k4 hi]
theorem put_end (P : Nat → Int) (f t : Nat) (k tk : Int) (hf : f < 64) (ht : t < 64) (htk : tk = -1 ∨ ∃ n : Nat, tk = n ∧ n < 64) (i : Nat) (hi : 128 ≤ i) : putM P f t k tk i = P i := by
  unfold putM
  rw [ptN_end _ _ _ _ _ ht hi]
  split
  · rw [ptN_end _ _ _ _ _ hf hi]
  · rename_i hx
    rcases htk with rfl | ⟨n, rfl, hn⟩
    · exact absurd rfl hx
    · rw [ptN_end _ _ _ _ _ (by simpa using hn) hi, ptN_end _ _ _ _ _ hf hi]
theorem cnt_off (P : Nat → Int) (z : Bool) (i : Nat) (h1 : i ≠ 131) (h2 : i ≠ 132) : cntN P z i = P i := by
  unfold cntN
  split
  · rw [setN_off _ _ _ _ h2, setN_off _ _ _ _ h1]
  · rw [setN_off _ _ _ _ h1]
theorem cnt_half (P : Nat → Int) (z : Bool) : cntN P z 131 = if z then 0 else incN (P 131) 1024 := by
  unfold cntN
  split
  · rw [setN_off _ _ _ _ (by omega), setN_at]
  · rw [setN_at]
end Go.Proofs.YtkncfeijlmomaaaGreatDoor

namespace Go.Proofs.YtkncfeijlmomaaaGreatDoor
open Go.RowKit
set_option linter.unusedSimpArgs false
set_option linter.unusedVariables false
set_option maxRecDepth 20000

theorem lst_off (Q : Nat → Int) (f t : Nat) (o : Int) (i : Nat) (h1 : i ≠ 128) (h2 : i ≠ 129) (h3 : i ≠ 130) : lstN Q f t o i = Q i := by
  unfold lstN
  rw [setN_off _ _ _ _ h1, setN_off _ _ _ _ h3, setN_off _ _ _ _ h2]
theorem lst_side (Q : Nat → Int) (f t : Nat) (o : Int) : lstN Q f t o 128 = oth (Q 128) := by unfold lstN; rw [setN_at]
theorem lst_cas (Q : Nat → Int) (f t : Nat) (o : Int) : lstN Q f t o 129 = casM (Q 129) f t := by
  unfold lstN; rw [setN_off _ _ _ _ (by omega), setN_off _ _ _ _ (by omega), setN_at]
theorem lst_over (Q : Nat → Int) (f t : Nat) (o : Int) : lstN Q f t o 130 = o := by
  unfold lstN; rw [setN_off _ _ _ _ (by omega), setN_at]
theorem pcs_end (P : Nat → Int) (f t : Nat) (k : Int) (hf : f < 64) (ht : t < 64) (i : Nat) (hi : 128 ≤ i) : pcsN P f t k i = cntN P (pwnB P f || (tksN P f t != -1)) i := by
  unfold pcsN
  rw [rkk_end _ f t _ (fun j h => csI_sq P f t j h) i hi, put_end _ f t k _ hf ht (tks_cases P f t hf ht) i hi]
end Go.Proofs.YtkncfeijlmomaaaGreatDoor

namespace Go.Proofs.YtkncfeijlmomaaaGreatDoor
open Go.RowKit
set_option linter.unusedSimpArgs false
set_option linter.unusedVariables false
set_option maxRecDepth 20000

theorem right_fit (P : Nat → Int) (h : rightB P = true) : Fit P := fun s hs => by
  cases h0 : pe (P (2 * s)) (P (2 * s + 1)) 0 0
  · cases h1 : mayB (P (2 * s)) (P (2 * s + 1))
    · rw [not_right P s hs h0 h1] at h; cases h
    · exact .inr rfl
  · exact .inl rfl
theorem right_side (P : Nat → Int) (h : rightB P = true) : P 128 = 0 ∨ P 128 = 1 := by
  cases h0 : sideB (P 128)
  · rw [not_right2 P h0] at h; cases h
  · rcases side_cases (P 128) with ⟨e, _⟩ | ⟨e, _⟩ | ⟨_, _, e⟩
    · exact .inl e
    · exact .inr e
    · rw [e] at h0; cases h0
theorem right_cas (P : Nat → Int) (h : rightB P = true) : casB (P 129) = true := by
  unfold rightB castB at h
  simp only [Bool.and_eq_true] at h
  exact h.1.1.1.1.1.2.1.1.1.1
theorem right_hand (P : Nat → Int) (h : rightB P = true) : handP P = P := handP_on P (right_cas P h)
end Go.Proofs.YtkncfeijlmomaaaGreatDoor

namespace Go.Proofs.YtkncfeijlmomaaaGreatDoor
open Go.RowKit Go.Sort
set_option linter.unusedSimpArgs false
set_option linter.unusedVariables false
set_option maxRecDepth 20000

theorem oneM_mem (P : Nat → Int) (s : Nat) (t : Int) (m : Int × Int × Int) (h : m ∈ oneM P s t) : m.1 = s ∧ m.2.1 = t ∧ (if lastB P s t.toNat = true then 2 ≤ m.2.2 ∧ m.2.2 ≤ 5 else m.2.2 = 0) := by
  unfold oneM at h
  split at h
  · rename_i hl
    rw [if_pos hl]
    simp only [List.mem_cons, List.not_mem_nil, or_false] at h
    rcases h with rfl | rfl | rfl | rfl <;> exact ⟨rfl, rfl, by constructor <;> simp⟩
  · rename_i hl
    rw [if_neg hl]
    simp only [List.mem_singleton] at h
    subst h
    exact ⟨rfl, rfl, rfl⟩
theorem putL_mem (P : Nat → Int) (s : Nat) (xs : List Int) (m : Int × Int × Int) (h : m ∈ putL P s xs) : m.1 = s ∧ m.2.1 ∈ xs ∧ (if lastB P s m.2.1.toNat = true then 2 ≤ m.2.2 ∧ m.2.2 ≤ 5 else m.2.2 = 0) := by
  unfold putL at h
  obtain ⟨x, hx, h1⟩ := List.mem_flatMap.1 h
  obtain ⟨h2, h3, h4⟩ := oneM_mem P s x m h1
  rw [h3]
  exact ⟨h2, hx, h4⟩
/-- what a move of all is -/
structure MvOk (P : Nat → Int) (m : Int × Int × Int) (s n : Nat) : Prop where
  f : m.1 = (s : Int)
  t : m.2.1 = (n : Int)
  hs : s < 64
  hn : n < 64
  o : ownB P s = true
  g : goB P s n = true
  b : becB P s n m.2.2 = true
theorem allM_mem (P : Nat → Int) (m : Int × Int × Int) (h : m ∈ allM P) : ∃ s n, MvOk P m s n := by
  rw [allM_up] at h
  obtain ⟨x, hx, h1⟩ := List.mem_flatMap.1 h
  obtain ⟨s, hs, ho, rfl⟩ := (upList_mem _ _ _).1 hx
  obtain ⟨h2, h3, h4⟩ := putL_mem P _ _ m h1
  rw [Int.toNat_natCast] at h2 h3 h4
  obtain ⟨n, hn, hg, e⟩ := (upList_mem _ _ _).1 h3
  refine ⟨s, n, h2, e, hs, hn, ho, hg, ?_⟩
  rw [e, Int.toNat_natCast] at h4
  unfold becB
  unfold lastB at h4
  split at h4
  · rename_i hl
    rw [if_pos hl]
    simp [h4.1, h4.2]
  · rename_i hl
    rw [if_neg hl]
    simp [h4]
theorem goB_ne (P : Nat → Int) (s n : Nat) (h : goB P s n = true) : s ≠ n := by
  unfold goB at h
  have := onN_or P
  split at h
  · simp only [Bool.or_eq_true, Bool.and_eq_true, List.contains_iff_mem] at h
    rcases h with h | h
    · have := (aheadL_mem P s _ h).2; omega
    · exact attR_ne P s n h.1
  · simp only [Bool.or_eq_true, Bool.and_eq_true, List.contains_iff_mem] at h
    rcases h with h | h
    · exact attR_ne P s n h.1
    · intro e
      subst e
      have := (castlesL_to P s s h.2).1
      unfold fD at this; omega
/-- where something stands, it is attacked, and not the mover's own -/
theorem goB_hit (P : Nat → Int) (s n : Nat) (hd : sideB (P 128) = true) (h : goB P s n = true) (he : emB P n = false) : attR P s n = true ∧ P (2 * n + 1) ≠ P 128 := by
  unfold goB at h
  split at h
  · simp only [Bool.or_eq_true, Bool.and_eq_true, List.contains_iff_mem] at h
    rcases h with h | h
    · have := (aheadL_mem P s _ h).1
      rw [Int.toNat_natCast, he] at this
      cases this
    · refine ⟨h.1, ?_⟩
      have h2 := h.2
      unfold slantB mothB at h2
      rw [he] at h2
      simp only [Bool.not_false, Bool.true_and, Bool.and_false, Bool.or_false, beq_iff_eq] at h2
      rw [h2]
      unfold oth
      unfold sideB at hd
      simp at hd
      split <;> omega
  · simp only [Bool.or_eq_true, Bool.and_eq_true, List.contains_iff_mem, Bool.not_eq_true'] at h
    rcases h with h | h
    · refine ⟨h.1, ?_⟩
      have h2 := h.2
      unfold mownB at h2
      rw [he] at h2
      simpa using h2
    · have := (castlesL_to P s n h.2).2
      rw [he] at this
      cases this
theorem own_parts (P : Nat → Int) (s : Nat) (h : ownB P s = true) : sideB (P 128) = true ∧ P (2 * s + 1) = P 128 := by
  unfold ownB at h
  simp only [Bool.and_eq_true, beq_iff_eq] at h
  exact ⟨h.1.1.1, h.1.1.2⟩
theorem hand_off (P : Nat → Int) (i : Nat) (h : i ≠ 129) : handP P i = P i := by unfold handP; exact setN_off _ _ _ _ h
theorem own_hand9 (P : Nat → Int) (s : Nat) (hs : s < 64) : ownB (handP P) s = ownB P s := by
  unfold ownB
  rw [hand_off P 128 (by omega), hand_off P _ (by omega), hand_off P _ (by omega)]
theorem bec_hand9 (P : Nat → Int) (s n : Nat) (hs : s < 64) (k : Int) : becB (handP P) s n k = becB P s n k := by
  unfold becB pwnB rkN
  rw [hand_off P 128 (by omega), hand_off P _ (by omega)]
theorem mv_ok (P : Nat → Int) (m : Int × Int × Int) (s n : Nat) (h : MvOk P m s n) : fltN (handP P) (s : Int) (n : Int) m.2.2 = 0 := by
  have h1 := h.hs
  have h2 := h.hn
  have h3 := goB_ne P s n h.g
  unfold fltN
  rw [(sq_iff _).2 (by omega), (sq_iff _).2 (by omega), Int.toNat_natCast, Int.toNat_natCast, own_hand9 P s h1, bec_hand9 P s n h1, h.o, h.b]
  rw [show ((s : Int) == (n : Int)) = false by simp; omega]
  rfl
theorem mv_side9 (P : Nat → Int) (f t : Nat) (k : Int) (hf : f < 64) (ht : t < 64) (h0 : fltN (handP P) f t k = 0) : mvP P f t k 128 = oth (P 128) := by
  unfold mvP
  rw [if_pos h0]
  simp only [Int.toNat_natCast]
  unfold cmN
  rw [lst_side, pcs_end _ _ _ _ hf ht _ (by omega), cnt_off _ _ _ (by omega) (by omega), hand_off _ _ (by omega)]
end Go.Proofs.YtkncfeijlmomaaaGreatDoor
