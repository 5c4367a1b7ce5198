/-
  The walk of BoardEnds: the pieces that it is made of.
-/
import Derived.Test.YteahikjnlhlmmaaDoorBz
import Derived.Test.YteahikjnlhlmmaaDoorCa
import Derived.Test.YteahikjnlhlmmaaDoorCe
namespace Go.Proofs.YteahikjnlhlmmaaDoor
open Go.RowKit Go.Sort
set_option linter.unusedSimpArgs false
set_option linter.unusedVariables false

theorem wpQuiet_binD {ops : Array Oper} {C : World → Prop} {Q : Act → Prop} {rest : List Oper} {o : Oper} {a : Act} (hw : Region.wanted o (yielded ops a.tmps) = true) (bop : BinOp) (x y : Operand) (t r : TypeId) (ho : o.op = .binOp bop t x y r)
    (v1 v2 v : Value) (hx : a.eval x = v1) (hy : a.eval y = v2) (hg : ∀ W, (eqGuard bop t x y v1 v2).run Tryd.prog W = .ok () W) (h : ∀ W, (binOp bop t v1 v2).run Tryd.prog W = .ok v W) (k : wpQuiet Tryd.prog ops C Q rest (a.put o.dst v)) : wpQuiet Tryd.prog ops C Q (o :: rest) a :=
  BigFrame.wpQuiet_want hw fun K hK => ⟨v, fun W hW => by
    unfold Oper.quietAt execOp
    simp [ho, hx, hy, hg, h]
    exact ⟨rfl, rfl⟩, hK _ k⟩
/-- what stands in BoardEnds: the begin -/
structure TE (B : Nat) (w W : World) (b1 : Nat) : Prop where
  p : PB W b1 startN
  b : Below w.heap.size w W
  g : GB B W
  n : w.heap.size ≤ b1
theorem TE.go {B : Nat} {w W W' : World} {b1 : Nat} (hB : B ≤ w.heap.size) (h : TE B w W b1) (g : Below W.heap.size W W') : TE B w W' b1 :=
  ⟨h.p.go g, h.b.trans (g.mono h.b.size), h.g.below (g.mono (Nat.le_trans hB h.b.size)), h.n⟩
theorem TE.other {B : Nat} {w W : World} {b1 : Nat} (hB : B ≤ w.heap.size) (h : TE B w W b1) (c i : Nat) (h1 : b1 < c) (h2 : w.heap.size ≤ c) (x : Value) : TE B w (W.setCell ⟨c, i, none⟩ x) b1 :=
  ⟨h.p.other (by omega) _ _, h.b.setCell (p := ⟨c, i, none⟩) h2 _, h.g.below ((Below.refl B W).setCell (p := ⟨c, i, none⟩) (Nat.le_trans hB h2) x), h.n⟩
/-- a row of numbers in a block of its own -/
structure RS (W : World) (blk : Nat) (f : Nat → Int) : Prop where
  lt : blk < W.heap.size
  cell : ∀ i, i < 17 → W.cell? ⟨blk, i, none⟩ = some (.int .i64 (f i))
theorem RS.go {W W' : World} {b : Nat} {f : Nat → Int} (h : RS W b f) (g : Below W.heap.size W W') : RS W' b f :=
  ⟨Nat.lt_of_lt_of_le h.lt g.size, fun i hi => by rw [g.cell (p := ⟨b, i, none⟩) h.lt]; exact h.cell i hi⟩
theorem RS.other {W : World} {b c : Nat} {f : Nat → Int} (h : RS W b f) (hne : b ≠ c) (i : Nat) (v : Value) : RS (W.setCell ⟨c, i, none⟩ v) b f :=
  ⟨by rw [World.size_setCell]; exact h.lt, fun j hj => by rw [World.cell?_setCell_other _ _ _ _ (by intro e; injection e with e1 e2; first | exact hne e1 | exact hne e1.symm)]; exact h.cell j hj⟩
def endsN (i : Nat) : Int := ([-9223372036854775808, -2, -1, 0, 1, 2, 3, 7, 15, 16, 63, 64, 1024, 1025, 16384, 16385, 9223372036854775807] : List Int).getD i 0
theorem ends_cell : ∀ i, i < 17 → (#[.int .i64 (-9223372036854775808), .int .i64 (-2), .int .i64 (-1), .int .i64 0, .int .i64 1, .int .i64 2, .int .i64 3, .int .i64 7, .int .i64 15, .int .i64 16, .int .i64 63, .int .i64 64, .int .i64 1024, .int .i64 1025, .int .i64 16384, .int .i64 16385, .int .i64 9223372036854775807] : Array Value)[i]? = some (.int .i64 (endsN i)) := fun i hi => by
  have : i = 0 ∨ i = 1 ∨ i = 2 ∨ i = 3 ∨ i = 4 ∨ i = 5 ∨ i = 6 ∨ i = 7 ∨ i = 8 ∨ i = 9 ∨ i = 10 ∨ i = 11 ∨ i = 12 ∨ i = 13 ∨ i = 14 ∨ i = 15 ∨ i = 16 := by omega
  rcases this with rfl | rfl | rfl | rfl | rfl | rfl | rfl | rfl | rfl | rfl | rfl | rfl | rfl | rfl | rfl | rfl | rfl <;> rfl
def cornN (i : Nat) : Nat := [0, 7, 56, 63, 4, 60].getD i 0
theorem corn_cell : ∀ i, i < 6 → (#[.int .i64 0, .int .i64 7, .int .i64 56, .int .i64 63, .int .i64 4, .int .i64 60] : Array Value)[i]? = some (.int .i64 (cornN i : Nat)) ∧ cornN i < 64 := fun i hi => by
  have : i = 0 ∨ i = 1 ∨ i = 2 ∨ i = 3 ∨ i = 4 ∨ i = 5 := by omega
  rcases this with rfl | rfl | rfl | rfl | rfl | rfl <;> exact ⟨rfl, by decide⟩
theorem corn_get : ∀ i, i < 6 → ∀ h, ([.int .i64 0, .int .i64 7, .int .i64 56, .int .i64 63, .int .i64 4, .int .i64 60] : List Value)[i]'h = .int .i64 (cornN i : Nat) := fun i hi h => by
  have : i = 0 ∨ i = 1 ∨ i = 2 ∨ i = 3 ∨ i = 4 ∨ i = 5 := by omega
  rcases this with rfl | rfl | rfl | rfl | rfl | rfl <;> rfl
/-- BoardTells, asked beside the begin -/
theorem tellsE {B : Nat} {w W : World} {b1 : Nat} (hB : B ≤ w.heap.size) (h : TE B w W b1) (Q : Nat → Int) (Z : Array Value) (hZ : Z = (pc Q).toArray) (k d : Int) (D : Nat) (p : Option Addr) (n c : Nat) (g : Nat → Int) (hc0 : p = none → n = 0 ∧ c = 0)
    (hr : Reads D W p n (fun i => .int .i64 (g i))) (hD : D ≤ W.heap.size) :
    Calls Tryd.prog 3 #[.agg Z, .agg #[.int .i64 k, .int .i64 d], .slice p n c] W fun e w' => e = .returned (.bool true) ∧ TE B w w' b1 ∧ Below W.heap.size W w' := by
  subst hZ
  exact (tellsB_any Q k d D p n c g W B h.g (Nat.le_trans hB h.b.size) hc0 hr hD).mono fun e w' ⟨he, hb⟩ => ⟨he, h.go hB hb, hb⟩
/-- a row of one number, laid anew -/
theorem row_one (W : World) (x : Int) (t : TypeId) : Reads (W.heap.size + 1) (W.alloc (.cells #[.int .i64 x] t)) (some ⟨W.heap.size, 0, none⟩) 1 (fun i => .int .i64 ((fun _ => x) i)) :=
  .inr ⟨W.heap.size, 0, rfl, by omega, fun i hi => by
    rw [Nat.zero_add, cell_of_row _ _ i _ _ (0, 0) (sl_at rfl)]; obtain rfl : i = 0 := by omega
    rfl⟩
theorem row_pair (W : World) (x y : Int) (t : TypeId) : Reads (W.heap.size + 1) (W.alloc (.cells #[.int .i64 x, .int .i64 y] t)) (some ⟨W.heap.size, 0, none⟩) 2 (fun i => .int .i64 ((fun j => if j = 0 then x else y) i)) :=
  .inr ⟨W.heap.size, 0, rfl, by omega, fun i hi => by
    rw [Nat.zero_add, cell_of_row _ _ i _ _ (0, 0) (sl_at rfl)]
    rcases (show i = 0 ∨ i = 1 by omega) with rfl | rfl <;> rfl⟩
set_option maxHeartbeats 8000000 in
set_option maxRecDepth 100000 in
theorem ends_walk6 (w : World) (B : Nat) (hg : GB B w) (hB : B ≤ w.heap.size) :
    Calls Tryd.prog 4 #[] w fun e w' => e = .returned (.bool true) ∧ Below w.heap.size w w' := by
  obtain ⟨X, hX⟩ : ∃ X, X = (pc startN).toArray := ⟨_, rfl⟩
  obtain ⟨E, hE⟩ : ∃ E, E = (pc emptyN).toArray := ⟨_, rfl⟩
  have MS := Lib.hid (fun W => rStart_any W)
  have MT := Lib.hid (fun W h1 h2 => start_any W B h1 h2)
  have ME := Lib.hid (fun W => empty_any W)
  have MF := Lib.hid (fun W => rEmpty_any W)
  have MR := Lib.hid (fun W h1 h2 => right_any startN W B h1 h2)
  have MQ := Lib.hid (fun W h1 h2 => right_any emptyN W B h1 h2)
  rw [right_start] at MR
  rw [show rightB emptyN = false by decide +kernel] at MQ
  have NX := Lib.hid (show ∀ W, (binOp .neq 29 (.agg X) (.agg X)).run Tryd.prog W = .ok (.bool false) W from fun W => by rw [hX, neq_pos, posEq_self]; rfl)
  have NE := Lib.hid (show ∀ W, (binOp .neq 29 (.agg E) (.agg E)).run Tryd.prog W = .ok (.bool false) W from fun W => by rw [hE, neq_pos, posEq_self]; rfl)
  rw [← hX] at MS MT MR
  rw [← hE] at ME MF MQ
  have HX := Lib.hid hX
  have HE := Lib.hid hE
  have HG := Lib.hid hg
  have HGO := Lib.hid (fun b1 W W' => TE.go (W := W) (W' := W') (b1 := b1) hB)
  clear hX hE hg
  go_enter Tryd.func4, Tryd.ntmps4
  go_wp2_with fail
  refine (MS.out _).mono ?_
  rintro e w1 ⟨rfl, hb⟩
  have H1 := Lib.hid hb
  have HG1 := Lib.hid (HG.out.below (hb.mono hB))
  clear hb
  go_wp2_with (refine wpList_new X startN HX.out (by rfl) (by rfl) ?_)
  intro w2 hq hb hz
  try simp only [Act.put, List.setIfInBounds_toArray, List.set_cons_zero, List.set_cons_succ]
  have HU := Lib.hid (show TE B w w2 w1.heap.size from ⟨hq, H1.out.trans (hb.mono H1.out.size), HG1.out.below (hb.mono (Nat.le_trans hB H1.out.size)), H1.out.size⟩)
  generalize w1.heap.size = b1 at HU ⊢
  clear hq hb hz H1 HG1
  go_upto_region 2 with (fail)
  have hin : ∀ d os, B ≤ (grow (redrawn w2 d) os).heap.size ∧ GB B (grow (redrawn w2 d) os) := fun d os =>
    ⟨Nat.le_trans (Nat.le_trans hB HU.out.b.size) (below_regrown w2 d os).size, HU.out.g.below ((below_regrown w2 d os).mono (Nat.le_trans hB HU.out.b.size))⟩
  have c20 : ∀ d os, Calls Tryd.prog 24 #[] (grow (redrawn w2 d) os) fun e w'' => e = .returned (.agg X) ∧ ∃ p : Regrown, w'' = grow (redrawn w2 p.d) p.os := fun d os => Calls.regrown_of (MT.out _ (hin d os).2 (hin d os).1)
  have c24 := regrown_call (w := w2) ME.out
  have c25 := regrown_call (w := w2) MF.out
  have c30 : ∀ d os, Calls Tryd.prog 12 #[.agg X] (grow (redrawn w2 d) os) fun e w'' => e = .returned (.bool true) ∧ ∃ p : Regrown, w'' = grow (redrawn w2 p.d) p.os := fun d os => Calls.regrown_of (MR.out _ (hin d os).2 (hin d os).1)
  have c35 : ∀ d os, Calls Tryd.prog 12 #[.agg E] (grow (redrawn w2 d) os) fun e w'' => e = .returned (.bool false) ∧ ∃ p : Regrown, w'' = grow (redrawn w2 p.d) p.os := fun d os => Calls.regrown_of (MQ.out _ (hin d os).2 (hin d os).1)
  have c38 := regrown_same (w := w2) (other_any 0)
  have c42 := regrown_same (w := w2) (other_any 1)
  have c46 := regrown_same (w := w2) (other_any 5)
  rw [show oth 0 = 1 from rfl] at c38
  rw [show oth 1 = 0 from rfl] at c42
  rw [show oth 5 = 0 from rfl] at c46
  have HC1 := Lib.hid HU.out.p.regrown
  refine wp_region_quiet_below (by kernel_rfl) (by kernel_rfl) ?_
  go_big_quiet_step (exact c20 _ _)
  refine wpQuiet_pos (by rfl) _ (by rfl) b1 startN X HX.out (by rfl) HC1.out ?_
  try simp only [Act.put, List.setIfInBounds_toArray, List.set_cons_zero, List.set_cons_succ]
  refine wpQuiet_binD (by rfl) _ _ _ _ _ (by rfl) (.agg X) (.agg X) (.bool false) (by rfl) (by rfl) (fun W => by go_simp) NX.out ?_
  try simp only [Act.put, List.setIfInBounds_toArray, List.set_cons_zero, List.set_cons_succ]
  iterate 1 (go_big_quiet_step (fail))
  go_big_quiet_step (exact c24 _ _)
  go_big_quiet_step (exact c25 _ _)
  refine wpQuiet_binD (by rfl) _ _ _ _ _ (by rfl) (.agg E) (.agg E) (.bool false) (by rfl) (by rfl) (fun W => by go_simp) NE.out ?_
  try simp only [Act.put, List.setIfInBounds_toArray, List.set_cons_zero, List.set_cons_succ]
  iterate 2 (go_big_quiet_step (fail))
  refine wpQuiet_pos (by rfl) _ (by rfl) b1 startN X HX.out (by rfl) HC1.out ?_
  try simp only [Act.put, List.setIfInBounds_toArray, List.set_cons_zero, List.set_cons_succ]
  go_big_quiet_step (exact c30 _ _)
  iterate 3 (go_big_quiet_step (fail))
  go_big_quiet_step (exact c24 _ _)
  go_big_quiet_step (exact c35 _ _)
  iterate 2 (go_big_quiet_step (fail))
  go_big_quiet_step (exact c38 _ _)
  iterate 3 (go_big_quiet_step (fail))
  go_big_quiet_step (exact c42 _ _)
  iterate 3 (go_big_quiet_step (fail))
  go_big_quiet_step (exact c46 _ _)
  repeat (go_big_quiet_step (fail))
  refine wpQuiet_nil ?_
  rintro w3 ⟨q, rfl⟩
  replace HU := Lib.hid (HGO.out _ _ _ HU.out (below_regrown w2 q.d q.os))
  clear hin c20 c24 c25 c30 c35 c38 c42 c46 HC1 MS MT ME MF MR MQ NX NE
  generalize grow (redrawn w2 q.d) q.os = w3 at HU ⊢
  go_wp2
  go_loopw [2] (fun i wr => ∃ j : Nat, j ≤ 64 ∧ i = .int .i64 (j : Int) ∧ TE B w wr b1) (fun i _ => 64 - (intOf i).toNat)
  case atStart => exact ⟨0, Nat.zero_le _, rfl, HU.out⟩
  case round =>
    clear HU
    obtain ⟨j, hj, rfl, h1⟩ := hrel
    have HU := Lib.hid h1
    clear h1
    by_cases hlt : j < 64
    · skip
      have s0 : (0 : Int) ≤ j := by omega
      have s1 : (j : Int) < 64 := by omega
      go_wp2
      go_loopw [3] (fun i wr => ∃ k : Int, -1 ≤ k ∧ k ≤ 16 ∧ i = .int .i64 k ∧ TE B w wr b1) (fun i _ => (16 - intOf i).toNat)
      case atStart => exact ⟨-1, by omega, by omega, rfl, HU.out⟩
      case round =>
        clear HU
        obtain ⟨k, hk0, hk1, rfl, h1⟩ := hrel
        have HU := Lib.hid h1
        clear h1
        by_cases hk : k < 16
        · have hkc : (k = -1 ∧ k.tmod 8 = -1 ∧ k.tdiv 8 = 0) ∨ (0 ≤ k ∧ k.tmod 8 = k % 8 ∧ k.tdiv 8 = k / 8) := by
            by_cases h : k = -1
            · subst h; exact .inl ⟨rfl, rfl, rfl⟩
            · exact .inr ⟨by omega, Int.tmod_eq_emod_of_nonneg (by omega), Int.tdiv_eq_ediv_of_nonneg (by omega)⟩
          rcases hkc with ⟨rfl, hm1, hm2⟩ | ⟨hk2, hm1, hm2⟩
          · skip
            go_upto_region 11 with (fail)
            refine forget_B (fun W => TE B w W b1 ∧ W.heap[wr.heap.size]? = some (.cells #[.int .i64 (-1), .int .i64 0] 25 (0, 0))) ⟨HGO.out _ _ _ HU.out (below_new _), sl_at rfl⟩ ?_
            generalize wr.heap.size = b4
            clear HU
            rintro w4 ⟨hu, hx⟩
            have HU := Lib.hid hu
            have HXP := Lib.hid hx
            clear hu hx
            go_wp2_with (first | refine wpList_new X startN HX.out (by rfl) (by rfl) ?_ | refine wpList_pos (by rfl) _ (by rfl) b1 startN X HX.out (by rfl) HU.out.p ?_)
            intro w5 hq hb hz
            try simp only [Act.put, List.setIfInBounds_toArray, List.set_cons_zero, List.set_cons_succ]
            have HU0 := Lib.hid HU.out
            have HXP0 := Lib.hid HXP.out
            replace HU := Lib.hid (HGO.out _ _ _ HU.out hb)
            replace HXP := Lib.hid (sl_go HXP.out hb)
            obtain ⟨b5, hb5'⟩ : ∃ b, w4.heap.size = b := ⟨_, rfl⟩
            have HQ := Lib.hid hq
            have HBL := Lib.hid (show b1 < b5 ∧ b4 < b5 ∧ w.heap.size ≤ b5 by
              rw [← hb5']; exact ⟨HU0.out.p.lt, (Array.getElem?_eq_some_iff.1 HXP0.out).1, HU0.out.b.size⟩)
            rw [hb5'] at HQ ⊢
            clear hb hq hz hb5' HU0 HXP0
            have e1 := HQ.out.cell (j * 2) (by omega)
            have e2 := HQ.out.cell (j * 2 + 1) (by omega)
            have e3 := HQ.out.fr (j * 2)
            have e4 := HQ.out.fr (j * 2 + 1)
            generalize startN (j * 2) = z1 at e1
            generalize startN (j * 2 + 1) = z2 at e2
            obtain ⟨q1, q2, qf, qz⟩ := row2 HXP.out
            obtain ⟨Q, hQ⟩ : ∃ Q, setN (setN startN (j * 2) (-1)) (j * 2 + 1) 0 = Q := ⟨_, rfl⟩
            obtain ⟨Z, hZ⟩ : ∃ Z, Z = (pc Q).toArray := ⟨_, rfl⟩
            have HZ := Lib.hid hZ
            have HQ2 := Lib.hid (show PB ((w5.setCell ⟨b5, j * 2, none⟩ (.int .i64 (-1))).setCell ⟨b5, j * 2 + 1, none⟩ (.int .i64 0)) b5 Q by rw [← hQ]; exact (HQ.out.set (j * 2) (-1) (by omega)).set (j * 2 + 1) 0 (by omega))
            clear hQ hZ
            go_upto_region 13 with (fail)
            refine forget_B (fun W => TE B w W b1 ∧ PB W b5 Q ∧ W.heap[b4]? = some (.cells #[.int .i64 (-1), .int .i64 0] 25 (0, 0)))
              ⟨TE.other hB (TE.other hB HU.out b5 _ HBL.out.1 HBL.out.2.2 _) b5 _ HBL.out.1 HBL.out.2.2 _, HQ2.out, (Go.heap_setCell_other _ _ _ _ (by have := HBL.out.2.1; simp; omega)).trans ((Go.heap_setCell_other _ _ _ _ (by have := HBL.out.2.1; simp; omega)).trans HXP.out)⟩ ?_
            clear HU HXP HQ HQ2 e1 e2 e3 e4 q1 q2 qf qz
            rintro w6 ⟨hu, hq, hx⟩
            have HU := Lib.hid hu
            have HQ := Lib.hid hq
            obtain ⟨q1, q2, qf, qz⟩ := row2 hx
            clear hu hq hx
            go_wp2_with (refine wpList_pos (by rfl) _ (by rfl) b5 Q Z HZ.out (by rfl) HQ.out ?_)
            refine (tellsE hB (HGO.out _ _ _ HU.out (below_new _)) Q Z HZ.out (-1) 0 _ _ 1 1 _ (fun e => by cases e) (row_one w6 (j : Int) _) (by simp)).mono ?_
            rintro e w7 ⟨rfl, hu, hb⟩
            replace HU := Lib.hid hu
            clear hu hb q1 q2 qf qz HQ HBL
            go_wp2_with (refine wpList_pos (by rfl) _ (by rfl) b1 startN X HX.out (by rfl) HU.out.p ?_)
            refine (tellsE hB (HGO.out _ _ _ HU.out (below_new _)) startN X HX.out 0 0 _ _ 2 2 _ (fun e => by cases e) (row_pair w7 (j : Int) (63 - (j : Int)) _) (by simp)).mono ?_
            rintro e w8 ⟨rfl, hu, hb⟩
            replace HU := Lib.hid hu
            clear hu hb
            go_wp2
            go_roundw
            case rel => exact ⟨0, by omega, by omega, by go_num, HU.out⟩
            case measure => simp [intOf]
          · obtain ⟨kq, hkq⟩ : ∃ x, k % 8 = x := ⟨_, rfl⟩
            obtain ⟨kd, hkd⟩ : ∃ x, k / 8 = x := ⟨_, rfl⟩
            have hb1 : 0 ≤ kq ∧ kq < 8 ∧ 0 ≤ kd ∧ kd < 2 := by omega
            obtain ⟨hb2, hb3, hb4, hb5⟩ := hb1
            have hk3 : ¬ k < 0 := by omega
            have hk4 : (k < 0) = False := by simp; omega
            rw [hkq] at hm1
            rw [hkd] at hm2
            go_upto_region 11 with (fail)
            refine forget_B (fun W => TE B w W b1 ∧ W.heap[wr.heap.size]? = some (.cells #[.int .i64 kq, .int .i64 kd] 25 (0, 0))) ⟨HGO.out _ _ _ HU.out (below_new _), sl_at rfl⟩ ?_
            generalize wr.heap.size = b4
            clear HU
            rintro w4 ⟨hu, hx⟩
            have HU := Lib.hid hu
            have HXP := Lib.hid hx
            clear hu hx
            go_wp2_with (first | refine wpList_new X startN HX.out (by rfl) (by rfl) ?_ | refine wpList_pos (by rfl) _ (by rfl) b1 startN X HX.out (by rfl) HU.out.p ?_)
            intro w5 hq hb hz
            try simp only [Act.put, List.setIfInBounds_toArray, List.set_cons_zero, List.set_cons_succ]
            have HU0 := Lib.hid HU.out
            have HXP0 := Lib.hid HXP.out
            replace HU := Lib.hid (HGO.out _ _ _ HU.out hb)
            replace HXP := Lib.hid (sl_go HXP.out hb)
            obtain ⟨b5, hb5'⟩ : ∃ b, w4.heap.size = b := ⟨_, rfl⟩
            have HQ := Lib.hid hq
            have HBL := Lib.hid (show b1 < b5 ∧ b4 < b5 ∧ w.heap.size ≤ b5 by
              rw [← hb5']; exact ⟨HU0.out.p.lt, (Array.getElem?_eq_some_iff.1 HXP0.out).1, HU0.out.b.size⟩)
            rw [hb5'] at HQ ⊢
            clear hb hq hz hb5' HU0 HXP0
            have e1 := HQ.out.cell (j * 2) (by omega)
            have e2 := HQ.out.cell (j * 2 + 1) (by omega)
            have e3 := HQ.out.fr (j * 2)
            have e4 := HQ.out.fr (j * 2 + 1)
            generalize startN (j * 2) = z1 at e1
            generalize startN (j * 2 + 1) = z2 at e2
            obtain ⟨q1, q2, qf, qz⟩ := row2 HXP.out
            obtain ⟨Q, hQ⟩ : ∃ Q, setN (setN startN (j * 2) kq) (j * 2 + 1) kd = Q := ⟨_, rfl⟩
            obtain ⟨Z, hZ⟩ : ∃ Z, Z = (pc Q).toArray := ⟨_, rfl⟩
            have HZ := Lib.hid hZ
            have HQ2 := Lib.hid (show PB ((w5.setCell ⟨b5, j * 2, none⟩ (.int .i64 kq)).setCell ⟨b5, j * 2 + 1, none⟩ (.int .i64 kd)) b5 Q by rw [← hQ]; exact (HQ.out.set (j * 2) kq (by omega)).set (j * 2 + 1) kd (by omega))
            clear hQ hZ
            go_upto_region 13 with (fail)
            refine forget_B (fun W => TE B w W b1 ∧ PB W b5 Q ∧ W.heap[b4]? = some (.cells #[.int .i64 kq, .int .i64 kd] 25 (0, 0)))
              ⟨TE.other hB (TE.other hB HU.out b5 _ HBL.out.1 HBL.out.2.2 _) b5 _ HBL.out.1 HBL.out.2.2 _, HQ2.out, (Go.heap_setCell_other _ _ _ _ (by have := HBL.out.2.1; simp; omega)).trans ((Go.heap_setCell_other _ _ _ _ (by have := HBL.out.2.1; simp; omega)).trans HXP.out)⟩ ?_
            clear HU HXP HQ HQ2 e1 e2 e3 e4 q1 q2 qf qz
            rintro w6 ⟨hu, hq, hx⟩
            have HU := Lib.hid hu
            have HQ := Lib.hid hq
            obtain ⟨q1, q2, qf, qz⟩ := row2 hx
            clear hu hq hx
            go_wp2_with (refine wpList_pos (by rfl) _ (by rfl) b5 Q Z HZ.out (by rfl) HQ.out ?_)
            have hk5 : decide (k < 0) = false := by simp; omega
            refine (tellsE hB (HGO.out _ _ _ HU.out (below_new _)) Q Z HZ.out kq kd _ _ 1 1 _ (fun e => by cases e) (row_one w6 (j : Int) _) (by simp)).mono ?_
            rintro e w7 ⟨rfl, hu, hb⟩
            replace HU := Lib.hid hu
            clear hu hb q1 q2 qf qz HQ HBL
            go_wp2
            go_roundw
            case rel => exact ⟨k + 1, by omega, by omega, by go_num, HU.out⟩
            case measure => simp [intOf]; omega
        · skip
          obtain rfl : k = 16 := by omega
          clear hk hk0 hk1
          go_wp2
          go_loopw [6] (fun i wr => ∃ sd : Nat, sd ≤ 2 ∧ i = .int .i64 (sd : Int) ∧ TE B w wr b1) (fun i _ => 2 - (intOf i).toNat)
          case atStart => exact ⟨0, Nat.zero_le _, rfl, HU.out⟩
          case round =>
            clear HU
            obtain ⟨sd, hsd, rfl, h1⟩ := hrel
            have HU := Lib.hid h1
            clear h1
            by_cases hs2 : sd < 2
            · go_wp2_with (first | refine wpList_new X startN HX.out (by rfl) (by rfl) ?_ | refine wpList_pos (by rfl) _ (by rfl) b1 startN X HX.out (by rfl) HU.out.p ?_)
              intro w5 hq hb hz
              try simp only [Act.put, List.setIfInBounds_toArray, List.set_cons_zero, List.set_cons_succ]
              have HL1 := Lib.hid (show b1 < wr.heap.size ∧ w.heap.size ≤ wr.heap.size from ⟨HU.out.p.lt, HU.out.b.size⟩)
              replace HU := Lib.hid (HGO.out _ _ _ HU.out hb)
              have HQ := Lib.hid hq
              clear hb hq hz
              obtain ⟨b7, hb7⟩ : ∃ b, wr.heap.size = b := ⟨_, rfl⟩
              rw [hb7] at HL1 HQ ⊢
              clear hb7
              have e1 := HQ.out.cell 128 (by omega)
              have e2 := HQ.out.cell 130 (by omega)
              have e3 := HQ.out.fr 128
              have e4 := HQ.out.fr 130
              generalize startN 128 = z1 at e1
              generalize startN 130 = z2 at e2
              obtain ⟨Q7, hQ7⟩ : ∃ Q, setN (setN startN 128 (sd : Int)) 130 (j : Int) = Q := ⟨_, rfl⟩
              obtain ⟨Z7, hZ7⟩ : ∃ Z, Z = (pc Q7).toArray := ⟨_, rfl⟩
              have HZ7 := Lib.hid hZ7
              go_upto_region 21 with (fail)
              refine forget_B (fun W => TE B w W b1 ∧ PB W b7 Q7) ⟨TE.other hB (TE.other hB HU.out b7 _ HL1.out.1 HL1.out.2 _) b7 _ HL1.out.1 HL1.out.2 _, by rw [← hQ7]; exact (HQ.out.set 128 (sd : Int) (by omega)).set 130 (j : Int) (by omega)⟩ ?_
              clear HU HQ HL1 e1 e2 e3 e4 hQ7 hZ7
              rintro w6 ⟨hu, hq⟩
              have HU := Lib.hid hu
              have HQ7 := Lib.hid hq
              clear hu hq
              go_wp2_with (refine wpList_pos (by rfl) _ (by rfl) b7 Q7 Z7 HZ7.out (by rfl) HQ7.out ?_)
              refine (tellsE hB HU.out Q7 Z7 HZ7.out 0 0 0 none 0 0 (fun _ => 0) (fun _ => ⟨rfl, rfl⟩) (.inl rfl) (Nat.zero_le _)).mono ?_
              rintro e w7 ⟨rfl, hu, hb⟩
              replace HU := Lib.hid hu
              replace HQ7 := Lib.hid (HQ7.out.go hb)
              clear hu hb
              go_wp2
              go_loopw [8] (fun i wr => ∃ o : Int, (o = -8 ∨ o = 8 ∨ o = 24) ∧ i = .int .i64 o ∧ TE B w wr b1 ∧ PB wr b7 Q7) (fun i _ => (24 - intOf i).toNat)
              case atStart => exact ⟨-8, by omega, rfl, HU.out, HQ7.out⟩
              case round =>
                clear HU HQ7
                obtain ⟨o, ho, rfl, h1, h2⟩ := hrel
                have HU := Lib.hid h1
                have HQ7 := Lib.hid h2
                clear h1 h2
                rcases ho with rfl | rfl | rfl
                · skip
                  obtain ⟨z, hz⟩ : ∃ z, (j : Int) + -8 = z := ⟨_, rfl⟩
                  have hz2 : (j : Int) - 8 = z := by omega
                  have hzw : IntKind.i64.wrap z = z := IntWalk.i64_in _ (by omega)
                  by_cases hzb : z < 0 ∨ 63 < z
                  · rcases hzb with hzb | hzb
                    try any_goals (exfalso; omega)
                    all_goals
                      go_wp2
                      go_roundw
                      case rel => exact ⟨8, by omega, by go_num, HU.out, HQ7.out⟩
                      case measure => simp [intOf]
                  · obtain ⟨m, hm⟩ : ∃ m : Nat, z = (m : Int) := ⟨z.toNat, by omega⟩
                    subst hm
                    have hm64 : m < 64 := by omega
                    have hzn1 : ¬ (m : Int) < 0 := by omega
                    have hzn2 : ¬ 63 < (m : Int) := by omega
                    have hm0 : (0 : Int) ≤ m := by omega
                    have hm1 : (m : Int) < 64 := by omega
                    clear hzb
                    go_wp2_with (first | refine wpList_new Z7 Q7 HZ7.out (by rfl) (by rfl) ?_ | refine wpList_pos (by rfl) _ (by rfl) b7 Q7 Z7 HZ7.out (by rfl) HQ7.out ?_)
                    intro w8 hq hb hzz
                    try simp only [Act.put, List.setIfInBounds_toArray, List.set_cons_zero, List.set_cons_succ]
                    have HL1 := Lib.hid (show b1 < wr.heap.size ∧ b7 < wr.heap.size ∧ w.heap.size ≤ wr.heap.size from ⟨HU.out.p.lt, HQ7.out.lt, HU.out.b.size⟩)
                    replace HU := Lib.hid (HGO.out _ _ _ HU.out hb)
                    replace HQ7 := Lib.hid (HQ7.out.go hb)
                    have HQ8 := Lib.hid hq
                    clear hb hq hzz
                    obtain ⟨b9, hb9⟩ : ∃ b, wr.heap.size = b := ⟨_, rfl⟩
                    rw [hb9] at HL1 HQ8 ⊢
                    clear hb9
                    have e1 := HQ8.out.cell (m * 2) (by omega)
                    have e2 := HQ8.out.cell (m * 2 + 1) (by omega)
                    have e3 := HQ8.out.fr (m * 2)
                    have e4 := HQ8.out.fr (m * 2 + 1)
                    generalize Q7 (m * 2) = z1 at e1
                    generalize Q7 (m * 2 + 1) = z2 at e2
                    go_upto_region 29 with (fail)
                    obtain ⟨Q8, hQ8⟩ : ∃ Q, setN (setN Q7 (m * 2) 1) (m * 2 + 1) (1 - (sd : Int)) = Q := ⟨_, rfl⟩
                    refine forget_B (fun W => TE B w W b1 ∧ PB W b7 Q7 ∧ PB W b9 Q8) ⟨TE.other hB (TE.other hB HU.out b9 _ HL1.out.1 HL1.out.2.2 _) b9 _ HL1.out.1 HL1.out.2.2 _, (HQ7.out.other (by have := HL1.out.2.1; omega) _ _).other (by have := HL1.out.2.1; omega) _ _, by rw [← hQ8]; exact (HQ8.out.set (m * 2) 1 (by omega)).set (m * 2 + 1) (1 - (sd : Int)) (by omega)⟩ ?_
                    clear HU HQ7 HQ8 e1 e2 e3 e4 hz hz2 hzw hzn1 hzn2 hm0 hm1 hQ8
                    rintro w10 ⟨hu, hq7, hq9⟩
                    have HU := Lib.hid hu
                    have HQ7 := Lib.hid hq7
                    have HQ8 := Lib.hid hq9
                    clear hu hq7 hq9
                    obtain ⟨y, hy⟩ : ∃ y, (j : Int) - -8 = y := ⟨_, rfl⟩
                    have hy2 : (j : Int) + 8 = y := by omega
                    have hy3 : (j : Int) + 8 = y := by omega
                    have hyw : IntKind.i64.wrap y = y := IntWalk.i64_in _ (by omega)
                    have hyc : (y < 0) ∨ (0 ≤ y ∧ 64 ≤ y) ∨ (y = 4) ∨ (y = 60) ∨ (0 ≤ y ∧ y < 64 ∧ (y != 4) = true ∧ (y != 60) = true) := by
                      by_cases h1 : y < 0
                      · exact .inl h1
                      · by_cases h2 : 64 ≤ y
                        · exact .inr (.inl ⟨by omega, h2⟩)
                        · by_cases h3 : y = 4
                          · exact .inr (.inr (.inl h3))
                          · by_cases h4 : y = 60
                            · exact .inr (.inr (.inr (.inl h4)))
                            · exact .inr (.inr (.inr (.inr ⟨by omega, by omega, by simpa using h3, by simpa using h4⟩)))
                    by_cases hgood : 0 ≤ y ∧ y < 64 ∧ (y != 4) = true ∧ (y != 60) = true
                    · obtain ⟨g1, g2, g3, g4⟩ := hgood
                      clear hyc
                      obtain ⟨m2, hm2⟩ : ∃ m : Nat, y = (m : Int) := ⟨y.toNat, by omega⟩
                      subst hm2
                      have hm64' : m2 < 64 := by omega
                      have e1 := HQ8.out.cell (m2 * 2) (by omega)
                      have e2 := HQ8.out.cell (m2 * 2 + 1) (by omega)
                      have e3 := HQ8.out.fr (m2 * 2)
                      have e4 := HQ8.out.fr (m2 * 2 + 1)
                      generalize Q8 (m2 * 2) = z1 at e1
                      generalize Q8 (m2 * 2 + 1) = z2 at e2
                      obtain ⟨Q9, hQ9⟩ : ∃ Q, setN (setN Q8 (m2 * 2) 0) (m2 * 2 + 1) 0 = Q := ⟨_, rfl⟩
                      have HFIN := Lib.hid (show (fun W => TE B w W b1 ∧ PB W b7 Q7 ∧ PB W b9 Q9) ((w10.setCell ⟨b9, m2 * 2, none⟩ (.int .i64 0)).setCell ⟨b9, m2 * 2 + 1, none⟩ (.int .i64 0)) from
                        ⟨TE.other hB (TE.other hB HU.out b9 _ HL1.out.1 HL1.out.2.2 _) b9 _ HL1.out.1 HL1.out.2.2 _, (HQ7.out.other (by have := HL1.out.2.1; omega) _ _).other (by have := HL1.out.2.1; omega) _ _, by rw [← hQ9]; exact (HQ8.out.set (m2 * 2) 0 (by omega)).set (m2 * 2 + 1) 0 (by omega)⟩)
                      clear HU HQ7 HQ8 hQ9 HL1
                      go_upto_region 31 with (fail)
                      refine forget_B (fun W => TE B w W b1 ∧ PB W b7 Q7 ∧ PB W b9 Q9) HFIN.out ?_
                      clear HFIN
                      rintro w11 ⟨hu, hq7, hq9⟩
                      have HU := Lib.hid hu
                      have HQ7 := Lib.hid hq7
                      have HQ9 := Lib.hid hq9
                      obtain ⟨Z9, hZ9⟩ : ∃ Z, Z = (pc Q9).toArray := ⟨_, rfl⟩
                      have HZ9 := Lib.hid hZ9
                      clear hu hq7 hq9 hZ9
                      go_wp2_with (first | refine wpList_new Z9 Q9 HZ9.out (by rfl) (by rfl) ?_ | refine wpList_pos (by rfl) _ (by rfl) b9 Q9 Z9 HZ9.out (by rfl) HQ9.out ?_)
                      intro w12 hq hb hz
                      try simp only [Act.put, List.setIfInBounds_toArray, List.set_cons_zero, List.set_cons_succ]
                      have HL1 := Lib.hid (show b1 < w11.heap.size ∧ b7 < w11.heap.size ∧ b9 < w11.heap.size ∧ w.heap.size ≤ w11.heap.size from ⟨HU.out.p.lt, HQ7.out.lt, HQ9.out.lt, HU.out.b.size⟩)
                      replace HU := Lib.hid (HGO.out _ _ _ HU.out hb)
                      replace HQ7 := Lib.hid (HQ7.out.go hb)
                      replace HQ9 := Lib.hid (HQ9.out.go hb)
                      have HQ10 := Lib.hid hq
                      clear hb hq hz
                      generalize w11.heap.size = b10 at HL1 HQ10 ⊢
                      have e1 := HQ10.out.cell 131 (by omega)
                      have e3 := HQ10.out.fr 131
                      generalize Q9 131 = z0 at e1
                      have HQ11 := Lib.hid (HQ10.out.set 131 1 (by omega))
                      obtain ⟨Z10, hZ10⟩ : ∃ Z, Z = (pc (setN Q9 131 1)).toArray := ⟨_, rfl⟩
                      have HZ10 := Lib.hid hZ10
                      clear hZ10
                      go_upto_region 33 with (fail)
                      refine forget_B (fun W => TE B w W b1 ∧ PB W b7 Q7 ∧ PB W b9 Q9 ∧ PB W b10 (setN Q9 131 1)) ⟨TE.other hB HU.out b10 _ HL1.out.1 HL1.out.2.2.2 _, HQ7.out.other (by have := HL1.out.2.1; omega) _ _, HQ9.out.other (by have := HL1.out.2.2.1; omega) _ _, HQ11.out⟩ ?_
                      clear HU HQ7 HQ9 HQ10 HQ11 e1 e3 HL1
                      rintro w13 ⟨hu, hq7, hq9, hq10⟩
                      have HU := Lib.hid hu
                      have HQ7 := Lib.hid hq7
                      have HQ9 := Lib.hid hq9
                      have HQ10 := Lib.hid hq10
                      clear hu hq7 hq9 hq10
                      go_wp2_with (refine wpList_pos (by rfl) _ (by rfl) b9 Q9 Z9 HZ9.out (by rfl) HQ9.out ?_)
                      refine (tellsE hB HU.out Q9 Z9 HZ9.out 0 0 0 none 0 0 (fun _ => 0) (fun _ => ⟨rfl, rfl⟩) (.inl rfl) (Nat.zero_le _)).mono ?_
                      rintro e w14 ⟨rfl, hu, hb⟩
                      replace HU := Lib.hid hu
                      replace HQ7 := Lib.hid (HQ7.out.go hb)
                      replace HQ10 := Lib.hid (HQ10.out.go hb)
                      clear hu hb HQ9
                      go_wp2_with (refine wpList_pos (by rfl) _ (by rfl) b10 (setN Q9 131 1) Z10 HZ10.out (by rfl) HQ10.out ?_)
                      refine (tellsE hB HU.out _ Z10 HZ10.out 0 0 0 none 0 0 (fun _ => 0) (fun _ => ⟨rfl, rfl⟩) (.inl rfl) (Nat.zero_le _)).mono ?_
                      rintro e w15 ⟨rfl, hu, hb⟩
                      replace HU := Lib.hid hu
                      replace HQ7 := Lib.hid (HQ7.out.go hb)
                      clear hu hb HQ10
                      go_wp2
                      go_roundw
                      case rel => exact ⟨8, by omega, by go_num, HU.out, HQ7.out⟩
                      case measure => simp [intOf]
                    · obtain ⟨Q9, hQ9⟩ : ∃ Q, Q8 = Q := ⟨_, rfl⟩
                      rw [hQ9] at HQ8
                      have HFIN := Lib.hid (show (fun W => TE B w W b1 ∧ PB W b7 Q7 ∧ PB W b9 Q9) w10 from ⟨HU.out, HQ7.out, HQ8.out⟩)
                      clear HU HQ7 HQ8 hQ9 HL1
                      rcases hyc with h | ⟨h, h'⟩ | h | h | h
                      case inr.inr.inr.inr => exact absurd h hgood
                      try any_goals (exfalso; omega)
                      all_goals
                        clear hgood
                        try subst h
                        go_upto_region 31 with (fail)
                        refine forget_B (fun W => TE B w W b1 ∧ PB W b7 Q7 ∧ PB W b9 Q9) HFIN.out ?_
                        clear HFIN
                        rintro w11 ⟨hu, hq7, hq9⟩
                        have HU := Lib.hid hu
                        have HQ7 := Lib.hid hq7
                        have HQ9 := Lib.hid hq9
                        obtain ⟨Z9, hZ9⟩ : ∃ Z, Z = (pc Q9).toArray := ⟨_, rfl⟩
                        have HZ9 := Lib.hid hZ9
                        clear hu hq7 hq9 hZ9
                        go_wp2_with (first | refine wpList_new Z9 Q9 HZ9.out (by rfl) (by rfl) ?_ | refine wpList_pos (by rfl) _ (by rfl) b9 Q9 Z9 HZ9.out (by rfl) HQ9.out ?_)
                        intro w12 hq hb hz
                        try simp only [Act.put, List.setIfInBounds_toArray, List.set_cons_zero, List.set_cons_succ]
                        have HL1 := Lib.hid (show b1 < w11.heap.size ∧ b7 < w11.heap.size ∧ b9 < w11.heap.size ∧ w.heap.size ≤ w11.heap.size from ⟨HU.out.p.lt, HQ7.out.lt, HQ9.out.lt, HU.out.b.size⟩)
                        replace HU := Lib.hid (HGO.out _ _ _ HU.out hb)
                        replace HQ7 := Lib.hid (HQ7.out.go hb)
                        replace HQ9 := Lib.hid (HQ9.out.go hb)
                        have HQ10 := Lib.hid hq
                        clear hb hq hz
                        generalize w11.heap.size = b10 at HL1 HQ10 ⊢
                        have e1 := HQ10.out.cell 131 (by omega)
                        have e3 := HQ10.out.fr 131
                        generalize Q9 131 = z0 at e1
                        have HQ11 := Lib.hid (HQ10.out.set 131 1 (by omega))
                        obtain ⟨Z10, hZ10⟩ : ∃ Z, Z = (pc (setN Q9 131 1)).toArray := ⟨_, rfl⟩
                        have HZ10 := Lib.hid hZ10
                        clear hZ10
                        go_upto_region 33 with (fail)
                        refine forget_B (fun W => TE B w W b1 ∧ PB W b7 Q7 ∧ PB W b9 Q9 ∧ PB W b10 (setN Q9 131 1)) ⟨TE.other hB HU.out b10 _ HL1.out.1 HL1.out.2.2.2 _, HQ7.out.other (by have := HL1.out.2.1; omega) _ _, HQ9.out.other (by have := HL1.out.2.2.1; omega) _ _, HQ11.out⟩ ?_
                        clear HU HQ7 HQ9 HQ10 HQ11 e1 e3 HL1
                        rintro w13 ⟨hu, hq7, hq9, hq10⟩
                        have HU := Lib.hid hu
                        have HQ7 := Lib.hid hq7
                        have HQ9 := Lib.hid hq9
                        have HQ10 := Lib.hid hq10
                        clear hu hq7 hq9 hq10
                        go_wp2_with (refine wpList_pos (by rfl) _ (by rfl) b9 Q9 Z9 HZ9.out (by rfl) HQ9.out ?_)
                        refine (tellsE hB HU.out Q9 Z9 HZ9.out 0 0 0 none 0 0 (fun _ => 0) (fun _ => ⟨rfl, rfl⟩) (.inl rfl) (Nat.zero_le _)).mono ?_
                        rintro e w14 ⟨rfl, hu, hb⟩
                        replace HU := Lib.hid hu
                        replace HQ7 := Lib.hid (HQ7.out.go hb)
                        replace HQ10 := Lib.hid (HQ10.out.go hb)
                        clear hu hb HQ9
                        go_wp2_with (refine wpList_pos (by rfl) _ (by rfl) b10 (setN Q9 131 1) Z10 HZ10.out (by rfl) HQ10.out ?_)
                        refine (tellsE hB HU.out _ Z10 HZ10.out 0 0 0 none 0 0 (fun _ => 0) (fun _ => ⟨rfl, rfl⟩) (.inl rfl) (Nat.zero_le _)).mono ?_
                        rintro e w15 ⟨rfl, hu, hb⟩
                        replace HU := Lib.hid hu
                        replace HQ7 := Lib.hid (HQ7.out.go hb)
                        clear hu hb HQ10
                        go_wp2
                        go_roundw
                        case rel => exact ⟨8, by omega, by go_num, HU.out, HQ7.out⟩
                        case measure => simp [intOf]
                · skip
                  obtain ⟨z, hz⟩ : ∃ z, (j : Int) + 8 = z := ⟨_, rfl⟩
                  have hz2 : (j : Int) + 8 = z := by omega
                  have hzw : IntKind.i64.wrap z = z := IntWalk.i64_in _ (by omega)
                  by_cases hzb : z < 0 ∨ 63 < z
                  · rcases hzb with hzb | hzb
                    try any_goals (exfalso; omega)
                    all_goals
                      go_wp2
                      go_roundw
                      case rel => exact ⟨24, by omega, by go_num, HU.out, HQ7.out⟩
                      case measure => simp [intOf]
                  · obtain ⟨m, hm⟩ : ∃ m : Nat, z = (m : Int) := ⟨z.toNat, by omega⟩
                    subst hm
                    have hm64 : m < 64 := by omega
                    have hzn1 : ¬ (m : Int) < 0 := by omega
                    have hzn2 : ¬ 63 < (m : Int) := by omega
                    have hm0 : (0 : Int) ≤ m := by omega
                    have hm1 : (m : Int) < 64 := by omega
                    clear hzb
                    go_wp2_with (first | refine wpList_new Z7 Q7 HZ7.out (by rfl) (by rfl) ?_ | refine wpList_pos (by rfl) _ (by rfl) b7 Q7 Z7 HZ7.out (by rfl) HQ7.out ?_)
                    intro w8 hq hb hzz
                    try simp only [Act.put, List.setIfInBounds_toArray, List.set_cons_zero, List.set_cons_succ]
                    have HL1 := Lib.hid (show b1 < wr.heap.size ∧ b7 < wr.heap.size ∧ w.heap.size ≤ wr.heap.size from ⟨HU.out.p.lt, HQ7.out.lt, HU.out.b.size⟩)
                    replace HU := Lib.hid (HGO.out _ _ _ HU.out hb)
                    replace HQ7 := Lib.hid (HQ7.out.go hb)
                    have HQ8 := Lib.hid hq
                    clear hb hq hzz
                    obtain ⟨b9, hb9⟩ : ∃ b, wr.heap.size = b := ⟨_, rfl⟩
                    rw [hb9] at HL1 HQ8 ⊢
                    clear hb9
                    have e1 := HQ8.out.cell (m * 2) (by omega)
                    have e2 := HQ8.out.cell (m * 2 + 1) (by omega)
                    have e3 := HQ8.out.fr (m * 2)
                    have e4 := HQ8.out.fr (m * 2 + 1)
                    generalize Q7 (m * 2) = z1 at e1
                    generalize Q7 (m * 2 + 1) = z2 at e2
                    go_upto_region 29 with (fail)
                    obtain ⟨Q8, hQ8⟩ : ∃ Q, setN (setN Q7 (m * 2) 1) (m * 2 + 1) (1 - (sd : Int)) = Q := ⟨_, rfl⟩
                    refine forget_B (fun W => TE B w W b1 ∧ PB W b7 Q7 ∧ PB W b9 Q8) ⟨TE.other hB (TE.other hB HU.out b9 _ HL1.out.1 HL1.out.2.2 _) b9 _ HL1.out.1 HL1.out.2.2 _, (HQ7.out.other (by have := HL1.out.2.1; omega) _ _).other (by have := HL1.out.2.1; omega) _ _, by rw [← hQ8]; exact (HQ8.out.set (m * 2) 1 (by omega)).set (m * 2 + 1) (1 - (sd : Int)) (by omega)⟩ ?_
                    clear HU HQ7 HQ8 e1 e2 e3 e4 hz hz2 hzw hzn1 hzn2 hm0 hm1 hQ8
                    rintro w10 ⟨hu, hq7, hq9⟩
                    have HU := Lib.hid hu
                    have HQ7 := Lib.hid hq7
                    have HQ8 := Lib.hid hq9
                    clear hu hq7 hq9
                    obtain ⟨y, hy⟩ : ∃ y, (j : Int) - 8 = y := ⟨_, rfl⟩
                    have hy2 : (j : Int) + -8 = y := by omega
                    have hy3 : (j : Int) - 8 = y := by omega
                    have hyw : IntKind.i64.wrap y = y := IntWalk.i64_in _ (by omega)
                    have hyc : (y < 0) ∨ (0 ≤ y ∧ 64 ≤ y) ∨ (y = 4) ∨ (y = 60) ∨ (0 ≤ y ∧ y < 64 ∧ (y != 4) = true ∧ (y != 60) = true) := by
                      by_cases h1 : y < 0
                      · exact .inl h1
                      · by_cases h2 : 64 ≤ y
                        · exact .inr (.inl ⟨by omega, h2⟩)
                        · by_cases h3 : y = 4
                          · exact .inr (.inr (.inl h3))
                          · by_cases h4 : y = 60
                            · exact .inr (.inr (.inr (.inl h4)))
                            · exact .inr (.inr (.inr (.inr ⟨by omega, by omega, by simpa using h3, by simpa using h4⟩)))
                    by_cases hgood : 0 ≤ y ∧ y < 64 ∧ (y != 4) = true ∧ (y != 60) = true
                    · obtain ⟨g1, g2, g3, g4⟩ := hgood
                      clear hyc
                      obtain ⟨m2, hm2⟩ : ∃ m : Nat, y = (m : Int) := ⟨y.toNat, by omega⟩
                      subst hm2
                      have hm64' : m2 < 64 := by omega
                      have e1 := HQ8.out.cell (m2 * 2) (by omega)
                      have e2 := HQ8.out.cell (m2 * 2 + 1) (by omega)
                      have e3 := HQ8.out.fr (m2 * 2)
                      have e4 := HQ8.out.fr (m2 * 2 + 1)
                      generalize Q8 (m2 * 2) = z1 at e1
                      generalize Q8 (m2 * 2 + 1) = z2 at e2
                      obtain ⟨Q9, hQ9⟩ : ∃ Q, setN (setN Q8 (m2 * 2) 0) (m2 * 2 + 1) 0 = Q := ⟨_, rfl⟩
                      have HFIN := Lib.hid (show (fun W => TE B w W b1 ∧ PB W b7 Q7 ∧ PB W b9 Q9) ((w10.setCell ⟨b9, m2 * 2, none⟩ (.int .i64 0)).setCell ⟨b9, m2 * 2 + 1, none⟩ (.int .i64 0)) from
                        ⟨TE.other hB (TE.other hB HU.out b9 _ HL1.out.1 HL1.out.2.2 _) b9 _ HL1.out.1 HL1.out.2.2 _, (HQ7.out.other (by have := HL1.out.2.1; omega) _ _).other (by have := HL1.out.2.1; omega) _ _, by rw [← hQ9]; exact (HQ8.out.set (m2 * 2) 0 (by omega)).set (m2 * 2 + 1) 0 (by omega)⟩)
                      clear HU HQ7 HQ8 hQ9 HL1
                      go_upto_region 31 with (fail)
                      refine forget_B (fun W => TE B w W b1 ∧ PB W b7 Q7 ∧ PB W b9 Q9) HFIN.out ?_
                      clear HFIN
                      rintro w11 ⟨hu, hq7, hq9⟩
                      have HU := Lib.hid hu
                      have HQ7 := Lib.hid hq7
                      have HQ9 := Lib.hid hq9
                      obtain ⟨Z9, hZ9⟩ : ∃ Z, Z = (pc Q9).toArray := ⟨_, rfl⟩
                      have HZ9 := Lib.hid hZ9
                      clear hu hq7 hq9 hZ9
                      go_wp2_with (first | refine wpList_new Z9 Q9 HZ9.out (by rfl) (by rfl) ?_ | refine wpList_pos (by rfl) _ (by rfl) b9 Q9 Z9 HZ9.out (by rfl) HQ9.out ?_)
                      intro w12 hq hb hz
                      try simp only [Act.put, List.setIfInBounds_toArray, List.set_cons_zero, List.set_cons_succ]
                      have HL1 := Lib.hid (show b1 < w11.heap.size ∧ b7 < w11.heap.size ∧ b9 < w11.heap.size ∧ w.heap.size ≤ w11.heap.size from ⟨HU.out.p.lt, HQ7.out.lt, HQ9.out.lt, HU.out.b.size⟩)
                      replace HU := Lib.hid (HGO.out _ _ _ HU.out hb)
                      replace HQ7 := Lib.hid (HQ7.out.go hb)
                      replace HQ9 := Lib.hid (HQ9.out.go hb)
                      have HQ10 := Lib.hid hq
                      clear hb hq hz
                      generalize w11.heap.size = b10 at HL1 HQ10 ⊢
                      have e1 := HQ10.out.cell 131 (by omega)
                      have e3 := HQ10.out.fr 131
                      generalize Q9 131 = z0 at e1
                      have HQ11 := Lib.hid (HQ10.out.set 131 1 (by omega))
                      obtain ⟨Z10, hZ10⟩ : ∃ Z, Z = (pc (setN Q9 131 1)).toArray := ⟨_, rfl⟩
                      have HZ10 := Lib.hid hZ10
                      clear hZ10
                      go_upto_region 33 with (fail)
                      refine forget_B (fun W => TE B w W b1 ∧ PB W b7 Q7 ∧ PB W b9 Q9 ∧ PB W b10 (setN Q9 131 1)) ⟨TE.other hB HU.out b10 _ HL1.out.1 HL1.out.2.2.2 _, HQ7.out.other (by have := HL1.out.2.1; omega) _ _, HQ9.out.other (by have := HL1.out.2.2.1; omega) _ _, HQ11.out⟩ ?_
                      clear HU HQ7 HQ9 HQ10 HQ11 e1 e3 HL1
                      rintro w13 ⟨hu, hq7, hq9, hq10⟩
                      have HU := Lib.hid hu
                      have HQ7 := Lib.hid hq7
                      have HQ9 := Lib.hid hq9
                      have HQ10 := Lib.hid hq10
                      clear hu hq7 hq9 hq10
                      go_wp2_with (refine wpList_pos (by rfl) _ (by rfl) b9 Q9 Z9 HZ9.out (by rfl) HQ9.out ?_)
                      refine (tellsE hB HU.out Q9 Z9 HZ9.out 0 0 0 none 0 0 (fun _ => 0) (fun _ => ⟨rfl, rfl⟩) (.inl rfl) (Nat.zero_le _)).mono ?_
                      rintro e w14 ⟨rfl, hu, hb⟩
                      replace HU := Lib.hid hu
                      replace HQ7 := Lib.hid (HQ7.out.go hb)
                      replace HQ10 := Lib.hid (HQ10.out.go hb)
                      clear hu hb HQ9
                      go_wp2_with (refine wpList_pos (by rfl) _ (by rfl) b10 (setN Q9 131 1) Z10 HZ10.out (by rfl) HQ10.out ?_)
                      refine (tellsE hB HU.out _ Z10 HZ10.out 0 0 0 none 0 0 (fun _ => 0) (fun _ => ⟨rfl, rfl⟩) (.inl rfl) (Nat.zero_le _)).mono ?_
                      rintro e w15 ⟨rfl, hu, hb⟩
                      replace HU := Lib.hid hu
                      replace HQ7 := Lib.hid (HQ7.out.go hb)
                      clear hu hb HQ10
                      go_wp2
                      go_roundw
                      case rel => exact ⟨24, by omega, by go_num, HU.out, HQ7.out⟩
                      case measure => simp [intOf]
                    · obtain ⟨Q9, hQ9⟩ : ∃ Q, Q8 = Q := ⟨_, rfl⟩
                      rw [hQ9] at HQ8
                      have HFIN := Lib.hid (show (fun W => TE B w W b1 ∧ PB W b7 Q7 ∧ PB W b9 Q9) w10 from ⟨HU.out, HQ7.out, HQ8.out⟩)
                      clear HU HQ7 HQ8 hQ9 HL1
                      rcases hyc with h | ⟨h, h'⟩ | h | h | h
                      case inr.inr.inr.inr => exact absurd h hgood
                      try any_goals (exfalso; omega)
                      all_goals
                        clear hgood
                        try subst h
                        go_upto_region 31 with (fail)
                        refine forget_B (fun W => TE B w W b1 ∧ PB W b7 Q7 ∧ PB W b9 Q9) HFIN.out ?_
                        clear HFIN
                        rintro w11 ⟨hu, hq7, hq9⟩
                        have HU := Lib.hid hu
                        have HQ7 := Lib.hid hq7
                        have HQ9 := Lib.hid hq9
                        obtain ⟨Z9, hZ9⟩ : ∃ Z, Z = (pc Q9).toArray := ⟨_, rfl⟩
                        have HZ9 := Lib.hid hZ9
                        clear hu hq7 hq9 hZ9
                        go_wp2_with (first | refine wpList_new Z9 Q9 HZ9.out (by rfl) (by rfl) ?_ | refine wpList_pos (by rfl) _ (by rfl) b9 Q9 Z9 HZ9.out (by rfl) HQ9.out ?_)
                        intro w12 hq hb hz
                        try simp only [Act.put, List.setIfInBounds_toArray, List.set_cons_zero, List.set_cons_succ]
                        have HL1 := Lib.hid (show b1 < w11.heap.size ∧ b7 < w11.heap.size ∧ b9 < w11.heap.size ∧ w.heap.size ≤ w11.heap.size from ⟨HU.out.p.lt, HQ7.out.lt, HQ9.out.lt, HU.out.b.size⟩)
                        replace HU := Lib.hid (HGO.out _ _ _ HU.out hb)
                        replace HQ7 := Lib.hid (HQ7.out.go hb)
                        replace HQ9 := Lib.hid (HQ9.out.go hb)
                        have HQ10 := Lib.hid hq
                        clear hb hq hz
                        generalize w11.heap.size = b10 at HL1 HQ10 ⊢
                        have e1 := HQ10.out.cell 131 (by omega)
                        have e3 := HQ10.out.fr 131
                        generalize Q9 131 = z0 at e1
                        have HQ11 := Lib.hid (HQ10.out.set 131 1 (by omega))
                        obtain ⟨Z10, hZ10⟩ : ∃ Z, Z = (pc (setN Q9 131 1)).toArray := ⟨_, rfl⟩
                        have HZ10 := Lib.hid hZ10
                        clear hZ10
                        go_upto_region 33 with (fail)
                        refine forget_B (fun W => TE B w W b1 ∧ PB W b7 Q7 ∧ PB W b9 Q9 ∧ PB W b10 (setN Q9 131 1)) ⟨TE.other hB HU.out b10 _ HL1.out.1 HL1.out.2.2.2 _, HQ7.out.other (by have := HL1.out.2.1; omega) _ _, HQ9.out.other (by have := HL1.out.2.2.1; omega) _ _, HQ11.out⟩ ?_
                        clear HU HQ7 HQ9 HQ10 HQ11 e1 e3 HL1
                        rintro w13 ⟨hu, hq7, hq9, hq10⟩
                        have HU := Lib.hid hu
                        have HQ7 := Lib.hid hq7
                        have HQ9 := Lib.hid hq9
                        have HQ10 := Lib.hid hq10
                        clear hu hq7 hq9 hq10
                        go_wp2_with (refine wpList_pos (by rfl) _ (by rfl) b9 Q9 Z9 HZ9.out (by rfl) HQ9.out ?_)
                        refine (tellsE hB HU.out Q9 Z9 HZ9.out 0 0 0 none 0 0 (fun _ => 0) (fun _ => ⟨rfl, rfl⟩) (.inl rfl) (Nat.zero_le _)).mono ?_
                        rintro e w14 ⟨rfl, hu, hb⟩
                        replace HU := Lib.hid hu
                        replace HQ7 := Lib.hid (HQ7.out.go hb)
                        replace HQ10 := Lib.hid (HQ10.out.go hb)
                        clear hu hb HQ9
                        go_wp2_with (refine wpList_pos (by rfl) _ (by rfl) b10 (setN Q9 131 1) Z10 HZ10.out (by rfl) HQ10.out ?_)
                        refine (tellsE hB HU.out _ Z10 HZ10.out 0 0 0 none 0 0 (fun _ => 0) (fun _ => ⟨rfl, rfl⟩) (.inl rfl) (Nat.zero_le _)).mono ?_
                        rintro e w15 ⟨rfl, hu, hb⟩
                        replace HU := Lib.hid hu
                        replace HQ7 := Lib.hid (HQ7.out.go hb)
                        clear hu hb HQ10
                        go_wp2
                        go_roundw
                        case rel => exact ⟨24, by omega, by go_num, HU.out, HQ7.out⟩
                        case measure => simp [intOf]
                · go_wp2
                  go_roundw
                  case rel => exact ⟨sd + 1, by omega, by go_num, HU.out⟩
                  case measure => simp [intOf]; omega
            · obtain rfl : sd = 2 := by omega
              go_wp2
              go_roundw
              case rel => exact ⟨j + 1, by omega, by go_num, HU.out⟩
              case measure => simp [intOf]; omega
    · obtain rfl : j = 64 := by omega
      clear hlt hj
      rw [show ((64 : Nat) : Int) = 64 from rfl]
      go_upto_region 36 with (fail)
      refine forget_B (fun W => TE B w W b1 ∧ RS W wr.heap.size endsN) ⟨HGO.out _ _ _ HU.out (below_new _), ⟨by simp, fun i hi => by rw [cell_of_row _ _ i _ _ (0, 0) (sl_at rfl)]; exact ends_cell i hi⟩⟩ ?_
      generalize wr.heap.size = bs
      clear HU
      rintro w4 ⟨hu, hs⟩
      have HU := Lib.hid hu
      have HS := Lib.hid hs
      clear hu hs
      go_wp2
      go_loopw [12] (fun i wr => ∃ i' : Nat, i' ≤ 17 ∧ i = .int .i64 (i' : Int) ∧ TE B w wr b1 ∧ RS wr bs endsN) (fun i _ => 17 - (intOf i).toNat)
      case atStart => exact ⟨0, Nat.zero_le _, rfl, HU.out, HS.out⟩
      case round =>
        clear HU HS
        obtain ⟨i, hi, rfl, h1, h2⟩ := hrel
        have HU := Lib.hid h1
        have HS := Lib.hid h2
        clear h1 h2
        by_cases hlt : i < 17
        · have e0 := HS.out.cell i hlt
          have i0 : (0 : Int) ≤ i := by omega
          have i1 : (i : Int) < 17 := by omega
          obtain ⟨n, hn⟩ : ∃ n, endsN i = n := ⟨_, rfl⟩
          rw [hn] at e0
          clear hn
          go_upto_region 40 with (fail)
          refine wp_region_lit ?_
          refine wpList_pos (by rfl) _ (by rfl) b1 startN X HX.out (by rfl) HU.out.p ?_
          try simp only [Act.put, List.setIfInBounds_toArray, List.set_cons_zero, List.set_cons_succ]
          refine wpList_pos (by rfl) _ (by rfl) b1 startN X HX.out (by rfl) HU.out.p ?_
          try simp only [Act.put, List.setIfInBounds_toArray, List.set_cons_zero, List.set_cons_succ]
          refine wpList_pos (by rfl) _ (by rfl) b1 startN X HX.out (by rfl) HU.out.p ?_
          try simp only [Act.put, List.setIfInBounds_toArray, List.set_cons_zero, List.set_cons_succ]
          refine wpList_pos (by rfl) _ (by rfl) b1 startN X HX.out (by rfl) HU.out.p ?_
          try simp only [Act.put, List.setIfInBounds_toArray, List.set_cons_zero, List.set_cons_succ]
          refine wpList_pos (by rfl) _ (by rfl) b1 startN X HX.out (by rfl) HU.out.p ?_
          try simp only [Act.put, List.setIfInBounds_toArray, List.set_cons_zero, List.set_cons_succ]
          refine wpList_five startN X HX.out (by rfl) (by rfl) (by rfl) (by rfl) (by rfl) ?_
          intro w5 hb hr5
          try simp only [Act.put, List.setIfInBounds_toArray, List.set_cons_zero, List.set_cons_succ]
          have HL1 := Lib.hid (show b1 < wr.heap.size ∧ bs < wr.heap.size ∧ w.heap.size ≤ wr.heap.size from ⟨HU.out.p.lt, HS.out.lt, HU.out.b.size⟩)
          replace HU := Lib.hid (HGO.out _ _ _ HU.out hb)
          replace HS := Lib.hid (HS.out.go hb)
          clear hb e0
          generalize wr.heap.size = bl at hr5 HL1 ⊢
          have e1 := hr5.cell 128 (by omega)
          have e2 := hr5.cell 262 (by omega)
          have e3 := hr5.cell 396 (by omega)
          have e4 := hr5.cell 530 (by omega)
          have e5 := hr5.cell 664 (by omega)
          have g1 := hr5.fr 128
          have g2 := hr5.fr 262
          have g3 := hr5.fr 396
          have g4 := hr5.fr 530
          have g5 := hr5.fr 664
          have HR := Lib.hid hr5
          clear hr5
          go_upto_region 46 with (fail)
          refine forget_B (fun W => TE B w W b1 ∧ RS W bs endsN ∧ ∃ f, R5 W bl f)
            ⟨TE.other hB (TE.other hB (TE.other hB (TE.other hB (TE.other hB HU.out bl _ HL1.out.1 HL1.out.2.2 _) bl _ HL1.out.1 HL1.out.2.2 _) bl _ HL1.out.1 HL1.out.2.2 _) bl _ HL1.out.1 HL1.out.2.2 _) bl _ HL1.out.1 HL1.out.2.2 _,
             ((((HS.out.other (by have := HL1.out.2.1; omega) _ _).other (by have := HL1.out.2.1; omega) _ _).other (by have := HL1.out.2.1; omega) _ _).other (by have := HL1.out.2.1; omega) _ _).other (by have := HL1.out.2.1; omega) _ _,
             _, ((((HR.out.set 128 n (by omega)).set 262 n (by omega)).set 396 n (by omega)).set 530 n (by omega)).set 664 n (by omega)⟩ ?_
          clear HU HS HR HL1 e1 e2 e3 e4 e5 g1 g2 g3 g4 g5
          rintro w6 ⟨hu, hs, f, hr⟩
          have HU := Lib.hid hu
          have HS := Lib.hid hs
          have HR := Lib.hid hr
          clear hu hs hr
          go_wp2
          go_loopw [15] (fun k wr => ∃ kk : Nat, kk ≤ 5 ∧ k = .int .i64 (kk : Int) ∧ TE B w wr b1 ∧ RS wr bs endsN ∧ R5 wr bl f) (fun k _ => 5 - (intOf k).toNat)
          case atStart => exact ⟨0, Nat.zero_le _, rfl, HU.out, HS.out, HR.out⟩
          case round =>
            clear HU HS HR
            obtain ⟨kk, hkk, rfl, h1, h2, h3⟩ := hrel
            have HU := Lib.hid h1
            have HS := Lib.hid h2
            have HR := Lib.hid h3
            clear h1 h2 h3
            by_cases hlt5 : kk < 5
            · obtain ⟨Z, hZ⟩ : ∃ Z, Z = (pc fun i => f (kk * 133 + i)).toArray := ⟨_, rfl⟩
              have HZ := Lib.hid hZ
              clear hZ
              have n0 : (0 : Int) ≤ kk := by omega
              have n1 : (kk : Int) < 5 := by omega
              go_wp2_with (refine wpList_posO (by rfl) _ (by rfl) bl (kk * 133) _ Z HZ.out (by rfl) (HR.out.range kk hlt5) ?_)
              refine (tellsE hB (HGO.out _ _ _ HU.out (below_new _)) _ Z HZ.out n 0 _ _ 1 1 _ (fun e => by cases e) (row_one wr n _) (by simp)).mono ?_
              rintro e w7 ⟨rfl, hu, hb⟩
              replace HU := Lib.hid hu
              replace HS := Lib.hid ((HS.out.go (below_new _)).go hb)
              replace HR := Lib.hid ((HR.out.go (below_new _)).go hb)
              clear hu hb
              go_wp2_with (refine wpList_posO (by rfl) _ (by rfl) bl (kk * 133) _ Z HZ.out (by rfl) (HR.out.range kk hlt5) ?_)
              refine (tellsE hB (HGO.out _ _ _ HU.out (below_new _)) _ Z HZ.out 4 n _ _ 2 2 _ (fun e => by cases e) (row_pair w7 3 n _) (by simp)).mono ?_
              rintro e w8 ⟨rfl, hu, hb⟩
              replace HU := Lib.hid hu
              replace HS := Lib.hid ((HS.out.go (below_new _)).go hb)
              replace HR := Lib.hid ((HR.out.go (below_new _)).go hb)
              clear hu hb
              go_wp2
              go_roundw
              case rel => exact ⟨kk + 1, by omega, by go_num, HU.out, HS.out, HR.out⟩
              case measure => simp [intOf]; omega
            · obtain rfl : kk = 5 := by omega
              go_wp2
              go_roundw
              case rel => exact ⟨i + 1, by omega, by go_num, HU.out, HS.out⟩
              case measure => simp [intOf]; omega
        · obtain rfl : i = 17 := by omega
          clear hlt hi HS
          rw [show ((17 : Nat) : Int) = 17 from rfl]
          go_wp2
          go_loopw [16] (fun i wr => ∃ c : Nat, c ≤ 16 ∧ i = .int .i64 (c : Int) ∧ TE B w wr b1) (fun i _ => 16 - (intOf i).toNat)
          case atStart => exact ⟨0, Nat.zero_le _, rfl, HU.out⟩
          case round =>
            clear HU
            obtain ⟨c, hc, rfl, h1⟩ := hrel
            have HU := Lib.hid h1
            clear h1
            by_cases hlt16 : c < 16
            · have c0 : (0 : Int) ≤ c := by omega
              have c1 : (c : Int) < 16 := by omega
              go_wp2
              go_loopw [17] (fun i wr => ∃ k : Nat, k ≤ 6 ∧ i = .int .i64 (k : Int) ∧ TE B w wr b1) (fun i _ => 6 - (intOf i).toNat)
              case atStart => exact ⟨0, Nat.zero_le _, rfl, HU.out⟩
              case round =>
                clear HU
                obtain ⟨k, hk, rfl, h1⟩ := hrel
                have HU := Lib.hid h1
                clear h1
                by_cases hlt6 : k < 6
                · obtain ⟨hcc, hcv⟩ := corn_cell k hlt6
                  have hcg := corn_get k hlt6
                  obtain ⟨v, hv⟩ : ∃ v, cornN k = v := ⟨_, rfl⟩
                  rw [hv] at hcc hcv hcg
                  clear hv
                  have v0 : (0 : Int) ≤ v := by omega
                  have v1 : (v : Int) < 64 := by omega
                  have n0 : (0 : Int) ≤ k := by omega
                  have n1 : (k : Int) < 6 := by omega
                  go_wp2_with (first | refine wpList_new X startN HX.out (by rfl) (by rfl) ?_ | refine wpList_pos (by rfl) _ (by rfl) b1 startN X HX.out (by rfl) HU.out.p ?_)
                  intro w5 hq hb hz
                  try simp only [Act.put, List.setIfInBounds_toArray, List.set_cons_zero, List.set_cons_succ]
                  have HL1 := Lib.hid (show b1 < wr.heap.size ∧ w.heap.size ≤ wr.heap.size from ⟨HU.out.p.lt, HU.out.b.size⟩)
                  replace HU := Lib.hid (HGO.out _ _ _ HU.out hb)
                  have HQ := Lib.hid hq
                  clear hb hq hz
                  generalize wr.heap.size = b18 at HL1 HQ ⊢
                  have e1 := HQ.out.cell 129 (by omega)
                  have e3 := HQ.out.fr 129
                  generalize startN 129 = z1 at e1
                  obtain ⟨Q0, hQ0⟩ : ∃ Q, setN startN 129 (c : Int) = Q := ⟨_, rfl⟩
                  go_upto_region 59 with (fail)
                  refine forget_B (fun W => TE B w W b1 ∧ PB W b18 Q0) ⟨TE.other hB HU.out b18 _ HL1.out.1 HL1.out.2 _, by rw [← hQ0]; exact HQ.out.set 129 (c : Int) (by omega)⟩ ?_
                  clear HU HQ e1 e3 hQ0
                  rintro w6 ⟨hu, hq⟩
                  have HU := Lib.hid hu
                  have HQ := Lib.hid hq
                  have e1 := hq.cell (v * 2) (by omega)
                  have e2 := hq.cell (v * 2 + 1) (by omega)
                  have e3 := hq.fr (v * 2)
                  have e4 := hq.fr (v * 2 + 1)
                  have hlq := hq.lt
                  have hne1 : ¬ b18 = w6.heap.size := by omega
                  have hne2 : ¬ w6.heap.size = b18 := by omega
                  clear hu hq
                  generalize Q0 (v * 2) = z1 at e1
                  generalize Q0 (v * 2 + 1) = z2 at e2
                  obtain ⟨Q, hQ⟩ : ∃ Q, setN (setN Q0 (v * 2) 0) (v * 2 + 1) 0 = Q := ⟨_, rfl⟩
                  obtain ⟨Z, hZ⟩ : ∃ Z, Z = (pc Q).toArray := ⟨_, rfl⟩
                  have HZ := Lib.hid hZ
                  clear hZ
                  go_upto_region 60 with (fail)
                  refine forget_B (fun W => TE B w W b1 ∧ PB W b18 Q) ⟨HGO.out _ _ _ (TE.other hB (TE.other hB HU.out b18 _ HL1.out.1 HL1.out.2 _) b18 _ HL1.out.1 HL1.out.2 _) (below_new _), by rw [← hQ]; exact ((HQ.out.set (v * 2) 0 (by omega)).set (v * 2 + 1) 0 (by omega)).alloc _⟩ ?_
                  clear HU HQ e1 e2 e3 e4 hQ hlq hne1 hne2 hcc hcg
                  rintro w7 ⟨hu, hq⟩
                  have HU := Lib.hid hu
                  have HQ := Lib.hid hq
                  clear hu hq
                  go_wp2_with (refine wpList_pos (by rfl) _ (by rfl) b18 Q Z HZ.out (by rfl) HQ.out ?_)
                  refine (tellsE hB HU.out Q Z HZ.out 0 0 0 none 0 0 (fun _ => 0) (fun _ => ⟨rfl, rfl⟩) (.inl rfl) (Nat.zero_le _)).mono ?_
                  rintro e w8 ⟨rfl, hu, hb⟩
                  replace HU := Lib.hid hu
                  replace HQ := Lib.hid (HQ.out.go hb)
                  clear hu hb
                  have e1 := HQ.out.cell 40 (by omega)
                  have e2 := HQ.out.cell 41 (by omega)
                  have e3 := HQ.out.fr 40
                  have e4 := HQ.out.fr 41
                  generalize Q 40 = z1 at e1
                  generalize Q 41 = z2 at e2
                  obtain ⟨kd, hkd⟩ : ∃ d, (k : Int).tmod 2 = d := ⟨_, rfl⟩
                  have hkd2 : (k : Int) % 2 = kd := by rw [← hkd]; exact (Int.tmod_eq_emod_of_nonneg (by omega)).symm
                  obtain ⟨Q2, hQ2⟩ : ∃ Q', setN (setN Q 40 6) 41 kd = Q' := ⟨_, rfl⟩
                  obtain ⟨Z2, hZ2⟩ : ∃ Z, Z = (pc Q2).toArray := ⟨_, rfl⟩
                  have HZ2 := Lib.hid hZ2
                  clear hZ2
                  go_upto_region 63 with (fail)
                  refine forget_B (fun W => TE B w W b1 ∧ PB W b18 Q2) ⟨TE.other hB (TE.other hB HU.out b18 _ HL1.out.1 HL1.out.2 _) b18 _ HL1.out.1 HL1.out.2 _, by rw [← hQ2]; exact (HQ.out.set 40 6 (by omega)).set 41 kd (by omega)⟩ ?_
                  clear HU HQ e1 e2 e3 e4 hQ2 HL1
                  rintro w9 ⟨hu, hq⟩
                  have HU := Lib.hid hu
                  have HQ := Lib.hid hq
                  clear hu hq
                  go_wp2_with (refine wpList_pos (by rfl) _ (by rfl) b18 Q2 Z2 HZ2.out (by rfl) HQ.out ?_)
                  refine (tellsE hB HU.out Q2 Z2 HZ2.out 0 0 0 none 0 0 (fun _ => 0) (fun _ => ⟨rfl, rfl⟩) (.inl rfl) (Nat.zero_le _)).mono ?_
                  rintro e w10 ⟨rfl, hu, hb⟩
                  replace HU := Lib.hid hu
                  clear hu hb HQ
                  go_wp2
                  go_roundw
                  case rel => exact ⟨k + 1, by omega, by go_num, HU.out⟩
                  case measure => simp [intOf]; omega
                · obtain rfl : k = 6 := by omega
                  go_wp2
                  go_roundw
                  case rel => exact ⟨c + 1, by omega, by go_num, HU.out⟩
                  case measure => simp [intOf]; omega
            · obtain rfl : c = 16 := by omega
              go_wp2_with fail
              refine (awakeB_any _ B HU.out.g (Nat.le_trans hB HU.out.b.size)).mono ?_
              rintro e w5 ⟨rfl, hb⟩
              go_wp2
              go_ret
              exact ⟨rfl, HU.out.b.trans (hb.mono HU.out.b.size)⟩
end Go.Proofs.YteahikjnlhlmmaaDoor
