/-
  Merged: Sq, SqA, SqR, SqB, Bits, SqC, Words, Loops, Put, Bytes, Awake, Math, Marks, LentInts.
-/
import Derived.Test.YtkncfeijlmomaaaGreatDoorProg
import Derived.WalkKit
import Derived.WalkSpells
import Derived.WalkLawsBesides
import Derived.Lib.Hide
import Derived.Handy
import Derived.Deep.Cut
import Derived.Deep.CutRange
import Derived.Deep.RegionWith
import Derived.Deep.RegionHeld3
import Derived.Laws.IdiomStrings
import Derived.Deep.RegionLaw
import Derived.Deep.AppendLies
import Derived.OwnWalk
import Derived.Deep.QuietTactic
import Derived.BigQuiet

namespace Go.Proofs.YtkncfeijlmomaaaGreatDoor
open Go.RowKit
set_option linter.unusedSimpArgs false
set_option linter.unusedVariables false

/-- a number of a machine's int -/
def I64 (n : Int) : Prop := -9223372036854775808 ≤ n ∧ n ≤ 9223372036854775807
/-- is it a file and a rank of the board? -/
def onB (f r : Int) : Bool := decide (0 ≤ f) && decide (f < 8) && decide (0 ≤ r) && decide (r < 8)
/-- is it a square? -/
def sq (s : Int) : Bool := decide (0 ≤ s) && decide (s < 64)
theorem onB_iff (f r : Int) : onB f r = true ↔ 0 ≤ f ∧ f < 8 ∧ 0 ≤ r ∧ r < 8 := by
  unfold onB; simp [and_assoc]
theorem sq_iff (s : Int) : sq s = true ↔ 0 ≤ s ∧ s < 64 := by unfold sq; simp
/-- the square's file, rank, number; -1 of none -/
def sF (s : Int) : Int := if sq s then s % 8 else -1
def sR (s : Int) : Int := if sq s then s / 8 else -1
def sN (s : Int) : Int := if sq s then s else -1
def sAt (f r : Int) : Int := if onB f r then 8 * r + f else -1
/-- the square so many files and ranks on -/
def stp (s f r : Int) : Int := if sq s && onB (s % 8 + f) (s / 8 + r) then s + f + 8 * r else -1
def dark (s : Int) : Bool := sq s && decide ((s % 8 + s / 8) % 2 = 0)

theorem q_b {a b : Bool} (h : a = b) : Ending.returned (.bool a) = .returned (.bool b) := by rw [h]
theorem q_i {k : IntKind} {a b : Int} (h : a = b) : Ending.returned (.int k a) = .returned (.int k b) := by rw [h]


theorem onB_cases (f r : Int) : (f < 0 ∧ onB f r = false) ∨ (8 ≤ f ∧ onB f r = false) ∨ (0 ≤ f ∧ f < 8 ∧ ((r < 0 ∧ onB f r = false) ∨ (8 ≤ r ∧ onB f r = false) ∨ (0 ≤ r ∧ r < 8 ∧ onB f r = true))) := by
  unfold onB
  by_cases h1 : 0 ≤ f <;> by_cases h2 : f < 8 <;> by_cases h3 : 0 ≤ r <;> by_cases h4 : r < 8 <;> simp [h1, h2, h3, h4] <;> omega
theorem sq_cases (s : Int) : (s < 0 ∧ sq s = false) ∨ (64 ≤ s ∧ sq s = false) ∨ (0 ≤ s ∧ s < 64 ∧ sq s = true) := by
  unfold sq
  by_cases h1 : 0 ≤ s <;> by_cases h2 : s < 64 <;> simp [h1, h2] <;> omega
theorem below_new {w : World} (o : Obj) : Below w.heap.size w (w.alloc o) := (Below.refl _ _).alloc (Nat.le_refl _) _

set_option maxHeartbeats 1000000 in
theorem onBoard_any (f r : Int) (w : World) :
    Calls Tryz.prog 131 #[.agg #[.int .i64 f, .int .i64 r]] w fun e w' => e = .returned (.bool (onB f r)) ∧ Below w.heap.size w w' := by
  obtain ⟨b, hb⟩ : ∃ b, onB f r = b := ⟨_, rfl⟩
  have hc := onB_cases f r
  rw [hb] at hc ⊢
  clear hb
  rcases hc with ⟨h1, rfl⟩ | ⟨h1, rfl⟩ | ⟨h1, h2, ⟨h3, rfl⟩ | ⟨h3, rfl⟩ | ⟨h3, h4, rfl⟩⟩
  all_goals
    go_enter Tryz.func131, Tryz.ntmps131
    go_wp2
    go_ret
    exact ⟨q_b (by first | rfl | (simp; omega)), below_new _⟩
theorem infoSpot : (Tryz.prog.info? 144).map (·.size) = some 3 := by kernel_rfl
theorem infoPlace : (Tryz.prog.info? 142).map (·.size) = some 2 := by kernel_rfl
theorem noSpot_any (w : World) :
    Calls Tryz.prog 148 #[] w fun e w' => e = .returned (.agg #[.int .i64 (-1), .int .i64 (-1), .int .i64 (-1)]) ∧ Below w.heap.size w w' := by
  go_enter Tryz.func148, Tryz.ntmps148
  go_wp2
  refine bodyPost_ret (v := .agg #[.int .i64 (-1), .int .i64 (-1), .int .i64 (-1)]) ?_ rfl ⟨rfl, below_new _⟩
  exact results_cell_row (p := 0) (ty := 144) rfl _ _ w.heap.size 144 _ (0, 0) _ rfl (heap_alloc_new _ _) Tryz.underlying144 rfl infoSpot
theorem dark_any (f r : Int) (w : World) (h0 : 0 ≤ f) (h1 : f < 8) (h2 : 0 ≤ r) (h3 : r < 8) :
    -- 100
    Calls Tryz.prog 132 #[.agg #[.int .i64 f, .int .i64 r]] w fun e w' => e = .returned (.bool (decide ((f + r) % 2 = 0))) ∧ Below w.heap.size w w' := by
  go_enter Tryz.func132, Tryz.ntmps132
  go_wp2
  go_ret
  exact ⟨q_b rfl, below_new _⟩
theorem sl_at {W : World} {o : Obj} {H : Nat} (e : H = W.heap.size) : (W.alloc o).heap[H]? = some o := by subst e; exact heap_alloc_new _ _
theorem sl_go {W W' : World} {H : Nat} {o : Obj} (h : W.heap[H]? = some o) (b : Below W.heap.size W W') : W'.heap[H]? = some o :=
  (b.block H (Array.getElem?_eq_some_iff.1 h).1).trans h
theorem row3 {W : World} {H : Nat} {a b c : Value} {t : TypeId} (h : W.heap[H]? = some (.cells #[a, b, c] t (0, 0))) :
    W.cell? ⟨H, 0, none⟩ = some a ∧ W.cell? ⟨H, 1, none⟩ = some b ∧ W.cell? ⟨H, 2, none⟩ = some c ∧ (∀ o, W.frozen? ⟨H, o, none⟩ = false) ∧ H < W.heap.size :=
  ⟨by rw [cell_of_row W H 0 _ _ (0, 0) h]; rfl, by rw [cell_of_row W H 1 _ _ (0, 0) h]; rfl, by rw [cell_of_row W H 2 _ _ (0, 0) h]; rfl, fun o => frozen_of_row W H o _ _ h, (Array.getElem?_eq_some_iff.1 h).1⟩
theorem row2 {W : World} {H : Nat} {a b : Value} {t : TypeId} (h : W.heap[H]? = some (.cells #[a, b] t (0, 0))) :
    W.cell? ⟨H, 0, none⟩ = some a ∧ W.cell? ⟨H, 1, none⟩ = some b ∧ (∀ o, W.frozen? ⟨H, o, none⟩ = false) ∧ H < W.heap.size :=
  ⟨by rw [cell_of_row W H 0 _ _ (0, 0) h]; rfl, by rw [cell_of_row W H 1 _ _ (0, 0) h]; rfl, fun o => frozen_of_row W H o _ _ h, (Array.getElem?_eq_some_iff.1 h).1⟩
theorem put3 {W : World} {H : Nat} {a b c : Value} {t : TypeId} (x y z : Value) (h : W.heap[H]? = some (.cells #[a, b, c] t (0, 0))) :
    (((W.setCell ⟨H, 0, none⟩ x).setCell ⟨H, 1, none⟩ y).setCell ⟨H, 2, none⟩ z).heap[H]? = some (.cells #[x, y, z] t (0, 0)) :=
  Go.heap_setCell_same _ H 2 _ _ z (Go.heap_setCell_same _ H 1 _ _ y (Go.heap_setCell_same W H 0 _ _ x h))
theorem below_put3 {W0 W : World} {B H : Nat} (x y z : Value) (h : Below B W0 W) (hB : B ≤ H) : Below B W0 (((W.setCell ⟨H, 0, none⟩ x).setCell ⟨H, 1, none⟩ y).setCell ⟨H, 2, none⟩ z) :=
  ((h.setCell (p := ⟨H, 0, none⟩) hB x).setCell (p := ⟨H, 1, none⟩) hB y).setCell (p := ⟨H, 2, none⟩) hB z
theorem wrap_cases (n : Int) (h0 : -18446744073709551616 < n) (h1 : n < 18446744073709551616) :
    (-9223372036854775808 ≤ n ∧ n ≤ 9223372036854775807 ∧ wrap64 n = n) ∨ (9223372036854775807 < n ∧ wrap64 n = n - 18446744073709551616) ∨ (n < -9223372036854775808 ∧ wrap64 n = n + 18446744073709551616) := by
  unfold wrap64; omega
theorem after_any (f r a b : Int) (w : World) (h0 : 0 ≤ f) (h1 : f < 8) (h2 : 0 ≤ r) (h3 : r < 8) (ha : I64 a) (hb : I64 b) :
    Calls Tryz.prog 240 #[.agg #[.int .i64 f, .int .i64 r], .agg #[.int .i64 a, .int .i64 b]] w fun e w' => e = .returned (.agg #[.int .i64 (wrap64 (f + a)), .int .i64 (wrap64 (r + b))]) ∧ Below w.heap.size w w' := by
  obtain ⟨a0, a1⟩ := ha
  obtain ⟨b0, b1⟩ := hb
  go_enter Tryz.func240, Tryz.ntmps240
  go_wp2
  refine bodyPost_ret (v := .agg #[.int .i64 (wrap64 (f + a)), .int .i64 (wrap64 (r + b))]) ?_ rfl ⟨rfl, ((below_new _).alloc (by simp) _).alloc (by simp; omega) _⟩
  exact results_cell_row (p := 4) (ty := 142) rfl _ _ (w.heap.size + 2) 142 _ (0, 0) _ rfl (sl_at (by simp)) Tryz.underlying142 rfl infoPlace
set_option maxHeartbeats 1000000 in
theorem spotOf_any (s : Int) (w : World) :
    Calls Tryz.prog 130 #[.int .i64 s] w fun e w' => e = .returned (.agg #[.int .i64 (sF s), .int .i64 (sR s), .int .i64 (sN s)]) ∧ Below w.heap.size w w' := by
  unfold sF sR sN
  rcases sq_cases s with ⟨h1, hb⟩ | ⟨h1, hb⟩ | ⟨h1, h2, hb⟩
  all_goals simp only [hb, if_true, Bool.false_eq_true, if_false]
  all_goals clear hb
  · go_enter Tryz.func130, Tryz.ntmps130
    go_wp2_with fail
    refine (noSpot_any _).mono ?_
    rintro e w1 ⟨rfl, hb⟩
    have hl := sl_go (sl_at rfl) hb
    obtain ⟨c0, c1, c2, fr, _⟩ := row3 hl
    have HB := Lib.hid (below_put3 (.int .i64 (-1)) (.int .i64 (-1)) (.int .i64 (-1)) ((below_new _).trans (hb.mono (by simp))) (Nat.le_refl w.heap.size))
    have HL := Lib.hid (put3 (.int .i64 (-1)) (.int .i64 (-1)) (.int .i64 (-1)) hl)
    clear hl hb
    go_wp2
    refine bodyPost_ret (v := .agg #[.int .i64 (-1), .int .i64 (-1), .int .i64 (-1)]) ?_ rfl ⟨rfl, HB.out⟩
    exact results_cell_row (p := 2) (ty := 144) rfl _ _ (w.heap.size) 144 _ (0, 0) _ rfl HL.out Tryz.underlying144 rfl infoSpot
  · go_enter Tryz.func130, Tryz.ntmps130
    go_wp2_with fail
    refine (noSpot_any _).mono ?_
    rintro e w1 ⟨rfl, hb⟩
    have hl := sl_go (sl_at rfl) hb
    obtain ⟨c0, c1, c2, fr, _⟩ := row3 hl
    have HB := Lib.hid (below_put3 (.int .i64 (-1)) (.int .i64 (-1)) (.int .i64 (-1)) ((below_new _).trans (hb.mono (by simp))) (Nat.le_refl w.heap.size))
    have HL := Lib.hid (put3 (.int .i64 (-1)) (.int .i64 (-1)) (.int .i64 (-1)) hl)
    clear hl hb
    go_wp2
    refine bodyPost_ret (v := .agg #[.int .i64 (-1), .int .i64 (-1), .int .i64 (-1)]) ?_ rfl ⟨rfl, HB.out⟩
    exact results_cell_row (p := 2) (ty := 144) rfl _ _ (w.heap.size) 144 _ (0, 0) _ rfl HL.out Tryz.underlying144 rfl infoSpot
  · have q1 : s.tmod 8 = s % 8 := Int.tmod_eq_emod_of_nonneg h1
    have q2 : s.tdiv 8 = s / 8 := Int.tdiv_eq_ediv_of_nonneg h1
    go_enter Tryz.func130, Tryz.ntmps130
    go_wp2
    refine bodyPost_ret (v := .agg #[.int .i64 (s % 8), .int .i64 (s / 8), .int .i64 s]) ?_ rfl ⟨rfl, below_new _⟩
    exact results_cell_row (p := 2) (ty := 144) rfl _ _ w.heap.size 144 _ (0, 0) _ rfl (by first | exact sl_at rfl | (rw [← q1, ← q2]; exact sl_at rfl)) Tryz.underlying144 rfl infoSpot

theorem sAt_cases (f r : Int) : (onB f r = false ∧ sAt f r = -1) ∨ (0 ≤ f ∧ f < 8 ∧ 0 ≤ r ∧ r < 8 ∧ onB f r = true ∧ sAt f r = 8 * r + f) := by
  unfold sAt
  cases h : onB f r
  · exact .inl ⟨rfl, by simp⟩
  · obtain ⟨a, b, c, d⟩ := (onB_iff f r).1 h
    exact .inr ⟨a, b, c, d, rfl, by simp⟩
theorem sF_none : sF (-1) = -1 := rfl
theorem sR_none : sR (-1) = -1 := rfl
theorem sN_none : sN (-1) = -1 := rfl
theorem sq_at {f r : Int} (h0 : 0 ≤ f) (h1 : f < 8) (h2 : 0 ≤ r) (h3 : r < 8) : sq (8 * r + f) = true := (sq_iff _).2 (by omega)
theorem sF_at {f r : Int} (h0 : 0 ≤ f) (h1 : f < 8) (h2 : 0 ≤ r) (h3 : r < 8) : sF (8 * r + f) = f := by
  unfold sF; rw [if_pos (sq_at h0 h1 h2 h3)]; omega
theorem sR_at {f r : Int} (h0 : 0 ≤ f) (h1 : f < 8) (h2 : 0 ≤ r) (h3 : r < 8) : sR (8 * r + f) = r := by
  unfold sR; rw [if_pos (sq_at h0 h1 h2 h3)]; omega
theorem sN_at {f r : Int} (h0 : 0 ≤ f) (h1 : f < 8) (h2 : 0 ≤ r) (h3 : r < 8) : sN (8 * r + f) = 8 * r + f := by
  unfold sN; rw [if_pos (sq_at h0 h1 h2 h3)]
theorem onB_sq (s : Int) : onB (sF s) (sR s) = sq s := by
  unfold sF sR
  cases h : sq s
  · rfl
  · obtain ⟨a, b⟩ := (sq_iff s).1 h
    simp only [if_true]
    exact (onB_iff _ _).2 (by omega)
theorem onBsq_any (s : Int) (w : World) :
    Calls Tryz.prog 131 #[.agg #[.int .i64 (sF s), .int .i64 (sR s)]] w fun e w' => e = .returned (.bool (sq s)) ∧ Below w.heap.size w w' := by
  rw [← onB_sq]; exact onBoard_any _ _ _
set_option maxHeartbeats 1000000 in
theorem spotAt_any (f r : Int) (w : World) :
    Calls Tryz.prog 122 #[.agg #[.int .i64 f, .int .i64 r]] w fun e w' => e = .returned (.agg #[.int .i64 (sF (sAt f r)), .int .i64 (sR (sAt f r)), .int .i64 (sN (sAt f r))]) ∧ Below w.heap.size w w' := by
  rcases sAt_cases f r with ⟨hb, he⟩ | ⟨h0, h1, h2, h3, hb, he⟩
  · rw [he, sF_none, sR_none, sN_none]
    clear he
    have HB := Lib.hid hb
    clear hb
    go_enter Tryz.func122, Tryz.ntmps122
    go_wp2_with fail
    refine (onBoard_any f r _).mono ?_
    rw [HB.out]
    rintro e w1 ⟨rfl, hb1⟩
    go_wp2_with fail
    refine (noSpot_any _).mono ?_
    rintro e w2 ⟨rfl, hb2⟩
    have hz := hb1.size
    simp only [World.size_alloc] at hz
    have hl := sl_go (sl_go (sl_at (W := w.alloc (.cells #[.int .i64 f, .int .i64 r] 142)) (H := w.heap.size + 1) (by simp)) hb1) hb2
    obtain ⟨c0, c1, c2, fr, _⟩ := row3 hl
    have HB2 := Lib.hid (below_put3 (.int .i64 (-1)) (.int .i64 (-1)) (.int .i64 (-1)) ((((below_new _).alloc (by simp) _).trans (hb1.mono (by simp; omega))).trans (hb2.mono (by omega))) (show w.heap.size ≤ w.heap.size + 1 by omega))
    have HL := Lib.hid (put3 (.int .i64 (-1)) (.int .i64 (-1)) (.int .i64 (-1)) hl)
    clear hl hb1 hb2
    go_wp2
    refine bodyPost_ret (v := .agg #[.int .i64 (-1), .int .i64 (-1), .int .i64 (-1)]) ?_ rfl ⟨rfl, HB2.out⟩
    exact results_cell_row (p := 2) (ty := 144) rfl _ _ (w.heap.size + 1) 144 _ (0, 0) _ rfl HL.out Tryz.underlying144 rfl infoSpot
  · rw [he, sF_at h0 h1 h2 h3, sR_at h0 h1 h2 h3, sN_at h0 h1 h2 h3]
    clear he
    have HB := Lib.hid hb
    clear hb
    go_enter Tryz.func122, Tryz.ntmps122
    go_wp2_with fail
    refine (onBoard_any f r _).mono ?_
    rw [HB.out]
    rintro e w1 ⟨rfl, hb1⟩
    have hz := hb1.size
    simp only [World.size_alloc] at hz
    have hp := sl_go ((heap_alloc_old (w.alloc (.cells #[.int .i64 f, .int .i64 r] 142)) (.cells #[.int .i64 0, .int .i64 0, .int .i64 0] 144) (by simp)).trans (sl_at rfl)) hb1
    have hl := sl_go (sl_at (W := w.alloc (.cells #[.int .i64 f, .int .i64 r] 142)) (o := .cells #[.int .i64 0, .int .i64 0, .int .i64 0] 144) (H := w.heap.size + 1) (by simp)) hb1
    obtain ⟨p0, p1, pfr, _⟩ := row2 hp
    obtain ⟨c0, c1, c2, fr, _⟩ := row3 hl
    have HB2 := Lib.hid (below_put3 (.int .i64 f) (.int .i64 r) (.int .i64 (8 * r + f)) (((below_new _).alloc (by simp) _).trans (hb1.mono (by simp; omega))) (show w.heap.size ≤ w.heap.size + 1 by omega))
    have HL := Lib.hid (put3 (.int .i64 f) (.int .i64 r) (.int .i64 (8 * r + f)) hl)
    clear hl hb1 hp
    go_wp2
    refine bodyPost_ret (v := .agg #[.int .i64 f, .int .i64 r, .int .i64 (8 * r + f)]) ?_ rfl ⟨rfl, by first | exact HB2.out | (rw [Int.mul_comm 8 r] at HB2; exact HB2.out)⟩
    exact results_cell_row (p := 2) (ty := 144) rfl _ _ (w.heap.size + 1) 144 _ (0, 0) _ rfl (by first | exact HL.out | (have := HL.out; rw [Int.mul_comm 8 r] at this ⊢; exact this)) Tryz.underlying144 rfl infoSpot

theorem stp_off {s : Int} (h : sq s = false) (a b : Int) : stp s a b = -1 := by unfold stp; simp [h]
theorem stp_on {s : Int} (h : sq s = true) {a b : Int} (ha : I64 a) (hb : I64 b) : sAt (wrap64 (sF s + a)) (wrap64 (sR s + b)) = stp s a b := by
  obtain ⟨h0, h1⟩ := (sq_iff s).1 h
  obtain ⟨a0, a1⟩ := ha
  obtain ⟨b0, b1⟩ := hb
  unfold sF sR stp
  simp only [h, if_true, Bool.true_and]
  have wa := wrap_cases (s % 8 + a) (by omega) (by omega)
  have wb := wrap_cases (s / 8 + b) (by omega) (by omega)
  generalize wrap64 (s % 8 + a) = x at wa ⊢
  generalize wrap64 (s / 8 + b) = y at wb ⊢
  rcases sAt_cases x y with ⟨hx, e⟩ | ⟨x0, x1, y0, y1, hx, e⟩
  · rw [e]
    have hn : ¬ onB (s % 8 + a) (s / 8 + b) = true := by
      intro hh
      obtain ⟨u0, u1, u2, u3⟩ := (onB_iff _ _).1 hh
      have : onB x y = true := (onB_iff _ _).2 (by omega)
      rw [hx] at this; cases this
    rw [if_neg hn]
  · rw [e, if_pos ((onB_iff _ _).2 (by omega))]
    omega
set_option maxHeartbeats 1000000 in
theorem next_any (s a b : Int) (w : World) (ha : I64 a) (hb : I64 b) :
    Calls Tryz.prog 203 #[.agg #[.int .i64 (sF s), .int .i64 (sR s), .int .i64 (sN s)], .agg #[.int .i64 a, .int .i64 b]] w fun e w' => e = .returned (.agg #[.int .i64 (sF (stp s a b)), .int .i64 (sR (stp s a b)), .int .i64 (sN (stp s a b))]) ∧ Below w.heap.size w w' := by
  obtain ⟨w0, hw0⟩ : ∃ w0, w0 = ((w.alloc (.cells #[.int .i64 (sF s), .int .i64 (sR s), .int .i64 (sN s)] 144)).alloc (.cells #[.int .i64 a, .int .i64 b] 206)).alloc (.cells #[.int .i64 0, .int .i64 0, .int .i64 0] 144) := ⟨_, rfl⟩
  have b0 : Below w.heap.size w w0 := by subst hw0; exact ((below_new _).alloc (by simp) _).alloc (by simp; omega) _
  have l0 : w0.heap[w.heap.size]? = some (.cells #[.int .i64 (sF s), .int .i64 (sR s), .int .i64 (sN s)] 144 (0, 0)) := by
    subst hw0
    rw [heap_alloc_old _ _ (by simp; omega), heap_alloc_old _ _ (by simp)]; exact sl_at rfl
  have l1 : w0.heap[w.heap.size + 1]? = some (.cells #[.int .i64 a, .int .i64 b] 206 (0, 0)) := by
    subst hw0
    rw [heap_alloc_old _ _ (by simp)]; exact sl_at (by simp)
  have l2 : w0.heap[w.heap.size + 2]? = some (.cells #[.int .i64 0, .int .i64 0, .int .i64 0] 144 (0, 0)) := by
    subst hw0
    exact sl_at (by simp)
  cases hs : sq s
  · rw [stp_off hs, sF_none, sR_none, sN_none]
    have HS := Lib.hid hs
    clear hs
    go_enter Tryz.func203, Tryz.ntmps203
    go_wp2_with fail
    rw [← hw0]
    clear hw0
    refine (onBsq_any s _).mono ?_
    rw [HS.out]
    rintro e w1 ⟨rfl, hb1⟩
    go_wp2_with fail
    refine (noSpot_any _).mono ?_
    rintro e w2 ⟨rfl, hb2⟩
    have hl := sl_go (sl_go l2 hb1) hb2
    obtain ⟨c0, c1, c2, fr, _⟩ := row3 hl
    have HB2 := Lib.hid (below_put3 (.int .i64 (-1)) (.int .i64 (-1)) (.int .i64 (-1)) ((b0.trans (hb1.mono b0.size)).trans (hb2.mono (Nat.le_trans b0.size hb1.size))) (show w.heap.size ≤ w.heap.size + 2 by omega))
    have HL := Lib.hid (put3 (.int .i64 (-1)) (.int .i64 (-1)) (.int .i64 (-1)) hl)
    clear hl hb1 hb2 l0 l1 l2 b0
    go_wp2
    refine bodyPost_ret (v := .agg #[.int .i64 (-1), .int .i64 (-1), .int .i64 (-1)]) ?_ rfl ⟨rfl, HB2.out⟩
    exact results_cell_row (p := 4) (ty := 144) rfl _ _ (w.heap.size + 2) 144 _ (0, 0) _ rfl HL.out Tryz.underlying144 rfl infoSpot
  · obtain ⟨h0, h1⟩ := (sq_iff s).1 hs
    have hF : 0 ≤ sF s ∧ sF s < 8 := by unfold sF; rw [if_pos hs]; omega
    have hR : 0 ≤ sR s ∧ sR s < 8 := by unfold sR; rw [if_pos hs]; omega
    have hst := stp_on hs ha hb
    obtain ⟨x, hx⟩ : ∃ x, stp s a b = x := ⟨_, rfl⟩
    rw [hx] at hst ⊢
    clear hx
    have HS := Lib.hid hs
    have HST := Lib.hid hst
    clear hs hst h0 h1
    go_enter Tryz.func203, Tryz.ntmps203
    go_wp2_with fail
    rw [← hw0]
    clear hw0
    refine (onBsq_any s _).mono ?_
    rw [HS.out]
    rintro e w1 ⟨rfl, hb1⟩
    obtain ⟨p0, p1, p2, _, pz⟩ := row3 (sl_go l0 hb1)
    obtain ⟨q0, q1, _, qz⟩ := row2 (sl_go l1 hb1)
    have hz := hb1.size
    go_wp2_with fail
    refine (after_any (sF s) (sR s) a b _ hF.1 hF.2 hR.1 hR.2 ha hb).mono ?_
    rintro e w2 ⟨rfl, hb2⟩
    clear p0 p1 p2 q0 q1 pz qz hz
    go_wp2_with fail
    refine (spotAt_any (wrap64 (sF s + a)) (wrap64 (sR s + b)) _).mono ?_
    rw [HST.out]
    rintro e w3 ⟨rfl, hb3⟩
    clear HST
    have hl := sl_go (sl_go (sl_go l2 hb1) hb2) hb3
    obtain ⟨c0, c1, c2, fr, _⟩ := row3 hl
    have HB2 := Lib.hid (below_put3 (.int .i64 (sF x)) (.int .i64 (sR x)) (.int .i64 (sN x)) (((b0.trans (hb1.mono b0.size)).trans (hb2.mono (Nat.le_trans b0.size hb1.size))).trans (hb3.mono (Nat.le_trans b0.size (Nat.le_trans hb1.size hb2.size)))) (show w.heap.size ≤ w.heap.size + 2 by omega))
    have HL := Lib.hid (put3 (.int .i64 (sF x)) (.int .i64 (sR x)) (.int .i64 (sN x)) hl)
    clear hl hb1 hb2 hb3 l0 l1 l2 b0
    go_wp2
    refine bodyPost_ret (v := .agg #[.int .i64 (sF x), .int .i64 (sR x), .int .i64 (sN x)]) ?_ rfl ⟨rfl, HB2.out⟩
    exact results_cell_row (p := 4) (ty := 144) rfl _ _ (w.heap.size + 2) 144 _ (0, 0) _ rfl HL.out Tryz.underlying144 rfl infoSpot
end Go.Proofs.YtkncfeijlmomaaaGreatDoor

namespace Go.Proofs.YtkncfeijlmomaaaGreatDoor
open Go.RowKit
set_option linter.unusedSimpArgs false
set_option linter.unusedVariables false

theorem size_place (w : World) : (sizeOf 142).run Tryz.prog w = .ok 2 w := by
  obtain ⟨i, hi, hz⟩ : ∃ i, Tryz.prog.info? 142 = some i ∧ i.size = 2 := by
    have h := infoPlace
    cases hi : Tryz.prog.info? 142 with
    | none => rw [hi] at h; cases h
    | some i => rw [hi] at h; exact ⟨i, rfl, Option.some.inj h⟩
  simp [sizeOf, typeInfo, hi, hz]
theorem field_place (x y z : Int) (w : World) : (Instr.field 144 (.agg #[.int .i64 x, .int .i64 y, .int .i64 z]) 0).run Tryz.prog w = .ok (.agg #[.int .i64 x, .int .i64 y]) w := by
  simp [Instr.field, asAgg, part, isAgg, run_underlying Tryz.underlying144, run_underlying Tryz.underlying142, size_place]
theorem field_number (x y z : Int) (w : World) : (Instr.field 144 (.agg #[.int .i64 x, .int .i64 y, .int .i64 z]) 1).run Tryz.prog w = .ok (.int .i64 z) w := by
  simp [Instr.field, asAgg, part, isAgg, run_underlying Tryz.underlying144, run_underlying Tryz.underlying3]
theorem field_file (x y : Int) (w : World) : (Instr.field 142 (.agg #[.int .i64 x, .int .i64 y]) 0).run Tryz.prog w = .ok (.int .i64 x) w := by
  simp [Instr.field, asAgg, part, isAgg, run_underlying Tryz.underlying142, run_underlying Tryz.underlying3]
theorem field_rank (x y : Int) (w : World) : (Instr.field 142 (.agg #[.int .i64 x, .int .i64 y]) 1).run Tryz.prog w = .ok (.int .i64 y) w := by
  simp [Instr.field, asAgg, part, isAgg, run_underlying Tryz.underlying142, run_underlying Tryz.underlying3]
attribute [go_sem] field_place field_number field_file field_rank

theorem is_any (s : Int) (w : World) :
    Calls Tryz.prog 139 #[.int .i64 s] w fun e w' => e = .returned (.bool (sq s)) ∧ Below w.heap.size w w' := by
  go_enter Tryz.func139, Tryz.ntmps139
  go_wp2_with fail
  refine (spotOf_any s _).mono ?_
  rintro e w1 ⟨rfl, hb1⟩
  go_wp2_with fail
  refine (onBsq_any s _).mono ?_
  rintro e w2 ⟨rfl, hb2⟩
  go_wp2
  go_ret
  exact ⟨rfl, hb1.trans (hb2.mono hb1.size)⟩
theorem at_any (f r : Int) (w : World) :
    Calls Tryz.prog 93 #[.int .i64 f, .int .i64 r] w fun e w' => e = .returned (.int .i64 (sAt f r)) ∧ Below w.heap.size w w' := by
  have hN : sN (sAt f r) = sAt f r := by
    rcases sAt_cases f r with ⟨_, e⟩ | ⟨h0, h1, h2, h3, _, e⟩
    · rw [e]; rfl
    · rw [e]; exact sN_at h0 h1 h2 h3
  have HN := Lib.hid hN
  clear hN
  go_enter Tryz.func93, Tryz.ntmps93
  go_wp2_with fail
  refine (spotAt_any f r _).mono ?_
  rw [HN.out]
  rintro e w1 ⟨rfl, hb1⟩
  go_wp2
  go_ret
  exact ⟨rfl, hb1⟩
theorem file_any (s : Int) (w : World) :
    Calls Tryz.prog 233 #[.int .i64 s] w fun e w' => e = .returned (.int .i64 (sF s)) ∧ Below w.heap.size w w' := by
  go_enter Tryz.func233, Tryz.ntmps233
  go_wp2_with fail
  refine (spotOf_any s _).mono ?_
  rintro e w1 ⟨rfl, hb1⟩
  go_wp2
  go_ret
  exact ⟨rfl, hb1⟩
theorem rank_any (s : Int) (w : World) :
    Calls Tryz.prog 174 #[.int .i64 s] w fun e w' => e = .returned (.int .i64 (sR s)) ∧ Below w.heap.size w w' := by
  go_enter Tryz.func174, Tryz.ntmps174
  go_wp2_with fail
  refine (spotOf_any s _).mono ?_
  rintro e w1 ⟨rfl, hb1⟩
  go_wp2
  go_ret
  exact ⟨rfl, hb1⟩
theorem stp_sN {s : Int} (a b : Int) : sN (stp s a b) = stp s a b := by
  cases h : (sq s && onB (s % 8 + a) (s / 8 + b))
  · unfold stp; rw [h]; rfl
  · rw [Bool.and_eq_true] at h
    obtain ⟨u0, u1, u2, u3⟩ := (onB_iff _ _).1 h.2
    obtain ⟨v0, v1⟩ := (sq_iff _).1 h.1
    unfold stp
    rw [h.1, h.2]
    simp only [Bool.and_self, if_true]
    unfold sN
    rw [if_pos ((sq_iff _).2 (by omega))]
theorem step_any (s a b : Int) (w : World) (ha : I64 a) (hb : I64 b) :
    Calls Tryz.prog 175 #[.int .i64 s, .int .i64 a, .int .i64 b] w fun e w' => e = .returned (.int .i64 (stp s a b)) ∧ Below w.heap.size w w' := by
  have HN := Lib.hid (stp_sN (s := s) a b)
  go_enter Tryz.func175, Tryz.ntmps175
  go_wp2_with fail
  refine (spotOf_any s _).mono ?_
  rintro e w1 ⟨rfl, hb1⟩
  go_wp2_with fail
  refine (next_any s a b _ ha hb).mono ?_
  rw [HN.out]
  rintro e w2 ⟨rfl, hb2⟩
  go_wp2
  go_ret
  exact ⟨rfl, hb1.trans (hb2.mono hb1.size)⟩
set_option maxHeartbeats 1000000 in
theorem darkSq_any (s : Int) (w : World) :
    Calls Tryz.prog 100 #[.int .i64 s] w fun e w' => e = .returned (.bool (dark s)) ∧ Below w.heap.size w w' := by
  cases hs : sq s
  · have hd : dark s = false := by unfold dark; rw [hs]; rfl
    rw [hd]
    have HS := Lib.hid hs
    clear hs hd
    go_enter Tryz.func100, Tryz.ntmps100
    go_wp2_with fail
    refine (spotOf_any s _).mono ?_
    rintro e w1 ⟨rfl, hb1⟩
    go_wp2_with fail
    refine (onBsq_any s _).mono ?_
    rw [HS.out]
    rintro e w2 ⟨rfl, hb2⟩
    go_wp2
    go_ret
    exact ⟨rfl, hb1.trans (((below_new _).trans (hb2.mono (by simp))).mono hb1.size)⟩
  · obtain ⟨h0, h1⟩ := (sq_iff s).1 hs
    have hF : sF s = s % 8 := by unfold sF; rw [if_pos hs]
    have hR : sR s = s / 8 := by unfold sR; rw [if_pos hs]
    have hd : dark s = decide ((sF s + sR s) % 2 = 0) := by unfold dark; rw [hs, hF, hR]; rfl
    have hF2 : 0 ≤ sF s ∧ sF s < 8 := by rw [hF]; omega
    have hR2 : 0 ≤ sR s ∧ sR s < 8 := by rw [hR]; omega
    rw [hd]
    obtain ⟨d, hdd⟩ : ∃ d, decide ((sF s + sR s) % 2 = 0) = d := ⟨_, rfl⟩
    rw [hdd]
    have HD := Lib.hid hdd
    have HS := Lib.hid hs
    clear hs hd hdd hF hR h0 h1
    go_enter Tryz.func100, Tryz.ntmps100
    go_wp2_with fail
    refine (spotOf_any s _).mono ?_
    rintro e w1 ⟨rfl, hb1⟩
    have l1 : (w1.alloc (.cells #[.int .i64 (sF s), .int .i64 (sR s), .int .i64 (sN s)] 144)).heap[w1.heap.size]? = some (.cells #[.int .i64 (sF s), .int .i64 (sR s), .int .i64 (sN s)] 144 (0, 0)) := sl_at rfl
    go_wp2_with fail
    refine (onBsq_any s _).mono ?_
    rw [HS.out]
    rintro e w2 ⟨rfl, hb2⟩
    obtain ⟨p0, p1, p2, _, pz⟩ := row3 (sl_go l1 hb2)
    go_wp2_with fail
    refine (dark_any (sF s) (sR s) _ hF2.1 hF2.2 hR2.1 hR2.2).mono ?_
    rw [HD.out]
    rintro e w3 ⟨rfl, hb3⟩
    go_wp2
    go_ret
    exact ⟨rfl, hb1.trans ((((below_new _).trans (hb2.mono (by simp))).trans (hb3.mono (by omega))).mono hb1.size)⟩
end Go.Proofs.YtkncfeijlmomaaaGreatDoor

namespace Go.Proofs.YtkncfeijlmomaaaGreatDoor
open Go.RowKit
set_option linter.unusedSimpArgs false
set_option linter.unusedVariables false
section
variable {P : Program} {ops : Array Oper} {Q : Exit → Act → World → Prop} {md : Region.Mode}
/-- the beginning of a region that draws: nothing is listed -/
theorem wp_region_start {S : World → Prop} {id n : Nat} {l : Array Bool} {a : Act} {w : World} (hm : P.follows .mixedOrders = true) (hsz : ops.size = n) (hl : Array.replicate n false = l) (hS : S w.drew)
    (h : S w.drew → wpAnyH P .any ops Q S n l a w.drew) : (Code.region id ops true).wp P Q a w := by
  subst hsz hl
  exact wp_region_held_drew hm hS h
/-- an operation is taken first; its slot, and what is listed behind it, are named -/
theorem take_to {S : World → Prop} {i : Nat} {oi : Oper} {d : Option Tmp} {v : Value} {fuel : Nat} {listed l' : Array Bool} {a : Act} {w : World} (hi : ops[i]? = some oi) (hd : oi.dst = d)
    (hs : Region.noSelect ops = true) (hf : Region.free md ops listed i = true) (hr : (Region.ready md ops listed).contains i = true) (hl : listed.setIfInBounds i true = l')
    (hQ : ∀ c a w, Q (.panic c) (a.put d v) w → Q (.panic c) a w) (hy : YieldsIf P ops S oi v a) (hS : S w)
    (h : wpAnyH P md ops Q S fuel l' (a.put d v) w) : wpAnyH P md ops Q S (fuel + 1) listed a w := by
  subst hd hl
  exact wpAnyH_take hi hs hf hr hQ hy hS h
/-- one operation alone may come up -/
theorem one_to {S : World → Prop} {i : Nat} {o : Oper} {fuel : Nat} {listed l' : Array Bool} {a : Act} {w : World} (ho : ops[i]? = some o) (hr : Region.ready md ops listed = [i]) (hl : listed.setIfInBounds i true = l')
    (h : ∀ K' : Act → World → Prop, Shut (∀ a w, S w → (S w → wpAnyH P md ops Q S fuel l' a w) → K' a w) → if Region.wanted o (yielded ops a.tmps) = true then Oper.wp P o a w K' Q else K' (a.put o.dst undef) w) : wpAnyH P md ops Q S (fuel + 1) listed a w := by
  subst hl
  exact wpAnyH_ready hr (by simp) (AllReadyH.cons ho h AllReadyH.nil)
/-- two may come up -/
theorem two_to {S : World → Prop} {i j : Nat} {o o2 : Oper} {fuel : Nat} {listed l1 l2 : Array Bool} {a : Act} {w : World} (ho : ops[i]? = some o) (ho2 : ops[j]? = some o2) (hr : Region.ready md ops listed = [i, j]) (hl : listed.setIfInBounds i true = l1) (hl2 : listed.setIfInBounds j true = l2)
    (h : ∀ K' : Act → World → Prop, Shut (∀ a w, S w → (S w → wpAnyH P md ops Q S fuel l1 a w) → K' a w) → if Region.wanted o (yielded ops a.tmps) = true then Oper.wp P o a w K' Q else K' (a.put o.dst undef) w)
    (h2 : ∀ K' : Act → World → Prop, Shut (∀ a w, S w → (S w → wpAnyH P md ops Q S fuel l2 a w) → K' a w) → if Region.wanted o2 (yielded ops a.tmps) = true then Oper.wp P o2 a w K' Q else K' (a.put o2.dst undef) w) : wpAnyH P md ops Q S (fuel + 1) listed a w := by
  subst hl hl2
  exact wpAnyH_ready hr (by simp) (AllReadyH.cons ho h (AllReadyH.cons ho2 h2 AllReadyH.nil))
end
theorem aP (a : Act) (d : Tmp) (v : Value) : a.put (some d) v = { a with tmps := a.tmps.setIfInBounds d v } := rfl
theorem sA {α : Type} (l : List α) (i : Nat) (a : α) : l.toArray.setIfInBounds i a = (l.set i a).toArray := List.setIfInBounds_toArray ..
theorem sZ {α : Type} (x y : α) (l : List α) : (x :: l).set 0 y = y :: l := rfl
theorem sS {α : Type} (x y : α) (l : List α) (n : Nat) : (x :: l).set (n + 1) y = x :: l.set n y := rfl
section
variable {P : Program} {md : Region.Mode} {ops : Array Oper} {Q : Exit → Act → World → Prop} {S : World → Prop} {fuel : Nat} {listed : Array Bool} {a : Act} {w : World}
theorem tg {i : Nat} {oi : Oper} {d : Option Tmp} {v : Value} (hi : ops[i]? = some oi) (hd : oi.dst = d) (hy : YieldsIf P ops S oi v a) (h : wpAnyH P md ops Q S fuel (listed.setIfInBounds i true) (a.put d v) w)
    (hs : Region.noSelect ops = true := by kernel_rfl) (hf : Region.free md ops listed i = true := by kernel_rfl) (hr : (Region.ready md ops listed).contains i = true := by kernel_rfl)
    (hQ : ∀ c a w, Q (.panic c) (a.put d v) w → Q (.panic c) a w := by exact fun _ _ _ h => h) (hS : S w := by assumption) : wpAnyH P md ops Q S (fuel + 1) listed a w := take_to hi hd hs hf hr rfl hQ hy hS h
theorem tq {i : Nat} {oi : Oper} {d : Option Tmp} {v : Value} (hi : ops[i]? = some oi) (hd : oi.dst = d) (h : wpAnyH P md ops Q S fuel (listed.setIfInBounds i true) (a.put d v) w)
    (hy : YieldsIf P ops S oi v a := by (refine Or.inl ⟨by rfl, ?_⟩; intro w' hSw; (try dsimp only at hSw); go_simp; (try with_reducible rfl)))
    (hs : Region.noSelect ops = true := by kernel_rfl) (hf : Region.free md ops listed i = true := by kernel_rfl) (hr : (Region.ready md ops listed).contains i = true := by kernel_rfl)
    (hQ : ∀ c a w, Q (.panic c) (a.put d v) w → Q (.panic c) a w := by exact fun _ _ _ h => h) (hS : S w := by assumption) : wpAnyH P md ops Q S (fuel + 1) listed a w := take_to hi hd hs hf hr rfl hQ hy hS h
theorem og {i : Nat} {o : Oper} (ho : ops[i]? = some o) (hr : Region.ready md ops listed = [i])
    (h : ∀ K' : Act → World → Prop, Shut (∀ a w, S w → (S w → wpAnyH P md ops Q S fuel (listed.setIfInBounds i true) a w) → K' a w) → if Region.wanted o (yielded ops a.tmps) = true then Oper.wp P o a w K' Q else K' (a.put o.dst undef) w) : wpAnyH P md ops Q S (fuel + 1) listed a w := one_to ho hr rfl h
theorem wg {i j : Nat} {o o2 : Oper} (ho : ops[i]? = some o) (ho2 : ops[j]? = some o2) (hr : Region.ready md ops listed = [i, j])
    (h : ∀ K' : Act → World → Prop, Shut (∀ a w, S w → (S w → wpAnyH P md ops Q S fuel (listed.setIfInBounds i true) a w) → K' a w) → if Region.wanted o (yielded ops a.tmps) = true then Oper.wp P o a w K' Q else K' (a.put o.dst undef) w)
    (h2 : ∀ K' : Act → World → Prop, Shut (∀ a w, S w → (S w → wpAnyH P md ops Q S fuel (listed.setIfInBounds j true) a w) → K' a w) → if Region.wanted o2 (yielded ops a.tmps) = true then Oper.wp P o2 a w K' Q else K' (a.put o2.dst undef) w) : wpAnyH P md ops Q S (fuel + 1) listed a w := two_to ho ho2 hr rfl rfl h h2
end
end Go.Proofs.YtkncfeijlmomaaaGreatDoor

namespace Go.Proofs.YtkncfeijlmomaaaGreatDoor
open Go.RowKit
set_option linter.unusedSimpArgs false
set_option linter.unusedVariables false

/-- a byte of a small number -/
def ch (n : Int) : UInt8 := UInt8.ofNat n.toNat
/-- a square's name -/
def nm (s : Int) : ByteArray := ⟨#[ch (97 + s % 8), ch (49 + s / 8)]⟩
/-- the bytes of a string, as numbers -/
def nb (S : ByteArray) (i : Nat) : Int := ((S.data.toList.getD i 0).toNat : Int)
end Go.Proofs.YtkncfeijlmomaaaGreatDoor

namespace Go.Proofs.YtkncfeijlmomaaaGreatDoor
open Go.RowKit
set_option linter.unusedVariables false
set_option linter.unusedSimpArgs false

/-- the number of a word -/
def u (x : BitVec 32) : Int := (x.toNat : Int)
theorem u_inj {x y : BitVec 32} : u x = u y ↔ x = y := by
  unfold u; rw [Int.ofNat_inj]; exact BitVec.toNat_inj
theorem u_beq (x y : BitVec 32) : (u x == u y) = (x == y) := by
  rw [Bool.eq_iff_iff, beq_iff_eq, beq_iff_eq]; exact u_inj
theorem u_bne (x y : BitVec 32) : (u x != u y) = (x != y) := by
  simp only [bne, u_beq]
theorem of_u (x : BitVec 32) : BitVec.ofInt 32 (u x) = x := by
  unfold u; rw [BitVec.ofInt_natCast]; simp
theorem wrap_u32_nat (n : Nat) (h : n < 4294967296) : IntKind.u32.wrap (n : Int) = (n : Int) := by
  rw [IntKind.wrap_u32]; omega
theorem u_wrap (x : BitVec 32) : IntKind.u32.wrap (x.toNat : Int) = u x := wrap_u32_nat _ x.isLt
theorem and_u (x y : BitVec 32) : bits .and .u32 (u x) (u y) = u (x &&& y) := by
  show IntKind.u32.wrap ((BitVec.ofInt 32 (u x) &&& BitVec.ofInt 32 (u y)).toNat : Int) = _
  rw [of_u, of_u, u_wrap]
theorem or_u (x y : BitVec 32) : bits .or .u32 (u x) (u y) = u (x ||| y) := by
  show IntKind.u32.wrap ((BitVec.ofInt 32 (u x) ||| BitVec.ofInt 32 (u y)).toNat : Int) = _
  rw [of_u, of_u, u_wrap]
theorem xor_u (x y : BitVec 32) : bits .xor .u32 (u x) (u y) = u (x ^^^ y) := by
  show IntKind.u32.wrap ((BitVec.ofInt 32 (u x) ^^^ BitVec.ofInt 32 (u y)).toNat : Int) = _
  rw [of_u, of_u, u_wrap]
theorem not_u (x : BitVec 32) : bits .xor .u32 IntKind.u32.max (u x) = u (~~~x) := by
  have h : IntKind.u32.max = u (BitVec.allOnes 32) := by decide
  rw [h, xor_u]
  rw [BitVec.allOnes_xor]
theorem u32_plain : IntKind.u32.signed = false := rfl
theorem add_u (x y : BitVec 32) : IntKind.u32.wrap (u x + u y) = u (x + y) := by
  unfold u; rw [IntKind.wrap_u32, BitVec.toNat_add]; omega
theorem low5 (n : Int) : (IntKind.u64.wrap n).tmod 32 = n % 32 := by
  rw [IntKind.wrap_u64, Int.tmod_eq_emod_of_nonneg (by omega)]; omega
/-- x, turned right by r -/
def turn (x : BitVec 32) (r : Nat) : BitVec 32 := x >>> r ||| x <<< (32 - r)
theorem shr_div (x : BitVec 32) (r : Nat) : u x / 2 ^ r = u (x >>> r) := by
  unfold u
  rw [BitVec.toNat_ushiftRight, Nat.shiftRight_eq_div_pow]
  simp [Int.natCast_pow]
theorem shl_mod (x : BitVec 32) (r : Nat) : u x * 2 ^ r % 4294967296 = u (x <<< r) := by
  unfold u
  rw [BitVec.toNat_shiftLeft, Nat.shiftLeft_eq]
  simp [Int.natCast_pow]
theorem and_one (x : BitVec 32) : bits .and .u32 (u x) 1 = u (x &&& 1#32) := by
  rw [← and_u]; rfl
theorem pow_u (k : Nat) : (2 : Int) ^ k % 4294967296 = u (1#32 <<< k) := by
  have h := shl_mod 1#32 k
  rw [← h, show u 1#32 = 1 from rfl, Int.one_mul]
theorem u_i64 (x : BitVec 32) : IntKind.i64.wrap (u x) = u x := by
  rw [IntKind.wrap_i64]; unfold u; have := x.isLt; omega
theorem u_wrap64 (x : BitVec 32) : wrap64 (u x) = u x := by
  unfold wrap64 u; have := x.isLt; omega
attribute [go_sem] u_beq u_bne and_u or_u xor_u not_u u32_plain add_u low5 shr_div shl_mod pow_u and_one u_i64 u_wrap64

/-- n elements of one cell each, read through p, in a block below B: cell i holds f i -/
def Reads (B : Nat) (w : World) (p : Option Addr) (n : Nat) (f : Nat → Value) : Prop :=
  n = 0 ∨ ∃ b off, p = some ⟨b, off, none⟩ ∧ b < B ∧ ∀ i, i < n → w.cell? ⟨b, off + i, none⟩ = some (f i)
theorem Reads.below {B : Nat} {w w' : World} {p : Option Addr} {n : Nat} {f : Nat → Value} (h : Reads B w p n f) (hb : Below B w w') : Reads B w' p n f := by
  rcases h with h | ⟨b, off, h1, h2, h3⟩
  · exact .inl h
  · exact .inr ⟨b, off, h1, h2, fun i hi => by rw [hb.cell (p := ⟨b, off + i, none⟩) h2]; exact h3 i hi⟩
theorem Reads.mono {B B' : Nat} {w : World} {p : Option Addr} {n : Nat} {f : Nat → Value} (h : Reads B w p n f) (hB : B ≤ B') : Reads B' w p n f := by
  rcases h with h | ⟨b, off, h1, h2, h3⟩
  · exact .inl h
  · exact .inr ⟨b, off, h1, Nat.lt_of_lt_of_le h2 hB, h3⟩
theorem Reads.take {B : Nat} {w : World} {p : Option Addr} {n m : Nat} {f : Nat → Value} (h : Reads B w p n f) (hm : m ≤ n) : Reads B w p m f := by
  rcases h with h | ⟨b, off, h1, h2, h3⟩
  · exact .inl (by omega)
  · exact .inr ⟨b, off, h1, h2, fun i hi => h3 i (by omega)⟩
theorem Reads.nil {B : Nat} {w : World} {p : Option Addr} {f : Nat → Value} : Reads B w p 0 f := .inl rfl
end Go.Proofs.YtkncfeijlmomaaaGreatDoor

namespace Go.Proofs.YtkncfeijlmomaaaGreatDoor
open Go.RowKit
set_option linter.unusedSimpArgs false
set_option linter.unusedVariables false

/-- what a value that owns a row reads as -/
theorem sq_reads {w : World} {base : Nat} {e : TypeId} {v : Value} {n : Nat} {f : Nat → Value} (h : w.ownsRow base e 1 v n ((List.range n).map f)) :
    ∃ p c, v = .slice p n c ∧ Reads w.heap.size w p n f ∧ n ≤ c ∧ c ≤ maxLen := by
  rcases h.2 with ⟨rfl, rfl⟩ | ⟨g, cap, cur, rfl, h1, h2, h3, h4, h5, h6⟩
  · exact ⟨none, 0, rfl, .inl rfl, Nat.le_refl _, by unfold maxLen; omega⟩
  · refine ⟨_, cap, rfl, .inr ⟨g, 0, rfl, ?_, fun i hi => ?_⟩, h3, h4⟩
    · rcases Nat.lt_or_ge g w.heap.size with h | h
      · exact h
      · rw [Array.getElem?_eq_none h] at h2; cases h2
    · rw [Nat.zero_add, h.cellAt i (by omega)]
      simp [hi]
end Go.Proofs.YtkncfeijlmomaaaGreatDoor

namespace Go.Proofs.YtkncfeijlmomaaaGreatDoor
open Go.RowKit
set_option linter.unusedVariables false
set_option linter.unusedSimpArgs false

end Go.Proofs.YtkncfeijlmomaaaGreatDoor

namespace Go.Proofs.YtkncfeijlmomaaaGreatDoor
open Go.RowKit
set_option linter.unusedSimpArgs false
set_option linter.unusedVariables false

end Go.Proofs.YtkncfeijlmomaaaGreatDoor

namespace Go.Proofs.YtkncfeijlmomaaaGreatDoor
open Go.RowKit
set_option linter.unusedVariables false
set_option maxRecDepth 20000
set_option linter.unusedSimpArgs false

/-- the number of a byte -/
def ub (x : BitVec 8) : Int := (x.toNat : Int)
theorem u8_of_u (x : BitVec 32) : IntKind.u8.wrap (u x) = ub (x.setWidth 8) := by
  unfold u ub; rw [IntKind.wrap_u8, BitVec.toNat_setWidth]; omega
attribute [go_sem] u8_of_u
def cellsOf (g : Nat → BitVec 8) (n : Nat) : List Value := (List.range n).map fun i => .int .u8 (ub (g i))
end Go.Proofs.YtkncfeijlmomaaaGreatDoor

namespace Go.Proofs.YtkncfeijlmomaaaGreatDoor
open Go.RowKit
set_option linter.unusedSimpArgs false
set_option linter.unusedVariables false

/-- byte i of the bytes of words -/
def wb (f : Nat → BitVec 32) (i : Nat) : BitVec 8 := (f (i / 4) >>> (24 - 8 * (i % 4))).setWidth 8

end Go.Proofs.YtkncfeijlmomaaaGreatDoor

namespace Go.Proofs.YtkncfeijlmomaaaGreatDoor
open Go.RowKit
set_option linter.unusedSimpArgs false
set_option linter.unusedVariables false

end Go.Proofs.YtkncfeijlmomaaaGreatDoor

namespace Go.Proofs.YtkncfeijlmomaaaGreatDoor
set_option linter.unusedSimpArgs false
set_option linter.unusedVariables false

end Go.Proofs.YtkncfeijlmomaaaGreatDoor

namespace Go.Proofs.YtkncfeijlmomaaaGreatDoor
open Go.RowKit
set_option linter.unusedSimpArgs false
set_option linter.unusedVariables false

end Go.Proofs.YtkncfeijlmomaaaGreatDoor

namespace Go.Proofs.YtkncfeijlmomaaaGreatDoor.LentInts
open Go.RowKit
set_option linter.unusedSimpArgs false
set_option linter.unusedVariables false

/-- what stands behind the list's own elements -/
def mk (i : Nat) : Int := 8000024 + (i : Int)
/-- the list, and the marks behind it -/
def ext (n : Nat) (h : Nat → Int) (i : Nat) : Value := .int .i64 (if i < n then h i else mk (i - n))
end Go.Proofs.YtkncfeijlmomaaaGreatDoor.LentInts
