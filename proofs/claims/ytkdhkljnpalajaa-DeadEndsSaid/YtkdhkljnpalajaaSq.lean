/-
  Contracts: package square: numbers, files, ranks, colours, steps.
-/
import Derived.Test.YtkdhkljnpalajaaProg
import Derived.WalkKit
import Derived.WalkSpells
import Derived.WalkLawsBesides
import Derived.Lib.Hide
import Derived.Handy
namespace Go.Proofs.Ytkdhkljnpalajaa
open Go.RowKit
set_option linter.unusedSimpArgs false
set_option linter.unusedVariables false

/-- is it a file and a rank of the board? -/
def onB (f r : Int) : Bool := decide (0 ≤ f) && decide (f < 8) && decide (0 ≤ r) && decide (r < 8)
/-- is it a square? -/
def sq (s : Int) : Bool := decide (0 ≤ s) && decide (s < 64)
theorem onB_iff (f r : Int) : onB f r = true ↔ 0 ≤ f ∧ f < 8 ∧ 0 ≤ r ∧ r < 8 := by
  unfold onB; simp [and_assoc]
theorem sq_iff (s : Int) : sq s = true ↔ 0 ≤ s ∧ s < 64 := by unfold sq; simp
/-- the square's file, rank, number; -1 of none -/
def sF (s : Int) : Int := if sq s then s % 8 else -1
def sR (s : Int) : Int := if sq s then s / 8 else -1
def sN (s : Int) : Int := if sq s then s else -1
def sAt (f r : Int) : Int := if onB f r then 8 * r + f else -1
def dark (s : Int) : Bool := sq s && decide ((s % 8 + s / 8) % 2 = 0)

theorem q_b {a b : Bool} (h : a = b) : Ending.returned (.bool a) = .returned (.bool b) := by rw [h]
theorem q_i {k : IntKind} {a b : Int} (h : a = b) : Ending.returned (.int k a) = .returned (.int k b) := by rw [h]


theorem onB_cases (f r : Int) : (f < 0 ∧ onB f r = false) ∨ (8 ≤ f ∧ onB f r = false) ∨ (0 ≤ f ∧ f < 8 ∧ ((r < 0 ∧ onB f r = false) ∨ (8 ≤ r ∧ onB f r = false) ∨ (0 ≤ r ∧ r < 8 ∧ onB f r = true))) := by
  unfold onB
  by_cases h1 : 0 ≤ f <;> by_cases h2 : f < 8 <;> by_cases h3 : 0 ≤ r <;> by_cases h4 : r < 8 <;> simp [h1, h2, h3, h4] <;> omega
theorem sq_cases (s : Int) : (s < 0 ∧ sq s = false) ∨ (64 ≤ s ∧ sq s = false) ∨ (0 ≤ s ∧ s < 64 ∧ sq s = true) := by
  unfold sq
  by_cases h1 : 0 ≤ s <;> by_cases h2 : s < 64 <;> simp [h1, h2] <;> omega
theorem below_new {w : World} (o : Obj) : Below w.heap.size w (w.alloc o) := (Below.refl _ _).alloc (Nat.le_refl _) _

set_option maxHeartbeats 1000000 in
theorem onBoard_any (f r : Int) (w : World) :
    Calls Try.prog 37 #[.agg #[.int .i64 f, .int .i64 r]] w fun e w' => e = .returned (.bool (onB f r)) ∧ Below w.heap.size w w' := by
  obtain ⟨b, hb⟩ : ∃ b, onB f r = b := ⟨_, rfl⟩
  have hc := onB_cases f r
  rw [hb] at hc ⊢
  clear hb
  rcases hc with ⟨h1, rfl⟩ | ⟨h1, rfl⟩ | ⟨h1, h2, ⟨h3, rfl⟩ | ⟨h3, rfl⟩ | ⟨h3, h4, rfl⟩⟩
  all_goals
    go_enter Try.func37, Try.ntmps37
    go_wp2
    go_ret
    exact ⟨q_b (by first | rfl | (simp; omega)), below_new _⟩
theorem infoSpot : (Try.prog.info? 67).map (·.size) = some 3 := by kernel_rfl
theorem infoPlace : (Try.prog.info? 65).map (·.size) = some 2 := by kernel_rfl
theorem noSpot_any (w : World) :
    Calls Try.prog 41 #[] w fun e w' => e = .returned (.agg #[.int .i64 (-1), .int .i64 (-1), .int .i64 (-1)]) ∧ Below w.heap.size w w' := by
  go_enter Try.func41, Try.ntmps41
  go_wp2
  refine bodyPost_ret (v := .agg #[.int .i64 (-1), .int .i64 (-1), .int .i64 (-1)]) ?_ rfl ⟨rfl, below_new _⟩
  exact results_cell_row (p := 0) (ty := 67) rfl _ _ w.heap.size 67 _ (0, 0) _ rfl (heap_alloc_new _ _) Try.underlying67 rfl infoSpot
theorem dark_any (f r : Int) (w : World) (h0 : 0 ≤ f) (h1 : f < 8) (h2 : 0 ≤ r) (h3 : r < 8) :
    -- 28
    Calls Try.prog 38 #[.agg #[.int .i64 f, .int .i64 r]] w fun e w' => e = .returned (.bool (decide ((f + r) % 2 = 0))) ∧ Below w.heap.size w w' := by
  go_enter Try.func38, Try.ntmps38
  go_wp2
  go_ret
  exact ⟨q_b rfl, below_new _⟩
theorem sl_at {W : World} {o : Obj} {H : Nat} (e : H = W.heap.size) : (W.alloc o).heap[H]? = some o := by subst e; exact heap_alloc_new _ _
theorem sl_go {W W' : World} {H : Nat} {o : Obj} (h : W.heap[H]? = some o) (b : Below W.heap.size W W') : W'.heap[H]? = some o :=
  (b.block H (Array.getElem?_eq_some_iff.1 h).1).trans h
theorem row3 {W : World} {H : Nat} {a b c : Value} {t : TypeId} (h : W.heap[H]? = some (.cells #[a, b, c] t (0, 0))) :
    W.cell? ⟨H, 0, none⟩ = some a ∧ W.cell? ⟨H, 1, none⟩ = some b ∧ W.cell? ⟨H, 2, none⟩ = some c ∧ (∀ o, W.frozen? ⟨H, o, none⟩ = false) ∧ H < W.heap.size :=
  ⟨by rw [cell_of_row W H 0 _ _ (0, 0) h]; rfl, by rw [cell_of_row W H 1 _ _ (0, 0) h]; rfl, by rw [cell_of_row W H 2 _ _ (0, 0) h]; rfl, fun o => frozen_of_row W H o _ _ h, (Array.getElem?_eq_some_iff.1 h).1⟩
theorem row2 {W : World} {H : Nat} {a b : Value} {t : TypeId} (h : W.heap[H]? = some (.cells #[a, b] t (0, 0))) :
    W.cell? ⟨H, 0, none⟩ = some a ∧ W.cell? ⟨H, 1, none⟩ = some b ∧ (∀ o, W.frozen? ⟨H, o, none⟩ = false) ∧ H < W.heap.size :=
  ⟨by rw [cell_of_row W H 0 _ _ (0, 0) h]; rfl, by rw [cell_of_row W H 1 _ _ (0, 0) h]; rfl, fun o => frozen_of_row W H o _ _ h, (Array.getElem?_eq_some_iff.1 h).1⟩
theorem put3 {W : World} {H : Nat} {a b c : Value} {t : TypeId} (x y z : Value) (h : W.heap[H]? = some (.cells #[a, b, c] t (0, 0))) :
    (((W.setCell ⟨H, 0, none⟩ x).setCell ⟨H, 1, none⟩ y).setCell ⟨H, 2, none⟩ z).heap[H]? = some (.cells #[x, y, z] t (0, 0)) :=
  Go.heap_setCell_same _ H 2 _ _ z (Go.heap_setCell_same _ H 1 _ _ y (Go.heap_setCell_same W H 0 _ _ x h))
theorem below_put3 {W0 W : World} {B H : Nat} (x y z : Value) (h : Below B W0 W) (hB : B ≤ H) : Below B W0 (((W.setCell ⟨H, 0, none⟩ x).setCell ⟨H, 1, none⟩ y).setCell ⟨H, 2, none⟩ z) :=
  ((h.setCell (p := ⟨H, 0, none⟩) hB x).setCell (p := ⟨H, 1, none⟩) hB y).setCell (p := ⟨H, 2, none⟩) hB z
set_option maxHeartbeats 1000000 in
theorem spotOf_any (s : Int) (w : World) :
    Calls Try.prog 36 #[.int .i64 s] w fun e w' => e = .returned (.agg #[.int .i64 (sF s), .int .i64 (sR s), .int .i64 (sN s)]) ∧ Below w.heap.size w w' := by
  unfold sF sR sN
  rcases sq_cases s with ⟨h1, hb⟩ | ⟨h1, hb⟩ | ⟨h1, h2, hb⟩
  all_goals simp only [hb, if_true, Bool.false_eq_true, if_false]
  all_goals clear hb
  · go_enter Try.func36, Try.ntmps36
    go_wp2_with fail
    refine (noSpot_any _).mono ?_
    rintro e w1 ⟨rfl, hb⟩
    have hl := sl_go (sl_at rfl) hb
    obtain ⟨c0, c1, c2, fr, _⟩ := row3 hl
    have HB := Lib.hid (below_put3 (.int .i64 (-1)) (.int .i64 (-1)) (.int .i64 (-1)) ((below_new _).trans (hb.mono (by simp))) (Nat.le_refl w.heap.size))
    have HL := Lib.hid (put3 (.int .i64 (-1)) (.int .i64 (-1)) (.int .i64 (-1)) hl)
    clear hl hb
    go_wp2
    refine bodyPost_ret (v := .agg #[.int .i64 (-1), .int .i64 (-1), .int .i64 (-1)]) ?_ rfl ⟨rfl, HB.out⟩
    exact results_cell_row (p := 2) (ty := 67) rfl _ _ (w.heap.size) 67 _ (0, 0) _ rfl HL.out Try.underlying67 rfl infoSpot
  · go_enter Try.func36, Try.ntmps36
    go_wp2_with fail
    refine (noSpot_any _).mono ?_
    rintro e w1 ⟨rfl, hb⟩
    have hl := sl_go (sl_at rfl) hb
    obtain ⟨c0, c1, c2, fr, _⟩ := row3 hl
    have HB := Lib.hid (below_put3 (.int .i64 (-1)) (.int .i64 (-1)) (.int .i64 (-1)) ((below_new _).trans (hb.mono (by simp))) (Nat.le_refl w.heap.size))
    have HL := Lib.hid (put3 (.int .i64 (-1)) (.int .i64 (-1)) (.int .i64 (-1)) hl)
    clear hl hb
    go_wp2
    refine bodyPost_ret (v := .agg #[.int .i64 (-1), .int .i64 (-1), .int .i64 (-1)]) ?_ rfl ⟨rfl, HB.out⟩
    exact results_cell_row (p := 2) (ty := 67) rfl _ _ (w.heap.size) 67 _ (0, 0) _ rfl HL.out Try.underlying67 rfl infoSpot
  · have q1 : s.tmod 8 = s % 8 := Int.tmod_eq_emod_of_nonneg h1
    have q2 : s.tdiv 8 = s / 8 := Int.tdiv_eq_ediv_of_nonneg h1
    go_enter Try.func36, Try.ntmps36
    go_wp2
    refine bodyPost_ret (v := .agg #[.int .i64 (s % 8), .int .i64 (s / 8), .int .i64 s]) ?_ rfl ⟨rfl, below_new _⟩
    exact results_cell_row (p := 2) (ty := 67) rfl _ _ w.heap.size 67 _ (0, 0) _ rfl (by first | exact sl_at rfl | (rw [← q1, ← q2]; exact sl_at rfl)) Try.underlying67 rfl infoSpot

theorem sAt_cases (f r : Int) : (onB f r = false ∧ sAt f r = -1) ∨ (0 ≤ f ∧ f < 8 ∧ 0 ≤ r ∧ r < 8 ∧ onB f r = true ∧ sAt f r = 8 * r + f) := by
  unfold sAt
  cases h : onB f r
  · exact .inl ⟨rfl, by simp⟩
  · obtain ⟨a, b, c, d⟩ := (onB_iff f r).1 h
    exact .inr ⟨a, b, c, d, rfl, by simp⟩
theorem sF_none : sF (-1) = -1 := rfl
theorem sR_none : sR (-1) = -1 := rfl
theorem sN_none : sN (-1) = -1 := rfl
theorem sq_at {f r : Int} (h0 : 0 ≤ f) (h1 : f < 8) (h2 : 0 ≤ r) (h3 : r < 8) : sq (8 * r + f) = true := (sq_iff _).2 (by omega)
theorem sF_at {f r : Int} (h0 : 0 ≤ f) (h1 : f < 8) (h2 : 0 ≤ r) (h3 : r < 8) : sF (8 * r + f) = f := by
  unfold sF; rw [if_pos (sq_at h0 h1 h2 h3)]; omega
theorem sR_at {f r : Int} (h0 : 0 ≤ f) (h1 : f < 8) (h2 : 0 ≤ r) (h3 : r < 8) : sR (8 * r + f) = r := by
  unfold sR; rw [if_pos (sq_at h0 h1 h2 h3)]; omega
theorem sN_at {f r : Int} (h0 : 0 ≤ f) (h1 : f < 8) (h2 : 0 ≤ r) (h3 : r < 8) : sN (8 * r + f) = 8 * r + f := by
  unfold sN; rw [if_pos (sq_at h0 h1 h2 h3)]
theorem onB_sq (s : Int) : onB (sF s) (sR s) = sq s := by
  unfold sF sR
  cases h : sq s
  · rfl
  · obtain ⟨a, b⟩ := (sq_iff s).1 h
    simp only [if_true]
    exact (onB_iff _ _).2 (by omega)
theorem onBsq_any (s : Int) (w : World) :
    Calls Try.prog 37 #[.agg #[.int .i64 (sF s), .int .i64 (sR s)]] w fun e w' => e = .returned (.bool (sq s)) ∧ Below w.heap.size w w' := by
  rw [← onB_sq]; exact onBoard_any _ _ _
set_option maxHeartbeats 1000000 in
theorem spotAt_any (f r : Int) (w : World) :
    Calls Try.prog 40 #[.agg #[.int .i64 f, .int .i64 r]] w fun e w' => e = .returned (.agg #[.int .i64 (sF (sAt f r)), .int .i64 (sR (sAt f r)), .int .i64 (sN (sAt f r))]) ∧ Below w.heap.size w w' := by
  rcases sAt_cases f r with ⟨hb, he⟩ | ⟨h0, h1, h2, h3, hb, he⟩
  · rw [he, sF_none, sR_none, sN_none]
    clear he
    have HB := Lib.hid hb
    clear hb
    go_enter Try.func40, Try.ntmps40
    go_wp2_with fail
    refine (onBoard_any f r _).mono ?_
    rw [HB.out]
    rintro e w1 ⟨rfl, hb1⟩
    go_wp2_with fail
    refine (noSpot_any _).mono ?_
    rintro e w2 ⟨rfl, hb2⟩
    have hz := hb1.size
    simp only [World.size_alloc] at hz
    have hl := sl_go (sl_go (sl_at (W := w.alloc (.cells #[.int .i64 f, .int .i64 r] 65)) (H := w.heap.size + 1) (by simp)) hb1) hb2
    obtain ⟨c0, c1, c2, fr, _⟩ := row3 hl
    have HB2 := Lib.hid (below_put3 (.int .i64 (-1)) (.int .i64 (-1)) (.int .i64 (-1)) ((((below_new _).alloc (by simp) _).trans (hb1.mono (by simp; omega))).trans (hb2.mono (by omega))) (show w.heap.size ≤ w.heap.size + 1 by omega))
    have HL := Lib.hid (put3 (.int .i64 (-1)) (.int .i64 (-1)) (.int .i64 (-1)) hl)
    clear hl hb1 hb2
    go_wp2
    refine bodyPost_ret (v := .agg #[.int .i64 (-1), .int .i64 (-1), .int .i64 (-1)]) ?_ rfl ⟨rfl, HB2.out⟩
    exact results_cell_row (p := 2) (ty := 67) rfl _ _ (w.heap.size + 1) 67 _ (0, 0) _ rfl HL.out Try.underlying67 rfl infoSpot
  · rw [he, sF_at h0 h1 h2 h3, sR_at h0 h1 h2 h3, sN_at h0 h1 h2 h3]
    clear he
    have HB := Lib.hid hb
    clear hb
    go_enter Try.func40, Try.ntmps40
    go_wp2_with fail
    refine (onBoard_any f r _).mono ?_
    rw [HB.out]
    rintro e w1 ⟨rfl, hb1⟩
    have hz := hb1.size
    simp only [World.size_alloc] at hz
    have hp := sl_go ((heap_alloc_old (w.alloc (.cells #[.int .i64 f, .int .i64 r] 65)) (.cells #[.int .i64 0, .int .i64 0, .int .i64 0] 67) (by simp)).trans (sl_at rfl)) hb1
    have hl := sl_go (sl_at (W := w.alloc (.cells #[.int .i64 f, .int .i64 r] 65)) (o := .cells #[.int .i64 0, .int .i64 0, .int .i64 0] 67) (H := w.heap.size + 1) (by simp)) hb1
    obtain ⟨p0, p1, pfr, _⟩ := row2 hp
    obtain ⟨c0, c1, c2, fr, _⟩ := row3 hl
    have HB2 := Lib.hid (below_put3 (.int .i64 f) (.int .i64 r) (.int .i64 (8 * r + f)) (((below_new _).alloc (by simp) _).trans (hb1.mono (by simp; omega))) (show w.heap.size ≤ w.heap.size + 1 by omega))
    have HL := Lib.hid (put3 (.int .i64 f) (.int .i64 r) (.int .i64 (8 * r + f)) hl)
    clear hl hb1 hp
    go_wp2
    refine bodyPost_ret (v := .agg #[.int .i64 f, .int .i64 r, .int .i64 (8 * r + f)]) ?_ rfl ⟨rfl, by first | exact HB2.out | (rw [Int.mul_comm 8 r] at HB2; exact HB2.out)⟩
    exact results_cell_row (p := 2) (ty := 67) rfl _ _ (w.heap.size + 1) 67 _ (0, 0) _ rfl (by first | exact HL.out | (have := HL.out; rw [Int.mul_comm 8 r] at this ⊢; exact this)) Try.underlying67 rfl infoSpot

end Go.Proofs.Ytkdhkljnpalajaa
