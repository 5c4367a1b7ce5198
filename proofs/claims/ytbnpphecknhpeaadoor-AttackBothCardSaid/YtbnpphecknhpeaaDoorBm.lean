/-
  Contracts: the document's right positions.
-/
import Derived.Test.YtbnpphecknhpeaaDoorG4
namespace Go.Proofs.YtbnpphecknhpeaaDoor
open Go.RowKit Go.Sort
set_option linter.unusedSimpArgs false
set_option linter.unusedVariables false

/-- a thing on a square that may not be there -/
def badP (P : Nat → Int) (s : Nat) : Bool := !(pe (P (2 * s)) (P (2 * s + 1)) 0 0) && (!(mayB (P (2 * s)) (P (2 * s + 1))) || (P (2 * s) == 1 && (decide (s < 8) || decide (56 ≤ s))))
def okS (P : Nat → Int) : Nat → Bool
  | 0 => true
  | n + 1 => okS P n && !(badP P n)
/-- how many kings of a side stand on the squares below n -/
def cnt (P : Nat → Int) (d : Int) : Nat → Nat
  | 0 => 0
  | n + 1 => cnt P d n + if pe (P (2 * n)) (P (2 * n + 1)) 6 d then 1 else 0
theorem cnt_le (P : Nat → Int) (d : Int) (n : Nat) : cnt P d n ≤ n := by
  induction n with
  | zero => exact Nat.le_refl _
  | succ n ih => simp only [cnt]; split <;> omega
theorem okS_iff (P : Nat → Int) (n : Nat) : okS P n = true ↔ ∀ s, s < n → badP P s = false := by
  induction n with
  | zero => simp [okS]
  | succ n ih =>
    simp only [okS, Bool.and_eq_true, ih, Bool.not_eq_true']
    constructor
    · rintro ⟨h1, h2⟩ i hi
      rcases Nat.lt_succ_iff_lt_or_eq.1 hi with h | rfl
      · exact h1 i h
      · exact h2
    · intro h; exact ⟨fun i hi => h i (by omega), h n (by omega)⟩
theorem okS_false (P : Nat → Int) {n m : Nat} (h : m < n) (hs : badP P m = true) : okS P n = false := by
  cases e : okS P n
  · rfl
  · rw [(okS_iff P n).1 e m h] at hs; cases hs
def piecesB (P : Nat → Int) : Bool := okS P 64 && (cnt P 0 64 == 1) && (cnt P 1 64 == 1) && sideB (P 128)
def homeB (P : Nat → Int) (d : Int) (k r : Nat) : Bool := pe (P (2 * k)) (P (2 * k + 1)) 6 d && pe (P (2 * r)) (P (2 * r + 1)) 4 d
theorem infoTwo : (Tryd.prog.info? 87).map (·.size) = some 2 := by kernel_rfl
/-- what stands in a walk over the squares: the position, the count of kings -/
structure PK (w W : World) (P : Nat → Int) (j : Nat) : Prop where
  p : PB W w.heap.size P
  x : W.heap[w.heap.size + 1]? = some (.cells #[.int .i64 (cnt P 0 j : Nat), .int .i64 (cnt P 1 j : Nat)] 87 (0, 0))
  b : Below w.heap.size w W
  s : w.heap.size + 2 ≤ W.heap.size
theorem PK.go {w W W' : World} {P : Nat → Int} {j : Nat} (h : PK w W P j) (g : Below W.heap.size W W') : PK w W' P j :=
  ⟨h.p.go g, sl_go h.x g, h.b.trans (g.mono h.b.size), Nat.le_trans h.s g.size⟩
theorem PK.alloc {w W : World} {P : Nat → Int} {j : Nat} (h : PK w W P j) (o : Obj) : PK w (W.alloc o) P j := h.go (below_new _)
theorem PK.same {w W : World} {P : Nat → Int} {j : Nat} (h : PK w W P j) (h0 : cnt P 0 (j + 1) = cnt P 0 j) (h1 : cnt P 1 (j + 1) = cnt P 1 j) : PK w W P (j + 1) :=
  ⟨h.p, by rw [h0, h1]; exact h.x, h.b, h.s⟩
theorem PK.up0 {w W : World} {P : Nat → Int} {j : Nat} (h : PK w W P j) (h0 : cnt P 0 (j + 1) = cnt P 0 j + 1) (h1 : cnt P 1 (j + 1) = cnt P 1 j) : PK w (W.setCell ⟨w.heap.size + 1, 0, none⟩ (.int .i64 ((cnt P 0 j : Nat) + 1))) P (j + 1) :=
  ⟨h.p.other (by omega) _ _, by have := Go.heap_setCell_same W (w.heap.size + 1) 0 _ _ (.int .i64 ((cnt P 0 j : Nat) + 1)) h.x; rw [h0, h1]; exact this, h.b.setCell (p := ⟨w.heap.size + 1, 0, none⟩) (by simp) _, by rw [World.size_setCell]; exact h.s⟩
theorem PK.up1 {w W : World} {P : Nat → Int} {j : Nat} (h : PK w W P j) (h0 : cnt P 0 (j + 1) = cnt P 0 j) (h1 : cnt P 1 (j + 1) = cnt P 1 j + 1) : PK w (W.setCell ⟨w.heap.size + 1, 1, none⟩ (.int .i64 ((cnt P 1 j : Nat) + 1))) P (j + 1) :=
  ⟨h.p.other (by omega) _ _, by have := Go.heap_setCell_same W (w.heap.size + 1) 1 _ _ (.int .i64 ((cnt P 1 j : Nat) + 1)) h.x; rw [h0, h1]; exact this, h.b.setCell (p := ⟨w.heap.size + 1, 1, none⟩) (by simp) _, by rw [World.size_setCell]; exact h.s⟩
/-- what a square adds -/
theorem sq_parts (k d : Int) (j : Nat) : (k = 0 ∧ d = 0) ∨ (pe k d 0 0 = false ∧ mayB k d = false) ∨ (pe k d 0 0 = false ∧ mayB k d = true ∧
    ((k = 1 ∧ (j < 8 ∨ (8 ≤ j ∧ 56 ≤ j) ∨ (8 ≤ j ∧ j < 56))) ∨ (k = 6 ∧ (d = 0 ∨ d = 1)) ∨ ((k == 1) = false ∧ (k == 6) = false))) := by
  by_cases h0 : k = 0 ∧ d = 0
  · exact .inl h0
  · have hp : pe k d 0 0 = false := by cases h : pe k d 0 0 with
      | false => rfl
      | true => exact absurd ((pe_iff _ _ _ _).1 h) h0
    cases hm : mayB k d with
    | false => exact .inr (.inl ⟨hp, rfl⟩)
    | true =>
      refine .inr (.inr ⟨hp, rfl, ?_⟩)
      by_cases h1 : k = 1
      · exact .inl ⟨h1, by omega⟩
      · by_cases h6 : k = 6
        · refine .inr (.inl ⟨h6, ?_⟩)
          unfold mayB sideB at hm
          simp only [Bool.and_eq_true, Bool.or_eq_true, beq_iff_eq] at hm
          exact hm.2
        · exact .inr (.inr ⟨by simp [h1], by simp [h6]⟩)
end Go.Proofs.YtbnpphecknhpeaaDoor
