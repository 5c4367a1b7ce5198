/-
  Contracts: where a piece stands; small questions on pieces.
-/
import Derived.Test.YtldepimkbnodpaaDoorBe
import Derived.Test.YtldepimkbnodpaaDoorG4
namespace Go.Proofs.YtldepimkbnodpaaDoor
open Go.RowKit
set_option linter.unusedSimpArgs false
set_option linter.unusedVariables false

theorem forget_B {P : Program} {c : Code} {Q : Exit → Act → World → Prop} {a : Act} {W : World} (S : World → Prop) (hS : S W) (h : ∀ W, S W → c.wp P Q a W) : c.wp P Q a W := h W hS
theorem forgetL_B {P : Program} {ops : Array Oper} {Q : Exit → Act → World → Prop} {rest : List Oper} {a : Act} {w : World} (S : World → Prop) (h : S w) (H : ∀ W, S W → wpList P ops Q rest a W) : wpList P ops Q rest a w := H w h
/-- the squares below n on which a piece stands -/
def fnd (P : Nat → Int) (k d : Int) : Nat → List Int
  | 0 => []
  | n + 1 => fnd P k d n ++ if pe (P (2 * n)) (P (2 * n + 1)) k d then [(n : Int)] else []
theorem fnd_len (P : Nat → Int) (k d : Int) (n : Nat) : (fnd P k d n).length ≤ n := by
  induction n with
  | zero => exact Nat.le_refl _
  | succ n ih => simp only [fnd, List.length_append]; split <;> simp <;> omega
theorem fnd_mem (P : Nat → Int) (k d : Int) (n : Nat) (x : Int) : x ∈ fnd P k d n ↔ ∃ j : Nat, j < n ∧ x = j ∧ P (2 * j) = k ∧ P (2 * j + 1) = d := by
  induction n with
  | zero => simp [fnd]
  | succ n ih =>
    simp only [fnd, List.mem_append, ih]
    constructor
    · rintro (⟨j, h1, h2⟩ | h)
      · exact ⟨j, by omega, h2⟩
      · split at h
        · rename_i hp
          simp at h
          exact ⟨n, by omega, h, (pe_iff _ _ _ _).1 hp⟩
        · cases h
    · rintro ⟨j, h1, h2, h3⟩
      rcases (show j < n ∨ j = n by omega) with h | rfl
      · exact .inl ⟨j, h, h2, h3⟩
      · right; rw [if_pos ((pe_iff _ _ _ _).2 h3)]; simp [h2]
theorem PB.gr {w w' : World} {b : Nat} {P : Nat → Int} {row : Option Nat} (h : PB w b P) (g : w.grownBy w' row) (hne : some b ≠ row) : PB w' b P :=
  ⟨Nat.lt_of_lt_of_le h.lt g.size, fun i hi => by rw [World.cell?_of_block (a := ⟨b, i, none⟩) (g.block b h.lt hne)]; exact h.cell i hi, fun i => by rw [World.frozen?_of_block (a := ⟨b, i, none⟩) (g.block b h.lt hne)]; exact h.fr i⟩
theorem owns_base {w : World} {B B' : Nat} {e : TypeId} {z : Nat} {v : Value} {n : Nat} {xs : List Value} (h : w.ownsRow B e z v n xs) (hB : B' ≤ B) : w.ownsRow B' e z v n xs := by
  refine ⟨h.1, ?_⟩
  rcases h.2 with h2 | ⟨g, cap, cur, h1, h2, h3⟩
  · exact .inl h2
  · exact .inr ⟨g, cap, cur, h1, Nat.le_trans hB h2, h3⟩
/-- what a function that has a position and a piece begins with -/
theorem two_boxes (P : Nat → Int) (k d : Int) (w : World) (X : Array Value) (hX : X = (pc P).toArray) (t u : TypeId) :
    PB ((w.alloc (.cells X t)).alloc (.cells #[.int .i64 k, .int .i64 d] u)) w.heap.size P ∧ ((w.alloc (.cells X t)).alloc (.cells #[.int .i64 k, .int .i64 d] u)).heap[w.heap.size + 1]? = some (.cells #[.int .i64 k, .int .i64 d] u (0, 0)) ∧
    Below w.heap.size w ((w.alloc (.cells X t)).alloc (.cells #[.int .i64 k, .int .i64 d] u)) ∧ ((w.alloc (.cells X t)).alloc (.cells #[.int .i64 k, .int .i64 d] u)).heap.size = w.heap.size + 2 := by
  subst hX
  exact ⟨(PB.new rfl).alloc _, sl_at (by simp), (below_new _).alloc (by simp) _, by simp⟩

end Go.Proofs.YtldepimkbnodpaaDoor
