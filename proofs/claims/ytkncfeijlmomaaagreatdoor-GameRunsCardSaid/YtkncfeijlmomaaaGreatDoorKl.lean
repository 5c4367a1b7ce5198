/-
  Cells of a greater block that are stored at once.
-/
import Derived.Test.YtkncfeijlmomaaaGreatDoorG23
namespace Go.Proofs.YtkncfeijlmomaaaGreatDoor
open Go.RowKit
set_option linter.unusedSimpArgs false
set_option linter.unusedVariables false

theorem set_mid (pre old rest : List Value) (x : Value) (v : Value) : ((pre ++ x :: rest).toArray.setIfInBounds pre.length v) = (pre ++ v :: rest).toArray := by
  rw [List.setIfInBounds_toArray]
  congr 1
  rw [List.set_append_right _ _ (Nat.le_refl _), Nat.sub_self]
  rfl
theorem heap_setCells_mid {b : Nat} {t : TypeId} (rest : List Value) : ∀ (vs old pre : List Value) (W : World), old.length = vs.length → W.heap[b]? = some (.cells (pre ++ old ++ rest).toArray t (0, 0)) →
    (W.setCells b pre.length vs).heap[b]? = some (.cells (pre ++ vs ++ rest).toArray t (0, 0))
  | [], old, pre, W, hl, h => by
    have : old = [] := List.eq_nil_of_length_eq_zero hl
    subst this
    exact h
  | v :: vs, [], pre, W, hl, h => by cases hl
  | v :: vs, x :: old, pre, W, hl, h => by
    have h1 : (W.setCell ⟨b, pre.length, none⟩ v).heap[b]? = some (.cells ((pre ++ [v]) ++ old ++ rest).toArray t (0, 0)) := by
      have := Go.heap_setCell_same W b pre.length _ _ v h
      rw [this]
      congr 2
      rw [show pre ++ x :: old ++ rest = pre ++ x :: (old ++ rest) by simp, set_mid pre [] (old ++ rest) x v]
      simp
    have h2 := heap_setCells_mid rest vs old (pre ++ [v]) _ (by simpa using hl) h1
    show ((W.setCell ⟨b, pre.length, none⟩ v).setCells b (pre.length + 1) vs).heap[b]? = _
    rw [List.length_append, List.length_singleton] at h2
    rw [h2]
    simp
end Go.Proofs.YtkncfeijlmomaaaGreatDoor
