/-
  Merged: Uo, Dq, Rj, Rl, Pk, Pl.
-/
import Derived.Test.YtkncfeijlmomaaaGreatDoorG24
import Derived.Test.YtkncfeijlmomaaaGreatDoorG12
import Derived.Test.YtkncfeijlmomaaaGreatDoorG21
import Derived.Test.YtkncfeijlmomaaaGreatDoorG3
import Derived.Test.YtkncfeijlmomaaaGreatDoorG19
import Derived.Test.YtkncfeijlmomaaaGreatDoorG16

namespace Go.Proofs.YtkncfeijlmomaaaGreatDoor
open Go.RowKit Go.Sort
set_option linter.unusedSimpArgs false
set_option linter.unusedVariables false
set_option maxRecDepth 20000

/-! ### the begin's moves -/
theorem start_pos : posB startN = true := by decide +kernel
end Go.Proofs.YtkncfeijlmomaaaGreatDoor

namespace Go.Proofs.YtkncfeijlmomaaaGreatDoor
open Go.RowKit Go.Sort
set_option linter.unusedSimpArgs false
set_option linter.unusedVariables false
set_option maxRecDepth 20000

end Go.Proofs.YtkncfeijlmomaaaGreatDoor

namespace Go.Proofs.YtkncfeijlmomaaaGreatDoor
open Go.RowKit Go.Sort
set_option linter.unusedSimpArgs false
set_option linter.unusedVariables false
set_option maxRecDepth 20000

end Go.Proofs.YtkncfeijlmomaaaGreatDoor

namespace Go.Proofs.YtkncfeijlmomaaaGreatDoor
open Go.RowKit Go.Sort
set_option linter.unusedSimpArgs false
set_option linter.unusedVariables false
set_option maxRecDepth 20000

end Go.Proofs.YtkncfeijlmomaaaGreatDoor

namespace Go.Proofs.YtkncfeijlmomaaaGreatDoor
open Go.RowKit Go.Sort
set_option linter.unusedSimpArgs false
set_option linter.unusedVariables false
set_option maxRecDepth 20000

end Go.Proofs.YtkncfeijlmomaaaGreatDoor

namespace Go.Proofs.YtkncfeijlmomaaaGreatDoor
open Go.RowKit Go.Sort
set_option linter.unusedSimpArgs false
set_option linter.unusedVariables false
set_option maxRecDepth 20000

theorem lost_cases (s : Int) : (s = 4 ∧ lostN s = 3) ∨ (s = 7 ∧ lostN s = 1) ∨ (s = 0 ∧ lostN s = 2) ∨ (s = 60 ∧ lostN s = 12) ∨ (s = 63 ∧ lostN s = 4) ∨ (s = 56 ∧ lostN s = 8) ∨
    ((s == 4) = false ∧ (s == 7) = false ∧ (s == 0) = false ∧ (s == 60) = false ∧ (s == 63) = false ∧ (s == 56) = false ∧ lostN s = 0) := by
  by_cases h1 : s = 4
  · subst h1; exact .inl ⟨rfl, rfl⟩
  by_cases h2 : s = 7
  · subst h2; exact .inr (.inl ⟨rfl, rfl⟩)
  by_cases h3 : s = 0
  · subst h3; exact .inr (.inr (.inl ⟨rfl, rfl⟩))
  by_cases h4 : s = 60
  · subst h4; exact .inr (.inr (.inr (.inl ⟨rfl, rfl⟩)))
  by_cases h5 : s = 63
  · subst h5; exact .inr (.inr (.inr (.inr (.inl ⟨rfl, rfl⟩))))
  by_cases h6 : s = 56
  · subst h6; exact .inr (.inr (.inr (.inr (.inr (.inl ⟨rfl, rfl⟩)))))
  · refine .inr (.inr (.inr (.inr (.inr (.inr ⟨by simp [h1], by simp [h2], by simp [h3], by simp [h4], by simp [h5], by simp [h6], ?_⟩)))))
    unfold lostN; rw [if_neg h1, if_neg h2, if_neg h3, if_neg h4, if_neg h5, if_neg h6]
def p2 : Nat → Int
  | 0 => 1 | 1 => 2 | 2 => 4 | 3 => 8 | _ => 16
end Go.Proofs.YtkncfeijlmomaaaGreatDoor
