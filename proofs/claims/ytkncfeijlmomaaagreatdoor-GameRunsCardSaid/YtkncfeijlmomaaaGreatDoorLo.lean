/-
  The side of a position that is an operand.
-/
import Derived.Test.YtkncfeijlmomaaaGreatDoorLa
namespace Go.Proofs.YtkncfeijlmomaaaGreatDoor
open Go.RowKit
set_option linter.unusedSimpArgs false
set_option linter.unusedVariables false

theorem size_sqs (w : World) : (sizeOf 26).run Tryz.prog w = .ok 128 w := by
  obtain ⟨i, hi, hz⟩ : ∃ i, Tryz.prog.info? 26 = some i ∧ i.size = 128 := by
    have h : (Tryz.prog.info? 26).map (·.size) = some 128 := by kernel_rfl
    cases hi : Tryz.prog.info? 26 with
    | none => rw [hi] at h; cases h
    | some i => rw [hi] at h; exact ⟨i, rfl, Option.some.inj h⟩
  simp [sizeOf, typeInfo, hi, hz]
theorem field_side (X : Array Value) (P : Nat → Int) (hX : X = (pc P).toArray) (w : World) : (Instr.field 29 (.agg X) 1).run Tryz.prog w = .ok (.int .i64 (P 128)) w := by
  have hx : X[128]? = some (.int .i64 (P 128)) := by rw [hX, List.getElem?_toArray]; exact pc_get P 128 (by omega)
  simp [Instr.field, asAgg, part, isAgg, run_underlying Tryz.underlying29, run_underlying Tryz.underlying23, size_sqs, hx]
end Go.Proofs.YtkncfeijlmomaaaGreatDoor
