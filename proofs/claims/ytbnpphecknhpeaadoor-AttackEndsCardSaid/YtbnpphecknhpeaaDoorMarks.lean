/-
  Contracts: the kit's marks.
-/
import Derived.Test.YtbnpphecknhpeaaDoorMath
import Derived.Deep.QuietTactic
import Derived.BigQuiet
namespace Go.Proofs.YtbnpphecknhpeaaDoor
open Go.RowKit
set_option linter.unusedSimpArgs false
set_option linter.unusedVariables false

set_option maxHeartbeats 400000 in
theorem mark_any (k i : Int) (w : World) (h0 : 0 ≤ k) (h1 : k ≤ 1000000000) (h2 : 0 ≤ i) (h3 : i ≤ 1000000000000) :
    Calls Tryd.prog 25 #[.int .i64 k, .int .i64 i] w fun e w' => e = .returned (.int .i64 (1000003 * (k + 7) + i)) ∧ w = w' := by
  go_enter Tryd.func25, Tryd.ntmps25
  go_wp2
  go_ret
  exact ⟨rfl, rfl⟩
/-- the mark of a place in a list of bytes -/
def markB (k i : Int) : Int := IntKind.u64.wrap ((1000003 * (k + 7) + i) * 11400714819323198485) / 72057594037927936 % 256
theorem mark_j (j : Nat) (w : World) (h : j ≤ 1000000000) :
    Calls Tryd.prog 25 #[.int .i64 1, .int .i64 (j : Int)] w fun e w' => e = .returned (.int .i64 (1000003 * (1 + 7) + (j : Int))) ∧ w' = w :=
  (mark_any 1 j w (by omega) (by omega) (by omega) (by omega)).mono fun e w' h => ⟨h.1, h.2.symm⟩
end Go.Proofs.YtbnpphecknhpeaaDoor
