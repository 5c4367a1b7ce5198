/-
  Contracts: the calls of package bits that make no memory.
-/
import Derived.Test.YtgkaoagalifklaaBits
namespace Go.Proofs.Ytgkaoagalifklaa
open Go.RowKit

set_option maxHeartbeats 400000 in
theorem choose_any (x a b : BitVec 32) (w : World) :
    Calls Try.prog 19 #[.int .u32 (u x), .int .u32 (u a), .int .u32 (u b)] w fun e w' => e = .returned (.int .u32 (u (x &&& a ||| ~~~x &&& b))) ∧ w = w' := by
  go_enter Try.func19, Try.ntmps19
  go_wp2
  go_ret
  exact ⟨rfl, rfl⟩
set_option maxHeartbeats 400000 in
theorem turn_any (x : BitVec 32) (n : Int) (w : World) :
    Calls Try.prog 11 #[.int .u32 (u x), .int .i64 n] w fun e w' => e = .returned (.int .u32 (u (turn x (n % 32).toNat))) ∧ w = w' := by
  go_enter Try.func11, Try.ntmps11
  go_wp2
  go_ret
  exact ⟨ret_u (turn_u x n), rfl⟩
set_option maxHeartbeats 400000 in
theorem shift_any (x : BitVec 32) (n : Int) (w : World) (h1 : n ≤ 9223372036854775807) :
    Calls Try.prog 15 #[.int .u32 (u x), .int .i64 n] w fun e w' => e = .returned (.int .u32 (u (if n < 0 then x else x >>> n.toNat))) ∧ w = w' := by
  by_cases hn : n < 0
  · go_enter Try.func15, Try.ntmps15
    go_wp2
    go_ret
    exact ⟨rfl, rfl⟩
  · have hs := shr_u (P := Try.prog) (w := w) x .u64 n (by omega)
    have hw : IntKind.u64.wrap n = n := by rw [IntKind.wrap_u64]; omega
    go_enter Try.func15, Try.ntmps15
    go_wp2
    go_ret
    exact ⟨rfl, rfl⟩
end Go.Proofs.Ytgkaoagalifklaa
