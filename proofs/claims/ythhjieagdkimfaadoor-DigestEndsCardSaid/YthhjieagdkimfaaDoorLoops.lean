/-
  Contracts: the calls of package bits that go through a row of words.
-/
import Derived.Test.YthhjieagdkimfaaDoorWords
namespace Go.Proofs.YthhjieagdkimfaaDoor
open Go.RowKit
set_option linter.unusedSimpArgs false
set_option linter.unusedVariables false

def sumTo (f : Nat → BitVec 32) : Nat → BitVec 32
  | 0 => 0
  | k + 1 => sumTo f k + f k
/-- how many of the first have a 1 at a place -/
def onesTo (c : Nat) (f : Nat → BitVec 32) : Nat → Nat
  | 0 => 0
  | k + 1 => onesTo c f k + (f k >>> c &&& 1#32).toNat
theorem one_le (x : BitVec 32) : (x &&& 1#32).toNat ≤ 1 := by
  rw [BitVec.toNat_and]; exact Nat.and_le_right
theorem onesTo_le (c : Nat) (f : Nat → BitVec 32) (k : Nat) : onesTo c f k ≤ k := by
  induction k with
  | zero => exact Nat.le_refl _
  | succ k ih => have := one_le (f k >>> c); simp only [onesTo]; omega
def mixTo (x : BitVec 32) (g : Nat → Int) : Nat → BitVec 32
  | 0 => 0
  | k + 1 => mixTo x g k ^^^ turn x (g k % 32).toNat
def mostTo (n : Nat) (f : Nat → BitVec 32) : Nat → BitVec 32
  | 0 => 0
  | k + 1 => if n < 2 * onesTo k f n then mostTo n f k ||| 1#32 <<< k else mostTo n f k

set_option maxHeartbeats 400000 in
theorem sum_any (B : Nat) (p : Option Addr) (n cap : Nat) (f : Nat → BitVec 32) (w : World) (hn : n ≤ 9223372036854775807) (hr : Reads B w p n (fun i => .int .u32 (u (f i)))) :
    Calls Tryd.prog 108 #[.slice p n cap] w fun e w' => e = .returned (.int .u32 (u (sumTo f n))) ∧ w = w' := by
  go_enter Tryd.func108, Tryd.ntmps108
  go_wp2
  go_loop [3, 8] (fun t i => ∃ k : Nat, k ≤ n ∧ i = .int .i64 k ∧ t = .int .u32 (u (sumTo f k))) (fun _ i => n - (intOf i).toNat)
  case atStart => exact ⟨0, Nat.zero_le _, rfl, rfl⟩
  case round =>
    obtain ⟨k, hk, rfl, rfl⟩ := hrel
    by_cases hlt : k < n
    · rcases hr with hr | ⟨b, off, rfl, hb, hc⟩
      · omega
      · have hcell := hc k hlt
        clear hc
        go_wp2
        go_round
        case rel => exact ⟨k + 1, by omega, by go_num, rfl⟩
        case measure => simp [intOf]; omega
    · obtain rfl : k = n := by omega
      go_wp2
      go_ret
      exact ⟨rfl, rfl⟩

set_option maxHeartbeats 400000 in
theorem ones_any (B c : Nat) (p : Option Addr) (n cap : Nat) (f : Nat → BitVec 32) (w : World) (hn : n ≤ 9223372036854775807) (hcl : c < 32) (hr : Reads B w p n (fun i => .int .u32 (u (f i)))) :
    Calls Tryd.prog 123 #[.int .i64 c, .slice p n cap] w fun e w' => e = .returned (.int .i64 (onesTo c f n)) ∧ w = w' := by
  go_enter Tryd.func123, Tryd.ntmps123
  go_wp2
  go_loop [5, 10] (fun t i => ∃ k : Nat, k ≤ n ∧ i = .int .i64 k ∧ t = .int .i64 (onesTo c f k)) (fun _ i => n - (intOf i).toNat)
  case atStart => exact ⟨0, Nat.zero_le _, rfl, rfl⟩
  case round =>
    obtain ⟨k, hk, rfl, rfl⟩ := hrel
    by_cases hlt : k < n
    · rcases hr with hr | ⟨b, off, rfl, hb, hc⟩
      · omega
      · have hcell := hc k hlt
        have ho := onesTo_le c f k
        have h1 := one_le (f k >>> c)
        have h2 : u (f k >>> c &&& 1#32) = (((f k >>> c &&& 1#32).toNat : Nat) : Int) := rfl
        have h3 := u_lo (f k >>> c &&& 1#32)
        have H2 := Lib.hid h2
        have h4 : u (f k >>> c &&& 1#32) ≤ 1 := by rw [h2]; omega
        clear hc h2
        go_wp2
        go_round
        case rel => exact ⟨k + 1, by omega, by go_num, by rw [H2.out]; simp [onesTo]⟩
        case measure => simp [intOf]; omega
    · obtain rfl : k = n := by omega
      go_wp2
      go_ret
      exact ⟨rfl, rfl⟩

set_option maxHeartbeats 400000 in
theorem mix_any (B : Nat) (x : BitVec 32) (p : Option Addr) (n cap : Nat) (g : Nat → Int) (w : World) (hn : n ≤ 9223372036854775807) (hr : Reads B w p n (fun i => .int .i64 (g i))) :
    Calls Tryd.prog 115 #[.int .u32 (u x), .slice p n cap] w fun e w' => e = .returned (.int .u32 (u (mixTo x g n))) ∧ w = w' := by
  go_enter Tryd.func115, Tryd.ntmps115
  go_wp2
  go_loop [5, 10] (fun t i => ∃ k : Nat, k ≤ n ∧ i = .int .i64 k ∧ t = .int .u32 (u (mixTo x g k))) (fun _ i => n - (intOf i).toNat)
  case atStart => exact ⟨0, Nat.zero_le _, rfl, rfl⟩
  case round =>
    obtain ⟨k, hk, rfl, rfl⟩ := hrel
    by_cases hlt : k < n
    · rcases hr with hr | ⟨b, off, rfl, hb, hc⟩
      · omega
      · have hcell := hc k hlt
        clear hc
        go_wp2_with (go_at_call 122; refine (turn_any x (g k) _).mono ?_; rintro e w' ⟨rfl, rfl⟩)
        go_round
        case rel => exact ⟨k + 1, by omega, by go_num, rfl⟩
        case measure => simp [intOf]; omega
    · obtain rfl : k = n := by omega
      go_wp2
      go_ret
      exact ⟨rfl, rfl⟩

set_option maxHeartbeats 400000 in
theorem most_any (B : Nat) (p : Option Addr) (n cap : Nat) (f : Nat → BitVec 32) (w : World) (hn : n ≤ 4611686018427387903) (hr : Reads B w p n (fun i => .int .u32 (u (f i)))) :
    Calls Tryd.prog 117 #[.slice p n cap] w fun e w' => e = .returned (.int .u32 (u (mostTo n f 32))) ∧ w = w' := by
  go_enter Tryd.func117, Tryd.ntmps117
  go_wp2
  go_loop [3, 6] (fun t i => ∃ k : Nat, k ≤ 32 ∧ i = .int .i64 k ∧ t = .int .u32 (u (mostTo n f k))) (fun _ i => 32 - (intOf i).toNat)
  case atStart => exact ⟨0, Nat.zero_le _, rfl, rfl⟩
  case round =>
    obtain ⟨k, hk, rfl, rfl⟩ := hrel
    by_cases hlt : k < 32
    · have ho := onesTo_le k f n
      by_cases hm : n < 2 * onesTo k f n
      all_goals
        go_wp2_with (go_at_call 123; refine (ones_any B k p n cap f _ (by omega) hlt hr).mono ?_; rintro e w' ⟨rfl, rfl⟩)
        go_round
        case rel => exact ⟨k + 1, by omega, by go_num, by simp [mostTo, hm]⟩
        case measure => simp [intOf]; omega
    · obtain rfl : k = 32 := by omega
      go_wp2
      go_ret
      exact ⟨rfl, rfl⟩
end Go.Proofs.YthhjieagdkimfaaDoor
