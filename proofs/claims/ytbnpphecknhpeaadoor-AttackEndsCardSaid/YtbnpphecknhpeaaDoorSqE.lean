/-
  The walks of the laws' own example and of SquareBack.
-/
import Derived.Test.YtbnpphecknhpeaaDoorSqD
namespace Go.Proofs.YtbnpphecknhpeaaDoor
open Go.RowKit
set_option linter.unusedSimpArgs false
set_option linter.unusedVariables false

theorem i64_of {n : Int} (h0 : -1000000 ≤ n) (h1 : n ≤ 1000000) : I64 n := ⟨by omega, by omega⟩
theorem ex_row (i : Nat) (hi : i < 5) : (#[Value.int .i64 11, Value.int .i64 20, Value.int .i64 29, Value.int .i64 38, Value.int .i64 47] : Array Value)[i]? = some (.int .i64 (rq 2 1 1 i)) := by
  match i, hi with
  | 0, _ => rfl
  | 1, _ => rfl
  | 2, _ => rfl
  | 3, _ => rfl
  | 4, _ => rfl
theorem ex_ray : RayN 2 1 1 5 := ⟨by decide, by decide⟩
theorem name_back {x : Int} (h : sq x = true) : isN (nmV x) = true ∧ nN (nmV x) = x := by
  obtain ⟨h0, h1⟩ := (sq_iff x).1 h
  have e : nmV x = nm x := by unfold nmV; rw [if_pos h]
  have e0 : nb (nm x) 0 = 97 + x % 8 := ch_nat (n := 97 + x % 8) (by omega) (by omega)
  have e1 : nb (nm x) 1 = 49 + x / 8 := ch_nat (n := 49 + x / 8) (by omega) (by omega)
  have hi : isN (nmV x) = true := by
    rw [e]; unfold isN; rw [e0, e1]
    rw [show decide ((nm x).size = 2) = true from rfl, Bool.true_and]
    exact (onB_iff _ _).2 (by omega)
  refine ⟨hi, ?_⟩
  unfold nN
  rw [if_pos hi, e, e0, e1]
  omega
theorem at_back {x : Int} (h : sq x = true) : sAt (sF x) (sR x) = x := by
  obtain ⟨h0, h1⟩ := (sq_iff x).1 h
  unfold sF sR sAt
  rw [if_pos h, if_pos h, if_pos ((onB_iff _ _).2 (by omega))]
  omega
theorem stp_or (x f r : Int) : stp x f r = -1 ∨ sq (stp x f r) = true := by
  cases h : sq (stp x f r)
  · left
    unfold stp at h ⊢
    split
    · rename_i hc
      rw [if_pos hc] at h
      rw [Bool.and_eq_true] at hc
      obtain ⟨s0, s1⟩ := (sq_iff _).1 hc.1
      obtain ⟨u0, u1, u2, u3⟩ := (onB_iff _ _).1 hc.2
      rw [(sq_iff _).2 (by omega)] at h; cases h
    · rfl
  · exact .inr rfl
theorem step_back {x f r : Int} (h : sq (stp x f r) = true) : stp (stp x f r) (-f) (-r) = x := by
  obtain ⟨h1, h2, h3⟩ := stp_sq h
  obtain ⟨s0, s1⟩ := (sq_iff x).1 h1
  exact stp_hit h s0 s1 (by omega) (by omega)
theorem step_dark {x f r : Int} (h : sq (stp x f r) = true) : dark (stp x f r) = (dark x == decide ((f + r + 14) % 2 = 0)) := by
  obtain ⟨h1, h2, h3⟩ := stp_sq h
  unfold dark
  rw [h, h1, h2, h3]
  by_cases p : (x % 8 + x / 8) % 2 = 0 <;> by_cases q : (f + r + 14) % 2 = 0
  all_goals simp only [p, q, decide_true, decide_false, Bool.true_and, Bool.false_and, decide_eq_true_eq]
  all_goals simp
  all_goals omega
theorem step_two {x f r k : Int} (h : sq (stp x f r) = true) (h2 : sq (stp (stp x f r) k 0) = true) : stp x (f + k) r = stp (stp x f r) k 0 := by
  obtain ⟨a1, a2, a3⟩ := stp_sq h
  obtain ⟨b1, b2, b3⟩ := stp_sq h2
  obtain ⟨t0, t1⟩ := (sq_iff _).1 h2
  exact stp_hit a1 t0 t1 (by omega) (by omega)
end Go.Proofs.YtbnpphecknhpeaaDoor
