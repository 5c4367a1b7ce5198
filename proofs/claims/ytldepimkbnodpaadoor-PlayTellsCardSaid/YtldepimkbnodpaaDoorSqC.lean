/-
  Contracts: the document's answers on squares; Pick.
-/
import Derived.Test.YtldepimkbnodpaaDoorG1
import Derived.Test.YtldepimkbnodpaaDoorBits
import Derived.Deep.RegionLaw
import Derived.Deep.AppendLies
import Derived.OwnWalk
namespace Go.Proofs.YtldepimkbnodpaaDoor
open Go.RowKit
set_option linter.unusedSimpArgs false
set_option linter.unusedVariables false

theorem tm8 {s : Int} (h : 0 ≤ s) : s.tmod 8 = s % 8 := Int.tmod_eq_emod_of_nonneg h
theorem td8 {s : Int} (h : 0 ≤ s) : s.tdiv 8 = s / 8 := Int.tdiv_eq_ediv_of_nonneg h
theorem tmod_64 (a : Int) : a % 64 = if a.tmod 64 < 0 then a.tmod 64 + 64 else a.tmod 64 := by
  rcases Int.lt_or_le a 0 with h | h
  · have e : a.tmod 64 = -((-a) % 64) := by
      rw [← Int.tmod_eq_emod_of_nonneg (show 0 ≤ -a by omega), Int.neg_tmod, Int.neg_neg]
    rw [e]
    split <;> omega
  · rw [Int.tmod_eq_emod_of_nonneg h]
    split <;> omega
theorem pick64_any (a : Int) (w : World) :
    Calls Tryd.prog 35 #[.int .i64 a, .int .i64 64] w fun e w' => e = .returned (.int .i64 (a % 64)) ∧ w = w' := by
  have h1 := Int.tmod_lt_of_pos a (b := 64) (by omega)
  have h2 := Int.lt_tmod_of_pos a (b := 64) (by omega)
  have hm := tmod_64 a
  by_cases h0 : a.tmod 64 < 0
  · rw [if_pos h0] at hm
    rw [hm]
    clear hm
    have s1 : IntKind.i64.wrap (a.tmod 64 + 64) = a.tmod 64 + 64 := IntWalk.i64_in _ (by omega)
    go_enter Tryd.func35, Tryd.ntmps35
    go_wp2
    go_ret
    exact ⟨rfl, rfl⟩
  · rw [if_neg h0] at hm
    rw [hm]
    clear hm
    go_enter Tryd.func35, Tryd.ntmps35
    go_wp2
    go_ret
    exact ⟨rfl, rfl⟩
theorem tmod_15 (a : Int) : a % 15 = if a.tmod 15 < 0 then a.tmod 15 + 15 else a.tmod 15 := by
  rcases Int.lt_or_le a 0 with h | h
  · have e : a.tmod 15 = -((-a) % 15) := by
      rw [← Int.tmod_eq_emod_of_nonneg (show 0 ≤ -a by omega), Int.neg_tmod, Int.neg_neg]
    rw [e]
    split <;> omega
  · rw [Int.tmod_eq_emod_of_nonneg h]
    split <;> omega
theorem pick15_any (a : Int) (w : World) :
    Calls Tryd.prog 35 #[.int .i64 a, .int .i64 15] w fun e w' => e = .returned (.int .i64 (a % 15)) ∧ w = w' := by
  have h1 := Int.tmod_lt_of_pos a (b := 15) (by omega)
  have h2 := Int.lt_tmod_of_pos a (b := 15) (by omega)
  have hm := tmod_15 a
  by_cases h0 : a.tmod 15 < 0
  · rw [if_pos h0] at hm
    rw [hm]
    clear hm
    have s1 : IntKind.i64.wrap (a.tmod 15 + 15) = a.tmod 15 + 15 := IntWalk.i64_in _ (by omega)
    go_enter Tryd.func35, Tryd.ntmps35
    go_wp2
    go_ret
    exact ⟨rfl, rfl⟩
  · rw [if_neg h0] at hm
    rw [hm]
    clear hm
    go_enter Tryd.func35, Tryd.ntmps35
    go_wp2
    go_ret
    exact ⟨rfl, rfl⟩

/-- what a value that owns a row reads as -/
theorem sq_reads {w : World} {base : Nat} {e : TypeId} {v : Value} {n : Nat} {f : Nat → Value} (h : w.ownsRow base e 1 v n ((List.range n).map f)) :
    ∃ p c, v = .slice p n c ∧ Reads w.heap.size w p n f ∧ n ≤ c ∧ c ≤ maxLen := by
  rcases h.2 with ⟨rfl, rfl⟩ | ⟨g, cap, cur, rfl, h1, h2, h3, h4, h5, h6⟩
  · exact ⟨none, 0, rfl, .inl rfl, Nat.le_refl _, by unfold maxLen; omega⟩
  · refine ⟨_, cap, rfl, .inr ⟨g, 0, rfl, ?_, fun i hi => ?_⟩, h3, h4⟩
    · rcases Nat.lt_or_ge g w.heap.size with h | h
      · exact h
      · rw [Array.getElem?_eq_none h] at h2; cases h2
    · rw [Nat.zero_add, h.cellAt i (by omega)]
      simp [hi]
theorem stp_hit {s a b t : Int} (hs : sq s = true) (h0 : 0 ≤ t) (h1 : t < 64) (ha : t % 8 - s % 8 = a) (hb : t / 8 - s / 8 = b) : stp s a b = t := by
  obtain ⟨s0, s1⟩ := (sq_iff s).1 hs
  unfold stp
  rw [if_pos (by rw [hs, Bool.true_and]; exact (onB_iff _ _).2 (by omega))]
  omega
theorem stp_miss {s a b : Int} (h : ∀ t : Nat, t < 64 → ¬ ((t : Int) % 8 - s % 8 = a ∧ (t : Int) / 8 - s / 8 = b)) : stp s a b = -1 := by
  unfold stp
  split
  · rename_i hc
    rw [Bool.and_eq_true] at hc
    obtain ⟨s0, s1⟩ := (sq_iff s).1 hc.1
    obtain ⟨u0, u1, u2, u3⟩ := (onB_iff _ _).1 hc.2
    exact absurd ⟨by omega, by omega⟩ (h (s + a + 8 * b).toNat (by omega))
  · rfl
end Go.Proofs.YtldepimkbnodpaaDoor
