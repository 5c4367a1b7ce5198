/-
  TagsFresh: mathematics: a table's numbers.
-/
import Derived.Test.YtejknkgbkkdaiaaGreatDoorG19
import Derived.Test.YtejknkgbkkdaiaaGreatDoorTold
namespace Go.Proofs.YtejknkgbkkdaiaaGreatDoor
open Go.RowKit
set_option linter.unusedVariables false
set_option linter.unusedSimpArgs false

theorem addT_sub {L : List Thing} {x y : Thing} (h : y ∈ L) : y ∈ addT L x := by
  unfold addT
  split
  · exact h
  · exact List.mem_append_left _ h
theorem idx_addT {L : List Thing} {x y : Thing} (h : y ∈ L) : idx (addT L x) y = idx L y := by
  unfold addT
  split
  · rfl
  · exact idx_append_in h
theorem idx_inj {L : List Thing} {x y : Thing} (hx : x ∈ L) (hy : y ∈ L) (h : idx L x = idx L y) : x = y := by
  have h1 := idx_in hx
  rw [h, idx_in hy] at h1
  exact (Option.some.inj h1).symm
theorem addT_len (L : List Thing) (x : Thing) : (addT L x).length = L.length + if x ∈ L then 0 else 1 := by
  unfold addT
  split <;> simp
/-- what a table was asked, ahead of the i-th thing -/
def askL (th : Nat → Thing) : Nat → List Thing
  | 0 => []
  | i + 1 => addT (askL th i) (th i)
theorem askL_le (th : Nat → Thing) : ∀ i, (askL th i).length ≤ i
  | 0 => Nat.le_refl _
  | i + 1 => by
    have := askL_le th i
    show (addT (askL th i) (th i)).length ≤ i + 1
    rw [addT_len]
    split <;> omega
theorem askL_mem (th : Nat → Thing) (x : Thing) : ∀ i, x ∈ askL th i ↔ ∃ k, k < i ∧ th k = x
  | 0 => by constructor; (intro h; cases h); (rintro ⟨k, hk, _⟩; omega)
  | i + 1 => by
    have ih := askL_mem th x i
    show x ∈ addT (askL th i) (th i) ↔ _
    constructor
    · intro h
      unfold addT at h
      split at h
      · obtain ⟨k, hk, e⟩ := ih.1 h
        exact ⟨k, by omega, e⟩
      · rcases List.mem_append.1 h with h | h
        · obtain ⟨k, hk, e⟩ := ih.1 h
          exact ⟨k, by omega, e⟩
        · exact ⟨i, by omega, (List.mem_singleton.1 h).symm⟩
    · rintro ⟨k, hk, rfl⟩
      by_cases e : k = i
      · subst e; exact addT_mem _ _
      · exact addT_sub (ih.2 ⟨k, by omega, rfl⟩)
/-- the number that the i-th thing has -/
def numF (th : Nat → Thing) (i : Nat) : Nat := idx (askL th (i + 1)) (th i)
theorem idx_askL (th : Nat → Thing) (k : Nat) : ∀ i, k < i → idx (askL th i) (th k) = numF th k
  | 0, h => absurd h (Nat.not_lt_zero _)
  | i + 1, h => by
    by_cases e : k = i
    · subst e; rfl
    · show idx (addT (askL th i) (th i)) (th k) = _
      rw [idx_addT ((askL_mem th (th k) i).2 ⟨k, by omega, rfl⟩)]
      exact idx_askL th k i (by omega)
theorem numF_lt (th : Nat → Thing) (i : Nat) : numF th i < (askL th (i + 1)).length := idx_lt (addT_mem _ _)
theorem numF_le (th : Nat → Thing) (i : Nat) : numF th i ≤ i := by
  have h1 := numF_lt th i
  have h2 := askL_le th (i + 1)
  omega
theorem numF_eq (th : Nat → Thing) (k i : Nat) (h : k < i) : numF th k = numF th i ↔ th k = th i := by
  constructor
  · intro e
    rw [← idx_askL th k (i + 1) (by omega), ← idx_askL th i (i + 1) (by omega)] at e
    exact idx_inj ((askL_mem th _ _).2 ⟨k, by omega, rfl⟩) ((askL_mem th _ _).2 ⟨i, by omega, rfl⟩) e
  · intro e
    rw [← idx_askL th k (i + 1) (by omega), ← idx_askL th i (i + 1) (by omega), e]
/-- none of the first i things is this one -/
def freshB (th : Nat → Thing) (x : Thing) : Nat → Bool
  | 0 => true
  | i + 1 => freshB th x i && !decide (th i = x)
theorem fresh_iff (th : Nat → Thing) (x : Thing) : ∀ i, freshB th x i = !decide (x ∈ askL th i)
  | 0 => by simp [freshB, askL]
  | i + 1 => by
    have h1 := askL_mem th x (i + 1)
    have h2 := askL_mem th x i
    unfold freshB
    rw [fresh_iff th x i]
    by_cases e : th i = x
    · have : x ∈ askL th (i + 1) := h1.2 ⟨i, by omega, e⟩
      simp [e, this]
    · have : x ∈ askL th (i + 1) ↔ x ∈ askL th i := by
        rw [h1, h2]
        constructor
        · rintro ⟨k, hk, e2⟩
          exact ⟨k, by have : k ≠ i := fun h => e (h ▸ e2); omega, e2⟩
        · rintro ⟨k, hk, e2⟩
          exact ⟨k, by omega, e2⟩
      simp [e, this]
theorem askL_len (th : Nat → Thing) (i : Nat) : (askL th (i + 1)).length = (askL th i).length + if freshB th (th i) i then 1 else 0 := by
  show (addT (askL th i) (th i)).length = _
  rw [addT_len, fresh_iff]
  by_cases h : th i ∈ askL th i <;> simp [h]
theorem val8_congr {s t : Nat → BitVec 8} (h : ∀ i, i < 32 → s i = t i) : ∀ j, j ≤ 8 → val8 s j = val8 t j
  | 0, _ => rfl
  | j + 1, hj => by
    unfold val8
    rw [val8_congr h j (by omega), h (8 + j) (by omega)]
theorem teq_num {a b : Nat} (ha : a < lim64) (hb : b < lim64) : teq (numT a) (numT b) = decide (a = b) := by
  by_cases e : a = b
  · subst e; rw [teq_self]; simp
  · have : teq (numT a) (numT b) = false := by
      cases h : teq (numT a) (numT b)
      · rfl
      · have := val8_congr ((teq_iff _ _).1 h) 8 (Nat.le_refl _)
        rw [val8_num a ha, val8_num b hb] at this
        exact absurd this e
    rw [this]; simp [e]
theorem toldB_is (n i : Nat) (hi : i < lim64) : toldB n (numT i) = decide (i < n) := by
  unfold toldB
  rw [val8_num i hi, teq_self, Bool.and_true]
/-- a thing more, asked of a table and of another: it was told just if it is none more -/
theorem told_more (L : List Thing) (x : Thing) (hL : L.length < lim64) : toldB L.length (numT (idx (addT L x) x)) = ((addT L x).length == L.length) := by
  have h1 := addT_len L x
  by_cases h : x ∈ L
  · rw [addT_in h, toldB_is _ _ (Nat.lt_trans (idx_lt h) hL)]
    simp [idx_lt h]
  · rw [if_neg h] at h1
    rw [addT_new h, idx_new h, toldB_is _ _ hL]
    simp
end Go.Proofs.YtejknkgbkkdaiaaGreatDoor
