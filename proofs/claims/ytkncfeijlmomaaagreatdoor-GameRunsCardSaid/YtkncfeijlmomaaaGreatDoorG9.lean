/-
  Merged: Do, Mc.
-/
import Derived.Test.YtkncfeijlmomaaaGreatDoorG8
import Derived.Test.YtkncfeijlmomaaaGreatDoorG6
import Derived.Test.YtkncfeijlmomaaaGreatDoorG5
import Derived.Laws.OwnMore
import Derived.Lib.AppendZeros

namespace Go.Proofs.YtkncfeijlmomaaaGreatDoor
open Go.RowKit Go.Sort
set_option linter.unusedSimpArgs false
set_option linter.unusedVariables false
set_option maxRecDepth 20000

theorem cut_iff (occ : Nat → Bool) (far : Bool) (b : Int) : ∀ l : List Int, b ∈ cut occ far l ↔ b ∈ l ∧ ∀ x ∈ aheadOf l b, far = true ∧ occ x.toNat = false
  | [] => by simp [cut]
  | x :: r => by
    unfold cut aheadOf
    by_cases h : x = b
    · subst h
      simp
    · have hx : (x == b) = false := by simp [h]
      rw [List.takeWhile_cons]
      simp only [hx, Bool.not_false, if_true, List.mem_cons, Ne.symm h, false_or, forall_eq_or_imp]
      have ih := cut_iff occ far b r
      unfold aheadOf at ih
      cases hf : far && !occ x.toNat
      · simp only [Bool.false_eq_true, if_false, List.not_mem_nil, false_iff]
        rintro ⟨_, ⟨h1, h2⟩, _⟩
        rw [h1, h2] at hf
        cases hf
      · simp only [if_true, ih]
        simp only [Bool.and_eq_true, Bool.not_eq_true'] at hf
        exact ⟨fun ⟨h1, h2⟩ => ⟨h1, hf, h2⟩, fun ⟨h1, _, h2⟩ => ⟨h1, h2⟩⟩
theorem way_iff (P : Nat → Int) (k d : Int) (a b i : Nat) (ha : a < 64) (hb : b < 64) (hi : i < 8) :
    (b : Int) ∈ wayL P a k d i ↔ good a b = true ∧ dirN a b = i ∧ ∀ s ∈ between a b, gFar k d = true ∧ occS P s = false := by
  show (b : Int) ∈ cut (occB P) (gFar k d) (rayA a i) ↔ _
  rw [cut_iff]
  have hf := fitsB_ok a ha b hb
  have hw := wayB_ok a ha i hi
  unfold fitsB at hf
  unfold wayB at hw
  rw [List.all_eq_true] at hw
  constructor
  · rintro ⟨h1, h2⟩
    have h3 := hw _ h1
    simp only [Bool.and_eq_true, decide_eq_true_eq, Int.toNat_natCast, beq_iff_eq] at h3
    obtain ⟨⟨_, hg⟩, hd⟩ := h3
    rw [hg, hd] at hf
    simp only [Bool.not_true, Bool.false_or, Bool.and_eq_true, beq_iff_eq, decide_eq_true_eq] at hf
    refine ⟨hg, hd, fun s hs => ?_⟩
    have h4 := h2 (s : Int) (by rw [hf.1.2]; exact List.mem_map.2 ⟨s, hs, rfl⟩)
    rw [Int.toNat_natCast] at h4
    exact h4
  · rintro ⟨hg, hd, h⟩
    rw [hg, hd] at hf
    simp only [Bool.not_true, Bool.false_or, Bool.and_eq_true, beq_iff_eq, decide_eq_true_eq, List.contains_iff_mem] at hf
    refine ⟨hf.1.1, fun x hx => ?_⟩
    rw [hf.1.2] at hx
    obtain ⟨s, hs, rfl⟩ := List.mem_map.1 hx
    exact h s hs
theorem hop_iff (P : Nat → Int) (d : Int) (a b i : Nat) (ha : a < 64) : (b : Int) ∈ wayL P a 2 d i ↔ (rayA a i).head? = some (b : Int) := by
  show (b : Int) ∈ cut (occB P) (gFar 2 d) (rayA a i) ↔ _
  have hf : gFar 2 d = false := by unfold gFar; simp
  rw [hf]
  cases rayA a i with
  | nil => simp [cut]
  | cons x r => simp [cut, eq_comm]
theorem attUp_mem (P : Nat → Int) (s k d x : Int) (n : Nat) : x ∈ attUp P s k d n ↔ ∃ i, i < n ∧ x ∈ wayL P s k d (gFrom k d + i) := by
  unfold attUp
  rw [List.mem_flatMap]
  exact ⟨fun ⟨i, h1, h2⟩ => ⟨i, List.mem_range.1 h1, h2⟩, fun ⟨i, h1, h2⟩ => ⟨i, List.mem_range.2 h1, h2⟩⟩
/-- a piece that goes by the eight ways -/
theorem ways_iff (P : Nat → Int) (k d : Int) (a b : Nat) (ha : a < 64) (hb : b < 64) (h8 : gTo k d ≤ 8) :
    (b : Int) ∈ attL P a k d ↔ good a b = true ∧ gFrom k d ≤ dirN a b ∧ dirN a b < gTo k d ∧ ∀ s ∈ between a b, gFar k d = true ∧ occS P s = false := by
  unfold attL
  rw [attUp_mem]
  have hg := gait_small k d
  constructor
  · rintro ⟨i, hi, h⟩
    obtain ⟨h1, h2, h3⟩ := (way_iff P k d a b _ ha hb (by omega)).1 h
    exact ⟨h1, by omega, by omega, h3⟩
  · rintro ⟨h1, h2, h3, h4⟩
    refine ⟨dirN a b - gFrom k d, by omega, ?_⟩
    rw [way_iff P k d a b _ ha hb (by omega)]
    exact ⟨h1, by omega, h4⟩
theorem hops_iff (P : Nat → Int) (d : Int) (hd : sideB d = true) (a b : Nat) (ha : a < 64) (hb : b < 64) :
    (b : Int) ∈ attL P a 2 d ↔ absI (fD a b) * absI (rD a b) = 2 := by
  have g0 : gFrom 2 d = 8 := by unfold gFrom; simp [hd]
  have g1 : gTo 2 d = 16 := by unfold gTo; simp [hd]
  unfold attL
  rw [attUp_mem, g0, g1]
  constructor
  · rintro ⟨i, hi, h⟩
    have h1 := (hop_iff P d a b _ ha).1 h
    have h2 := hopB_ok a ha i (by omega)
    unfold hopB at h2
    rw [List.all_eq_true] at h2
    have h3 := h2 (b : Int) (by
      cases hl : rayA a (8 + i) with
      | nil => rw [hl] at h1; cases h1
      | cons x r => rw [hl] at h1; simp at h1; subst h1; simp)
    simp only [Bool.and_eq_true, decide_eq_true_eq, Int.toNat_natCast, beq_iff_eq] at h3
    exact h3.1.2
  · intro h
    have h2 := hopsB_ok a ha b hb
    unfold hopsB at h2
    rw [h] at h2
    simp only [beq_self_eq_true, Bool.not_true, Bool.false_or, List.any_eq_true, List.mem_range, beq_iff_eq] at h2
    obtain ⟨i, hi, h3⟩ := h2
    exact ⟨i, by omega, (hop_iff P d a b _ ha).2 h3⟩
/-- the pairs' facts, in words -/
structure PairF (a b : Nat) : Prop where
  st : good a b = true → ((fD a b == 0 || rD a b == 0) = decide (dirN a b < 4))
  sl : good a b = true → ((absI (fD a b) == absI (rD a b)) = decide (4 ≤ dirN a b))
  near : (good a b && (between a b).isEmpty) = (!(a == b) && (decide (absI (fD a b) ≤ 1) && decide (absI (rD a b) ≤ 1)))
  up : (good a b && (between a b).isEmpty) = true → ((decide (4 ≤ dirN a b) && decide (dirN a b < 6)) = (absI (fD a b) == 1 && rD a b == 1))
  down : (good a b && (between a b).isEmpty) = true → ((decide (6 ≤ dirN a b) && decide (dirN a b < 8)) = (absI (fD a b) == 1 && rD a b == -1))
  pawn : (absI (fD a b) == 1 && (rD a b == 1 || rD a b == -1)) = true → (good a b && (between a b).isEmpty) = true
  gsym : good a b = good b a
  bsym : good a b = true → between b a = (between a b).reverse
  fsym : absI (fD b a) = absI (fD a b)
  rsym : rD b a = - rD a b
  zsym : (fD b a == 0) = (fD a b == 0)
theorem imp_of {x y : Bool} (h : (!x || y) = true) : x = true → y = true := by cases x <;> simp_all
theorem pairF (a b : Nat) (ha : a < 64) (hb : b < 64) : PairF a b := by
  have h := pairB_ok a ha b hb
  unfold pairB at h
  simp only [Bool.and_eq_true] at h
  obtain ⟨⟨⟨⟨⟨⟨⟨⟨h1, h2⟩, h3⟩, h4⟩, h5⟩, h6⟩, h7⟩, h8⟩, h9⟩ := h
  refine ⟨fun g => ?_, fun g => ?_, by simpa using h2, fun g => ?_, fun g => ?_, fun g => ?_, by simpa using h5, fun g => ?_, by simpa using h7, by simpa using h8, by simpa using h9⟩
  · have := imp_of h1 g; simp only [Bool.and_eq_true, beq_iff_eq] at this; exact this.1
  · have := imp_of h1 g; simp only [Bool.and_eq_true, beq_iff_eq] at this; exact this.2
  · have := imp_of h3 g; simp only [Bool.and_eq_true, beq_iff_eq] at this; exact this.1
  · have := imp_of h3 g; simp only [Bool.and_eq_true, beq_iff_eq] at this; exact this.2
  · exact imp_of h4 g
  · simpa using imp_of h6 g
theorem dir8 : ∀ a b, dirN a b < 8 := by
  intro a b
  unfold dirN
  dsimp only
  repeat' split
  all_goals omega
theorem open_iff (P : Nat → Int) (a b : Nat) : openB P a b = true ↔ ∀ s ∈ between a b, occS P s = false := by
  unfold openB
  simp
theorem good_ne {a b : Nat} (h : good a b = true) : a ≠ b := by
  unfold good at h
  intro e
  subst e
  simp at h
/-- THE WAYS TELL WHAT THE DOCUMENT TELLS -/
theorem att_iff (P : Nat → Int) (k d : Int) (a b : Nat) (ha : a < 64) (hb : b < 64) : (b : Int) ∈ attL P a k d ↔ attK P k d a b = true := by
  have F := pairF a b ha hb
  have hd8 := dir8 a b
  cases hs : sideB d
  · have h1 : attK P k d a b = false := by
      unfold attK mayB; rw [hs]; simp
    have h2 : attL P a k d = [] := by
      unfold attL; have : gTo k d = 0 := by unfold gTo; simp [hs]
      rw [this, Nat.zero_sub]; rfl
    rw [h1, h2]; simp
  by_cases hk : 1 ≤ k ∧ k ≤ 6
  rotate_left
  · have h1 : attK P k d a b = false := by
      unfold attK mayB
      by_cases h : 1 ≤ k
      · have : ¬ k ≤ 6 := fun e => hk ⟨h, e⟩
        simp [this]
      · simp [h]
    have h2 : attL P a k d = [] := by
      unfold attL
      have hn : k ≠ 1 ∧ k ≠ 2 ∧ k ≠ 3 ∧ k ≠ 4 ∧ k ≠ 5 ∧ k ≠ 6 := by omega
      have : gTo k d = 0 := by unfold gTo; simp [hn]
      rw [this, Nat.zero_sub]; rfl
    rw [h1, h2]; simp
  have hm : mayB k d = true := by unfold mayB; simp [hk.1, hk.2, hs]
  have hK : attK P k d a b = (!(a == b) && kindB P k d a b) := by unfold attK; rw [hm]; simp
  rw [hK]
  have empty_iff : (∀ s ∈ between a b, False) ↔ (between a b).isEmpty = true := by
    cases between a b with
    | nil => simp
    | cons x r => exact ⟨fun h => (h x (List.mem_cons_self ..)).elim, fun h => by cases h⟩
  rcases (show k = 1 ∨ k = 2 ∨ k = 3 ∨ k = 4 ∨ k = 5 ∨ k = 6 by omega) with rfl | rfl | rfl | rfl | rfl | rfl
  · -- pawns
    have hf : gFar 1 d = false := by unfold gFar; simp
    rw [ways_iff P 1 d a b ha hb (by unfold gTo; simp [hs]; split <;> omega), hf]
    have e1 : (∀ s ∈ between a b, false = true ∧ occS P s = false) ↔ (between a b).isEmpty = true := by
      rw [← empty_iff]; simp
    rw [e1]
    rcases side_cases d with ⟨rfl, _⟩ | ⟨rfl, _⟩ | ⟨_, _, h⟩
    · have g0 : gFrom 1 0 = 4 := rfl
      have g1 : gTo 1 0 = 6 := rfl
      have hkb : kindB P 1 0 a b = (absI (fD a b) == 1 && rD a b == 1) := by unfold kindB; simp
      rw [g0, g1, hkb]
      constructor
      · rintro ⟨h1, h2, h3, h4⟩
        have h5 := F.up (by rw [h1, h4]; rfl)
        rw [← h5]
        simp [h2, h3, good_ne h1]
      · intro h
        simp only [Bool.and_eq_true] at h
        have h5 := F.pawn (by simp [h.2.1, h.2.2])
        have h6 := F.up h5
        rw [h.2.1, h.2.2] at h6
        simp only [Bool.and_eq_true, Bool.and_self, decide_eq_true_eq] at h5 h6
        exact ⟨h5.1, h6.1, h6.2, h5.2⟩
    · have g0 : gFrom 1 1 = 6 := rfl
      have g1 : gTo 1 1 = 8 := rfl
      have hkb : kindB P 1 1 a b = (absI (fD a b) == 1 && rD a b == -1) := by unfold kindB; simp
      rw [g0, g1, hkb]
      constructor
      · rintro ⟨h1, h2, h3, h4⟩
        have h5 := F.down (by rw [h1, h4]; rfl)
        rw [← h5]
        simp [h2, h3, good_ne h1]
      · intro h
        simp only [Bool.and_eq_true] at h
        have h5 := F.pawn (by simp [h.2.1, h.2.2])
        have h6 := F.down h5
        rw [h.2.1, h.2.2] at h6
        simp only [Bool.and_eq_true, Bool.and_self, decide_eq_true_eq] at h5 h6
        exact ⟨h5.1, h6.1, h6.2, h5.2⟩
    · rw [h] at hs; cases hs
  · -- knights
    rw [hops_iff P d hs a b ha hb]
    have hkb : kindB P 2 d a b = (absI (fD a b) * absI (rD a b) == 2) := by unfold kindB; simp
    rw [hkb]
    constructor
    · intro h
      rw [h]
      have : a ≠ b := fun e => by
        subst e
        have : fD a a = 0 := by unfold fD; omega
        rw [this] at h
        simp [absI] at h
      simp [this]
    · intro h
      simp only [Bool.and_eq_true, beq_iff_eq] at h
      exact h.2
  · -- bishops
    have hf : gFar 3 d = true := by unfold gFar; simp [hs]
    have g0 : gFrom 3 d = 4 := by unfold gFrom; simp [hs]
    have g1 : gTo 3 d = 8 := by unfold gTo; simp [hs]
    rw [ways_iff P 3 d a b ha hb (by omega), hf, g0, g1]
    have hkb : kindB P 3 d a b = ((absI (fD a b) == absI (rD a b)) && openB P a b) := by unfold kindB; simp
    rw [hkb]
    constructor
    · rintro ⟨h1, h2, h3, h4⟩
      rw [F.sl h1, (open_iff P a b).2 fun s hs => (h4 s hs).2]
      simp [h2, good_ne h1]
    · intro h
      simp only [Bool.and_eq_true] at h
      have hg : good a b = true := by unfold good; simp [h.1, h.2.1]
      have h5 := F.sl hg
      rw [h.2.1] at h5
      exact ⟨hg, by simpa using h5.symm, hd8, fun s hs => ⟨rfl, (open_iff P a b).1 h.2.2 s hs⟩⟩
  · -- rooks
    have hf : gFar 4 d = true := by unfold gFar; simp [hs]
    have g0 : gFrom 4 d = 0 := by unfold gFrom; simp [hs]
    have g1 : gTo 4 d = 4 := by unfold gTo; simp [hs]
    rw [ways_iff P 4 d a b ha hb (by omega), hf, g0, g1]
    have hkb : kindB P 4 d a b = ((fD a b == 0 || rD a b == 0) && openB P a b) := by unfold kindB; simp
    rw [hkb]
    constructor
    · rintro ⟨h1, h2, h3, h4⟩
      rw [F.st h1, (open_iff P a b).2 fun s hs => (h4 s hs).2]
      simp [h3, good_ne h1]
    · intro h
      simp only [Bool.and_eq_true] at h
      have hg : good a b = true := by unfold good; rw [h.1, h.2.1]; rfl
      have h5 := F.st hg
      rw [h.2.1] at h5
      exact ⟨hg, Nat.zero_le _, by simpa using h5.symm, fun s hs => ⟨rfl, (open_iff P a b).1 h.2.2 s hs⟩⟩
  · -- queens
    have hf : gFar 5 d = true := by unfold gFar; simp [hs]
    have g0 : gFrom 5 d = 0 := by unfold gFrom; simp [hs]
    have g1 : gTo 5 d = 8 := by unfold gTo; simp [hs]
    rw [ways_iff P 5 d a b ha hb (by omega), hf, g0, g1]
    have hkb : kindB P 5 d a b = ((fD a b == 0 || rD a b == 0 || absI (fD a b) == absI (rD a b)) && openB P a b) := by unfold kindB; simp
    rw [hkb]
    have hg : good a b = (!(a == b) && (fD a b == 0 || rD a b == 0 || absI (fD a b) == absI (rD a b))) := rfl
    constructor
    · rintro ⟨h1, h2, h3, h4⟩
      rw [(open_iff P a b).2 fun s hs => (h4 s hs).2, Bool.and_true, ← hg, h1]
    · intro h
      rw [← Bool.and_assoc, ← hg, Bool.and_eq_true] at h
      exact ⟨h.1, Nat.zero_le _, hd8, fun s hs => ⟨rfl, (open_iff P a b).1 h.2 s hs⟩⟩
  · -- kings
    have hf : gFar 6 d = false := by unfold gFar; simp
    have g0 : gFrom 6 d = 0 := by unfold gFrom; simp [hs]
    have g1 : gTo 6 d = 8 := by unfold gTo; simp [hs]
    rw [ways_iff P 6 d a b ha hb (by omega), hf, g0, g1]
    have hkb : kindB P 6 d a b = (decide (absI (fD a b) ≤ 1) && decide (absI (rD a b) ≤ 1)) := by unfold kindB; simp
    have e1 : (∀ s ∈ between a b, false = true ∧ occS P s = false) ↔ (between a b).isEmpty = true := by
      rw [← empty_iff]; simp
    rw [hkb, e1, ← F.near, Bool.and_eq_true]
    exact ⟨fun h => ⟨h.1, h.2.2.2⟩, fun h => ⟨h.1, Nat.zero_le _, hd8, h.2⟩⟩
/-! ### lists -/
theorem rayA_nodup (a i : Nat) (ha : a < 64) (hi : i < 8) : (rayA a i).Nodup := (List.pairwise_flatMap.1 (raysNodup a ha)).1 i (List.mem_range.2 hi)
theorem cut_sub (occ : Nat → Bool) (far : Bool) : ∀ l : List Int, (cut occ far l).Sublist l
  | [] => List.Sublist.refl _
  | x :: r => by
    unfold cut
    split
    · exact (cut_sub occ far r).cons_cons x
    · exact List.Sublist.cons_cons x (List.nil_sublist _)
theorem cut_near (occ : Nat → Bool) (l : List Int) : cut occ false l = l.take 1 := by
  cases l <;> simp [cut]
theorem attL_nodup (P : Nat → Int) (k d : Int) (a : Nat) (ha : a < 64) : (attL P a k d).Nodup := by
  unfold attL attUp
  have hg := gait_small k d
  by_cases h8 : gTo k d ≤ 8
  · refine List.pairwise_flatMap.2 ⟨fun i hi => ?_, ?_⟩
    · have hi2 := List.mem_range.1 hi
      exact (rayA_nodup a (gFrom k d + i) ha (by omega)).sublist (cut_sub _ _ _)
    · refine List.Pairwise.imp_of_mem ?_ List.pairwise_lt_range
      intro i j hi hj hij x hx y hy e
      subst e
      have hi2 := List.mem_range.1 hi
      have hj2 := List.mem_range.1 hj
      have hsq := rayN_sq _ _ _ _ (cut_mem _ _ _ _ hx)
      obtain ⟨x0, x1⟩ := (sq_iff x).1 hsq
      obtain ⟨n, rfl⟩ := Int.eq_ofNat_of_zero_le x0
      have h1 := (way_iff P k d a n _ ha (by omega) (by omega)).1 hx
      have h2 := (way_iff P k d a n _ ha (by omega) (by omega)).1 hy
      omega
  · -- knights
    have hk : gFrom k d = 8 ∧ gTo k d = 16 ∧ gFar k d = false := by
      unfold gTo at h8
      split at h8
      · rename_i hs
        split at h8
        · split at h8 <;> omega
        · split at h8
          · rename_i h2
            subst h2
            exact ⟨by unfold gFrom; simp [hs], by unfold gTo; simp [hs], by unfold gFar; simp⟩
          · repeat' split at h8
            all_goals omega
      · omega
    obtain ⟨g0, g1, gf⟩ := hk
    rw [g0, g1]
    have h := hopsNodup a ha
    have e : (fun i => wayL P a k d (8 + i)) = fun i => (rayA a (8 + i)).take 1 := by
      funext i
      show cut (occB P) (gFar k d) (rayA a (8 + i)) = _
      rw [gf, cut_near]
    rw [e]
    exact h
/-- rising, by definition -/
def upList (q : Nat → Bool) (n : Nat) : List Int := ((List.range n).filter q).map Int.ofNat
theorem upList_succ (q : Nat → Bool) (n : Nat) : upList q (n + 1) = upList q n ++ if q n then [(n : Int)] else [] := by
  unfold upList
  rw [List.range_succ, List.filter_append, List.map_append]
  congr 1
  cases hq : q n <;> simp [hq]
theorem upList_len (q : Nat → Bool) (n : Nat) : (upList q n).length ≤ n := by
  unfold upList
  rw [List.length_map]
  exact Nat.le_trans (List.length_filter_le _ _) (by simp)
theorem upList_mem (q : Nat → Bool) (n : Nat) (x : Int) : x ∈ upList q n ↔ ∃ i : Nat, i < n ∧ q i = true ∧ x = (i : Int) := by
  unfold upList
  simp only [List.mem_map, List.mem_filter, List.mem_range]
  exact ⟨fun ⟨i, ⟨h1, h2⟩, h3⟩ => ⟨i, h1, h2, h3.symm⟩, fun ⟨i, h1, h2, h3⟩ => ⟨i, ⟨h1, h2⟩, h3.symm⟩⟩
theorem upList_lt (q : Nat → Bool) (n : Nat) : (upList q n).Pairwise (fun x y => x < y) := by
  unfold upList
  rw [List.pairwise_map]
  refine List.Pairwise.imp ?_ ((List.pairwise_lt_range (n := n)).filter q)
  intro x y h
  exact Int.ofNat_lt.2 h
theorem risen_up (l : List Int) (q : Nat → Bool) (hn : l.Nodup) (hsq : ∀ x ∈ l, sq x = true) (hq : ∀ n : Nat, n < 64 → ((n : Int) ∈ l ↔ q n = true)) : risen l = upList q 64 := by
  have hm : ∀ x, x ∈ l ↔ x ∈ upList q 64 := by
    intro x
    rw [upList_mem]
    constructor
    · intro h
      obtain ⟨x0, x1⟩ := (sq_iff x).1 (hsq x h)
      obtain ⟨n, rfl⟩ := Int.eq_ofNat_of_zero_le x0
      exact ⟨n, by omega, (hq n (by omega)).1 h, rfl⟩
    · rintro ⟨n, h1, h2, rfl⟩
      exact (hq n h1).2 h2
  have hup := upList_lt q 64
  have hn2 : (upList q 64).Nodup := hup.imp fun h e => by omega
  have hp : l.Perm (upList q 64) := (List.perm_ext_iff_of_nodup hn hn2).2 hm
  unfold risen
  refine List.Perm.eq_of_pairwise (le := fun a b => a ≤ b) (fun a b _ _ h1 h2 => Int.le_antisymm h1 h2) ?_ (hup.imp fun h => Int.le_of_lt h) ((List.mergeSort_perm l _).trans hp)
  refine (List.pairwise_mergeSort (le := fun x y => decide (x ≤ y)) (fun a b c h1 h2 => ?_) (fun a b => ?_) l).imp fun h => by simpa using h
  · simp only [decide_eq_true_eq] at *; exact Int.le_trans h1 h2
  · simp only [Bool.or_eq_true, decide_eq_true_eq]; exact Int.le_total a b
/-- the document's From, To -/
def rFromL (P : Nat → Int) (s : Int) : List Int := if sq s then upList (fun t => attR P s.toNat t) 64 else []
def rToL (P : Nat → Int) (s d : Int) : List Int := if sq s then upList (fun a => P (2 * a + 1) == d && attR P a s.toNat) 64 else []
theorem from_eq (P : Nat → Int) (s : Int) : fromL P s = rFromL P s := by
  unfold fromL rFromL
  split
  · rename_i hs
    obtain ⟨s0, s1⟩ := (sq_iff s).1 hs
    obtain ⟨a, rfl⟩ := Int.eq_ofNat_of_zero_le s0
    rw [Int.toNat_natCast]
    exact risen_up _ _ (attL_nodup P _ _ a (by omega)) (fun x hx => attL_sq P _ _ _ x hx) fun n hn => att_iff P _ _ a n (by omega) hn
  · rfl
theorem attL_off (P : Nat → Int) (s k d : Int) (hs : sq s = false) : attL P s k d = [] := by
  have h : ∀ n, attUp P s k d n = [] := by
    intro n
    induction n with
    | zero => rfl
    | succ n ih =>
      rw [attUp_succ, ih]
      unfold wayL
      rw [stp_off hs, ray_off _ _ rfl]
      rfl
  exact h _
theorem atkUp_mem (P : Nat → Int) (s d x : Int) (n : Nat) : x ∈ atkUp P s d n ↔ ∃ i, i < n ∧ x ∈ atkK P s d (i + 1) := by
  unfold atkUp
  rw [List.mem_flatMap]
  exact ⟨fun ⟨i, h1, h2⟩ => ⟨i, List.mem_range.1 h1, h2⟩, fun ⟨i, h1, h2⟩ => ⟨i, List.mem_range.2 h1, h2⟩⟩
theorem oth_side7 (d : Int) : sideB (oth d) = true := by unfold oth; split <;> rfl
/-- a piece attacks another square just if one of the other side attacks back -/
theorem att_back (P : Nat → Int) (k d : Int) (a b : Nat) (ha : a < 64) (hb : b < 64) (hs : sideB d = true) : attK P k (oth d) a b = attK P k d b a := by
  have F := pairF a b ha hb
  have hm : mayB k (oth d) = mayB k d := by unfold mayB; rw [oth_side7, hs]
  unfold attK
  rw [hm]
  have hab : (a == b) = (b == a) := by rw [Bool.eq_iff_iff, beq_iff_eq, beq_iff_eq]; exact eq_comm
  rw [hab]
  cases hmm : mayB k d
  · rfl
  cases hba : (b == a)
  rotate_left
  · rfl
  have hne : b ≠ a := by simpa using hba
  simp only [Bool.true_and, Bool.not_false]
  have hF2 := pairF b a hb ha
  have hr2 : (rD b a == 0) = (rD a b == 0) := by rw [F.rsym, Bool.eq_iff_iff, beq_iff_eq, beq_iff_eq]; omega
  have habs : absI (rD b a) = absI (rD a b) := by rw [F.rsym]; unfold absI; split <;> split <;> omega
  have hop : good a b = true → openB P b a = openB P a b := fun hg => by
    unfold openB; rw [F.bsym hg, List.all_reverse]
  unfold kindB
  rw [F.fsym, habs, F.zsym, hr2]
  split
  · rename_i h1
    rcases side_cases d with ⟨rfl, _⟩ | ⟨rfl, _⟩ | ⟨_, _, h⟩
    · have h : (rD a b == -1) = (-rD a b == 1) := by rw [Bool.eq_iff_iff, beq_iff_eq, beq_iff_eq]; omega
      rw [F.rsym]
      simp [oth, h]
    · have h : (rD a b == 1) = (-rD a b == -1) := by rw [Bool.eq_iff_iff, beq_iff_eq, beq_iff_eq]; omega
      rw [F.rsym]
      simp [oth, h]
    · rw [h] at hs; cases hs
  · split
    · rfl
    · split
      · rfl
      · have hgd : good a b = (fD a b == 0 || rD a b == 0 || absI (fD a b) == absI (rD a b)) := by unfold good; simp [Ne.symm hne]
        split
        · cases hst : (fD a b == 0 || rD a b == 0)
          · rfl
          · rw [hop (by rw [hgd, hst]; rfl)]
        · split
          · cases hsl : (absI (fD a b) == absI (rD a b))
            · rfl
            · rw [hop (by rw [hgd, hsl]; simp)]
          · cases hst : (fD a b == 0 || rD a b == 0 || absI (fD a b) == absI (rD a b))
            · rfl
            · rw [hop (by rw [hgd, hst])]
theorem to_eq (P : Nat → Int) (s d : Int) : toL P s d = rToL P s d := by
  unfold toL rToL
  cases hs : sq s
  · have : atkL P s d = [] := by
      have h : ∀ n, atkUp P s d n = [] := by
        intro n
        induction n with
        | zero => rfl
        | succ n ih => rw [atkUp_succ, ih]; unfold atkK; rw [attL_off P s _ _ hs]; rfl
      unfold atkL
      split
      · exact h 6
      · rfl
    rw [this]
    simp [risen]
  · obtain ⟨s0, s1⟩ := (sq_iff s).1 hs
    obtain ⟨b, rfl⟩ := Int.eq_ofNat_of_zero_le s0
    have hb : b < 64 := by omega
    rw [if_pos rfl, Int.toNat_natCast]
    have hmem : ∀ x, x ∈ atkL P b d → ∃ i, i < 6 ∧ x ∈ attL P b ((i + 1 : Nat) : Int) (oth d) ∧ isIt P ((i + 1 : Nat) : Int) d x = true := by
      intro x hx
      unfold atkL at hx
      split at hx
      · obtain ⟨i, hi, h2⟩ := (atkUp_mem P _ _ _ _).1 hx
        unfold atkK at h2
        exact ⟨i, hi, List.mem_filter.1 h2⟩
      · cases hx
    refine risen_up _ _ ?_ (fun x hx => ?_) fun n hn => ?_
    · unfold atkL
      split
      · refine List.pairwise_flatMap.2 ⟨fun i hi => (attL_nodup P _ _ b hb).filter _, ?_⟩
        refine List.Pairwise.imp_of_mem ?_ List.pairwise_lt_range
        intro i j hi hj hij x hx y hy e
        subst e
        have h1 := (List.mem_filter.1 hx).2
        have h2 := (List.mem_filter.1 hy).2
        unfold isIt at h1 h2
        have h3 := ((pe_iff _ _ _ _).1 h1).1
        have h4 := ((pe_iff _ _ _ _).1 h2).1
        omega
      · exact List.Pairwise.nil
    · obtain ⟨i, _, h, _⟩ := hmem x hx
      exact attL_sq P _ _ _ x h
    · constructor
      · intro h
        obtain ⟨i, hi, h1, h2⟩ := hmem _ h
        unfold isIt at h2
        rw [Int.toNat_natCast] at h2
        obtain ⟨e1, e2⟩ := (pe_iff _ _ _ _).1 h2
        have hsd : sideB d = true := by
          unfold atkL at h
          split at h
          · assumption
          · cases h
        rw [att_iff P _ _ b n hb hn, att_back P _ d b n hb hn hsd] at h1
        unfold attR
        rw [e1, e2, h1]
        simp
      · intro h
        simp only [Bool.and_eq_true, beq_iff_eq] at h
        obtain ⟨e2, h1⟩ := h
        unfold attR at h1
        rw [e2] at h1
        have hm : mayB (P (2 * n)) d = true := by unfold attK at h1; simp only [Bool.and_eq_true] at h1; exact h1.1.1
        have hk : 1 ≤ P (2 * n) ∧ P (2 * n) ≤ 6 ∧ sideB d = true := by unfold mayB at hm; simp only [Bool.and_eq_true, decide_eq_true_eq] at hm; exact ⟨hm.1.1, hm.1.2, hm.2⟩
        rw [← att_back P _ d b n hb hn hk.2.2, ← att_iff P _ _ b n hb hn] at h1
        unfold atkL
        rw [if_pos hk.2.2, atkUp_mem]
        refine ⟨(P (2 * n)).toNat - 1, by omega, ?_⟩
        have e3 : (((P (2 * n)).toNat - 1 + 1 : Nat) : Int) = P (2 * n) := by omega
        unfold atkK
        rw [e3]
        refine List.mem_filter.2 ⟨h1, ?_⟩
        unfold isIt
        rw [Int.toNat_natCast]
        exact (pe_iff _ _ _ _).2 ⟨rfl, e2⟩
end Go.Proofs.YtkncfeijlmomaaaGreatDoor

namespace Go.Proofs.YtkncfeijlmomaaaGreatDoor
open Go.RowKit Go.Sort
set_option linter.unusedSimpArgs false
set_option linter.unusedVariables false
set_option maxRecDepth 20000

/-- moves.castlings: castling, side, from, by -/
def mcsN (i : Nat) : Int := [1, 0, 4, 1, 2, 0, 4, -1, 4, 1, 60, 1, 8, 1, 60, -1].getD i 0
/-- what package moves' variable holds -/
structure GM (B : Nat) (w : World) : Prop where
  lt : 3 < B
  cell : ∀ i, i < 16 → w.cell? ⟨3, i, none⟩ = some (.int .i64 (mcsN i))
theorem GM.below {B : Nat} {w w' : World} (h : GM B w) (g : Below B w w') : GM B w' :=
  ⟨h.lt, fun i hi => by rw [g.cell (p := ⟨3, i, none⟩) h.lt]; exact h.cell i hi⟩
theorem GM.mono {B B' : Nat} {w : World} (h : GM B w) (hb : B ≤ B') : GM B' w := ⟨Nat.lt_of_lt_of_le h.lt hb, h.cell⟩
/-- what stands in a mover's calls -/
structure MV (B b : Nat) (P : Nat → Int) (w W : World) : Prop where
  p : PB W b P
  g : GS B W
  m : GM B W
  bel : Below w.heap.size w W
  l : b < w.heap.size
  k : B ≤ w.heap.size
theorem MV.s {B b : Nat} {P : Nat → Int} {w W : World} (h : MV B b P w W) : B ≤ W.heap.size := Nat.le_trans h.k h.bel.size
theorem MV.go2 {B b : Nat} {P : Nat → Int} {w W W' : World} (h : MV B b P w W) (g : Below w.heap.size W W') : MV B b P w W' :=
  ⟨h.p.below g h.l, h.g.below (g.mono h.k), h.m.below (g.mono h.k), h.bel.trans g, h.l, h.k⟩
theorem MV.go {B b : Nat} {P : Nat → Int} {w W W' : World} (h : MV B b P w W) (g : Below W.heap.size W W') : MV B b P w W' := h.go2 (g.mono h.bel.size)
theorem MV.begin {B b : Nat} {P : Nat → Int} {w : World} (hp : PB w b P) (hg : GS B w) (hm : GM B w) (hB : B ≤ w.heap.size) : MV B b P w w := ⟨hp, hg, hm, Below.refl _ _, hp.lt, hB⟩
theorem MV.anew {B b : Nat} {P : Nat → Int} {w W : World} (h : MV B b P w W) : MV B b P W W := ⟨h.p, h.g, h.m, Below.refl _ _, h.p.lt, h.s⟩
theorem fromL_range (P : Nat → Int) (s : Int) : ∀ x ∈ fromL P s, 0 ≤ x ∧ x < 64 := fun x hx => by
  rw [from_eq] at hx
  unfold rFromL at hx
  split at hx
  · obtain ⟨i, hi, _, rfl⟩ := (upList_mem _ _ _).1 hx
    omega
  · cases hx
theorem fromL_len (P : Nat → Int) (s : Int) : (fromL P s).length ≤ 64 := by
  rw [from_eq]
  unfold rFromL
  split
  · exact upList_len _ _
  · simp
/-- the squares that a piece attacks, without those of its own side -/
def freeL (P : Nat → Int) (s : Int) : List Int := (fromL P s).filter fun x => !mownB P x.toNat
set_option maxHeartbeats 1000000 in
theorem free_any (B b : Nat) (P : Nat → Int) (s : Int) (w : World) (hp : PB w b P) (hg : GS B w) (hm : GM B w) (hB : B ≤ w.heap.size) :
    Calls Tryz.prog 182 #[.pointer (some ⟨b, 0, none⟩), .int .i64 s] w fun e w' => ∃ v, e = .returned v ∧ Below w.heap.size w w' ∧ w'.ownsRow w.heap.size 3 1 v (freeL P s).length (ivals (freeL P s)) := by
  obtain ⟨X, hX⟩ : ∃ X, X = (pc P).toArray := ⟨_, rfl⟩
  have HI := Lib.hid (MV.begin hp hg hm hB)
  have MF := Lib.hid (fun W h1 h2 => from_any P s W B h1 h2)
  rw [← hX] at MF
  have HX := Lib.hid hX
  have hlt := hp.lt
  have HDF := Lib.hid (fun (v : Value) (W : World) (h1 : PB W b P ∧ w.heap.size ≤ W.heap.size) (h2 : W.ownsRow w.heap.size 3 1 v (fromL P s).length (ivals (fromL P s))) =>
    deleteFunc_any 216 b (enters_of Tryz.func216 (by kernel_rfl) rfl) (fun x => mownB P x.toNat) (fun W => PB W b P ∧ w.heap.size ≤ W.heap.size) w.heap.size (fun W h => h.2) (fun W W' h g => ⟨h.1.below g hlt, Nat.le_trans h.2 g.size⟩)
      (fun W x h x0 x1 => by
        obtain ⟨n, rfl⟩ := Int.eq_ofNat_of_zero_le x0
        rw [Int.toNat_natCast]
        exact mOwn_any b P n (by omega) W h.1) (fromL P s) (fromL_range P s) v W h1 (by have := fromL_len P s; omega) h2)
  clear hX hp hg hm hB hlt
  go_enter Tryz.func182, Tryz.ntmps182
  go_wp2_with (refine wpList_pos (by rfl) _ (by rfl) b P X HX.out (by rfl) HI.out.p ?_)
  refine (MF.out _ HI.out.g HI.out.s).mono ?_
  rintro e w1 ⟨v, rfl, hb, hown⟩
  replace HI := Lib.hid (HI.out.go hb)
  have HO := Lib.hid hown
  clear hb hown MF
  go_wp2_with fail
  refine (HDF.out v _ ⟨HI.out.p, HI.out.bel.size⟩ HO.out).mono ?_
  rintro e w2 ⟨v', rfl, hb, hown⟩
  replace HI := Lib.hid (HI.out.go2 hb)
  have HO2 := Lib.hid hown
  clear hb hown HDF
  go_wp2
  go_ret
  exact ⟨v', rfl, HI.out.bel, HO2.out⟩
theorem owns_below' {w : World} {base base2 : Nat} {e : TypeId} {k : Nat} {v : Value} {n : Nat} {xs : List Value} (h : w.ownsRow base2 e k v n xs) (hb : base ≤ base2) : w.ownsRow base e k v n xs := by
  refine ⟨h.1, ?_⟩
  rcases h.2 with h0 | ⟨g, cap, cur, h1, h2, h3⟩
  · exact .inl h0
  · exact .inr ⟨g, cap, cur, h1, Nat.le_trans hb h2, h3⟩
/-- where a pawn takes -/
def slantB (P : Nat → Int) (x : Nat) : Bool := mothB P x || ((x : Int) == P 130 && emB P x)
def slantL (P : Nat → Int) (s : Int) : List Int := (fromL P s).filter fun x => slantB P x.toNat
set_option maxHeartbeats 4000000 in
theorem slanting_any (B b : Nat) (P : Nat → Int) (s : Int) (w : World) (hp : PB w b P) (hg : GS B w) (hm : GM B w) (hB : B ≤ w.heap.size) :
    Calls Tryz.prog 181 #[.pointer (some ⟨b, 0, none⟩), .int .i64 s] w fun e w' => ∃ v, e = .returned v ∧ Below w.heap.size w w' ∧ w'.ownsRow w.heap.size 3 1 v (slantL P s).length (ivals (slantL P s)) := by
  obtain ⟨i0, hi, hz0, hz1, hz2⟩ := info_parts infoInt
  obtain ⟨X, hX⟩ : ∃ X, X = (pc P).toArray := ⟨_, rfl⟩
  have HI0 := Lib.hid (MV.begin hp hg hm hB)
  have MF := Lib.hid (fun W h1 h2 => from_any P s W B h1 h2)
  rw [← hX] at MF
  have HX := Lib.hid hX
  have hxs := fromL_range P s
  have hxl := fromL_len P s
  have HSL := Lib.hid (show slantL P s = (fromL P s).filter fun x => slantB P x.toNat from rfl)
  obtain ⟨xs, hxe⟩ : ∃ xs, fromL P s = xs := ⟨_, rfl⟩
  rw [hxe] at hxs hxl MF HSL
  obtain ⟨R, hR⟩ : ∃ R, slantL P s = R := ⟨_, rfl⟩
  rw [hR] at HSL ⊢
  obtain ⟨n, hn⟩ : ∃ n, xs.length = n := ⟨_, rfl⟩
  rw [hn] at hxl MF
  have HPRE := Lib.hid (show ∀ j, j < n → (xs.take (j + 1)).filter (fun x => slantB P x.toNat) = (xs.take j).filter (fun x => slantB P x.toNat) ++ if slantB P (xs.getD j 0).toNat then [xs.getD j 0] else [] from fun j hj => by
    rw [List.take_add_one, List.getElem?_eq_getElem (by omega), List.filter_append, show xs.getD j 0 = xs[j] by simp [List.getD, hn, hj]]
    congr 1
    simp only [Option.toList, List.filter_cons, List.filter_nil])
  have HXN := Lib.hid (show ∀ j, j < n → ∃ x : Nat, xs.getD j 0 = (x : Int) ∧ x < 64 from fun j hj => by
    have h := hxs (xs.getD j 0) (by rw [show xs.getD j 0 = xs[j] by simp [List.getD, hn, hj]]; exact List.getElem_mem _)
    exact ⟨(xs.getD j 0).toNat, by omega, by omega⟩)
  have HEND := Lib.hid (show (xs.take n).filter (fun x => slantB P x.toNat) = R by rw [HSL.out, List.take_of_length_le (by omega)])
  have HLE := Lib.hid (show ∀ j, ((xs.take j).filter (fun x => slantB P x.toNat)).length ≤ 64 from fun j => Nat.le_trans (List.length_filter_le _ _) (by simp; omega))
  have HRG := Lib.hid (show ivals xs = (List.range n).map fun i => .int .i64 (xs.getD i 0) by rw [ivals_range, hn])
  have HSB := Lib.hid (show ∀ x, slantB P x = (mothB P x || ((x : Int) == P 130 && emB P x)) from fun _ => rfl)
  have MO := Lib.hid (fun (x : Nat) (hx : x < 64) W h => mOth_any b P x hx W h)
  have ME := Lib.hid (fun (x : Nat) (hx : x < 64) W h => mStands_any b P x hx W h)
  clear hX hp hg hm hB hxe hR hxs HSL
  go_enter Tryz.func181, Tryz.ntmps181
  go_wp2_with (refine wpList_pos (by rfl) _ (by rfl) b P X HX.out (by rfl) HI0.out.p ?_)
  refine (MF.out _ HI0.out.g HI0.out.s).mono ?_
  rintro e w1 ⟨v, rfl, hb, hown⟩
  replace HI0 := Lib.hid (HI0.out.go hb)
  have HB1 := Lib.hid hb
  rw [HRG.out] at hown
  obtain ⟨pa, ca, rfl, hr, _⟩ := sq_reads hown
  have HR := Lib.hid hr
  have HI := Lib.hid HI0.out.anew
  clear hb hown MF hr
  go_wp2
  go_loopw [5, 15] (fun ts i wr => ∃ (j : Nat) (v : Value), j ≤ n ∧ i = .int .i64 (j : Int) ∧ ts = v ∧ MV B b P w1 wr ∧ wr.ownsRow w1.heap.size 3 1 v ((xs.take j).filter (fun x => slantB P x.toNat)).length (ivals ((xs.take j).filter (fun x => slantB P x.toNat)))) (fun _ i _ => n - (intOf i).toNat)
  case atStart => exact ⟨0, _, Nat.zero_le _, rfl, rfl, HI.out, by simpa [ivals] using World.ownsRow_nil w1 w1.heap.size 3 1⟩
  case round =>
    clear HI HI0
    obtain ⟨j, v, hj, rfl, rfl, h1, hown⟩ := hrel
    have HI := Lib.hid h1
    clear h1
    by_cases hlt : j < n
    · obtain ⟨xn, hxn, hx64⟩ := HXN.out j hlt
      have hrr := HR.out.below HI.out.bel
      obtain ⟨ab, ao, rfl⟩ := readsAddr hrr hlt
      have e0 := readsAt hrr hlt
      have hps := HPRE.out j hlt
      have hle := HLE.out j
      rw [hxn] at e0 hps
      rw [Int.toNat_natCast, HSB.out] at hps
      obtain ⟨L, hL⟩ : ∃ L, (xs.take j).filter (fun x => slantB P x.toNat) = L := ⟨_, rfl⟩
      rw [hL] at hps hown hle
      have HOW := Lib.hid hown
      have c1 := MO.out xn hx64 wr HI.out.p
      have HEX := Lib.hid (ME.out xn hx64)
      have ho := HI.out.p.cell 130 (by omega)
      obtain ⟨ov, hov⟩ : ∃ o, P 130 = o := ⟨_, rfl⟩
      rw [hov] at ho hps
      obtain ⟨mo, hmo⟩ : ∃ m, mothB P xn = m := ⟨_, rfl⟩
      rw [hmo] at c1 hps
      obtain ⟨em, hem⟩ : ∃ m, emB P xn = m := ⟨_, rfl⟩
      rw [hem] at HEX hps
      have x0 : (0 : Int) ≤ (xn : Int) := by omega
      have HOV := Lib.hid (show ∀ W, PB W b P → W.cell? ⟨b, 130, none⟩ = some (.int .i64 ov) from fun W h => by rw [← hov]; exact h.cell 130 (by omega))
      clear hown hL hrr hxn hov hmo hem ho hx64
      cases mo
      · by_cases hxo : ov = (xn : Int)
        · subst hxo
          cases em
          · have HS2 := Lib.hid (show (xs.take (j + 1)).filter (fun x => slantB P x.toNat) = L by rw [hps]; simp)
            clear hps
            go_wp2_with fail
            refine c1.mono ?_
            rintro e w5 ⟨rfl, hb⟩
            replace HI := Lib.hid (HI.out.go hb)
            replace HOW := Lib.hid (owns_go HOW.out hb)
            have ho := HOV.out _ HI.out.p
            clear hb e0
            go_wp2_with fail
            refine (HEX.out _ HI.out.p).mono ?_
            rintro e w6 ⟨rfl, hb⟩
            replace HI := Lib.hid (HI.out.go hb)
            replace HOW := Lib.hid (owns_go HOW.out hb)
            clear hb ho
            go_wp2
            go_roundw
            case rel => exact ⟨j + 1, _, hlt, by go_num, rfl, HI.out, by rw [HS2.out]; exact HOW.out⟩
            case measure => simp [intOf]; omega
          · have HS2 := Lib.hid (show (xs.take (j + 1)).filter (fun x => slantB P x.toNat) = L ++ [(xn : Int)] by rw [hps]; simp)
            clear hps
            go_wp2_with fail
            refine c1.mono ?_
            rintro e w5 ⟨rfl, hb⟩
            replace HI := Lib.hid (HI.out.go hb)
            replace HOW := Lib.hid (owns_go HOW.out hb)
            have ho := HOV.out _ HI.out.p
            clear hb e0
            go_wp2_with fail
            refine (HEX.out _ HI.out.p).mono ?_
            rintro e W4 ⟨rfl, hb⟩
            replace HI := Lib.hid (HI.out.go hb)
            replace HOW := Lib.hid (owns_go HOW.out hb)
            clear hb ho
            have hm1 : L.length + 1 ≤ maxLen := by unfold maxLen; omega
            go_wp2_with (at_builtin; refine wpList_append_lies _ rfl (.tmp 37) (.tmp 39) 63 rfl w1.heap.size 3 i0 (.int .i64 0) 1 8 Tryz.underlying63 hi hz0 hz1 hz2 rfl (by decide) _ L.length (ivals L) rfl (owns_go HOW.out ((Below.refl _ _).alloc (Nat.le_refl _) _)) ⟨W4.heap.size, 0, none⟩ 1 1 [.int .i64 (xn : Int)] rfl rfl (World.news_of_block (heap_alloc_new _ _)) ?c2 (by decide) hm1 (by omega) (by have := HI.out.bel.size; simp; omega) (W4.heap.size + 1) (by simp) ?next)
            case c2 => first | rfl | (intro y hy; simp at hy; subst hy; rfl)
            case next =>
              intro g1 cap1 w4 hown1 hgrow1 hat1 hlt3
              rw [ivals_snoc] at hown1
              have HB4 := Lib.hid (((below_new (w := W4) (.cells #[.int .i64 (xn : Int)] 3)).mono HI.out.bel.size).grown hgrow1 (by have := HI.out.bel.size; simp; omega) (fun b e => (HOW.out.lt b e).1))
              replace HI := Lib.hid (HI.out.go2 HB4.out)
              have HO4 := Lib.hid hown1
              clear hgrow1 hown1 hat1 HOW HB4
              go_wp2
              go_roundw
              case rel => exact ⟨j + 1, _, hlt, by go_num, rfl, HI.out, by rw [HS2.out, show (L ++ [(xn : Int)]).length = L.length + 1 by simp]; exact HO4.out⟩
              case measure => simp [intOf]; omega
        · have hxo' : ((xn : Int) == ov) = false := by simp; exact fun h => hxo h.symm
          clear hxo
          have HS2 := Lib.hid (show (xs.take (j + 1)).filter (fun x => slantB P x.toNat) = L by rw [hps, hxo']; simp)
          clear hps
          go_wp2_with fail
          refine c1.mono ?_
          rintro e w5 ⟨rfl, hb⟩
          replace HI := Lib.hid (HI.out.go hb)
          replace HOW := Lib.hid (owns_go HOW.out hb)
          have ho := HOV.out _ HI.out.p
          clear hb e0
          go_wp2
          go_roundw
          case rel => exact ⟨j + 1, _, hlt, by go_num, rfl, HI.out, by rw [HS2.out]; exact HOW.out⟩
          case measure => simp [intOf]; omega
      · have HS2 := Lib.hid (show (xs.take (j + 1)).filter (fun x => slantB P x.toNat) = L ++ [(xn : Int)] by rw [hps]; simp)
        clear hps
        go_wp2_with fail
        refine c1.mono ?_
        rintro e W4 ⟨rfl, hb⟩
        replace HI := Lib.hid (HI.out.go hb)
        replace HOW := Lib.hid (owns_go HOW.out hb)
        clear hb e0
        have hm1 : L.length + 1 ≤ maxLen := by unfold maxLen; omega
        go_wp2_with (at_builtin; refine wpList_append_lies _ rfl (.tmp 37) (.tmp 39) 63 rfl w1.heap.size 3 i0 (.int .i64 0) 1 8 Tryz.underlying63 hi hz0 hz1 hz2 rfl (by decide) _ L.length (ivals L) rfl (owns_go HOW.out ((Below.refl _ _).alloc (Nat.le_refl _) _)) ⟨W4.heap.size, 0, none⟩ 1 1 [.int .i64 (xn : Int)] rfl rfl (World.news_of_block (heap_alloc_new _ _)) ?c2 (by decide) hm1 (by omega) (by have := HI.out.bel.size; simp; omega) (W4.heap.size + 1) (by simp) ?next)
        case c2 => first | rfl | (intro y hy; simp at hy; subst hy; rfl)
        case next =>
          intro g1 cap1 w4 hown1 hgrow1 hat1 hlt3
          rw [ivals_snoc] at hown1
          have HB4 := Lib.hid (((below_new (w := W4) (.cells #[.int .i64 (xn : Int)] 3)).mono HI.out.bel.size).grown hgrow1 (by have := HI.out.bel.size; simp; omega) (fun b e => (HOW.out.lt b e).1))
          replace HI := Lib.hid (HI.out.go2 HB4.out)
          have HO4 := Lib.hid hown1
          clear hgrow1 hown1 hat1 HOW HB4
          go_wp2
          go_roundw
          case rel => exact ⟨j + 1, _, hlt, by go_num, rfl, HI.out, by rw [HS2.out, show (L ++ [(xn : Int)]).length = L.length + 1 by simp]; exact HO4.out⟩
          case measure => simp [intOf]; omega
    · obtain rfl : j = n := by omega
      rw [HEND.out] at hown
      have HO := Lib.hid hown
      clear hown
      go_wp2
      go_ret
      exact ⟨_, rfl, HB1.out.trans (HI.out.bel.mono HB1.out.size), owns_below' HO.out HB1.out.size⟩
end Go.Proofs.YtkncfeijlmomaaaGreatDoor
