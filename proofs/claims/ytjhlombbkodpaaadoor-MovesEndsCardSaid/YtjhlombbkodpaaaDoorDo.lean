/-
  What is attacked, by the ways, is what the document tells.
-/
import Derived.Test.YtjhlombbkodpaaaDoorG10
namespace Go.Proofs.YtjhlombbkodpaaaDoor
open Go.RowKit Go.Sort
set_option linter.unusedSimpArgs false
set_option linter.unusedVariables false
set_option maxRecDepth 20000

theorem occ_eq (P : Nat → Int) : occB P = occS P := rfl
theorem cut_iff (occ : Nat → Bool) (far : Bool) (b : Int) : ∀ l : List Int, b ∈ cut occ far l ↔ b ∈ l ∧ ∀ x ∈ aheadOf l b, far = true ∧ occ x.toNat = false
  | [] => by simp [cut]
  | x :: r => by
    unfold cut aheadOf
    by_cases h : x = b
    · subst h
      simp
    · have hx : (x == b) = false := by simp [h]
      rw [List.takeWhile_cons]
      simp only [hx, Bool.not_false, if_true, List.mem_cons, Ne.symm h, false_or, forall_eq_or_imp]
      have ih := cut_iff occ far b r
      unfold aheadOf at ih
      cases hf : far && !occ x.toNat
      · simp only [Bool.false_eq_true, if_false, List.not_mem_nil, false_iff]
        rintro ⟨_, ⟨h1, h2⟩, _⟩
        rw [h1, h2] at hf
        cases hf
      · simp only [if_true, ih]
        simp only [Bool.and_eq_true, Bool.not_eq_true'] at hf
        exact ⟨fun ⟨h1, h2⟩ => ⟨h1, hf, h2⟩, fun ⟨h1, _, h2⟩ => ⟨h1, h2⟩⟩
theorem way_iff (P : Nat → Int) (k d : Int) (a b i : Nat) (ha : a < 64) (hb : b < 64) (hi : i < 8) :
    (b : Int) ∈ wayL P a k d i ↔ good a b = true ∧ dirN a b = i ∧ ∀ s ∈ between a b, gFar k d = true ∧ occS P s = false := by
  show (b : Int) ∈ cut (occB P) (gFar k d) (rayA a i) ↔ _
  rw [cut_iff]
  have hf := fitsB_ok a ha b hb
  have hw := wayB_ok a ha i hi
  unfold fitsB at hf
  unfold wayB at hw
  rw [List.all_eq_true] at hw
  constructor
  · rintro ⟨h1, h2⟩
    have h3 := hw _ h1
    simp only [Bool.and_eq_true, decide_eq_true_eq, Int.toNat_natCast, beq_iff_eq] at h3
    obtain ⟨⟨_, hg⟩, hd⟩ := h3
    rw [hg, hd] at hf
    simp only [Bool.not_true, Bool.false_or, Bool.and_eq_true, beq_iff_eq, decide_eq_true_eq] at hf
    refine ⟨hg, hd, fun s hs => ?_⟩
    have h4 := h2 (s : Int) (by rw [hf.1.2]; exact List.mem_map.2 ⟨s, hs, rfl⟩)
    rw [Int.toNat_natCast] at h4
    exact h4
  · rintro ⟨hg, hd, h⟩
    rw [hg, hd] at hf
    simp only [Bool.not_true, Bool.false_or, Bool.and_eq_true, beq_iff_eq, decide_eq_true_eq, List.contains_iff_mem] at hf
    refine ⟨hf.1.1, fun x hx => ?_⟩
    rw [hf.1.2] at hx
    obtain ⟨s, hs, rfl⟩ := List.mem_map.1 hx
    exact h s hs
theorem hop_iff (P : Nat → Int) (d : Int) (a b i : Nat) (ha : a < 64) : (b : Int) ∈ wayL P a 2 d i ↔ (rayA a i).head? = some (b : Int) := by
  show (b : Int) ∈ cut (occB P) (gFar 2 d) (rayA a i) ↔ _
  have hf : gFar 2 d = false := by unfold gFar; simp
  rw [hf]
  cases rayA a i with
  | nil => simp [cut]
  | cons x r => simp [cut, eq_comm]
theorem attUp_mem (P : Nat → Int) (s k d x : Int) (n : Nat) : x ∈ attUp P s k d n ↔ ∃ i, i < n ∧ x ∈ wayL P s k d (gFrom k d + i) := by
  unfold attUp
  rw [List.mem_flatMap]
  exact ⟨fun ⟨i, h1, h2⟩ => ⟨i, List.mem_range.1 h1, h2⟩, fun ⟨i, h1, h2⟩ => ⟨i, List.mem_range.2 h1, h2⟩⟩
/-- a piece that goes by the eight ways -/
theorem ways_iff (P : Nat → Int) (k d : Int) (a b : Nat) (ha : a < 64) (hb : b < 64) (h8 : gTo k d ≤ 8) :
    (b : Int) ∈ attL P a k d ↔ good a b = true ∧ gFrom k d ≤ dirN a b ∧ dirN a b < gTo k d ∧ ∀ s ∈ between a b, gFar k d = true ∧ occS P s = false := by
  unfold attL
  rw [attUp_mem]
  have hg := gait_small k d
  constructor
  · rintro ⟨i, hi, h⟩
    obtain ⟨h1, h2, h3⟩ := (way_iff P k d a b _ ha hb (by omega)).1 h
    exact ⟨h1, by omega, by omega, h3⟩
  · rintro ⟨h1, h2, h3, h4⟩
    refine ⟨dirN a b - gFrom k d, by omega, ?_⟩
    rw [way_iff P k d a b _ ha hb (by omega)]
    exact ⟨h1, by omega, h4⟩
theorem hops_iff (P : Nat → Int) (d : Int) (hd : sideB d = true) (a b : Nat) (ha : a < 64) (hb : b < 64) :
    (b : Int) ∈ attL P a 2 d ↔ absI (fD a b) * absI (rD a b) = 2 := by
  have g0 : gFrom 2 d = 8 := by unfold gFrom; simp [hd]
  have g1 : gTo 2 d = 16 := by unfold gTo; simp [hd]
  unfold attL
  rw [attUp_mem, g0, g1]
  constructor
  · rintro ⟨i, hi, h⟩
    have h1 := (hop_iff P d a b _ ha).1 h
    have h2 := hopB_ok a ha i (by omega)
    unfold hopB at h2
    rw [List.all_eq_true] at h2
    have h3 := h2 (b : Int) (by
      cases hl : rayA a (8 + i) with
      | nil => rw [hl] at h1; cases h1
      | cons x r => rw [hl] at h1; simp at h1; subst h1; simp)
    simp only [Bool.and_eq_true, decide_eq_true_eq, Int.toNat_natCast, beq_iff_eq] at h3
    exact h3.1.2
  · intro h
    have h2 := hopsB_ok a ha b hb
    unfold hopsB at h2
    rw [h] at h2
    simp only [beq_self_eq_true, Bool.not_true, Bool.false_or, List.any_eq_true, List.mem_range, beq_iff_eq] at h2
    obtain ⟨i, hi, h3⟩ := h2
    exact ⟨i, by omega, (hop_iff P d a b _ ha).2 h3⟩
/-- the pairs' facts, in words -/
structure PairF (a b : Nat) : Prop where
  st : good a b = true → ((fD a b == 0 || rD a b == 0) = decide (dirN a b < 4))
  sl : good a b = true → ((absI (fD a b) == absI (rD a b)) = decide (4 ≤ dirN a b))
  near : (good a b && (between a b).isEmpty) = (!(a == b) && (decide (absI (fD a b) ≤ 1) && decide (absI (rD a b) ≤ 1)))
  up : (good a b && (between a b).isEmpty) = true → ((decide (4 ≤ dirN a b) && decide (dirN a b < 6)) = (absI (fD a b) == 1 && rD a b == 1))
  down : (good a b && (between a b).isEmpty) = true → ((decide (6 ≤ dirN a b) && decide (dirN a b < 8)) = (absI (fD a b) == 1 && rD a b == -1))
  pawn : (absI (fD a b) == 1 && (rD a b == 1 || rD a b == -1)) = true → (good a b && (between a b).isEmpty) = true
  gsym : good a b = good b a
  bsym : good a b = true → between b a = (between a b).reverse
  fsym : absI (fD b a) = absI (fD a b)
  rsym : rD b a = - rD a b
  zsym : (fD b a == 0) = (fD a b == 0)
theorem imp_of {x y : Bool} (h : (!x || y) = true) : x = true → y = true := by cases x <;> simp_all
theorem pairF (a b : Nat) (ha : a < 64) (hb : b < 64) : PairF a b := by
  have h := pairB_ok a ha b hb
  unfold pairB at h
  simp only [Bool.and_eq_true] at h
  obtain ⟨⟨⟨⟨⟨⟨⟨⟨h1, h2⟩, h3⟩, h4⟩, h5⟩, h6⟩, h7⟩, h8⟩, h9⟩ := h
  refine ⟨fun g => ?_, fun g => ?_, by simpa using h2, fun g => ?_, fun g => ?_, fun g => ?_, by simpa using h5, fun g => ?_, by simpa using h7, by simpa using h8, by simpa using h9⟩
  · have := imp_of h1 g; simp only [Bool.and_eq_true, beq_iff_eq] at this; exact this.1
  · have := imp_of h1 g; simp only [Bool.and_eq_true, beq_iff_eq] at this; exact this.2
  · have := imp_of h3 g; simp only [Bool.and_eq_true, beq_iff_eq] at this; exact this.1
  · have := imp_of h3 g; simp only [Bool.and_eq_true, beq_iff_eq] at this; exact this.2
  · exact imp_of h4 g
  · simpa using imp_of h6 g
theorem dir8 : ∀ a b, dirN a b < 8 := by
  intro a b
  unfold dirN
  dsimp only
  repeat' split
  all_goals omega
theorem open_iff (P : Nat → Int) (a b : Nat) : openB P a b = true ↔ ∀ s ∈ between a b, occS P s = false := by
  unfold openB
  simp
theorem good_ne {a b : Nat} (h : good a b = true) : a ≠ b := by
  unfold good at h
  intro e
  subst e
  simp at h
/-- THE WAYS TELL WHAT THE DOCUMENT TELLS -/
theorem att_iff (P : Nat → Int) (k d : Int) (a b : Nat) (ha : a < 64) (hb : b < 64) : (b : Int) ∈ attL P a k d ↔ attK P k d a b = true := by
  have F := pairF a b ha hb
  have hd8 := dir8 a b
  cases hs : sideB d
  · have h1 : attK P k d a b = false := by
      unfold attK mayB; rw [hs]; simp
    have h2 : attL P a k d = [] := by
      unfold attL; have : gTo k d = 0 := by unfold gTo; simp [hs]
      rw [this, Nat.zero_sub]; rfl
    rw [h1, h2]; simp
  by_cases hk : 1 ≤ k ∧ k ≤ 6
  rotate_left
  · have h1 : attK P k d a b = false := by
      unfold attK mayB
      by_cases h : 1 ≤ k
      · have : ¬ k ≤ 6 := fun e => hk ⟨h, e⟩
        simp [this]
      · simp [h]
    have h2 : attL P a k d = [] := by
      unfold attL
      have hn : k ≠ 1 ∧ k ≠ 2 ∧ k ≠ 3 ∧ k ≠ 4 ∧ k ≠ 5 ∧ k ≠ 6 := by omega
      have : gTo k d = 0 := by unfold gTo; simp [hn]
      rw [this, Nat.zero_sub]; rfl
    rw [h1, h2]; simp
  have hm : mayB k d = true := by unfold mayB; simp [hk.1, hk.2, hs]
  have hK : attK P k d a b = (!(a == b) && kindB P k d a b) := by unfold attK; rw [hm]; simp
  rw [hK]
  have empty_iff : (∀ s ∈ between a b, False) ↔ (between a b).isEmpty = true := by
    cases between a b with
    | nil => simp
    | cons x r => exact ⟨fun h => (h x (List.mem_cons_self ..)).elim, fun h => by cases h⟩
  rcases (show k = 1 ∨ k = 2 ∨ k = 3 ∨ k = 4 ∨ k = 5 ∨ k = 6 by omega) with rfl | rfl | rfl | rfl | rfl | rfl
  · -- pawns
    have hf : gFar 1 d = false := by unfold gFar; simp
    rw [ways_iff P 1 d a b ha hb (by unfold gTo; simp [hs]; split <;> omega), hf]
    have e1 : (∀ s ∈ between a b, false = true ∧ occS P s = false) ↔ (between a b).isEmpty = true := by
      rw [← empty_iff]; simp
    rw [e1]
    rcases side_cases d with ⟨rfl, _⟩ | ⟨rfl, _⟩ | ⟨_, _, h⟩
    · have g0 : gFrom 1 0 = 4 := rfl
      have g1 : gTo 1 0 = 6 := rfl
      have hkb : kindB P 1 0 a b = (absI (fD a b) == 1 && rD a b == 1) := by unfold kindB; simp
      rw [g0, g1, hkb]
      constructor
      · rintro ⟨h1, h2, h3, h4⟩
        have h5 := F.up (by rw [h1, h4]; rfl)
        rw [← h5]
        simp [h2, h3, good_ne h1]
      · intro h
        simp only [Bool.and_eq_true] at h
        have h5 := F.pawn (by simp [h.2.1, h.2.2])
        have h6 := F.up h5
        rw [h.2.1, h.2.2] at h6
        simp only [Bool.and_eq_true, Bool.and_self, decide_eq_true_eq] at h5 h6
        exact ⟨h5.1, h6.1, h6.2, h5.2⟩
    · have g0 : gFrom 1 1 = 6 := rfl
      have g1 : gTo 1 1 = 8 := rfl
      have hkb : kindB P 1 1 a b = (absI (fD a b) == 1 && rD a b == -1) := by unfold kindB; simp
      rw [g0, g1, hkb]
      constructor
      · rintro ⟨h1, h2, h3, h4⟩
        have h5 := F.down (by rw [h1, h4]; rfl)
        rw [← h5]
        simp [h2, h3, good_ne h1]
      · intro h
        simp only [Bool.and_eq_true] at h
        have h5 := F.pawn (by simp [h.2.1, h.2.2])
        have h6 := F.down h5
        rw [h.2.1, h.2.2] at h6
        simp only [Bool.and_eq_true, Bool.and_self, decide_eq_true_eq] at h5 h6
        exact ⟨h5.1, h6.1, h6.2, h5.2⟩
    · rw [h] at hs; cases hs
  · -- knights
    rw [hops_iff P d hs a b ha hb]
    have hkb : kindB P 2 d a b = (absI (fD a b) * absI (rD a b) == 2) := by unfold kindB; simp
    rw [hkb]
    constructor
    · intro h
      rw [h]
      have : a ≠ b := fun e => by
        subst e
        have : fD a a = 0 := by unfold fD; omega
        rw [this] at h
        simp [absI] at h
      simp [this]
    · intro h
      simp only [Bool.and_eq_true, beq_iff_eq] at h
      exact h.2
  · -- bishops
    have hf : gFar 3 d = true := by unfold gFar; simp [hs]
    have g0 : gFrom 3 d = 4 := by unfold gFrom; simp [hs]
    have g1 : gTo 3 d = 8 := by unfold gTo; simp [hs]
    rw [ways_iff P 3 d a b ha hb (by omega), hf, g0, g1]
    have hkb : kindB P 3 d a b = ((absI (fD a b) == absI (rD a b)) && openB P a b) := by unfold kindB; simp
    rw [hkb]
    constructor
    · rintro ⟨h1, h2, h3, h4⟩
      rw [F.sl h1, (open_iff P a b).2 fun s hs => (h4 s hs).2]
      simp [h2, good_ne h1]
    · intro h
      simp only [Bool.and_eq_true] at h
      have hg : good a b = true := by unfold good; simp [h.1, h.2.1]
      have h5 := F.sl hg
      rw [h.2.1] at h5
      exact ⟨hg, by simpa using h5.symm, hd8, fun s hs => ⟨rfl, (open_iff P a b).1 h.2.2 s hs⟩⟩
  · -- rooks
    have hf : gFar 4 d = true := by unfold gFar; simp [hs]
    have g0 : gFrom 4 d = 0 := by unfold gFrom; simp [hs]
    have g1 : gTo 4 d = 4 := by unfold gTo; simp [hs]
    rw [ways_iff P 4 d a b ha hb (by omega), hf, g0, g1]
    have hkb : kindB P 4 d a b = ((fD a b == 0 || rD a b == 0) && openB P a b) := by unfold kindB; simp
    rw [hkb]
    constructor
    · rintro ⟨h1, h2, h3, h4⟩
      rw [F.st h1, (open_iff P a b).2 fun s hs => (h4 s hs).2]
      simp [h3, good_ne h1]
    · intro h
      simp only [Bool.and_eq_true] at h
      have hg : good a b = true := by unfold good; rw [h.1, h.2.1]; rfl
      have h5 := F.st hg
      rw [h.2.1] at h5
      exact ⟨hg, Nat.zero_le _, by simpa using h5.symm, fun s hs => ⟨rfl, (open_iff P a b).1 h.2.2 s hs⟩⟩
  · -- queens
    have hf : gFar 5 d = true := by unfold gFar; simp [hs]
    have g0 : gFrom 5 d = 0 := by unfold gFrom; simp [hs]
    have g1 : gTo 5 d = 8 := by unfold gTo; simp [hs]
    rw [ways_iff P 5 d a b ha hb (by omega), hf, g0, g1]
    have hkb : kindB P 5 d a b = ((fD a b == 0 || rD a b == 0 || absI (fD a b) == absI (rD a b)) && openB P a b) := by unfold kindB; simp
    rw [hkb]
    have hg : good a b = (!(a == b) && (fD a b == 0 || rD a b == 0 || absI (fD a b) == absI (rD a b))) := rfl
    constructor
    · rintro ⟨h1, h2, h3, h4⟩
      rw [(open_iff P a b).2 fun s hs => (h4 s hs).2, Bool.and_true, ← hg, h1]
    · intro h
      rw [← Bool.and_assoc, ← hg, Bool.and_eq_true] at h
      exact ⟨h.1, Nat.zero_le _, hd8, fun s hs => ⟨rfl, (open_iff P a b).1 h.2 s hs⟩⟩
  · -- kings
    have hf : gFar 6 d = false := by unfold gFar; simp
    have g0 : gFrom 6 d = 0 := by unfold gFrom; simp [hs]
    have g1 : gTo 6 d = 8 := by unfold gTo; simp [hs]
    rw [ways_iff P 6 d a b ha hb (by omega), hf, g0, g1]
    have hkb : kindB P 6 d a b = (decide (absI (fD a b) ≤ 1) && decide (absI (rD a b) ≤ 1)) := by unfold kindB; simp
    have e1 : (∀ s ∈ between a b, false = true ∧ occS P s = false) ↔ (between a b).isEmpty = true := by
      rw [← empty_iff]; simp
    rw [hkb, e1, ← F.near, Bool.and_eq_true]
    exact ⟨fun h => ⟨h.1, h.2.2.2⟩, fun h => ⟨h.1, Nat.zero_le _, hd8, h.2⟩⟩
/-! ### lists -/
theorem rayA_nodup (a i : Nat) (ha : a < 64) (hi : i < 8) : (rayA a i).Nodup := (List.pairwise_flatMap.1 (raysNodup a ha)).1 i (List.mem_range.2 hi)
theorem cut_sub (occ : Nat → Bool) (far : Bool) : ∀ l : List Int, (cut occ far l).Sublist l
  | [] => List.Sublist.refl _
  | x :: r => by
    unfold cut
    split
    · exact (cut_sub occ far r).cons_cons x
    · exact List.Sublist.cons_cons x (List.nil_sublist _)
theorem cut_near (occ : Nat → Bool) (l : List Int) : cut occ false l = l.take 1 := by
  cases l <;> simp [cut]
theorem pair_of {R : Nat → Nat → Prop} {n : Nat} (h : (List.range n).Pairwise R) {i j : Nat} (hij : i < j) (hj : j < n) : R i j := by
  have := List.pairwise_iff_getElem.1 h i j (by simp; omega) (by simpa using hj) hij
  simpa using this
theorem attL_nodup (P : Nat → Int) (k d : Int) (a : Nat) (ha : a < 64) : (attL P a k d).Nodup := by
  unfold attL attUp
  have hg := gait_small k d
  by_cases h8 : gTo k d ≤ 8
  · refine List.pairwise_flatMap.2 ⟨fun i hi => ?_, ?_⟩
    · have hi2 := List.mem_range.1 hi
      exact (rayA_nodup a (gFrom k d + i) ha (by omega)).sublist (cut_sub _ _ _)
    · refine List.Pairwise.imp_of_mem ?_ List.pairwise_lt_range
      intro i j hi hj hij x hx y hy e
      subst e
      have hi2 := List.mem_range.1 hi
      have hj2 := List.mem_range.1 hj
      have hsq := rayN_sq _ _ _ _ (cut_mem _ _ _ _ hx)
      obtain ⟨x0, x1⟩ := (sq_iff x).1 hsq
      obtain ⟨n, rfl⟩ := Int.eq_ofNat_of_zero_le x0
      have h1 := (way_iff P k d a n _ ha (by omega) (by omega)).1 hx
      have h2 := (way_iff P k d a n _ ha (by omega) (by omega)).1 hy
      omega
  · -- knights
    have hk : gFrom k d = 8 ∧ gTo k d = 16 ∧ gFar k d = false := by
      unfold gTo at h8
      split at h8
      · rename_i hs
        split at h8
        · split at h8 <;> omega
        · split at h8
          · rename_i h2
            subst h2
            exact ⟨by unfold gFrom; simp [hs], by unfold gTo; simp [hs], by unfold gFar; simp⟩
          · repeat' split at h8
            all_goals omega
      · omega
    obtain ⟨g0, g1, gf⟩ := hk
    rw [g0, g1]
    have h := hopsNodup a ha
    have e : (fun i => wayL P a k d (8 + i)) = fun i => (rayA a (8 + i)).take 1 := by
      funext i
      show cut (occB P) (gFar k d) (rayA a (8 + i)) = _
      rw [gf, cut_near]
    rw [e]
    exact h
/-- rising, by definition -/
def upList (q : Nat → Bool) (n : Nat) : List Int := ((List.range n).filter q).map Int.ofNat
theorem upList_succ (q : Nat → Bool) (n : Nat) : upList q (n + 1) = upList q n ++ if q n then [(n : Int)] else [] := by
  unfold upList
  rw [List.range_succ, List.filter_append, List.map_append]
  congr 1
  cases hq : q n <;> simp [hq]
theorem upList_len (q : Nat → Bool) (n : Nat) : (upList q n).length ≤ n := by
  unfold upList
  rw [List.length_map]
  exact Nat.le_trans (List.length_filter_le _ _) (by simp)
theorem upList_mem (q : Nat → Bool) (n : Nat) (x : Int) : x ∈ upList q n ↔ ∃ i : Nat, i < n ∧ q i = true ∧ x = (i : Int) := by
  unfold upList
  simp only [List.mem_map, List.mem_filter, List.mem_range]
  exact ⟨fun ⟨i, ⟨h1, h2⟩, h3⟩ => ⟨i, h1, h2, h3.symm⟩, fun ⟨i, h1, h2, h3⟩ => ⟨i, ⟨h1, h2⟩, h3.symm⟩⟩
theorem upList_lt (q : Nat → Bool) (n : Nat) : (upList q n).Pairwise (fun x y => x < y) := by
  unfold upList
  rw [List.pairwise_map]
  refine List.Pairwise.imp ?_ ((List.pairwise_lt_range (n := n)).filter q)
  intro x y h
  exact Int.ofNat_lt.2 h
theorem risen_up (l : List Int) (q : Nat → Bool) (hn : l.Nodup) (hsq : ∀ x ∈ l, sq x = true) (hq : ∀ n : Nat, n < 64 → ((n : Int) ∈ l ↔ q n = true)) : risen l = upList q 64 := by
  have hm : ∀ x, x ∈ l ↔ x ∈ upList q 64 := by
    intro x
    rw [upList_mem]
    constructor
    · intro h
      obtain ⟨x0, x1⟩ := (sq_iff x).1 (hsq x h)
      obtain ⟨n, rfl⟩ := Int.eq_ofNat_of_zero_le x0
      exact ⟨n, by omega, (hq n (by omega)).1 h, rfl⟩
    · rintro ⟨n, h1, h2, rfl⟩
      exact (hq n h1).2 h2
  have hup := upList_lt q 64
  have hn2 : (upList q 64).Nodup := hup.imp fun h e => by omega
  have hp : l.Perm (upList q 64) := (List.perm_ext_iff_of_nodup hn hn2).2 hm
  unfold risen
  refine List.Perm.eq_of_pairwise (le := fun a b => a ≤ b) (fun a b _ _ h1 h2 => Int.le_antisymm h1 h2) ?_ (hup.imp fun h => Int.le_of_lt h) ((List.mergeSort_perm l _).trans hp)
  refine (List.pairwise_mergeSort (le := fun x y => decide (x ≤ y)) (fun a b c h1 h2 => ?_) (fun a b => ?_) l).imp fun h => by simpa using h
  · simp only [decide_eq_true_eq] at *; exact Int.le_trans h1 h2
  · simp only [Bool.or_eq_true, decide_eq_true_eq]; exact Int.le_total a b
/-- the document's From, To -/
def rFromL (P : Nat → Int) (s : Int) : List Int := if sq s then upList (fun t => attR P s.toNat t) 64 else []
def rToL (P : Nat → Int) (s d : Int) : List Int := if sq s then upList (fun a => P (2 * a + 1) == d && attR P a s.toNat) 64 else []
theorem from_eq (P : Nat → Int) (s : Int) : fromL P s = rFromL P s := by
  unfold fromL rFromL
  split
  · rename_i hs
    obtain ⟨s0, s1⟩ := (sq_iff s).1 hs
    obtain ⟨a, rfl⟩ := Int.eq_ofNat_of_zero_le s0
    rw [Int.toNat_natCast]
    exact risen_up _ _ (attL_nodup P _ _ a (by omega)) (fun x hx => attL_sq P _ _ _ x hx) fun n hn => att_iff P _ _ a n (by omega) hn
  · rfl
theorem attL_off (P : Nat → Int) (s k d : Int) (hs : sq s = false) : attL P s k d = [] := by
  have h : ∀ n, attUp P s k d n = [] := by
    intro n
    induction n with
    | zero => rfl
    | succ n ih =>
      rw [attUp_succ, ih]
      unfold wayL
      rw [stp_off hs, ray_off _ _ rfl]
      rfl
  exact h _
theorem atkUp_mem (P : Nat → Int) (s d x : Int) (n : Nat) : x ∈ atkUp P s d n ↔ ∃ i, i < n ∧ x ∈ atkK P s d (i + 1) := by
  unfold atkUp
  rw [List.mem_flatMap]
  exact ⟨fun ⟨i, h1, h2⟩ => ⟨i, List.mem_range.1 h1, h2⟩, fun ⟨i, h1, h2⟩ => ⟨i, List.mem_range.2 h1, h2⟩⟩
theorem oth_side7 (d : Int) : sideB (oth d) = true := by unfold oth; split <;> rfl
/-- a piece attacks another square just if one of the other side attacks back -/
theorem att_back (P : Nat → Int) (k d : Int) (a b : Nat) (ha : a < 64) (hb : b < 64) (hs : sideB d = true) : attK P k (oth d) a b = attK P k d b a := by
  have F := pairF a b ha hb
  have hm : mayB k (oth d) = mayB k d := by unfold mayB; rw [oth_side7, hs]
  unfold attK
  rw [hm]
  have hab : (a == b) = (b == a) := by rw [Bool.eq_iff_iff, beq_iff_eq, beq_iff_eq]; exact eq_comm
  rw [hab]
  cases hmm : mayB k d
  · rfl
  cases hba : (b == a)
  rotate_left
  · rfl
  have hne : b ≠ a := by simpa using hba
  simp only [Bool.true_and, Bool.not_false]
  have hF2 := pairF b a hb ha
  have hr2 : (rD b a == 0) = (rD a b == 0) := by rw [F.rsym, Bool.eq_iff_iff, beq_iff_eq, beq_iff_eq]; omega
  have habs : absI (rD b a) = absI (rD a b) := by rw [F.rsym]; unfold absI; split <;> split <;> omega
  have hop : good a b = true → openB P b a = openB P a b := fun hg => by
    unfold openB; rw [F.bsym hg, List.all_reverse]
  unfold kindB
  rw [F.fsym, habs, F.zsym, hr2]
  split
  · rename_i h1
    rcases side_cases d with ⟨rfl, _⟩ | ⟨rfl, _⟩ | ⟨_, _, h⟩
    · have h : (rD a b == -1) = (-rD a b == 1) := by rw [Bool.eq_iff_iff, beq_iff_eq, beq_iff_eq]; omega
      rw [F.rsym]
      simp [oth, h]
    · have h : (rD a b == 1) = (-rD a b == -1) := by rw [Bool.eq_iff_iff, beq_iff_eq, beq_iff_eq]; omega
      rw [F.rsym]
      simp [oth, h]
    · rw [h] at hs; cases hs
  · split
    · rfl
    · split
      · rfl
      · have hgd : good a b = (fD a b == 0 || rD a b == 0 || absI (fD a b) == absI (rD a b)) := by unfold good; simp [Ne.symm hne]
        split
        · cases hst : (fD a b == 0 || rD a b == 0)
          · rfl
          · rw [hop (by rw [hgd, hst]; rfl)]
        · split
          · cases hsl : (absI (fD a b) == absI (rD a b))
            · rfl
            · rw [hop (by rw [hgd, hsl]; simp)]
          · cases hst : (fD a b == 0 || rD a b == 0 || absI (fD a b) == absI (rD a b))
            · rfl
            · rw [hop (by rw [hgd, hst])]
theorem to_eq (P : Nat → Int) (s d : Int) : toL P s d = rToL P s d := by
  unfold toL rToL
  cases hs : sq s
  · have : atkL P s d = [] := by
      have h : ∀ n, atkUp P s d n = [] := by
        intro n
        induction n with
        | zero => rfl
        | succ n ih => rw [atkUp_succ, ih]; unfold atkK; rw [attL_off P s _ _ hs]; rfl
      unfold atkL
      split
      · exact h 6
      · rfl
    rw [this]
    simp [risen]
  · obtain ⟨s0, s1⟩ := (sq_iff s).1 hs
    obtain ⟨b, rfl⟩ := Int.eq_ofNat_of_zero_le s0
    have hb : b < 64 := by omega
    rw [if_pos rfl, Int.toNat_natCast]
    have hmem : ∀ x, x ∈ atkL P b d → ∃ i, i < 6 ∧ x ∈ attL P b ((i + 1 : Nat) : Int) (oth d) ∧ isIt P ((i + 1 : Nat) : Int) d x = true := by
      intro x hx
      unfold atkL at hx
      split at hx
      · obtain ⟨i, hi, h2⟩ := (atkUp_mem P _ _ _ _).1 hx
        unfold atkK at h2
        exact ⟨i, hi, List.mem_filter.1 h2⟩
      · cases hx
    refine risen_up _ _ ?_ (fun x hx => ?_) fun n hn => ?_
    · unfold atkL
      split
      · refine List.pairwise_flatMap.2 ⟨fun i hi => (attL_nodup P _ _ b hb).filter _, ?_⟩
        refine List.Pairwise.imp_of_mem ?_ List.pairwise_lt_range
        intro i j hi hj hij x hx y hy e
        subst e
        have h1 := (List.mem_filter.1 hx).2
        have h2 := (List.mem_filter.1 hy).2
        unfold isIt at h1 h2
        have h3 := ((pe_iff _ _ _ _).1 h1).1
        have h4 := ((pe_iff _ _ _ _).1 h2).1
        omega
      · exact List.Pairwise.nil
    · obtain ⟨i, _, h, _⟩ := hmem x hx
      exact attL_sq P _ _ _ x h
    · constructor
      · intro h
        obtain ⟨i, hi, h1, h2⟩ := hmem _ h
        unfold isIt at h2
        rw [Int.toNat_natCast] at h2
        obtain ⟨e1, e2⟩ := (pe_iff _ _ _ _).1 h2
        have hsd : sideB d = true := by
          unfold atkL at h
          split at h
          · assumption
          · cases h
        rw [att_iff P _ _ b n hb hn, att_back P _ d b n hb hn hsd] at h1
        unfold attR
        rw [e1, e2, h1]
        simp
      · intro h
        simp only [Bool.and_eq_true, beq_iff_eq] at h
        obtain ⟨e2, h1⟩ := h
        unfold attR at h1
        rw [e2] at h1
        have hm : mayB (P (2 * n)) d = true := by unfold attK at h1; simp only [Bool.and_eq_true] at h1; exact h1.1.1
        have hk : 1 ≤ P (2 * n) ∧ P (2 * n) ≤ 6 ∧ sideB d = true := by unfold mayB at hm; simp only [Bool.and_eq_true, decide_eq_true_eq] at hm; exact ⟨hm.1.1, hm.1.2, hm.2⟩
        rw [← att_back P _ d b n hb hn hk.2.2, ← att_iff P _ _ b n hb hn] at h1
        unfold atkL
        rw [if_pos hk.2.2, atkUp_mem]
        refine ⟨(P (2 * n)).toNat - 1, by omega, ?_⟩
        have e3 : (((P (2 * n)).toNat - 1 + 1 : Nat) : Int) = P (2 * n) := by omega
        unfold atkK
        rw [e3]
        refine List.mem_filter.2 ⟨h1, ?_⟩
        unfold isIt
        rw [Int.toNat_natCast]
        exact (pe_iff _ _ _ _).2 ⟨rfl, e2⟩
end Go.Proofs.YtjhlombbkodpaaaDoor
