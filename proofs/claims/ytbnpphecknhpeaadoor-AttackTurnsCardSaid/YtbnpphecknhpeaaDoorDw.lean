/-
  What is attacked on turned positions, and with a thing less.
-/
import Derived.Test.YtbnpphecknhpeaaDoorDt
import Derived.Test.YtbnpphecknhpeaaDoorBi
namespace Go.Proofs.YtbnpphecknhpeaaDoor
open Go.RowKit Go.Sort
set_option linter.unusedSimpArgs false
set_option linter.unusedVariables false

theorem may_t (k d : Int) : mayB k (tSide k d) = mayB k d := by
  unfold tSide
  cases h : mayB k d
  · simp [h]
  · simp only [if_true]
    unfold mayB at h ⊢
    simp only [Bool.and_eq_true] at h
    rw [oth_side, h.1.1, h.1.2]; rfl
theorem occ_t (P : Nat → Int) (s : Nat) (hs : s < 64) : occS (turnN P) (mir s) = occS P s := by
  have hm := mir_lt s hs
  unfold occS
  rw [turnN_k P _ hm, turnN_d P _ hm, mir_mir s hs]
  congr 1
  unfold tSide
  cases h : mayB (P (2 * s)) (P (2 * s + 1))
  · simp
  · have hk : (P (2 * s) == 0) = false := by
      unfold mayB at h
      simp only [Bool.and_eq_true, decide_eq_true_eq] at h
      simp; omega
    unfold pe
    rw [hk]; rfl
theorem fD_t (a b : Nat) : fD (mir a) (mir b) = fD a b := by unfold fD mir; omega
theorem rD_t (a b : Nat) (ha : a < 64) (hb : b < 64) : rD (mir a) (mir b) = - rD a b := by unfold rD mir; omega
def betT (a b : Nat) : Bool := !good a b || (between (mir a) (mir b) == (between a b).map mir)
theorem betT_ok : ∀ a, a < 64 → ∀ b, b < 64 → betT a b = true := by decide +kernel
theorem bet_lt (a b : Nat) (ha : a < 64) (hb : b < 64) (hg : good a b = true) : ∀ s ∈ between a b, s < 64 := by
  intro s hs
  obtain ⟨i, hi, rfl⟩ := List.mem_map.1 hs
  have := (between_ok a ha b hb hg).1 i (List.mem_range.1 hi)
  omega
theorem open_t (P : Nat → Int) (a b : Nat) (ha : a < 64) (hb : b < 64) (hg : good a b = true) : openB (turnN P) (mir a) (mir b) = openB P a b := by
  have h := betT_ok a ha b hb
  unfold betT at h
  rw [hg] at h
  simp only [Bool.not_true, Bool.false_or, beq_iff_eq] at h
  unfold openB
  rw [h, List.all_map, Bool.eq_iff_iff, List.all_eq_true, List.all_eq_true]
  constructor
  · intro H s hs
    have := H s hs
    simp only [Function.comp] at this
    rwa [occ_t P s (bet_lt a b ha hb hg s hs)] at this
  · intro H s hs
    simp only [Function.comp]
    rw [occ_t P s (bet_lt a b ha hb hg s hs)]
    exact H s hs
theorem absI_neg (n : Int) : absI (-n) = absI n := by unfold absI; split <;> split <;> omega
theorem neg_beq (n m : Int) : (-n == m) = (n == -m) := by rw [Bool.eq_iff_iff, beq_iff_eq, beq_iff_eq]; omega
theorem mir_beq (a b : Nat) (ha : a < 64) (hb : b < 64) : (mir a == mir b) = (a == b) := by
  rw [Bool.eq_iff_iff, beq_iff_eq, beq_iff_eq]
  unfold mir; omega
/-- turned, a piece attacks the squares across -/
theorem att_turn (P : Nat → Int) (a b : Nat) (ha : a < 64) (hb : b < 64) : attR (turnN P) (mir a) (mir b) = attR P a b := by
  have hm := mir_lt a ha
  unfold attR
  rw [turnN_k P _ hm, turnN_d P _ hm, mir_mir a ha]
  generalize P (2 * a) = k
  generalize P (2 * a + 1) = d
  unfold attK
  rw [may_t, mir_beq a b ha hb]
  cases hmay : mayB k d
  · rfl
  cases hab : a == b
  · have hg : ∀ x y : Bool, x = y → (good a b = true → x = y) := fun _ _ h _ => h
    have ht : tSide k d = oth d := by unfold tSide; rw [if_pos hmay]
    have hd : d = 0 ∨ d = 1 := by
      unfold mayB sideB at hmay
      simp only [Bool.and_eq_true, Bool.or_eq_true, beq_iff_eq] at hmay
      exact hmay.2
    have hgood : good a b = (fD a b == 0 || rD a b == 0 || absI (fD a b) == absI (rD a b)) := by unfold good; rw [hab]; rfl
    have hop : ∀ c : Bool, (c = true → good a b = true) → (c && openB (turnN P) (mir a) (mir b)) = (c && openB P a b) := by
      intro c hc
      cases c
      · rfl
      · rw [open_t P a b ha hb (hc rfl)]
    simp only [Bool.not_false, Bool.true_and]
    unfold kindB
    rw [fD_t, rD_t a b ha hb, ht, absI_neg]
    by_cases h1 : k = 1
    · rw [if_pos h1, if_pos h1]
      congr 1
      rw [neg_beq, neg_beq]
      rcases hd with rfl | rfl
      · simp [oth]
      · simp [oth]
    rw [if_neg h1, if_neg h1]
    by_cases h2 : k = 2
    · rw [if_pos h2, if_pos h2]
    rw [if_neg h2, if_neg h2]
    by_cases h6 : k = 6
    · rw [if_pos h6, if_pos h6]
    rw [if_neg h6, if_neg h6]
    have h0 : (-rD a b == 0) = (rD a b == 0) := by rw [neg_beq]; rfl
    rw [h0]
    by_cases h4 : k = 4
    · rw [if_pos h4, if_pos h4]
      exact hop _ fun hc => by rw [hgood]; simp only [Bool.or_eq_true] at hc ⊢; exact .inl hc
    rw [if_neg h4, if_neg h4]
    by_cases h3 : k = 3
    · rw [if_pos h3, if_pos h3]
      exact hop _ fun hc => by rw [hgood, hc, Bool.or_true]
    rw [if_neg h3, if_neg h3]
    exact hop _ fun hc => by rw [hgood]; exact hc
  · rfl
theorem mir_perm : ((List.range 64).map mir).Perm (List.range 64) := by
  rw [← List.isPerm_iff]; decide +kernel
theorem rFrom_up (P : Nat → Int) (s : Nat) (hs : s < 64) : rFromL P (s : Int) = upList (fun t => attR P s t) 64 := by
  have hsq : sq (s : Int) = true := (sq_iff _).2 ⟨by omega, by omega⟩
  unfold rFromL
  rw [hsq]
  rfl
theorem up_count (q : Nat → Bool) : (upList q 64).length = (List.range 64).countP q := by
  unfold upList
  rw [List.length_map, List.countP_eq_length_filter]
theorem from_turn_len (P : Nat → Int) (s : Nat) (hs : s < 64) : (rFromL (turnN P) (mir s : Nat)).length = (rFromL P s).length := by
  rw [rFrom_up _ _ (mir_lt s hs), rFrom_up _ _ hs, up_count, up_count, ← (mir_perm.countP_eq fun t => attR (turnN P) (mir s) t), List.countP_map]
  apply List.countP_congr
  intro t ht
  simp only [Function.comp]
  rw [att_turn P s t hs (List.mem_range.1 ht)]
theorem from_at (P : Nat → Int) (s k : Nat) (hs : s < 64) (hk : k < (rFromL P s).length) : ∃ x : Nat, getI (rFromL P s) k = (x : Int) ∧ x < 64 ∧ attR P s x = true := by
  have hm : getI (rFromL P s) k ∈ rFromL P s := by
    unfold getI; rw [List.getD_eq_getElem?_getD, List.getElem?_eq_getElem hk]; exact List.getElem_mem hk
  generalize getI (rFromL P s) k = y at hm ⊢
  rw [rFrom_up P s hs] at hm
  obtain ⟨i, hi, h1, e⟩ := (upList_mem _ _ _).1 hm
  exact ⟨i, e, hi, h1⟩
/-! ### with a thing less -/
def less (P : Nat → Int) (k : Nat) : Nat → Int := fun i => if i = 2 * k ∨ i = 2 * k + 1 then 0 else P i
theorem occ_less (P : Nat → Int) (k s : Nat) (h : occS P s = false) : occS (less P k) s = false := by
  unfold occS less at *
  by_cases e : s = k
  · subst e; simp [pe]
  · rw [if_neg (by omega), if_neg (by omega)]; exact h
theorem att_less (P : Nat → Int) (k a b : Nat) (hk : a ≠ k) (h : attR P a b = true) : attR (less P k) a b = true := by
  have ek : less P k (2 * a) = P (2 * a) := by unfold less; rw [if_neg (by omega)]
  have ed : less P k (2 * a + 1) = P (2 * a + 1) := by unfold less; rw [if_neg (by omega)]
  unfold attR at h ⊢
  rw [ek, ed]
  generalize P (2 * a) = kk at h ⊢
  generalize P (2 * a + 1) = d at h ⊢
  have ho : openB P a b = true → openB (less P k) a b = true := by
    unfold openB
    rw [List.all_eq_true, List.all_eq_true]
    intro H s hs
    have := H s hs
    rw [Bool.not_eq_true'] at this ⊢
    exact occ_less P k s this
  unfold attK at h ⊢
  rw [Bool.and_eq_true] at h ⊢
  refine ⟨h.1, ?_⟩
  have h2 := h.2
  unfold kindB at h2 ⊢
  split at h2
  · rename_i e; rw [if_pos e]; exact h2
  rename_i e1; rw [if_neg e1]
  split at h2
  · rename_i e; rw [if_pos e]; exact h2
  rename_i e2; rw [if_neg e2]
  split at h2
  · rename_i e; rw [if_pos e]; exact h2
  rename_i e3; rw [if_neg e3]
  split at h2
  · rename_i e; rw [if_pos e]; rw [Bool.and_eq_true] at h2 ⊢; exact ⟨h2.1, ho h2.2⟩
  rename_i e4; rw [if_neg e4]
  split at h2
  · rename_i e; rw [if_pos e]; rw [Bool.and_eq_true] at h2 ⊢; exact ⟨h2.1, ho h2.2⟩
  rename_i e5; rw [if_neg e5]
  rw [Bool.and_eq_true] at h2 ⊢; exact ⟨h2.1, ho h2.2⟩
theorem from_less_len (P : Nat → Int) (k s : Nat) (hs : s < 64) (hk : s ≠ k) : (rFromL P s).length ≤ (rFromL (less P k) s).length := by
  rw [rFrom_up _ _ hs, rFrom_up _ _ hs, up_count, up_count]
  exact List.countP_mono_left fun t _ h => att_less P k s t hk h
end Go.Proofs.YtbnpphecknhpeaaDoor
