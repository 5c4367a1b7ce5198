/-
  Merged: Mm, Nc.
-/
import Derived.Test.YtjhlombbkodpaaaDoorG18
import Derived.Test.YtjhlombbkodpaaaDoorG19
import Derived.Test.YtjhlombbkodpaaaDoorDo
import Derived.Test.YtjhlombbkodpaaaDoorBi

namespace Go.Proofs.YtjhlombbkodpaaaDoor
open Go.RowKit Go.Sort
set_option linter.unusedSimpArgs false
set_option linter.unusedVariables false
set_option maxRecDepth 20000

def lessM (a b : Int × Int × Int) : Prop := lessV a.1 a.2.1 a.2.2 b.1 b.2.1 b.2.2 = true
theorem lessV_not (f t k f' t' k' : Int) (h : lessV f t k f' t' k' = true) : lessV f' t' k' f t k = false := by
  unfold lessV at *
  by_cases h1 : f = f'
  · subst h1
    by_cases h2 : t = t'
    · subst h2
      simp only [if_true] at h ⊢
      simp only [decide_eq_true_eq, decide_eq_false_iff_not] at *
      omega
    · rw [if_pos rfl, if_neg h2] at h
      rw [if_pos rfl, if_neg (fun e => h2 e.symm)]
      simp only [decide_eq_true_eq, decide_eq_false_iff_not] at *
      omega
  · rw [if_neg h1] at h
    rw [if_neg (fun e => h1 e.symm)]
    simp only [decide_eq_true_eq, decide_eq_false_iff_not] at *
    omega
theorem oneM_mem (P : Nat → Int) (s : Nat) (t : Int) (m : Int × Int × Int) (h : m ∈ oneM P s t) : m.1 = s ∧ m.2.1 = t ∧ (if lastB P s t.toNat = true then 2 ≤ m.2.2 ∧ m.2.2 ≤ 5 else m.2.2 = 0) := by
  unfold oneM at h
  split at h
  · rename_i hl
    rw [if_pos hl]
    simp only [List.mem_cons, List.not_mem_nil, or_false] at h
    rcases h with rfl | rfl | rfl | rfl <;> exact ⟨rfl, rfl, by constructor <;> simp⟩
  · rename_i hl
    rw [if_neg hl]
    simp only [List.mem_singleton] at h
    subst h
    exact ⟨rfl, rfl, rfl⟩
theorem oneM_rise (P : Nat → Int) (s : Nat) (t : Int) : (oneM P s t).Pairwise lessM := by
  unfold oneM
  split
  · simp [lessM, lessV]
  · simp
theorem putL_mem (P : Nat → Int) (s : Nat) (xs : List Int) (m : Int × Int × Int) (h : m ∈ putL P s xs) : m.1 = s ∧ m.2.1 ∈ xs ∧ (if lastB P s m.2.1.toNat = true then 2 ≤ m.2.2 ∧ m.2.2 ≤ 5 else m.2.2 = 0) := by
  unfold putL at h
  obtain ⟨x, hx, h1⟩ := List.mem_flatMap.1 h
  obtain ⟨h2, h3, h4⟩ := oneM_mem P s x m h1
  rw [h3]
  exact ⟨h2, hx, h4⟩
theorem putL_rise (P : Nat → Int) (s : Nat) (xs : List Int) (hx : xs.Pairwise fun a b => a < b) : (putL P s xs).Pairwise lessM := by
  unfold putL
  rw [List.pairwise_flatMap]
  refine ⟨fun a _ => oneM_rise P s a, hx.imp fun {a b} hab x hxa y hyb => ?_⟩
  obtain ⟨x1, x2, _⟩ := oneM_mem P s a x hxa
  obtain ⟨y1, y2, _⟩ := oneM_mem P s b y hyb
  unfold lessM lessV
  rw [x1, y1, x2, y2, if_pos rfl, if_neg (by omega)]
  simpa using hab
theorem allM_rise (P : Nat → Int) : (allM P).Pairwise lessM := by
  rw [allM_up, List.pairwise_flatMap]
  refine ⟨fun a _ => putL_rise P _ _ (upList_lt _ _), (List.Pairwise.and_mem.1 (upList_lt (ownB P) 64)).imp fun {a b} hab x hxa y hyb => ?_⟩
  obtain ⟨ha, hb, hlt⟩ := hab
  obtain ⟨i, hi, _, rfl⟩ := (upList_mem _ _ _).1 ha
  obtain ⟨j, hj, _, rfl⟩ := (upList_mem _ _ _).1 hb
  obtain ⟨x1, _⟩ := putL_mem P _ _ x hxa
  obtain ⟨y1, _⟩ := putL_mem P _ _ y hyb
  unfold lessM lessV
  rw [x1, y1]
  simp only [Int.toNat_natCast]
  rw [if_neg (by omega)]
  simpa using hlt
/-- what a move of all is -/
structure MvOk (P : Nat → Int) (m : Int × Int × Int) (s n : Nat) : Prop where
  f : m.1 = (s : Int)
  t : m.2.1 = (n : Int)
  hs : s < 64
  hn : n < 64
  o : ownB P s = true
  g : goB P s n = true
  b : becB P s n m.2.2 = true
theorem allM_mem (P : Nat → Int) (m : Int × Int × Int) (h : m ∈ allM P) : ∃ s n, MvOk P m s n := by
  rw [allM_up] at h
  obtain ⟨x, hx, h1⟩ := List.mem_flatMap.1 h
  obtain ⟨s, hs, ho, rfl⟩ := (upList_mem _ _ _).1 hx
  obtain ⟨h2, h3, h4⟩ := putL_mem P _ _ m h1
  rw [Int.toNat_natCast] at h2 h3 h4
  obtain ⟨n, hn, hg, e⟩ := (upList_mem _ _ _).1 h3
  refine ⟨s, n, h2, e, hs, hn, ho, hg, ?_⟩
  rw [e, Int.toNat_natCast] at h4
  unfold becB
  unfold lastB at h4
  split at h4
  · rename_i hl
    rw [if_pos hl]
    simp [h4.1, h4.2]
  · rename_i hl
    rw [if_neg hl]
    simp [h4]
theorem goB_ne (P : Nat → Int) (s n : Nat) (h : goB P s n = true) : s ≠ n := by
  unfold goB at h
  have := onN_or P
  split at h
  · simp only [Bool.or_eq_true, Bool.and_eq_true, List.contains_iff_mem] at h
    rcases h with h | h
    · have := (aheadL_mem P s _ h).2; omega
    · exact attR_ne P s n h.1
  · simp only [Bool.or_eq_true, Bool.and_eq_true, List.contains_iff_mem] at h
    rcases h with h | h
    · exact attR_ne P s n h.1
    · intro e
      subst e
      have := (castlesL_to P s s h.2).1
      unfold fD at this; omega
/-- where something stands, it is attacked, and not the mover's own -/
theorem goB_hit (P : Nat → Int) (s n : Nat) (hd : sideB (P 128) = true) (h : goB P s n = true) (he : emB P n = false) : attR P s n = true ∧ P (2 * n + 1) ≠ P 128 := by
  unfold goB at h
  split at h
  · simp only [Bool.or_eq_true, Bool.and_eq_true, List.contains_iff_mem] at h
    rcases h with h | h
    · have := (aheadL_mem P s _ h).1
      rw [Int.toNat_natCast, he] at this
      cases this
    · refine ⟨h.1, ?_⟩
      have h2 := h.2
      unfold slantB mothB at h2
      rw [he] at h2
      simp only [Bool.not_false, Bool.true_and, Bool.and_false, Bool.or_false, beq_iff_eq] at h2
      rw [h2]
      unfold oth
      unfold sideB at hd
      simp at hd
      split <;> omega
  · simp only [Bool.or_eq_true, Bool.and_eq_true, List.contains_iff_mem, Bool.not_eq_true'] at h
    rcases h with h | h
    · refine ⟨h.1, ?_⟩
      have h2 := h.2
      unfold mownB at h2
      rw [he] at h2
      simpa using h2
    · have := (castlesL_to P s n h.2).2
      rw [he] at this
      cases this
theorem own_parts (P : Nat → Int) (s : Nat) (h : ownB P s = true) : sideB (P 128) = true ∧ P (2 * s + 1) = P 128 := by
  unfold ownB at h
  simp only [Bool.and_eq_true, beq_iff_eq] at h
  exact ⟨h.1.1.1, h.1.1.2⟩
theorem hand_off (P : Nat → Int) (i : Nat) (h : i ≠ 129) : handP P i = P i := by unfold handP; exact setN_off _ _ _ _ h
theorem own_hand9 (P : Nat → Int) (s : Nat) (hs : s < 64) : ownB (handP P) s = ownB P s := by
  unfold ownB
  rw [hand_off P 128 (by omega), hand_off P _ (by omega), hand_off P _ (by omega)]
theorem bec_hand9 (P : Nat → Int) (s n : Nat) (hs : s < 64) (k : Int) : becB (handP P) s n k = becB P s n k := by
  unfold becB pwnB rkN
  rw [hand_off P 128 (by omega), hand_off P _ (by omega)]
theorem mv_ok (P : Nat → Int) (m : Int × Int × Int) (s n : Nat) (h : MvOk P m s n) : fltN (handP P) (s : Int) (n : Int) m.2.2 = 0 := by
  have h1 := h.hs
  have h2 := h.hn
  have h3 := goB_ne P s n h.g
  unfold fltN
  rw [(sq_iff _).2 (by omega), (sq_iff _).2 (by omega), Int.toNat_natCast, Int.toNat_natCast, own_hand9 P s h1, bec_hand9 P s n h1, h.o, h.b]
  rw [show ((s : Int) == (n : Int)) = false by simp; omega]
  rfl
theorem mv_side9 (P : Nat → Int) (f t : Nat) (k : Int) (hf : f < 64) (ht : t < 64) (h0 : fltN (handP P) f t k = 0) : mvP P f t k 128 = oth (P 128) := by
  unfold mvP
  rw [if_pos h0]
  simp only [Int.toNat_natCast]
  unfold cmN
  rw [lst_side, pcs_end _ _ _ _ hf ht _ (by omega), cnt_off _ _ _ (by omega) (by omega), hand_off _ _ (by omega)]
/-- the moves ahead of a square's -/
def ahM (P : Nat → Int) (s : Nat) : Nat := (flatM P (upList (ownB P) s)).length
theorem flatM_up (P : Nat → Int) (s : Nat) (hs : s < 64) : flatM P (upList (ownB P) (s + 1)) = flatM P (upList (ownB P) s) ++ fromM P (s : Int) := by
  rw [upList_succ]
  unfold flatM fromM
  rw [List.flatMap_append, (sq_iff _).2 (by omega), Int.toNat_natCast, Bool.true_and]
  congr 1
  cases ownB P s <;> simp
theorem ahM_succ (P : Nat → Int) (s : Nat) (hs : s < 64) : ahM P (s + 1) = ahM P s + (fromM P (s : Int)).length := by
  unfold ahM; rw [flatM_up P s hs, List.length_append]
theorem ahM_end (P : Nat → Int) : ahM P 64 = (allM P).length := rfl
theorem allM_at (P : Nat → Int) (s : Nat) (hs : s < 64) (i : Nat) (hi : i < (fromM P (s : Int)).length) :
    ahM P s + i < (allM P).length ∧ (allM P).getD (ahM P s + i) (0, 0, 0) = (fromM P (s : Int)).getD i (0, 0, 0) ∧ mF (fromM P (s : Int)) i = s := by
  have hp : flatM P (upList (ownB P) (s + 1)) <+: allM P := by
    obtain ⟨r, hr⟩ := upList_pre (ownB P) (show s + 1 ≤ 64 by omega)
    unfold allM
    rw [← hr]
    unfold flatM
    rw [List.flatMap_append]
    exact List.prefix_append _ _
  obtain ⟨r, hr⟩ := hp
  rw [flatM_up P s hs] at hr
  rw [← hr]
  unfold ahM
  refine ⟨by rw [List.length_append, List.length_append]; omega, ?_, ?_⟩
  · simp only [List.getD_eq_getElem?_getD]
    rw [List.append_assoc, List.getElem?_append_right (by omega), Nat.add_sub_cancel_left, List.getElem?_append_left hi]
  · have hm : (fromM P (s : Int)).getD i (0, 0, 0) ∈ fromM P (s : Int) := by
      rw [List.getD_eq_getElem?_getD, List.getElem?_eq_getElem hi]
      exact List.getElem_mem hi
    unfold mF
    unfold fromM at hm ⊢
    split at hm
    · rename_i h
      rw [if_pos h]
      rw [movesL_up P _ (by simpa using hs)] at hm ⊢
      have := (putL_mem P _ _ _ hm).1
      rw [this]
      simp
    · cases hm
end Go.Proofs.YtjhlombbkodpaaaDoor

namespace Go.Proofs.YtjhlombbkodpaaaDoor
open Go.RowKit Go.Sort
set_option linter.unusedSimpArgs false
set_option linter.unusedVariables false
set_option maxRecDepth 20000

theorem may_t (k d : Int) : mayB k (tSide k d) = mayB k d := by
  unfold tSide
  cases h : mayB k d
  · simp [h]
  · simp only [if_true]
    unfold mayB at h ⊢
    simp only [Bool.and_eq_true] at h
    rw [oth_side7, h.1.1, h.1.2]; rfl
theorem occ_t (P : Nat → Int) (s : Nat) (hs : s < 64) : occS (turnN P) (mir s) = occS P s := by
  have hm := mir_lt s hs
  unfold occS
  rw [turnN_k P _ hm, turnN_d P _ hm, mir_mir s hs]
  congr 1
  unfold tSide
  cases h : mayB (P (2 * s)) (P (2 * s + 1))
  · simp
  · have hk : (P (2 * s) == 0) = false := by
      unfold mayB at h
      simp only [Bool.and_eq_true, decide_eq_true_eq] at h
      simp; omega
    unfold pe
    rw [hk]; rfl
theorem fD_t (a b : Nat) : fD (mir a) (mir b) = fD a b := by unfold fD mir; omega
theorem rD_t (a b : Nat) (ha : a < 64) (hb : b < 64) : rD (mir a) (mir b) = - rD a b := by unfold rD mir; omega
def betT (a b : Nat) : Bool := !good a b || (between (mir a) (mir b) == (between a b).map mir)
theorem betT_ok : ∀ a, a < 64 → ∀ b, b < 64 → betT a b = true := by decide +kernel
theorem bet_lt (a b : Nat) (ha : a < 64) (hb : b < 64) (hg : good a b = true) : ∀ s ∈ between a b, s < 64 := by
  intro s hs
  obtain ⟨i, hi, rfl⟩ := List.mem_map.1 hs
  have := (between_ok a ha b hb hg).1 i (List.mem_range.1 hi)
  omega
theorem open_t (P : Nat → Int) (a b : Nat) (ha : a < 64) (hb : b < 64) (hg : good a b = true) : openB (turnN P) (mir a) (mir b) = openB P a b := by
  have h := betT_ok a ha b hb
  unfold betT at h
  rw [hg] at h
  simp only [Bool.not_true, Bool.false_or, beq_iff_eq] at h
  unfold openB
  rw [h, List.all_map, Bool.eq_iff_iff, List.all_eq_true, List.all_eq_true]
  constructor
  · intro H s hs
    have := H s hs
    simp only [Function.comp] at this
    rwa [occ_t P s (bet_lt a b ha hb hg s hs)] at this
  · intro H s hs
    simp only [Function.comp]
    rw [occ_t P s (bet_lt a b ha hb hg s hs)]
    exact H s hs
theorem absI_neg (n : Int) : absI (-n) = absI n := by unfold absI; split <;> split <;> omega
theorem neg_beq (n m : Int) : (-n == m) = (n == -m) := by rw [Bool.eq_iff_iff, beq_iff_eq, beq_iff_eq]; omega
theorem mir_beq (a b : Nat) (ha : a < 64) (hb : b < 64) : (mir a == mir b) = (a == b) := by
  rw [Bool.eq_iff_iff, beq_iff_eq, beq_iff_eq]
  unfold mir; omega
/-- turned, a piece attacks the squares across -/
theorem att_turn (P : Nat → Int) (a b : Nat) (ha : a < 64) (hb : b < 64) : attR (turnN P) (mir a) (mir b) = attR P a b := by
  have hm := mir_lt a ha
  unfold attR
  rw [turnN_k P _ hm, turnN_d P _ hm, mir_mir a ha]
  generalize P (2 * a) = k
  generalize P (2 * a + 1) = d
  unfold attK
  rw [may_t, mir_beq a b ha hb]
  cases hmay : mayB k d
  · rfl
  cases hab : a == b
  · have hg : ∀ x y : Bool, x = y → (good a b = true → x = y) := fun _ _ h _ => h
    have ht : tSide k d = oth d := by unfold tSide; rw [if_pos hmay]
    have hd : d = 0 ∨ d = 1 := by
      unfold mayB sideB at hmay
      simp only [Bool.and_eq_true, Bool.or_eq_true, beq_iff_eq] at hmay
      exact hmay.2
    have hgood : good a b = (fD a b == 0 || rD a b == 0 || absI (fD a b) == absI (rD a b)) := by unfold good; rw [hab]; rfl
    have hop : ∀ c : Bool, (c = true → good a b = true) → (c && openB (turnN P) (mir a) (mir b)) = (c && openB P a b) := by
      intro c hc
      cases c
      · rfl
      · rw [open_t P a b ha hb (hc rfl)]
    simp only [Bool.not_false, Bool.true_and]
    unfold kindB
    rw [fD_t, rD_t a b ha hb, ht, absI_neg]
    by_cases h1 : k = 1
    · rw [if_pos h1, if_pos h1]
      congr 1
      rw [neg_beq, neg_beq]
      rcases hd with rfl | rfl
      · simp [oth]
      · simp [oth]
    rw [if_neg h1, if_neg h1]
    by_cases h2 : k = 2
    · rw [if_pos h2, if_pos h2]
    rw [if_neg h2, if_neg h2]
    by_cases h6 : k = 6
    · rw [if_pos h6, if_pos h6]
    rw [if_neg h6, if_neg h6]
    have h0 : (-rD a b == 0) = (rD a b == 0) := by rw [neg_beq]; rfl
    rw [h0]
    by_cases h4 : k = 4
    · rw [if_pos h4, if_pos h4]
      exact hop _ fun hc => by rw [hgood]; simp only [Bool.or_eq_true] at hc ⊢; exact .inl hc
    rw [if_neg h4, if_neg h4]
    by_cases h3 : k = 3
    · rw [if_pos h3, if_pos h3]
      exact hop _ fun hc => by rw [hgood, hc, Bool.or_true]
    rw [if_neg h3, if_neg h3]
    exact hop _ fun hc => by rw [hgood]; exact hc
  · rfl
end Go.Proofs.YtjhlombbkodpaaaDoor
