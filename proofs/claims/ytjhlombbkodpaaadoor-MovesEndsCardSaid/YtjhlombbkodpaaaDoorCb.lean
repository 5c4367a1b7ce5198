/-
  On turned positions.
-/
import Derived.Test.YtjhlombbkodpaaaDoorG18
import Derived.Test.YtjhlombbkodpaaaDoorBi
import Derived.Test.YtjhlombbkodpaaaDoorG11
import Derived.Sort.QuietIn
namespace Go.Proofs.YtjhlombbkodpaaaDoor
open Go.RowKit Go.Sort
set_option linter.unusedSimpArgs false
set_option linter.unusedVariables false

/-- on each square stands none, or a piece that may be -/
def Fit (P : Nat → Int) : Prop := ∀ s, s < 64 → pe (P (2 * s)) (P (2 * s + 1)) 0 0 = true ∨ mayB (P (2 * s)) (P (2 * s + 1)) = true
theorem may_parts (k d : Int) (h : mayB k d = true) : 1 ≤ k ∧ k ≤ 6 ∧ (d = 0 ∨ d = 1) := by
  unfold mayB sideB at h
  simp only [Bool.and_eq_true, Bool.or_eq_true, beq_iff_eq, decide_eq_true_eq] at h
  exact ⟨h.1.1, h.1.2, h.2⟩
theorem may_of (k d : Int) (h1 : 1 ≤ k) (h2 : k ≤ 6) (h3 : d = 0 ∨ d = 1) : mayB k d = true := by
  unfold mayB sideB
  rcases h3 with h | h <;> simp [h1, h2, h]
theorem oth_side {d : Int} (h : d = 0 ∨ d = 1) : (oth d = 0 ∨ oth d = 1) ∧ oth (oth d) = d ∧ oth d ≠ d := by
  rcases h with h | h <;> subst h <;> decide
theorem tSide_cases (k d : Int) (h : pe k d 0 0 = true ∨ mayB k d = true) : (k = 0 ∧ d = 0 ∧ tSide k d = 0 ∧ mayB k d = false) ∨ (1 ≤ k ∧ k ≤ 6 ∧ (d = 0 ∨ d = 1) ∧ tSide k d = oth d ∧ mayB k d = true) := by
  rcases h with h | h
  · obtain ⟨rfl, rfl⟩ := (pe_iff _ _ _ _).1 h
    exact .inl ⟨rfl, rfl, rfl, rfl⟩
  · obtain ⟨h1, h2, h3⟩ := may_parts k d h
    exact .inr ⟨h1, h2, h3, by unfold tSide; rw [if_pos h], h⟩
theorem tSide_twice (k d : Int) (h : pe k d 0 0 = true ∨ mayB k d = true) : tSide k (tSide k d) = d := by
  rcases tSide_cases k d h with ⟨rfl, rfl, h1, _⟩ | ⟨h1, h2, h3, h4, _⟩
  · rfl
  · obtain ⟨o1, o2, _⟩ := oth_side h3
    rw [h4]; unfold tSide; rw [if_pos (may_of k _ h1 h2 o1), o2]
/-- a piece of the other side, turned -/
theorem pe_turn (k d a b : Int) (h : pe k d 0 0 = true ∨ mayB k d = true) (ha : 1 ≤ a) (hb : b = 0 ∨ b = 1) : pe k (tSide k d) a (oth b) = pe k d a b := by
  rw [Bool.eq_iff_iff, pe_iff, pe_iff]
  rcases tSide_cases k d h with ⟨rfl, rfl, h1, _⟩ | ⟨h1, h2, h3, h4, _⟩
  · constructor <;> rintro ⟨e, _⟩ <;> omega
  · rw [h4]
    rcases h3 with rfl | rfl <;> rcases hb with rfl | rfl <;> simp [oth]
theorem pe_turn0 (k d : Int) (h : pe k d 0 0 = true ∨ mayB k d = true) : pe k (tSide k d) 0 0 = pe k d 0 0 := by
  rcases tSide_cases k d h with ⟨rfl, rfl, h1, _⟩ | ⟨h1, h2, h3, h4, _⟩
  · rfl
  · have e : ∀ x, pe k x 0 0 = false := fun x => by unfold pe; rw [show (k == 0) = false by simp; omega]; rfl
    rw [e, e]
theorem may_turn (k d : Int) (h : pe k d 0 0 = true ∨ mayB k d = true) : mayB k (tSide k d) = mayB k d := by
  rcases tSide_cases k d h with ⟨rfl, rfl, h1, _⟩ | ⟨h1, h2, h3, h4, h5⟩
  · rfl
  · rw [h4, h5]; exact may_of k _ h1 h2 (oth_side h3).1
theorem fit_turn (P : Nat → Int) (h : Fit P) : Fit (turnN P) := fun s hs => by
  have hm := mir_lt s hs
  rw [turnN_k P s hs, turnN_d P s hs, pe_turn0 _ _ (h _ hm), may_turn _ _ (h _ hm)]
  exact h _ hm
theorem tCas_twice (c : Int) : tCas (tCas c) = c := by
  unfold tCas
  cases hc : casB c
  · simp only [Bool.false_eq_true, if_false, hc]
  · have h : 0 ≤ c ∧ c ≤ 15 := by unfold casB at hc; simpa using hc
    simp only [if_true]
    have h2 : casB (c % 4 * 4 + c / 4) = true := by unfold casB; simp; omega
    rw [if_pos h2]; omega
theorem sq_tSq (o : Int) : sq (tSq o) = sq o := by
  unfold tSq
  cases h : sq o
  · simp [h]
  · obtain ⟨h0, h1⟩ := (sq_iff o).1 h
    simp only [if_true]
    exact (sq_iff _).2 (by omega)
theorem tSq_twice (o : Int) : tSq (tSq o) = o := by
  have h2 := sq_tSq o
  unfold tSq at *
  cases h : sq o
  · simp [h]
  · obtain ⟨h0, h1⟩ := (sq_iff o).1 h
    rw [h] at h2
    simp only [h, if_true] at h2 ⊢
    rw [h2]
    simp only [if_true]
    omega
theorem turnN_parts (P : Nat → Int) : turnN P 128 = oth (P 128) ∧ turnN P 129 = tCas (P 129) ∧ turnN P 130 = tSq (P 130) ∧ turnN P 131 = P 131 ∧ turnN P 132 = P 132 := ⟨rfl, rfl, rfl, rfl, rfl⟩
theorem turn_twice (P : Nat → Int) (h : Fit P) (hs : P 128 = 0 ∨ P 128 = 1) : ∀ i, i < 133 → turnN (turnN P) i = P i := fun i hi => by
  by_cases h128 : i < 128
  · have hlt : i / 2 < 64 := by omega
    have hm := mir_lt _ hlt
    have hmm := mir_mir _ hlt
    rcases (show i = 2 * (i / 2) ∨ i = 2 * (i / 2) + 1 by omega) with e | e
    · rw [e, turnN_k _ _ hlt, turnN_k _ _ hm, hmm]
    · rw [e, turnN_d _ _ hlt, turnN_k _ _ hm, turnN_d _ _ hm, hmm]
      exact tSide_twice _ _ (h _ hlt)
  · rcases (show i = 128 ∨ i = 129 ∨ i = 130 ∨ i = 131 ∨ i = 132 by omega) with rfl | rfl | rfl | rfl | rfl
    · exact (oth_side hs).2.1
    · exact tCas_twice _
    · exact tSq_twice _
    · rfl
    · rfl
/-- squares counted, in the one order or the other -/
theorem cnt_list (P : Nat → Int) (k d : Int) (n : Nat) : (fnd P k d n).length = (List.range n).countP fun s => pe (P (2 * s)) (P (2 * s + 1)) k d := by
  induction n with
  | zero => rfl
  | succ n ih =>
    rw [List.range_succ, List.countP_append, ← ih]
    simp only [fnd, List.length_append, List.countP_cons, List.countP_nil]
    split <;> simp
theorem mir_perm : ((List.range 64).map mir).Perm (List.range 64) := by
  rw [← List.isPerm_iff]; decide +kernel
theorem fnd_turn (P : Nat → Int) (h : Fit P) (k d : Int) (hk : 1 ≤ k) (hd : d = 0 ∨ d = 1) : (fnd (turnN P) k (oth d) 64).length = (fnd P k d 64).length := by
  rw [cnt_list, cnt_list, ← (mir_perm.countP_eq fun s => pe (P (2 * s)) (P (2 * s + 1)) k d), List.countP_map]
  apply List.countP_congr
  intro s hs
  have hs64 := List.mem_range.1 hs
  simp only [Function.comp]
  rw [turnN_k P s hs64, turnN_d P s hs64, pe_turn _ _ _ _ (h _ (mir_lt s hs64)) hk hd]
theorem badP_turn (P : Nat → Int) (h : Fit P) (s : Nat) (hs : s < 64) : badP (turnN P) s = badP P (mir s) := by
  have hm := mir_lt s hs
  unfold badP
  rw [turnN_k P s hs, turnN_d P s hs, pe_turn0 _ _ (h _ hm), may_turn _ _ (h _ hm)]
  have e : (decide (s < 8) || decide (56 ≤ s)) = (decide (mir s < 8) || decide (56 ≤ mir s)) := by
    unfold mir
    rw [Bool.eq_iff_iff]
    simp only [Bool.or_eq_true, decide_eq_true_eq]
    omega
  rw [e]
theorem okS_turn (P : Nat → Int) (h : Fit P) : okS (turnN P) 64 = okS P 64 := by
  rw [Bool.eq_iff_iff, okS_iff, okS_iff]
  constructor
  · intro H s hs
    have := H (mir s) (mir_lt s hs)
    rwa [badP_turn P h _ (mir_lt s hs), mir_mir s hs] at this
  · intro H s hs
    rw [badP_turn P h s hs]
    exact H _ (mir_lt s hs)
theorem pieces_turn (P : Nat → Int) (h : Fit P) (hs : P 128 = 0 ∨ P 128 = 1) : piecesB (turnN P) = piecesB P := by
  have e0 : cnt (turnN P) 0 64 = cnt P 1 64 := by rw [← cnt_fnd, ← cnt_fnd]; exact fnd_turn P h 6 1 (by omega) (.inr rfl)
  have e1 : cnt (turnN P) 1 64 = cnt P 0 64 := by rw [← cnt_fnd, ← cnt_fnd]; exact fnd_turn P h 6 0 (by omega) (.inl rfl)
  have e2 : sideB (turnN P 128) = sideB (P 128) := by
    rw [(turnN_parts P).1]
    rcases hs with h | h <;> rw [h] <;> rfl
  unfold piecesB
  rw [okS_turn P h, e0, e1, e2]
  cases okS P 64 <;> cases (cnt P 0 64 == 1) <;> cases (cnt P 1 64 == 1) <;> rfl
theorem home_turn (P : Nat → Int) (h : Fit P) (d : Int) (hd : d = 0 ∨ d = 1) (k r : Nat) (hk : k < 64) (hr : r < 64) : homeB (turnN P) (oth d) k r = homeB P d (mir k) (mir r) := by
  unfold homeB
  rw [turnN_k P k hk, turnN_d P k hk, turnN_k P r hr, turnN_d P r hr, pe_turn _ _ _ _ (h _ (mir_lt k hk)) (by omega) hd, pe_turn _ _ _ _ (h _ (mir_lt r hr)) (by omega) hd]
theorem cast_turn (P : Nat → Int) (h : Fit P) : castB (turnN P) = castB P := by
  have h1 := home_turn P h 1 (.inr rfl) 4 7 (by omega) (by omega)
  have h2 := home_turn P h 1 (.inr rfl) 4 0 (by omega) (by omega)
  have h3 := home_turn P h 0 (.inl rfl) 60 63 (by omega) (by omega)
  have h4 := home_turn P h 0 (.inl rfl) 60 56 (by omega) (by omega)
  rw [show oth 1 = 0 from rfl, show mir 4 = 60 from rfl] at h1 h2
  rw [show mir 7 = 63 from rfl] at h1
  rw [show mir 0 = 56 from rfl] at h2
  rw [show oth 0 = 1 from rfl, show mir 60 = 4 from rfl] at h3 h4
  rw [show mir 63 = 7 from rfl] at h3
  rw [show mir 56 = 0 from rfl] at h4
  unfold castB
  rw [(turnN_parts P).2.1, h1, h2, h3, h4]
  generalize P 129 = c
  generalize homeB P 0 4 7 = b1
  generalize homeB P 0 4 0 = b2
  generalize homeB P 1 60 63 = b3
  generalize homeB P 1 60 56 = b4
  cases hc : casB c
  · have : tCas c = c := by unfold tCas; rw [hc]; simp
    rw [this, hc]; rfl
  · have hh : 0 ≤ c ∧ c ≤ 15 := by unfold casB at hc; simpa using hc
    have hcc : c = 0 ∨ c = 1 ∨ c = 2 ∨ c = 3 ∨ c = 4 ∨ c = 5 ∨ c = 6 ∨ c = 7 ∨ c = 8 ∨ c = 9 ∨ c = 10 ∨ c = 11 ∨ c = 12 ∨ c = 13 ∨ c = 14 ∨ c = 15 := by omega
    clear hc hh
    revert b1 b2 b3 b4
    rcases hcc with rfl | rfl | rfl | rfl | rfl | rfl | rfl | rfl | rfl | rfl | rfl | rfl | rfl | rfl | rfl | rfl <;> decide
theorem overC_turn (P : Nat → Int) (h : Fit P) (o rank a b : Nat) (pd : Int) (hpd : pd = 0 ∨ pd = 1) (ho : o < 64) (hr : rank < 8) (hab : o / 8 = rank → a < 64 ∧ b < 64) (a' b' : Nat) (hm : o / 8 = rank → mir a = a' ∧ mir b = b') :
    overC (turnN P) (mir o) (7 - rank) a' b' (oth pd) = overC P o rank a b pd := by
  unfold overC
  have hq : (mir o / 8 == 7 - rank) = (o / 8 == rank) := by
    rw [Bool.eq_iff_iff]; simp only [beq_iff_eq]; unfold mir; omega
  rw [hq]
  cases hb : (o / 8 == rank)
  · rfl
  · have hb' : o / 8 = rank := by simpa using hb
    obtain ⟨ha64, hb64⟩ := hab hb'
    obtain ⟨ma, mb⟩ := hm hb'
    have mo := mir_lt o ho
    rw [← ma, ← mb, turnN_k P _ mo, turnN_d P _ mo, turnN_k P _ (mir_lt a ha64), turnN_d P _ (mir_lt a ha64), turnN_k P _ (mir_lt b hb64), turnN_d P _ (mir_lt b hb64), mir_mir o ho, mir_mir a ha64, mir_mir b hb64,
      pe_turn0 _ _ (h _ ho), pe_turn0 _ _ (h _ ha64), pe_turn _ _ _ _ (h _ hb64) (by omega) hpd]
theorem over_turn (P : Nat → Int) (h : Fit P) (hs : P 128 = 0 ∨ P 128 = 1) : overB (turnN P) = overB P := by
  obtain ⟨t1, _, t3, t4, _⟩ := turnN_parts P
  unfold overB
  rw [t1, t3, t4, sq_tSq]
  have hm : (tSq (P 130) == -1) = (P 130 == -1) := by
    rw [Bool.eq_iff_iff, beq_iff_eq, beq_iff_eq]
    constructor
    · intro e
      have := tSq_twice (P 130)
      rw [e] at this
      rw [← this]; rfl
    · intro e; rw [e]; rfl
  rw [hm]
  cases hsq : sq (P 130)
  · rfl
  · obtain ⟨o0, o1⟩ := (sq_iff _).1 hsq
    obtain ⟨o, ho⟩ : ∃ o : Nat, P 130 = (o : Int) := ⟨(P 130).toNat, by omega⟩
    have ho64 : o < 64 := by omega
    rw [ho, tSq_mir o ho64, Int.toNat_natCast, Int.toNat_natCast]
    have e1 : overC (turnN P) (mir o) 5 (mir o + 8) (mir o - 8) 1 = overC P o 2 (o - 8) (o + 8) 0 :=
      overC_turn P h o 2 (o - 8) (o + 8) 0 (.inl rfl) ho64 (by omega) (fun e => by omega) _ _ (fun e => by unfold mir; omega)
    have e2 : overC (turnN P) (mir o) 2 (mir o - 8) (mir o + 8) 0 = overC P o 5 (o + 8) (o - 8) 1 :=
      overC_turn P h o 5 (o + 8) (o - 8) 1 (.inr rfl) ho64 (by omega) (fun e => by omega) _ _ (fun e => by unfold mir; omega)
    rcases hs with hs | hs <;> rw [hs]
    · rw [show (oth 0 == (1 : Int)) = true from rfl, show ((0 : Int) == 1) = false from rfl]
      simp only [if_true, Bool.false_eq_true, if_false]
      rw [e2]
    · rw [show (oth 1 == (1 : Int)) = false from rfl, show ((1 : Int) == 1) = true from rfl]
      simp only [if_true, Bool.false_eq_true, if_false]
      rw [e1]
theorem right_turn (P : Nat → Int) (h : Fit P) (hs : P 128 = 0 ∨ P 128 = 1) : rightB (turnN P) = rightB P := by
  rw [rightB_eq, rightB_eq, pieces_turn P h hs, cast_turn P h, over_turn P h hs, (turnN_parts P).2.2.2.1, (turnN_parts P).2.2.2.2]
theorem not_right (P : Nat → Int) (s : Nat) (hs : s < 64) (h0 : pe (P (2 * s)) (P (2 * s + 1)) 0 0 = false) (h1 : mayB (P (2 * s)) (P (2 * s + 1)) = false) : rightB P = false := by
  have hb : badP P s = true := by unfold badP; rw [h0, h1]; rfl
  rw [rightB_eq]; unfold piecesB; rw [okS_false P hs hb]; rfl
theorem not_right2 (P : Nat → Int) (h : sideB (P 128) = false) : rightB P = false := by
  rw [rightB_eq]; unfold piecesB; rw [h]; simp
/-- what is found is rising, and stands across in the position turned -/
theorem fnd_lt (P : Nat → Int) (k d : Int) (n : Nat) : ∀ x ∈ fnd P k d n, x < (n : Int) := fun x hx => by
  obtain ⟨j, hj, e, _⟩ := (fnd_mem P k d n x).1 hx
  omega
theorem fnd_rising (P : Nat → Int) (k d : Int) (n : Nat) : (fnd P k d n).Pairwise (· < ·) := by
  induction n with
  | zero => exact List.Pairwise.nil
  | succ n ih =>
    simp only [fnd]
    rw [List.pairwise_append]
    refine ⟨ih, ?_, fun a ha b hb => ?_⟩
    · split <;> simp
    · split at hb
      · simp at hb; rw [hb]; exact fnd_lt P k d n a ha
      · cases hb
theorem fnd_across (P : Nat → Int) (h : Fit P) (k d : Int) (hk : 1 ≤ k) (hd : d = 0 ∨ d = 1) (j : Nat) (hj : (j : Int) ∈ fnd P k d 64) : j < 64 ∧ ((mir j : Nat) : Int) ∈ fnd (turnN P) k (oth d) 64 := by
  obtain ⟨s, hs, e, h1, h2⟩ := (fnd_mem P k d 64 j).1 hj
  obtain rfl : j = s := by omega
  refine ⟨hs, (fnd_mem _ _ _ _ _).2 ⟨mir j, mir_lt j hs, rfl, ?_, ?_⟩⟩
  · rw [turnN_k _ _ (mir_lt j hs), mir_mir j hs]; exact h1
  · have := pe_turn (P (2 * j)) (P (2 * j + 1)) k d (h _ hs) hk hd
    rw [(pe_iff (P (2 * j)) (P (2 * j + 1)) k d).2 ⟨h1, h2⟩] at this
    rw [turnN_d _ _ (mir_lt j hs), mir_mir j hs]
    exact ((pe_iff _ _ _ _).1 this).2
end Go.Proofs.YtjhlombbkodpaaaDoor
