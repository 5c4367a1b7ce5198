/-
  Merged: Cb, Qa, Qb, Qc, Qd, Qe, Qf, Mm.
-/
import Derived.Test.YthinkiljhkanhaaGreatDoorG16
import Derived.Test.YthinkiljhkanhaaGreatDoorG4
import Derived.Test.YthinkiljhkanhaaGreatDoorG11
import Derived.Sort.QuietIn
import Derived.Test.YthinkiljhkanhaaGreatDoorG5
import Derived.Test.YthinkiljhkanhaaGreatDoorG15
import Derived.Test.YthinkiljhkanhaaGreatDoorPh

namespace Go.Proofs.YthinkiljhkanhaaGreatDoor
open Go.RowKit Go.Sort
set_option linter.unusedSimpArgs false
set_option linter.unusedVariables false

/-- on each square stands none, or a piece that may be -/
def Fit (P : Nat → Int) : Prop := ∀ s, s < 64 → pe (P (2 * s)) (P (2 * s + 1)) 0 0 = true ∨ mayB (P (2 * s)) (P (2 * s + 1)) = true
theorem may_parts (k d : Int) (h : mayB k d = true) : 1 ≤ k ∧ k ≤ 6 ∧ (d = 0 ∨ d = 1) := by
  unfold mayB sideB at h
  simp only [Bool.and_eq_true, Bool.or_eq_true, beq_iff_eq, decide_eq_true_eq] at h
  exact ⟨h.1.1, h.1.2, h.2⟩
theorem may_of (k d : Int) (h1 : 1 ≤ k) (h2 : k ≤ 6) (h3 : d = 0 ∨ d = 1) : mayB k d = true := by
  unfold mayB sideB
  rcases h3 with h | h <;> simp [h1, h2, h]
theorem oth_side {d : Int} (h : d = 0 ∨ d = 1) : (oth d = 0 ∨ oth d = 1) ∧ oth (oth d) = d ∧ oth d ≠ d := by
  rcases h with h | h <;> subst h <;> decide
theorem tSide_cases (k d : Int) (h : pe k d 0 0 = true ∨ mayB k d = true) : (k = 0 ∧ d = 0 ∧ tSide k d = 0 ∧ mayB k d = false) ∨ (1 ≤ k ∧ k ≤ 6 ∧ (d = 0 ∨ d = 1) ∧ tSide k d = oth d ∧ mayB k d = true) := by
  rcases h with h | h
  · obtain ⟨rfl, rfl⟩ := (pe_iff _ _ _ _).1 h
    exact .inl ⟨rfl, rfl, rfl, rfl⟩
  · obtain ⟨h1, h2, h3⟩ := may_parts k d h
    exact .inr ⟨h1, h2, h3, by unfold tSide; rw [if_pos h], h⟩
theorem tSide_twice (k d : Int) (h : pe k d 0 0 = true ∨ mayB k d = true) : tSide k (tSide k d) = d := by
  rcases tSide_cases k d h with ⟨rfl, rfl, h1, _⟩ | ⟨h1, h2, h3, h4, _⟩
  · rfl
  · obtain ⟨o1, o2, _⟩ := oth_side h3
    rw [h4]; unfold tSide; rw [if_pos (may_of k _ h1 h2 o1), o2]
/-- a piece of the other side, turned -/
theorem pe_turn (k d a b : Int) (h : pe k d 0 0 = true ∨ mayB k d = true) (ha : 1 ≤ a) (hb : b = 0 ∨ b = 1) : pe k (tSide k d) a (oth b) = pe k d a b := by
  rw [Bool.eq_iff_iff, pe_iff, pe_iff]
  rcases tSide_cases k d h with ⟨rfl, rfl, h1, _⟩ | ⟨h1, h2, h3, h4, _⟩
  · constructor <;> rintro ⟨e, _⟩ <;> omega
  · rw [h4]
    rcases h3 with rfl | rfl <;> rcases hb with rfl | rfl <;> simp [oth]
theorem pe_turn0 (k d : Int) (h : pe k d 0 0 = true ∨ mayB k d = true) : pe k (tSide k d) 0 0 = pe k d 0 0 := by
  rcases tSide_cases k d h with ⟨rfl, rfl, h1, _⟩ | ⟨h1, h2, h3, h4, _⟩
  · rfl
  · have e : ∀ x, pe k x 0 0 = false := fun x => by unfold pe; rw [show (k == 0) = false by simp; omega]; rfl
    rw [e, e]
theorem may_turn (k d : Int) (h : pe k d 0 0 = true ∨ mayB k d = true) : mayB k (tSide k d) = mayB k d := by
  rcases tSide_cases k d h with ⟨rfl, rfl, h1, _⟩ | ⟨h1, h2, h3, h4, h5⟩
  · rfl
  · rw [h4, h5]; exact may_of k _ h1 h2 (oth_side h3).1
theorem fit_turn (P : Nat → Int) (h : Fit P) : Fit (turnN P) := fun s hs => by
  have hm := mir_lt s hs
  rw [turnN_k P s hs, turnN_d P s hs, pe_turn0 _ _ (h _ hm), may_turn _ _ (h _ hm)]
  exact h _ hm
theorem tCas_twice (c : Int) : tCas (tCas c) = c := by
  unfold tCas
  cases hc : casB c
  · simp only [Bool.false_eq_true, if_false, hc]
  · have h : 0 ≤ c ∧ c ≤ 15 := by unfold casB at hc; simpa using hc
    simp only [if_true]
    have h2 : casB (c % 4 * 4 + c / 4) = true := by unfold casB; simp; omega
    rw [if_pos h2]; omega
theorem sq_tSq (o : Int) : sq (tSq o) = sq o := by
  unfold tSq
  cases h : sq o
  · simp [h]
  · obtain ⟨h0, h1⟩ := (sq_iff o).1 h
    simp only [if_true]
    exact (sq_iff _).2 (by omega)
theorem tSq_twice (o : Int) : tSq (tSq o) = o := by
  have h2 := sq_tSq o
  unfold tSq at *
  cases h : sq o
  · simp [h]
  · obtain ⟨h0, h1⟩ := (sq_iff o).1 h
    rw [h] at h2
    simp only [h, if_true] at h2 ⊢
    rw [h2]
    simp only [if_true]
    omega
theorem turnN_parts (P : Nat → Int) : turnN P 128 = oth (P 128) ∧ turnN P 129 = tCas (P 129) ∧ turnN P 130 = tSq (P 130) ∧ turnN P 131 = P 131 ∧ turnN P 132 = P 132 := ⟨rfl, rfl, rfl, rfl, rfl⟩
theorem turn_twice (P : Nat → Int) (h : Fit P) (hs : P 128 = 0 ∨ P 128 = 1) : ∀ i, i < 133 → turnN (turnN P) i = P i := fun i hi => by
  by_cases h128 : i < 128
  · have hlt : i / 2 < 64 := by omega
    have hm := mir_lt _ hlt
    have hmm := mir_mir _ hlt
    rcases (show i = 2 * (i / 2) ∨ i = 2 * (i / 2) + 1 by omega) with e | e
    · rw [e, turnN_k _ _ hlt, turnN_k _ _ hm, hmm]
    · rw [e, turnN_d _ _ hlt, turnN_k _ _ hm, turnN_d _ _ hm, hmm]
      exact tSide_twice _ _ (h _ hlt)
  · rcases (show i = 128 ∨ i = 129 ∨ i = 130 ∨ i = 131 ∨ i = 132 by omega) with rfl | rfl | rfl | rfl | rfl
    · exact (oth_side hs).2.1
    · exact tCas_twice _
    · exact tSq_twice _
    · rfl
    · rfl
/-- squares counted, in the one order or the other -/
theorem cnt_list (P : Nat → Int) (k d : Int) (n : Nat) : (fnd P k d n).length = (List.range n).countP fun s => pe (P (2 * s)) (P (2 * s + 1)) k d := by
  induction n with
  | zero => rfl
  | succ n ih =>
    rw [List.range_succ, List.countP_append, ← ih]
    simp only [fnd, List.length_append, List.countP_cons, List.countP_nil]
    split <;> simp
theorem mir_perm : ((List.range 64).map mir).Perm (List.range 64) := by
  rw [← List.isPerm_iff]; decide +kernel
theorem fnd_turn (P : Nat → Int) (h : Fit P) (k d : Int) (hk : 1 ≤ k) (hd : d = 0 ∨ d = 1) : (fnd (turnN P) k (oth d) 64).length = (fnd P k d 64).length := by
  rw [cnt_list, cnt_list, ← (mir_perm.countP_eq fun s => pe (P (2 * s)) (P (2 * s + 1)) k d), List.countP_map]
  apply List.countP_congr
  intro s hs
  have hs64 := List.mem_range.1 hs
  simp only [Function.comp]
  rw [turnN_k P s hs64, turnN_d P s hs64, pe_turn _ _ _ _ (h _ (mir_lt s hs64)) hk hd]
theorem badP_turn (P : Nat → Int) (h : Fit P) (s : Nat) (hs : s < 64) : badP (turnN P) s = badP P (mir s) := by
  have hm := mir_lt s hs
  unfold badP
  rw [turnN_k P s hs, turnN_d P s hs, pe_turn0 _ _ (h _ hm), may_turn _ _ (h _ hm)]
  have e : (decide (s < 8) || decide (56 ≤ s)) = (decide (mir s < 8) || decide (56 ≤ mir s)) := by
    unfold mir
    rw [Bool.eq_iff_iff]
    simp only [Bool.or_eq_true, decide_eq_true_eq]
    omega
  rw [e]
theorem okS_turn (P : Nat → Int) (h : Fit P) : okS (turnN P) 64 = okS P 64 := by
  rw [Bool.eq_iff_iff, okS_iff, okS_iff]
  constructor
  · intro H s hs
    have := H (mir s) (mir_lt s hs)
    rwa [badP_turn P h _ (mir_lt s hs), mir_mir s hs] at this
  · intro H s hs
    rw [badP_turn P h s hs]
    exact H _ (mir_lt s hs)
theorem pieces_turn (P : Nat → Int) (h : Fit P) (hs : P 128 = 0 ∨ P 128 = 1) : piecesB (turnN P) = piecesB P := by
  have e0 : cnt (turnN P) 0 64 = cnt P 1 64 := by rw [← cnt_fnd, ← cnt_fnd]; exact fnd_turn P h 6 1 (by omega) (.inr rfl)
  have e1 : cnt (turnN P) 1 64 = cnt P 0 64 := by rw [← cnt_fnd, ← cnt_fnd]; exact fnd_turn P h 6 0 (by omega) (.inl rfl)
  have e2 : sideB (turnN P 128) = sideB (P 128) := by
    rw [(turnN_parts P).1]
    rcases hs with h | h <;> rw [h] <;> rfl
  unfold piecesB
  rw [okS_turn P h, e0, e1, e2]
  cases okS P 64 <;> cases (cnt P 0 64 == 1) <;> cases (cnt P 1 64 == 1) <;> rfl
theorem home_turn (P : Nat → Int) (h : Fit P) (d : Int) (hd : d = 0 ∨ d = 1) (k r : Nat) (hk : k < 64) (hr : r < 64) : homeB (turnN P) (oth d) k r = homeB P d (mir k) (mir r) := by
  unfold homeB
  rw [turnN_k P k hk, turnN_d P k hk, turnN_k P r hr, turnN_d P r hr, pe_turn _ _ _ _ (h _ (mir_lt k hk)) (by omega) hd, pe_turn _ _ _ _ (h _ (mir_lt r hr)) (by omega) hd]
theorem cast_turn (P : Nat → Int) (h : Fit P) : castB (turnN P) = castB P := by
  have h1 := home_turn P h 1 (.inr rfl) 4 7 (by omega) (by omega)
  have h2 := home_turn P h 1 (.inr rfl) 4 0 (by omega) (by omega)
  have h3 := home_turn P h 0 (.inl rfl) 60 63 (by omega) (by omega)
  have h4 := home_turn P h 0 (.inl rfl) 60 56 (by omega) (by omega)
  rw [show oth 1 = 0 from rfl, show mir 4 = 60 from rfl] at h1 h2
  rw [show mir 7 = 63 from rfl] at h1
  rw [show mir 0 = 56 from rfl] at h2
  rw [show oth 0 = 1 from rfl, show mir 60 = 4 from rfl] at h3 h4
  rw [show mir 63 = 7 from rfl] at h3
  rw [show mir 56 = 0 from rfl] at h4
  unfold castB
  rw [(turnN_parts P).2.1, h1, h2, h3, h4]
  generalize P 129 = c
  generalize homeB P 0 4 7 = b1
  generalize homeB P 0 4 0 = b2
  generalize homeB P 1 60 63 = b3
  generalize homeB P 1 60 56 = b4
  cases hc : casB c
  · have : tCas c = c := by unfold tCas; rw [hc]; simp
    rw [this, hc]; rfl
  · have hh : 0 ≤ c ∧ c ≤ 15 := by unfold casB at hc; simpa using hc
    have hcc : c = 0 ∨ c = 1 ∨ c = 2 ∨ c = 3 ∨ c = 4 ∨ c = 5 ∨ c = 6 ∨ c = 7 ∨ c = 8 ∨ c = 9 ∨ c = 10 ∨ c = 11 ∨ c = 12 ∨ c = 13 ∨ c = 14 ∨ c = 15 := by omega
    clear hc hh
    revert b1 b2 b3 b4
    rcases hcc with rfl | rfl | rfl | rfl | rfl | rfl | rfl | rfl | rfl | rfl | rfl | rfl | rfl | rfl | rfl | rfl <;> decide
theorem overC_turn (P : Nat → Int) (h : Fit P) (o rank a b : Nat) (pd : Int) (hpd : pd = 0 ∨ pd = 1) (ho : o < 64) (hr : rank < 8) (hab : o / 8 = rank → a < 64 ∧ b < 64) (a' b' : Nat) (hm : o / 8 = rank → mir a = a' ∧ mir b = b') :
    overC (turnN P) (mir o) (7 - rank) a' b' (oth pd) = overC P o rank a b pd := by
  unfold overC
  have hq : (mir o / 8 == 7 - rank) = (o / 8 == rank) := by
    rw [Bool.eq_iff_iff]; simp only [beq_iff_eq]; unfold mir; omega
  rw [hq]
  cases hb : (o / 8 == rank)
  · rfl
  · have hb' : o / 8 = rank := by simpa using hb
    obtain ⟨ha64, hb64⟩ := hab hb'
    obtain ⟨ma, mb⟩ := hm hb'
    have mo := mir_lt o ho
    rw [← ma, ← mb, turnN_k P _ mo, turnN_d P _ mo, turnN_k P _ (mir_lt a ha64), turnN_d P _ (mir_lt a ha64), turnN_k P _ (mir_lt b hb64), turnN_d P _ (mir_lt b hb64), mir_mir o ho, mir_mir a ha64, mir_mir b hb64,
      pe_turn0 _ _ (h _ ho), pe_turn0 _ _ (h _ ha64), pe_turn _ _ _ _ (h _ hb64) (by omega) hpd]
theorem over_turn (P : Nat → Int) (h : Fit P) (hs : P 128 = 0 ∨ P 128 = 1) : overB (turnN P) = overB P := by
  obtain ⟨t1, _, t3, t4, _⟩ := turnN_parts P
  unfold overB
  rw [t1, t3, t4, sq_tSq]
  have hm : (tSq (P 130) == -1) = (P 130 == -1) := by
    rw [Bool.eq_iff_iff, beq_iff_eq, beq_iff_eq]
    constructor
    · intro e
      have := tSq_twice (P 130)
      rw [e] at this
      rw [← this]; rfl
    · intro e; rw [e]; rfl
  rw [hm]
  cases hsq : sq (P 130)
  · rfl
  · obtain ⟨o0, o1⟩ := (sq_iff _).1 hsq
    obtain ⟨o, ho⟩ : ∃ o : Nat, P 130 = (o : Int) := ⟨(P 130).toNat, by omega⟩
    have ho64 : o < 64 := by omega
    rw [ho, tSq_mir o ho64, Int.toNat_natCast, Int.toNat_natCast]
    have e1 : overC (turnN P) (mir o) 5 (mir o + 8) (mir o - 8) 1 = overC P o 2 (o - 8) (o + 8) 0 :=
      overC_turn P h o 2 (o - 8) (o + 8) 0 (.inl rfl) ho64 (by omega) (fun e => by omega) _ _ (fun e => by unfold mir; omega)
    have e2 : overC (turnN P) (mir o) 2 (mir o - 8) (mir o + 8) 0 = overC P o 5 (o + 8) (o - 8) 1 :=
      overC_turn P h o 5 (o + 8) (o - 8) 1 (.inr rfl) ho64 (by omega) (fun e => by omega) _ _ (fun e => by unfold mir; omega)
    rcases hs with hs | hs <;> rw [hs]
    · rw [show (oth 0 == (1 : Int)) = true from rfl, show ((0 : Int) == 1) = false from rfl]
      simp only [if_true, Bool.false_eq_true, if_false]
      rw [e2]
    · rw [show (oth 1 == (1 : Int)) = false from rfl, show ((1 : Int) == 1) = true from rfl]
      simp only [if_true, Bool.false_eq_true, if_false]
      rw [e1]
theorem right_turn (P : Nat → Int) (h : Fit P) (hs : P 128 = 0 ∨ P 128 = 1) : rightB (turnN P) = rightB P := by
  rw [rightB_eq, rightB_eq, pieces_turn P h hs, cast_turn P h, over_turn P h hs, (turnN_parts P).2.2.2.1, (turnN_parts P).2.2.2.2]
theorem not_right (P : Nat → Int) (s : Nat) (hs : s < 64) (h0 : pe (P (2 * s)) (P (2 * s + 1)) 0 0 = false) (h1 : mayB (P (2 * s)) (P (2 * s + 1)) = false) : rightB P = false := by
  have hb : badP P s = true := by unfold badP; rw [h0, h1]; rfl
  rw [rightB_eq]; unfold piecesB; rw [okS_false P hs hb]; rfl
theorem not_right2 (P : Nat → Int) (h : sideB (P 128) = false) : rightB P = false := by
  rw [rightB_eq]; unfold piecesB; rw [h]; simp
/-- what is found is rising, and stands across in the position turned -/
theorem fnd_lt (P : Nat → Int) (k d : Int) (n : Nat) : ∀ x ∈ fnd P k d n, x < (n : Int) := fun x hx => by
  obtain ⟨j, hj, e, _⟩ := (fnd_mem P k d n x).1 hx
  omega
theorem fnd_rising (P : Nat → Int) (k d : Int) (n : Nat) : (fnd P k d n).Pairwise (· < ·) := by
  induction n with
  | zero => exact List.Pairwise.nil
  | succ n ih =>
    simp only [fnd]
    rw [List.pairwise_append]
    refine ⟨ih, ?_, fun a ha b hb => ?_⟩
    · split <;> simp
    · split at hb
      · simp at hb; rw [hb]; exact fnd_lt P k d n a ha
      · cases hb
theorem fnd_across (P : Nat → Int) (h : Fit P) (k d : Int) (hk : 1 ≤ k) (hd : d = 0 ∨ d = 1) (j : Nat) (hj : (j : Int) ∈ fnd P k d 64) : j < 64 ∧ ((mir j : Nat) : Int) ∈ fnd (turnN P) k (oth d) 64 := by
  obtain ⟨s, hs, e, h1, h2⟩ := (fnd_mem P k d 64 j).1 hj
  obtain rfl : j = s := by omega
  refine ⟨hs, (fnd_mem _ _ _ _ _).2 ⟨mir j, mir_lt j hs, rfl, ?_, ?_⟩⟩
  · rw [turnN_k _ _ (mir_lt j hs), mir_mir j hs]; exact h1
  · have := pe_turn (P (2 * j)) (P (2 * j + 1)) k d (h _ hs) hk hd
    rw [(pe_iff (P (2 * j)) (P (2 * j + 1)) k d).2 ⟨h1, h2⟩] at this
    rw [turnN_d _ _ (mir_lt j hs), mir_mir j hs]
    exact ((pe_iff _ _ _ _).1 this).2
end Go.Proofs.YthinkiljhkanhaaGreatDoor

namespace Go.Proofs.YthinkiljhkanhaaGreatDoor
open Go.RowKit
set_option linter.unusedSimpArgs false
set_option linter.unusedVariables false
set_option maxRecDepth 20000

theorem emB_turn (P : Nat → Int) (h : Fit P) (s : Nat) (hs : s < 64) : emB (turnN P) (mir s) = emB P s := by
  unfold emB
  rw [turnN_k P _ (mir_lt s hs), turnN_d P _ (mir_lt s hs), mir_mir s hs, pe_turn0 _ _ (h s hs)]
theorem pwnB_turn (P : Nat → Int) (s : Nat) (hs : s < 64) : pwnB (turnN P) (mir s) = pwnB P s := by
  unfold pwnB
  rw [turnN_k P _ (mir_lt s hs), mir_mir s hs]
theorem rkN_turn (P : Nat → Int) (hd : P 128 = 0 ∨ P 128 = 1) (s : Nat) (hs : s < 64) : rkN (turnN P) (mir s) = rkN P s := by
  unfold rkN
  rw [(turnN_parts P).1]
  rcases hd with e | e <;> rw [e] <;> simp [oth, mir] <;> omega
theorem ownB_turn (P : Nat → Int) (h : Fit P) (hd : P 128 = 0 ∨ P 128 = 1) (s : Nat) (hs : s < 64) : ownB (turnN P) (mir s) = ownB P s := by
  unfold ownB
  rw [turnN_k P _ (mir_lt s hs), turnN_d P _ (mir_lt s hs), mir_mir s hs, (turnN_parts P).1]
  have o := oth_side hd
  have so : sideB (oth (P 128)) = sideB (P 128) := by rcases hd with e | e <;> rw [e] <;> rfl
  rw [so]
  rcases tSide_cases _ _ (h s hs) with ⟨e1, e2, e3, _⟩ | ⟨e1, e2, e3, e4, _⟩
  · rw [e1]; simp
  · rw [e4]
    have : (oth (P (2 * s + 1)) == oth (P 128)) = (P (2 * s + 1) == P 128) := by
      rcases hd with a | a <;> rcases e3 with b | b <;> rw [a, b] <;> rfl
    rw [this]
theorem becB_turn (P : Nat → Int) (hd : P 128 = 0 ∨ P 128 = 1) (f t : Nat) (hf : f < 64) (ht : t < 64) (b : Int) : becB (turnN P) (mir f) (mir t) b = becB P f t b := by
  unfold becB
  rw [pwnB_turn P f hf, rkN_turn P hd t ht]
theorem smF_mir (f t : Nat) (hf : f < 64) (ht : t < 64) : smF (mir f) (mir t) = smF f t := by
  unfold smF
  rw [show mir f % 8 = f % 8 by unfold mir; omega, show mir t % 8 = t % 8 by unfold mir; omega]
theorem over_mir (P : Nat → Int) (t : Nat) (ht : t < 64) : (((mir t : Nat) : Int) == turnN P 130) = ((t : Int) == P 130) := by
  rw [(turnN_parts P).2.2.1, ← tSq_mir t ht]
  rw [Bool.eq_iff_iff, beq_iff_eq, beq_iff_eq]
  constructor
  · intro e
    have := congrArg tSq e
    rwa [tSq_twice, tSq_twice] at this
  · intro e; rw [e]
theorem ovrB_turn (P : Nat → Int) (h : Fit P) (f t : Nat) (hf : f < 64) (ht : t < 64) : ovrB (turnN P) (mir f) (mir t) = ovrB P f t := by
  unfold ovrB
  rw [pwnB_turn P f hf, smF_mir f t hf ht, over_mir P t ht, emB_turn P h t ht]
theorem atN_turn (P : Nat → Int) (h : Fit P) (f t : Nat) (hf : f < 64) (ht : t < 64) : atN (turnN P) (mir f) (mir t) = mir (atN P f t) := by
  unfold atN
  rw [ovrB_turn P h f t hf ht]
  split
  · unfold mir; omega
  · rfl
/-- where a move takes, turned -/
theorem tksN_turn (P : Nat → Int) (h : Fit P) (f t : Nat) (hf : f < 64) (ht : t < 64) : tksN (turnN P) (mir f) (mir t) = if tksN P f t < 0 then -1 else ((mir (tksN P f t).toNat : Nat) : Int) := by
  unfold tksN
  rw [atN_turn P h f t hf ht, emB_turn P h _ (atN_lt P f t hf ht)]
  cases emB P (atN P f t)
  · simp
  · simp
theorem lngB_turn (P : Nat → Int) (hd : P 128 = 0 ∨ P 128 = 1) (f t : Nat) (hf : f < 64) (ht : t < 64) : lngB (turnN P) (mir f) (mir t) = lngB P f t := by
  unfold lngB
  rw [pwnB_turn P f hf, smF_mir f t hf ht, rkN_turn P hd f hf, rkN_turn P hd t ht]
/-- a move's error, turned -/
theorem fltN_turn (P : Nat → Int) (h : Fit P) (hd : P 128 = 0 ∨ P 128 = 1) (f t : Nat) (hf : f < 64) (ht : t < 64) (b : Int) : fltN (turnN P) (mir f : Nat) (mir t : Nat) b = fltN P f t b := by
  unfold fltN
  have sm : ∀ s : Nat, s < 64 → sq (s : Int) = true := fun s hs => (sq_iff _).2 (by omega)
  rw [sm _ (mir_lt f hf), sm _ (mir_lt t ht), sm f hf, sm t ht]
  rw [show (((mir f : Nat) : Int) == ((mir t : Nat) : Int)) = ((f : Int) == (t : Int)) by
    rw [Bool.eq_iff_iff, beq_iff_eq, beq_iff_eq]; unfold mir; omega]
  simp only [Int.toNat_natCast, ownB_turn P h hd f hf, becB_turn P hd f t hf ht]
end Go.Proofs.YthinkiljhkanhaaGreatDoor

namespace Go.Proofs.YthinkiljhkanhaaGreatDoor
open Go.RowKit
set_option linter.unusedSimpArgs false
set_option linter.unusedVariables false
set_option maxRecDepth 20000

theorem setN_at (P : Nat → Int) (i : Nat) (x : Int) : setN P i x i = x := by unfold setN; rw [if_pos rfl]
theorem setN_off (P : Nat → Int) (i j : Nat) (x : Int) (h : j ≠ i) : setN P i x j = P j := by unfold setN; rw [if_neg h]
theorem ptN_k (P : Nat → Int) (m s : Nat) (k d : Int) : ptN P m k d (2 * s) = if s = m then k else P (2 * s) := by
  unfold ptN
  rw [setN_off _ _ _ _ (by omega)]
  unfold setN
  by_cases h : s = m
  · rw [if_pos (by omega), if_pos h]
  · rw [if_neg (by omega), if_neg h]
theorem ptN_d (P : Nat → Int) (m s : Nat) (k d : Int) : ptN P m k d (2 * s + 1) = if s = m then d else P (2 * s + 1) := by
  unfold ptN
  by_cases h : s = m
  · rw [if_pos h, h, setN_at]
  · rw [if_neg h, setN_off _ _ _ _ (by omega), setN_off _ _ _ _ (by omega)]
theorem ptN_end (P : Nat → Int) (m i : Nat) (k d : Int) (hm : m < 64) (hi : 128 ≤ i) : ptN P m k d i = P i := by
  unfold ptN
  rw [setN_off _ _ _ _ (by omega), setN_off _ _ _ _ (by omega)]
/-- two positions with the same pieces -/
def PcE (P Q : Nat → Int) : Prop := ∀ s, s < 64 → P (2 * s) = Q (2 * s) ∧ P (2 * s + 1) = Q (2 * s + 1)
/-- a piece that is put, turned -/
theorem ptN_turn (P Q : Nat → Int) (h : PcE Q (turnN P)) (m : Nat) (hm : m < 64) (k d : Int) : PcE (ptN Q (mir m) k (tSide k d)) (turnN (ptN P m k d)) := fun s hs => by
  obtain ⟨h1, h2⟩ := h s hs
  rw [turnN_k P s hs] at h1
  rw [turnN_d P s hs] at h2
  rw [ptN_k, ptN_d, turnN_k _ s hs, turnN_d _ s hs, ptN_k, ptN_d]
  by_cases e : mir s = m
  · have e2 : s = mir m := by rw [← e, mir_mir s hs]
    rw [if_pos e, if_pos e2, if_pos e, if_pos e2]
    exact ⟨rfl, rfl⟩
  · have e2 : ¬ s = mir m := fun x => e (by rw [x, mir_mir m hm])
    rw [if_neg e, if_neg e2, if_neg e, if_neg e2]
    exact ⟨h1, h2⟩
theorem ptN_turn0 (P Q : Nat → Int) (h : PcE Q (turnN P)) (m : Nat) (hm : m < 64) : PcE (ptN Q (mir m) 0 0) (turnN (ptN P m 0 0)) := ptN_turn P Q h m hm 0 0
theorem fit_ptN (P : Nat → Int) (h : Fit P) (m : Nat) (k d : Int) (hk : pe k d 0 0 = true ∨ mayB k d = true) : Fit (ptN P m k d) := fun s hs => by
  rw [ptN_k, ptN_d]
  by_cases e : s = m
  · rw [if_pos e, if_pos e]; exact hk
  · rw [if_neg e, if_neg e]; exact h s hs
/-- the pieces of a move, turned -/
theorem putM_turn (P Q : Nat → Int) (hq : PcE Q (turnN P)) (h : Fit P) (f t : Nat) (k tk : Int) (hf : f < 64) (ht : t < 64) (hd : P (2 * f + 1) = 0 ∨ P (2 * f + 1) = 1) (hk : k = 0 ∨ (1 ≤ k ∧ k ≤ 6)) (hk1 : 1 ≤ P (2 * f) ∧ P (2 * f) ≤ 6) (htk : tk = -1 ∨ ∃ n : Nat, tk = n ∧ n < 64) :
    PcE (putM Q (mir f) (mir t) k (if tk < 0 then -1 else ((mir tk.toNat : Nat) : Int))) (turnN (putM P f t k tk)) := by
  obtain ⟨q1, q2⟩ := hq (mir f) (mir_lt f hf)
  rw [turnN_k P _ (mir_lt f hf), mir_mir f hf] at q1
  rw [turnN_d P _ (mir_lt f hf), mir_mir f hf] at q2
  have e1 : tSide (P (2 * f)) (P (2 * f + 1)) = oth (P (2 * f + 1)) := by unfold tSide; rw [if_pos (may_of _ _ hk1.1 hk1.2 hd)]
  rw [e1] at q2
  unfold putM
  rw [q1, q2]
  have e2 : oth (P (2 * f + 1)) = tSide (if (k == 0) = true then P (2 * f) else k) (P (2 * f + 1)) := by
    unfold tSide
    rcases hk with hk | hk
    · rw [hk]; simp only [beq_self_eq_true, if_true]; rw [if_pos (may_of _ _ hk1.1 hk1.2 hd)]
    · rw [show (k == 0) = false from beq_eq_false_iff_ne.2 (by omega)]; simp only [Bool.false_eq_true, if_false]; rw [if_pos (may_of _ _ hk.1 hk.2 hd)]
  rw [e2]
  have h1 := ptN_turn0 P Q hq f hf
  rcases htk with rfl | ⟨n, rfl, hn⟩
  · simp only [show ((-1 : Int) < 0) = True by simp, if_true, beq_self_eq_true]
    exact ptN_turn _ _ h1 t ht _ _
  · have n1 : ¬ (n : Int) < 0 := by omega
    have n2 : ((n : Int) == -1) = false := beq_eq_false_iff_ne.2 (by omega)
    have n3 : (((mir n : Nat) : Int) == -1) = false := beq_eq_false_iff_ne.2 (by omega)
    simp only [n1, n2, n3, Bool.false_eq_true, if_false, Int.toNat_natCast]
    exact ptN_turn _ _ (ptN_turn0 _ _ h1 n hn) t ht _ _
end Go.Proofs.YthinkiljhkanhaaGreatDoor

namespace Go.Proofs.YthinkiljhkanhaaGreatDoor
open Go.RowKit
set_option linter.unusedSimpArgs false
set_option linter.unusedVariables false
set_option maxRecDepth 20000

theorem lostN_turn : ∀ f : Fin 64, lostN ((mir f.val : Nat) : Int) = tCas (lostN (f.val : Int)) := by decide
theorem lostN_cas : ∀ f : Fin 64, ∃ i : Fin 16, lostN (f.val : Int) = (i.val : Int) := by decide
set_option maxRecDepth 100000 in
theorem cas_bits : ∀ c a b : Fin 16, bits .andNot .i64 (tCas (c.val : Int)) (bits .or .i64 (tCas (a.val : Int)) (tCas (b.val : Int))) = tCas (bits .andNot .i64 (c.val : Int) (bits .or .i64 (a.val : Int) (b.val : Int))) := by decide +kernel
/-- the castlings that a move leaves, turned -/
theorem casM_turn (c : Int) (h : casB c = true) (f t : Nat) (hf : f < 64) (ht : t < 64) : casM (tCas c) (mir f) (mir t) = tCas (casM c f t) := by
  have hc : 0 ≤ c ∧ c ≤ 15 := by unfold casB at h; simpa using h
  obtain ⟨i, hi⟩ := lostN_cas ⟨f, hf⟩
  obtain ⟨j, hj⟩ := lostN_cas ⟨t, ht⟩
  have e1 := lostN_turn ⟨f, hf⟩
  have e2 := lostN_turn ⟨t, ht⟩
  simp only at hi hj e1 e2
  have := cas_bits ⟨c.toNat, by omega⟩ i j
  simp only [show ((c.toNat : Nat) : Int) = c by omega] at this
  unfold casM
  rw [e1, e2, hi, hj]
  exact this
/-- the castling of the other side -/
def othJ (j : Nat) : Nat := (j + 2) % 4
theorem and_bits : ∀ c : Fin 16, ∀ j : Fin 4, (bits .and .i64 (tCas (c.val : Int)) (kasN (othJ j.val * 5)) != 0) = (bits .and .i64 (c.val : Int) (kasN (j.val * 5)) != 0) := by decide +kernel
theorem kas_turn : ∀ j : Fin 4, kasN (othJ j.val * 5 + 1) = oth (kasN (j.val * 5 + 1)) ∧ kasN (othJ j.val * 5 + 2) = tSq (kasN (j.val * 5 + 2)) ∧ kasN (othJ j.val * 5 + 3) = tSq (kasN (j.val * 5 + 3)) ∧ kasN (othJ j.val * 5 + 4) = tSq (kasN (j.val * 5 + 4)) ∧ (kasN (j.val * 5 + 1) = 0 ∨ kasN (j.val * 5 + 1) = 1) := by decide +kernel
theorem mir_eq (f : Nat) (hf : f < 64) (x : Int) : (((mir f : Nat) : Int) == tSq x) = ((f : Int) == x) := by
  rw [← tSq_mir f hf, Bool.eq_iff_iff, beq_iff_eq, beq_iff_eq]
  constructor
  · intro e
    have := congrArg tSq e
    rwa [tSq_twice, tSq_twice] at this
  · intro e; rw [e]
theorem csX_turn (P : Nat → Int) (h : Fit P) (hc : casB (P 129) = true) (f t : Nat) (hf : f < 64) (ht : t < 64) (j : Nat) (hj : j < 4) : csX (turnN P) (mir f) (mir t) (othJ j) = csX P f t j := by
  have c0 : 0 ≤ P 129 ∧ P 129 ≤ 15 := by unfold casB at hc; simpa using hc
  obtain ⟨k1, k2, k3, k4, k5⟩ := kas_turn ⟨j, hj⟩
  have a := and_bits ⟨(P 129).toNat, by omega⟩ ⟨j, hj⟩
  simp only [show (((P 129).toNat : Nat) : Int) = P 129 by omega] at a k1 k2 k3 k4 k5
  unfold csX
  rw [(turnN_parts P).2.1, a, k1, k2, k3, mir_eq f hf, mir_eq t ht, turnN_k P _ (mir_lt f hf), turnN_d P _ (mir_lt f hf), mir_mir f hf, pe_turn _ _ _ _ (h f hf) (by omega) k5]
/-- the square that is gone over, turned -/
theorem ovrN_turn (P : Nat → Int) (hd : P 128 = 0 ∨ P 128 = 1) (f t : Nat) (hf : f < 64) (ht : t < 64) : ovrN (turnN P) (mir f) (mir t) = tSq (ovrN P f t) := by
  unfold ovrN
  rw [lngB_turn P hd f t hf ht]
  cases hl : lngB P f t
  · rfl
  · simp only [if_true]
    unfold lngB smF rkN at hl
    simp only [Bool.and_eq_true, beq_iff_eq] at hl
    obtain ⟨⟨⟨_, h1⟩, h2⟩, h3⟩ := hl
    have hm : (f + t) / 2 < 64 := by omega
    rw [tSq_mir _ hm]
    congr 1
    rcases hd with e | e <;> rw [e] at h2 h3 <;> simp at h2 h3 <;> unfold mir <;> omega
end Go.Proofs.YthinkiljhkanhaaGreatDoor

namespace Go.Proofs.YthinkiljhkanhaaGreatDoor
open Go.RowKit
set_option linter.unusedSimpArgs false
set_option linter.unusedVariables false
set_option maxRecDepth 20000

theorem csX_sq (P : Nat → Int) (f t j : Nat) (h : csX P f t j = true) : (f : Int) = kasN (j * 5 + 2) ∧ (t : Int) = kasN (j * 5 + 3) := by
  unfold csX at h
  simp only [Bool.and_eq_true, beq_iff_eq] at h
  exact ⟨h.1.1.2, h.1.2⟩
theorem csI4 (P : Nat → Int) (f t : Nat) : csI P f t 4 = if csX P f t 0 then some 0 else if csX P f t 1 then some 1 else if csX P f t 2 then some 2 else if csX P f t 3 then some 3 else none := by
  simp only [csI]
  cases csX P f t 0 <;> cases csX P f t 1 <;> cases csX P f t 2 <;> cases csX P f t 3 <;> rfl
theorem csI_turn (P : Nat → Int) (h : Fit P) (hc : casB (P 129) = true) (f t : Nat) (hf : f < 64) (ht : t < 64) : csI (turnN P) (mir f) (mir t) 4 = (csI P f t 4).map othJ := by
  rw [csI4, csI4]
  have e0 : csX (turnN P) (mir f) (mir t) 2 = csX P f t 0 := csX_turn P h hc f t hf ht 0 (by omega)
  have e1 : csX (turnN P) (mir f) (mir t) 3 = csX P f t 1 := csX_turn P h hc f t hf ht 1 (by omega)
  have e2 : csX (turnN P) (mir f) (mir t) 0 = csX P f t 2 := csX_turn P h hc f t hf ht 2 (by omega)
  have e3 : csX (turnN P) (mir f) (mir t) 1 = csX P f t 3 := csX_turn P h hc f t hf ht 3 (by omega)
  rw [e0, e1, e2, e3]
  have s0 := csX_sq P f t 0
  have s1 := csX_sq P f t 1
  have s2 := csX_sq P f t 2
  have s3 := csX_sq P f t 3
  cases x0 : csX P f t 0 <;> cases x1 : csX P f t 1 <;> cases x2 : csX P f t 2 <;> cases x3 : csX P f t 3 <;>
    simp only [x0, x1, x2, x3, forall_const] at s0 s1 s2 s3 <;> first
    | rfl
    | (exfalso; simp [kasN] at s0 s1 s2 s3; omega)
theorem csI_sq (P : Nat → Int) (f t j : Nat) (h : csI P f t 4 = some j) : j < 4 ∧ (f : Int) = kasN (j * 5 + 2) ∧ (t : Int) = kasN (j * 5 + 3) := by
  rw [csI4] at h
  split at h
  · rename_i hx; injection h with h; subst h; exact ⟨by omega, csX_sq P f t 0 hx⟩
  · split at h
    · rename_i hx; injection h with h; subst h; exact ⟨by omega, csX_sq P f t 1 hx⟩
    · split at h
      · rename_i hx; injection h with h; subst h; exact ⟨by omega, csX_sq P f t 2 hx⟩
      · split at h
        · rename_i hx; injection h with h; subst h; exact ⟨by omega, csX_sq P f t 3 hx⟩
        · cases h
theorem kas_mid : ∀ j : Fin 4, (mir (kasN (j.val * 5 + 2)).toNat + mir (kasN (j.val * 5 + 3)).toNat) / 2 = mir (((kasN (j.val * 5 + 2)).toNat + (kasN (j.val * 5 + 3)).toNat) / 2) ∧ ((kasN (j.val * 5 + 2)).toNat + (kasN (j.val * 5 + 3)).toNat) / 2 < 64 ∧ (kasN (othJ j.val * 5 + 4)).toNat = mir (kasN (j.val * 5 + 4)).toNat ∧ (kasN (j.val * 5 + 4)).toNat < 64 ∧ kasN (othJ j.val * 5 + 1) = tSide 4 (kasN (j.val * 5 + 1)) := by decide +kernel
theorem rkk_turn (P Q : Nat → Int) (hq : PcE Q (turnN P)) (f t : Nat) (o : Option Nat) (ho : ∀ j, o = some j → j < 4 ∧ (f : Int) = kasN (j * 5 + 2) ∧ (t : Int) = kasN (j * 5 + 3)) : PcE (rkkN Q (mir f) (mir t) (o.map othJ)) (turnN (rkkN P f t o)) := by
  cases o with
  | none => exact hq
  | some j =>
    obtain ⟨h1, h2, h3⟩ := ho j rfl
    obtain ⟨k1, k2, k3, k4, k5⟩ := kas_mid ⟨j, h1⟩
    simp only [← h2, ← h3, Int.toNat_natCast] at k1 k2 k3 k4 k5
    simp only [Option.map_some, rkkN, rookN]
    rw [k1, k3, k5]
    exact ptN_turn _ _ (ptN_turn0 _ _ hq _ k4) _ k2 _ _
theorem rkk_end (P : Nat → Int) (f t : Nat) (o : Option Nat) (ho : ∀ j, o = some j → j < 4 ∧ (f : Int) = kasN (j * 5 + 2) ∧ (t : Int) = kasN (j * 5 + 3)) (i : Nat) (hi : 128 ≤ i) : rkkN P f t o i = P i := by
  cases o with
  | none => rfl
  | some j =>
    obtain ⟨h1, h2, h3⟩ := ho j rfl
    obtain ⟨k1, k2, k3, k4, k5⟩ := kas_mid ⟨j, h1⟩
    simp only [← h2, ← h3, Int.toNat_natCast] at k1 k2 k3 k4 k5
    simp only [rkkN, rookN]
    rw [ptN_end _ _ _ _ _ k2 hi, ptN_end _ _ _ _ _ k4 hi]
theorem put_end (P : Nat → Int) (f t : Nat) (k tk : Int) (hf : f < 64) (ht : t < 64) (htk : tk = -1 ∨ ∃ n : Nat, tk = n ∧ n < 64) (i : Nat) (hi : 128 ≤ i) : putM P f t k tk i = P i := by
  unfold putM
  rw [ptN_end _ _ _ _ _ ht hi]
  split
  · rw [ptN_end _ _ _ _ _ hf hi]
  · rename_i hx
    rcases htk with rfl | ⟨n, rfl, hn⟩
    · exact absurd rfl hx
    · rw [ptN_end _ _ _ _ _ (by simpa using hn) hi, ptN_end _ _ _ _ _ hf hi]
theorem cnt_off (P : Nat → Int) (z : Bool) (i : Nat) (h1 : i ≠ 131) (h2 : i ≠ 132) : cntN P z i = P i := by
  unfold cntN
  split
  · rw [setN_off _ _ _ _ h2, setN_off _ _ _ _ h1]
  · rw [setN_off _ _ _ _ h1]
theorem cnt_half (P : Nat → Int) (z : Bool) : cntN P z 131 = if z then 0 else incN (P 131) 1024 := by
  unfold cntN
  split
  · rw [setN_off _ _ _ _ (by omega), setN_at]
  · rw [setN_at]
theorem cnt_turn (P : Nat → Int) (z : Bool) : PcE (cntN (turnN P) z) (turnN (cntN P z)) := fun s hs => by
  have hm := mir_lt s hs
  rw [cnt_off _ _ _ (by omega) (by omega), cnt_off _ _ _ (by omega) (by omega), turnN_k _ s hs, turnN_d _ s hs, turnN_k _ s hs, turnN_d _ s hs, cnt_off _ _ _ (by omega) (by omega), cnt_off _ _ _ (by omega) (by omega)]
  exact ⟨rfl, rfl⟩
end Go.Proofs.YthinkiljhkanhaaGreatDoor

namespace Go.Proofs.YthinkiljhkanhaaGreatDoor
open Go.RowKit
set_option linter.unusedSimpArgs false
set_option linter.unusedVariables false
set_option maxRecDepth 20000

theorem lst_off (Q : Nat → Int) (f t : Nat) (o : Int) (i : Nat) (h1 : i ≠ 128) (h2 : i ≠ 129) (h3 : i ≠ 130) : lstN Q f t o i = Q i := by
  unfold lstN
  rw [setN_off _ _ _ _ h1, setN_off _ _ _ _ h3, setN_off _ _ _ _ h2]
theorem lst_side (Q : Nat → Int) (f t : Nat) (o : Int) : lstN Q f t o 128 = oth (Q 128) := by unfold lstN; rw [setN_at]
theorem lst_cas (Q : Nat → Int) (f t : Nat) (o : Int) : lstN Q f t o 129 = casM (Q 129) f t := by
  unfold lstN; rw [setN_off _ _ _ _ (by omega), setN_off _ _ _ _ (by omega), setN_at]
theorem lst_over (Q : Nat → Int) (f t : Nat) (o : Int) : lstN Q f t o 130 = o := by
  unfold lstN; rw [setN_off _ _ _ _ (by omega), setN_at]
theorem pcs_end (P : Nat → Int) (f t : Nat) (k : Int) (hf : f < 64) (ht : t < 64) (i : Nat) (hi : 128 ≤ i) : pcsN P f t k i = cntN P (pwnB P f || (tksN P f t != -1)) i := by
  unfold pcsN
  rw [rkk_end _ f t _ (fun j h => csI_sq P f t j h) i hi, put_end _ f t k _ hf ht (tks_cases P f t hf ht) i hi]
theorem tks_none (P : Nat → Int) (h : Fit P) (f t : Nat) (hf : f < 64) (ht : t < 64) : (tksN (turnN P) (mir f) (mir t) != -1) = (tksN P f t != -1) := by
  rw [tksN_turn P h f t hf ht]
  rcases tks_cases P f t hf ht with e | ⟨n, e, hn⟩
  · rw [e]; rfl
  · rw [e, if_neg (show ¬ (n : Int) < 0 by omega)]
    rw [Bool.eq_iff_iff, bne_iff_ne, bne_iff_ne]
    omega
theorem pcs_turn (P : Nat → Int) (h : Fit P) (hc : casB (P 129) = true) (f t : Nat) (k : Int) (hf : f < 64) (ht : t < 64) (hk : k = 0 ∨ (1 ≤ k ∧ k ≤ 6)) (hk1 : 1 ≤ P (2 * f) ∧ P (2 * f) ≤ 6) (hd : P (2 * f + 1) = 0 ∨ P (2 * f + 1) = 1) : PcE (pcsN (turnN P) (mir f) (mir t) k) (turnN (pcsN P f t k)) := by
  unfold pcsN
  rw [csI_turn P h hc f t hf ht, pwnB_turn P f hf, tks_none P h f t hf ht, tksN_turn P h f t hf ht]
  obtain ⟨z, hz⟩ : ∃ z, (pwnB P f || (tksN P f t != -1)) = z := ⟨_, rfl⟩
  rw [hz]
  have c1 : cntN P z (2 * f) = P (2 * f) := cnt_off _ _ _ (by omega) (by omega)
  have c2 : cntN P z (2 * f + 1) = P (2 * f + 1) := cnt_off _ _ _ (by omega) (by omega)
  have hfit : Fit (cntN P z) := fun s hs => by
    rw [cnt_off _ _ _ (by omega) (by omega), cnt_off _ _ _ (by omega) (by omega)]; exact h s hs
  exact rkk_turn _ _ (putM_turn _ _ (cnt_turn P z) hfit f t k _ hf ht (by rw [c2]; exact hd) hk (by rw [c1]; exact hk1) (tks_cases P f t hf ht)) f t _ (fun j h => csI_sq P f t j h)
theorem turnN_end (P : Nat → Int) (i : Nat) (hi : 131 ≤ i) : turnN P i = P i := by
  unfold turnN
  rw [if_neg (by omega), if_neg (by omega), if_neg (by omega), if_neg (by omega)]
/-- a move of a position turned leads to what it leads to, turned: but the number of the move -/
theorem cm_turn (P : Nat → Int) (h : Fit P) (hs : P 128 = 0 ∨ P 128 = 1) (hc : casB (P 129) = true) (f t : Nat) (k : Int) (hf : f < 64) (ht : t < 64) (hk : k = 0 ∨ (1 ≤ k ∧ k ≤ 6)) (hk1 : 1 ≤ P (2 * f) ∧ P (2 * f) ≤ 6) (hd : P (2 * f + 1) = 0 ∨ P (2 * f + 1) = 1) (i : Nat) (hi : i < 133) (hi2 : i ≠ 132) :
    cmN (turnN P) (mir f) (mir t) k i = turnN (cmN P f t k) i := by
  have mf := mir_lt f hf
  have mt := mir_lt t ht
  unfold cmN
  by_cases h1 : i < 128
  · obtain ⟨p1, p2⟩ := pcs_turn P h hc f t k hf ht hk hk1 hd (i / 2) (by omega)
    rw [turnN_k _ _ (by omega)] at p1
    rw [turnN_d _ _ (by omega)] at p2
    have hm := mir_lt (i / 2) (by omega)
    rw [lst_off _ _ _ _ _ (by omega) (by omega) (by omega)]
    unfold turnN
    rw [if_pos h1, lst_off _ _ _ _ _ (by omega) (by omega) (by omega), lst_off _ _ _ _ _ (by omega) (by omega) (by omega)]
    split
    · rw [show i = 2 * (i / 2) by omega]
      rw [show 2 * (i / 2) / 2 = i / 2 by omega]
      exact p1
    · rename_i hx
      rw [show i = 2 * (i / 2) + 1 by omega]
      rw [show (2 * (i / 2) + 1) / 2 = i / 2 by omega]
      exact p2
  · by_cases e : i = 128
    · subst e
      rw [lst_side, (turnN_parts _).1, lst_side, pcs_end _ _ _ _ mf mt _ (by omega), pcs_end _ _ _ _ hf ht _ (by omega), cnt_off _ _ _ (by omega) (by omega), cnt_off _ _ _ (by omega) (by omega), (turnN_parts P).1]
    · by_cases e2 : i = 129
      · subst e2
        rw [lst_cas, (turnN_parts _).2.1, lst_cas, pcs_end _ _ _ _ mf mt _ (by omega), pcs_end _ _ _ _ hf ht _ (by omega), cnt_off _ _ _ (by omega) (by omega), cnt_off _ _ _ (by omega) (by omega), (turnN_parts P).2.1]
        exact casM_turn _ hc f t hf ht
      · by_cases e3 : i = 130
        · subst e3
          rw [lst_over, (turnN_parts _).2.2.1, lst_over]
          exact ovrN_turn P hs f t hf ht
        · obtain rfl : i = 131 := by omega
          rw [turnN_end _ _ (by omega), lst_off _ _ _ _ _ (by omega) (by omega) (by omega), lst_off _ _ _ _ _ (by omega) (by omega) (by omega), pcs_end _ _ _ _ mf mt _ (by omega), pcs_end _ _ _ _ hf ht _ (by omega), cnt_half, cnt_half, pwnB_turn P f hf, tks_none P h f t hf ht, turnN_end _ _ (by omega)]
end Go.Proofs.YthinkiljhkanhaaGreatDoor

namespace Go.Proofs.YthinkiljhkanhaaGreatDoor
open Go.RowKit
set_option linter.unusedSimpArgs false
set_option linter.unusedVariables false
set_option maxRecDepth 20000

theorem right_fit (P : Nat → Int) (h : rightB P = true) : Fit P := fun s hs => by
  cases h0 : pe (P (2 * s)) (P (2 * s + 1)) 0 0
  · cases h1 : mayB (P (2 * s)) (P (2 * s + 1))
    · rw [not_right P s hs h0 h1] at h; cases h
    · exact .inr rfl
  · exact .inl rfl
theorem right_side (P : Nat → Int) (h : rightB P = true) : P 128 = 0 ∨ P 128 = 1 := by
  cases h0 : sideB (P 128)
  · rw [not_right2 P h0] at h; cases h
  · rcases side_cases (P 128) with ⟨e, _⟩ | ⟨e, _⟩ | ⟨_, _, e⟩
    · exact .inl e
    · exact .inr e
    · rw [e] at h0; cases h0
theorem right_cas (P : Nat → Int) (h : rightB P = true) : casB (P 129) = true := by
  unfold rightB castB at h
  simp only [Bool.and_eq_true] at h
  exact h.1.1.1.1.1.2.1.1.1.1
theorem right_hand (P : Nat → Int) (h : rightB P = true) : handP P = P := handP_on P (right_cas P h)
theorem tCas_cas (c : Int) (h : casB c = true) : casB (tCas c) = true := by
  unfold tCas
  rw [if_pos h]
  have hc : 0 ≤ c ∧ c ≤ 15 := by unfold casB at h; simpa using h
  unfold casB; simp; omega
theorem right_hand_turn (P : Nat → Int) (h : rightB P = true) : handP (turnN P) = turnN P := handP_on _ (by rw [(turnN_parts P).2.1]; exact tCas_cas _ (right_cas P h))
/-- a move without fault: of a piece of the mover's, to become what a pawn may become, or nothing -/
theorem flt_of (P : Nat → Int) (f t : Nat) (k : Int) (h : fltN P f t k = 0) : (1 ≤ P (2 * f) ∧ P (2 * f) ≤ 6) ∧ P (2 * f + 1) = P 128 ∧ (k = 0 ∨ (1 ≤ k ∧ k ≤ 6)) := by
  unfold fltN at h
  split at h
  · cases h
  · split at h
    · rename_i hx
      simp only [Int.toNat_natCast, Bool.and_eq_true] at hx
      obtain ⟨h1, h2⟩ := hx
      unfold ownB at h1
      simp only [Bool.and_eq_true, beq_iff_eq, decide_eq_true_eq] at h1
      refine ⟨⟨h1.1.2, h1.2⟩, h1.1.1.2, ?_⟩
      unfold becB at h2
      split at h2
      · simp only [Bool.and_eq_true, decide_eq_true_eq] at h2; exact .inr ⟨by omega, by omega⟩
      · exact .inl (by simpa using h2)
    · cases h
/-- what a move of a right position leads to, turned: everywhere but at 132 -/
theorem mv_turn (P : Nat → Int) (h : rightB P = true) (f t : Nat) (k : Int) (hf : f < 64) (ht : t < 64) (h0 : fltN P f t k = 0) (i : Nat) (hi : i < 133) (hi2 : i ≠ 132) :
    mvP (turnN P) (mir f : Nat) (mir t : Nat) k i = turnN (mvP P f t k) i := by
  obtain ⟨h1, h2, h3⟩ := flt_of P f t k h0
  have hs := right_side P h
  unfold mvP
  rw [right_hand P h, right_hand_turn P h, fltN_turn P (right_fit P h) hs f t hf ht, if_pos h0, if_pos h0]
  simp only [Int.toNat_natCast]
  exact cm_turn P (right_fit P h) hs (right_cas P h) f t k hf ht h3 h1 (by rw [h2]; exact hs) i hi hi2
end Go.Proofs.YthinkiljhkanhaaGreatDoor

namespace Go.Proofs.YthinkiljhkanhaaGreatDoor
open Go.RowKit Go.Sort
set_option linter.unusedSimpArgs false
set_option linter.unusedVariables false
set_option maxRecDepth 20000

def lessM (a b : Int × Int × Int) : Prop := lessV a.1 a.2.1 a.2.2 b.1 b.2.1 b.2.2 = true
theorem lessV_not (f t k f' t' k' : Int) (h : lessV f t k f' t' k' = true) : lessV f' t' k' f t k = false := by
  unfold lessV at *
  by_cases h1 : f = f'
  · subst h1
    by_cases h2 : t = t'
    · subst h2
      simp only [if_true] at h ⊢
      simp only [decide_eq_true_eq, decide_eq_false_iff_not] at *
      omega
    · rw [if_pos rfl, if_neg h2] at h
      rw [if_pos rfl, if_neg (fun e => h2 e.symm)]
      simp only [decide_eq_true_eq, decide_eq_false_iff_not] at *
      omega
  · rw [if_neg h1] at h
    rw [if_neg (fun e => h1 e.symm)]
    simp only [decide_eq_true_eq, decide_eq_false_iff_not] at *
    omega
theorem oneM_mem (P : Nat → Int) (s : Nat) (t : Int) (m : Int × Int × Int) (h : m ∈ oneM P s t) : m.1 = s ∧ m.2.1 = t ∧ (if lastB P s t.toNat = true then 2 ≤ m.2.2 ∧ m.2.2 ≤ 5 else m.2.2 = 0) := by
  unfold oneM at h
  split at h
  · rename_i hl
    rw [if_pos hl]
    simp only [List.mem_cons, List.not_mem_nil, or_false] at h
    rcases h with rfl | rfl | rfl | rfl <;> exact ⟨rfl, rfl, by constructor <;> simp⟩
  · rename_i hl
    rw [if_neg hl]
    simp only [List.mem_singleton] at h
    subst h
    exact ⟨rfl, rfl, rfl⟩
theorem oneM_rise (P : Nat → Int) (s : Nat) (t : Int) : (oneM P s t).Pairwise lessM := by
  unfold oneM
  split
  · simp [lessM, lessV]
  · simp
theorem putL_mem (P : Nat → Int) (s : Nat) (xs : List Int) (m : Int × Int × Int) (h : m ∈ putL P s xs) : m.1 = s ∧ m.2.1 ∈ xs ∧ (if lastB P s m.2.1.toNat = true then 2 ≤ m.2.2 ∧ m.2.2 ≤ 5 else m.2.2 = 0) := by
  unfold putL at h
  obtain ⟨x, hx, h1⟩ := List.mem_flatMap.1 h
  obtain ⟨h2, h3, h4⟩ := oneM_mem P s x m h1
  rw [h3]
  exact ⟨h2, hx, h4⟩
theorem putL_rise (P : Nat → Int) (s : Nat) (xs : List Int) (hx : xs.Pairwise fun a b => a < b) : (putL P s xs).Pairwise lessM := by
  unfold putL
  rw [List.pairwise_flatMap]
  refine ⟨fun a _ => oneM_rise P s a, hx.imp fun {a b} hab x hxa y hyb => ?_⟩
  obtain ⟨x1, x2, _⟩ := oneM_mem P s a x hxa
  obtain ⟨y1, y2, _⟩ := oneM_mem P s b y hyb
  unfold lessM lessV
  rw [x1, y1, x2, y2, if_pos rfl, if_neg (by omega)]
  simpa using hab
theorem allM_rise (P : Nat → Int) : (allM P).Pairwise lessM := by
  rw [allM_up, List.pairwise_flatMap]
  refine ⟨fun a _ => putL_rise P _ _ (upList_lt _ _), (List.Pairwise.and_mem.1 (upList_lt (ownB P) 64)).imp fun {a b} hab x hxa y hyb => ?_⟩
  obtain ⟨ha, hb, hlt⟩ := hab
  obtain ⟨i, hi, _, rfl⟩ := (upList_mem _ _ _).1 ha
  obtain ⟨j, hj, _, rfl⟩ := (upList_mem _ _ _).1 hb
  obtain ⟨x1, _⟩ := putL_mem P _ _ x hxa
  obtain ⟨y1, _⟩ := putL_mem P _ _ y hyb
  unfold lessM lessV
  rw [x1, y1]
  simp only [Int.toNat_natCast]
  rw [if_neg (by omega)]
  simpa using hlt
/-- what a move of all is -/
structure MvOk (P : Nat → Int) (m : Int × Int × Int) (s n : Nat) : Prop where
  f : m.1 = (s : Int)
  t : m.2.1 = (n : Int)
  hs : s < 64
  hn : n < 64
  o : ownB P s = true
  g : goB P s n = true
  b : becB P s n m.2.2 = true
theorem allM_mem (P : Nat → Int) (m : Int × Int × Int) (h : m ∈ allM P) : ∃ s n, MvOk P m s n := by
  rw [allM_up] at h
  obtain ⟨x, hx, h1⟩ := List.mem_flatMap.1 h
  obtain ⟨s, hs, ho, rfl⟩ := (upList_mem _ _ _).1 hx
  obtain ⟨h2, h3, h4⟩ := putL_mem P _ _ m h1
  rw [Int.toNat_natCast] at h2 h3 h4
  obtain ⟨n, hn, hg, e⟩ := (upList_mem _ _ _).1 h3
  refine ⟨s, n, h2, e, hs, hn, ho, hg, ?_⟩
  rw [e, Int.toNat_natCast] at h4
  unfold becB
  unfold lastB at h4
  split at h4
  · rename_i hl
    rw [if_pos hl]
    simp [h4.1, h4.2]
  · rename_i hl
    rw [if_neg hl]
    simp [h4]
theorem goB_ne (P : Nat → Int) (s n : Nat) (h : goB P s n = true) : s ≠ n := by
  unfold goB at h
  have := onN_or P
  split at h
  · simp only [Bool.or_eq_true, Bool.and_eq_true, List.contains_iff_mem] at h
    rcases h with h | h
    · have := (aheadL_mem P s _ h).2; omega
    · exact attR_ne P s n h.1
  · simp only [Bool.or_eq_true, Bool.and_eq_true, List.contains_iff_mem] at h
    rcases h with h | h
    · exact attR_ne P s n h.1
    · intro e
      subst e
      have := (castlesL_to P s s h.2).1
      unfold fD at this; omega
/-- where something stands, it is attacked, and not the mover's own -/
theorem goB_hit (P : Nat → Int) (s n : Nat) (hd : sideB (P 128) = true) (h : goB P s n = true) (he : emB P n = false) : attR P s n = true ∧ P (2 * n + 1) ≠ P 128 := by
  unfold goB at h
  split at h
  · simp only [Bool.or_eq_true, Bool.and_eq_true, List.contains_iff_mem] at h
    rcases h with h | h
    · have := (aheadL_mem P s _ h).1
      rw [Int.toNat_natCast, he] at this
      cases this
    · refine ⟨h.1, ?_⟩
      have h2 := h.2
      unfold slantB mothB at h2
      rw [he] at h2
      simp only [Bool.not_false, Bool.true_and, Bool.and_false, Bool.or_false, beq_iff_eq] at h2
      rw [h2]
      unfold oth
      unfold sideB at hd
      simp at hd
      split <;> omega
  · simp only [Bool.or_eq_true, Bool.and_eq_true, List.contains_iff_mem, Bool.not_eq_true'] at h
    rcases h with h | h
    · refine ⟨h.1, ?_⟩
      have h2 := h.2
      unfold mownB at h2
      rw [he] at h2
      simpa using h2
    · have := (castlesL_to P s n h.2).2
      rw [he] at this
      cases this
theorem own_parts (P : Nat → Int) (s : Nat) (h : ownB P s = true) : sideB (P 128) = true ∧ P (2 * s + 1) = P 128 := by
  unfold ownB at h
  simp only [Bool.and_eq_true, beq_iff_eq] at h
  exact ⟨h.1.1.1, h.1.1.2⟩
theorem hand_off (P : Nat → Int) (i : Nat) (h : i ≠ 129) : handP P i = P i := by unfold handP; exact setN_off _ _ _ _ h
theorem own_hand9 (P : Nat → Int) (s : Nat) (hs : s < 64) : ownB (handP P) s = ownB P s := by
  unfold ownB
  rw [hand_off P 128 (by omega), hand_off P _ (by omega), hand_off P _ (by omega)]
theorem bec_hand9 (P : Nat → Int) (s n : Nat) (hs : s < 64) (k : Int) : becB (handP P) s n k = becB P s n k := by
  unfold becB pwnB rkN
  rw [hand_off P 128 (by omega), hand_off P _ (by omega)]
theorem mv_ok (P : Nat → Int) (m : Int × Int × Int) (s n : Nat) (h : MvOk P m s n) : fltN (handP P) (s : Int) (n : Int) m.2.2 = 0 := by
  have h1 := h.hs
  have h2 := h.hn
  have h3 := goB_ne P s n h.g
  unfold fltN
  rw [(sq_iff _).2 (by omega), (sq_iff _).2 (by omega), Int.toNat_natCast, Int.toNat_natCast, own_hand9 P s h1, bec_hand9 P s n h1, h.o, h.b]
  rw [show ((s : Int) == (n : Int)) = false by simp; omega]
  rfl
theorem mv_side9 (P : Nat → Int) (f t : Nat) (k : Int) (hf : f < 64) (ht : t < 64) (h0 : fltN (handP P) f t k = 0) : mvP P f t k 128 = oth (P 128) := by
  unfold mvP
  rw [if_pos h0]
  simp only [Int.toNat_natCast]
  unfold cmN
  rw [lst_side, pcs_end _ _ _ _ hf ht _ (by omega), cnt_off _ _ _ (by omega) (by omega), hand_off _ _ (by omega)]
/-- the moves ahead of a square's -/
def ahM (P : Nat → Int) (s : Nat) : Nat := (flatM P (upList (ownB P) s)).length
theorem flatM_up (P : Nat → Int) (s : Nat) (hs : s < 64) : flatM P (upList (ownB P) (s + 1)) = flatM P (upList (ownB P) s) ++ fromM P (s : Int) := by
  rw [upList_succ]
  unfold flatM fromM
  rw [List.flatMap_append, (sq_iff _).2 (by omega), Int.toNat_natCast, Bool.true_and]
  congr 1
  cases ownB P s <;> simp
theorem ahM_succ (P : Nat → Int) (s : Nat) (hs : s < 64) : ahM P (s + 1) = ahM P s + (fromM P (s : Int)).length := by
  unfold ahM; rw [flatM_up P s hs, List.length_append]
theorem ahM_end (P : Nat → Int) : ahM P 64 = (allM P).length := rfl
theorem allM_at (P : Nat → Int) (s : Nat) (hs : s < 64) (i : Nat) (hi : i < (fromM P (s : Int)).length) :
    ahM P s + i < (allM P).length ∧ (allM P).getD (ahM P s + i) (0, 0, 0) = (fromM P (s : Int)).getD i (0, 0, 0) ∧ mF (fromM P (s : Int)) i = s := by
  have hp : flatM P (upList (ownB P) (s + 1)) <+: allM P := by
    obtain ⟨r, hr⟩ := upList_pre (ownB P) (show s + 1 ≤ 64 by omega)
    unfold allM
    rw [← hr]
    unfold flatM
    rw [List.flatMap_append]
    exact List.prefix_append _ _
  obtain ⟨r, hr⟩ := hp
  rw [flatM_up P s hs] at hr
  rw [← hr]
  unfold ahM
  refine ⟨by rw [List.length_append, List.length_append]; omega, ?_, ?_⟩
  · simp only [List.getD_eq_getElem?_getD]
    rw [List.append_assoc, List.getElem?_append_right (by omega), Nat.add_sub_cancel_left, List.getElem?_append_left hi]
  · have hm : (fromM P (s : Int)).getD i (0, 0, 0) ∈ fromM P (s : Int) := by
      rw [List.getD_eq_getElem?_getD, List.getElem?_eq_getElem hi]
      exact List.getElem_mem hi
    unfold mF
    unfold fromM at hm ⊢
    split at hm
    · rename_i h
      rw [if_pos h]
      rw [movesL_up P _ (by simpa using hs)] at hm ⊢
      have := (putL_mem P _ _ _ hm).1
      rw [this]
      simp
    · cases hm
end Go.Proofs.YthinkiljhkanhaaGreatDoor
