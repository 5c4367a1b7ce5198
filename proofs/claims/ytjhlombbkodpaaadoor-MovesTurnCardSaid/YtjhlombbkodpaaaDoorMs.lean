/-
  Mathematics: the moves of a position turned; of the other side.
-/
import Derived.Test.YtjhlombbkodpaaaDoorMr
import Derived.Test.YtjhlombbkodpaaaDoorG20
import Derived.Test.YtjhlombbkodpaaaDoorG19
namespace Go.Proofs.YtjhlombbkodpaaaDoor
open Go.RowKit Go.Sort
set_option linter.unusedSimpArgs false
set_option linter.unusedVariables false
set_option maxRecDepth 20000

theorem allM_iff (P : Nat → Int) (m : Int × Int × Int) : m ∈ allM P ↔ ∃ s n, MvOk P m s n := by
  refine ⟨allM_mem P m, ?_⟩
  rintro ⟨s, n, h⟩
  rw [allM_up]
  refine List.mem_flatMap.2 ⟨(s : Int), (upList_mem _ _ _).2 ⟨s, h.hs, h.o, rfl⟩, ?_⟩
  rw [Int.toNat_natCast]
  unfold putL
  refine List.mem_flatMap.2 ⟨(n : Int), (upList_mem _ _ _).2 ⟨n, h.hn, h.g, rfl⟩, ?_⟩
  obtain ⟨f, t, k⟩ := m
  have h1 : f = (s : Int) := h.f
  have h2 : t = (n : Int) := h.t
  have h3 : becB P s n k = true := h.b
  subst h1; subst h2
  unfold oneM
  rw [Int.toNat_natCast]
  unfold becB at h3
  unfold lastB
  split at h3
  · rename_i hl
    rw [if_pos hl]
    simp only [Bool.and_eq_true, decide_eq_true_eq] at h3
    rcases (show k = 2 ∨ k = 3 ∨ k = 4 ∨ k = 5 by omega) with rfl | rfl | rfl | rfl <;> simp
  · rename_i hl
    rw [if_neg hl]
    have : k = 0 := by simpa using h3
    subst this
    simp
theorem allM_nodup (P : Nat → Int) : (allM P).Nodup := (allM_rise P).imp fun {a b} h e => by
  subst e
  unfold lessM at h
  have := lessV_not _ _ _ _ _ _ h
  rw [h] at this
  cases this
/-- the square across, of any number -/
def mI (x : Int) : Int := 8 * (7 - x / 8) + x % 8
theorem mI_nat (s : Nat) (hs : s < 64) : mI (s : Int) = (mir s : Int) := by unfold mI mir; omega
theorem mI_add (x : Int) (d : Int) : mI (x + 8 * d) = mI x - 8 * d := by unfold mI; omega
theorem mI_sq (x : Int) : sq (mI x) = sq x := by
  rw [Bool.eq_iff_iff, sq_iff, sq_iff]; unfold mI; omega
theorem bareR_turn (P : Nat → Int) (h : Fit P) (x : Int) : bareR (turnN P) (mI x) = bareR P x := by
  unfold bareR
  rw [mI_sq]
  cases hx : sq x
  · rfl
  · obtain ⟨h0, h1⟩ := (sq_iff x).1 hx
    obtain ⟨n, rfl⟩ := Int.eq_ofNat_of_zero_le h0
    rw [mI_nat n (by omega), Int.toNat_natCast, Int.toNat_natCast, emB_turn P h n (by omega)]
theorem onN_turn (P : Nat → Int) (hd : P 128 = 0 ∨ P 128 = 1) : onN (turnN P) = - onN P := by
  unfold onN
  rw [(turnN_parts P).1]
  rcases hd with e | e <;> rw [e] <;> rfl
theorem ahead_turn (P : Nat → Int) (h : Fit P) (hd : P 128 = 0 ∨ P 128 = 1) (s t : Nat) (hs : s < 64) (ht : t < 64) : (aheadL (turnN P) (mir s)).contains ((mir t : Nat) : Int) = (aheadL P s).contains (t : Int) := by
  rw [aheadL_is _ _ _ (mir_lt s hs), aheadL_is _ _ _ hs, onN_turn P hd, rkN_turn P hd s hs]
  have e8 : ((mir s : Nat) : Int) + 8 * -onN P = mI (s + 8 * onN P) := by rw [mI_add, mI_nat s hs]; omega
  have e16 : ((mir s : Nat) : Int) + 16 * -onN P = mI (s + 16 * onN P) := by rw [show (s : Int) + 16 * onN P = s + 8 * (2 * onN P) by omega, mI_add, mI_nat s hs]; omega
  rw [e8, e16, bareR_turn P h, bareR_turn P h]
  have q : ∀ x : Int, (((mir t : Nat) : Int) == mI x) = ((t : Int) == x) := fun x => by
    rw [Bool.eq_iff_iff, beq_iff_eq, beq_iff_eq, ← mI_nat t ht]; unfold mI; omega
  rw [q, q]
theorem moth_turn (P : Nat → Int) (h : Fit P) (hd : P 128 = 0 ∨ P 128 = 1) (t : Nat) (ht : t < 64) : mothB (turnN P) (mir t) = mothB P t := by
  unfold mothB
  rw [emB_turn P h t ht, turnN_d P _ (mir_lt t ht), mir_mir t ht, (turnN_parts P).1]
  cases he : emB P t
  · rw [Bool.not_false, Bool.true_and, Bool.true_and]
    rcases tSide_cases _ _ (h t ht) with ⟨e1, e2, _, _⟩ | ⟨_, _, e3, e4, _⟩
    · unfold emB at he; rw [e1, e2] at he; cases he
    · rw [e4]
      rcases hd with a | a <;> rcases e3 with b | b <;> rw [a, b] <;> rfl
  · rfl
theorem mown_turn (P : Nat → Int) (h : Fit P) (hd : P 128 = 0 ∨ P 128 = 1) (t : Nat) (ht : t < 64) : mownB (turnN P) (mir t) = mownB P t := by
  unfold mownB
  rw [emB_turn P h t ht, turnN_d P _ (mir_lt t ht), mir_mir t ht, (turnN_parts P).1]
  cases he : emB P t
  · rw [Bool.not_false, Bool.true_and, Bool.true_and]
    rcases tSide_cases _ _ (h t ht) with ⟨e1, e2, _, _⟩ | ⟨_, _, e3, e4, _⟩
    · unfold emB at he; rw [e1, e2] at he; cases he
    · rw [e4]
      rcases hd with a | a <;> rcases e3 with b | b <;> rw [a, b] <;> rfl
  · rfl
theorem tCas_bits (c : Int) (h : casB c = true) : tCas c / 1 % 2 = c / 4 % 2 ∧ tCas c / 2 % 2 = c / 8 % 2 ∧ tCas c / 4 % 2 = c / 1 % 2 ∧ tCas c / 8 % 2 = c / 2 % 2 ∧ ¬ (tCas c < 0 ∨ 15 < tCas c) ∧ ¬ (c < 0 ∨ 15 < c) := by
  have hc : 0 ≤ c ∧ c ≤ 15 := by unfold casB at h; simpa using h
  obtain ⟨n, rfl⟩ := Int.eq_ofNat_of_zero_le hc.1
  have h2 : ∀ n : Nat, n < 16 → tCas (n : Int) / 1 % 2 = (n : Int) / 4 % 2 ∧ tCas (n : Int) / 2 % 2 = (n : Int) / 8 % 2 ∧ tCas (n : Int) / 4 % 2 = (n : Int) / 1 % 2 ∧ tCas (n : Int) / 8 % 2 = (n : Int) / 2 % 2 ∧ ¬ (tCas (n : Int) < 0 ∨ 15 < tCas (n : Int)) ∧ ¬ ((n : Int) < 0 ∨ 15 < (n : Int)) := by decide +kernel
  exact h2 n (by omega)
theorem rook_turn (P : Nat → Int) (h : Fit P) (r r' : Nat) (hr : r < 64) (e : r' = mir r) (d : Int) (hd : d = 0 ∨ d = 1) : pe (turnN P (2 * r')) (turnN P (2 * r' + 1)) 4 (oth d) = pe (P (2 * r)) (P (2 * r + 1)) 4 d := by
  subst e
  rw [turnN_k P _ (mir_lt r hr), turnN_d P _ (mir_lt r hr), mir_mir r hr, pe_turn _ _ _ _ (h r hr) (by omega) hd]
theorem bare_turn' (P : Nat → Int) (h : Fit P) (a b : Nat) (hb : b < 64) (e : a = mir b) : bareR (turnN P) (a : Nat) = bareR P (b : Nat) := by
  subst e; rw [← mI_nat b hb, bareR_turn P h]
theorem castle_turn (P : Nat → Int) (h : Fit P) (hd : P 128 = 0 ∨ P 128 = 1) (hc : casB (P 129) = true) (s t : Nat) (hs : s < 64) (ht : t < 64) (ho : P (2 * s + 1) = P 128) (ho2 : turnN P (2 * mir s + 1) = oth (P 128)) : castleR (turnN P) (mir s) (mir t) = castleR P s t := by
  obtain ⟨b1, b2, b3, b4, b5, b6⟩ := tCas_bits _ hc
  unfold castleR
  rw [ho2, ho, (turnN_parts P).2.1]
  have hh : ∀ d, (d = 0 ∨ d = 1) → ((mir s = homeR (oth d)) ↔ (s = homeR d)) := fun d h1 => by
    rcases h1 with rfl | rfl
    · rw [show homeR (oth 0) = 60 by decide, show homeR 0 = 4 by decide]; unfold mir; omega
    · rw [show homeR (oth 1) = 4 by decide, show homeR 1 = 60 by decide]; unfold mir; omega
  by_cases h4 : s = homeR (P 128)
  · have n1 : ¬ (mir s ≠ homeR (oth (P 128)) ∨ tCas (P 129) < 0 ∨ 15 < tCas (P 129)) := by
      rintro (h | h)
      · exact h ((hh _ hd).2 h4)
      · exact b5 h
    have n2 : ¬ (s ≠ homeR (P 128) ∨ P 129 < 0 ∨ 15 < P 129) := by
      rintro (h | h)
      · exact h h4
      · exact b6 h
    rw [if_neg n1, if_neg n2]
    have hss : s = 4 ∨ s = 60 := by rw [h4]; unfold homeR; split <;> simp
    have hr1 : s + 3 < 64 := by omega
    have e1 : mir s + 3 = mir (s + 3) := by unfold mir; omega
    have e2 : mir s - 4 = mir (s - 4) := by unfold mir; omega
    rw [rook_turn P h (s + 3) (mir s + 3) (by omega) e1 _ hd, rook_turn P h (s - 4) (mir s - 4) (by omega) e2 _ hd]
    rw [bare_turn' P h (mir s + 1) (s + 1) (by omega) (by unfold mir; omega), bare_turn' P h (mir s + 2) (s + 2) (by omega) (by unfold mir; omega), bare_turn' P h (mir s - 1) (s - 1) (by omega) (by unfold mir; omega), bare_turn' P h (mir s - 2) (s - 2) (by omega) (by unfold mir; omega), bare_turn' P h (mir s - 3) (s - 3) (by omega) (by unfold mir; omega)]
    have hsh : tCas (P 129) / shortR (oth (P 128)) % 2 = P 129 / shortR (P 128) % 2 := by
      rcases hd with e | e <;> rw [e]
      · exact b3
      · exact b1
    have hfa : tCas (P 129) / farR (oth (P 128)) % 2 = P 129 / farR (P 128) % 2 := by
      rcases hd with e | e <;> rw [e]
      · exact b4
      · exact b2
    rw [hsh, hfa]
    have et : (mir t + 2 == mir s) = (t + 2 == s) := by rw [Bool.eq_iff_iff, beq_iff_eq, beq_iff_eq]; unfold mir; omega
    rw [et]
    by_cases h2 : t = s + 2
    · have h3 : mir t = mir s + 2 := by unfold mir; omega
      rw [if_pos h2, if_pos h3]
    · have h3 : ¬ mir t = mir s + 2 := by unfold mir; omega
      rw [if_neg h2, if_neg h3]
  · have n1 : mir s ≠ homeR (oth (P 128)) ∨ tCas (P 129) < 0 ∨ 15 < tCas (P 129) := .inl fun h => h4 ((hh _ hd).1 h)
    have n2 : s ≠ homeR (P 128) ∨ P 129 < 0 ∨ 15 < P 129 := .inl h4
    rw [if_pos n1, if_pos n2]
/-- where a piece goes, turned -/
theorem goB_turn (P : Nat → Int) (h : Fit P) (hd : P 128 = 0 ∨ P 128 = 1) (hc : casB (P 129) = true) (s t : Nat) (hs : s < 64) (ht : t < 64) (ho : ownB P s = true) : goB (turnN P) (mir s) (mir t) = goB P s t := by
  have ho2 := ho
  rw [← ownB_turn P h hd s hs] at ho2
  obtain ⟨p1, p2⟩ := own_parts P s ho
  obtain ⟨q1, q2⟩ := own_parts _ _ ho2
  have q3 := q2
  rw [(turnN_parts P).1] at q3
  have hcas := castle_is P s t hs ht p2 p1
  have hcas2 := castle_is (turnN P) (mir s) (mir t) (mir_lt s hs) (mir_lt t ht) q2 q1
  unfold goB
  rw [turnN_k P _ (mir_lt s hs), mir_mir s hs, ahead_turn P h hd s t hs ht, att_turn P s t hs ht, mown_turn P h hd t ht, ← hcas, ← hcas2, castle_turn P h hd hc s t hs ht p2 q3]
  unfold slantB
  rw [moth_turn P h hd t ht, over_mir P t ht, emB_turn P h t ht]
/-- a move, turned -/
def tM (m : Int × Int × Int) : Int × Int × Int := (mI m.1, mI m.2.1, m.2.2)
theorem tM_ok (P : Nat → Int) (h : Fit P) (hd : P 128 = 0 ∨ P 128 = 1) (hc : casB (P 129) = true) (m : Int × Int × Int) (s n : Nat) (hm : MvOk P m s n) : MvOk (turnN P) (tM m) (mir s) (mir n) := by
  have h1 := hm.hs
  have h2 := hm.hn
  refine ⟨?_, ?_, mir_lt s h1, mir_lt n h2, ?_, ?_, ?_⟩
  · unfold tM; rw [hm.f, mI_nat s h1]
  · unfold tM; rw [hm.t, mI_nat n h2]
  · rw [ownB_turn P h hd s h1]; exact hm.o
  · rw [goB_turn P h hd hc s n h1 h2 hm.o]; exact hm.g
  · show becB _ _ _ m.2.2 = true
    rw [becB_turn P hd s n h1 h2]; exact hm.b
theorem turn_mem (P : Nat → Int) (h : rightB P = true) (m : Int × Int × Int) (hm : m ∈ allM P) : tM m ∈ allM (turnN P) := by
  obtain ⟨s, n, hk⟩ := allM_mem P m hm
  exact (allM_iff _ _).2 ⟨_, _, tM_ok P (right_fit P h) (right_side P h) (right_cas P h) m s n hk⟩
theorem mI_inj (a b : Int) (h : mI a = mI b) : a = b := by unfold mI at h; omega
theorem tM_inj (a b : Int × Int × Int) (h : tM a = tM b) : a = b := by
  obtain ⟨a1, a2, a3⟩ := a
  obtain ⟨b1, b2, b3⟩ := b
  unfold tM at h
  simp only [Prod.mk.injEq] at h
  rw [mI_inj _ _ h.1, mI_inj _ _ h.2.1, h.2.2]
theorem nodup_le {l r : List (Int × Int × Int)} (hl : l.Nodup) (hs : ∀ x ∈ l, x ∈ r) : l.length ≤ r.length := by
  induction l generalizing r with
  | nil => simp
  | cons a l ih =>
    rw [List.nodup_cons] at hl
    have ha : a ∈ r := hs a (by simp)
    have h1 := ih (r := r.erase a) hl.2 fun x hx => (List.mem_erase_of_ne (by rintro rfl; exact hl.1 hx)).2 (hs x (by simp [hx]))
    have h2 := List.length_erase_of_mem ha
    have h3 : 0 < r.length := List.length_pos_of_mem ha
    simp only [List.length_cons]
    omega
theorem turn_le (P Q : Nat → Int) (h : ∀ m ∈ allM P, tM m ∈ allM Q) : (allM P).length ≤ (allM Q).length := by
  have h1 : ((allM P).map tM).Nodup := by
    rw [List.nodup_iff_pairwise_ne, List.pairwise_map]
    exact (List.nodup_iff_pairwise_ne.1 (allM_nodup P)).imp fun hne e => hne (tM_inj _ _ e)
  have h2 := nodup_le h1 (r := allM Q) fun x hx => by
    obtain ⟨m, hm, rfl⟩ := List.mem_map.1 hx
    exact h m hm
  simpa using h2
theorem fit_cas_turn (P : Nat → Int) (h : rightB P = true) : Fit (turnN P) ∧ (turnN P 128 = 0 ∨ turnN P 128 = 1) ∧ casB (turnN P 129) = true := by
  refine ⟨fit_turn P (right_fit P h), ?_, ?_⟩
  · rw [(turnN_parts P).1]; exact (oth_side (right_side P h)).1
  · rw [(turnN_parts P).2.1]; exact tCas_cas _ (right_cas P h)
theorem turn_full (P : Nat → Int) (h : Fit P) (hs : P 128 = 0 ∨ P 128 = 1) : turnN (turnN P) = P := by
  funext i
  by_cases hi : i < 133
  · exact turn_twice P h hs i hi
  · unfold turnN
    rw [if_neg (by omega), if_neg (by omega), if_neg (by omega), if_neg (by omega), if_neg (by omega), if_neg (by omega), if_neg (by omega), if_neg (by omega)]
theorem turn_len (P : Nat → Int) (h : rightB P = true) : (allM (turnN P)).length = (allM P).length := by
  obtain ⟨f1, f2, f3⟩ := fit_cas_turn P h
  have htt := turn_full P (right_fit P h) (right_side P h)
  refine Nat.le_antisymm ?_ (turn_le P _ (turn_mem P h))
  have h1 : ∀ m ∈ allM (turnN P), tM m ∈ allM P := fun m hm => by
    obtain ⟨s, n, hk⟩ := allM_mem _ m hm
    have := tM_ok (turnN P) f1 f2 f3 m s n hk
    rw [htt] at this
    exact (allM_iff _ _).2 ⟨_, _, this⟩
  exact turn_le _ _ h1
/-- with the other side to move no piece moves that moved -/
theorem other_moves (P : Nat → Int) (hd : P 128 = 0 ∨ P 128 = 1) (m : Int × Int × Int) (hm : m ∈ allM (setN P 128 (oth (P 128)))) : ∃ s : Nat, s < 64 ∧ m.1 = (s : Int) ∧ P (2 * s + 1) ≠ P 128 := by
  obtain ⟨s, n, hk⟩ := allM_mem _ m hm
  have h := (own_parts _ _ hk.o).2
  have h1 := hk.hs
  rw [setN_off _ _ _ _ (by omega), show setN P 128 (oth (P 128)) 128 = oth (P 128) by unfold setN; rw [if_pos rfl]] at h
  exact ⟨s, h1, hk.f, by rw [h]; exact (oth_side hd).2.2⟩
end Go.Proofs.YtjhlombbkodpaaaDoor
