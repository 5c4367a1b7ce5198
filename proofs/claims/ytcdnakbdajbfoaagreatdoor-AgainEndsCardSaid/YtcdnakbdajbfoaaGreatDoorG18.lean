/-
  Merged: Qa, Qb, Qc, Qd, Qe, Qf, Mm.
-/
import Derived.Test.YtcdnakbdajbfoaaGreatDoorG4
import Derived.Test.YtcdnakbdajbfoaaGreatDoorG17
import Derived.Test.YtcdnakbdajbfoaaGreatDoorG16
import Derived.Test.YtcdnakbdajbfoaaGreatDoorPh

namespace Go.Proofs.YtcdnakbdajbfoaaGreatDoor
open Go.RowKit
set_option linter.unusedSimpArgs false
set_option linter.unusedVariables false
set_option maxRecDepth 20000

end Go.Proofs.YtcdnakbdajbfoaaGreatDoor

namespace Go.Proofs.YtcdnakbdajbfoaaGreatDoor
open Go.RowKit
set_option linter.unusedSimpArgs false
set_option linter.unusedVariables false
set_option maxRecDepth 20000

theorem setN_at (P : Nat → Int) (i : Nat) (x : Int) : setN P i x i = x := by unfold setN; rw [if_pos rfl]
theorem setN_off (P : Nat → Int) (i j : Nat) (x : Int) (h : j ≠ i) : setN P i x j = P j := by unfold setN; rw [if_neg h]
theorem ptN_k (P : Nat → Int) (m s : Nat) (k d : Int) : ptN P m k d (2 * s) = if s = m then k else P (2 * s) := by
  unfold ptN
  rw [setN_off _ _ _ _ (by omega)]
  unfold setN
  by_cases h : s = m
  · rw [if_pos (by omega), if_pos h]
  · rw [if_neg (by omega), if_neg h]
theorem ptN_d (P : Nat → Int) (m s : Nat) (k d : Int) : ptN P m k d (2 * s + 1) = if s = m then d else P (2 * s + 1) := by
  unfold ptN
  by_cases h : s = m
  · rw [if_pos h, h, setN_at]
  · rw [if_neg h, setN_off _ _ _ _ (by omega), setN_off _ _ _ _ (by omega)]
theorem ptN_end (P : Nat → Int) (m i : Nat) (k d : Int) (hm : m < 64) (hi : 128 ≤ i) : ptN P m k d i = P i := by
  unfold ptN
  rw [setN_off _ _ _ _ (by omega), setN_off _ _ _ _ (by omega)]
end Go.Proofs.YtcdnakbdajbfoaaGreatDoor

namespace Go.Proofs.YtcdnakbdajbfoaaGreatDoor
open Go.RowKit
set_option linter.unusedSimpArgs false
set_option linter.unusedVariables false
set_option maxRecDepth 20000

theorem lostN_cas : ∀ f : Fin 64, ∃ i : Fin 16, lostN (f.val : Int) = (i.val : Int) := by decide
def othJ (j : Nat) : Nat := (j + 2) % 4
end Go.Proofs.YtcdnakbdajbfoaaGreatDoor

namespace Go.Proofs.YtcdnakbdajbfoaaGreatDoor
open Go.RowKit
set_option linter.unusedSimpArgs false
set_option linter.unusedVariables false
set_option maxRecDepth 20000

theorem csX_sq (P : Nat → Int) (f t j : Nat) (h : csX P f t j = true) : (f : Int) = kasN (j * 5 + 2) ∧ (t : Int) = kasN (j * 5 + 3) := by
  unfold csX at h
  simp only [Bool.and_eq_true, beq_iff_eq] at h
  exact ⟨h.1.1.2, h.1.2⟩
theorem csI4 (P : Nat → Int) (f t : Nat) : csI P f t 4 = if csX P f t 0 then some 0 else if csX P f t 1 then some 1 else if csX P f t 2 then some 2 else if csX P f t 3 then some 3 else none := by
  simp only [csI]
  cases csX P f t 0 <;> cases csX P f t 1 <;> cases csX P f t 2 <;> cases csX P f t 3 <;> rfl
theorem csI_sq (P : Nat → Int) (f t j : Nat) (h : csI P f t 4 = some j) : j < 4 ∧ (f : Int) = kasN (j * 5 + 2) ∧ (t : Int) = kasN (j * 5 + 3) := by
  rw [csI4] at h
  split at h
  · rename_i hx; injection h with h; subst h; exact ⟨by omega, csX_sq P f t 0 hx⟩
  · split at h
    · rename_i hx; injection h with h; subst h; exact ⟨by omega, csX_sq P f t 1 hx⟩
    · split at h
      · rename_i hx; injection h with h; subst h; exact ⟨by omega, csX_sq P f t 2 hx⟩
      · split at h
        · rename_i hx; injection h with h; subst h; exact ⟨by omega, csX_sq P f t 3 hx⟩
        · cases h
theorem kas_mid : ∀ j : Fin 4, (mir (kasN (j.val * 5 + 2)).toNat + mir (kasN (j.val * 5 + 3)).toNat) / 2 = mir (((kasN (j.val * 5 + 2)).toNat + (kasN (j.val * 5 + 3)).toNat) / 2) ∧ ((kasN (j.val * 5 + 2)).toNat + (kasN (j.val * 5 + 3)).toNat) / 2 < 64 ∧ (kasN (othJ j.val * 5 + 4)).toNat = mir (kasN (j.val * 5 + 4)).toNat ∧ (kasN (j.val * 5 + 4)).toNat < 64 ∧ kasN (othJ j.val * 5 + 1) = tSide 4 (kasN (j.val * 5 + 1)) := by decide +kernel
theorem rkk_end (P : Nat → Int) (f t : Nat) (o : Option Nat) (ho : ∀ j, o = some j → j < 4 ∧ (f : Int) = kasN (j * 5 + 2) ∧ (t : Int) = kasN (j * 5 + 3)) (i : Nat) (hi : 128 ≤ i) : rkkN P f t o i = P i := by
  cases o with
  | none => rfl
  | some j =>
    obtain ⟨h1, h2, h3⟩ := ho j rfl
    obtain ⟨k1, k2, k3, k4, k5⟩ := kas_mid ⟨j, h1⟩
    simp only [← h2, ← h3, Int.toNat_natCast] at k1 k2 k3 k4 k5
    simp only [rkkN, rookN]
    rw [ptN_end _ _ _ _ _ k2 hi, ptN_end _ _ _ _ _ k4 hi]
theorem put_end (P : Nat → Int) (f t : Nat) (k tk : Int) (hf : f < 64) (ht : t < 64) (htk : tk = -1 ∨ ∃ n : Nat, tk = n ∧ n < 64) (i : Nat) (hi : 128 ≤ i) : putM P f t k tk i = P i := by
  unfold putM
  rw [ptN_end _ _ _ _ _ ht hi]
  split
  · rw [ptN_end _ _ _ _ _ hf hi]
  · rename_i hx
    rcases htk with rfl | ⟨n, rfl, hn⟩
    · exact absurd rfl hx
    · rw [ptN_end _ _ _ _ _ (by simpa using hn) hi, ptN_end _ _ _ _ _ hf hi]
theorem cnt_off (P : Nat → Int) (z : Bool) (i : Nat) (h1 : i ≠ 131) (h2 : i ≠ 132) : cntN P z i = P i := by
  unfold cntN
  split
  · rw [setN_off _ _ _ _ h2, setN_off _ _ _ _ h1]
  · rw [setN_off _ _ _ _ h1]
theorem cnt_half (P : Nat → Int) (z : Bool) : cntN P z 131 = if z then 0 else incN (P 131) 1024 := by
  unfold cntN
  split
  · rw [setN_off _ _ _ _ (by omega), setN_at]
  · rw [setN_at]
end Go.Proofs.YtcdnakbdajbfoaaGreatDoor

namespace Go.Proofs.YtcdnakbdajbfoaaGreatDoor
open Go.RowKit
set_option linter.unusedSimpArgs false
set_option linter.unusedVariables false
set_option maxRecDepth 20000

theorem lst_off (Q : Nat → Int) (f t : Nat) (o : Int) (i : Nat) (h1 : i ≠ 128) (h2 : i ≠ 129) (h3 : i ≠ 130) : lstN Q f t o i = Q i := by
  unfold lstN
  rw [setN_off _ _ _ _ h1, setN_off _ _ _ _ h3, setN_off _ _ _ _ h2]
theorem lst_side (Q : Nat → Int) (f t : Nat) (o : Int) : lstN Q f t o 128 = oth (Q 128) := by unfold lstN; rw [setN_at]
theorem lst_cas (Q : Nat → Int) (f t : Nat) (o : Int) : lstN Q f t o 129 = casM (Q 129) f t := by
  unfold lstN; rw [setN_off _ _ _ _ (by omega), setN_off _ _ _ _ (by omega), setN_at]
theorem lst_over (Q : Nat → Int) (f t : Nat) (o : Int) : lstN Q f t o 130 = o := by
  unfold lstN; rw [setN_off _ _ _ _ (by omega), setN_at]
theorem pcs_end (P : Nat → Int) (f t : Nat) (k : Int) (hf : f < 64) (ht : t < 64) (i : Nat) (hi : 128 ≤ i) : pcsN P f t k i = cntN P (pwnB P f || (tksN P f t != -1)) i := by
  unfold pcsN
  rw [rkk_end _ f t _ (fun j h => csI_sq P f t j h) i hi, put_end _ f t k _ hf ht (tks_cases P f t hf ht) i hi]
end Go.Proofs.YtcdnakbdajbfoaaGreatDoor

namespace Go.Proofs.YtcdnakbdajbfoaaGreatDoor
open Go.RowKit
set_option linter.unusedSimpArgs false
set_option linter.unusedVariables false
set_option maxRecDepth 20000

theorem right_fit (P : Nat → Int) (h : rightB P = true) : Fit P := fun s hs => by
  cases h0 : pe (P (2 * s)) (P (2 * s + 1)) 0 0
  · cases h1 : mayB (P (2 * s)) (P (2 * s + 1))
    · rw [not_right P s hs h0 h1] at h; cases h
    · exact .inr rfl
  · exact .inl rfl
theorem right_side (P : Nat → Int) (h : rightB P = true) : P 128 = 0 ∨ P 128 = 1 := by
  cases h0 : sideB (P 128)
  · rw [not_right2 P h0] at h; cases h
  · rcases side_cases (P 128) with ⟨e, _⟩ | ⟨e, _⟩ | ⟨_, _, e⟩
    · exact .inl e
    · exact .inr e
    · rw [e] at h0; cases h0
theorem right_cas (P : Nat → Int) (h : rightB P = true) : casB (P 129) = true := by
  unfold rightB castB at h
  simp only [Bool.and_eq_true] at h
  exact h.1.1.1.1.1.2.1.1.1.1
theorem right_hand (P : Nat → Int) (h : rightB P = true) : handP P = P := handP_on P (right_cas P h)
end Go.Proofs.YtcdnakbdajbfoaaGreatDoor

namespace Go.Proofs.YtcdnakbdajbfoaaGreatDoor
open Go.RowKit Go.Sort
set_option linter.unusedSimpArgs false
set_option linter.unusedVariables false
set_option maxRecDepth 20000

theorem oneM_mem (P : Nat → Int) (s : Nat) (t : Int) (m : Int × Int × Int) (h : m ∈ oneM P s t) : m.1 = s ∧ m.2.1 = t ∧ (if lastB P s t.toNat = true then 2 ≤ m.2.2 ∧ m.2.2 ≤ 5 else m.2.2 = 0) := by
  unfold oneM at h
  split at h
  · rename_i hl
    rw [if_pos hl]
    simp only [List.mem_cons, List.not_mem_nil, or_false] at h
    rcases h with rfl | rfl | rfl | rfl <;> exact ⟨rfl, rfl, by constructor <;> simp⟩
  · rename_i hl
    rw [if_neg hl]
    simp only [List.mem_singleton] at h
    subst h
    exact ⟨rfl, rfl, rfl⟩
theorem putL_mem (P : Nat → Int) (s : Nat) (xs : List Int) (m : Int × Int × Int) (h : m ∈ putL P s xs) : m.1 = s ∧ m.2.1 ∈ xs ∧ (if lastB P s m.2.1.toNat = true then 2 ≤ m.2.2 ∧ m.2.2 ≤ 5 else m.2.2 = 0) := by
  unfold putL at h
  obtain ⟨x, hx, h1⟩ := List.mem_flatMap.1 h
  obtain ⟨h2, h3, h4⟩ := oneM_mem P s x m h1
  rw [h3]
  exact ⟨h2, hx, h4⟩
structure MvOk (P : Nat → Int) (m : Int × Int × Int) (s n : Nat) : Prop where
  f : m.1 = (s : Int)
  t : m.2.1 = (n : Int)
  hs : s < 64
  hn : n < 64
  o : ownB P s = true
  g : goB P s n = true
  b : becB P s n m.2.2 = true
theorem allM_mem (P : Nat → Int) (m : Int × Int × Int) (h : m ∈ allM P) : ∃ s n, MvOk P m s n := by
  rw [allM_up] at h
  obtain ⟨x, hx, h1⟩ := List.mem_flatMap.1 h
  obtain ⟨s, hs, ho, rfl⟩ := (upList_mem _ _ _).1 hx
  obtain ⟨h2, h3, h4⟩ := putL_mem P _ _ m h1
  rw [Int.toNat_natCast] at h2 h3 h4
  obtain ⟨n, hn, hg, e⟩ := (upList_mem _ _ _).1 h3
  refine ⟨s, n, h2, e, hs, hn, ho, hg, ?_⟩
  rw [e, Int.toNat_natCast] at h4
  unfold becB
  unfold lastB at h4
  split at h4
  · rename_i hl
    rw [if_pos hl]
    simp [h4.1, h4.2]
  · rename_i hl
    rw [if_neg hl]
    simp [h4]
theorem goB_ne (P : Nat → Int) (s n : Nat) (h : goB P s n = true) : s ≠ n := by
  unfold goB at h
  have := onN_or P
  split at h
  · simp only [Bool.or_eq_true, Bool.and_eq_true, List.contains_iff_mem] at h
    rcases h with h | h
    · have := (aheadL_mem P s _ h).2; omega
    · exact attR_ne P s n h.1
  · simp only [Bool.or_eq_true, Bool.and_eq_true, List.contains_iff_mem] at h
    rcases h with h | h
    · exact attR_ne P s n h.1
    · intro e
      subst e
      have := (castlesL_to P s s h.2).1
      unfold fD at this; omega
theorem goB_hit (P : Nat → Int) (s n : Nat) (hd : sideB (P 128) = true) (h : goB P s n = true) (he : emB P n = false) : attR P s n = true ∧ P (2 * n + 1) ≠ P 128 := by
  unfold goB at h
  split at h
  · simp only [Bool.or_eq_true, Bool.and_eq_true, List.contains_iff_mem] at h
    rcases h with h | h
    · have := (aheadL_mem P s _ h).1
      rw [Int.toNat_natCast, he] at this
      cases this
    · refine ⟨h.1, ?_⟩
      have h2 := h.2
      unfold slantB mothB at h2
      rw [he] at h2
      simp only [Bool.not_false, Bool.true_and, Bool.and_false, Bool.or_false, beq_iff_eq] at h2
      rw [h2]
      unfold oth
      unfold sideB at hd
      simp at hd
      split <;> omega
  · simp only [Bool.or_eq_true, Bool.and_eq_true, List.contains_iff_mem, Bool.not_eq_true'] at h
    rcases h with h | h
    · refine ⟨h.1, ?_⟩
      have h2 := h.2
      unfold mownB at h2
      rw [he] at h2
      simpa using h2
    · have := (castlesL_to P s n h.2).2
      rw [he] at this
      cases this
theorem own_parts (P : Nat → Int) (s : Nat) (h : ownB P s = true) : sideB (P 128) = true ∧ P (2 * s + 1) = P 128 := by
  unfold ownB at h
  simp only [Bool.and_eq_true, beq_iff_eq] at h
  exact ⟨h.1.1.1, h.1.1.2⟩
theorem hand_off (P : Nat → Int) (i : Nat) (h : i ≠ 129) : handP P i = P i := by unfold handP; exact setN_off _ _ _ _ h
theorem own_hand9 (P : Nat → Int) (s : Nat) (hs : s < 64) : ownB (handP P) s = ownB P s := by
  unfold ownB
  rw [hand_off P 128 (by omega), hand_off P _ (by omega), hand_off P _ (by omega)]
theorem bec_hand9 (P : Nat → Int) (s n : Nat) (hs : s < 64) (k : Int) : becB (handP P) s n k = becB P s n k := by
  unfold becB pwnB rkN
  rw [hand_off P 128 (by omega), hand_off P _ (by omega)]
theorem mv_ok (P : Nat → Int) (m : Int × Int × Int) (s n : Nat) (h : MvOk P m s n) : fltN (handP P) (s : Int) (n : Int) m.2.2 = 0 := by
  have h1 := h.hs
  have h2 := h.hn
  have h3 := goB_ne P s n h.g
  unfold fltN
  rw [(sq_iff _).2 (by omega), (sq_iff _).2 (by omega), Int.toNat_natCast, Int.toNat_natCast, own_hand9 P s h1, bec_hand9 P s n h1, h.o, h.b]
  rw [show ((s : Int) == (n : Int)) = false by simp; omega]
  rfl
theorem mv_side9 (P : Nat → Int) (f t : Nat) (k : Int) (hf : f < 64) (ht : t < 64) (h0 : fltN (handP P) f t k = 0) : mvP P f t k 128 = oth (P 128) := by
  unfold mvP
  rw [if_pos h0]
  simp only [Int.toNat_natCast]
  unfold cmN
  rw [lst_side, pcs_end _ _ _ _ hf ht _ (by omega), cnt_off _ _ _ (by omega) (by omega), hand_off _ _ (by omega)]
theorem flatM_up (P : Nat → Int) (s : Nat) (hs : s < 64) : flatM P (upList (ownB P) (s + 1)) = flatM P (upList (ownB P) s) ++ fromM P (s : Int) := by
  rw [upList_succ]
  unfold flatM fromM
  rw [List.flatMap_append, (sq_iff _).2 (by omega), Int.toNat_natCast, Bool.true_and]
  congr 1
  cases ownB P s <;> simp
end Go.Proofs.YtcdnakbdajbfoaaGreatDoor
