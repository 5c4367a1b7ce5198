/-
  The document's moves, worked out by a quicker way: mathematics alone.
-/
import Derived.Test.YtcdnakbdajbfoaaGreatDoorM1
import Derived.Test.YtcdnakbdajbfoaaGreatDoorG27
namespace Go.Proofs.YtcdnakbdajbfoaaGreatDoor
open Go.RowKit Go.Sort
set_option linter.unusedSimpArgs false
set_option linter.unusedVariables false
set_option maxRecDepth 20000

def geoM (k : Int) (s t : Nat) : Bool :=
  if k = 1 then decide (absI (fD s t) ≤ 1) && decide (absI (rD s t) ≤ 2)
  else if k = 2 then absI (fD s t) * absI (rD s t) == 2
  else if k = 6 then decide (absI (fD s t) ≤ 2) && decide (absI (rD s t) ≤ 1)
  else if k = 4 then fD s t == 0 || rD s t == 0
  else if k = 3 then absI (fD s t) == absI (rD s t)
  else fD s t == 0 || rD s t == 0 || absI (fD s t) == absI (rD s t)
def cand (k : Int) (s : Nat) : List Nat :=
  if k = 1 then (List.range 64).filter (geoM 1 s)
  else if k = 2 then (List.range 64).filter (geoM 2 s)
  else if k = 6 then (List.range 64).filter (geoM 6 s)
  else if k = 4 then (List.range 64).filter (geoM 4 s)
  else if k = 3 then (List.range 64).filter (geoM 3 s)
  else (List.range 64).filter (geoM 5 s)
theorem cand_is (k : Int) (s : Nat) : cand k s = (List.range 64).filter (geoM k s) := by
  unfold cand
  split
  · rename_i h; subst h; rfl
  · split
    · rename_i h; subst h; rfl
    · split
      · rename_i h; subst h; rfl
      · split
        · rename_i h; subst h; rfl
        · split
          · rename_i h; subst h; rfl
          · rename_i h1 h2 h6 h4 h3
            refine congrArg (fun q => (List.range 64).filter q) (funext fun t => ?_)
            unfold geoM
            rw [if_neg h1, if_neg h2, if_neg h6, if_neg h4, if_neg h3]
            rfl
theorem att_geo (P : Nat → Int) (s t : Nat) (h : attR P s t = true) : geoM (P (2 * s)) s t = true := by
  unfold attR attK kindB at h
  rw [Bool.and_eq_true] at h
  have h2 := h.2
  unfold geoM
  split at h2
  · rename_i hk
    rw [if_pos hk]
    simp only [Bool.and_eq_true, Bool.or_eq_true, beq_iff_eq, decide_eq_true_eq] at h2 ⊢
    refine ⟨by omega, ?_⟩
    unfold absI
    split <;> omega
  · rename_i hk
    rw [if_neg hk]
    split at h2
    · rename_i hk2
      rw [if_pos hk2]; exact h2
    · rename_i hk2
      rw [if_neg hk2]
      split at h2
      · rename_i hk6
        rw [if_pos hk6]
        simp only [Bool.and_eq_true, decide_eq_true_eq] at h2 ⊢
        exact ⟨by omega, h2.2⟩
      · rename_i hk6
        rw [if_neg hk6]
        split at h2
        · rename_i hk4
          rw [if_pos hk4]
          exact (Bool.and_eq_true _ _ ▸ h2).1
        · rename_i hk4
          rw [if_neg hk4]
          split at h2
          · rename_i hk3
            rw [if_pos hk3]
            exact (Bool.and_eq_true _ _ ▸ h2).1
          · rename_i hk3
            rw [if_neg hk3]
            exact (Bool.and_eq_true _ _ ▸ h2).1
theorem castles_geo (P : Nat → Int) (s n : Nat) (h : (n : Int) ∈ castlesL P (s : Int) 4) : geoM 6 s n = true := by
  obtain ⟨j, hj, hc, hx⟩ := castlesL_mem P _ _ _ h
  obtain ⟨h1, _, _⟩ := cst_j P _ _ hc
  rcases (show j = 0 ∨ j = 1 ∨ j = 2 ∨ j = 3 by omega) with rfl | rfl | rfl | rfl
  · obtain rfl : s = 4 := by simp [mcsN] at h1; omega
    obtain rfl : n = 6 := by rw [show stp ((4 : Nat) : Int) (2 * mcsN (0 * 4 + 3)) 0 = 6 by decide] at hx; omega
    decide
  · obtain rfl : s = 4 := by simp [mcsN] at h1; omega
    obtain rfl : n = 2 := by rw [show stp ((4 : Nat) : Int) (2 * mcsN (1 * 4 + 3)) 0 = 2 by decide] at hx; omega
    decide
  · obtain rfl : s = 60 := by simp [mcsN] at h1; omega
    obtain rfl : n = 62 := by rw [show stp ((60 : Nat) : Int) (2 * mcsN (2 * 4 + 3)) 0 = 62 by decide] at hx; omega
    decide
  · obtain rfl : s = 60 := by simp [mcsN] at h1; omega
    obtain rfl : n = 58 := by rw [show stp ((60 : Nat) : Int) (2 * mcsN (3 * 4 + 3)) 0 = 58 by decide] at hx; omega
    decide
theorem go_geo (P : Nat → Int) (s t : Nat) (hs : s < 64) (ht : t < 64) (h : goB P s t = true) : geoM (P (2 * s)) s t = true := by
  unfold goB at h
  split at h
  · rename_i hk
    rw [Bool.or_eq_true] at h
    rcases h with h | h
    · have h2 := (aheadL_mem P s _ (List.contains_iff_mem.1 h)).2
      have h3 := onN_or P
      unfold geoM
      rw [if_pos hk]
      simp only [Bool.and_eq_true, decide_eq_true_eq]
      unfold absI fD rD
      have e1 : t % 8 = s % 8 := by omega
      rw [e1]
      refine ⟨by split <;> omega, by split <;> omega⟩
    · exact att_geo P s t (Bool.and_eq_true _ _ ▸ h).1
  · rw [Bool.or_eq_true] at h
    rcases h with h | h
    · exact att_geo P s t (Bool.and_eq_true _ _ ▸ h).1
    · rw [Bool.and_eq_true, beq_iff_eq] at h
      rw [h.1]
      exact castles_geo P s t (List.contains_iff_mem.1 h.2)
def allF (P : Nat → Int) : List (Int × Int × Int) := (upList (ownB P) 64).flatMap fun x => putL P x.toNat (((cand (P (2 * x.toNat)) x.toNat).filter (goB P x.toNat)).map Int.ofNat)
theorem up_cand (P : Nat → Int) (s : Nat) (hs : s < 64) : upList (goB P s) 64 = ((cand (P (2 * s)) s).filter (goB P s)).map Int.ofNat := by
  unfold upList
  rw [cand_is, List.filter_filter]
  refine congrArg _ (List.filter_congr fun t ht => ?_)
  cases e : goB P s t
  · rfl
  · rw [go_geo P s t hs (List.mem_range.1 ht) e]; rfl
theorem allF_is (P : Nat → Int) : allM P = allF P := by
  rw [allM_up]
  unfold allF
  simp only [List.flatMap_def]
  refine congrArg List.flatten (List.map_congr_left fun x hx => ?_)
  obtain ⟨i, hi, _, rfl⟩ := (upList_mem _ _ _).1 hx
  rw [up_cand P _ (by simpa using hi)]
def geoK (k d : Int) (a b : Nat) : Bool := mayB k d && !(a == b) && geoM k a b
theorem att_geoK (P Q : Nat → Int) (a b : Nat) (hk : Q (2 * a) = P (2 * a)) (hd : Q (2 * a + 1) = P (2 * a + 1)) (h : attR Q a b = true) : geoK (P (2 * a)) (P (2 * a + 1)) a b = true := by
  have h2 := att_geo Q a b h
  unfold attR attK at h
  rw [Bool.and_eq_true] at h
  unfold geoK
  rw [← hk, ← hd, h.1, h2]; rfl
def quietB (P : Nat → Int) : Bool := (List.range 64).all fun b => !pe (P (2 * b)) (P (2 * b + 1)) 6 (P 128) || (List.range 64).all fun a => !((P (2 * a + 1) == oth (P 128)) && geoK (P (2 * a)) (P (2 * a + 1)) a b)
theorem csI_none10 (P : Nat → Int) (f t : Nat) (h : ¬ P (2 * f) = 6) : csI P f t 4 = none := by
  have hx : ∀ j, j < 4 → csX P f t j = false := fun j hj => by
    cases e : csX P f t j
    · rfl
    · exfalso
      unfold csX at e
      simp only [Bool.and_eq_true, beq_iff_eq, pe_iff] at e
      exact h e.2.1
  exact csI_next _ _ _ _ (csI_next _ _ _ _ (csI_next _ _ _ _ (csI_next _ _ _ _ rfl (hx 0 (by omega))) (hx 1 (by omega))) (hx 2 (by omega))) (hx 3 (by omega))
theorem mv_what (P : Nat → Int) (m : Int × Int × Int) (s n : Nat) (h : MvOk P m s n) (hk : P (2 * s) ≠ 6) (x : Nat) (hx : x < 64) :
    (x = n ∧ mvP P s n m.2.2 (2 * x) ≠ 6 ∧ mvP P s n m.2.2 (2 * x + 1) = P 128) ∨ mvP P s n m.2.2 (2 * x) = 0 ∨ (mvP P s n m.2.2 (2 * x) = P (2 * x) ∧ mvP P s n m.2.2 (2 * x + 1) = P (2 * x + 1)) := by
  have h0 := mv_ok P m s n h
  have e1 : ∀ i, mvP P s n m.2.2 i = cmN (handP P) s n m.2.2 i := fun i => by
    unfold mvP; rw [if_pos h0, Int.toNat_natCast, Int.toNat_natCast]
  have hc : csI (handP P) s n 4 = none := csI_none10 _ _ _ (by rw [hand_off P _ (by omega)]; exact hk)
  have e2 : ∀ i, pcsN (handP P) s n m.2.2 i = putM (cntN (handP P) (pwnB (handP P) s || (tksN (handP P) s n != -1))) s n m.2.2 (tksN (handP P) s n) i := fun i => by
    unfold pcsN; rw [hc]; rfl
  rw [e1, e1, cm_k _ _ _ _ _ hx, cm_d _ _ _ _ _ hx, e2, e2, put_k, put_d]
  have hs := h.hs
  have c1 : ∀ y z, y < 64 → cntN (handP P) z (2 * y) = P (2 * y) := fun y z hy => by rw [cnt_off _ _ _ (by omega) (by omega), hand_off P _ (by omega)]
  have c2 : ∀ y z, y < 64 → cntN (handP P) z (2 * y + 1) = P (2 * y + 1) := fun y z hy => by rw [cnt_off _ _ _ (by omega) (by omega), hand_off P _ (by omega)]
  rw [c1 _ _ hs, c2 _ _ hs, c1 _ _ hx, c2 _ _ hx]
  by_cases hxn : x = n
  · left
    rw [if_pos hxn, if_pos hxn]
    refine ⟨hxn, ?_, (own_parts P s h.o).2⟩
    have hb := h.b
    unfold becB at hb
    split at hb
    · simp only [Bool.and_eq_true, decide_eq_true_eq] at hb
      rw [if_neg (by simp; omega)]; omega
    · rw [if_pos hb]; exact hk
  · right
    rw [if_neg hxn, if_neg hxn]
    split
    · left; rfl
    · split
      · left; rfl
      · right; exact ⟨rfl, rfl⟩
theorem ok_quiet (P : Nat → Int) (m : Int × Int × Int) (s n : Nat) (h : MvOk P m s n) (hk : P (2 * s) ≠ 6) (hq : quietB P = true) : okM P s n m.2.2 = true := by
  have hd : P 128 = 0 ∨ P 128 = 1 := by
    have := (own_parts P s h.o).1
    unfold sideB at this; simpa using this
  have hoo := oth_side hd
  have hc : chkB (mvP P s n m.2.2) (P 128) = false := by
    rw [Bool.eq_false_iff]
    intro e
    obtain ⟨b, a, hb, ha, k1, k2, k3, k4⟩ := (chk_iff _ _ hd).1 e
    have hat : mayB (mvP P s n m.2.2 (2 * a)) (mvP P s n m.2.2 (2 * a + 1)) = true := by
      unfold attR attK at k4
      simp only [Bool.and_eq_true] at k4
      exact k4.1.1
    obtain ⟨q1, q2⟩ : P (2 * b) = 6 ∧ P (2 * b + 1) = P 128 := by
      rcases mv_what P m s n h hk b hb with ⟨_, x, _⟩ | x | ⟨x, y⟩
      · exact absurd k1 x
      · rw [x] at k1; cases k1
      · exact ⟨x ▸ k1, y ▸ k2⟩
    obtain ⟨r1, r2⟩ : mvP P s n m.2.2 (2 * a) = P (2 * a) ∧ mvP P s n m.2.2 (2 * a + 1) = P (2 * a + 1) := by
      rcases mv_what P m s n h hk a ha with ⟨_, _, x⟩ | x | x
      · rw [k3] at x; exact absurd x hoo.2.2
      · rw [x] at hat
        unfold mayB at hat; simp at hat
      · exact x
    have g := att_geoK P _ a b r1 r2 k4
    unfold quietB at hq
    have h1 := List.all_eq_true.1 hq b (List.mem_range.2 hb)
    rw [(pe_iff _ _ _ _).2 ⟨q1, q2⟩, Bool.not_true, Bool.false_or] at h1
    have h2 := List.all_eq_true.1 h1 a (List.mem_range.2 ha)
    have hz : P (2 * a + 1) = oth (P 128) := r2 ▸ k3
    rw [hz] at h2 g
    rw [g] at h2
    simp at h2
  unfold okM badC badQ cstM
  rw [show (P (s * 2) == 6) = false by rw [Nat.mul_comm]; simpa using hk, mv_ok P m s n h, hc]
  rfl
def okF (P : Nat → Int) (m : Int × Int × Int) : Bool := (quietB P && !(P (2 * m.1.toNat) == 6)) || okL P m
def legF (P : Nat → Int) : List (Int × Int × Int) := (allF P).filter (okF P)
theorem legF_is (P : Nat → Int) : legM P = legF P := by
  unfold legM legF
  rw [← allF_is]
  refine List.filter_congr fun m hm => ?_
  obtain ⟨s, n, h⟩ := allM_mem P m hm
  unfold okF
  cases e : quietB P
  · rfl
  · cases e2 : P (2 * m.1.toNat) == 6
    · rw [okL_at P m s n h, ok_quiet P m s n h (by rw [h.f, Int.toNat_natCast] at e2; simpa using e2) e]; rfl
    · rfl
end Go.Proofs.YtcdnakbdajbfoaaGreatDoor
