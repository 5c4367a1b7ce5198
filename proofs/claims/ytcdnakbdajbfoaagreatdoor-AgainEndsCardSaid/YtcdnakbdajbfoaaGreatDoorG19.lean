/-
  Merged: Mr, Dl.
-/
import Derived.Test.YtcdnakbdajbfoaaGreatDoorG18
import Derived.Test.YtcdnakbdajbfoaaGreatDoorG9

namespace Go.Proofs.YtcdnakbdajbfoaaGreatDoor
open Go.RowKit Go.Sort
set_option linter.unusedSimpArgs false
set_option linter.unusedVariables false
set_option maxRecDepth 20000

def bareR (P : Nat → Int) (s : Int) : Bool := sq s && emB P s.toNat
theorem bareR_sq (P : Nat → Int) (t : Nat) (ht : t < 64) : bareR P (t : Int) = emB P t := by
  unfold bareR; rw [(sq_iff _).2 (by omega), Int.toNat_natCast, Bool.true_and]
def onR (P : Nat → Int) (s : Nat) : Int := if P (2 * s + 1) = 1 then -8 else 8
def firstR (P : Nat → Int) (s : Nat) : Int := if P (2 * s + 1) = 1 then 6 else 1
def pawnR (P : Nat → Int) (s t : Nat) : Bool :=
  if (t : Int) = s + onR P s then bareR P t
  else if (t : Int) = s + 2 * onR P s ∧ ((s / 8 : Nat) : Int) = firstR P s then bareR P (s + onR P s) && bareR P t
  else attR P s t && ((!emB P t && (P (2 * t + 1) == oth (P (2 * s + 1)))) || (bareR P t && ((t : Int) == P 130)))
def homeR (d : Int) : Nat := if d = 1 then 60 else 4
def shortR (d : Int) : Int := if d = 1 then 4 else 1
def farR (d : Int) : Int := if d = 1 then 8 else 2
def castleR (P : Nat → Int) (s t : Nat) : Bool :=
  if s ≠ homeR (P (2 * s + 1)) ∨ P 129 < 0 ∨ 15 < P 129 then false
  else if t = s + 2 then (P 129 / shortR (P (2 * s + 1)) % 2 == 1) && pe (P (2 * (s + 3))) (P (2 * (s + 3) + 1)) 4 (P (2 * s + 1)) && bareR P (s + 1 : Nat) && bareR P (s + 2 : Nat)
  else (t + 2 == s) && (P 129 / farR (P (2 * s + 1)) % 2 == 1) && pe (P (2 * (s - 4))) (P (2 * (s - 4) + 1)) 4 (P (2 * s + 1)) && bareR P (s - 1 : Nat) && bareR P (s - 2 : Nat) && bareR P (s - 3 : Nat)
def goesR (P : Nat → Int) (s t : Nat) : Bool :=
  if mayB (P (2 * s)) (P (2 * s + 1)) && (P (2 * s + 1) == P 128) && !(s == t) then
    (if P (2 * s) = 1 then pawnR P s t else (attR P s t && (emB P t || !(P (2 * t + 1) == P (2 * s + 1)))) || ((P (2 * s) == 6) && castleR P s t))
  else false
theorem sq_stp (s : Nat) (hs : s < 64) (d : Int) (hd : d = 1 ∨ d = -1) : sq (stp (s : Int) 0 d) = sq ((s : Int) + 8 * d) := by
  have h0 : sq (s : Int) = true := (sq_iff _).2 (by omega)
  unfold stp
  rw [h0, Bool.true_and]
  cases h : onB ((s : Int) % 8 + 0) ((s : Int) / 8 + d)
  · rw [if_neg (by decide)]
    cases h2 : sq ((s : Int) + 8 * d)
    · rfl
    · exfalso
      have h3 := (sq_iff _).1 h2
      unfold onB at h
      simp at h
      omega
  · rw [if_pos rfl, Int.add_zero]
theorem stp_bare (P : Nat → Int) (s : Nat) (hs : s < 64) (d : Int) (hd : d = 1 ∨ d = -1) : (sq (stp (s : Int) 0 d) && emB P (stp (s : Int) 0 d).toNat) = bareR P (s + 8 * d) := by
  unfold bareR
  rw [← sq_stp s hs d hd]
  cases h : sq (stp (s : Int) 0 d)
  · rfl
  · rw [stp_up _ _ h]
theorem aheadL_is (P : Nat → Int) (s t : Nat) (hs : s < 64) : (aheadL P s).contains (t : Int) =
    (bareR P (s + 8 * onN P) && (((t : Int) == s + 8 * onN P) || (decide (rkN P s = 1) && bareR P (s + 16 * onN P) && ((t : Int) == s + 16 * onN P)))) := by
  have hd := onN_or P
  have key : ∀ n, upW P (onN P) (n + 1) (stp (s : Int) 0 (onN P)) = if bareR P (s + 8 * onN P) = true then ((s : Int) + 8 * onN P) :: upW P (onN P) n (stp ((s : Int) + 8 * onN P) 0 (onN P)) else [] := by
    intro n
    rw [upW, stp_bare P s hs _ hd]
    cases h : bareR P (s + 8 * onN P)
    · rfl
    · rw [if_pos rfl, if_pos rfl, stp_up]
      rw [sq_stp s hs _ hd]
      unfold bareR at h
      rw [Bool.and_eq_true] at h
      exact h.1
  unfold aheadL farN
  cases h : bareR P (s + 8 * onN P)
  · rw [Bool.false_and]
    split
    · rw [key, h]; rfl
    · rw [key, h]; rfl
  · rw [Bool.true_and]
    have h1 : sq ((s : Int) + 8 * onN P) = true := by unfold bareR at h; rw [Bool.and_eq_true] at h; exact h.1
    obtain ⟨h2, h3⟩ := (sq_iff _).1 h1
    by_cases hr : rkN P s = 1
    · rw [if_pos hr, key, h, if_pos rfl]
      obtain ⟨a, ha⟩ := Int.eq_ofNat_of_zero_le h2
      have e16 : (s : Int) + 16 * onN P = (a : Int) + 8 * onN P := by omega
      rw [e16, ha, upW, stp_bare P a (by omega) _ hd]
      cases h5 : bareR P (a + 8 * onN P)
      · simp [hr] <;> rfl
      · rw [if_pos rfl, stp_up _ _ (by rw [sq_stp a (by omega) _ hd]; unfold bareR at h5; rw [Bool.and_eq_true] at h5; exact h5.1)]
        simp [hr, upW] <;> rfl
    · rw [if_neg hr, key, h, if_pos rfl]
      simp [hr, upW] <;> rfl
theorem goB_pawn (P : Nat → Int) (s t : Nat) (hs : s < 64) (ht : t < 64) (hk : P (2 * s) = 1) (ho : P (2 * s + 1) = P 128) (hd : sideB (P 128) = true) : pawnR P s t = goB P s t := by
  have hon : onR P s = 8 * onN P := by unfold onR onN; rw [ho]; split <;> rfl
  have hf : (((s / 8 : Nat) : Int) = firstR P s) ↔ rkN P s = 1 := by
    unfold firstR rkN
    rw [ho]
    rcases side_cases (P 128) with ⟨e, _⟩ | ⟨e, _⟩ | ⟨_, _, e⟩
    · rw [e]; simp
    · rw [e]; simp; omega
    · rw [e] at hd; cases hd
  have hd1 := onN_or P
  unfold pawnR goB
  rw [if_pos hk, aheadL_is P s t hs, hon, bareR_sq P t ht]
  by_cases h1 : (t : Int) = s + 8 * onN P
  · rw [if_pos h1]
    have ha : attR P s t = false := by
      cases h : attR P s t
      · rfl
      · exact absurd (show s % 8 = t % 8 by rcases hd1 with e | e <;> rw [e] at h1 <;> omega) (attR_pawn P s t hk h)
    rw [ha, ← h1, bareR_sq P t ht]
    simp
  · rw [if_neg h1]
    by_cases h2 : (t : Int) = s + 16 * onN P
    · have ha : attR P s t = false := by
        cases h : attR P s t
        · rfl
        · exact absurd (show s % 8 = t % 8 by rcases hd1 with e | e <;> rw [e] at h2 <;> omega) (attR_pawn P s t hk h)
      have hne : ((t : Int) == s + 8 * onN P) = false := by simpa using h1
      rw [ha, hne, ← h2, bareR_sq P t ht]
      by_cases h3 : rkN P s = 1
      · rw [if_pos ⟨by omega, hf.2 h3⟩]; simp [h3]
      · rw [if_neg (fun h => h3 (hf.1 h.2))]; simp [h3]
    · rw [if_neg (fun h => h2 (by omega))]
      have hne : ((t : Int) == s + 8 * onN P) = false := by simpa using h1
      have hne2 : ((t : Int) == s + 16 * onN P) = false := by simpa using h2
      rw [hne, hne2, ho]
      unfold slantB mothB
      cases attR P s t
      · simp
      · cases emB P t <;> simp
theorem bit_is (c : Int) (h0 : 0 ≤ c) (h1 : c ≤ 15) : ∀ j, j < 4 → (bits .and .i64 c (mcsN (j * 4)) != 0) = (c / mcsN (j * 4) % 2 == 1) := by
  obtain ⟨n, rfl⟩ := Int.eq_ofNat_of_zero_le h0
  have h : ∀ n : Nat, n < 16 → ∀ j, j < 4 → (bits .and .i64 (n : Int) (mcsN (j * 4)) != 0) = ((n : Int) / mcsN (j * 4) % 2 == 1) := by decide +kernel
  exact h n (by omega)
theorem castlesL_is (P : Nat → Int) (s : Int) (t : Int) : (castlesL P s 4).contains t = ((cstB P s 0 && (t == stp s 2 0)) || (cstB P s 1 && (t == stp s (-2) 0)) || (cstB P s 2 && (t == stp s 2 0)) || (cstB P s 3 && (t == stp s (-2) 0))) := by
  simp only [castlesL]
  rw [show (2 : Int) * mcsN (0 * 4 + 3) = 2 by decide, show (2 : Int) * mcsN (1 * 4 + 3) = -2 by decide, show (2 : Int) * mcsN (2 * 4 + 3) = 2 by decide, show (2 : Int) * mcsN (3 * 4 + 3) = -2 by decide]
  cases cstB P s 0 <;> cases cstB P s 1 <;> cases cstB P s 2 <;> cases cstB P s 3 <;> simp [Bool.or_assoc] <;> rfl
theorem clr_w0 (P : Nat → Int) (d : Int) : clrB P (wayJ 0) (cornJ 0) d = (emB P 5 && emB P 6 && pe (P 14) (P 15) 4 d) := by
  unfold clrB wayJ cornJ; simp [List.range_succ, Bool.and_assoc]
theorem clr_w1 (P : Nat → Int) (d : Int) : clrB P (wayJ 1) (cornJ 1) d = (emB P 3 && emB P 2 && emB P 1 && pe (P 0) (P 1) 4 d) := by
  unfold clrB wayJ cornJ; simp [List.range_succ, Bool.and_assoc]
theorem clr_w2 (P : Nat → Int) (d : Int) : clrB P (wayJ 2) (cornJ 2) d = (emB P 61 && emB P 62 && pe (P 126) (P 127) 4 d) := by
  unfold clrB wayJ cornJ; simp [List.range_succ, Bool.and_assoc]
theorem clr_w3 (P : Nat → Int) (d : Int) : clrB P (wayJ 3) (cornJ 3) d = (emB P 59 && emB P 58 && emB P 57 && pe (P 112) (P 113) 4 d) := by
  unfold clrB wayJ cornJ; simp [List.range_succ, Bool.and_assoc]
theorem castle_is (P : Nat → Int) (s t : Nat) (hs : s < 64) (ht : t < 64) (ho : P (2 * s + 1) = P 128) (hd : sideB (P 128) = true) : castleR P s t = (castlesL P (s : Int) 4).contains (t : Int) := by
  have hoff : ∀ j, j < 4 → (s : Int) ≠ mcsN (j * 4 + 2) ∨ P 128 ≠ mcsN (j * 4 + 1) → cstB P (s : Int) j = false := fun j hj h => by
    cases e : cstB P (s : Int) j
    · rfl
    · have := cst_j P _ j e; rcases h with h | h
      · exact absurd this.1 h
      · exact absurd this.2.1 h
  have hcas : ∀ c, (P 129 < 0 ∨ 15 < P 129) → hasB P c = false := fun c h => by
    unfold hasB
    rcases h with h | h
    · rw [decide_eq_false (show ¬ 0 ≤ P 129 by omega)]; rfl
    · rw [decide_eq_false (show ¬ P 129 ≤ 15 by omega)]; simp
  have hhas : ∀ j, j < 4 → ¬ (P 129 < 0 ∨ 15 < P 129) → hasB P (mcsN (j * 4)) = (P 129 / mcsN (j * 4) % 2 == 1) := fun j hj h => by
    unfold hasB
    rw [decide_eq_true (show 0 ≤ P 129 by omega), decide_eq_true (show P 129 ≤ 15 by omega), Bool.true_and, Bool.true_and]
    exact bit_is _ (by omega) (by omega) j hj
  rw [castlesL_is]
  unfold castleR
  rw [ho]
  rcases side_cases (P 128) with ⟨e, _⟩ | ⟨e, _⟩ | ⟨_, _, e⟩
  · rw [e, hoff 2 (by omega) (.inr (by rw [e]; decide)), hoff 3 (by omega) (.inr (by rw [e]; decide))]
    rw [show homeR 0 = 4 by decide, show shortR 0 = 1 by decide, show farR 0 = 2 by decide]
    by_cases h4 : s = 4
    · subst h4
      rw [show stp ((4 : Nat) : Int) 2 0 = 6 by decide, show stp ((4 : Nat) : Int) (-2) 0 = 2 by decide]
      unfold cstB
      rw [show mcsN (0 * 4 + 2) = 4 by decide, show mcsN (0 * 4 + 1) = 0 by decide, show mcsN (1 * 4 + 2) = 4 by decide, show mcsN (1 * 4 + 1) = 0 by decide, e, clr_w0, clr_w1]
      by_cases hc : P 129 < 0 ∨ 15 < P 129
      · rw [if_pos (.inr hc), hcas _ hc, hcas _ hc]; simp
      · rw [if_neg (by rintro (h | h); exact h rfl; exact hc h), hhas 0 (by omega) hc, hhas 1 (by omega) hc]
        rw [show mcsN (0 * 4) = 1 by decide, show mcsN (1 * 4) = 2 by decide]
        rw [bareR_sq P (4 + 1) (by omega), bareR_sq P (4 + 2) (by omega), bareR_sq P (4 - 1) (by omega), bareR_sq P (4 - 2) (by omega), bareR_sq P (4 - 3) (by omega)]
        simp only [Nat.reduceAdd, Nat.reduceMul, Nat.reduceSub]
        generalize (P 129 / 1 % 2 == 1) = b1
        generalize (P 129 / 2 % 2 == 1) = b2
        generalize emB P 1 = m1
        generalize emB P 2 = m2
        generalize emB P 3 = m3
        generalize emB P 5 = m5
        generalize emB P 6 = m6
        generalize pe (P 14) (P 15) 4 0 = r1
        generalize pe (P 0) (P 1) 4 0 = r2
        by_cases h6 : t = 6
        · subst h6; rw [if_pos rfl]
          cases b1 <;> cases b2 <;> cases m5 <;> cases m6 <;> cases r1 <;> simp
        · rw [if_neg h6]
          by_cases h2 : t = 2
          · subst h2
            cases b1 <;> cases b2 <;> cases m1 <;> cases m2 <;> cases m3 <;> cases r2 <;> simp
          · have e1 : (t + 2 == 4) = false := by simp; omega
            have e2 : ((t : Int) == 6) = false := by simp; omega
            have e3 : ((t : Int) == 2) = false := by simp; omega
            rw [e1, e2, e3]; simp
    · rw [if_pos (.inl h4), hoff 0 (by omega) (.inl (by simp [mcsN]; omega)), hoff 1 (by omega) (.inl (by simp [mcsN]; omega))]; simp
  · rw [e, hoff 0 (by omega) (.inr (by rw [e]; decide)), hoff 1 (by omega) (.inr (by rw [e]; decide))]
    rw [show homeR 1 = 60 by decide, show shortR 1 = 4 by decide, show farR 1 = 8 by decide]
    by_cases h4 : s = 60
    · subst h4
      rw [show stp ((60 : Nat) : Int) 2 0 = 62 by decide, show stp ((60 : Nat) : Int) (-2) 0 = 58 by decide]
      unfold cstB
      rw [show mcsN (2 * 4 + 2) = 60 by decide, show mcsN (2 * 4 + 1) = 1 by decide, show mcsN (3 * 4 + 2) = 60 by decide, show mcsN (3 * 4 + 1) = 1 by decide, e, clr_w2, clr_w3]
      by_cases hc : P 129 < 0 ∨ 15 < P 129
      · rw [if_pos (.inr hc), hcas _ hc, hcas _ hc]; simp
      · rw [if_neg (by rintro (h | h); exact h rfl; exact hc h), hhas 2 (by omega) hc, hhas 3 (by omega) hc]
        rw [show mcsN (2 * 4) = 4 by decide, show mcsN (3 * 4) = 8 by decide]
        rw [bareR_sq P (60 + 1) (by omega), bareR_sq P (60 + 2) (by omega), bareR_sq P (60 - 1) (by omega), bareR_sq P (60 - 2) (by omega), bareR_sq P (60 - 3) (by omega)]
        simp only [Nat.reduceAdd, Nat.reduceMul, Nat.reduceSub]
        generalize (P 129 / 4 % 2 == 1) = b1
        generalize (P 129 / 8 % 2 == 1) = b2
        generalize emB P 57 = m1
        generalize emB P 58 = m2
        generalize emB P 59 = m3
        generalize emB P 61 = m5
        generalize emB P 62 = m6
        generalize pe (P 126) (P 127) 4 1 = r1
        generalize pe (P 112) (P 113) 4 1 = r2
        by_cases h6 : t = 62
        · subst h6; rw [if_pos rfl]
          cases b1 <;> cases b2 <;> cases m5 <;> cases m6 <;> cases r1 <;> simp
        · rw [if_neg h6]
          by_cases h2 : t = 58
          · subst h2
            cases b1 <;> cases b2 <;> cases m1 <;> cases m2 <;> cases m3 <;> cases r2 <;> simp
          · have e1 : (t + 2 == 60) = false := by simp; omega
            have e2 : ((t : Int) == 62) = false := by simp; omega
            have e3 : ((t : Int) == 58) = false := by simp; omega
            rw [e1, e2, e3]; simp
    · rw [if_pos (.inl h4), hoff 2 (by omega) (.inl (by simp [mcsN]; omega)), hoff 3 (by omega) (.inl (by simp [mcsN]; omega))]; simp
  · rw [e] at hd; cases hd
theorem goes_is (P : Nat → Int) (s t : Nat) (hs : s < 64) (ht : t < 64) : goesR P s t = (ownB P s && goB P s t) := by
  unfold goesR
  by_cases hst : s = t
  · have h1 : (s == t) = true := by simpa using hst
    rw [h1]
    cases h : goB P s t
    · simp
    · exact absurd hst (goB_ne P s t h)
  have h1 : (s == t) = false := by simpa using hst
  by_cases ho : P (2 * s + 1) = P 128
  · cases hd : sideB (P 128)
    · have h2 : mayB (P (2 * s)) (P (2 * s + 1)) = false := by unfold mayB; rw [ho, hd]; simp
      have h3 : ownB P s = false := by unfold ownB; rw [hd]; rfl
      rw [h2, h3]; simp
    · have h2 : mayB (P (2 * s)) (P (2 * s + 1)) = (decide (1 ≤ P (2 * s)) && decide (P (2 * s) ≤ 6)) := by unfold mayB; rw [ho, hd]; simp
      have h3 : ownB P s = (decide (1 ≤ P (2 * s)) && decide (P (2 * s) ≤ 6)) := by unfold ownB; rw [hd, ho]; simp
      rw [h2, h3, h1, ho]
      simp only [beq_self_eq_true, Bool.and_true, Bool.not_false]
      cases decide (1 ≤ P (2 * s)) && decide (P (2 * s) ≤ 6)
      · rfl
      · rw [if_pos rfl, Bool.true_and]
        by_cases hk : P (2 * s) = 1
        · rw [if_pos hk]
          exact goB_pawn P s t hs ht hk ho hd
        · rw [if_neg hk, castle_is P s t hs ht ho hd]
          unfold goB
          rw [if_neg hk]
          unfold mownB
          cases emB P t <;> simp
  · have h2 : (P (2 * s + 1) == P 128) = false := by simpa using ho
    have h3 : ownB P s = false := by unfold ownB; rw [h2]; simp
    rw [h2, h3]; simp
def refM (P : Nat → Int) (s n : Nat) : List (Int × Int × Int) := if ownB P s then putL P s (upList (goB P s) n) else []
theorem refM_succ (P : Nat → Int) (s n : Nat) (hs : s < 64) (hn : n < 64) : refM P s (n + 1) = refM P s n ++ if goesR P s n then oneM P s n else [] := by
  rw [goes_is P s n hs hn]
  unfold refM
  cases ownB P s
  · rfl
  · rw [if_pos rfl, if_pos rfl, upList_succ, Bool.true_and]
    unfold putL
    rw [List.flatMap_append]
    cases goB P s n <;> simp
theorem refM_end (P : Nat → Int) (s : Nat) (hs : s < 64) : refM P s 64 = fromM P (s : Int) := by
  unfold refM fromM
  rw [(sq_iff _).2 (by omega), Int.toNat_natCast, Bool.true_and, movesL_up P s hs]
theorem refM_len (P : Nat → Int) (s n : Nat) (hn : n ≤ 64) : (refM P s n).length ≤ 256 := by
  unfold refM
  split
  · have h1 := putL_len P s (upList (goB P s) n)
    have h2 := upList_len (goB P s) n
    omega
  · simp
theorem oneM_is (P : Nat → Int) (s t : Nat) (hs : s < 64) (ht : t < 64) (h : goesR P s t = true) : lastB P s t = ((P (2 * s) == 1) && (((P (2 * s + 1) == 0) && ((t / 8 : Nat) == 7)) || ((P (2 * s + 1) == 1) && ((t / 8 : Nat) == 0)))) := by
  unfold goesR at h
  split at h
  · rename_i h1
    simp only [Bool.and_eq_true, beq_iff_eq] at h1
    have h2 := h1.1.2
    have h3 := h1.1.1
    unfold mayB at h3
    simp only [Bool.and_eq_true] at h3
    have h4 := h3.2
    unfold lastB pwnB rkN
    cases P (2 * s) == 1
    · rfl
    · rw [Bool.true_and, Bool.true_and, ← h2]
      rcases side_cases (P (2 * s + 1)) with ⟨e, _⟩ | ⟨e, _⟩ | ⟨_, _, e⟩
      · rw [e, Bool.eq_iff_iff]; simp; omega
      · rw [e, Bool.eq_iff_iff]; simp; omega
      · rw [e] at h4; cases h4
  · cases h
end Go.Proofs.YtcdnakbdajbfoaaGreatDoor

namespace Go.Proofs.YtcdnakbdajbfoaaGreatDoor
open Go.RowKit Go.Sort
set_option linter.unusedSimpArgs false
set_option linter.unusedVariables false
set_option maxRecDepth 20000

theorem kinds6 (k : Int) (h0 : 1 ≤ k) (h1 : k ≤ 6) : k = 1 ∨ k = 2 ∨ k = 6 ∨ k = 4 ∨ k = 3 ∨ k = 5 := by omega
set_option maxHeartbeats 8000000 in
set_option maxRecDepth 100000 in
theorem rAtt_any (P : Nat → Int) (a b : Nat) (ha : a < 64) (hb : b < 64) (w : World) :
    Calls Tryz.prog 126 #[.agg (pc P).toArray, .int .i64 (a : Int), .int .i64 (b : Int)] w fun e w' => e = .returned (.bool (attR P a b)) ∧ Below w.heap.size w w' := by
  obtain ⟨X, hX⟩ : ∃ X, X = (pc P).toArray := ⟨_, rfl⟩
  have HOP := Lib.hid (fun hg W => open_any P a b ha hb hg W)
  rw [← hX] at HOP ⊢
  have HX := Lib.hid hX
  have HP := Lib.hid (show PB (w.alloc (.cells X 30)) w.heap.size P by subst hX; exact PB.new rfl)
  have HB := Lib.hid (below_new (w := w) (.cells X 30))
  have hd := D_small a ha b hb
  clear hX
  go_enter Tryz.func126, Tryz.ntmps126
  go_upto_region 1 with (fail)
  generalize w.alloc (.cells X 30) = W0 at *
  have e1 := HP.out.cell (a * 2) (by omega)
  have e2 := HP.out.cell (a * 2 + 1) (by omega)
  have HAT := Lib.hid (show attR P a b = attK P (P (a * 2)) (P (a * 2 + 1)) a b by unfold attR; rw [Nat.mul_comm 2 a])
  generalize P (a * 2) = k at e1 HAT
  generalize P (a * 2 + 1) = d at e2 HAT
  have h0 : (0 : Int) ≤ a := by omega
  have h1 : (a : Int) < 64 := by omega
  have hl : (W0.alloc (.cells #[.int .i64 k, .int .i64 d] 26)).heap[W0.heap.size]? = some (.cells #[.int .i64 k, .int .i64 d] 26 (0, 0)) := sl_at rfl
  have HL := Lib.hid hl
  clear hl
  go_wp2_with fail
  refine (rMay_any k d _).mono ?_
  cases hm : mayB k d
  · have HF := Lib.hid (show attR P a b = false by rw [HAT.out]; unfold attK; rw [hm]; rfl)
    clear hm
    rintro e w2 ⟨rfl, hb2⟩
    have HB2 := Lib.hid ((HB.out.alloc HB.out.size _).trans (hb2.mono (Nat.le_trans HB.out.size (by simp))))
    clear hb2
    go_wp2
    go_ret
    exact ⟨q_b HF.out.symm, HB2.out⟩
  rintro e w2 ⟨rfl, hb2⟩
  have HB2 := Lib.hid ((HB.out.alloc HB.out.size (.cells #[.int .i64 k, .int .i64 d] 26)).trans (hb2.mono (Nat.le_trans HB.out.size (by simp))))
  have HL2 := Lib.hid (sl_go HL.out hb2)
  have HP2 := Lib.hid ((HP.out.alloc (.cells #[.int .i64 k, .int .i64 d] 26)).go hb2)
  obtain ⟨pb, hpb⟩ : ∃ p, W0.heap.size = p := ⟨_, rfl⟩
  rw [hpb] at HL2 ⊢
  have hk6 : 1 ≤ k ∧ k ≤ 6 := by
    rcases may_cases k d with ⟨h, hh⟩ | ⟨h, hh⟩ | ⟨h, h', _⟩
    · rw [hh] at hm; cases hm
    · rw [hh] at hm; cases hm
    · exact ⟨h, h'⟩
  have hsd : d = 0 ∨ d = 1 := by
    rcases may_cases k d with ⟨h, hh⟩ | ⟨h, hh⟩ | ⟨h, h', h3⟩
    · rw [hh] at hm; cases hm
    · rw [hh] at hm; cases hm
    · rw [h3] at hm
      rcases side_cases d with ⟨h, _⟩ | ⟨h, _⟩ | ⟨_, _, h⟩
      · exact .inl h
      · exact .inr h
      · rw [h] at hm; cases hm
  have HM := Lib.hid hm
  have HK6 := Lib.hid hk6
  have HSD := Lib.hid hsd
  clear hm hb2 HL HP HB e1 e2 hk6 hsd hpb
  by_cases hab : a = b
  · have HF := Lib.hid (show attR P a b = false by rw [HAT.out]; unfold attK; subst hab; simp)
    have hne : ((a : Int) == (b : Int)) = true := by simp [hab]
    clear hab
    go_wp2
    go_ret
    exact ⟨q_b HF.out.symm, HB2.out⟩
  have hkb : attR P a b = kindB P k d a b := by rw [HAT.out]; unfold attK; rw [HM.out]; simp [hab]
  unfold kindB at hkb
  have HKB := Lib.hid hkb
  clear hkb
  have HGD := Lib.hid (show good a b = (fD a b == 0 || rD a b == 0 || absI (fD a b) == absI (rD a b)) by unfold good; simp [hab])
  have hne : ((a : Int) == (b : Int)) = false := by simp; omega
  clear hab HAT HM
  go_wp2_with fail
  refine (apart_any a b ha hb _).mono ?_
  rintro e w3 ⟨rfl, rfl⟩
  generalize hf : fD a b = f at *
  generalize hr : rD a b = r at *
  clear hf hr
  go_upto_region 5 with (fail)
  rename_i K5 hK5
  have HK : ∀ (st sl : Bool) (u30 u31 u32 u33 u34 u35 u36 u37 u38 u39 u40 : Value), st = (f == 0 || r == 0) → sl = (absI f == absI r) → K5 { tmps := #[.agg X, .int .i64 a, .int .i64 b, .pointer (some ⟨w.heap.size, 0, none⟩), undef, undef, .bool false, .pointer (some ⟨pb, 0, none⟩), .int .i64 f, .int .i64 r, .bool st, .bool sl, .int .i64 a, .pointer (some ⟨w.heap.size, 0, none⟩), .pointer (some ⟨w.heap.size, a * 2, none⟩), .agg #[.int .i64 k, .int .i64 d], .agg #[.int .i64 k, .int .i64 d], .bool true, .bool false, .bool false, .int .i64 a, .int .i64 b, .bool false, .bool false, .tuple #[.int .i64 f, .int .i64 r], .int .i64 a, .int .i64 b, .tuple #[.int .i64 f, .int .i64 r], .int .i64 f, .int .i64 r, u30, u31, u32, u33, u34, u35, u36, u37, u38, u39, u40, undef, undef, undef, undef, undef, undef, undef, undef, undef, undef, undef, undef, undef, undef, undef, undef, undef, undef, undef, undef, undef, undef, undef, undef, undef, undef, undef, undef, undef, undef, undef, undef, undef, undef, undef, undef, undef, undef, undef, undef, undef, undef, undef, undef, undef, undef, undef, undef, undef, undef, undef, undef, undef, undef, undef, undef, undef, undef, undef, undef, undef, undef, undef, undef, undef, undef, undef, undef, undef, undef, undef], defers := [] } w2 := by
    intro st sl u30 u31 u32 u33 u34 u35 u36 u37 u38 u39 u40 hst hsl
    rw [← hst, ← hsl] at HKB HGD
    have HST := Lib.hid hst
    have HSL := Lib.hid hsl
    refine hK5 _ _ ?_
    clear hK5 hst hsl
    obtain ⟨c0, c1, cf, _⟩ := row2 HL2.out
    have hk6 := HK6.out
    have h2 : 0 ≤ absI f ∧ absI f ≤ 7 := by unfold absI; split <;> omega
    have h3 : 0 ≤ absI r ∧ absI r ≤ 7 := by unfold absI; split <;> omega
    rcases kinds6 k hk6.1 hk6.2 with rfl | rfl | rfl | rfl | rfl | rfl
    · clear hk6 h2 h3 HOP
      have HKB2 := Lib.hid (show attR P a b = (absI f == 1 && (d == 0 && r == 1 || d == 1 && r == -1)) from HKB.out)
      clear HKB
      cases h1f : (absI f == 1)
      · have HF := Lib.hid (show attR P a b = false by rw [HKB2.out, h1f]; rfl)
        clear HKB2
        go_wp2_with fail
        refine (abs_any f (by omega) (by omega) _).mono ?_
        generalize absI f = af at *
        rintro e w4 ⟨rfl, rfl⟩
        go_wp2
        go_ret
        exact ⟨q_b HF.out.symm, HB2.out⟩
      · rcases HSD.out with rfl | rfl
        · cases hr1 : (r == 1)
          · have HF := Lib.hid (show attR P a b = false by rw [HKB2.out, h1f, hr1]; rfl)
            clear HKB2
            go_wp2_with fail
            refine (abs_any f (by omega) (by omega) _).mono ?_
            generalize absI f = af at *
            rintro e w4 ⟨rfl, rfl⟩
            go_wp2
            go_ret
            exact ⟨q_b HF.out.symm, HB2.out⟩
          · have HF := Lib.hid (show attR P a b = true by rw [HKB2.out, h1f, hr1]; rfl)
            clear HKB2
            go_wp2_with fail
            refine (abs_any f (by omega) (by omega) _).mono ?_
            generalize absI f = af at *
            rintro e w4 ⟨rfl, rfl⟩
            go_wp2
            go_ret
            exact ⟨q_b HF.out.symm, HB2.out⟩
        · have HF := Lib.hid (show attR P a b = (r == -1) by rw [HKB2.out, h1f]; rfl)
          clear HKB2
          go_wp2_with fail
          refine (abs_any f (by omega) (by omega) _).mono ?_
          generalize absI f = af at *
          rintro e w4 ⟨rfl, rfl⟩
          go_wp2
          go_ret
          exact ⟨q_b HF.out.symm, HB2.out⟩
    · have HF := Lib.hid (show attR P a b = (absI f * absI r == 2) from HKB.out)
      have p0 := Int.mul_nonneg h2.1 h3.1
      have p1 : absI f * absI r ≤ 7 * 7 := Int.mul_le_mul h2.2 h3.2 h3.1 (by omega)
      clear HKB HOP hk6 h2 h3
      go_wp2_with fail
      refine (abs_any f (by omega) (by omega) _).mono ?_
      rintro e w4 ⟨rfl, rfl⟩
      go_wp2_with fail
      refine (abs_any r (by omega) (by omega) _).mono ?_
      generalize absI f = af at *
      generalize absI r = ar at *
      rintro e w4 ⟨rfl, rfl⟩
      obtain ⟨pp, hpp⟩ : ∃ p, af * ar = p := ⟨_, rfl⟩
      rw [hpp] at p0 p1 HF
      have p2 : wrap64 pp = pp := by unfold wrap64; omega
      go_wp2
      go_ret
      exact ⟨q_b HF.out.symm, HB2.out⟩
    · have HF := Lib.hid (show attR P a b = (decide (absI f ≤ 1) && decide (absI r ≤ 1)) from HKB.out)
      clear HKB HOP hk6
      by_cases h1f : absI f ≤ 1
      · have HF2 := Lib.hid (show attR P a b = decide (absI r ≤ 1) by rw [HF.out, decide_eq_true h1f, Bool.true_and])
        clear HF
        go_wp2_with fail
        refine (abs_any f (by omega) (by omega) _).mono ?_
        generalize absI f = af at *
        rintro e w4 ⟨rfl, rfl⟩
        go_wp2_with fail
        refine (abs_any r (by omega) (by omega) _).mono ?_
        generalize absI r = ar at *
        rintro e w4 ⟨rfl, rfl⟩
        go_wp2
        go_ret
        exact ⟨q_b HF2.out.symm, HB2.out⟩
      · have HF2 := Lib.hid (show attR P a b = false by rw [HF.out, decide_eq_false h1f, Bool.false_and])
        clear HF
        go_wp2_with fail
        refine (abs_any f (by omega) (by omega) _).mono ?_
        generalize absI f = af at *
        rintro e w4 ⟨rfl, rfl⟩
        go_wp2
        go_ret
        exact ⟨q_b HF2.out.symm, HB2.out⟩
    · have HF := Lib.hid (show attR P a b = (st && openB P a b) from HKB.out)
      clear HKB hk6 h2 h3
      cases st
      · have HF2 := Lib.hid (show attR P a b = false by rw [HF.out, Bool.false_and])
        clear HF HOP
        go_wp2
        go_ret
        exact ⟨q_b HF2.out.symm, HB2.out⟩
      · have HF2 := Lib.hid (show attR P a b = openB P a b by rw [HF.out, Bool.true_and])
        have HO := Lib.hid (HOP.out (by rw [HGD.out, Bool.true_or]))
        clear HF HOP
        go_wp2_with fail
        refine wp_load_mid 30 (.tmp 3) rfl _ 0 rfl (pc P) _ HP2.out.range Tryz.underlying30 rfl (by rw [infoPos, pc_len]) ?_
        rw [← HX.out]
        go_wp2_with fail
        refine (HO.out _).mono ?_
        rintro e w4 ⟨rfl, hb4⟩
        have HB4 := Lib.hid (HB2.out.trans (hb4.mono HB2.out.size))
        clear hb4
        go_wp2
        go_ret
        exact ⟨q_b HF2.out.symm, HB4.out⟩
    · have HF := Lib.hid (show attR P a b = (sl && openB P a b) from HKB.out)
      clear HKB hk6 h2 h3
      cases sl
      · have HF2 := Lib.hid (show attR P a b = false by rw [HF.out, Bool.false_and])
        clear HF HOP
        go_wp2
        go_ret
        exact ⟨q_b HF2.out.symm, HB2.out⟩
      · have HF2 := Lib.hid (show attR P a b = openB P a b by rw [HF.out, Bool.true_and])
        have HO := Lib.hid (HOP.out (by rw [HGD.out, Bool.or_true]))
        clear HF HOP
        go_wp2_with fail
        refine wp_load_mid 30 (.tmp 3) rfl _ 0 rfl (pc P) _ HP2.out.range Tryz.underlying30 rfl (by rw [infoPos, pc_len]) ?_
        rw [← HX.out]
        go_wp2_with fail
        refine (HO.out _).mono ?_
        rintro e w4 ⟨rfl, hb4⟩
        have HB4 := Lib.hid (HB2.out.trans (hb4.mono HB2.out.size))
        clear hb4
        go_wp2
        go_ret
        exact ⟨q_b HF2.out.symm, HB4.out⟩
    · have HF := Lib.hid (show attR P a b = ((st || sl) && openB P a b) from HKB.out)
      clear HKB hk6 h2 h3
      cases st
      · cases sl
        · have HF2 := Lib.hid (show attR P a b = false by rw [HF.out]; rfl)
          clear HF HOP
          go_wp2
          go_ret
          exact ⟨q_b HF2.out.symm, HB2.out⟩
        · have HF2 := Lib.hid (show attR P a b = openB P a b by rw [HF.out]; simp)
          have HO := Lib.hid (HOP.out (by rw [HGD.out, Bool.or_true]))
          clear HF HOP
          go_wp2_with fail
          refine wp_load_mid 30 (.tmp 3) rfl _ 0 rfl (pc P) _ HP2.out.range Tryz.underlying30 rfl (by rw [infoPos, pc_len]) ?_
          rw [← HX.out]
          go_wp2_with fail
          refine (HO.out _).mono ?_
          rintro e w4 ⟨rfl, hb4⟩
          have HB4 := Lib.hid (HB2.out.trans (hb4.mono HB2.out.size))
          clear hb4
          go_wp2
          go_ret
          exact ⟨q_b HF2.out.symm, HB4.out⟩
      · have HF2 := Lib.hid (show attR P a b = openB P a b by rw [HF.out]; simp)
        have HO := Lib.hid (HOP.out (by rw [HGD.out, Bool.true_or]))
        clear HF HOP
        go_wp2_with fail
        refine wp_load_mid 30 (.tmp 3) rfl _ 0 rfl (pc P) _ HP2.out.range Tryz.underlying30 rfl (by rw [infoPos, pc_len]) ?_
        rw [← HX.out]
        go_wp2_with fail
        refine (HO.out _).mono ?_
        rintro e w4 ⟨rfl, hb4⟩
        have HB4 := Lib.hid (HB2.out.trans (hb4.mono HB2.out.size))
        clear hb4
        go_wp2
        go_ret
        exact ⟨q_b HF2.out.symm, HB4.out⟩
  clear hK5 HKB HGD HOP HP2 HL2 HB2 HX
  have HK2 := Lib.hid HK
  clear HK
  cases hf0 : (f == 0)
  · cases hr0 : (r == 0)
    · go_wp2_with fail
      refine (abs_any f (by omega) (by omega) _).mono ?_
      rintro e w4 ⟨rfl, rfl⟩
      go_wp2_with fail
      refine (abs_any r (by omega) (by omega) _).mono ?_
      rintro e w4 ⟨rfl, rfl⟩
      go_wp2
      exact HK2.out _ _ _ _ _ _ _ _ _ _ _ _ _ (by rw [hf0, hr0]; rfl) rfl
    · go_wp2_with fail
      refine (abs_any f (by omega) (by omega) _).mono ?_
      rintro e w4 ⟨rfl, rfl⟩
      go_wp2_with fail
      refine (abs_any r (by omega) (by omega) _).mono ?_
      rintro e w4 ⟨rfl, rfl⟩
      go_wp2
      exact HK2.out _ _ _ _ _ _ _ _ _ _ _ _ _ (by rw [hf0, hr0]; rfl) rfl
  · go_wp2_with fail
    refine (abs_any f (by omega) (by omega) _).mono ?_
    rintro e w4 ⟨rfl, rfl⟩
    go_wp2_with fail
    refine (abs_any r (by omega) (by omega) _).mono ?_
    rintro e w4 ⟨rfl, rfl⟩
    go_wp2
    exact HK2.out _ _ _ _ _ _ _ _ _ _ _ _ _ (by rw [hf0]; rfl) rfl
end Go.Proofs.YtcdnakbdajbfoaaGreatDoor
