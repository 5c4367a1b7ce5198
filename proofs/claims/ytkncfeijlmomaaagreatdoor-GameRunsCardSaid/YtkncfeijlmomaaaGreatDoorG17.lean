/-
  Merged: Mr, Nc, Ms, Rm.
-/
import Derived.Test.YtkncfeijlmomaaaGreatDoorG16
import Derived.Test.YtkncfeijlmomaaaGreatDoorG9
import Derived.Test.YtkncfeijlmomaaaGreatDoorG3

namespace Go.Proofs.YtkncfeijlmomaaaGreatDoor
open Go.RowKit Go.Sort
set_option linter.unusedSimpArgs false
set_option linter.unusedVariables false
set_option maxRecDepth 20000

/-- nothing stands on a square of the board -/
def bareR (P : Nat → Int) (s : Int) : Bool := sq s && emB P s.toNat
theorem bareR_sq (P : Nat → Int) (t : Nat) (ht : t < 64) : bareR P (t : Int) = emB P t := by
  unfold bareR; rw [(sq_iff _).2 (by omega), Int.toNat_natCast, Bool.true_and]
def onR (P : Nat → Int) (s : Nat) : Int := if P (2 * s + 1) = 1 then -8 else 8
def firstR (P : Nat → Int) (s : Nat) : Int := if P (2 * s + 1) = 1 then 6 else 1
/-- a pawn goes so -/
def pawnR (P : Nat → Int) (s t : Nat) : Bool :=
  if (t : Int) = s + onR P s then bareR P t
  else if (t : Int) = s + 2 * onR P s ∧ ((s / 8 : Nat) : Int) = firstR P s then bareR P (s + onR P s) && bareR P t
  else attR P s t && ((!emB P t && (P (2 * t + 1) == oth (P (2 * s + 1)))) || (bareR P t && ((t : Int) == P 130)))
def homeR (d : Int) : Nat := if d = 1 then 60 else 4
def shortR (d : Int) : Int := if d = 1 then 4 else 1
def farR (d : Int) : Int := if d = 1 then 8 else 2
/-- a king castles so -/
def castleR (P : Nat → Int) (s t : Nat) : Bool :=
  if s ≠ homeR (P (2 * s + 1)) ∨ P 129 < 0 ∨ 15 < P 129 then false
  else if t = s + 2 then (P 129 / shortR (P (2 * s + 1)) % 2 == 1) && pe (P (2 * (s + 3))) (P (2 * (s + 3) + 1)) 4 (P (2 * s + 1)) && bareR P (s + 1 : Nat) && bareR P (s + 2 : Nat)
  else (t + 2 == s) && (P 129 / farR (P (2 * s + 1)) % 2 == 1) && pe (P (2 * (s - 4))) (P (2 * (s - 4) + 1)) 4 (P (2 * s + 1)) && bareR P (s - 1 : Nat) && bareR P (s - 2 : Nat) && bareR P (s - 3 : Nat)
theorem sq_stp (s : Nat) (hs : s < 64) (d : Int) (hd : d = 1 ∨ d = -1) : sq (stp (s : Int) 0 d) = sq ((s : Int) + 8 * d) := by
  have h0 : sq (s : Int) = true := (sq_iff _).2 (by omega)
  unfold stp
  rw [h0, Bool.true_and]
  cases h : onB ((s : Int) % 8 + 0) ((s : Int) / 8 + d)
  · rw [if_neg (by decide)]
    cases h2 : sq ((s : Int) + 8 * d)
    · rfl
    · exfalso
      have h3 := (sq_iff _).1 h2
      unfold onB at h
      simp at h
      omega
  · rw [if_pos rfl, Int.add_zero]
theorem stp_bare (P : Nat → Int) (s : Nat) (hs : s < 64) (d : Int) (hd : d = 1 ∨ d = -1) : (sq (stp (s : Int) 0 d) && emB P (stp (s : Int) 0 d).toNat) = bareR P (s + 8 * d) := by
  unfold bareR
  rw [← sq_stp s hs d hd]
  cases h : sq (stp (s : Int) 0 d)
  · rfl
  · rw [stp_up _ _ h]
/-- a pawn's squares ahead, by what stands there -/
theorem aheadL_is (P : Nat → Int) (s t : Nat) (hs : s < 64) : (aheadL P s).contains (t : Int) =
    (bareR P (s + 8 * onN P) && (((t : Int) == s + 8 * onN P) || (decide (rkN P s = 1) && bareR P (s + 16 * onN P) && ((t : Int) == s + 16 * onN P)))) := by
  have hd := onN_or P
  have key : ∀ n, upW P (onN P) (n + 1) (stp (s : Int) 0 (onN P)) = if bareR P (s + 8 * onN P) = true then ((s : Int) + 8 * onN P) :: upW P (onN P) n (stp ((s : Int) + 8 * onN P) 0 (onN P)) else [] := by
    intro n
    rw [upW, stp_bare P s hs _ hd]
    cases h : bareR P (s + 8 * onN P)
    · rfl
    · rw [if_pos rfl, if_pos rfl, stp_up]
      rw [sq_stp s hs _ hd]
      unfold bareR at h
      rw [Bool.and_eq_true] at h
      exact h.1
  unfold aheadL farN
  cases h : bareR P (s + 8 * onN P)
  · rw [Bool.false_and]
    split
    · rw [key, h]; rfl
    · rw [key, h]; rfl
  · rw [Bool.true_and]
    have h1 : sq ((s : Int) + 8 * onN P) = true := by unfold bareR at h; rw [Bool.and_eq_true] at h; exact h.1
    obtain ⟨h2, h3⟩ := (sq_iff _).1 h1
    by_cases hr : rkN P s = 1
    · rw [if_pos hr, key, h, if_pos rfl]
      obtain ⟨a, ha⟩ := Int.eq_ofNat_of_zero_le h2
      have e16 : (s : Int) + 16 * onN P = (a : Int) + 8 * onN P := by omega
      rw [e16, ha, upW, stp_bare P a (by omega) _ hd]
      cases h5 : bareR P (a + 8 * onN P)
      · simp [hr] <;> rfl
      · rw [if_pos rfl, stp_up _ _ (by rw [sq_stp a (by omega) _ hd]; unfold bareR at h5; rw [Bool.and_eq_true] at h5; exact h5.1)]
        simp [hr, upW] <;> rfl
    · rw [if_neg hr, key, h, if_pos rfl]
      simp [hr, upW] <;> rfl
theorem goB_pawn (P : Nat → Int) (s t : Nat) (hs : s < 64) (ht : t < 64) (hk : P (2 * s) = 1) (ho : P (2 * s + 1) = P 128) (hd : sideB (P 128) = true) : pawnR P s t = goB P s t := by
  have hon : onR P s = 8 * onN P := by unfold onR onN; rw [ho]; split <;> rfl
  have hf : (((s / 8 : Nat) : Int) = firstR P s) ↔ rkN P s = 1 := by
    unfold firstR rkN
    rw [ho]
    rcases side_cases (P 128) with ⟨e, _⟩ | ⟨e, _⟩ | ⟨_, _, e⟩
    · rw [e]; simp
    · rw [e]; simp; omega
    · rw [e] at hd; cases hd
  have hd1 := onN_or P
  unfold pawnR goB
  rw [if_pos hk, aheadL_is P s t hs, hon, bareR_sq P t ht]
  by_cases h1 : (t : Int) = s + 8 * onN P
  · rw [if_pos h1]
    have ha : attR P s t = false := by
      cases h : attR P s t
      · rfl
      · exact absurd (show s % 8 = t % 8 by rcases hd1 with e | e <;> rw [e] at h1 <;> omega) (attR_pawn P s t hk h)
    rw [ha, ← h1, bareR_sq P t ht]
    simp
  · rw [if_neg h1]
    by_cases h2 : (t : Int) = s + 16 * onN P
    · have ha : attR P s t = false := by
        cases h : attR P s t
        · rfl
        · exact absurd (show s % 8 = t % 8 by rcases hd1 with e | e <;> rw [e] at h2 <;> omega) (attR_pawn P s t hk h)
      have hne : ((t : Int) == s + 8 * onN P) = false := by simpa using h1
      rw [ha, hne, ← h2, bareR_sq P t ht]
      by_cases h3 : rkN P s = 1
      · rw [if_pos ⟨by omega, hf.2 h3⟩]; simp [h3]
      · rw [if_neg (fun h => h3 (hf.1 h.2))]; simp [h3]
    · rw [if_neg (fun h => h2 (by omega))]
      have hne : ((t : Int) == s + 8 * onN P) = false := by simpa using h1
      have hne2 : ((t : Int) == s + 16 * onN P) = false := by simpa using h2
      rw [hne, hne2, ho]
      unfold slantB mothB
      cases attR P s t
      · simp
      · cases emB P t <;> simp
theorem bit_is (c : Int) (h0 : 0 ≤ c) (h1 : c ≤ 15) : ∀ j, j < 4 → (bits .and .i64 c (mcsN (j * 4)) != 0) = (c / mcsN (j * 4) % 2 == 1) := by
  obtain ⟨n, rfl⟩ := Int.eq_ofNat_of_zero_le h0
  have h : ∀ n : Nat, n < 16 → ∀ j, j < 4 → (bits .and .i64 (n : Int) (mcsN (j * 4)) != 0) = ((n : Int) / mcsN (j * 4) % 2 == 1) := by decide +kernel
  exact h n (by omega)
theorem castlesL_is (P : Nat → Int) (s : Int) (t : Int) : (castlesL P s 4).contains t = ((cstB P s 0 && (t == stp s 2 0)) || (cstB P s 1 && (t == stp s (-2) 0)) || (cstB P s 2 && (t == stp s 2 0)) || (cstB P s 3 && (t == stp s (-2) 0))) := by
  simp only [castlesL]
  rw [show (2 : Int) * mcsN (0 * 4 + 3) = 2 by decide, show (2 : Int) * mcsN (1 * 4 + 3) = -2 by decide, show (2 : Int) * mcsN (2 * 4 + 3) = 2 by decide, show (2 : Int) * mcsN (3 * 4 + 3) = -2 by decide]
  cases cstB P s 0 <;> cases cstB P s 1 <;> cases cstB P s 2 <;> cases cstB P s 3 <;> simp [Bool.or_assoc] <;> rfl
theorem clr_w0 (P : Nat → Int) (d : Int) : clrB P (wayJ 0) (cornJ 0) d = (emB P 5 && emB P 6 && pe (P 14) (P 15) 4 d) := by
  unfold clrB wayJ cornJ; simp [List.range_succ, Bool.and_assoc]
theorem clr_w1 (P : Nat → Int) (d : Int) : clrB P (wayJ 1) (cornJ 1) d = (emB P 3 && emB P 2 && emB P 1 && pe (P 0) (P 1) 4 d) := by
  unfold clrB wayJ cornJ; simp [List.range_succ, Bool.and_assoc]
theorem clr_w2 (P : Nat → Int) (d : Int) : clrB P (wayJ 2) (cornJ 2) d = (emB P 61 && emB P 62 && pe (P 126) (P 127) 4 d) := by
  unfold clrB wayJ cornJ; simp [List.range_succ, Bool.and_assoc]
theorem clr_w3 (P : Nat → Int) (d : Int) : clrB P (wayJ 3) (cornJ 3) d = (emB P 59 && emB P 58 && emB P 57 && pe (P 112) (P 113) 4 d) := by
  unfold clrB wayJ cornJ; simp [List.range_succ, Bool.and_assoc]
theorem castle_is (P : Nat → Int) (s t : Nat) (hs : s < 64) (ht : t < 64) (ho : P (2 * s + 1) = P 128) (hd : sideB (P 128) = true) : castleR P s t = (castlesL P (s : Int) 4).contains (t : Int) := by
  have hoff : ∀ j, j < 4 → (s : Int) ≠ mcsN (j * 4 + 2) ∨ P 128 ≠ mcsN (j * 4 + 1) → cstB P (s : Int) j = false := fun j hj h => by
    cases e : cstB P (s : Int) j
    · rfl
    · have := cst_j P _ j e; rcases h with h | h
      · exact absurd this.1 h
      · exact absurd this.2.1 h
  have hcas : ∀ c, (P 129 < 0 ∨ 15 < P 129) → hasB P c = false := fun c h => by
    unfold hasB
    rcases h with h | h
    · rw [decide_eq_false (show ¬ 0 ≤ P 129 by omega)]; rfl
    · rw [decide_eq_false (show ¬ P 129 ≤ 15 by omega)]; simp
  have hhas : ∀ j, j < 4 → ¬ (P 129 < 0 ∨ 15 < P 129) → hasB P (mcsN (j * 4)) = (P 129 / mcsN (j * 4) % 2 == 1) := fun j hj h => by
    unfold hasB
    rw [decide_eq_true (show 0 ≤ P 129 by omega), decide_eq_true (show P 129 ≤ 15 by omega), Bool.true_and, Bool.true_and]
    exact bit_is _ (by omega) (by omega) j hj
  rw [castlesL_is]
  unfold castleR
  rw [ho]
  rcases side_cases (P 128) with ⟨e, _⟩ | ⟨e, _⟩ | ⟨_, _, e⟩
  · rw [e, hoff 2 (by omega) (.inr (by rw [e]; decide)), hoff 3 (by omega) (.inr (by rw [e]; decide))]
    rw [show homeR 0 = 4 by decide, show shortR 0 = 1 by decide, show farR 0 = 2 by decide]
    by_cases h4 : s = 4
    · subst h4
      rw [show stp ((4 : Nat) : Int) 2 0 = 6 by decide, show stp ((4 : Nat) : Int) (-2) 0 = 2 by decide]
      unfold cstB
      rw [show mcsN (0 * 4 + 2) = 4 by decide, show mcsN (0 * 4 + 1) = 0 by decide, show mcsN (1 * 4 + 2) = 4 by decide, show mcsN (1 * 4 + 1) = 0 by decide, e, clr_w0, clr_w1]
      by_cases hc : P 129 < 0 ∨ 15 < P 129
      · rw [if_pos (.inr hc), hcas _ hc, hcas _ hc]; simp
      · rw [if_neg (by rintro (h | h); exact h rfl; exact hc h), hhas 0 (by omega) hc, hhas 1 (by omega) hc]
        rw [show mcsN (0 * 4) = 1 by decide, show mcsN (1 * 4) = 2 by decide]
        rw [bareR_sq P (4 + 1) (by omega), bareR_sq P (4 + 2) (by omega), bareR_sq P (4 - 1) (by omega), bareR_sq P (4 - 2) (by omega), bareR_sq P (4 - 3) (by omega)]
        simp only [Nat.reduceAdd, Nat.reduceMul, Nat.reduceSub]
        generalize (P 129 / 1 % 2 == 1) = b1
        generalize (P 129 / 2 % 2 == 1) = b2
        generalize emB P 1 = m1
        generalize emB P 2 = m2
        generalize emB P 3 = m3
        generalize emB P 5 = m5
        generalize emB P 6 = m6
        generalize pe (P 14) (P 15) 4 0 = r1
        generalize pe (P 0) (P 1) 4 0 = r2
        by_cases h6 : t = 6
        · subst h6; rw [if_pos rfl]
          cases b1 <;> cases b2 <;> cases m5 <;> cases m6 <;> cases r1 <;> simp
        · rw [if_neg h6]
          by_cases h2 : t = 2
          · subst h2
            cases b1 <;> cases b2 <;> cases m1 <;> cases m2 <;> cases m3 <;> cases r2 <;> simp
          · have e1 : (t + 2 == 4) = false := by simp; omega
            have e2 : ((t : Int) == 6) = false := by simp; omega
            have e3 : ((t : Int) == 2) = false := by simp; omega
            rw [e1, e2, e3]; simp
    · rw [if_pos (.inl h4), hoff 0 (by omega) (.inl (by simp [mcsN]; omega)), hoff 1 (by omega) (.inl (by simp [mcsN]; omega))]; simp
  · rw [e, hoff 0 (by omega) (.inr (by rw [e]; decide)), hoff 1 (by omega) (.inr (by rw [e]; decide))]
    rw [show homeR 1 = 60 by decide, show shortR 1 = 4 by decide, show farR 1 = 8 by decide]
    by_cases h4 : s = 60
    · subst h4
      rw [show stp ((60 : Nat) : Int) 2 0 = 62 by decide, show stp ((60 : Nat) : Int) (-2) 0 = 58 by decide]
      unfold cstB
      rw [show mcsN (2 * 4 + 2) = 60 by decide, show mcsN (2 * 4 + 1) = 1 by decide, show mcsN (3 * 4 + 2) = 60 by decide, show mcsN (3 * 4 + 1) = 1 by decide, e, clr_w2, clr_w3]
      by_cases hc : P 129 < 0 ∨ 15 < P 129
      · rw [if_pos (.inr hc), hcas _ hc, hcas _ hc]; simp
      · rw [if_neg (by rintro (h | h); exact h rfl; exact hc h), hhas 2 (by omega) hc, hhas 3 (by omega) hc]
        rw [show mcsN (2 * 4) = 4 by decide, show mcsN (3 * 4) = 8 by decide]
        rw [bareR_sq P (60 + 1) (by omega), bareR_sq P (60 + 2) (by omega), bareR_sq P (60 - 1) (by omega), bareR_sq P (60 - 2) (by omega), bareR_sq P (60 - 3) (by omega)]
        simp only [Nat.reduceAdd, Nat.reduceMul, Nat.reduceSub]
        generalize (P 129 / 4 % 2 == 1) = b1
        generalize (P 129 / 8 % 2 == 1) = b2
        generalize emB P 57 = m1
        generalize emB P 58 = m2
        generalize emB P 59 = m3
        generalize emB P 61 = m5
        generalize emB P 62 = m6
        generalize pe (P 126) (P 127) 4 1 = r1
        generalize pe (P 112) (P 113) 4 1 = r2
        by_cases h6 : t = 62
        · subst h6; rw [if_pos rfl]
          cases b1 <;> cases b2 <;> cases m5 <;> cases m6 <;> cases r1 <;> simp
        · rw [if_neg h6]
          by_cases h2 : t = 58
          · subst h2
            cases b1 <;> cases b2 <;> cases m1 <;> cases m2 <;> cases m3 <;> cases r2 <;> simp
          · have e1 : (t + 2 == 60) = false := by simp; omega
            have e2 : ((t : Int) == 62) = false := by simp; omega
            have e3 : ((t : Int) == 58) = false := by simp; omega
            rw [e1, e2, e3]; simp
    · rw [if_pos (.inl h4), hoff 2 (by omega) (.inl (by simp [mcsN]; omega)), hoff 3 (by omega) (.inl (by simp [mcsN]; omega))]; simp
  · rw [e] at hd; cases hd
end Go.Proofs.YtkncfeijlmomaaaGreatDoor

namespace Go.Proofs.YtkncfeijlmomaaaGreatDoor
open Go.RowKit Go.Sort
set_option linter.unusedSimpArgs false
set_option linter.unusedVariables false
set_option maxRecDepth 20000

end Go.Proofs.YtkncfeijlmomaaaGreatDoor

namespace Go.Proofs.YtkncfeijlmomaaaGreatDoor
open Go.RowKit Go.Sort
set_option linter.unusedSimpArgs false
set_option linter.unusedVariables false
set_option maxRecDepth 20000

theorem allM_iff (P : Nat → Int) (m : Int × Int × Int) : m ∈ allM P ↔ ∃ s n, MvOk P m s n := by
  refine ⟨allM_mem P m, ?_⟩
  rintro ⟨s, n, h⟩
  rw [allM_up]
  refine List.mem_flatMap.2 ⟨(s : Int), (upList_mem _ _ _).2 ⟨s, h.hs, h.o, rfl⟩, ?_⟩
  rw [Int.toNat_natCast]
  unfold putL
  refine List.mem_flatMap.2 ⟨(n : Int), (upList_mem _ _ _).2 ⟨n, h.hn, h.g, rfl⟩, ?_⟩
  obtain ⟨f, t, k⟩ := m
  have h1 : f = (s : Int) := h.f
  have h2 : t = (n : Int) := h.t
  have h3 : becB P s n k = true := h.b
  subst h1; subst h2
  unfold oneM
  rw [Int.toNat_natCast]
  unfold becB at h3
  unfold lastB
  split at h3
  · rename_i hl
    rw [if_pos hl]
    simp only [Bool.and_eq_true, decide_eq_true_eq] at h3
    rcases (show k = 2 ∨ k = 3 ∨ k = 4 ∨ k = 5 by omega) with rfl | rfl | rfl | rfl <;> simp
  · rename_i hl
    rw [if_neg hl]
    have : k = 0 := by simpa using h3
    subst this
    simp
end Go.Proofs.YtkncfeijlmomaaaGreatDoor

namespace Go.Proofs.YtkncfeijlmomaaaGreatDoor
open Go.RowKit Go.Sort
set_option linter.unusedSimpArgs false
set_option linter.unusedVariables false
set_option maxRecDepth 20000

theorem put_k (P : Nat → Int) (f t : Nat) (k tk : Int) (x : Nat) : putM P f t k tk (2 * x) = if x = t then (if k == 0 then P (2 * f) else k) else if tk ≠ -1 ∧ x = tk.toNat then 0 else if x = f then 0 else P (2 * x) := by
  unfold putM
  rw [ptN_k]
  split
  · rfl
  · by_cases h : tk = -1
    · have h2 : (tk == -1) = true := by simpa using h
      rw [h2, if_pos rfl, ptN_k, if_neg (show ¬ (tk ≠ -1 ∧ x = tk.toNat) from fun e => e.1 h)]
    · have h2 : (tk == -1) = false := by simpa using h
      rw [h2, if_neg (by decide), ptN_k, ptN_k]
      by_cases hx : x = tk.toNat
      · rw [if_pos hx, if_pos ⟨h, hx⟩]
      · have hn : ¬ (tk ≠ -1 ∧ x = tk.toNat) := fun e => hx e.2
        rw [if_neg hx, if_neg hn]
theorem put_d (P : Nat → Int) (f t : Nat) (k tk : Int) (x : Nat) : putM P f t k tk (2 * x + 1) = if x = t then P (2 * f + 1) else if tk ≠ -1 ∧ x = tk.toNat then 0 else if x = f then 0 else P (2 * x + 1) := by
  unfold putM
  rw [ptN_d]
  split
  · rfl
  · by_cases h : tk = -1
    · have h2 : (tk == -1) = true := by simpa using h
      rw [h2, if_pos rfl, ptN_d, if_neg (show ¬ (tk ≠ -1 ∧ x = tk.toNat) from fun e => e.1 h)]
    · have h2 : (tk == -1) = false := by simpa using h
      rw [h2, if_neg (by decide), ptN_d, ptN_d]
      by_cases hx : x = tk.toNat
      · rw [if_pos hx, if_pos ⟨h, hx⟩]
      · have hn : ¬ (tk ≠ -1 ∧ x = tk.toNat) := fun e => hx e.2
        rw [if_neg hx, if_neg hn]
/-- one king of a side -/
theorem cnt_one (P : Nat → Int) (d : Int) (n : Nat) : cnt P d n = 1 → ∃ a, a < n ∧ ∀ x, x < n → (pe (P (2 * x)) (P (2 * x + 1)) 6 d = true ↔ x = a) := by
  have zero : ∀ n, cnt P d n = 0 → ∀ x, x < n → pe (P (2 * x)) (P (2 * x + 1)) 6 d = false := by
    intro n
    induction n with
    | zero => intro _ x hx; omega
    | succ n ih =>
      intro h x hx
      simp only [cnt] at h
      split at h
      · omega
      · rename_i hp
        rcases Nat.lt_succ_iff_lt_or_eq.1 hx with h1 | rfl
        · exact ih (by omega) x h1
        · simpa using hp
  induction n with
  | zero => intro h; simp [cnt] at h
  | succ n ih =>
    intro h
    simp only [cnt] at h
    split at h
    · rename_i hp
      have h0 := zero n (by omega)
      refine ⟨n, by omega, fun x hx => ?_⟩
      rcases Nat.lt_succ_iff_lt_or_eq.1 hx with h1 | rfl
      · constructor
        · intro e; rw [h0 x h1] at e; cases e
        · intro e; omega
      · exact ⟨fun _ => rfl, fun _ => hp⟩
    · rename_i hp
      obtain ⟨a, ha, h1⟩ := ih (by omega)
      refine ⟨a, by omega, fun x hx => ?_⟩
      rcases Nat.lt_succ_iff_lt_or_eq.1 hx with h2 | rfl
      · exact h1 x h2
      · constructor
        · intro e; exact absurd e hp
        · intro e; omega
theorem one_cnt (P : Nat → Int) (d : Int) (a : Nat) (n : Nat) (h : ∀ x, x < n → (pe (P (2 * x)) (P (2 * x + 1)) 6 d = true ↔ x = a)) : cnt P d n = if a < n then 1 else 0 := by
  induction n with
  | zero => rfl
  | succ n ih =>
    simp only [cnt]
    rw [ih fun x hx => h x (by omega)]
    have hn := h n (by omega)
    by_cases e : n = a
    · subst e
      rw [if_pos (hn.2 rfl), if_neg (by omega), if_pos (by omega)]
    · have h2 : ¬ pe (P (2 * n)) (P (2 * n + 1)) 6 d = true := fun e2 => e (hn.1 e2)
      rw [if_neg h2]
      by_cases h3 : a < n
      · rw [if_pos h3, if_pos (by omega)]
      · rw [if_neg h3, if_neg (by omega)]
/-- the castlings that are left -/
theorem andNot_bits : ∀ c : Fin 16, ∀ a : Fin 16, ∀ b : Fin 16, (0 ≤ bits .andNot .i64 (c.val : Int) (bits .or .i64 (a.val : Int) (b.val : Int)) ∧ bits .andNot .i64 (c.val : Int) (bits .or .i64 (a.val : Int) (b.val : Int)) ≤ 15) ∧
    ∀ j : Fin 4, (bits .andNot .i64 (c.val : Int) (bits .or .i64 (a.val : Int) (b.val : Int)) / 2 ^ j.val % 2 = 0 ∨ ((c.val : Int) / 2 ^ j.val % 2 = 1 ∧ (a.val : Int) / 2 ^ j.val % 2 = 0 ∧ (b.val : Int) / 2 ^ j.val % 2 = 0)) := by decide +kernel
def homeK (j : Nat) : Nat := [4, 4, 60, 60].getD j 0
def homeC (j : Nat) : Nat := [7, 0, 63, 56].getD j 0
def homeD (j : Nat) : Int := [0, 0, 1, 1].getD j 0
theorem lost_homes : ∀ s : Fin 64, ∀ j : Fin 4, lostN (s.val : Int) / 2 ^ j.val % 2 = 0 → s.val ≠ homeK j.val ∧ s.val ≠ homeC j.val := by decide +kernel
theorem castB_iff (P : Nat → Int) (hc : casB (P 129) = true) : castB P = true ↔ ∀ j : Fin 4, P 129 / 2 ^ j.val % 2 = 0 ∨ homeB P (homeD j.val) (homeK j.val) (homeC j.val) = true := by
  have h15 : 0 ≤ P 129 ∧ P 129 ≤ 15 := by unfold casB at hc; simpa using hc
  have h8 : (P 129 / 8 = 0) ↔ (P 129 / 8 % 2 = 0) := by omega
  unfold castB
  rw [hc]
  simp only [Bool.true_and, Bool.and_eq_true, Bool.or_eq_true, beq_iff_eq]
  constructor
  · rintro ⟨⟨⟨a0, a1⟩, a2⟩, a3⟩ ⟨j, hj⟩
    rcases (show j = 0 ∨ j = 1 ∨ j = 2 ∨ j = 3 by omega) with rfl | rfl | rfl | rfl
    · exact a0.imp (fun h => by simpa using h) id
    · exact a1
    · exact a2
    · rw [h8] at a3; exact a3
  · intro h
    have a0 := h 0
    have a1 := h 1
    have a2 := h 2
    have a3 := h 3
    rw [h8]
    exact ⟨⟨⟨a0.imp (fun h => by simpa using h) id, a1⟩, a2⟩, a3⟩
/-- how a pawn goes -/
theorem goB_pawn_how (P : Nat → Int) (s n : Nat) (hs : s < 64) (hn : n < 64) (hk : P (2 * s) = 1) (ho : P (2 * s + 1) = P 128) (hd : sideB (P 128) = true) (hg : goB P s n = true) :
    ((n / 8 : Nat) : Int) = ((s / 8 : Nat) : Int) + onN P ∨ ((n : Int) = s + 16 * onN P ∧ rkN P s = 1 ∧ bareR P (s + 8 * onN P) = true ∧ emB P n = true) := by
  rw [← goB_pawn P s n hs hn hk ho hd] at hg
  have hon : onR P s = 8 * onN P := by unfold onR onN; rw [ho]; split <;> rfl
  have h1 := onN_or P
  unfold pawnR at hg
  rw [hon] at hg
  split at hg
  · left; omega
  · split at hg
    · rename_i h2
      right
      rw [Bool.and_eq_true, bareR_sq P n hn] at hg
      refine ⟨by omega, ?_, hg.1, hg.2⟩
      have h3 := h2.2
      unfold firstR at h3
      unfold rkN
      rw [ho] at h3
      rcases side_cases (P 128) with ⟨e, _⟩ | ⟨e, _⟩ | ⟨_, _, e⟩
      · rw [e] at h3 ⊢; simp at h3 ⊢; omega
      · rw [e] at h3 ⊢; simp at h3 ⊢; omega
      · rw [e] at hd; cases hd
    · left
      simp only [Bool.and_eq_true] at hg
      have ha := hg.1
      unfold attR attK kindB at ha
      rw [if_pos hk, ho] at ha
      simp only [Bool.and_eq_true, beq_iff_eq] at ha
      have h2 := ha.2.2
      unfold rD at h2
      simp only [Bool.or_eq_true, Bool.and_eq_true, beq_iff_eq] at h2
      unfold onN
      rcases h2 with ⟨e, h2⟩ | ⟨e, h2⟩
      · rw [e]; simp; omega
      · rw [e]; simp; omega
/-- what a move of a right position leaves on the squares -/
structure Nx (P Q : Nat → Int) (s n : Nat) (d k' : Int) : Prop where
  at_n : Q (2 * n) = k' ∧ Q (2 * n + 1) = d
  at_s : Q (2 * s) = 0 ∧ Q (2 * s + 1) = 0
  rest : ∀ x, x < 64 → x ≠ n → x ≠ s → (Q (2 * x) = P (2 * x) ∧ Q (2 * x + 1) = P (2 * x + 1)) ∨
    (((Q (2 * x) = 0 ∧ Q (2 * x + 1) = 0) ∨ (Q (2 * x) = 4 ∧ Q (2 * x + 1) = d ∧ P (2 * s) = 6)) ∧ (P (2 * x) = 1 ∨ P (2 * x) = 0 ∨ (P (2 * x) = 4 ∧ ∃ j : Fin 4, x = homeC j.val ∧ s = homeK j.val)))
theorem right_parts9 (P : Nat → Int) (h : rightB P = true) : okS P 64 = true ∧ cnt P 0 64 = 1 ∧ cnt P 1 64 = 1 ∧ castB P = true ∧ overB P = true ∧ (0 ≤ P 131 ∧ P 131 ≤ 1024) ∧ (1 ≤ P 132 ∧ P 132 ≤ 16384) := by
  unfold rightB piecesB at h
  simp only [Bool.and_eq_true, beq_iff_eq, decide_eq_true_eq] at h
  exact ⟨h.1.1.1.1.1.1.1.1.1, h.1.1.1.1.1.1.1.1.2, h.1.1.1.1.1.1.1.2, h.1.1.1.1.1.2, h.1.1.1.1.2, ⟨h.1.1.1.2, h.1.1.2⟩, h.1.2, h.2⟩
/-- the thing that a move takes, where it isn't on To, is a pawn -/
theorem tks_pawn (P : Nat → Int) (hr : rightB P = true) (s n : Nat) (hs : s < 64) (hn : n < 64) (ho : ownB P s = true) (hg : goB P s n = true) (a : Nat) (ha : tksN P s n = (a : Int)) (hne : a ≠ n) : P (2 * a) = 1 ∧ a ≠ s := by
  obtain ⟨p1, p2⟩ := own_parts P s ho
  unfold tksN at ha
  split at ha
  · omega
  · rename_i hem
    have ha2 : atN P s n = a := by omega
    unfold atN at ha2 hem
    split at ha2
    · rename_i hov
      rw [if_pos hov] at hem
      unfold ovrB pwnB smF at hov
      simp only [Bool.and_eq_true, beq_iff_eq, Bool.not_eq_true', beq_eq_false_iff_ne] at hov
      obtain ⟨⟨⟨hk, hf⟩, h130⟩, _⟩ := hov
      have hover := (right_parts9 P hr).2.2.2.2.1
      unfold overB at hover
      rw [← h130] at hover
      have hnn : ((n : Int) == -1) = false := by first | (simp; done) | (simp; omega)
      rw [hnn, Bool.false_or] at hover
      simp only [Bool.and_eq_true, Int.toNat_natCast] at hover
      have h2 := hover.2
      rcases goB_pawn_how P s n hs hn hk p2 p1 hg with h | ⟨h, _, _, _⟩
      · unfold onN at h
        unfold overC at h2
        by_cases e : P 128 = 1
        · rw [e] at h2 h
          simp only [beq_self_eq_true, if_true, Bool.and_eq_true, beq_iff_eq] at h2 h
          have h3 := ((pe_iff _ _ _ _).1 h2.2).1
          have : a = n + 8 := by omega
          rw [this]
          exact ⟨h3, by omega⟩
        · have e2 : (P 128 == 1) = false := by simpa using e
          rw [e2] at h2
          rw [if_neg e] at h
          simp only [Bool.false_eq_true, if_false, Bool.and_eq_true, beq_iff_eq] at h2
          have h3 := ((pe_iff _ _ _ _).1 h2.2).1
          have : a = n - 8 := by omega
          rw [this]
          exact ⟨h3, by omega⟩
      · exfalso
        have := onN_or P
        rcases this with e | e
        · rw [e] at h; omega
        · rw [e] at h; omega
    · exact absurd ha2.symm hne
/-- what a castling is -/
theorem cas_facts (P : Nat → Int) (hr : rightB P = true) (s n j : Nat) (hs : s < 64) (hn : n < 64) (ho : ownB P s = true) (hg : goB P s n = true) (hj : csI P s n 4 = some j) :
    j < 4 ∧ s = homeK j ∧ P (2 * s) = 6 ∧ P 128 = homeD j ∧ P (2 * homeC j) = 4 ∧ P (2 * homeC j + 1) = P 128 ∧ P (2 * ((s + n) / 2)) = 0 ∧ tksN P s n = -1 ∧ (kasN (j * 5 + 1)) = homeD j ∧ (kasN (j * 5 + 4)).toNat = homeC j ∧ (s + n) / 2 < 64 ∧ homeC j ≠ s ∧ homeC j ≠ n ∧ (s + n) / 2 ≠ s ∧ (s + n) / 2 ≠ n := by
  obtain ⟨hj4, e1, e2⟩ := csI_sq P s n j hj
  have hx : csX P s n j = true := by
    rw [csI4] at hj
    split at hj
    · rename_i h; cases hj; exact h
    · split at hj
      · rename_i h; cases hj; exact h
      · split at hj
        · rename_i h; cases hj; exact h
        · split at hj
          · rename_i h; cases hj; exact h
          · cases hj
  obtain ⟨p1, p2⟩ := own_parts P s ho
  have hcb := (right_parts9 P hr).2.2.2.1
  have hca := right_cas P hr
  have h15 : 0 ≤ P 129 ∧ P 129 ≤ 15 := by unfold casB at hca; simpa using hca
  have hom := (castB_iff P hca).1 hcb ⟨j, hj4⟩
  unfold csX at hx
  simp only [Bool.and_eq_true] at hx
  have hpe := (pe_iff _ _ _ _).1 hx.2
  have hbit := hx.1.1.1
  have hcas : castleR P s n = true := by
    rw [castle_is P s n hs hn p2 p1]
    unfold goB at hg
    rw [if_neg (by omega)] at hg
    simp only [Bool.or_eq_true, Bool.and_eq_true] at hg
    rcases hg with h | h
    · exfalso
      have := attR_king P s n hpe.1 h.1
      unfold fD at this
      rcases (show j = 0 ∨ j = 1 ∨ j = 2 ∨ j = 3 by omega) with rfl | rfl | rfl | rfl <;> simp [kasN] at e1 e2 <;> omega
    · exact h.2
  have hbits : ∀ c : Fin 16, ∀ j : Fin 4, (bits .and .i64 (c.val : Int) (kasN (j.val * 5)) != 0) = true → (c.val : Int) / 2 ^ j.val % 2 = 1 := by decide +kernel
  obtain ⟨c, hc⟩ := Int.eq_ofNat_of_zero_le h15.1
  have hb1 := hbits ⟨c, by omega⟩ ⟨j, hj4⟩ (by rw [hc] at hbit; exact hbit)
  have hhome : homeB P (homeD j) (homeK j) (homeC j) = true := by
    rcases hom with h | h
    · exfalso
      rw [hc] at h
      simp only at hb1 h
      omega
    · exact h
  unfold homeB at hhome
  simp only [Bool.and_eq_true] at hhome
  have hrk := (pe_iff _ _ _ _).1 hhome.2
  have htk : emB P n = true → tksN P s n = -1 := fun h => by
    have hov : ovrB P s n = false := by unfold ovrB pwnB; rw [hpe.1]; rfl
    unfold tksN atN
    rw [hov]
    simp [h]
  have hem0 : ∀ x : Nat, x < 64 → bareR P (x : Int) = true → P (2 * x) = 0 := fun x hx h => by
    rw [bareR_sq P x hx] at h
    unfold emB at h
    exact ((pe_iff _ _ _ _).1 h).1
  have hd : P 128 = homeD j := by
    rw [← p2, hpe.2]
    rcases (show j = 0 ∨ j = 1 ∨ j = 2 ∨ j = 3 by omega) with rfl | rfl | rfl | rfl <;> rfl
  unfold castleR at hcas
  split at hcas
  · cases hcas
  · split at hcas
    · rename_i hn2
      simp only [Bool.and_eq_true] at hcas
      have hm := hem0 (s + 1) (by omega) hcas.1.2
      have hn0 : emB P n = true := by rw [← bareR_sq P n hn, hn2]; exact hcas.2
      have hmid : (s + n) / 2 = s + 1 := by omega
      rw [hmid]
      refine ⟨hj4, ?_, hpe.1, hd, hrk.1, by rw [hrk.2, hd], hm, htk hn0, ?_, ?_, by omega, ?_, ?_, by omega, by omega⟩
      all_goals (rcases (show j = 0 ∨ j = 1 ∨ j = 2 ∨ j = 3 by omega) with rfl | rfl | rfl | rfl <;> simp [kasN, homeK, homeC, homeD] at e1 e2 ⊢ <;> omega)
    · rename_i hn2
      simp only [Bool.and_eq_true, beq_iff_eq] at hcas
      have hm := hem0 (s - 1) (by omega) hcas.1.1.2
      have hn0 : emB P n = true := by rw [← bareR_sq P n hn, show n = s - 2 by omega]; exact hcas.1.2
      have hmid : (s + n) / 2 = s - 1 := by omega
      rw [hmid]
      refine ⟨hj4, ?_, hpe.1, hd, hrk.1, by rw [hrk.2, hd], hm, htk hn0, ?_, ?_, by omega, ?_, ?_, by omega, by omega⟩
      all_goals (rcases (show j = 0 ∨ j = 1 ∨ j = 2 ∨ j = 3 by omega) with rfl | rfl | rfl | rfl <;> simp [kasN, homeK, homeC, homeD] at e1 e2 ⊢ <;> omega)
theorem cm_k (P : Nat → Int) (s n : Nat) (k : Int) (x : Nat) (hx : x < 64) : cmN P s n k (2 * x) = pcsN P s n k (2 * x) := by unfold cmN; exact lst_off _ _ _ _ _ (by omega) (by omega) (by omega)
theorem cm_d (P : Nat → Int) (s n : Nat) (k : Int) (x : Nat) (hx : x < 64) : cmN P s n k (2 * x + 1) = pcsN P s n k (2 * x + 1) := by unfold cmN; exact lst_off _ _ _ _ _ (by omega) (by omega) (by omega)
/-- the squares behind a move -/
theorem next_squares (P : Nat → Int) (hr : rightB P = true) (s n : Nat) (k : Int) (hs : s < 64) (hn : n < 64) (ho : ownB P s = true) (hg : goB P s n = true) :
    Nx P (cmN P s n k) s n (P 128) (if k == 0 then P (2 * s) else k) := by
  obtain ⟨p1, p2⟩ := own_parts P s ho
  have hsn := goB_ne P s n hg
  have htk := tks_cases P s n hs hn
  have hcz : ∀ z x, x < 128 → cntN P z x = P x := fun z x hx => cnt_off _ _ _ (by omega) (by omega)
  have hM : ∀ z x, x < 64 → putM (cntN P z) s n k (tksN P s n) (2 * x) = (if x = n then (if k == 0 then P (2 * s) else k) else if tksN P s n ≠ -1 ∧ x = (tksN P s n).toNat then 0 else if x = s then 0 else P (2 * x)) := fun z x hx => by
    rw [put_k, hcz z _ (by omega), hcz z _ (by omega)]
  have hMd : ∀ z x, x < 64 → putM (cntN P z) s n k (tksN P s n) (2 * x + 1) = (if x = n then P 128 else if tksN P s n ≠ -1 ∧ x = (tksN P s n).toNat then 0 else if x = s then 0 else P (2 * x + 1)) := fun z x hx => by
    rw [put_d, hcz z _ (by omega), hcz z _ (by omega), p2]
  cases hj : csI P s n 4 with
  | none =>
    have hq : ∀ i, pcsN P s n k i = putM (cntN P (pwnB P s || (tksN P s n != -1))) s n k (tksN P s n) i := fun i => by unfold pcsN; rw [hj]; rfl
    refine ⟨⟨?_, ?_⟩, ⟨?_, ?_⟩, fun x hx hxn hxs => ?_⟩
    · rw [cm_k _ _ _ _ _ hn, hq, hM _ _ hn, if_pos rfl]
    · rw [cm_d _ _ _ _ _ hn, hq, hMd _ _ hn, if_pos rfl]
    · rw [cm_k _ _ _ _ _ hs, hq, hM _ _ hs, if_neg hsn]
      split
      · rfl
      · rw [if_pos rfl]
    · rw [cm_d _ _ _ _ _ hs, hq, hMd _ _ hs, if_neg hsn]
      split
      · rfl
      · rw [if_pos rfl]
    · rw [cm_k _ _ _ _ _ hx, cm_d _ _ _ _ _ hx, hq, hq, hM _ _ hx, hMd _ _ hx, if_neg hxn, if_neg hxn]
      by_cases ht : tksN P s n ≠ -1 ∧ x = (tksN P s n).toNat
      · rw [if_pos ht, if_pos ht]
        right
        refine ⟨.inl ⟨rfl, rfl⟩, .inl ?_⟩
        rcases htk with e | ⟨a, e, ha⟩
        · exact absurd e ht.1
        · have hxa : x = a := by have := ht.2; rw [e] at this; simpa using this
          rw [hxa]
          exact (tks_pawn P hr s n hs hn ho hg a e (by rw [← hxa]; exact hxn)).1
      · rw [if_neg ht, if_neg ht, if_neg hxs, if_neg hxs]
        exact .inl ⟨rfl, rfl⟩
  | some j =>
    obtain ⟨hj4, h1, h2, h3, h4, h5, h6, h7, h8, h9, h10, h11, h12, h13, h14⟩ := cas_facts P hr s n j hs hn ho hg hj
    have hq : ∀ i, pcsN P s n k i = ptN (ptN (putM (cntN P (pwnB P s || (tksN P s n != -1))) s n k (tksN P s n)) (homeC j) 0 0) ((s + n) / 2) 4 (homeD j) i := fun i => by
      unfold pcsN
      rw [hj]
      show ptN (ptN (putM (cntN P (pwnB P s || (tksN P s n != -1))) s n k (tksN P s n)) (kasN (j * 5 + 4)).toNat 0 0) ((s + n) / 2) 4 (kasN (j * 5 + 1)) i = _
      rw [h8, h9]
    have hnt : ∀ x, ¬ (tksN P s n ≠ -1 ∧ x = (tksN P s n).toNat) := fun x e => e.1 h7
    refine ⟨⟨?_, ?_⟩, ⟨?_, ?_⟩, fun x hx hxn hxs => ?_⟩
    · rw [cm_k _ _ _ _ _ hn, hq, ptN_k, if_neg (Ne.symm h14), ptN_k, if_neg (Ne.symm h12), hM _ _ hn, if_pos rfl]
    · rw [cm_d _ _ _ _ _ hn, hq, ptN_d, if_neg (Ne.symm h14), ptN_d, if_neg (Ne.symm h12), hMd _ _ hn, if_pos rfl]
    · rw [cm_k _ _ _ _ _ hs, hq, ptN_k, if_neg (Ne.symm h13), ptN_k, if_neg (Ne.symm h11), hM _ _ hs, if_neg hsn, if_neg (hnt s), if_pos rfl]
    · rw [cm_d _ _ _ _ _ hs, hq, ptN_d, if_neg (Ne.symm h13), ptN_d, if_neg (Ne.symm h11), hMd _ _ hs, if_neg hsn, if_neg (hnt s), if_pos rfl]
    · rw [cm_k _ _ _ _ _ hx, cm_d _ _ _ _ _ hx, hq, hq, ptN_k, ptN_d, ptN_k, ptN_d, hM _ _ hx, hMd _ _ hx, if_neg hxn, if_neg hxn, if_neg (hnt x), if_neg (hnt x), if_neg hxs, if_neg hxs]
      by_cases hm : x = (s + n) / 2
      · rw [if_pos hm, if_pos hm]
        right
        exact ⟨.inr ⟨rfl, h3.symm, h2⟩, .inr (.inl (by rw [hm]; exact h6))⟩
      · rw [if_neg hm, if_neg hm]
        by_cases hc : x = homeC j
        · rw [if_pos hc, if_pos hc]
          right
          exact ⟨.inl ⟨rfl, rfl⟩, .inr (.inr ⟨by rw [hc]; exact h4, ⟨j, hj4⟩, hc, h1⟩)⟩
        · rw [if_neg hc, if_neg hc]
          exact .inl ⟨rfl, rfl⟩
/-- BEHIND A MOVE OF A RIGHT POSITION, THAT TAKES NO KING, THE POSITION IS RIGHT -/
theorem right_next (P : Nat → Int) (hr : rightB P = true) (s n : Nat) (k : Int) (hs : s < 64) (hn : n < 64) (ho : ownB P s = true) (hg : goB P s n = true) (hb : becB P s n k = true) (hkg : ¬ (P (2 * n) = 6 ∧ P (2 * n + 1) = oth (P 128))) : rightB (mvP P s n k) = true := by
  obtain ⟨p1, p2⟩ := own_parts P s ho
  have hd := right_side P hr
  have hsn := goB_ne P s n hg
  have hfit := right_fit P hr
  have hca := right_cas P hr
  obtain ⟨r1, r2, r3, r4, r5, r6, r7⟩ := right_parts9 P hr
  have hf := mv_ok P ((s : Int), (n : Int), k) s n ⟨rfl, rfl, hs, hn, ho, hg, hb⟩
  have hmv : mvP P s n k = cmN P s n k := by
    unfold mvP
    rw [if_pos hf, right_hand P hr, Int.toNat_natCast, Int.toNat_natCast]
  rw [hmv]
  have N := next_squares P hr s n k hs hn ho hg
  obtain ⟨k', hk'⟩ : ∃ x, (if k == 0 then P (2 * s) else k) = x := ⟨_, rfl⟩
  rw [hk'] at N
  obtain ⟨Q, hQ⟩ : ∃ Q, cmN P s n k = Q := ⟨_, rfl⟩
  have q128 : Q 128 = oth (P 128) := by rw [← hQ]; unfold cmN; rw [lst_side, pcs_end _ _ _ _ hs hn _ (by omega), cnt_off _ _ _ (by omega) (by omega)]
  have q129 : Q 129 = casM (P 129) s n := by rw [← hQ]; unfold cmN; rw [lst_cas, pcs_end _ _ _ _ hs hn _ (by omega), cnt_off _ _ _ (by omega) (by omega)]
  have q130 : Q 130 = ovrN P s n := by rw [← hQ]; unfold cmN; rw [lst_over]
  have q131 : Q 131 = cntN P (pwnB P s || (tksN P s n != -1)) 131 := by rw [← hQ]; unfold cmN; rw [lst_off _ _ _ _ _ (by omega) (by omega) (by omega), pcs_end _ _ _ _ hs hn _ (by omega)]
  have q132 : Q 132 = cntN P (pwnB P s || (tksN P s n != -1)) 132 := by rw [← hQ]; unfold cmN; rw [lst_off _ _ _ _ _ (by omega) (by omega) (by omega), pcs_end _ _ _ _ hs hn _ (by omega)]
  rw [hQ] at N ⊢
  clear hQ hmv
  have hown : (1 ≤ P (2 * s) ∧ P (2 * s) ≤ 6) := by
    unfold ownB at ho
    simp only [Bool.and_eq_true, decide_eq_true_eq] at ho
    exact ⟨ho.1.2, ho.2⟩
  have hkk : (k' = P (2 * s) ∧ k = 0 ∧ ¬ (P (2 * s) = 1 ∧ rkN P n = 7)) ∨ (2 ≤ k' ∧ k' ≤ 5 ∧ P (2 * s) = 1) := by
    unfold becB at hb
    by_cases hp : (pwnB P s && (rkN P n == 7)) = true
    · rw [if_pos hp] at hb
      simp only [Bool.and_eq_true, decide_eq_true_eq] at hb
      right
      have h0 : (k == 0) = false := by simp; omega
      rw [h0] at hk'
      simp only [Bool.false_eq_true, if_false] at hk'
      unfold pwnB at hp
      simp only [Bool.and_eq_true, beq_iff_eq] at hp
      exact ⟨by omega, by omega, hp.1⟩
    · rw [if_neg hp] at hb
      left
      have h0 : k = 0 := by simpa using hb
      rw [h0] at hk'
      simp only [beq_self_eq_true, if_true] at hk'
      refine ⟨hk'.symm, h0, fun e => hp ?_⟩
      unfold pwnB
      simp [e.1, e.2]
  have hside : sideB (P 128) = true := p1
  -- kings elsewhere
  have hpe6 : ∀ x, x < 64 → x ≠ n → x ≠ s → ∀ e, pe (Q (2 * x)) (Q (2 * x + 1)) 6 e = pe (P (2 * x)) (P (2 * x + 1)) 6 e := fun x hx h1 h2 e => by
    rcases N.rest x hx h1 h2 with ⟨a, b⟩ | ⟨a, b⟩
    · rw [a, b]
    · have hP : pe (P (2 * x)) (P (2 * x + 1)) 6 e = false := by
        rw [Bool.eq_false_iff]
        intro h
        have := ((pe_iff _ _ _ _).1 h).1
        rcases b with b | b | ⟨b, _⟩ <;> omega
      have hQ : pe (Q (2 * x)) (Q (2 * x + 1)) 6 e = false := by
        rw [Bool.eq_false_iff]
        intro h
        have := ((pe_iff _ _ _ _).1 h).1
        rcases a with ⟨a, _⟩ | ⟨a, _⟩ <;> omega
      rw [hP, hQ]
  have hpes : ∀ e, pe (Q (2 * s)) (Q (2 * s + 1)) 6 e = false := fun e => by
    rw [N.at_s.1]; rw [Bool.eq_false_iff]; intro h; have := ((pe_iff _ _ _ _).1 h).1; omega
  have hone : ∀ e, (e = 0 ∨ e = 1) → cnt P e 64 = 1 := fun e he => by rcases he with rfl | rfl; exact r2; exact r3
  have hoo := oth_side hd
  have kOth : cnt Q (oth (P 128)) 64 = 1 := by
    obtain ⟨a, ha, hu⟩ := cnt_one P (oth (P 128)) 64 (hone _ hoo.1)
    have ha2 := (pe_iff _ _ _ _).1 ((hu a ha).2 rfl)
    have han : a ≠ n := fun e => hkg (by rw [← e]; exact ha2)
    have has : a ≠ s := fun e => by rw [e, p2] at ha2; exact hoo.2.2 ha2.2.symm
    have := one_cnt Q (oth (P 128)) a 64 fun x hx => by
      by_cases h1 : x = n
      · subst h1
        rw [N.at_n.1, N.at_n.2]
        constructor
        · intro h; exact absurd ((pe_iff _ _ _ _).1 h).2 (Ne.symm hoo.2.2)
        · intro h; exact absurd h.symm han
      · by_cases h2 : x = s
        · subst h2
          rw [hpes]
          constructor
          · intro h; cases h
          · intro h; exact absurd h.symm has
        · rw [hpe6 x hx h1 h2]; exact hu x hx
    rw [this, if_pos ha]
  have kOwn : cnt Q (P 128) 64 = 1 := by
    obtain ⟨a, ha, hu⟩ := cnt_one P (P 128) 64 (hone _ hd)
    have ha2 := (pe_iff _ _ _ _).1 ((hu a ha).2 rfl)
    by_cases hk6 : P (2 * s) = 6
    · have has : a = s := ((hu s hs).1 ((pe_iff _ _ _ _).2 ⟨hk6, p2⟩)).symm
      have hk66 : k' = 6 := by rcases hkk with h | h <;> omega
      have := one_cnt Q (P 128) n 64 fun x hx => by
        by_cases h1 : x = n
        · subst h1
          rw [N.at_n.1, N.at_n.2]
          exact ⟨fun _ => rfl, fun _ => (pe_iff _ _ _ _).2 ⟨hk66, rfl⟩⟩
        · by_cases h2 : x = s
          · subst h2
            rw [hpes]
            constructor
            · intro h; cases h
            · intro h; exact absurd h h1
          · rw [hpe6 x hx h1 h2]
            constructor
            · intro h; exact absurd ((hu x hx).1 h) (by rw [has]; exact h2)
            · intro h; exact absurd h h1
      rw [this, if_pos hn]
    · have hk66 : k' ≠ 6 := by rcases hkk with h | h <;> omega
      have has : a ≠ s := fun e => hk6 (by rw [← e]; exact ha2.1)
      have han : a ≠ n := fun e => by
        have hem : emB P n = false := by
          unfold emB
          rw [Bool.eq_false_iff]
          intro h
          have := ((pe_iff _ _ _ _).1 h).1
          rw [← e, ha2.1] at this
          omega
        have := (goB_hit P s n p1 hg hem).2
        rw [← e] at this
        exact this ha2.2
      have := one_cnt Q (P 128) a 64 fun x hx => by
        by_cases h1 : x = n
        · subst h1
          rw [N.at_n.1, N.at_n.2]
          constructor
          · intro h; exact absurd ((pe_iff _ _ _ _).1 h).1 hk66
          · intro h; exact absurd h.symm han
        · by_cases h2 : x = s
          · subst h2
            rw [hpes]
            constructor
            · intro h; cases h
            · intro h; exact absurd h.symm has
          · rw [hpe6 x hx h1 h2]; exact hu x hx
      rw [this, if_pos ha]
  have k0 : cnt Q 0 64 = 1 := by
    rcases hd with e | e
    · rw [e] at kOwn; exact kOwn
    · rw [e] at kOth; exact kOth
  have k1 : cnt Q 1 64 = 1 := by
    rcases hd with e | e
    · rw [e] at kOth; exact kOth
    · rw [e] at kOwn; exact kOwn
  -- each square
  have hpw : k' = 1 → 8 ≤ n ∧ n < 56 := fun h1 => by
    have hp1 : P (2 * s) = 1 := by rcases hkk with h | h <;> omega
    have hr7 : ¬ rkN P n = 7 := by rcases hkk with h | h; exact fun e => h.2.2 ⟨hp1, e⟩; omega
    have hbs := (okS_iff P 64).1 r1 s hs
    unfold badP at hbs
    rw [hp1, p2] at hbs
    have hmay : mayB 1 (P 128) = true := by unfold mayB; rw [hside]; rfl
    have hpe0 : pe 1 (P 128) 0 0 = false := rfl
    rw [hmay, hpe0] at hbs
    simp at hbs
    have how := goB_pawn_how P s n hs hn hp1 p2 p1 hg
    unfold rkN at hr7
    unfold onN at how
    rcases hd with e | e
    · rw [e] at hr7 how
      simp at hr7 how
      omega
    · rw [e] at hr7 how
      simp at hr7 how
      omega
  have okQ : okS Q 64 = true := (okS_iff Q 64).2 fun x hx => by
    by_cases h1 : x = n
    · subst h1
      unfold badP
      rw [N.at_n.1, N.at_n.2]
      have hm : mayB k' (P 128) = true := by
        unfold mayB
        rw [hside]
        have : 1 ≤ k' ∧ k' ≤ 6 := by rcases hkk with h | h <;> omega
        simp [this.1, this.2]
      rw [hm]
      by_cases h1 : k' = 1
      · have := hpw h1
        have a1 : decide (x < 8) = false := by simp; omega
        have a2 : decide (56 ≤ x) = false := by simp; omega
        rw [a1, a2]; simp
      · have : (k' == 1) = false := by simpa using h1
        rw [this]; simp
    · by_cases h2 : x = s
      · subst h2
        unfold badP
        rw [N.at_s.1, N.at_s.2]; rfl
      · rcases N.rest x hx h1 h2 with ⟨a, b⟩ | ⟨a | a, b⟩
        · unfold badP
          rw [a, b]
          exact (okS_iff P 64).1 r1 x hx
        · unfold badP
          rw [a.1, a.2]; rfl
        · unfold badP
          rw [a.1, a.2.1]
          have hm : mayB 4 (P 128) = true := by unfold mayB; rw [hside]; rfl
          rw [hm]; simp
  -- castlings
  have h15 : 0 ≤ P 129 ∧ P 129 ≤ 15 := by unfold casB at hca; simpa using hca
  obtain ⟨c, hc⟩ := Int.eq_ofNat_of_zero_le h15.1
  obtain ⟨la, hla⟩ := lostN_cas ⟨s, hs⟩
  obtain ⟨lb, hlb⟩ := lostN_cas ⟨n, hn⟩
  have hbits := andNot_bits ⟨c, by omega⟩ la lb
  have q129' : Q 129 = bits .andNot .i64 ((⟨c, by omega⟩ : Fin 16).val : Int) (bits .or .i64 (la.val : Int) (lb.val : Int)) := by
    rw [q129]; unfold casM; rw [hc]; simp only at hla hlb; rw [hla, hlb]
  have casQ : casB (Q 129) = true := by
    unfold casB
    rw [q129']
    simp only [Bool.and_eq_true, decide_eq_true_eq]
    exact hbits.1
  have castQ : castB Q = true := (castB_iff Q casQ).2 fun j => by
    rcases hbits.2 j with h | ⟨h1, h2, h3⟩
    · left; rw [q129']; exact h
    · right
      have l1 := lost_homes ⟨s, hs⟩ j (by simp only at hla ⊢; rw [hla]; exact h2)
      have l2 := lost_homes ⟨n, hn⟩ j (by simp only at hlb ⊢; rw [hlb]; exact h3)
      have hh : homeB P (homeD j.val) (homeK j.val) (homeC j.val) = true := by
        rcases (castB_iff P hca).1 r4 j with h | h
        · exfalso; rw [hc] at h; simp only at h1; omega
        · exact h
      unfold homeB at hh ⊢
      simp only [Bool.and_eq_true] at hh ⊢
      have e1 := (pe_iff _ _ _ _).1 hh.1
      have e2 := (pe_iff _ _ _ _).1 hh.2
      have hK : homeK j.val < 64 := (by decide : ∀ j : Fin 4, homeK j.val < 64) j
      have hC : homeC j.val < 64 := (by decide : ∀ j : Fin 4, homeC j.val < 64) j
      have inj : ∀ j i : Fin 4, homeC j.val = homeC i.val → homeK j.val = homeK i.val := by decide
      refine ⟨?_, ?_⟩
      · rcases N.rest _ hK (Ne.symm l2.1) (Ne.symm l1.1) with ⟨a, b⟩ | ⟨_, b⟩
        · rw [a, b]; exact hh.1
        · exfalso
          rcases b with b | b | ⟨b, _⟩ <;> omega
      · rcases N.rest _ hC (Ne.symm l2.2) (Ne.symm l1.2) with ⟨a, b⟩ | ⟨_, b⟩
        · rw [a, b]; exact hh.2
        · exfalso
          rcases b with b | b | ⟨_, i, hi, hsi⟩
          · omega
          · omega
          · exact l1.1 (by simp only; rw [hsi]; exact (inj j i hi).symm)
  -- the square gone over
  have overQ : overB Q = true := by
    unfold overB
    rw [q130]
    unfold ovrN
    cases hl : lngB P s n
    · simp
    · rw [if_pos rfl]
      unfold lngB pwnB smF at hl
      simp only [Bool.and_eq_true, beq_iff_eq] at hl
      obtain ⟨⟨⟨l1, l2⟩, l3⟩, l4⟩ := hl
      have hz : Q 131 = 0 := by
        rw [q131, cnt_half]
        unfold pwnB
        rw [l1]; simp
      have hk1 : k' = 1 := by
        rcases hkk with h | ⟨h1, h2, _⟩
        · omega
        · exfalso
          unfold becB pwnB at hb
          rw [l1, l4] at hb
          simp at hb
          rw [hb] at hk'
          simp at hk'
          omega
      have how := goB_pawn_how P s n hs hn l1 p2 p1 hg
      unfold rkN at l3 l4
      unfold onN at how
      rw [hz, q128]
      rcases hd with e | e
      · rw [e] at l3 l4 how ⊢
        simp only [if_true, show ¬ ((0 : Int) = 1) by omega, if_false] at l3 l4 how
        have hs8 : s / 8 = 1 := by omega
        have hn8 : n / 8 = 3 := by omega
        rcases how with how | ⟨how, _, hbr, hem⟩
        · omega
        · have ho2 : (s + n) / 2 = s + 8 := by omega
          have hmid : emB P (s + 8) = true := by
            have := hbr
            rw [show (s : Int) + 8 * 1 = ((s + 8 : Nat) : Int) by omega, bareR_sq P (s + 8) (by omega)] at this
            exact this
          have hmz := (pe_iff _ _ _ _).1 (show pe (P (2 * (s + 8))) (P (2 * (s + 8) + 1)) 0 0 = true from hmid)
          have hQm : Q (2 * (s + 8)) = 0 ∧ Q (2 * (s + 8) + 1) = 0 := by
            rcases N.rest (s + 8) (by omega) (by omega) (by omega) with ⟨a, b⟩ | ⟨a | a, b⟩
            · rw [a, b]; exact hmz
            · exact a
            · exfalso; omega
          have hnn : s + 8 + 8 = n := by omega
          have hss : s + 8 - 8 = s := by omega
          have hoc : overC Q (s + 8) 2 s n 0 = true := by
            unfold overC
            rw [hQm.1, hQm.2, N.at_s.1, N.at_s.2, N.at_n.1, N.at_n.2, hk1, e, show (s + 8) / 8 = 2 by omega]
            rfl
          have hsq : sq (((s + 8 : Nat)) : Int) = true := (sq_iff _).2 (by omega)
          rw [ho2, hsq, show (oth 0 == 1) = true from rfl, Int.toNat_natCast, hnn, hss, hoc]
          simp
      · rw [e] at l3 l4 how ⊢
        simp only [if_true] at l3 l4 how
        have hs8 : s / 8 = 6 := by omega
        have hn8 : n / 8 = 4 := by omega
        rcases how with how | ⟨how, _, hbr, hem⟩
        · omega
        · have ho2 : (s + n) / 2 = s - 8 := by omega
          have hmid : emB P (s - 8) = true := by
            have := hbr
            rw [show (s : Int) + 8 * -1 = ((s - 8 : Nat) : Int) by omega, bareR_sq P (s - 8) (by omega)] at this
            exact this
          have hmz := (pe_iff _ _ _ _).1 (show pe (P (2 * (s - 8))) (P (2 * (s - 8) + 1)) 0 0 = true from hmid)
          have hQm : Q (2 * (s - 8)) = 0 ∧ Q (2 * (s - 8) + 1) = 0 := by
            rcases N.rest (s - 8) (by omega) (by omega) (by omega) with ⟨a, b⟩ | ⟨a | a, b⟩
            · rw [a, b]; exact hmz
            · exact a
            · exfalso; omega
          have hnn : s - 8 - 8 = n := by omega
          have hss : s - 8 + 8 = s := by omega
          have hoc : overC Q (s - 8) 5 s n 1 = true := by
            unfold overC
            rw [hQm.1, hQm.2, N.at_s.1, N.at_s.2, N.at_n.1, N.at_n.2, hk1, e, show (s - 8) / 8 = 5 by omega]
            rfl
          have hsq : sq (((s - 8 : Nat)) : Int) = true := (sq_iff _).2 (by omega)
          rw [ho2, hsq, show (oth 1 == 1) = false from rfl, Int.toNat_natCast, hnn, hss, hoc]
          simp
  have sideQ : sideB (Q 128) = true := by rw [q128]; rcases hoo.1 with e | e <;> rw [e] <;> rfl
  have cnt131 : 0 ≤ Q 131 ∧ Q 131 ≤ 1024 := by
    rw [q131, cnt_half]
    split
    · omega
    · unfold incN
      split
      · omega
      · unfold wrap64; omega
  have cnt132 : 1 ≤ Q 132 ∧ Q 132 ≤ 16384 := by
    rw [q132]
    unfold cntN
    split
    · rw [setN_at]
      unfold incN
      split
      · omega
      · unfold wrap64; omega
    · rw [setN_off _ _ _ _ (by omega)]; exact r7
  unfold rightB piecesB
  rw [okQ, k0, k1, sideQ, castQ, overQ, decide_eq_true cnt131.1, decide_eq_true cnt131.2, decide_eq_true cnt132.1, decide_eq_true cnt132.2]
  rfl
end Go.Proofs.YtkncfeijlmomaaaGreatDoor
