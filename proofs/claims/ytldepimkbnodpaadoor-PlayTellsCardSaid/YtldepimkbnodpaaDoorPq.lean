/-
  The document's position behind a move is the package's.
-/
import Derived.Test.YtldepimkbnodpaaDoorPp
namespace Go.Proofs.YtldepimkbnodpaaDoor
open Go.RowKit Go.Sort
set_option linter.unusedSimpArgs false
set_option linter.unusedVariables false

theorem ptN_at (P : Nat → Int) (m : Nat) (k d : Int) (i : Nat) : ptN P m k d i = if i = 2 * m then k else if i = 2 * m + 1 then d else P i := by
  unfold ptN setN
  by_cases h1 : i = 2 * m + 1
  · rw [if_pos h1, if_neg (by omega), if_pos h1]
  · rw [if_neg h1]
    by_cases h2 : i = 2 * m
    · rw [if_pos h2, if_pos h2]
    · rw [if_neg h2, if_neg h2, if_neg h1]
theorem ptN_zero2 (P : Nat → Int) (a b : Nat) : ptN (ptN P a 0 0) b 0 0 = ptN (ptN P b 0 0) a 0 0 := by
  funext i
  simp only [ptN_at]
  by_cases h1 : i = 2 * a <;> by_cases h2 : i = 2 * b <;> by_cases h3 : i = 2 * a + 1 <;> by_cases h4 : i = 2 * b + 1 <;> simp [h1, h2, h3, h4] <;> omega
theorem inc_min (n m : Int) : incN n (m + 1) = (if m < n then m + 1 else wrap64 (n + 1)) := by
  unfold incN
  by_cases h : m < n
  · rw [if_pos h, if_pos (by omega)]
  · rw [if_neg h, if_neg (by omega)]
theorem min_half (h : Int) : wrap64 ((if 1023 < h then 1023 else h) + 1) = incN h 1024 := by
  rw [show (1024 : Int) = 1023 + 1 by omega, inc_min]
  split
  · unfold wrap64; omega
  · rfl
theorem min_full (h : Int) : wrap64 ((if 16383 < h then 16383 else h) + 1) = incN h 16384 := by
  rw [show (16384 : Int) = 16383 + 1 by omega, inc_min]
  split
  · unfold wrap64; omega
  · rfl
/-- bits of castlings -/
def casOk : Bool := (List.range 16).all fun c => ([0, 1, 2, 3, 4, 8, 12] : List Int).all fun a => ([0, 1, 2, 3, 4, 8, 12] : List Int).all fun b => wtS (wtS (c : Int) a 4) b 4 == bits .andNot .i64 (c : Int) (bits .or .i64 a b)
theorem cas_ok : casOk = true := by decide +kernel
theorem lost_mem (s : Int) : lostN s ∈ ([0, 1, 2, 3, 4, 8, 12] : List Int) := by
  rcases lost_cases s with ⟨_, h⟩ | ⟨_, h⟩ | ⟨_, h⟩ | ⟨_, h⟩ | ⟨_, h⟩ | ⟨_, h⟩ | ⟨_, _, _, _, _, _, h⟩ <;> rw [h] <;> decide
theorem cas_eq (c : Int) (h0 : 0 ≤ c) (h1 : c ≤ 15) (f t : Nat) : wtS (wtS c (lostN f) 4) (lostN t) 4 = casM c f t := by
  have h := cas_ok
  unfold casOk at h
  rw [List.all_eq_true] at h
  have hc := h c.toNat (List.mem_range.2 (by omega))
  rw [List.all_eq_true] at hc
  have ha := hc _ (lost_mem (f : Int))
  rw [List.all_eq_true] at ha
  have hb := ha _ (lost_mem (t : Int))
  rw [show ((c.toNat : Nat) : Int) = c by omega] at hb
  unfold casM
  exact beq_iff_eq.1 hb
def kasOk : Bool := (List.range 16).all fun c => (bits .and .i64 (c : Int) 1 != 0) == ((c : Int) / 1 % 2 == 1) && (bits .and .i64 (c : Int) 2 != 0) == ((c : Int) / 2 % 2 == 1) && (bits .and .i64 (c : Int) 4 != 0) == ((c : Int) / 4 % 2 == 1) && (bits .and .i64 (c : Int) 8 != 0) == ((c : Int) / 8 % 2 == 1)
theorem kas_ok : kasOk = true := by decide +kernel
theorem kas_bits (c : Int) (h0 : 0 ≤ c) (h1 : c ≤ 15) : (bits .and .i64 c 1 != 0) = (c / 1 % 2 == 1) ∧ (bits .and .i64 c 2 != 0) = (c / 2 % 2 == 1) ∧ (bits .and .i64 c 4 != 0) = (c / 4 % 2 == 1) ∧ (bits .and .i64 c 8 != 0) = (c / 8 % 2 == 1) := by
  have h := kas_ok
  unfold kasOk at h
  rw [List.all_eq_true] at h
  have hc := h c.toNat (List.mem_range.2 (by omega))
  rw [show ((c.toNat : Nat) : Int) = c by omega] at hc
  simp only [Bool.and_eq_true, beq_iff_eq] at hc
  exact ⟨hc.1.1.1, hc.1.1.2, hc.1.2, hc.2⟩
theorem csI_four (P : Nat → Int) (f t : Nat) : csI P f t 4 = if csX P f t 0 then some 0 else if csX P f t 1 then some 1 else if csX P f t 2 then some 2 else if csX P f t 3 then some 3 else none := by
  simp only [csI]
  cases csX P f t 0 <;> cases csX P f t 1 <;> cases csX P f t 2 <;> cases csX P f t 3 <;> rfl
theorem pe_side (k d : Int) (s : Int) : pe k d 6 s = (k == 6 && d == s) := rfl
/-- what a castling is, by the document and by the package -/
theorem csl_rel (P : Nat → Int) (f t : Nat) (hf : f < 64) (hd : P (2 * f + 1) = 0 ∨ P (2 * f + 1) = 1) (cs : Int) (hcs : cslV (cas0 (P 129)) (P (2 * f)) (P (2 * f + 1)) (f : Int) (t : Int) = cs) :
    (cs = 0 ∧ csI (handP P) f t 4 = none) ∨ (cs = 1 ∧ f = 4 ∧ t = 6 ∧ P (2 * f + 1) = 0 ∧ csI (handP P) f t 4 = some 0) ∨ (cs = -1 ∧ f = 4 ∧ t = 2 ∧ P (2 * f + 1) = 0 ∧ csI (handP P) f t 4 = some 1) ∨
    (cs = 1 ∧ f = 60 ∧ t = 62 ∧ P (2 * f + 1) = 1 ∧ csI (handP P) f t 4 = some 2) ∨ (cs = -1 ∧ f = 60 ∧ t = 58 ∧ P (2 * f + 1) = 1 ∧ csI (handP P) f t 4 = some 3) := by
  obtain ⟨b1, b2, b4, b8⟩ := kas_bits (cas0 (P 129)) (cas0_range _).1 (cas0_range _).2
  have x0 : csX (handP P) f t 0 = ((cas0 (P 129) / 1 % 2 == 1) && ((f : Int) == 4) && ((t : Int) == 6) && (P (2 * f) == 6 && P (2 * f + 1) == 0)) := by
    unfold csX; rw [hand_cas, hand_at P _ (by omega), hand_at P _ (by omega), pe_side, ← b1]; rfl
  have x1 : csX (handP P) f t 1 = ((cas0 (P 129) / 2 % 2 == 1) && ((f : Int) == 4) && ((t : Int) == 2) && (P (2 * f) == 6 && P (2 * f + 1) == 0)) := by
    unfold csX; rw [hand_cas, hand_at P _ (by omega), hand_at P _ (by omega), pe_side, ← b2]; rfl
  have x2 : csX (handP P) f t 2 = ((cas0 (P 129) / 4 % 2 == 1) && ((f : Int) == 60) && ((t : Int) == 62) && (P (2 * f) == 6 && P (2 * f + 1) == 1)) := by
    unfold csX; rw [hand_cas, hand_at P _ (by omega), hand_at P _ (by omega), pe_side, ← b4]; rfl
  have x3 : csX (handP P) f t 3 = ((cas0 (P 129) / 8 % 2 == 1) && ((f : Int) == 60) && ((t : Int) == 58) && (P (2 * f) == 6 && P (2 * f + 1) == 1)) := by
    unfold csX; rw [hand_cas, hand_at P _ (by omega), hand_at P _ (by omega), pe_side, ← b8]; rfl
  rw [csI_four, x0, x1, x2, x3]
  clear x0 x1 x2 x3 b1 b2 b4 b8
  generalize cas0 (P 129) = c at *
  generalize P (2 * f) = kk at *
  generalize P (2 * f + 1) = d at *
  unfold cslV at hcs
  by_cases hk : kk = 6
  case neg =>
    have h1 : (kk == 6) = false := by simp [hk]
    rw [h1] at hcs ⊢
    left
    refine ⟨?_, by simp⟩
    rw [← hcs]; cases d == 1 <;> rfl
  subst hk
  rcases hd with rfl | rfl
  · by_cases h4 : f = 4
    case neg =>
      have h1 : ((f : Int) == 4) = false := beq_eq_false_iff_ne.2 (by omega)
      rw [h1] at hcs ⊢
      left
      exact ⟨by rw [← hcs]; rfl, by simp⟩
    subst h4
    by_cases h6 : t = 6
    · subst h6
      by_cases hb : c / 1 % 2 = 1
      · right; left
        refine ⟨?_, rfl, rfl, rfl, ?_⟩
        · rw [← hcs]; simp only [hb]; rfl
        · simp only [hb]; rfl
      · have hb2 : (c / 1 % 2 == 1) = false := beq_eq_false_iff_ne.2 hb
        left
        rw [hb2] at hcs ⊢
        exact ⟨by rw [← hcs]; rfl, by simp⟩
    · have h61 : ((t : Int) == 6) = false := beq_eq_false_iff_ne.2 (by omega)
      rw [h61] at hcs ⊢
      by_cases h2 : t = 2
      · subst h2
        by_cases hb : c / 2 % 2 = 1
        · right; right; left
          refine ⟨?_, rfl, rfl, rfl, ?_⟩
          · rw [← hcs]; simp only [hb]; rfl
          · simp [hb]
        · have hb2 : (c / 2 % 2 == 1) = false := beq_eq_false_iff_ne.2 hb
          left
          rw [hb2] at hcs ⊢
          exact ⟨by rw [← hcs]; rfl, by simp⟩
      · have h21 : ((t : Int) == 2) = false := beq_eq_false_iff_ne.2 (by omega)
        rw [h21] at hcs ⊢
        left
        exact ⟨by rw [← hcs]; rfl, by simp⟩
  · by_cases h4 : f = 60
    case neg =>
      have h1 : ((f : Int) == 60) = false := beq_eq_false_iff_ne.2 (by omega)
      rw [h1] at hcs ⊢
      left
      exact ⟨by rw [← hcs]; rfl, by simp⟩
    subst h4
    by_cases h6 : t = 62
    · subst h6
      by_cases hb : c / 4 % 2 = 1
      · right; right; right; left
        refine ⟨?_, rfl, rfl, rfl, ?_⟩
        · rw [← hcs]; simp only [hb]; rfl
        · simp [hb]
      · have hb2 : (c / 4 % 2 == 1) = false := beq_eq_false_iff_ne.2 hb
        left
        rw [hb2] at hcs ⊢
        exact ⟨by rw [← hcs]; rfl, by simp⟩
    · have h61 : ((t : Int) == 62) = false := beq_eq_false_iff_ne.2 (by omega)
      rw [h61] at hcs ⊢
      by_cases h2 : t = 58
      · subst h2
        by_cases hb : c / 8 % 2 = 1
        · right; right; right; right
          refine ⟨?_, rfl, rfl, rfl, ?_⟩
          · rw [← hcs]; simp only [hb]; rfl
          · simp [hb]
        · have hb2 : (c / 8 % 2 == 1) = false := beq_eq_false_iff_ne.2 hb
          left
          rw [hb2] at hcs ⊢
          exact ⟨by rw [← hcs]; rfl, by simp⟩
      · have h21 : ((t : Int) == 58) = false := beq_eq_false_iff_ne.2 (by omega)
        rw [h21] at hcs ⊢
        left
        exact ⟨by rw [← hcs]; rfl, by simp⟩
theorem pt_low {Q Q' : Nat → Int} (h : ∀ i, i < 128 → Q i = Q' i) (m : Nat) (k d : Int) : ∀ i, i < 128 → ptN Q m k d i = ptN Q' m k d i := fun i hi => by rw [ptN_at, ptN_at, h i hi]
theorem pt_high (Q : Nat → Int) (m : Nat) (hm : m < 64) (k d : Int) (i : Nat) (hi : 128 ≤ i) : ptN Q m k d i = Q i := by rw [ptN_at, if_neg (by omega), if_neg (by omega)]
theorem set_at (Q : Nat → Int) (j : Nat) (x : Int) (i : Nat) : setN Q j x i = if i = j then x else Q i := rfl
theorem cnt_low (P : Nat → Int) (z : Bool) (i : Nat) (hi : i < 131) : cntN P z i = P i := by
  unfold cntN
  split
  · rw [set_at, if_neg (by omega), set_at, if_neg (by omega)]
  · rw [set_at, if_neg (by omega)]
end Go.Proofs.YtldepimkbnodpaaDoor
