/-
  Merged: Pq, Pr, Ps, Ra.
-/
import Derived.Test.YthinkiljhkanhaaGreatDoorPp
import Derived.Test.YthinkiljhkanhaaGreatDoorG16
import Derived.Test.YthinkiljhkanhaaGreatDoorG5

namespace Go.Proofs.YthinkiljhkanhaaGreatDoor
open Go.RowKit Go.Sort
set_option linter.unusedSimpArgs false
set_option linter.unusedVariables false
set_option maxRecDepth 20000

theorem ptN_at (P : Nat → Int) (m : Nat) (k d : Int) (i : Nat) : ptN P m k d i = if i = 2 * m then k else if i = 2 * m + 1 then d else P i := by
  unfold ptN setN
  by_cases h1 : i = 2 * m + 1
  · rw [if_pos h1, if_neg (by omega), if_pos h1]
  · rw [if_neg h1]
    by_cases h2 : i = 2 * m
    · rw [if_pos h2, if_pos h2]
    · rw [if_neg h2, if_neg h2, if_neg h1]
theorem ptN_zero2 (P : Nat → Int) (a b : Nat) : ptN (ptN P a 0 0) b 0 0 = ptN (ptN P b 0 0) a 0 0 := by
  funext i
  simp only [ptN_at]
  by_cases h1 : i = 2 * a <;> by_cases h2 : i = 2 * b <;> by_cases h3 : i = 2 * a + 1 <;> by_cases h4 : i = 2 * b + 1 <;> simp [h1, h2, h3, h4] <;> omega
theorem inc_min (n m : Int) : incN n (m + 1) = (if m < n then m + 1 else wrap64 (n + 1)) := by
  unfold incN
  by_cases h : m < n
  · rw [if_pos h, if_pos (by omega)]
  · rw [if_neg h, if_neg (by omega)]
theorem min_half (h : Int) : wrap64 ((if 1023 < h then 1023 else h) + 1) = incN h 1024 := by
  rw [show (1024 : Int) = 1023 + 1 by omega, inc_min]
  split
  · unfold wrap64; omega
  · rfl
theorem min_full (h : Int) : wrap64 ((if 16383 < h then 16383 else h) + 1) = incN h 16384 := by
  rw [show (16384 : Int) = 16383 + 1 by omega, inc_min]
  split
  · unfold wrap64; omega
  · rfl
/-- bits of castlings -/
def casOk : Bool := (List.range 16).all fun c => ([0, 1, 2, 3, 4, 8, 12] : List Int).all fun a => ([0, 1, 2, 3, 4, 8, 12] : List Int).all fun b => wtS (wtS (c : Int) a 4) b 4 == bits .andNot .i64 (c : Int) (bits .or .i64 a b)
theorem cas_ok : casOk = true := by decide +kernel
theorem lost_mem (s : Int) : lostN s ∈ ([0, 1, 2, 3, 4, 8, 12] : List Int) := by
  rcases lost_cases s with ⟨_, h⟩ | ⟨_, h⟩ | ⟨_, h⟩ | ⟨_, h⟩ | ⟨_, h⟩ | ⟨_, h⟩ | ⟨_, _, _, _, _, _, h⟩ <;> rw [h] <;> decide
theorem cas_eq (c : Int) (h0 : 0 ≤ c) (h1 : c ≤ 15) (f t : Nat) : wtS (wtS c (lostN f) 4) (lostN t) 4 = casM c f t := by
  have h := cas_ok
  unfold casOk at h
  rw [List.all_eq_true] at h
  have hc := h c.toNat (List.mem_range.2 (by omega))
  rw [List.all_eq_true] at hc
  have ha := hc _ (lost_mem (f : Int))
  rw [List.all_eq_true] at ha
  have hb := ha _ (lost_mem (t : Int))
  rw [show ((c.toNat : Nat) : Int) = c by omega] at hb
  unfold casM
  exact beq_iff_eq.1 hb
def kasOk : Bool := (List.range 16).all fun c => (bits .and .i64 (c : Int) 1 != 0) == ((c : Int) / 1 % 2 == 1) && (bits .and .i64 (c : Int) 2 != 0) == ((c : Int) / 2 % 2 == 1) && (bits .and .i64 (c : Int) 4 != 0) == ((c : Int) / 4 % 2 == 1) && (bits .and .i64 (c : Int) 8 != 0) == ((c : Int) / 8 % 2 == 1)
theorem kas_ok : kasOk = true := by decide +kernel
theorem kas_bits (c : Int) (h0 : 0 ≤ c) (h1 : c ≤ 15) : (bits .and .i64 c 1 != 0) = (c / 1 % 2 == 1) ∧ (bits .and .i64 c 2 != 0) = (c / 2 % 2 == 1) ∧ (bits .and .i64 c 4 != 0) = (c / 4 % 2 == 1) ∧ (bits .and .i64 c 8 != 0) = (c / 8 % 2 == 1) := by
  have h := kas_ok
  unfold kasOk at h
  rw [List.all_eq_true] at h
  have hc := h c.toNat (List.mem_range.2 (by omega))
  rw [show ((c.toNat : Nat) : Int) = c by omega] at hc
  simp only [Bool.and_eq_true, beq_iff_eq] at hc
  exact ⟨hc.1.1.1, hc.1.1.2, hc.1.2, hc.2⟩
theorem csI_four (P : Nat → Int) (f t : Nat) : csI P f t 4 = if csX P f t 0 then some 0 else if csX P f t 1 then some 1 else if csX P f t 2 then some 2 else if csX P f t 3 then some 3 else none := by
  simp only [csI]
  cases csX P f t 0 <;> cases csX P f t 1 <;> cases csX P f t 2 <;> cases csX P f t 3 <;> rfl
theorem pe_side (k d : Int) (s : Int) : pe k d 6 s = (k == 6 && d == s) := rfl
/-- what a castling is, by the document and by the package -/
theorem csl_rel (P : Nat → Int) (f t : Nat) (hf : f < 64) (hd : P (2 * f + 1) = 0 ∨ P (2 * f + 1) = 1) (cs : Int) (hcs : cslV (cas0 (P 129)) (P (2 * f)) (P (2 * f + 1)) (f : Int) (t : Int) = cs) :
    (cs = 0 ∧ csI (handP P) f t 4 = none) ∨ (cs = 1 ∧ f = 4 ∧ t = 6 ∧ P (2 * f + 1) = 0 ∧ csI (handP P) f t 4 = some 0) ∨ (cs = -1 ∧ f = 4 ∧ t = 2 ∧ P (2 * f + 1) = 0 ∧ csI (handP P) f t 4 = some 1) ∨
    (cs = 1 ∧ f = 60 ∧ t = 62 ∧ P (2 * f + 1) = 1 ∧ csI (handP P) f t 4 = some 2) ∨ (cs = -1 ∧ f = 60 ∧ t = 58 ∧ P (2 * f + 1) = 1 ∧ csI (handP P) f t 4 = some 3) := by
  obtain ⟨b1, b2, b4, b8⟩ := kas_bits (cas0 (P 129)) (cas0_range _).1 (cas0_range _).2
  have x0 : csX (handP P) f t 0 = ((cas0 (P 129) / 1 % 2 == 1) && ((f : Int) == 4) && ((t : Int) == 6) && (P (2 * f) == 6 && P (2 * f + 1) == 0)) := by
    unfold csX; rw [hand_cas, hand_at P _ (by omega), hand_at P _ (by omega), pe_side, ← b1]; rfl
  have x1 : csX (handP P) f t 1 = ((cas0 (P 129) / 2 % 2 == 1) && ((f : Int) == 4) && ((t : Int) == 2) && (P (2 * f) == 6 && P (2 * f + 1) == 0)) := by
    unfold csX; rw [hand_cas, hand_at P _ (by omega), hand_at P _ (by omega), pe_side, ← b2]; rfl
  have x2 : csX (handP P) f t 2 = ((cas0 (P 129) / 4 % 2 == 1) && ((f : Int) == 60) && ((t : Int) == 62) && (P (2 * f) == 6 && P (2 * f + 1) == 1)) := by
    unfold csX; rw [hand_cas, hand_at P _ (by omega), hand_at P _ (by omega), pe_side, ← b4]; rfl
  have x3 : csX (handP P) f t 3 = ((cas0 (P 129) / 8 % 2 == 1) && ((f : Int) == 60) && ((t : Int) == 58) && (P (2 * f) == 6 && P (2 * f + 1) == 1)) := by
    unfold csX; rw [hand_cas, hand_at P _ (by omega), hand_at P _ (by omega), pe_side, ← b8]; rfl
  rw [csI_four, x0, x1, x2, x3]
  clear x0 x1 x2 x3 b1 b2 b4 b8
  generalize cas0 (P 129) = c at *
  generalize P (2 * f) = kk at *
  generalize P (2 * f + 1) = d at *
  unfold cslV at hcs
  by_cases hk : kk = 6
  case neg =>
    have h1 : (kk == 6) = false := by simp [hk]
    rw [h1] at hcs ⊢
    left
    refine ⟨?_, by simp⟩
    rw [← hcs]; cases d == 1 <;> rfl
  subst hk
  rcases hd with rfl | rfl
  · by_cases h4 : f = 4
    case neg =>
      have h1 : ((f : Int) == 4) = false := beq_eq_false_iff_ne.2 (by omega)
      rw [h1] at hcs ⊢
      left
      exact ⟨by rw [← hcs]; rfl, by simp⟩
    subst h4
    by_cases h6 : t = 6
    · subst h6
      by_cases hb : c / 1 % 2 = 1
      · right; left
        refine ⟨?_, rfl, rfl, rfl, ?_⟩
        · rw [← hcs]; simp only [hb]; rfl
        · simp only [hb]; rfl
      · have hb2 : (c / 1 % 2 == 1) = false := beq_eq_false_iff_ne.2 hb
        left
        rw [hb2] at hcs ⊢
        exact ⟨by rw [← hcs]; rfl, by simp⟩
    · have h61 : ((t : Int) == 6) = false := beq_eq_false_iff_ne.2 (by omega)
      rw [h61] at hcs ⊢
      by_cases h2 : t = 2
      · subst h2
        by_cases hb : c / 2 % 2 = 1
        · right; right; left
          refine ⟨?_, rfl, rfl, rfl, ?_⟩
          · rw [← hcs]; simp only [hb]; rfl
          · simp [hb]
        · have hb2 : (c / 2 % 2 == 1) = false := beq_eq_false_iff_ne.2 hb
          left
          rw [hb2] at hcs ⊢
          exact ⟨by rw [← hcs]; rfl, by simp⟩
      · have h21 : ((t : Int) == 2) = false := beq_eq_false_iff_ne.2 (by omega)
        rw [h21] at hcs ⊢
        left
        exact ⟨by rw [← hcs]; rfl, by simp⟩
  · by_cases h4 : f = 60
    case neg =>
      have h1 : ((f : Int) == 60) = false := beq_eq_false_iff_ne.2 (by omega)
      rw [h1] at hcs ⊢
      left
      exact ⟨by rw [← hcs]; rfl, by simp⟩
    subst h4
    by_cases h6 : t = 62
    · subst h6
      by_cases hb : c / 4 % 2 = 1
      · right; right; right; left
        refine ⟨?_, rfl, rfl, rfl, ?_⟩
        · rw [← hcs]; simp only [hb]; rfl
        · simp [hb]
      · have hb2 : (c / 4 % 2 == 1) = false := beq_eq_false_iff_ne.2 hb
        left
        rw [hb2] at hcs ⊢
        exact ⟨by rw [← hcs]; rfl, by simp⟩
    · have h61 : ((t : Int) == 62) = false := beq_eq_false_iff_ne.2 (by omega)
      rw [h61] at hcs ⊢
      by_cases h2 : t = 58
      · subst h2
        by_cases hb : c / 8 % 2 = 1
        · right; right; right; right
          refine ⟨?_, rfl, rfl, rfl, ?_⟩
          · rw [← hcs]; simp only [hb]; rfl
          · simp [hb]
        · have hb2 : (c / 8 % 2 == 1) = false := beq_eq_false_iff_ne.2 hb
          left
          rw [hb2] at hcs ⊢
          exact ⟨by rw [← hcs]; rfl, by simp⟩
      · have h21 : ((t : Int) == 58) = false := beq_eq_false_iff_ne.2 (by omega)
        rw [h21] at hcs ⊢
        left
        exact ⟨by rw [← hcs]; rfl, by simp⟩
theorem pt_low {Q Q' : Nat → Int} (h : ∀ i, i < 128 → Q i = Q' i) (m : Nat) (k d : Int) : ∀ i, i < 128 → ptN Q m k d i = ptN Q' m k d i := fun i hi => by rw [ptN_at, ptN_at, h i hi]
theorem pt_high (Q : Nat → Int) (m : Nat) (hm : m < 64) (k d : Int) (i : Nat) (hi : 128 ≤ i) : ptN Q m k d i = Q i := by rw [ptN_at, if_neg (by omega), if_neg (by omega)]
theorem set_at (Q : Nat → Int) (j : Nat) (x : Int) (i : Nat) : setN Q j x i = if i = j then x else Q i := rfl
theorem cnt_low (P : Nat → Int) (z : Bool) (i : Nat) (hi : i < 131) : cntN P z i = P i := by
  unfold cntN
  split
  · rw [set_at, if_neg (by omega), set_at, if_neg (by omega)]
  · rw [set_at, if_neg (by omega)]
end Go.Proofs.YthinkiljhkanhaaGreatDoor

namespace Go.Proofs.YthinkiljhkanhaaGreatDoor
open Go.RowKit Go.Sort
set_option linter.unusedSimpArgs false
set_option linter.unusedVariables false
set_option maxRecDepth 20000

theorem set_pt (R : Nat → Int) (t : Nat) (a d k : Int) : setN (ptN R t a d) (t * 2) k = ptN R t k d := by
  funext i
  rw [set_at, ptN_at, ptN_at]
  by_cases h : i = 2 * t
  · rw [if_pos (by omega), if_pos h]
  · rw [if_neg (by omega), if_neg h, if_neg h]
theorem low_eq (P C : Nat → Int) (f t : Nat) (k tk : Int) (hf : f < 64) (hC : ∀ i, i < 128 → C i = P i) (htk : tk = -1 ∨ ∃ n : Nat, tk = n) : ∀ i, i < 128 → rm2 (rm1 P tk) f t k (P (2 * f)) (P (2 * f + 1)) i = putM C f t k tk i := by
  have key : ∀ R S : Nat → Int, (∀ i, i < 128 → R i = S i) → ∀ i, i < 128 → (if k == 0 then ptN R t (P (2 * f)) (P (2 * f + 1)) else setN (ptN R t (P (2 * f)) (P (2 * f + 1))) (t * 2) k) i = ptN S t (if k == 0 then P (2 * f) else k) (P (2 * f + 1)) i := by
    intro R S h i hi
    by_cases hk : k = 0
    · have h1 : (k == 0) = true := by simp [hk]
      rw [h1, if_pos rfl, if_pos rfl]; exact pt_low h _ _ _ i hi
    · have h1 : (k == 0) = false := by simp [hk]
      rw [h1, if_neg (by decide), if_neg (by decide), set_pt]; exact pt_low h _ _ _ i hi
  intro i hi
  unfold rm2 putM
  rw [hC _ (by omega), hC _ (by omega)]
  have hC2 : ∀ i, i < 128 → P i = C i := fun i hi => (hC i hi).symm
  rcases htk with rfl | ⟨n, rfl⟩
  · exact key _ _ (pt_low hC2 f 0 0) i hi
  · have h1 : (((n : Int)) == -1) = false := beq_eq_false_iff_ne.2 (by omega)
    have h2 : rm1 P (n : Int) = ptN P n 0 0 := by unfold rm1; rw [decide_eq_true (by omega), if_pos rfl, Int.toNat_natCast]
    simp only [h1, Bool.false_eq_true, if_false]
    rw [Int.toNat_natCast, h2, ptN_zero2 P n f]
    exact key _ _ (pt_low (pt_low hC2 f 0 0) n 0 0) i hi
theorem rm_low (R : Nat → Int) (od ca md ha sd fu : Int) (lg z : Bool) (i : Nat) (hi : i < 128) : rm7 (rm6 (rm5 (rm4 R od ca) lg md) ha z) sd fu i = R i := by
  have h4 : rm4 R od ca i = R i := by unfold rm4; rw [set_at, if_neg (by omega), set_at, if_neg (by omega), set_at, if_neg (by omega)]
  have h5 : rm5 (rm4 R od ca) lg md i = R i := by
    unfold rm5; split
    · rw [set_at, if_neg (by omega)]; exact h4
    · exact h4
  have h6 : rm6 (rm5 (rm4 R od ca) lg md) ha z i = R i := by
    unfold rm6; split
    · rw [set_at, if_neg (by omega), set_at, if_neg (by omega)]; exact h5
    · rw [set_at, if_neg (by omega)]; exact h5
  unfold rm7; split
  · rw [set_at, if_neg (by omega)]; exact h6
  · exact h6
theorem rm3_high (R : Nat → Int) (f : Nat) (cs dd : Int) (i : Nat) (hi : 128 ≤ i) (hf : f < 61) : rm3 R f cs dd i = R i := by
  unfold rm3
  split
  · rw [pt_high _ _ (by omega) _ _ _ hi, pt_high _ _ (by omega) _ _ _ hi]
  · split
    · rw [pt_high _ _ (by omega) _ _ _ hi, pt_high _ _ (by omega) _ _ _ hi]
    · rfl
theorem rm2_high (P : Nat → Int) (f t : Nat) (k kk dd tk : Int) (hf : f < 64) (ht : t < 64) (htk : tk = -1 ∨ ∃ n : Nat, tk = n ∧ n < 64) (i : Nat) (hi : 128 ≤ i) : rm2 (rm1 P tk) f t k kk dd i = P i := by
  have h1 : rm1 P tk i = P i := by
    unfold rm1; split
    · rcases htk with rfl | ⟨n, rfl, hn⟩
      · rename_i h; simp at h
      · rw [Int.toNat_natCast, pt_high _ _ hn _ _ _ hi]
    · rfl
  unfold rm2; split
  · rw [pt_high _ _ ht _ _ _ hi, pt_high _ _ hf _ _ _ hi, h1]
  · rw [set_at, if_neg (by omega), pt_high _ _ ht _ _ _ hi, pt_high _ _ hf _ _ _ hi, h1]
theorem putM_high (C : Nat → Int) (f t : Nat) (k tk : Int) (hf : f < 64) (ht : t < 64) (htk : tk = -1 ∨ ∃ n : Nat, tk = n ∧ n < 64) (i : Nat) (hi : 128 ≤ i) : putM C f t k tk i = C i := by
  unfold putM
  rw [pt_high _ _ ht _ _ _ hi]
  split
  · rw [pt_high _ _ hf _ _ _ hi]
  · rcases htk with rfl | ⟨n, rfl, hn⟩
    · rename_i h; simp at h
    · rw [Int.toNat_natCast, pt_high _ _ hn _ _ _ hi, pt_high _ _ hf _ _ _ hi]
set_option maxHeartbeats 1000000 in
theorem rm_eq (P : Nat → Int) (f t : Nat) (k tk cs ca md : Int) (lg : Bool) (hf : f < 64) (ht : t < 64) (htk : tksN P f t = tk) (hown : P (2 * f + 1) = P 128) (hd : P 128 = 0 ∨ P 128 = 1)
    (hcs : cslV (cas0 (P 129)) (P (2 * f)) (P (2 * f + 1)) (f : Int) (t : Int) = cs) (hca : wtS (wtS (cas0 (P 129)) (lostN f) 4) (lostN t) 4 = ca) (hlg : lngR (P (2 * f)) (P (2 * f + 1)) f t = lg) (hmd : ((f + t) / 2 : Nat) = md) :
    rmN P f t k (P (2 * f)) (P (2 * f + 1)) tk cs (oth (P 128)) ca lg md = cmN (handP P) f t k := by
  have hH : tksN (handP P) f t = tk := by rw [tks_hand P f t hf ht, htk]
  have hpw : pwnB (handP P) f = pwnB P f := pwn_hand P f hf
  have htc : tk = -1 ∨ ∃ n : Nat, tk = n ∧ n < 64 := by rw [← htk]; exact tks_cases P f t hf ht
  have hzz : (pwnB (handP P) f || (tk != -1)) = (P (2 * f) == 1 || decide (0 ≤ tk)) := by
    rw [hpw]; unfold pwnB
    rcases htc with rfl | ⟨n, rfl, hn⟩
    · rfl
    · rw [decide_eq_true (by omega : (0 : Int) ≤ n), show ((n : Int) != -1) = true by unfold bne; rw [beq_eq_false_iff_ne.2 (by omega)]; rfl]
  have hov : ovrN (handP P) f t = if lg then md else -1 := by
    unfold ovrN
    rw [lng_hand P f t hf, ← lngR_eq P f t hf ht hown hd, hlg, ← hmd]
  have hrel := csl_rel P f t hf (by rw [hown]; exact hd) cs hcs
  generalize hz : (P (2 * f) == 1 || decide (0 ≤ tk)) = z at hzz
  have hC : ∀ i, i < 128 → cntN (handP P) z i = P i := fun i hi => by rw [cnt_low _ _ _ (by omega), hand_at P i (by omega)]
  have hlow := low_eq P (cntN (handP P) z) f t k tk hf hC (htc.imp id fun ⟨n, h, _⟩ => ⟨n, h⟩)
  -- the pieces
  have hpl : ∀ i, i < 128 → rm3 (rm2 (rm1 P tk) f t k (P (2 * f)) (P (2 * f + 1))) f cs (P (2 * f + 1)) i = pcsN (handP P) f t k i := by
    unfold pcsN
    rw [hH, hzz]
    rcases hrel with ⟨rfl, h⟩ | ⟨rfl, rfl, rfl, h2, h⟩ | ⟨rfl, rfl, rfl, h2, h⟩ | ⟨rfl, rfl, rfl, h2, h⟩ | ⟨rfl, rfl, rfl, h2, h⟩
    · rw [h]; exact hlow
    all_goals
      rw [h]
      rw [h2] at hlow ⊢
      exact pt_low (pt_low hlow _ _ _) _ _ _
  have hph : ∀ i, 128 ≤ i → pcsN (handP P) f t k i = cntN (handP P) z i := fun i hi => by
    unfold pcsN
    rw [hH, hzz]
    rcases hrel with ⟨rfl, h⟩ | ⟨rfl, rfl, rfl, h2, h⟩ | ⟨rfl, rfl, rfl, h2, h⟩ | ⟨rfl, rfl, rfl, h2, h⟩ | ⟨rfl, rfl, rfl, h2, h⟩
    · rw [h]; exact putM_high _ f t k tk hf ht htc i hi
    all_goals
      rw [h]
      show ptN (ptN _ _ 0 0) _ 4 _ i = _
      rw [pt_high _ _ (by decide) _ _ _ hi, pt_high _ _ (by decide) _ _ _ hi]
      exact putM_high _ _ _ k tk hf ht htc i hi
  have hrh : ∀ i, 128 ≤ i → rm3 (rm2 (rm1 P tk) f t k (P (2 * f)) (P (2 * f + 1))) f cs (P (2 * f + 1)) i = P i := fun i hi => by
    rcases hrel with ⟨rfl, h⟩ | ⟨rfl, rfl, rfl, h2, h⟩ | ⟨rfl, rfl, rfl, h2, h⟩ | ⟨rfl, rfl, rfl, h2, h⟩ | ⟨rfl, rfl, rfl, h2, h⟩
    · exact rm2_high P f t k _ _ tk hf ht htc i hi
    all_goals
      rw [rm3_high _ _ _ _ _ hi (by omega)]
      exact rm2_high P _ _ k _ _ tk hf ht htc i hi
  have c1 : cntN (handP P) z 128 = P 128 := by rw [cnt_low _ _ _ (by omega), hand_at P _ (by omega)]
  have c2 : cntN (handP P) z 129 = cas0 (P 129) := by rw [cnt_low _ _ _ (by omega), hand_cas]
  unfold rmN cmN
  rw [hz, hov]
  generalize rm3 (rm2 (rm1 P tk) f t k (P (2 * f)) (P (2 * f + 1))) f cs (P (2 * f + 1)) = R at *
  generalize pcsN (handP P) f t k = S at *
  have e128 := hph 128 (by omega)
  have e129 := hph 129 (by omega)
  rw [c1] at e128
  rw [c2] at e129
  funext i
  by_cases hi : i < 128
  · rw [rm_low _ _ _ _ _ _ _ _ _ i hi, hpl i hi]
    unfold lstN
    rw [set_at, if_neg (by omega), set_at, if_neg (by omega), set_at, if_neg (by omega)]
  · unfold lstN
    rw [e128, e129]
    have ech := cas_eq (cas0 (P 129)) (cas0_range _).1 (cas0_range _).2 f t
    rw [hca] at ech
    rw [← ech]
    have hcnt : ∀ i, 130 ≤ i → cntN (handP P) z i = if i = 132 then (if P 128 == 1 then incN (P 132) 16384 else P 132) else if i = 131 then (if z then 0 else incN (P 131) 1024) else P i := fun i hi => by
      unfold cntN
      rw [hand_at P 128 (by omega), hand_at P 131 (by omega), hand_at P 132 (by omega)]
      by_cases h1 : i = 132
      · subst h1
        rw [if_pos rfl]
        split
        · rw [set_at, if_pos rfl]
        · rw [set_at, if_neg (by omega), hand_at P _ (by omega)]
      · rw [if_neg h1]
        by_cases h2 : i = 131
        · subst h2
          rw [if_pos rfl]
          split
          · rw [set_at, if_neg (by omega), set_at, if_pos rfl]
          · rw [set_at, if_pos rfl]
        · rw [if_neg h2]
          split
          · rw [set_at, if_neg h1, set_at, if_neg h2, hand_at P _ (by omega)]
          · rw [set_at, if_neg h2, hand_at P _ (by omega)]
    have hrm : rm7 (rm6 (rm5 (rm4 R (oth (P 128)) ca) lg md) (P 131) z) (P 128) (P 132) i = if i = 132 then (if P 128 == 1 then incN (P 132) 16384 else R 132) else if i = 131 then (if z then 0 else incN (P 131) 1024) else if i = 130 then (if lg then md else -1) else if i = 129 then ca else if i = 128 then oth (P 128) else R i := by
      unfold rm7 rm6 rm5 rm4
      rw [min_half, min_full]
      by_cases h1 : i = 132
      · subst h1; cases P 128 == 1 <;> cases z <;> cases lg <;> rfl
      · rw [if_neg h1]
        by_cases h2 : i = 131
        · subst h2; cases P 128 == 1 <;> cases z <;> cases lg <;> rfl
        · rw [if_neg h2]
          by_cases h3 : i = 130
          · subst h3; cases P 128 == 1 <;> cases z <;> cases lg <;> rfl
          · rw [if_neg h3]
            by_cases h4 : i = 129
            · subst h4; cases P 128 == 1 <;> cases z <;> cases lg <;> rfl
            · rw [if_neg h4]
              by_cases h5 : i = 128
              · subst h5; cases P 128 == 1 <;> cases z <;> cases lg <;> rfl
              · rw [if_neg h5]
                cases P 128 == 1 <;> cases z <;> cases lg <;> simp only [if_true, if_false, Bool.false_eq_true, set_at, h1, h2, h3, h4, h5]
    rw [hrm]
    simp only [set_at]
    by_cases h5 : i = 128
    · subst h5; rfl
    by_cases h3 : i = 130
    · subst h3; rfl
    by_cases h4 : i = 129
    · subst h4; rfl
    rw [if_neg h5, if_neg h3, if_neg h4, if_neg h3, if_neg h4, if_neg h5, hph i (by omega), hcnt i (by omega), hrh i (by omega), hrh 132 (by omega)]
end Go.Proofs.YthinkiljhkanhaaGreatDoor

namespace Go.Proofs.YthinkiljhkanhaaGreatDoor
open Go.RowKit Go.Sort
set_option linter.unusedSimpArgs false
set_option linter.unusedVariables false
set_option maxRecDepth 20000

theorem sq_four (f t : Int) : (sq f = false) ∨ (sq f = true ∧ sq t = false) ∨ (sq f = true ∧ sq t = true ∧ f = t) ∨ (sq f = true ∧ sq t = true ∧ ¬ f = t) := by
  cases sq f <;> cases sq t <;> by_cases h : f = t <;> simp [h]
theorem mvP_bad (P : Nat → Int) (f t k : Int) (h : fltN P f t k ≠ 0) : mvP P f t k = fun _ => 0 := by unfold mvP; rw [flt_hand, if_neg h]
set_option maxHeartbeats 4000000 in
set_option maxRecDepth 100000 in
theorem rMove_bad (P : Nat → Int) (f t k : Int) (w : World) (hbad : fltN P f t k ≠ 0) :
    Calls Tryz.prog 46 #[.agg (pc P).toArray, .agg #[.int .i64 f, .int .i64 t, .int .i64 k]] w fun e w' => e = .returned (.tuple #[.agg (pc (mvP P f t k)).toArray, .int .i64 (fltN (handP P) f t k)]) ∧ Below w.heap.size w w' := by
  obtain ⟨X, hX⟩ : ∃ X, X = (pc P).toArray := ⟨_, rfl⟩
  rw [flt_hand, mvP_bad P f t k hbad]
  obtain ⟨Z, hZ⟩ : ∃ Z, Z = (pc fun _ => 0).toArray := ⟨_, rfl⟩
  rw [← hX, ← hZ]
  have HI := Lib.hid (MA.begin w P f t k X hX)
  have HX := Lib.hid hX
  have HZ := Lib.hid hZ
  have M1 := Lib.hid (fun W => rIs8_any f W)
  have M2 := Lib.hid (fun W => rIs8_any t W)
  have HB6 := Lib.hid (flt_bad P f t k)
  have MC := Lib.hid (show sq f = true → sq t = true → ¬ f = t → (fltN P f t k = 8) ∧ ∀ W, Calls Tryz.prog 73 #[.agg X, .agg #[.int .i64 f, .int .i64 t, .int .i64 k]] W fun e w' => e = .returned (.bool false) ∧ Below W.heap.size W w' from fun h1 h2 h3 => by
    obtain ⟨a1, a2⟩ := (sq_iff _).1 h1
    obtain ⟨b1, b2⟩ := (sq_iff _).1 h2
    have hon := flt_on P f.toNat t.toNat k (by omega) (by omega) (by omega)
    rw [show ((f.toNat : Nat) : Int) = f by omega, show ((t.toNat : Nat) : Int) = t by omega] at hon
    have hc : (ownB P f.toNat && becB P f.toNat t.toNat k) = false := by
      cases h : (ownB P f.toNat && becB P f.toNat t.toNat k)
      · rfl
      · rw [h] at hon; exact absurd hon hbad
    rw [hc] at hon
    refine ⟨hon, fun W => ?_⟩
    have := rCan_any P f.toNat t.toNat k (by omega) (by omega) W
    rw [show ((f.toNat : Nat) : Int) = f by omega, show ((t.toNat : Nat) : Int) = t by omega, hc, ← hX] at this
    exact this)
  have hcases := sq_four f t
  clear hX hZ hbad
  generalize fltN P f t k = E at *
  go_enter Tryz.func46, Tryz.ntmps46
  go_upto_region 1 with (fail)
  refine forget_B (fun W => MA w W P f t k) HI.out ?_
  clear HI
  intro W hi
  have HI := Lib.hid hi
  clear hi
  obtain ⟨q0, q1, q2, qf, qz⟩ := row3 HI.out.m
  rcases hcases with h1 | ⟨h1, h2⟩ | ⟨h1, h2, rfl⟩ | ⟨h1, h2, hne⟩
  · have HE := Lib.hid (HB6.out (by rw [h1]; rfl))
    rw [h1] at M1
    clear h1 HB6 MC M2
    go_wp2_with fail
    refine (M1.out _).mono ?_
    rintro e w1 ⟨rfl, rfl⟩
    go_upto_region 2 with (fail)
    refine wp_region_lit ?_
    refine wpList_plain rfl (fun K hK => ?_)
    go_simp
    refine hK _ _ ?_
    clear hK K
    refine wpList_store_mid rfl 29 _ _ rfl (w.heap.size + 2) 0 (pc fun _ => 0).toArray rfl (congrArg Value.agg zeroPos) (by rw [pc_size]; exact HI.out.z.there) (by rw [infoPos, pc_size]) (pc_one _) ?_
    rw [List.toList_toArray]
    obtain ⟨hr1, hb1⟩ := HI.out.stored (Q := fun _ => 0)
    have HR := Lib.hid hr1
    have HB := Lib.hid hb1
    clear hr1 hb1 HI q0 q1 q2 qf qz
    refine forgetL_B (fun W => W.rangeAt (w.heap.size + 2) 0 (pc fun _ => 0) ∧ Below w.heap.size w W) ⟨HR.out, HB.out⟩ ?_
    clear HR HB
    rintro W8 ⟨hr1, hb1⟩
    have HR := Lib.hid hr1
    have HB := Lib.hid hb1
    clear hr1 hb1
    refine wpList_plain rfl (fun K hK => ?_)
    go_simp
    refine hK _ _ ?_
    clear hK K
    show Exit.then _ _ Exit.normal _ _
    refine ret_go (by assumption) ?_
    repeat (first | refine then_ret ?_ | refine block_ret ?_)
    refine bodyPost_ret (v := .tuple #[.agg (pc fun _ => 0).toArray, .int .i64 6]) ?_ rfl ⟨by rw [HZ.out, HE.out], HB.out⟩
    exact results_mid2 (p := 4) (u := 5) (ty := 29) rfl _ W8 (w.heap.size + 2) _ _ _ rfl rfl HR.out Tryz.underlying29 rfl (by rw [infoPos, pc_len])
  · have HE := Lib.hid (HB6.out (by rw [h2]; simp))
    rw [h1] at M1
    rw [h2] at M2
    clear h1 h2 HB6 MC
    go_wp2_with fail
    refine (M1.out _).mono ?_
    rintro e w1 ⟨rfl, rfl⟩
    go_wp2_with fail
    refine (M2.out _).mono ?_
    rintro e w1 ⟨rfl, rfl⟩
    go_upto_region 2 with (fail)
    refine wp_region_lit ?_
    refine wpList_plain rfl (fun K hK => ?_)
    go_simp
    refine hK _ _ ?_
    clear hK K
    refine wpList_store_mid rfl 29 _ _ rfl (w.heap.size + 2) 0 (pc fun _ => 0).toArray rfl (congrArg Value.agg zeroPos) (by rw [pc_size]; exact HI.out.z.there) (by rw [infoPos, pc_size]) (pc_one _) ?_
    rw [List.toList_toArray]
    obtain ⟨hr1, hb1⟩ := HI.out.stored (Q := fun _ => 0)
    have HR := Lib.hid hr1
    have HB := Lib.hid hb1
    clear hr1 hb1 HI q0 q1 q2 qf qz
    refine forgetL_B (fun W => W.rangeAt (w.heap.size + 2) 0 (pc fun _ => 0) ∧ Below w.heap.size w W) ⟨HR.out, HB.out⟩ ?_
    clear HR HB
    rintro W8 ⟨hr1, hb1⟩
    have HR := Lib.hid hr1
    have HB := Lib.hid hb1
    clear hr1 hb1
    refine wpList_plain rfl (fun K hK => ?_)
    go_simp
    refine hK _ _ ?_
    clear hK K
    show Exit.then _ _ Exit.normal _ _
    refine ret_go (by assumption) ?_
    repeat (first | refine then_ret ?_ | refine block_ret ?_)
    refine bodyPost_ret (v := .tuple #[.agg (pc fun _ => 0).toArray, .int .i64 6]) ?_ rfl ⟨by rw [HZ.out, HE.out], HB.out⟩
    exact results_mid2 (p := 4) (u := 5) (ty := 29) rfl _ W8 (w.heap.size + 2) _ _ _ rfl rfl HR.out Tryz.underlying29 rfl (by rw [infoPos, pc_len])
  · have HE := Lib.hid (HB6.out (by simp))
    rw [h1] at M1
    clear h1 h2 HB6 MC M2
    go_wp2_with fail
    refine (M1.out _).mono ?_
    rintro e w1 ⟨rfl, rfl⟩
    go_wp2_with fail
    refine (M1.out _).mono ?_
    rintro e w1 ⟨rfl, rfl⟩
    go_upto_region 2 with (fail)
    refine wp_region_lit ?_
    refine wpList_plain rfl (fun K hK => ?_)
    go_simp
    refine hK _ _ ?_
    clear hK K
    refine wpList_store_mid rfl 29 _ _ rfl (w.heap.size + 2) 0 (pc fun _ => 0).toArray rfl (congrArg Value.agg zeroPos) (by rw [pc_size]; exact HI.out.z.there) (by rw [infoPos, pc_size]) (pc_one _) ?_
    rw [List.toList_toArray]
    obtain ⟨hr1, hb1⟩ := HI.out.stored (Q := fun _ => 0)
    have HR := Lib.hid hr1
    have HB := Lib.hid hb1
    clear hr1 hb1 HI q0 q1 q2 qf qz
    refine forgetL_B (fun W => W.rangeAt (w.heap.size + 2) 0 (pc fun _ => 0) ∧ Below w.heap.size w W) ⟨HR.out, HB.out⟩ ?_
    clear HR HB
    rintro W8 ⟨hr1, hb1⟩
    have HR := Lib.hid hr1
    have HB := Lib.hid hb1
    clear hr1 hb1
    refine wpList_plain rfl (fun K hK => ?_)
    go_simp
    refine hK _ _ ?_
    clear hK K
    show Exit.then _ _ Exit.normal _ _
    refine ret_go (by assumption) ?_
    repeat (first | refine then_ret ?_ | refine block_ret ?_)
    refine bodyPost_ret (v := .tuple #[.agg (pc fun _ => 0).toArray, .int .i64 6]) ?_ rfl ⟨by rw [HZ.out, HE.out], HB.out⟩
    exact results_mid2 (p := 4) (u := 5) (ty := 29) rfl _ W8 (w.heap.size + 2) _ _ _ rfl rfl HR.out Tryz.underlying29 rfl (by rw [infoPos, pc_len])
  · have HE := Lib.hid (MC.out h1 h2 hne).1
    have MCC := Lib.hid (MC.out h1 h2 hne).2
    have hne2 : (f == t) = false := beq_eq_false_iff_ne.2 hne
    rw [h1] at M1
    rw [h2] at M2
    clear h1 h2 HB6 MC
    go_wp2_with fail
    refine (M1.out _).mono ?_
    rintro e w1 ⟨rfl, rfl⟩
    go_wp2_with fail
    refine (M2.out _).mono ?_
    rintro e w1 ⟨rfl, rfl⟩
    go_wp2_with (refine wpList_pos (by rfl) _ (by rfl) w.heap.size P X HX.out (by rfl) HI.out.p ?_)
    refine (MCC.out _).mono ?_
    rintro e w1 ⟨rfl, hb1⟩
    replace HI := Lib.hid (HI.out.go hb1)
    clear q0 q1 q2 qf qz hb1
    obtain ⟨q0, q1, q2, qf, qz⟩ := row3 HI.out.m
    go_upto_region 4 with (fail)
    refine wp_region_lit ?_
    refine wpList_plain rfl (fun K hK => ?_)
    go_simp
    refine hK _ _ ?_
    clear hK K
    refine wpList_store_mid rfl 29 _ _ rfl (w.heap.size + 2) 0 (pc fun _ => 0).toArray rfl (congrArg Value.agg zeroPos) (by rw [pc_size]; exact HI.out.z.there) (by rw [infoPos, pc_size]) (pc_one _) ?_
    rw [List.toList_toArray]
    obtain ⟨hr1, hb1⟩ := HI.out.stored (Q := fun _ => 0)
    have HR := Lib.hid hr1
    have HB := Lib.hid hb1
    clear hr1 hb1 HI q0 q1 q2 qf qz
    refine forgetL_B (fun W => W.rangeAt (w.heap.size + 2) 0 (pc fun _ => 0) ∧ Below w.heap.size w W) ⟨HR.out, HB.out⟩ ?_
    clear HR HB
    rintro W8 ⟨hr1, hb1⟩
    have HR := Lib.hid hr1
    have HB := Lib.hid hb1
    clear hr1 hb1
    refine wpList_plain rfl (fun K hK => ?_)
    go_simp
    refine hK _ _ ?_
    clear hK K
    show Exit.then _ _ Exit.normal _ _
    refine ret_go (by assumption) ?_
    repeat (first | refine then_ret ?_ | refine block_ret ?_)
    refine bodyPost_ret (v := .tuple #[.agg (pc fun _ => 0).toArray, .int .i64 8]) ?_ rfl ⟨by rw [HZ.out, HE.out], HB.out⟩
    exact results_mid2 (p := 4) (u := 5) (ty := 29) rfl _ W8 (w.heap.size + 2) _ _ _ rfl rfl HR.out Tryz.underlying29 rfl (by rw [infoPos, pc_len])
theorem rMove_any (P : Nat → Int) (f t k : Int) (w : World) :
    Calls Tryz.prog 46 #[.agg (pc P).toArray, .agg #[.int .i64 f, .int .i64 t, .int .i64 k]] w fun e w' => e = .returned (.tuple #[.agg (pc (mvP P f t k)).toArray, .int .i64 (fltN (handP P) f t k)]) ∧ Below w.heap.size w w' := by
  by_cases hbad : fltN P f t k ≠ 0
  · exact rMove_bad P f t k w hbad
  have h0 : fltN P f t k = 0 := by omega
  rcases flt_cases P f t k with h | ⟨_, a, b, rfl, rfl, ha, hb⟩
  · rcases h with h | h <;> omega
  have hab : a ≠ b := by
    rintro rfl
    have := flt_bad P a a k (by simp)
    omega
  have hon := flt_on P a b k ha hb hab
  have hc : (ownB P a && becB P a b k) = true := by
    cases h : (ownB P a && becB P a b k)
    · rw [h] at hon; rw [hon] at h0; exact absurd h0 (by decide)
    · rfl
  have hown : ownB P a = true := by simp only [Bool.and_eq_true] at hc; exact hc.1
  have hparts : P (2 * a + 1) = P 128 ∧ (P 128 = 0 ∨ P 128 = 1) := by
    unfold ownB sideB at hown
    simp only [Bool.and_eq_true, Bool.or_eq_true, beq_iff_eq] at hown
    exact ⟨hown.1.1.2, hown.1.1.1⟩
  have hn : ((a : Nat) : Int).toNat = a := Int.toNat_natCast a
  have hn2 : ((b : Nat) : Int).toNat = b := Int.toNat_natCast b
  have htk : tkP P a b k = tksN P a b := by rw [tkP_eq, if_pos h0, hn, hn2]
  have key := rMove_go P (a : Int) (b : Int) k (tksN P a b) (by omega) (by omega) (by omega) w (fun W => by have := rCan_any P a b k ha hb W; rw [hc] at this; exact this) htk
    (by rcases tks_cases P a b ha hb with h | ⟨n, h, hn⟩ <;> omega) (by rw [hn, Nat.mul_comm a 2, hparts.1]; exact hparts.2) _ rfl _ rfl _ rfl _ rfl
  rw [hn, hn2, Nat.mul_comm a 2] at key
  have hm : mvP P a b k = cmN (handP P) a b k := by unfold mvP; rw [flt_hand, if_pos h0, hn, hn2]
  rw [rm_eq P a b k (tksN P a b) _ _ _ _ ha hb rfl hparts.1 hparts.2 rfl rfl rfl (by omega)] at key
  rw [hm, flt_hand, h0]
  exact key
end Go.Proofs.YthinkiljhkanhaaGreatDoor

namespace Go.Proofs.YthinkiljhkanhaaGreatDoor
open Go.RowKit
set_option linter.unusedSimpArgs false
set_option linter.unusedVariables false
set_option maxRecDepth 20000

variable {P : Program} {α : Type}

/-- THE ITERATOR's CONTRACT: of whatever loop l: the elements of xs come, in their order, until a round says 'no more'. N: the blocks that it reads; J: what the rounds keep, X: the blocks that they may turn. -/
def Comes2 (P : Program) (g : FuncId) (lb : Array Value) (N : Nat → Prop) (enc : α → Array Value) (xs : List α) (w : World) : Prop :=
  (∀ k, N k → k < w.heap.size) ∧ ∀ (l : Nat) (J Jx : List α → (Nat → Prop) → World → Prop) (X : Nat → Prop) (W : World), Below w.heap.size w W → (∀ k, X k → ¬ N k) →
    (∀ s X A B, J s X A → Spares W.heap.size X A B → J s X B) → (∀ s X A B, Jx s X A → Spares W.heap.size X A B → Jx s X B) →
    (∀ s X A, J s X A → ∀ k, X k → k < A.heap.size) →
    (∀ pre x X A, J pre X A → pre ++ [x] <+: xs → YieldAt Fence.wide 0 P l (enc x) A fun e B => ∃ Y, Turns X A B ∧ (∀ k, Y k → X k ∨ A.heap.size ≤ k) ∧
      ((e = .returned (.bool true) ∧ J (pre ++ [x]) Y B) ∨ (e = .returned (.bool false) ∧ Jx (pre ++ [x]) Y B))) →
    J [] X W →
    Calls P g (#[.func (.yield l) #[] #[]] ++ lb) W fun e B => (∃ v, e = .returned v) ∧ ∃ Y, J xs Y B ∨ ∃ pre, pre <+: xs ∧ Jx pre Y B
theorem Comes2.later {g : FuncId} {lb : Array Value} {N : Nat → Prop} {enc : α → Array Value} {xs : List α} {w w' : World} (h : Comes2 P g lb N enc xs w) (hb : Below w.heap.size w w') : Comes2 P g lb N enc xs w' :=
  ⟨fun k hk => Nat.lt_of_lt_of_le (h.1 k hk) hb.size, fun l J Jx X W hW => h.2 l J Jx X W (hb.trans (hW.mono hb.size))⟩

end Go.Proofs.YthinkiljhkanhaaGreatDoor
