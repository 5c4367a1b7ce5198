/-
  Contracts: the document's Move is the package's.
-/
import Derived.Test.YtldepimkbnodpaaDoorPq
import Derived.Test.YtldepimkbnodpaaDoorPj
namespace Go.Proofs.YtldepimkbnodpaaDoor
open Go.RowKit Go.Sort
set_option linter.unusedSimpArgs false
set_option linter.unusedVariables false

theorem set_pt (R : Nat → Int) (t : Nat) (a d k : Int) : setN (ptN R t a d) (t * 2) k = ptN R t k d := by
  funext i
  rw [set_at, ptN_at, ptN_at]
  by_cases h : i = 2 * t
  · rw [if_pos (by omega), if_pos h]
  · rw [if_neg (by omega), if_neg h, if_neg h]
theorem low_eq (P C : Nat → Int) (f t : Nat) (k tk : Int) (hf : f < 64) (hC : ∀ i, i < 128 → C i = P i) (htk : tk = -1 ∨ ∃ n : Nat, tk = n) : ∀ i, i < 128 → rm2 (rm1 P tk) f t k (P (2 * f)) (P (2 * f + 1)) i = putM C f t k tk i := by
  have key : ∀ R S : Nat → Int, (∀ i, i < 128 → R i = S i) → ∀ i, i < 128 → (if k == 0 then ptN R t (P (2 * f)) (P (2 * f + 1)) else setN (ptN R t (P (2 * f)) (P (2 * f + 1))) (t * 2) k) i = ptN S t (if k == 0 then P (2 * f) else k) (P (2 * f + 1)) i := by
    intro R S h i hi
    by_cases hk : k = 0
    · have h1 : (k == 0) = true := by simp [hk]
      rw [h1, if_pos rfl, if_pos rfl]; exact pt_low h _ _ _ i hi
    · have h1 : (k == 0) = false := by simp [hk]
      rw [h1, if_neg (by decide), if_neg (by decide), set_pt]; exact pt_low h _ _ _ i hi
  intro i hi
  unfold rm2 putM
  rw [hC _ (by omega), hC _ (by omega)]
  have hC2 : ∀ i, i < 128 → P i = C i := fun i hi => (hC i hi).symm
  rcases htk with rfl | ⟨n, rfl⟩
  · exact key _ _ (pt_low hC2 f 0 0) i hi
  · have h1 : (((n : Int)) == -1) = false := beq_eq_false_iff_ne.2 (by omega)
    have h2 : rm1 P (n : Int) = ptN P n 0 0 := by unfold rm1; rw [decide_eq_true (by omega), if_pos rfl, Int.toNat_natCast]
    simp only [h1, Bool.false_eq_true, if_false]
    rw [Int.toNat_natCast, h2, ptN_zero2 P n f]
    exact key _ _ (pt_low (pt_low hC2 f 0 0) n 0 0) i hi
theorem rm_low (R : Nat → Int) (od ca md ha sd fu : Int) (lg z : Bool) (i : Nat) (hi : i < 128) : rm7 (rm6 (rm5 (rm4 R od ca) lg md) ha z) sd fu i = R i := by
  have h4 : rm4 R od ca i = R i := by unfold rm4; rw [set_at, if_neg (by omega), set_at, if_neg (by omega), set_at, if_neg (by omega)]
  have h5 : rm5 (rm4 R od ca) lg md i = R i := by
    unfold rm5; split
    · rw [set_at, if_neg (by omega)]; exact h4
    · exact h4
  have h6 : rm6 (rm5 (rm4 R od ca) lg md) ha z i = R i := by
    unfold rm6; split
    · rw [set_at, if_neg (by omega), set_at, if_neg (by omega)]; exact h5
    · rw [set_at, if_neg (by omega)]; exact h5
  unfold rm7; split
  · rw [set_at, if_neg (by omega)]; exact h6
  · exact h6
theorem rm3_high (R : Nat → Int) (f : Nat) (cs dd : Int) (i : Nat) (hi : 128 ≤ i) (hf : f < 61) : rm3 R f cs dd i = R i := by
  unfold rm3
  split
  · rw [pt_high _ _ (by omega) _ _ _ hi, pt_high _ _ (by omega) _ _ _ hi]
  · split
    · rw [pt_high _ _ (by omega) _ _ _ hi, pt_high _ _ (by omega) _ _ _ hi]
    · rfl
theorem rm2_high (P : Nat → Int) (f t : Nat) (k kk dd tk : Int) (hf : f < 64) (ht : t < 64) (htk : tk = -1 ∨ ∃ n : Nat, tk = n ∧ n < 64) (i : Nat) (hi : 128 ≤ i) : rm2 (rm1 P tk) f t k kk dd i = P i := by
  have h1 : rm1 P tk i = P i := by
    unfold rm1; split
    · rcases htk with rfl | ⟨n, rfl, hn⟩
      · rename_i h; simp at h
      · rw [Int.toNat_natCast, pt_high _ _ hn _ _ _ hi]
    · rfl
  unfold rm2; split
  · rw [pt_high _ _ ht _ _ _ hi, pt_high _ _ hf _ _ _ hi, h1]
  · rw [set_at, if_neg (by omega), pt_high _ _ ht _ _ _ hi, pt_high _ _ hf _ _ _ hi, h1]
theorem putM_high (C : Nat → Int) (f t : Nat) (k tk : Int) (hf : f < 64) (ht : t < 64) (htk : tk = -1 ∨ ∃ n : Nat, tk = n ∧ n < 64) (i : Nat) (hi : 128 ≤ i) : putM C f t k tk i = C i := by
  unfold putM
  rw [pt_high _ _ ht _ _ _ hi]
  split
  · rw [pt_high _ _ hf _ _ _ hi]
  · rcases htk with rfl | ⟨n, rfl, hn⟩
    · rename_i h; simp at h
    · rw [Int.toNat_natCast, pt_high _ _ hn _ _ _ hi, pt_high _ _ hf _ _ _ hi]
set_option maxHeartbeats 1000000 in
theorem rm_eq (P : Nat → Int) (f t : Nat) (k tk cs ca md : Int) (lg : Bool) (hf : f < 64) (ht : t < 64) (htk : tksN P f t = tk) (hown : P (2 * f + 1) = P 128) (hd : P 128 = 0 ∨ P 128 = 1)
    (hcs : cslV (cas0 (P 129)) (P (2 * f)) (P (2 * f + 1)) (f : Int) (t : Int) = cs) (hca : wtS (wtS (cas0 (P 129)) (lostN f) 4) (lostN t) 4 = ca) (hlg : lngR (P (2 * f)) (P (2 * f + 1)) f t = lg) (hmd : ((f + t) / 2 : Nat) = md) :
    rmN P f t k (P (2 * f)) (P (2 * f + 1)) tk cs (oth (P 128)) ca lg md = cmN (handP P) f t k := by
  have hH : tksN (handP P) f t = tk := by rw [tks_hand P f t hf ht, htk]
  have hpw : pwnB (handP P) f = pwnB P f := pwn_hand P f hf
  have htc : tk = -1 ∨ ∃ n : Nat, tk = n ∧ n < 64 := by rw [← htk]; exact tks_cases P f t hf ht
  have hzz : (pwnB (handP P) f || (tk != -1)) = (P (2 * f) == 1 || decide (0 ≤ tk)) := by
    rw [hpw]; unfold pwnB
    rcases htc with rfl | ⟨n, rfl, hn⟩
    · rfl
    · rw [decide_eq_true (by omega : (0 : Int) ≤ n), show ((n : Int) != -1) = true by unfold bne; rw [beq_eq_false_iff_ne.2 (by omega)]; rfl]
  have hov : ovrN (handP P) f t = if lg then md else -1 := by
    unfold ovrN
    rw [lng_hand P f t hf, ← lngR_eq P f t hf ht hown hd, hlg, ← hmd]
  have hrel := csl_rel P f t hf (by rw [hown]; exact hd) cs hcs
  generalize hz : (P (2 * f) == 1 || decide (0 ≤ tk)) = z at hzz
  have hC : ∀ i, i < 128 → cntN (handP P) z i = P i := fun i hi => by rw [cnt_low _ _ _ (by omega), hand_at P i (by omega)]
  have hlow := low_eq P (cntN (handP P) z) f t k tk hf hC (htc.imp id fun ⟨n, h, _⟩ => ⟨n, h⟩)
  -- the pieces
  have hpl : ∀ i, i < 128 → rm3 (rm2 (rm1 P tk) f t k (P (2 * f)) (P (2 * f + 1))) f cs (P (2 * f + 1)) i = pcsN (handP P) f t k i := by
    unfold pcsN
    rw [hH, hzz]
    rcases hrel with ⟨rfl, h⟩ | ⟨rfl, rfl, rfl, h2, h⟩ | ⟨rfl, rfl, rfl, h2, h⟩ | ⟨rfl, rfl, rfl, h2, h⟩ | ⟨rfl, rfl, rfl, h2, h⟩
    · rw [h]; exact hlow
    all_goals
      rw [h]
      rw [h2] at hlow ⊢
      exact pt_low (pt_low hlow _ _ _) _ _ _
  have hph : ∀ i, 128 ≤ i → pcsN (handP P) f t k i = cntN (handP P) z i := fun i hi => by
    unfold pcsN
    rw [hH, hzz]
    rcases hrel with ⟨rfl, h⟩ | ⟨rfl, rfl, rfl, h2, h⟩ | ⟨rfl, rfl, rfl, h2, h⟩ | ⟨rfl, rfl, rfl, h2, h⟩ | ⟨rfl, rfl, rfl, h2, h⟩
    · rw [h]; exact putM_high _ f t k tk hf ht htc i hi
    all_goals
      rw [h]
      show ptN (ptN _ _ 0 0) _ 4 _ i = _
      rw [pt_high _ _ (by decide) _ _ _ hi, pt_high _ _ (by decide) _ _ _ hi]
      exact putM_high _ _ _ k tk hf ht htc i hi
  have hrh : ∀ i, 128 ≤ i → rm3 (rm2 (rm1 P tk) f t k (P (2 * f)) (P (2 * f + 1))) f cs (P (2 * f + 1)) i = P i := fun i hi => by
    rcases hrel with ⟨rfl, h⟩ | ⟨rfl, rfl, rfl, h2, h⟩ | ⟨rfl, rfl, rfl, h2, h⟩ | ⟨rfl, rfl, rfl, h2, h⟩ | ⟨rfl, rfl, rfl, h2, h⟩
    · exact rm2_high P f t k _ _ tk hf ht htc i hi
    all_goals
      rw [rm3_high _ _ _ _ _ hi (by omega)]
      exact rm2_high P _ _ k _ _ tk hf ht htc i hi
  have c1 : cntN (handP P) z 128 = P 128 := by rw [cnt_low _ _ _ (by omega), hand_at P _ (by omega)]
  have c2 : cntN (handP P) z 129 = cas0 (P 129) := by rw [cnt_low _ _ _ (by omega), hand_cas]
  unfold rmN cmN
  rw [hz, hov]
  generalize rm3 (rm2 (rm1 P tk) f t k (P (2 * f)) (P (2 * f + 1))) f cs (P (2 * f + 1)) = R at *
  generalize pcsN (handP P) f t k = S at *
  have e128 := hph 128 (by omega)
  have e129 := hph 129 (by omega)
  rw [c1] at e128
  rw [c2] at e129
  funext i
  by_cases hi : i < 128
  · rw [rm_low _ _ _ _ _ _ _ _ _ i hi, hpl i hi]
    unfold lstN
    rw [set_at, if_neg (by omega), set_at, if_neg (by omega), set_at, if_neg (by omega)]
  · unfold lstN
    rw [e128, e129]
    have ech := cas_eq (cas0 (P 129)) (cas0_range _).1 (cas0_range _).2 f t
    rw [hca] at ech
    rw [← ech]
    have hcnt : ∀ i, 130 ≤ i → cntN (handP P) z i = if i = 132 then (if P 128 == 1 then incN (P 132) 16384 else P 132) else if i = 131 then (if z then 0 else incN (P 131) 1024) else P i := fun i hi => by
      unfold cntN
      rw [hand_at P 128 (by omega), hand_at P 131 (by omega), hand_at P 132 (by omega)]
      by_cases h1 : i = 132
      · subst h1
        rw [if_pos rfl]
        split
        · rw [set_at, if_pos rfl]
        · rw [set_at, if_neg (by omega), hand_at P _ (by omega)]
      · rw [if_neg h1]
        by_cases h2 : i = 131
        · subst h2
          rw [if_pos rfl]
          split
          · rw [set_at, if_neg (by omega), set_at, if_pos rfl]
          · rw [set_at, if_pos rfl]
        · rw [if_neg h2]
          split
          · rw [set_at, if_neg h1, set_at, if_neg h2, hand_at P _ (by omega)]
          · rw [set_at, if_neg h2, hand_at P _ (by omega)]
    have hrm : rm7 (rm6 (rm5 (rm4 R (oth (P 128)) ca) lg md) (P 131) z) (P 128) (P 132) i = if i = 132 then (if P 128 == 1 then incN (P 132) 16384 else R 132) else if i = 131 then (if z then 0 else incN (P 131) 1024) else if i = 130 then (if lg then md else -1) else if i = 129 then ca else if i = 128 then oth (P 128) else R i := by
      unfold rm7 rm6 rm5 rm4
      rw [min_half, min_full]
      by_cases h1 : i = 132
      · subst h1; cases P 128 == 1 <;> cases z <;> cases lg <;> rfl
      · rw [if_neg h1]
        by_cases h2 : i = 131
        · subst h2; cases P 128 == 1 <;> cases z <;> cases lg <;> rfl
        · rw [if_neg h2]
          by_cases h3 : i = 130
          · subst h3; cases P 128 == 1 <;> cases z <;> cases lg <;> rfl
          · rw [if_neg h3]
            by_cases h4 : i = 129
            · subst h4; cases P 128 == 1 <;> cases z <;> cases lg <;> rfl
            · rw [if_neg h4]
              by_cases h5 : i = 128
              · subst h5; cases P 128 == 1 <;> cases z <;> cases lg <;> rfl
              · rw [if_neg h5]
                cases P 128 == 1 <;> cases z <;> cases lg <;> simp only [if_true, if_false, Bool.false_eq_true, set_at, h1, h2, h3, h4, h5]
    rw [hrm]
    simp only [set_at]
    by_cases h5 : i = 128
    · subst h5; rfl
    by_cases h3 : i = 130
    · subst h3; rfl
    by_cases h4 : i = 129
    · subst h4; rfl
    rw [if_neg h5, if_neg h3, if_neg h4, if_neg h3, if_neg h4, if_neg h5, hph i (by omega), hcnt i (by omega), hrh i (by omega), hrh 132 (by omega)]
end Go.Proofs.YtldepimkbnodpaaDoor
