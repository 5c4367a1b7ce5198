/-
  Contracts: the document's long steps.
-/
import Derived.Test.YtldepimkbnodpaaDoorPl
namespace Go.Proofs.YtldepimkbnodpaaDoor
open Go.RowKit Go.Sort
set_option linter.unusedSimpArgs false
set_option linter.unusedVariables false

theorem cast_ne {r k : Nat} (h : ¬ r = k) : (((r : Nat) : Int) == ((k : Nat) : Int)) = false := by simp; omega
theorem nat_ne {r k : Nat} (h : ¬ r = k) : (r == k) = false := beq_eq_false_iff_ne.2 h
def lngL (k d : Int) (sm : Bool) (r s : Int) : Bool := k == 1 && sm && ((d == 0 && r == 1 && s == 3) || (d == 1 && r == 6 && s == 4))
theorem lngL_w1 (s r : Int) (h : (r == 1) = false) : lngL 1 0 true r s = false := by unfold lngL; rw [h]; rfl
theorem lngL_w3 (s r : Int) (h : (s == 3) = false) : lngL 1 0 true r s = false := by unfold lngL; rw [h, Bool.and_false]; rfl
theorem lngL_b1 (s r : Int) (h : (r == 6) = false) : lngL 1 1 true r s = false := by unfold lngL; rw [h]; rfl
theorem lngL_b3 (s r : Int) (h : (s == 4) = false) : lngL 1 1 true r s = false := by unfold lngL; rw [h, Bool.and_false]; rfl
theorem lngL_k (k d : Int) (sm : Bool) (s r : Int) (h : (k == 1) = false) : lngL k d sm r s = false := by unfold lngL; rw [h]; rfl
theorem lngL_f (k d : Int) (s r : Int) : lngL k d false r s = false := by unfold lngL; rw [Bool.and_false]; rfl
theorem nat_int (n k : Nat) : (n == k) = ((n : Int) == (k : Int)) := by rw [Bool.eq_iff_iff, beq_iff_eq, beq_iff_eq]; omega
/-- a long step, of a piece -/
def lngR (k d : Int) (f t : Nat) : Bool := k == 1 && smF f t && ((d == 0 && f / 8 == 1 && t / 8 == 3) || (d == 1 && f / 8 == 6 && t / 8 == 4))
theorem lngR_L (kk d : Int) (f t : Nat) : lngR kk d f t = lngL kk d (smF f t) ((f : Int) / 8) ((t : Int) / 8) := by
  unfold lngR lngL
  rw [nat_int (f / 8) 1, nat_int (t / 8) 3, nat_int (f / 8) 6, nat_int (t / 8) 4, show ((f / 8 : Nat) : Int) = (f : Int) / 8 by omega, show ((t / 8 : Nat) : Int) = (t : Int) / 8 by omega]
  rfl
theorem lngR_eq (P : Nat → Int) (f t : Nat) (hf : f < 64) (ht : t < 64) (h : P (2 * f + 1) = P 128) (hd : P 128 = 0 ∨ P 128 = 1) : lngR (P (2 * f)) (P (2 * f + 1)) f t = lngB P f t := by
  unfold lngR lngB pwnB rkN
  rw [h]
  rcases hd with h0 | h0
  · rw [h0, if_pos rfl, if_pos rfl]
    have e1 : (((f / 8 : Nat) : Int) == 1) = (f / 8 == 1) := by rw [Bool.eq_iff_iff, beq_iff_eq, beq_iff_eq]; omega
    have e2 : (((t / 8 : Nat) : Int) == 3) = (t / 8 == 3) := by rw [Bool.eq_iff_iff, beq_iff_eq, beq_iff_eq]; omega
    rw [e1, e2]
    cases P (2 * f) == 1 <;> cases smF f t <;> simp
  · rw [h0, if_neg (show ¬ ((1 : Int) = 0) by omega), if_neg (show ¬ ((1 : Int) = 0) by omega)]
    have e1 : ((7 - ((f / 8 : Nat) : Int)) == 1) = (f / 8 == 6) := by rw [Bool.eq_iff_iff, beq_iff_eq, beq_iff_eq]; omega
    have e2 : ((7 - ((t / 8 : Nat) : Int)) == 3) = (t / 8 == 4) := by rw [Bool.eq_iff_iff, beq_iff_eq, beq_iff_eq]; omega
    rw [e1, e2]
    cases P (2 * f) == 1 <;> cases smF f t <;> simp
set_option maxHeartbeats 4000000 in
theorem rLong_any (kk d : Int) (f t : Nat) (k : Int) (hf : f < 64) (ht : t < 64) (hd : d = 0 ∨ d = 1) (w : World) :
    Calls Tryd.prog 31 #[.agg #[.int .i64 kk, .int .i64 d], .agg #[.int .i64 (f : Int), .int .i64 (t : Int), .int .i64 k]] w fun e w' => e = .returned (.bool (lngR kk d f t)) ∧ Below w.heap.size w w' := by
  have hv := lngR_L kk d f t
  have HB := Lib.hid (two_at w (.cells #[.int .i64 kk, .int .i64 d] 25) (.cells #[.int .i64 (f : Int), .int .i64 (t : Int), .int .i64 k] 38))
  obtain ⟨x, hx⟩ : ∃ x : Nat, f % 8 = x := ⟨_, rfl⟩
  obtain ⟨y, hy⟩ : ∃ y : Nat, t % 8 = y := ⟨_, rfl⟩
  obtain ⟨r, hr⟩ : ∃ r : Int, (f : Int) / 8 = r := ⟨_, rfl⟩
  obtain ⟨s, hs⟩ : ∃ s : Int, (t : Int) / 8 = s := ⟨_, rfl⟩
  have tm1 : (f : Int).tmod 8 = (x : Int) := by rw [Int.tmod_eq_emod_of_nonneg (by omega)]; omega
  have tm2 : (t : Int).tmod 8 = (y : Int) := by rw [Int.tmod_eq_emod_of_nonneg (by omega)]; omega
  have tm3 : (f : Int) % 8 = (x : Int) := by omega
  have tm4 : (t : Int) % 8 = (y : Int) := by omega
  have td1 : (f : Int).tdiv 8 = r := by rw [Int.tdiv_eq_ediv_of_nonneg (by omega)]; exact hr
  have td2 : (t : Int).tdiv 8 = s := by rw [Int.tdiv_eq_ediv_of_nonneg (by omega)]; exact hs
  have tw1 : wrap64 r = r := by unfold wrap64; omega
  have tw2 : wrap64 s = s := by unfold wrap64; omega
  obtain ⟨sm, hsm⟩ : ∃ s, smF f t = s := ⟨_, rfl⟩
  rw [hsm, hr, hs] at hv
  have hsm2 : ((x : Int) != (y : Int)) = !sm := by
    rw [← hsm]; unfold smF; rw [hx, hy]
    by_cases h : x = y
    · subst h; simp
    · have h2 : (x == y) = false := by simp [h]
      have h3 : ((x : Int) != (y : Int)) = true := by simp; omega
      rw [h2, h3]; rfl
  have HV := Lib.hid hv
  clear hv hx hy hsm
  go_enter Tryd.func31, Tryd.ntmps31
  go_upto_region 1 with (fail)
  refine forget_B (fun W => W.heap[w.heap.size]? = some (.cells #[.int .i64 kk, .int .i64 d] 25 (0, 0)) ∧ W.heap[w.heap.size + 1]? = some (.cells #[.int .i64 (f : Int), .int .i64 (t : Int), .int .i64 k] 38 (0, 0)) ∧ Below w.heap.size w W) ⟨HB.out.1, HB.out.2.1, HB.out.2.2.1⟩ ?_
  clear HB
  rintro W ⟨h1, h2, hb⟩
  have HB := Lib.hid hb
  obtain ⟨x1, x2, xf, xz⟩ := row2 h1
  obtain ⟨q0, q1, q2, qf, qz⟩ := row3 h2
  clear h1 h2 hb
  by_cases hk : kk = 1
  case neg =>
    have hk2 : (kk == 1) = false := by simp [hk]
    have hk3 : (kk != 1) = true := by simp [hk]
    go_wp2
    go_ret
    exact ⟨q_b (by rw [HV.out, lngL_k _ _ _ _ _ hk2]), HB.out⟩
  subst hk
  cases sm
  case false =>
    go_wp2
    go_ret
    exact ⟨q_b (by rw [HV.out, lngL_f]), HB.out⟩
  rcases hd with rfl | rfl
  · by_cases h1 : r = 1
    · subst h1
      by_cases h3 : s = 3
      · subst h3
        go_wp2
        go_ret
        exact ⟨q_b (by rw [HV.out]; rfl), HB.out⟩
      · have h3b : (s == 3) = false := beq_eq_false_iff_ne.2 h3
        have h3c := Lib.hid h3b
        have HF := Lib.hid (HV.out.trans (lngL_w3 _ _ h3c.out))
        clear h3c HV
        go_wp2
        go_ret
        exact ⟨q_b HF.out.symm, HB.out⟩
    · have h1b : (r == 1) = false := beq_eq_false_iff_ne.2 h1
      have h1c := Lib.hid h1b
      have HF := Lib.hid (HV.out.trans (lngL_w1 _ _ h1c.out))
      clear h1c HV
      go_wp2
      go_ret
      exact ⟨q_b HF.out.symm, HB.out⟩
  · by_cases h1 : r = 6
    · subst h1
      by_cases h3 : s = 4
      · subst h3
        go_wp2
        go_ret
        exact ⟨q_b (by rw [HV.out]; rfl), HB.out⟩
      · have h3b : (s == 4) = false := beq_eq_false_iff_ne.2 h3
        have h3c := Lib.hid h3b
        have HF := Lib.hid (HV.out.trans (lngL_b3 _ _ h3c.out))
        clear h3c HV
        go_wp2
        go_ret
        exact ⟨q_b HF.out.symm, HB.out⟩
    · have h1b : (r == 6) = false := beq_eq_false_iff_ne.2 h1
      have h1c := Lib.hid h1b
      have HF := Lib.hid (HV.out.trans (lngL_b1 _ _ h1c.out))
      clear h1c HV
      go_wp2
      go_ret
      exact ⟨q_b HF.out.symm, HB.out⟩
end Go.Proofs.YtldepimkbnodpaaDoor
