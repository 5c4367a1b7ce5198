/-
  The walk of the law BitsBack.
-/
import Derived.Test.YtgkaoagalifklaaBytesLaw
namespace Go.Proofs.Ytgkaoagalifklaa
open Go.RowKit
set_option linter.unusedVariables false

theorem turn_turn (x : BitVec 32) (r s : Nat) (hr : r < 32) (hs : s < 32) : turn (turn x r) s = turn x ((r + s) % 32) := by
  apply BitVec.eq_of_getLsbD_eq
  intro j hj
  rw [turn_bit _ _ _ hs hj, turn_bit _ _ _ hr (by omega), turn_bit _ _ _ (by omega) hj]
  congr 1
  omega
theorem turn_zero (x : BitVec 32) : turn x 0 = x := by
  apply BitVec.eq_of_getLsbD_eq
  intro j hj
  rw [turn_bit _ _ _ (by omega) hj, Nat.add_zero, Nat.mod_eq_of_lt hj]
theorem turn_back (x : BitVec 32) (n : Int) : turn (turn x (n % 32 % 32).toNat) (-(n % 32) % 32).toNat = x := by
  rw [turn_turn _ _ _ (by omega) (by omega), show ((n % 32 % 32).toNat + (-(n % 32) % 32).toNat) % 32 = 0 by omega, turn_zero]
theorem turn_both (x : BitVec 32) (n m : Int) : turn (turn x (n % 32 % 32).toNat) (m % 32 % 32).toNat = turn x ((n % 32 + m % 32) % 32).toNat := by
  rw [turn_turn _ _ _ (by omega) (by omega)]; congr 1; omega
theorem turn_less (x : BitVec 32) (n : Int) : turn x ((n % 32 - 32) % 32).toNat = turn x (n % 32 % 32).toNat := by
  congr 1; omega

set_option maxHeartbeats 400000 in
theorem pick_32 (n : Int) (w : World) (h0 : -9223372036854775808 ≤ n) (h1 : n ≤ 9223372036854775807) :
    Calls Try.prog 36 #[.int .i64 n, .int .i64 32] w fun e w' => e = .returned (.int .i64 (n % 32)) ∧ w = w' := by
  have h2 := Int.mul_tdiv_add_tmod n 32
  have h3 := Int.tmod_lt_of_pos n (b := 32) (by omega)
  have h4 := Int.lt_tmod_of_pos n (b := 32) (by omega)
  have H2 := Lib.hid h2
  clear h2
  by_cases h : n.tmod 32 < 0
  all_goals
    go_enter Try.func36, Try.ntmps36
    go_wp2
    go_ret
    exact ⟨ret_i (by have := H2.out; omega), rfl⟩

set_option maxHeartbeats 2000000 in
set_option maxRecDepth 100000 in
theorem back_walk (x : BitVec 32) (n m : Int) (p : Option Addr) (len cap : Nat) (h : Nat → Int) (p2 : Option Addr) (len2 cap2 : Nat) (h2 : Nat → Int) (w : World)
    (n0 : -9223372036854775808 ≤ n) (n1 : n ≤ 9223372036854775807) (m0 : -9223372036854775808 ≤ m) (m1 : m ≤ 9223372036854775807)
    (hr : Reads w.heap.size w p len (fun i => .int .u32 (h i))) (hw : ∀ i, i < len → (Lit.int .u32 (h i)).wf = true)
    (hr2 : Reads w.heap.size w p2 len2 (fun i => .int .u8 (h2 i))) (hw2 : ∀ i, i < len2 → (Lit.int .u8 (h2 i)).wf = true)
    (hm : len ≤ 140737488351232) (hm2 : len2 ≤ 140737488351232) :
    Calls Try.prog 7 #[.int .u32 (u x), .int .i64 n, .int .i64 m, .slice p len cap, .slice p2 len2 cap2] w fun e w' => e = .returned (.bool true) ∧ Below w.heap.size w w' := by
  by_cases hlen : 1000 < (len : Int) + len2
  · go_enter Try.func7, Try.ntmps7
    go_wp2_with fail
    refine (awake_any _).mono ?_
    rintro e w1 ⟨rfl, hb1⟩
    go_wp2
    go_ret
    exact ⟨rfl, hb1⟩
  · obtain ⟨f, hf, hrf⟩ := row_words hr hw
    obtain ⟨g, hg, hrg⟩ := row_bytes hr2 hw2
    have HRF := Lib.hid hrf
    have HRG := Lib.hid hrg
    clear hw hr hf hrf hw2 hr2 hg hrg
    obtain ⟨t1, ht1⟩ : ∃ t, turn x (n % 32 % 32).toNat = t := ⟨_, rfl⟩
    obtain ⟨t2, ht2⟩ : ∃ t, turn x ((n % 32 + m % 32) % 32).toNat = t := ⟨_, rfl⟩
    have a1 := turn_back x n
    have a2 := turn_both x n m
    have a3 := turn_less x n
    rw [ht1] at a1 a2 a3
    rw [ht2] at a2
    have HT1 := Lib.hid ht1
    have HT2 := Lib.hid ht2
    have A1 := Lib.hid a1
    have A2 := Lib.hid a2
    have A3 := Lib.hid a3
    clear ht1 ht2 a1 a2 a3
    go_enter Try.func7, Try.ntmps7
    go_wp2_with fail
    refine (awake_any _).mono ?_
    rintro e w1 ⟨rfl, hb1⟩
    have z1 := hb1.size
    go_wp2_with fail
    refine (pick_32 n _ n0 n1).mono ?_
    rintro e w' ⟨rfl, rfl⟩
    go_wp2_with fail
    refine (pick_32 m _ m0 m1).mono ?_
    rintro e w' ⟨rfl, rfl⟩
    go_wp2_with fail
    refine (turn_at (s := u t1) _ _ rfl rfl HT1.out).mono ?_
    rintro e w' ⟨rfl, rfl⟩
    go_wp2_with fail
    refine (turn_at (s := u x) _ _ rfl rfl A1.out).mono ?_
    rintro e w' ⟨rfl, rfl⟩
    go_wp2_with fail
    refine (turn_at (s := u t1) _ _ rfl rfl HT1.out).mono ?_
    rintro e w' ⟨rfl, rfl⟩
    go_wp2_with fail
    refine (turn_at (s := u t2) _ _ rfl rfl A2.out).mono ?_
    rintro e w' ⟨rfl, rfl⟩
    go_wp2_with fail
    refine (turn_at (s := u t2) _ _ rfl rfl HT2.out).mono ?_
    rintro e w' ⟨rfl, rfl⟩
    go_wp2_with fail
    refine (turn_at (s := u t1) _ _ rfl rfl HT1.out).mono ?_
    rintro e w' ⟨rfl, rfl⟩
    go_wp2_with fail
    refine (turn_at (s := u t1) _ _ rfl rfl A3.out).mono ?_
    rintro e w' ⟨rfl, rfl⟩
    go_wp2_with fail
    refine (bytes_any p len cap f w1 (by omega) ((HRF.out.below hb1).mono z1)).mono ?_
    rintro e w2 ⟨out, rfl, hb2, hown2⟩
    have z2 := hb2.size
    have b2 : Below w.heap.size w w2 := hb1.trans (hb2.mono z1)
    obtain ⟨po, co, rfl, hro, _⟩ := owns_reads hown2
    have HRO := Lib.hid hro
    clear hown2 hro
    go_wp2_with fail
    refine (words_any w2.heap.size (4 * len) co po (wb f) w2 (by omega) (Nat.le_refl _) HRO.out).mono ?_
    rintro e w3 ⟨wv, q, y, rfl, hb3, hown3, hq3⟩
    have z3 := hb3.size
    have b3 : Below w.heap.size w w3 := b2.trans (hb3.mono (by omega))
    obtain rfl : y = 0 := by omega
    obtain rfl : q = len := by omega
    obtain ⟨pw, cw, rfl, hrw, _⟩ := owns_reads hown3
    have HRW := Lib.hid hrw
    clear hown3 hrw hq3
    go_wp2_with fail
    refine (LentLimbs.same w3.heap.size pw p q q cw cap (fun i => u (bw (wb f) i)) (fun i => u (f i)) w3 (by omega) (by omega) HRW.out ((HRF.out.below b3).mono (by omega)) rfl (fun i _ => by rw [bw_wb])).mono ?_
    rintro e w4 ⟨rfl, hb4⟩
    have z4 := hb4.size
    have b4 : Below w.heap.size w w4 := b3.trans (hb4.mono (by omega))
    go_wp2_with fail
    refine (words_any w.heap.size len2 cap2 p2 g w4 (by omega) (by omega) (HRG.out.below b4)).mono ?_
    rintro e w5 ⟨wv, q2, y, rfl, hb5, hown5, hq5⟩
    have z5 := hb5.size
    have b5 : Below w.heap.size w w5 := b4.trans (hb5.mono (by omega))
    rcases hq5 with ⟨hno, rfl, rfl⟩ | ⟨rfl, rfl⟩
    · have hne : ((len2 : Int) % 4 != 0) = true := by simp; omega
      go_wp2
      go_ret
      exact ⟨rfl, b5⟩
    · obtain ⟨pv, cv, rfl, hrv, _⟩ := owns_reads hown5
      have HRV := Lib.hid hrv
      clear hown5 hrv
      go_wp2_with fail
      refine (bytes_any pv q2 cv (bw g) w5 (by omega) HRV.out).mono ?_
      rintro e w6 ⟨out, rfl, hb6, hown6⟩
      have z6 := hb6.size
      have b6 : Below w.heap.size w w6 := b5.trans (hb6.mono (by omega))
      obtain ⟨pb, cb, rfl, hrb, _⟩ := owns_reads hown6
      have HRB := Lib.hid hrb
      clear hown6 hrb
      go_wp2_with fail
      refine (LentBytes.same w6.heap.size pb p2 (4 * q2) (4 * q2) cb cap2 (fun i => ub (wb (bw g) i)) (fun i => ub (g i)) w6 (by omega) (by omega) HRB.out ((HRG.out.below b6).mono (by omega)) rfl (fun i _ => by rw [wb_bw])).mono ?_
      rintro e w7 ⟨rfl, hb7⟩
      go_wp2
      go_ret
      exact ⟨rfl, b6.trans (hb7.mono (by omega))⟩
end Go.Proofs.Ytgkaoagalifklaa
