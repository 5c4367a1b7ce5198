/-
  Contracts: the document's answers on words (turn, mix, shift, choose, most, sum), place by place.
-/
import Derived.Test.YthhjieagdkimfaaDoorMath
namespace Go.Proofs.YthhjieagdkimfaaDoor
open Go.RowKit
set_option linter.unusedSimpArgs false
set_option linter.unusedVariables false

theorem u_tmod2 (x : BitVec 32) : (u x).tmod 2 = u x % 2 := Int.tmod_eq_emod_of_nonneg (u_lo x)
theorem u_odd (x : BitVec 32) : (u x % 2 == 1) = x.getLsbD 0 := by
  unfold u
  have h : x.getLsbD 0 = decide (x.toNat % 2 = 1) := by
    rw [BitVec.getLsbD, Nat.testBit_zero]
  rw [h, Bool.eq_iff_iff]
  simp; omega
attribute [go_sem] u_tmod2 u_odd

theorem getLsb_min (x : BitVec 32) (k : Nat) : x.getLsbD (min k 32) = x.getLsbD k := by
  by_cases h : k ≤ 32
  · rw [Nat.min_eq_left h]
  · rw [Nat.min_eq_right (by omega), BitVec.getLsbD_of_ge x 32 (Nat.le_refl _), BitVec.getLsbD_of_ge x k (by omega)]
theorem ret_b {a b : Bool} (h : a = b) : Ending.returned (.bool a) = .returned (.bool b) := by rw [h]
theorem ret_i {k : IntKind} {a b : Int} (h : a = b) : Ending.returned (.int k a) = .returned (.int k b) := by rw [h]

set_option maxHeartbeats 400000 in
theorem bit_at (x : BitVec 32) (k : Int) (w : World) (h0 : 0 ≤ k) (h1 : k ≤ 9223372036854775807) :
    Calls Tryd.prog 76 #[.int .u32 (u x), .int .i64 k] w fun e w' => e = .returned (.bool (x.getLsbD k.toNat)) ∧ w = w' := by
  go_enter Tryd.func76, Tryd.ntmps76
  go_wp2
  go_ret
  exact ⟨ret_b (getLsb_min _ _), rfl⟩
theorem place_at (k : Int) (b : Bool) (w : World) (h0 : 0 ≤ k) (h1 : k < 32) :
    Calls Tryd.prog 78 #[.int .i64 k, .bool b] w fun e w' => e = .returned (.int .u32 (u (if b then 1#32 <<< k.toNat else 0#32))) ∧ w = w' := by
  cases b
  all_goals
    go_enter Tryd.func78, Tryd.ntmps78
    go_wp2
    go_ret
  · exact ⟨rfl, rfl⟩
  · exact ⟨rfl, rfl⟩
theorem low_at (n : Int) (w : World) (h0 : -9223372036854775808 ≤ n) (h1 : n ≤ 9223372036854775807) :
    Calls Tryd.prog 77 #[.int .i64 n] w fun e w' => e = .returned (.int .i64 (n % 32)) ∧ w = w' := by
  have h2 := Int.mul_tdiv_add_tmod n 32
  have h3 := Int.tmod_lt_of_pos n (b := 32) (by omega)
  have h4 := Int.lt_tmod_of_pos n (b := 32) (by omega)
  have H2 := Lib.hid h2
  clear h2
  by_cases h : n.tmod 32 < 0
  all_goals
    go_enter Tryd.func77, Tryd.ntmps77
    go_wp2
    go_ret
    exact ⟨ret_i (by have := H2.out; omega), rfl⟩

/-- the word that has a 1 just at those of the first places where g says so -/
def pl (g : Nat → Bool) : Nat → BitVec 32
  | 0 => 0#32
  | k + 1 => pl g k + if g k then 1#32 <<< k else 0#32
theorem pl_bit (g : Nat → Bool) (k j : Nat) (hk : k ≤ 32) (hj : j < 32) : (pl g k).getLsbD j = (decide (j < k) && g j) := by
  induction k generalizing j with
  | zero => simp [pl]
  | succ k ih =>
    have h1 : ∀ i, i < 32 → (if g k then 1#32 <<< k else 0#32 : BitVec 32).getLsbD i = (decide (i = k) && g k) := by
      intro i hi
      cases hg : g k
      · simp
      · rw [if_pos rfl, BitVec.getLsbD_shiftLeft, BitVec.getLsbD_one]
        by_cases e : i = k
        · subst e; simp [hi]
        · by_cases e2 : i < k
          · simp [e, e2]
          · simp [e, e2]; omega
    have hz : pl g k &&& (if g k then 1#32 <<< k else 0#32) = 0#32 := by
      apply BitVec.eq_of_getLsbD_eq
      intro i hi
      rw [BitVec.getLsbD_and, ih i (by omega) hi, h1 i hi, BitVec.getLsbD_zero]
      by_cases e : i = k
      · subst e; simp
      · simp [e]
    simp only [pl]
    rw [BitVec.add_eq_or_of_and_eq_zero _ _ hz, BitVec.getLsbD_or, ih j (by omega) hj, h1 j hj]
    by_cases e : j = k
    · subst e; simp
    · have e3 : decide (j < k + 1) = decide (j < k) := by simp; omega
      rw [e3]; simp [e]
theorem pl_eq (g : Nat → Bool) (x : BitVec 32) (h : ∀ j, j < 32 → g j = x.getLsbD j) : pl g 32 = x := by
  apply BitVec.eq_of_getLsbD_eq
  intro j hj
  rw [pl_bit g 32 j (by omega) hj, h j hj]; simp [hj]
theorem pl_step (g : Nat → Bool) (k : Nat) (b : Bool) (h : b = g k) : u (pl g k + if b then 1#32 <<< k else 0#32) = u (pl g (k + 1)) := by
  subst h; rfl
theorem pl_skip (g : Nat → Bool) (k : Nat) (h : false = g k) : u (pl g k) = u (pl g (k + 1)) := by
  simp only [pl]; rw [← h]; simp
theorem val_u {a b : Int} (h : a = b) : Value.int .u32 a = .int .u32 b := by rw [h]

/-- whether an odd number of the first of x, turned, have a 1 at place k -/
def par (x : BitVec 32) (h : Nat → Int) (k : Nat) : Nat → Bool
  | 0 => false
  | m + 1 => (par x h k m) ^^ x.getLsbD ((k + (h m % 32).toNat) % 32)
theorem par_step (x : BitVec 32) (h : Nat → Int) (k m : Nat) (b : Bool) (hb : x.getLsbD (((k : Int) + h m) % 32).toNat = b) : par x h k (m + 1) = ((par x h k m) ^^ b) := by
  simp only [par]
  rw [← hb]
  congr 2
  omega
theorem val_b {a b : Bool} (h : a = b) : Value.bool a = .bool b := by rw [h]

set_option maxHeartbeats 800000 in
theorem ref_mix (B : Nat) (x : BitVec 32) (p : Option Addr) (n cap : Nat) (h : Nat → Int) (w : World) (hn : n ≤ 9223372036854775807) (hh : ∀ i, i < n → -9223372036854775808 ≤ h i ∧ h i ≤ 9223372036854775807) (hr : Reads B w p n (fun i => .int .i64 (h i))) :
    Calls Tryd.prog 50 #[.int .u32 (u x), .slice p n cap] w fun e w' => e = .returned (.int .u32 (u (pl (fun k => par x h k n) 32))) ∧ w = w' := by
  obtain ⟨g, hg⟩ : ∃ g : Nat → Bool, g = (fun k => par x h k n) := ⟨_, rfl⟩
  rw [← hg]
  have HG := Lib.hid hg
  have HH := Lib.hid hh
  clear hg hh
  go_enter Tryd.func50, Tryd.ntmps50
  go_wp2
  go_loop [5, 6] (fun t i => ∃ k : Nat, k ≤ 32 ∧ i = .int .i64 k ∧ t = .int .u32 (u (pl g k))) (fun _ i => 32 - (intOf i).toNat)
  case atStart => exact ⟨0, Nat.zero_le _, rfl, rfl⟩
  case round =>
    obtain ⟨k, hk, rfl, rfl⟩ := hrel
    by_cases hlt : k < 32
    · go_wp2
      go_loop [7, 8] (fun o i => ∃ m : Nat, m ≤ n ∧ i = .int .i64 m ∧ o = .bool (par x h k m)) (fun _ i => n - (intOf i).toNat)
      case atStart => exact ⟨0, Nat.zero_le _, rfl, rfl⟩
      case round =>
        obtain ⟨m, hm, rfl, rfl⟩ := hrel
        by_cases hmn : m < n
        · rcases hr with hr | ⟨b, off, rfl, hb, hc⟩
          · omega
          have hcell := hc m hmn
          obtain ⟨b1, b2⟩ := HH.out m hmn
          clear hc
          go_wp2_with (first | (go_at_call 77; refine (low_at (h m) _ b1 b2).mono ?_; rintro e w' ⟨rfl, rfl⟩) | (go_at_call 76; refine (bit_at x _ _ (by omega) (by omega)).mono ?_; rintro e w' ⟨rfl, rfl⟩))
          all_goals exact ⟨⟨m + 1, by omega, by go_num, val_b (by first | (rw [par_step x h k m true (by assumption)]; simp) | (rw [par_step x h k m false (by assumption)]; simp))⟩, by simp [intOf]; omega⟩
        · obtain rfl : m = n := by omega
          go_wp2_with (go_at_call 78; refine (place_at k _ _ (by omega) (by omega)).mono ?_; rintro e w' ⟨rfl, rfl⟩)
          go_round
          case rel => exact ⟨k + 1, by omega, by go_num, val_u (pl_step g k _ (by rw [HG.out]))⟩
          case measure => simp [intOf]; omega
    · obtain rfl : k = 32 := by omega
      go_wp2
      go_ret
      exact ⟨rfl, rfl⟩

set_option maxHeartbeats 800000 in
theorem ref_shift (x : BitVec 32) (n : Int) (w : World) (h0 : -9223372036854775808 ≤ n) (h1 : n ≤ 9223372036854775807) :
    Calls Tryd.prog 96 #[.int .u32 (u x), .int .i64 n] w fun e w' => e = .returned (.int .u32 (u (if n < 0 then x else pl (fun k => decide (n < 32 - (k : Int)) && x.getLsbD (k + n.toNat)) 32))) ∧ w = w' := by
  by_cases hneg : n < 0
  · go_enter Tryd.func96, Tryd.ntmps96
    go_wp2
    go_ret
    exact ⟨rfl, rfl⟩
  · obtain ⟨g, hg⟩ : ∃ g : Nat → Bool, g = (fun k : Nat => decide (n < 32 - (k : Int)) && x.getLsbD (k + n.toNat)) := ⟨_, rfl⟩
    rw [← hg]
    have HG := Lib.hid hg
    clear hg
    have h2 : 0 ≤ n := by omega
    go_enter Tryd.func96, Tryd.ntmps96
    go_wp2
    go_loop [5, 6] (fun t i => ∃ k : Nat, k ≤ 32 ∧ i = .int .i64 k ∧ t = .int .u32 (u (pl g k))) (fun _ i => 32 - (intOf i).toNat)
    case atStart => exact ⟨0, Nat.zero_le _, rfl, rfl⟩
    case round =>
      obtain ⟨k, hk, rfl, rfl⟩ := hrel
      by_cases hlt : k < 32
      · by_cases hb : n < 32 - (k : Int)
        · have hd : decide (n < 32 - (k : Int)) = true := by simpa using hb
          go_wp2_with (first | (go_at_call 76; refine (bit_at x _ _ (by omega) (by omega)).mono ?_; rintro e w' ⟨rfl, rfl⟩) | (go_at_call 78; refine (place_at k _ _ (by omega) (by omega)).mono ?_; rintro e w' ⟨rfl, rfl⟩))
          go_round
          case rel => exact ⟨k + 1, by omega, by go_num, val_u (pl_step g k _ (by rw [HG.out]; show _ = (decide _ && _); rw [hd, Bool.true_and]; congr 1; omega))⟩
          case measure => simp [intOf]; omega
        · have hd : decide (n < 32 - (k : Int)) = false := by simpa using hb
          go_wp2_with (go_at_call 78; refine (place_at k _ _ (by omega) (by omega)).mono ?_; rintro e w' ⟨rfl, rfl⟩)
          go_round
          case rel => exact ⟨k + 1, by omega, by go_num, val_u (pl_skip g k (by rw [HG.out]; show _ = (decide _ && _); rw [hd, Bool.false_and]))⟩
          case measure => simp [intOf]; omega
      · obtain rfl : k = 32 := by omega
        go_wp2
        go_ret
        exact ⟨rfl, rfl⟩

set_option maxHeartbeats 1600000 in
theorem ref_choose (x a b : BitVec 32) (w : World) :
    Calls Tryd.prog 51 #[.int .u32 (u x), .int .u32 (u a), .int .u32 (u b)] w fun e w' => e = .returned (.int .u32 (u (pl (fun k => x.getLsbD k && a.getLsbD k || !x.getLsbD k && b.getLsbD k) 32))) ∧ w = w' := by
  obtain ⟨g, hg⟩ : ∃ g : Nat → Bool, g = (fun k => x.getLsbD k && a.getLsbD k || !x.getLsbD k && b.getLsbD k) := ⟨_, rfl⟩
  rw [← hg]
  have HG := Lib.hid hg
  clear hg
  go_enter Tryd.func51, Tryd.ntmps51
  go_wp2
  go_loop [7, 8] (fun t i => ∃ k : Nat, k ≤ 32 ∧ i = .int .i64 k ∧ t = .int .u32 (u (pl g k))) (fun _ i => 32 - (intOf i).toNat)
  case atStart => exact ⟨0, Nat.zero_le _, rfl, rfl⟩
  case round =>
    obtain ⟨k, hk, rfl, rfl⟩ := hrel
    by_cases hlt : k < 32
    · have hx : ∀ (y : BitVec 32) (c : Bool) (W : World), y.getLsbD k = c → Calls Tryd.prog 76 #[.int .u32 (u y), .int .i64 (k : Int)] W fun e w' => e = .returned (.bool c) ∧ W = w' := fun y c W hc => by
        rw [← hc]; exact bit_at y k W (by omega) (by omega)
      have HX := Lib.hid hx
      clear hx
      have hgk : ∀ c d e : Bool, x.getLsbD k = c → a.getLsbD k = d → b.getLsbD k = e → (c && d || !c && e) = g k := by
        rintro c d e rfl rfl rfl; rw [HG.out]
      have HGK := Lib.hid hgk
      clear hgk
      obtain ⟨c, hc⟩ : ∃ c, x.getLsbD k = c := ⟨_, rfl⟩
      obtain ⟨d, hd⟩ : ∃ d, a.getLsbD k = d := ⟨_, rfl⟩
      obtain ⟨e, he⟩ : ∃ e, b.getLsbD k = e := ⟨_, rfl⟩
      have hg2 := HGK.out c d e hc hd he
      have HC := Lib.hid hc
      have HD := Lib.hid hd
      have HE := Lib.hid he
      have HG2 := Lib.hid hg2
      clear hc hd he hg2
      cases c
      · go_wp2_with fail
        refine (HX.out x false _ HC.out).mono ?_
        rintro e w' ⟨rfl, rfl⟩
        go_wp2_with fail
        refine (HX.out x false _ HC.out).mono ?_
        rintro e w' ⟨rfl, rfl⟩
        go_wp2_with fail
        refine (HX.out b e _ HE.out).mono ?_
        rintro e w' ⟨rfl, rfl⟩
        go_wp2_with fail
        refine (place_at k e _ (by omega) (by omega)).mono ?_
        rintro e w' ⟨rfl, rfl⟩
        go_wp2
        go_round
        case rel => exact ⟨k + 1, by omega, by go_num, val_u (pl_step g k _ (by rw [← HG2.out]; simp))⟩
        case measure => simp [intOf]; omega
      · cases d
        · go_wp2_with fail
          refine (HX.out x true _ HC.out).mono ?_
          rintro e w' ⟨rfl, rfl⟩
          go_wp2_with fail
          refine (HX.out a false _ HD.out).mono ?_
          rintro e w' ⟨rfl, rfl⟩
          go_wp2_with fail
          refine (HX.out x true _ HC.out).mono ?_
          rintro e w' ⟨rfl, rfl⟩
          go_wp2_with fail
          refine (place_at k false _ (by omega) (by omega)).mono ?_
          rintro e w' ⟨rfl, rfl⟩
          go_wp2
          go_round
          case rel => exact ⟨k + 1, by omega, by go_num, val_u (pl_skip g k (by rw [← HG2.out]; simp))⟩
          case measure => simp [intOf]; omega
        · go_wp2_with fail
          refine (HX.out x true _ HC.out).mono ?_
          rintro e w' ⟨rfl, rfl⟩
          go_wp2_with fail
          refine (HX.out a true _ HD.out).mono ?_
          rintro e w' ⟨rfl, rfl⟩
          go_wp2_with fail
          refine (place_at k true _ (by omega) (by omega)).mono ?_
          rintro e w' ⟨rfl, rfl⟩
          go_wp2
          go_round
          case rel => exact ⟨k + 1, by omega, by go_num, val_u (pl_step g k true (by rw [← HG2.out]; simp))⟩
          case measure => simp [intOf]; omega
    · obtain rfl : k = 32 := by omega
      go_wp2
      go_ret
      exact ⟨rfl, rfl⟩

theorem u_addmod (a b : BitVec 32) : (u a + u b) % 4294967296 = u (a + b) := by
  unfold u; rw [BitVec.toNat_add]; omega
theorem u_keep (a : BitVec 32) : IntKind.u32.wrap (u a) = u a := by
  unfold u; rw [IntKind.wrap_u32]; have := a.isLt; omega
attribute [go_sem] u_addmod u_keep

set_option maxHeartbeats 400000 in
theorem ref_sum (B : Nat) (p : Option Addr) (n cap : Nat) (f : Nat → BitVec 32) (w : World) (hn : n ≤ 9223372036854775807) (hr : Reads B w p n (fun i => .int .u32 (u (f i)))) :
    Calls Tryd.prog 49 #[.slice p n cap] w fun e w' => e = .returned (.int .u32 (u (sumTo f n))) ∧ w = w' := by
  go_enter Tryd.func49, Tryd.ntmps49
  go_wp2
  go_loop [3, 4] (fun t i => ∃ k : Nat, k ≤ n ∧ i = .int .i64 k ∧ t = .int .u64 (u (sumTo f k))) (fun _ i => n - (intOf i).toNat)
  case atStart => exact ⟨0, Nat.zero_le _, rfl, rfl⟩
  case round =>
    obtain ⟨k, hk, rfl, rfl⟩ := hrel
    by_cases hlt : k < n
    · rcases hr with hr | ⟨b, off, rfl, hb, hc⟩
      · omega
      · have hcell := hc k hlt
        have a1 := u_lo (sumTo f k)
        have a2 := u_hi (sumTo f k)
        have a3 := u_lo (f k)
        have a4 := u_hi (f k)
        clear hc
        go_wp2
        go_round
        case rel => exact ⟨k + 1, by omega, by go_num, by rw [u_addmod]; rfl⟩
        case measure => simp [intOf]; omega
    · obtain rfl : k = n := by omega
      go_wp2
      go_ret
      exact ⟨rfl, rfl⟩

set_option maxHeartbeats 800000 in
theorem ref_most (B : Nat) (p : Option Addr) (n cap : Nat) (f : Nat → BitVec 32) (w : World) (hn : n ≤ 4294967295) (hr : Reads B w p n (fun i => .int .u32 (u (f i)))) :
    Calls Tryd.prog 52 #[.slice p n cap] w fun e w' => e = .returned (.int .u32 (u (pl (fun c => decide (n < 2 * onesTo c f n)) 32))) ∧ w = w' := by
  obtain ⟨g, hg⟩ : ∃ g : Nat → Bool, g = (fun c => decide (n < 2 * onesTo c f n)) := ⟨_, rfl⟩
  rw [← hg]
  have HG := Lib.hid hg
  clear hg
  go_enter Tryd.func52, Tryd.ntmps52
  go_wp2
  go_loop [3, 4] (fun t i => ∃ k : Nat, k ≤ 32 ∧ i = .int .i64 k ∧ t = .int .u32 (u (pl g k))) (fun _ i => 32 - (intOf i).toNat)
  case atStart => exact ⟨0, Nat.zero_le _, rfl, rfl⟩
  case round =>
    obtain ⟨k, hk, rfl, rfl⟩ := hrel
    by_cases hlt : k < 32
    · go_wp2
      go_loop [5, 6] (fun c i => ∃ m : Nat, m ≤ n ∧ i = .int .i64 m ∧ ∃ q : Int, c = .int .i64 q ∧ q = 2 * (onesTo k f m : Int) - m) (fun _ i => n - (intOf i).toNat)
      case atStart => exact ⟨0, Nat.zero_le _, rfl, 0, rfl, rfl⟩
      case round =>
        obtain ⟨m, hm, rfl, q, rfl, hq⟩ := hrel
        have ho := onesTo_le k f m
        have q1 : -(n : Int) ≤ q := by omega
        have q2 : q ≤ (n : Int) := by omega
        have HQ := Lib.hid hq
        clear hq
        by_cases hmn : m < n
        · rcases hr with hr | ⟨b, off, rfl, hb, hc⟩
          · omega
          have hcell := hc m hmn
          clear hc
          have hbit := bit_nat (f m) k
          have HB := Lib.hid hbit
          clear hbit
          go_wp2_with (go_at_call 76; refine (bit_at (f m) k _ (by omega) (by omega)).mono ?_; rintro e w' ⟨rfl, rfl⟩)
          · have ht : (f m).getLsbD k = true := by rw [BitVec.getLsbD_eq_getElem hlt]; assumption
            have h1 := HB.out
            rw [ht] at h1
            have h2 := HQ.out
            exact ⟨⟨m + 1, by omega, by go_num, _, rfl, by simp only [onesTo]; rw [h1]; simp; omega⟩, by simp [intOf]; omega⟩
          · have ht : (f m).getLsbD k = false := by rw [BitVec.getLsbD_eq_getElem hlt]; assumption
            have h1 := HB.out
            rw [ht] at h1
            have h2 := HQ.out
            exact ⟨⟨m + 1, by omega, by go_num, _, rfl, by simp only [onesTo]; rw [h1]; simp; omega⟩, by simp [intOf]; omega⟩
        · obtain rfl : m = n := by omega
          by_cases hpos : 0 < q
          all_goals
            go_wp2_with (go_at_call 78; refine (place_at k _ _ (by omega) (by omega)).mono ?_; rintro e w' ⟨rfl, rfl⟩)
            go_round
            case rel => exact ⟨k + 1, by omega, by go_num, val_u (by first | exact pl_skip g k (by rw [HG.out]; have := HQ.out; simp; omega) | exact pl_step g k true (by rw [HG.out]; have := HQ.out; simp; omega))⟩
            case measure => simp [intOf]; omega
    · obtain rfl : k = 32 := by omega
      go_wp2
      go_ret
      exact ⟨rfl, rfl⟩
end Go.Proofs.YthhjieagdkimfaaDoor
