/-
  The document's attacks: what stands between two squares; contracts of the small functions.
-/
import Derived.Test.YtbnpphecknhpeaaDoorBq
import Derived.Test.YtbnpphecknhpeaaDoorBb
namespace Go.Proofs.YtbnpphecknhpeaaDoor
open Go.RowKit Go.Sort
set_option linter.unusedSimpArgs false
set_option linter.unusedVariables false

def absI (n : Int) : Int := if n < 0 then -n else n
def sgn (n : Int) : Int := if n < 0 then -1 else if 0 < n then 1 else 0
/-- how many files, ranks from one to another -/
def fD (a b : Nat) : Int := ((b % 8 : Nat) : Int) - ((a % 8 : Nat) : Int)
def rD (a b : Nat) : Int := ((b / 8 : Nat) : Int) - ((a / 8 : Nat) : Int)
def stepOf (a b : Nat) : Int := 8 * sgn (rD a b) + sgn (fD a b)
def distN (a b : Nat) : Nat := max (fD a b).natAbs (rD a b).natAbs
def sI (a b i : Nat) : Int := (a : Int) + ((i : Int) + 1) * stepOf a b
/-- on one way, and not one square -/
def good (a b : Nat) : Bool := !(a == b) && (fD a b == 0 || rD a b == 0 || absI (fD a b) == absI (rD a b))
def between (a b : Nat) : List Nat := (List.range (distN a b - 1)).map fun i => (sI a b i).toNat
def betB (a b : Nat) : Bool := !good a b || ((List.range (distN a b - 1)).all (fun i => decide (0 ≤ sI a b i) && decide (sI a b i < 64) && !(sI a b i == (b : Int)) && decide ((sI a b (i + 1) - b).natAbs < (sI a b i - b).natAbs)) && (sI a b (distN a b - 1) == (b : Int)))
theorem betB_ok : ∀ a, a < 64 → ∀ b, b < 64 → betB a b = true := by decide +kernel
theorem between_ok (a : Nat) (ha : a < 64) (b : Nat) (hb : b < 64) (hg : good a b = true) : (∀ i, i < distN a b - 1 → 0 ≤ sI a b i ∧ sI a b i < 64 ∧ sI a b i ≠ (b : Int) ∧ (sI a b (i + 1) - b).natAbs < (sI a b i - b).natAbs) ∧ sI a b (distN a b - 1) = (b : Int) := by
  have h := betB_ok a ha b hb
  unfold betB at h
  rw [hg] at h
  simp only [Bool.not_true, Bool.false_or, Bool.and_eq_true, List.all_eq_true, List.mem_range, decide_eq_true_eq, Bool.not_eq_true', beq_eq_false_iff_ne, beq_iff_eq] at h
  exact ⟨fun i hi => ⟨(h.1 i hi).1.1.1, (h.1 i hi).1.1.2, (h.1 i hi).1.2, (h.1 i hi).2⟩, h.2⟩
def occS (P : Nat → Int) (s : Nat) : Bool := !pe (P (2 * s)) (P (2 * s + 1)) 0 0
def openB (P : Nat → Int) (a b : Nat) : Bool := (between a b).all fun s => !occS P s
def kindB (P : Nat → Int) (k d : Int) (a b : Nat) : Bool :=
  if k = 1 then (absI (fD a b) == 1) && ((d == 0) && (rD a b == 1) || (d == 1) && (rD a b == -1))
  else if k = 2 then absI (fD a b) * absI (rD a b) == 2
  else if k = 6 then decide (absI (fD a b) ≤ 1) && decide (absI (rD a b) ≤ 1)
  else if k = 4 then (fD a b == 0 || rD a b == 0) && openB P a b
  else if k = 3 then (absI (fD a b) == absI (rD a b)) && openB P a b
  else (fD a b == 0 || rD a b == 0 || absI (fD a b) == absI (rD a b)) && openB P a b
/-- would such a piece on a attack b -/
def attK (P : Nat → Int) (k d : Int) (a b : Nat) : Bool := mayB k d && !(a == b) && kindB P k d a b
def attR (P : Nat → Int) (a b : Nat) : Bool := attK P (P (2 * a)) (P (2 * a + 1)) a b
theorem D_small : ∀ a, a < 64 → ∀ b, b < 64 → -7 ≤ fD a b ∧ fD a b ≤ 7 ∧ -7 ≤ rD a b ∧ rD a b ≤ 7 := by
  intro a ha b hb
  unfold fD rD
  omega
theorem q_tt {a b c d : Int} (h : a = b) (h2 : c = d) : Ending.returned (.tuple #[.int .i64 a, .int .i64 c]) = .returned (.tuple #[.int .i64 b, .int .i64 d]) := by rw [h, h2]
theorem apart_any (a b : Nat) (ha : a < 64) (hb : b < 64) (w : World) :
    Calls Tryd.prog 47 #[.int .i64 (a : Int), .int .i64 (b : Int)] w fun e w' => e = .returned (.tuple #[.int .i64 (fD a b), .int .i64 (rD a b)]) ∧ w = w' := by
  have h1 : (a : Int).tmod 8 = ((a % 8 : Nat) : Int) := by rw [tm8 (by omega)]; omega
  have h2 : (b : Int).tmod 8 = ((b % 8 : Nat) : Int) := by rw [tm8 (by omega)]; omega
  have h3 : (a : Int).tdiv 8 = ((a / 8 : Nat) : Int) := by rw [td8 (by omega)]; omega
  have h4 : (b : Int).tdiv 8 = ((b / 8 : Nat) : Int) := by rw [td8 (by omega)]; omega
  have HF := Lib.hid (show fD a b = ((b % 8 : Nat) : Int) - ((a % 8 : Nat) : Int) from rfl)
  have HR := Lib.hid (show rD a b = ((b / 8 : Nat) : Int) - ((a / 8 : Nat) : Int) from rfl)
  have b1 : a % 8 < 8 := Nat.mod_lt _ (by decide)
  have b2 : b % 8 < 8 := Nat.mod_lt _ (by decide)
  have b3 : a / 8 < 8 := by omega
  have b4 : b / 8 < 8 := by omega
  generalize a % 8 = x1 at *
  generalize b % 8 = x2 at *
  generalize a / 8 = x3 at *
  generalize b / 8 = x4 at *
  go_enter Tryd.func47, Tryd.ntmps47
  go_wp2
  go_ret2
  exact ⟨q_tt HF.out.symm HR.out.symm, rfl⟩
theorem abs_any (n : Int) (h0 : -100 ≤ n) (h1 : n ≤ 100) (w : World) :
    Calls Tryd.prog 48 #[.int .i64 n] w fun e w' => e = .returned (.int .i64 (absI n)) ∧ w = w' := by
  by_cases h : n < 0
  · have HA := Lib.hid (show absI n = -n by unfold absI; rw [if_pos h])
    go_enter Tryd.func48, Tryd.ntmps48
    go_wp2
    go_ret
    exact ⟨q_i HA.out.symm, rfl⟩
  · have HA := Lib.hid (show absI n = n by unfold absI; rw [if_neg h])
    go_enter Tryd.func48, Tryd.ntmps48
    go_wp2
    go_ret
    exact ⟨q_i HA.out.symm, rfl⟩
theorem sign_any (n : Int) (w : World) :
    Calls Tryd.prog 62 #[.int .i64 n] w fun e w' => e = .returned (.int .i64 (sgn n)) ∧ w = w' := by
  rcases (show n < 0 ∨ 0 < n ∨ n = 0 by omega) with h | h | rfl
  · have HA := Lib.hid (show sgn n = -1 by unfold sgn; rw [if_pos h])
    go_enter Tryd.func62, Tryd.ntmps62
    go_wp2
    go_ret
    exact ⟨q_i HA.out.symm, rfl⟩
  · have HA := Lib.hid (show sgn n = 1 by unfold sgn; rw [if_neg (by omega), if_pos h])
    have hn : 0 ≤ n := by omega
    go_enter Tryd.func62, Tryd.ntmps62
    go_wp2
    go_ret
    exact ⟨q_i HA.out.symm, rfl⟩
  · go_enter Tryd.func62, Tryd.ntmps62
    go_wp2
    go_ret
    exact ⟨q_i rfl, rfl⟩
theorem sgn_small (n : Int) : -1 ≤ sgn n ∧ sgn n ≤ 1 := by
  unfold sgn
  split
  · omega
  · split <;> omega
theorem open_row (P : Nat → Int) (a b n : Nat) (hn : n ≤ distN a b - 1) (h : ∀ i, i < n → occS P (sI a b i).toNat = false) (h1 : n = distN a b - 1) : openB P a b = true := by
  unfold openB between
  rw [List.all_map]
  refine List.all_eq_true.2 fun i hi => ?_
  simp only [Function.comp]
  rw [h i (by have := List.mem_range.1 hi; omega)]
  rfl
theorem open_shut (P : Nat → Int) (a b n : Nat) (hn : n < distN a b - 1) (h : occS P (sI a b n).toNat = true) : openB P a b = false := by
  unfold openB between
  rw [List.all_map]
  refine List.all_eq_false.2 ⟨n, List.mem_range.2 hn, ?_⟩
  simp only [Function.comp]
  rw [h]
  simp
set_option maxHeartbeats 2000000 in
set_option maxRecDepth 100000 in
theorem open_any (P : Nat → Int) (a b : Nat) (ha : a < 64) (hb : b < 64) (hg : good a b = true) (w : World) :
    Calls Tryd.prog 49 #[.agg (pc P).toArray, .int .i64 (a : Int), .int .i64 (b : Int)] w fun e w' => e = .returned (.bool (openB P a b)) ∧ Below w.heap.size w w' := by
  obtain ⟨X, hX⟩ : ∃ X, X = (pc P).toArray := ⟨_, rfl⟩
  have HP := Lib.hid (show PB (w.alloc (.cells X 29)) w.heap.size P by subst hX; exact PB.new rfl)
  rw [← hX]
  have HB := Lib.hid (below_new (w := w) (.cells X 29))
  obtain ⟨hbt, hend⟩ := between_ok a ha b hb hg
  have HBT := Lib.hid hbt
  have HEND := Lib.hid hend
  have HSI := Lib.hid (show ∀ i : Nat, sI a b (i + 1) = sI a b i + stepOf a b from fun i => by unfold sI; rw [show (((i + 1 : Nat) : Int) + 1) = ((i : Int) + 1) + 1 by omega, Int.add_mul ((i : Int) + 1) 1, Int.one_mul, Int.add_assoc])
  have HS0 := Lib.hid (show sI a b 0 = (a : Int) + stepOf a b by unfold sI; simp)
  have HST := Lib.hid (show stepOf a b = 8 * sgn (rD a b) + sgn (fD a b) from rfl)
  have hd := D_small a ha b hb
  have hs1 := sgn_small (rD a b)
  have hs2 := sgn_small (fD a b)
  have HDD := Lib.hid (show distN a b ≤ 7 by unfold distN; omega)
  clear hX hbt hend hg
  go_enter Tryd.func49, Tryd.ntmps49
  go_upto_region 1 with (fail)
  generalize w.alloc (.cells X 29) = W0 at *
  go_wp2_with fail
  refine (apart_any a b ha hb _).mono ?_
  rintro e w1 ⟨rfl, rfl⟩
  generalize hf : fD a b = f at *
  generalize hr : rD a b = r at *
  go_wp2_with fail
  refine (sign_any r _).mono ?_
  rintro e w1 ⟨rfl, rfl⟩
  generalize hsr : sgn r = sr at *
  go_wp2_with fail
  refine (sign_any f _).mono ?_
  rintro e w1 ⟨rfl, rfl⟩
  generalize hsf : sgn f = sf at *
  clear hsr hsf hf hr hd
  obtain ⟨st, hst⟩ : ∃ st, 8 * sr + sf = st := ⟨_, rfl⟩
  have hb9 : -9 ≤ st ∧ st ≤ 9 := by omega
  rw [hst] at HST
  rw [HST.out] at HSI HS0
  clear HST
  go_upto_region 3 with (fail)
  clear hst hs1 hs2
  go_wp2
  go_loopw [10] (fun v wr => ∃ n : Nat, n ≤ distN a b - 1 ∧ v = .int .i64 (sI a b n) ∧ wr = W0 ∧ ∀ i, i < n → occS P (sI a b i).toNat = false) (fun v _ => (intOf v - b).natAbs)
  case atStart => exact ⟨0, Nat.zero_le _, by rw [HS0.out], rfl, fun i hi => by omega⟩
  case round =>
    obtain ⟨n, hn, rfl, rfl, hall⟩ := hrel
    have HALL := Lib.hid hall
    clear hall
    by_cases hlt : n < distN a b - 1
    · obtain ⟨s0, s1, s2, s3⟩ := HBT.out n hlt
      have HSN := Lib.hid (HSI.out n)
      obtain ⟨m, hm⟩ := Int.eq_ofNat_of_zero_le s0
      rw [hm] at s0 s1 s2 HSN ⊢
      have HME := Lib.hid (show ((m : Int) + st - b).natAbs < ((m : Int) - b).natAbs by rw [← hm, ← HSI.out n]; exact s3)
      clear s3
      have hm64 : m < 64 := by omega
      have hne : ((m : Int) == (b : Int)) = false := by simp; omega
      have HM := Lib.hid (show occS P (sI a b n).toNat = occS P m by rw [hm, Int.toNat_natCast])
      have e1 := HP.out.cell (m * 2) (by omega)
      have e2 := HP.out.cell (m * 2 + 1) (by omega)
      have HO := Lib.hid (show occS P m = !pe (P (m * 2)) (P (m * 2 + 1)) 0 0 by unfold occS; rw [Nat.mul_comm 2 m])
      generalize P (m * 2) = k at e1 HO
      generalize P (m * 2 + 1) = d at e2 HO
      obtain ⟨v, hv⟩ : ∃ v, pe k d 0 0 = v := ⟨_, rfl⟩
      rw [hv] at HO
      clear hm
      cases v
      · have HF := Lib.hid (open_shut P a b n hlt (by rw [HM.out, HO.out]; rfl))
        go_wp2
        go_ret
        exact ⟨q_b HF.out.symm, HB.out⟩
      · have HN := Lib.hid (show ∀ i, i < n + 1 → occS P (sI a b i).toNat = false from fun i hi => by
          rcases (show i < n ∨ i = n by omega) with h | rfl
          · exact HALL.out i h
          · rw [HM.out, HO.out]; rfl)
        go_wp2
        go_roundw
        case rel => exact ⟨n + 1, by omega, by rw [HSN.out], (by first | rfl | trivial), HN.out⟩
        case measure => exact HME.out
    · obtain rfl : n = distN a b - 1 := by omega
      have HT := Lib.hid (open_row P a b _ (Nat.le_refl _) HALL.out rfl)
      rw [HEND.out]
      have hne : ((b : Int) == (b : Int)) = true := by simp
      go_wp2
      go_ret
      exact ⟨q_b HT.out.symm, HB.out⟩
end Go.Proofs.YtbnpphecknhpeaaDoor
