/-
  The chapter's example; what numbers pick.
-/
import Derived.Test.YteahikjnlhlmmaaDoorBx
namespace Go.Proofs.YteahikjnlhlmmaaDoor
open Go.RowKit Go.Sort
set_option linter.unusedSimpArgs false
set_option linter.unusedVariables false

theorem king_start : kingN startN 1 = 60 := by decide +kernel
theorem find_start : fnd startN 1 0 64 = [8, 9, 10, 11, 12, 13, 14, 15] := by decide +kernel
theorem right_start : rightB startN = true := by decide +kernel
theorem ex_find : ∀ i, i < 8 → (#[.int .i64 8, .int .i64 9, .int .i64 10, .int .i64 11, .int .i64 12, .int .i64 13, .int .i64 14, .int .i64 15] : Array Value)[i]? = some (.int .i64 (([8, 9, 10, 11, 12, 13, 14, 15] : List Int).getD i 0)) := fun i hi => by
  rcases (show i = 0 ∨ i = 1 ∨ i = 2 ∨ i = 3 ∨ i = 4 ∨ i = 5 ∨ i = 6 ∨ i = 7 by omega) with rfl | rfl | rfl | rfl | rfl | rfl | rfl | rfl <;> rfl
set_option maxHeartbeats 2000000 in
set_option maxRecDepth 100000 in
theorem awakeB_any (w : World) (B : Nat) (hg : GB B w) (hB : B ≤ w.heap.size) :
    Calls Tryd.prog 7 #[] w fun e w' => e = .returned (.bool true) ∧ Below w.heap.size w w' := by
  obtain ⟨Y, hY⟩ : ∃ Y, Y = (pc startN).toArray := ⟨_, rfl⟩
  have HST := Lib.hid (fun W h1 h2 => start_any W B h1 h2)
  have HK := Lib.hid (fun W => king_any startN 1 W)
  have HF := Lib.hid (fun W => find_any startN 1 0 W)
  have HR := Lib.hid (fun W h1 h2 => right_any startN W B h1 h2)
  rw [king_start] at HK
  rw [find_start] at HF
  rw [right_start] at HR
  rw [← hY] at HST HK HF HR
  have HY := Lib.hid hY
  have HG := Lib.hid hg
  clear hY hg
  go_enter Tryd.func7, Tryd.ntmps7
  go_wp2_with fail
  refine (HST.out _ HG.out hB).mono ?_
  rintro e w1 ⟨rfl, hb1⟩
  have HG1 := Lib.hid (HG.out.below (hb1.mono hB))
  have HB1 := Lib.hid hb1
  clear hb1
  go_wp2_with (refine wpList_new Y startN HY.out (by rfl) (by rfl) ?_)
  intro W2 hp2 hb2 hz2
  have HP := Lib.hid hp2
  have HB := Lib.hid (HB1.out.trans (hb2.mono HB1.out.size))
  have HG2 := Lib.hid (HG1.out.below (hb2.mono (Nat.le_trans hB HB1.out.size)))
  clear hp2 hb2 hz2 HG1
  go_wp2_with (refine wpList_pos (by rfl) _ (by rfl) w1.heap.size startN Y HY.out (by rfl) HP.out ?_)
  refine (HK.out _).mono ?_
  rintro e w3 ⟨rfl, hb3⟩
  replace HP := Lib.hid (HP.out.go hb3)
  replace HG2 := Lib.hid (HG2.out.below (hb3.mono (Nat.le_trans hB HB.out.size)))
  replace HB := Lib.hid (HB.out.trans (hb3.mono HB.out.size))
  clear hb3
  go_wp2_with (refine wpList_pos (by rfl) _ (by rfl) w1.heap.size startN Y HY.out (by rfl) HP.out ?_)
  refine (HF.out _).mono ?_
  rintro e w4 ⟨v, rfl, hb4, hown⟩
  rw [ivals_range] at hown
  obtain ⟨p, c, rfl, hr, _⟩ := sq_reads hown
  have HR4 := Lib.hid (show Reads w4.heap.size w4 p 8 (fun i => .int .i64 (([8, 9, 10, 11, 12, 13, 14, 15] : List Int).getD i 0)) from hr)
  replace HP := Lib.hid (HP.out.go hb4)
  replace HG2 := Lib.hid (HG2.out.below (hb4.mono (Nat.le_trans hB HB.out.size)))
  replace HB := Lib.hid (HB.out.trans (hb4.mono HB.out.size))
  clear hb4 hown hr
  have HA := Lib.hid (below_new (w := w4) (.cells #[.int .i64 8, .int .i64 9, .int .i64 10, .int .i64 11, .int .i64 12, .int .i64 13, .int .i64 14, .int .i64 15] 3))
  have HRD := Lib.hid ((HR4.out.below HA.out).mono (show w4.heap.size ≤ w4.heap.size + 1 by omega))
  have HRQ := Lib.hid (show Reads (w4.heap.size + 1) (w4.alloc (.cells #[.int .i64 8, .int .i64 9, .int .i64 10, .int .i64 11, .int .i64 12, .int .i64 13, .int .i64 14, .int .i64 15] 3)) (some ⟨w4.heap.size, 0, none⟩) 8 (fun i => .int .i64 (([8, 9, 10, 11, 12, 13, 14, 15] : List Int).getD i 0)) from
    .inr ⟨w4.heap.size, 0, rfl, by omega, fun i hi => by rw [Nat.zero_add, cell_of_row _ _ i _ _ (0, 0) (sl_at rfl)]; exact ex_find i hi⟩)
  clear HR4
  go_wp2_with fail
  refine (sameInts_any _ p _ 8 c 8 _ _ (by omega) HRD.out HRQ.out).mono ?_
  rintro e w5 ⟨rfl, hb5⟩
  replace HP := Lib.hid ((HP.out.go HA.out).go hb5)
  replace HG2 := Lib.hid ((HG2.out.below (HA.out.mono (Nat.le_trans hB HB.out.size))).below (hb5.mono (Nat.le_trans hB (Nat.le_trans HB.out.size HA.out.size))))
  replace HB := Lib.hid ((HB.out.trans (HA.out.mono HB.out.size)).trans (hb5.mono (Nat.le_trans HB.out.size HA.out.size)))
  clear hb5 HRD HRQ HA
  go_wp2_with (refine wpList_pos (by rfl) _ (by rfl) w1.heap.size startN Y HY.out (by rfl) HP.out ?_)
  refine (HR.out _ HG2.out (Nat.le_trans hB HB.out.size)).mono ?_
  rintro e w6 ⟨rfl, hb6⟩
  go_wp2
  go_ret
  exact ⟨rfl, HB.out.trans (hb6.mono HB.out.size)⟩
theorem tmod_pos (n : Int) (hn : 0 < n) (a : Int) : a % n = if a.tmod n < 0 then a.tmod n + n else a.tmod n := by
  rcases Int.lt_or_le a 0 with h | h
  · have e : a.tmod n = -((-a) % n) := by
      rw [← Int.tmod_eq_emod_of_nonneg (show 0 ≤ -a by omega), Int.neg_tmod, Int.neg_neg]
    rw [e]
    have h1 := Int.emod_nonneg (-a) (show n ≠ 0 by omega)
    have h2 := Int.emod_lt_of_pos (-a) hn
    have h5 := Int.emod_add_mul_ediv (-a) n
    by_cases h0 : (-a) % n = 0
    · rw [h0, if_neg (by omega)]
      have h3 : n ∣ -a := Int.dvd_of_emod_eq_zero h0
      have h4 : n ∣ a := (Int.dvd_neg).1 h3
      rw [Int.emod_eq_zero_of_dvd h4]; rfl
    · rw [if_pos (by omega)]
      have h6 : a = (n - (-a) % n) + n * (-((-a) / n) - 1) := by rw [Int.mul_sub, Int.mul_neg]; omega
      rw [h6, Int.add_mul_emod_self_left, Int.emod_eq_of_lt (by omega) (by omega)]
      rw [← h6]; omega
  · rw [Int.tmod_eq_emod_of_nonneg h]
    have h1 := Int.emod_nonneg a (show n ≠ 0 by omega)
    rw [if_neg (by omega)]
theorem pick6_any (a : Int) (w : World) :
    Calls Tryd.prog 28 #[.int .i64 a, .int .i64 6] w fun e w' => e = .returned (.int .i64 (a % 6)) ∧ w = w' := by
  have h1 := Int.tmod_lt_of_pos a (b := 6) (by omega)
  have h2 := Int.lt_tmod_of_pos a (b := 6) (by omega)
  have hm := tmod_pos 6 (by omega) a
  by_cases h0 : a.tmod 6 < 0
  · rw [if_pos h0] at hm
    rw [hm]
    clear hm
    have s1 : IntKind.i64.wrap (a.tmod 6 + 6) = a.tmod 6 + 6 := IntWalk.i64_in _ (by omega)
    go_enter Tryd.func28, Tryd.ntmps28
    go_wp2
    go_ret
    exact ⟨rfl, rfl⟩
  · rw [if_neg h0] at hm
    rw [hm]
    clear hm
    go_enter Tryd.func28, Tryd.ntmps28
    go_wp2
    go_ret
    exact ⟨rfl, rfl⟩
theorem pick2_any (a : Int) (w : World) :
    Calls Tryd.prog 28 #[.int .i64 a, .int .i64 2] w fun e w' => e = .returned (.int .i64 (a % 2)) ∧ w = w' := by
  have h1 := Int.tmod_lt_of_pos a (b := 2) (by omega)
  have h2 := Int.lt_tmod_of_pos a (b := 2) (by omega)
  have hm := tmod_pos 2 (by omega) a
  by_cases h0 : a.tmod 2 < 0
  · rw [if_pos h0] at hm
    rw [hm]
    clear hm
    have s1 : IntKind.i64.wrap (a.tmod 2 + 2) = a.tmod 2 + 2 := IntWalk.i64_in _ (by omega)
    go_enter Tryd.func28, Tryd.ntmps28
    go_wp2
    go_ret
    exact ⟨rfl, rfl⟩
  · rw [if_neg h0] at hm
    rw [hm]
    clear hm
    go_enter Tryd.func28, Tryd.ntmps28
    go_wp2
    go_ret
    exact ⟨rfl, rfl⟩
end Go.Proofs.YteahikjnlhlmmaaDoor
