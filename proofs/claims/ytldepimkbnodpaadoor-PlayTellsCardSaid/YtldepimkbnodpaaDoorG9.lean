/-
  Merged: Pu, Bw, By.
-/
import Derived.Test.YtldepimkbnodpaaDoorPj
import Derived.Test.YtldepimkbnodpaaDoorBx
import Derived.Test.YtldepimkbnodpaaDoorBv

namespace Go.Proofs.YtldepimkbnodpaaDoor
open Go.RowKit Go.Sort
set_option linter.unusedSimpArgs false
set_option linter.unusedVariables false

/-- behind e2 to e4 -/
def oneN : Nat → Int := mvsR startN (fun _ => 12) (fun _ => 28) (fun _ => 0) 1
/-- behind g8 to f6 -/
def twoN : Nat → Int := mvP oneN 62 45 0
theorem one_e : mvsE startN (fun _ => 12) (fun _ => 28) (fun _ => 0) 1 = 0 := by decide +kernel
theorem two_e : fltN (handP oneN) 62 45 0 = 0 := by decide +kernel
theorem one_vals : oneN 130 = 20 ∧ oneN 131 = 0 ∧ oneN 132 = 1 := by decide +kernel
theorem two_vals : twoN 131 = 1 ∧ twoN 132 = 2 ∧ twoN 130 = -1 ∧ twoN 90 = 2 := by decide +kernel
set_option maxHeartbeats 4000000 in
set_option maxRecDepth 100000 in
theorem awakeP_any (w : World) (B : Nat) (hg : GP B w) (hB : B ≤ w.heap.size) :
    Calls Tryd.prog 7 #[] w fun e w' => e = .returned (.bool true) ∧ Below w.heap.size w w' := by
  obtain ⟨X, hX⟩ : ∃ X, X = (pc startN).toArray := ⟨_, rfl⟩
  obtain ⟨Y, hY⟩ : ∃ Y, Y = (pc oneN).toArray := ⟨_, rfl⟩
  obtain ⟨Z, hZ⟩ : ∃ Z, Z = (pc twoN).toArray := ⟨_, rfl⟩
  have MS := Lib.hid (fun W => rStart_any W)
  rw [← hX] at MS
  have MM := Lib.hid (show ∀ (p : Option Addr) (c : Nat) (W : World) (D : Nat), Reads3 D W p 1 (fun _ => 12) (fun _ => 28) (fun _ => 0) → GP D W → D ≤ W.heap.size →
      Calls Tryd.prog 8 #[.agg X, .slice p 1 c] W fun e w' => e = .returned (.tuple #[.agg Y, .int .i64 0]) ∧ Below W.heap.size W w' from fun p c W D h1 h2 h3 => by
    have := moves_any startN p 1 c (fun _ => 12) (fun _ => 28) (fun _ => 0) W D (by omega) h1 h2 h3
    rw [one_e] at this
    rw [hX, hY]; exact this)
  have MV := Lib.hid (show ∀ (W : World) (D : Nat), GP D W → D ≤ W.heap.size →
      Calls Tryd.prog 10 #[.agg Y, .agg #[.int .i64 62, .int .i64 45, .int .i64 0]] W fun e w' => e = .returned (.tuple #[.agg Z, .int .i64 0]) ∧ Below W.heap.size W w' from fun W D h2 h3 => by
    have := move_any oneN 62 45 0 W D h2 h3
    rw [two_e] at this
    rw [hY, hZ]; exact this)
  have HX := Lib.hid hX
  have HY := Lib.hid hY
  have HZ := Lib.hid hZ
  have HG := Lib.hid hg
  clear hX hY hZ hg
  go_enter Tryd.func7, Tryd.ntmps7
  go_wp2_with fail
  refine (MS.out _).mono ?_
  rintro e w1 ⟨rfl, hb⟩
  have H1 := Lib.hid hb
  clear hb
  go_wp2_with fail
  have HRD := Lib.hid (show Reads3 (w1.heap.size + 1) (w1.alloc (.cells #[.int .i64 12, .int .i64 28, .int .i64 0] 38)) (some ⟨w1.heap.size, 0, none⟩) 1 (fun _ => 12) (fun _ => 28) (fun _ => 0) from
    .inr ⟨w1.heap.size, 0, rfl, by omega, fun i hi => by
      obtain rfl : i = 0 := by omega
      exact ⟨cell_of_row _ _ 0 _ _ (0, 0) (sl_at rfl), cell_of_row _ _ 1 _ _ (0, 0) (sl_at rfl), cell_of_row _ _ 2 _ _ (0, 0) (sl_at rfl)⟩⟩)
  have HA := Lib.hid (below_new (w := w1) (.cells #[.int .i64 12, .int .i64 28, .int .i64 0] 38))
  refine (MM.out _ _ _ _ HRD.out ((HG.out.below ((H1.out.mono hB).trans (HA.out.mono (Nat.le_trans hB H1.out.size)))).mono (by have := H1.out.size; omega)) (by simp)).mono ?_
  rintro e w2 ⟨rfl, hb⟩
  replace H1 := Lib.hid ((H1.out.trans (HA.out.mono H1.out.size)).trans (hb.mono (H1.out.trans (HA.out.mono H1.out.size)).size))
  clear hb HA HRD
  go_wp2_with (first | refine wpList_new Y oneN HY.out (by rfl) (by rfl) ?_ | fail)
  intro w3 hq hb hz
  replace H1 := Lib.hid (H1.out.trans (hb.mono H1.out.size))
  have H2 := Lib.hid hq
  clear hb hq hz
  generalize w2.heap.size = b1 at H2 ⊢
  go_wp2_with (refine wpList_pos (by rfl) _ (by rfl) b1 oneN Y HY.out (by rfl) H2.out ?_)
  refine (MV.out _ B (HG.out.below (H1.out.mono hB)) (Nat.le_trans hB H1.out.size)).mono ?_
  rintro e w4 ⟨rfl, hb⟩
  replace H1 := Lib.hid (H1.out.trans (hb.mono H1.out.size))
  replace H2 := Lib.hid (H2.out.go hb)
  clear hb
  go_wp2_with (first | refine wpList_new Z twoN HZ.out (by rfl) (by rfl) ?_ | fail)
  intro w5 hq hb hz
  replace H1 := Lib.hid (H1.out.trans (hb.mono H1.out.size))
  replace H2 := Lib.hid (H2.out.go hb)
  have H3 := Lib.hid hq
  clear hb hq hz
  generalize w4.heap.size = b3 at H3 ⊢
  have e1 := H2.out.cell 130 (by omega)
  have e2 := H2.out.cell 131 (by omega)
  have e3 := H2.out.cell 132 (by omega)
  have f1 := H3.out.cell 130 (by omega)
  have f2 := H3.out.cell 131 (by omega)
  have f3 := H3.out.cell 132 (by omega)
  have f4 := H3.out.cell 90 (by omega)
  rw [one_vals.1] at e1
  rw [one_vals.2.1] at e2
  rw [one_vals.2.2] at e3
  rw [two_vals.2.2.1] at f1
  rw [two_vals.1] at f2
  rw [two_vals.2.1] at f3
  rw [two_vals.2.2.2] at f4
  go_wp2
  go_ret
  exact ⟨rfl, H1.out⟩
end Go.Proofs.YtldepimkbnodpaaDoor

namespace Go.Proofs.YtldepimkbnodpaaDoor
open Go.RowKit Go.Sort
set_option linter.unusedSimpArgs false
set_option linter.unusedVariables false

theorem infoKind : (Tryd.prog.info? 22).map (·.size) = some 1 := by kernel_rfl
end Go.Proofs.YtldepimkbnodpaaDoor

namespace Go.Proofs.YtldepimkbnodpaaDoor
open Go.RowKit Go.Sort
set_option linter.unusedSimpArgs false
set_option linter.unusedVariables false

theorem king_start : kingN startN 1 = 60 := by decide +kernel
theorem find_start : fnd startN 1 0 64 = [8, 9, 10, 11, 12, 13, 14, 15] := by decide +kernel
theorem right_start : rightB startN = true := by decide +kernel
theorem ex_find : ∀ i, i < 8 → (#[.int .i64 8, .int .i64 9, .int .i64 10, .int .i64 11, .int .i64 12, .int .i64 13, .int .i64 14, .int .i64 15] : Array Value)[i]? = some (.int .i64 (([8, 9, 10, 11, 12, 13, 14, 15] : List Int).getD i 0)) := fun i hi => by
  rcases (show i = 0 ∨ i = 1 ∨ i = 2 ∨ i = 3 ∨ i = 4 ∨ i = 5 ∨ i = 6 ∨ i = 7 by omega) with rfl | rfl | rfl | rfl | rfl | rfl | rfl | rfl <;> rfl
theorem tmod_pos (n : Int) (hn : 0 < n) (a : Int) : a % n = if a.tmod n < 0 then a.tmod n + n else a.tmod n := by
  rcases Int.lt_or_le a 0 with h | h
  · have e : a.tmod n = -((-a) % n) := by
      rw [← Int.tmod_eq_emod_of_nonneg (show 0 ≤ -a by omega), Int.neg_tmod, Int.neg_neg]
    rw [e]
    have h1 := Int.emod_nonneg (-a) (show n ≠ 0 by omega)
    have h2 := Int.emod_lt_of_pos (-a) hn
    have h5 := Int.emod_add_mul_ediv (-a) n
    by_cases h0 : (-a) % n = 0
    · rw [h0, if_neg (by omega)]
      have h3 : n ∣ -a := Int.dvd_of_emod_eq_zero h0
      have h4 : n ∣ a := (Int.dvd_neg).1 h3
      rw [Int.emod_eq_zero_of_dvd h4]; rfl
    · rw [if_pos (by omega)]
      have h6 : a = (n - (-a) % n) + n * (-((-a) / n) - 1) := by rw [Int.mul_sub, Int.mul_neg]; omega
      rw [h6, Int.add_mul_emod_self_left, Int.emod_eq_of_lt (by omega) (by omega)]
      rw [← h6]; omega
  · rw [Int.tmod_eq_emod_of_nonneg h]
    have h1 := Int.emod_nonneg a (show n ≠ 0 by omega)
    rw [if_neg (by omega)]
theorem pick6_any (a : Int) (w : World) :
    Calls Tryd.prog 35 #[.int .i64 a, .int .i64 6] w fun e w' => e = .returned (.int .i64 (a % 6)) ∧ w = w' := by
  have h1 := Int.tmod_lt_of_pos a (b := 6) (by omega)
  have h2 := Int.lt_tmod_of_pos a (b := 6) (by omega)
  have hm := tmod_pos 6 (by omega) a
  by_cases h0 : a.tmod 6 < 0
  · rw [if_pos h0] at hm
    rw [hm]
    clear hm
    have s1 : IntKind.i64.wrap (a.tmod 6 + 6) = a.tmod 6 + 6 := IntWalk.i64_in _ (by omega)
    go_enter Tryd.func35, Tryd.ntmps35
    go_wp2
    go_ret
    exact ⟨rfl, rfl⟩
  · rw [if_neg h0] at hm
    rw [hm]
    clear hm
    go_enter Tryd.func35, Tryd.ntmps35
    go_wp2
    go_ret
    exact ⟨rfl, rfl⟩
theorem pick2_any (a : Int) (w : World) :
    Calls Tryd.prog 35 #[.int .i64 a, .int .i64 2] w fun e w' => e = .returned (.int .i64 (a % 2)) ∧ w = w' := by
  have h1 := Int.tmod_lt_of_pos a (b := 2) (by omega)
  have h2 := Int.lt_tmod_of_pos a (b := 2) (by omega)
  have hm := tmod_pos 2 (by omega) a
  by_cases h0 : a.tmod 2 < 0
  · rw [if_pos h0] at hm
    rw [hm]
    clear hm
    have s1 : IntKind.i64.wrap (a.tmod 2 + 2) = a.tmod 2 + 2 := IntWalk.i64_in _ (by omega)
    go_enter Tryd.func35, Tryd.ntmps35
    go_wp2
    go_ret
    exact ⟨rfl, rfl⟩
  · rw [if_neg h0] at hm
    rw [hm]
    clear hm
    go_enter Tryd.func35, Tryd.ntmps35
    go_wp2
    go_ret
    exact ⟨rfl, rfl⟩
end Go.Proofs.YtldepimkbnodpaaDoor
