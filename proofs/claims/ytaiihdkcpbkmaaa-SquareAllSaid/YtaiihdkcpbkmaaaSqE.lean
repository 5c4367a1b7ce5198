/-
  The walks of the laws' own example and of SquareBack.
-/
import Derived.Test.YtaiihdkcpbkmaaaSqD
namespace Go.Proofs.Ytaiihdkcpbkmaaa
open Go.RowKit
set_option linter.unusedSimpArgs false
set_option linter.unusedVariables false

theorem i64_of {n : Int} (h0 : -1000000 ≤ n) (h1 : n ≤ 1000000) : I64 n := ⟨by omega, by omega⟩
theorem ex_row (i : Nat) (hi : i < 5) : (#[Value.int .i64 11, Value.int .i64 20, Value.int .i64 29, Value.int .i64 38, Value.int .i64 47] : Array Value)[i]? = some (.int .i64 (rq 2 1 1 i)) := by
  match i, hi with
  | 0, _ => rfl
  | 1, _ => rfl
  | 2, _ => rfl
  | 3, _ => rfl
  | 4, _ => rfl
theorem ex_ray : RayN 2 1 1 5 := ⟨by decide, by decide⟩
set_option maxHeartbeats 1000000 in
set_option maxRecDepth 100000 in
theorem awakeS_any (w : World) :
    Calls Try.prog 7 #[] w fun e w' => e = .returned (.bool true) ∧ Below w.heap.size w w' := by
  have e1 : nN ⟨#[101, 52]⟩ = 28 := by decide
  have e2 : isN ⟨#[101, 52]⟩ = true := by decide
  have e3 : stp 28 3 1 = 39 := by decide
  have e4 : nmV 39 = ⟨#[104, 53]⟩ := by decide
  have e5 : dark 0 = true := by decide
  have E1 := Lib.hid e1
  have E2 := Lib.hid e2
  have E3 := Lib.hid e3
  have E4 := Lib.hid e4
  have E5 := Lib.hid e5
  clear e1 e2 e3 e4 e5
  go_enter Try.func7, Try.ntmps7
  go_wp2_with fail
  refine (named_any ⟨#[101, 52]⟩ _).mono ?_
  rw [E1.out, E2.out]
  rintro e w1 ⟨rfl, hb1⟩
  go_wp2_with fail
  refine (step_any 28 3 1 _ (i64_of (by omega) (by omega)) (i64_of (by omega) (by omega))).mono ?_
  rw [E3.out]
  rintro e w2 ⟨rfl, hb2⟩
  go_wp2_with fail
  refine (name_any 39 _).mono ?_
  rw [E4.out]
  rintro e w3 ⟨rfl, hb3⟩
  go_wp2_with fail
  refine (ray_any 2 1 1 5 _ (i64_of (by omega) (by omega)) (i64_of (by omega) (by omega)) (by omega) ex_ray (by omega)).mono ?_
  rintro e w4 ⟨v, rfl, hb4, hown⟩
  obtain ⟨p, c, rfl, hr, _⟩ := sq_reads hown
  have HB := Lib.hid (hb1.trans ((hb2.trans ((hb3.trans (hb4.mono hb3.size)).mono hb2.size)).mono hb1.size))
  have HR := Lib.hid ((hr.below (below_new (w := w4) (.cells #[.int .i64 11, .int .i64 20, .int .i64 29, .int .i64 38, .int .i64 47] 3))).mono (show w4.heap.size ≤ w4.heap.size + 1 by omega))
  have HQ := Lib.hid (show Reads (w4.heap.size + 1) (w4.alloc (.cells #[.int .i64 11, .int .i64 20, .int .i64 29, .int .i64 38, .int .i64 47] 3)) (some ⟨w4.heap.size, 0, none⟩) 5 (fun i => .int .i64 (rq 2 1 1 i)) from
    .inr ⟨w4.heap.size, 0, rfl, by omega, fun i hi => by rw [Nat.zero_add, cell_of_row _ _ i _ _ (0, 0) (sl_at rfl)]; exact ex_row i hi⟩)
  clear hb1 hb2 hb3 hb4 hown hr
  go_wp2_with fail
  refine (sameInts_any _ p _ 5 c 5 (rq 2 1 1) _ (by omega) HR.out HQ.out).mono ?_
  rintro e w5 ⟨rfl, hb5⟩
  go_wp2_with fail
  refine (darkSq_any 0 _).mono ?_
  rw [E5.out]
  rintro e w6 ⟨rfl, hb6⟩
  go_wp2
  go_ret
  have h4 := HB.out.alloc HB.out.size (.cells #[.int .i64 11, .int .i64 20, .int .i64 29, .int .i64 38, .int .i64 47] 3)
  have h5 := h4.trans (hb5.mono h4.size)
  exact ⟨rfl, h5.trans (hb6.mono h5.size)⟩

theorem name_back {x : Int} (h : sq x = true) : isN (nmV x) = true ∧ nN (nmV x) = x := by
  obtain ⟨h0, h1⟩ := (sq_iff x).1 h
  have e : nmV x = nm x := by unfold nmV; rw [if_pos h]
  have e0 : nb (nm x) 0 = 97 + x % 8 := ch_nat (n := 97 + x % 8) (by omega) (by omega)
  have e1 : nb (nm x) 1 = 49 + x / 8 := ch_nat (n := 49 + x / 8) (by omega) (by omega)
  have hi : isN (nmV x) = true := by
    rw [e]; unfold isN; rw [e0, e1]
    rw [show decide ((nm x).size = 2) = true from rfl, Bool.true_and]
    exact (onB_iff _ _).2 (by omega)
  refine ⟨hi, ?_⟩
  unfold nN
  rw [if_pos hi, e, e0, e1]
  omega
theorem at_back {x : Int} (h : sq x = true) : sAt (sF x) (sR x) = x := by
  obtain ⟨h0, h1⟩ := (sq_iff x).1 h
  unfold sF sR sAt
  rw [if_pos h, if_pos h, if_pos ((onB_iff _ _).2 (by omega))]
  omega
theorem stp_or (x f r : Int) : stp x f r = -1 ∨ sq (stp x f r) = true := by
  cases h : sq (stp x f r)
  · left
    unfold stp at h ⊢
    split
    · rename_i hc
      rw [if_pos hc] at h
      rw [Bool.and_eq_true] at hc
      obtain ⟨s0, s1⟩ := (sq_iff _).1 hc.1
      obtain ⟨u0, u1, u2, u3⟩ := (onB_iff _ _).1 hc.2
      rw [(sq_iff _).2 (by omega)] at h; cases h
    · rfl
  · exact .inr rfl
theorem step_back {x f r : Int} (h : sq (stp x f r) = true) : stp (stp x f r) (-f) (-r) = x := by
  obtain ⟨h1, h2, h3⟩ := stp_sq h
  obtain ⟨s0, s1⟩ := (sq_iff x).1 h1
  exact stp_hit h s0 s1 (by omega) (by omega)
theorem step_dark {x f r : Int} (h : sq (stp x f r) = true) : dark (stp x f r) = (dark x == decide ((f + r + 14) % 2 = 0)) := by
  obtain ⟨h1, h2, h3⟩ := stp_sq h
  unfold dark
  rw [h, h1, h2, h3]
  by_cases p : (x % 8 + x / 8) % 2 = 0 <;> by_cases q : (f + r + 14) % 2 = 0
  all_goals simp only [p, q, decide_true, decide_false, Bool.true_and, Bool.false_and, decide_eq_true_eq]
  all_goals simp
  all_goals omega
theorem step_two {x f r k : Int} (h : sq (stp x f r) = true) (h2 : sq (stp (stp x f r) k 0) = true) : stp x (f + k) r = stp (stp x f r) k 0 := by
  obtain ⟨a1, a2, a3⟩ := stp_sq h
  obtain ⟨b1, b2, b3⟩ := stp_sq h2
  obtain ⟨t0, t1⟩ := (sq_iff _).1 h2
  exact stp_hit a1 t0 t1 (by omega) (by omega)
set_option maxHeartbeats 4000000 in
set_option maxRecDepth 100000 in
theorem back_walk (a b c d : Int) (w : World) :
    Calls Try.prog 5 #[.int .i64 a, .int .i64 b, .int .i64 c, .int .i64 d] w fun e w' => e = .returned (.bool true) ∧ Below w.heap.size w w' := by
  obtain ⟨x, hx⟩ : ∃ x, a % 64 = x := ⟨_, rfl⟩
  obtain ⟨f, hf⟩ : ∃ f, b % 15 = f := ⟨_, rfl⟩
  obtain ⟨r, hr⟩ : ∃ r, c % 15 = r := ⟨_, rfl⟩
  obtain ⟨k, hk⟩ : ∃ k, d % 15 = k := ⟨_, rfl⟩
  have x0 : 0 ≤ x ∧ x < 64 := by omega
  have f0 : 0 ≤ f ∧ f < 15 := by omega
  have r0 : 0 ≤ r ∧ r < 15 := by omega
  have k0 : 0 ≤ k ∧ k < 15 := by omega
  have P1 := pick64_any a
  have P2 := pick15_any b
  have P3 := pick15_any c
  have P4 := pick15_any d
  rw [hx] at P1
  rw [hf] at P2
  rw [hr] at P3
  rw [hk] at P4
  clear hx hf hr hk
  have hsq : sq x = true := (sq_iff x).2 x0
  obtain ⟨hn1, hn2⟩ := name_back hsq
  have hat := at_back hsq
  have hor := stp_or x (f - 7) (r - 7)
  have hsb := step_back (x := x) (f := f - 7) (r := r - 7)
  have hsd := step_dark (x := x) (f := f - 7) (r := r - 7)
  have hst := step_two (x := x) (f := f - 7) (r := r - 7) (k := k - 7)
  obtain ⟨t, ht⟩ : ∃ t, stp x (f - 7) (r - 7) = t := ⟨_, rfl⟩
  rw [ht] at hor hsb hsd hst
  have hor2 := stp_or t (k - 7) 0
  obtain ⟨u, hu⟩ : ∃ u, stp t (k - 7) 0 = u := ⟨_, rfl⟩
  rw [hu] at hst hor2
  have HT := Lib.hid ht
  have HU := Lib.hid hu
  have HN1 := Lib.hid hn1
  have HN2 := Lib.hid hn2
  have HAT := Lib.hid hat
  have HSB := Lib.hid hsb
  have HSD := Lib.hid hsd
  have HST := Lib.hid hst
  have P1 := Lib.hid P1
  have P2 := Lib.hid P2
  have P3 := Lib.hid P3
  have P4 := Lib.hid P4
  have HOR := Lib.hid hor
  have HOR2 := Lib.hid hor2
  have HSQ := Lib.hid hsq
  clear ht hu hn1 hn2 hat hsb hsd hst hor hor2 hsq
  go_enter Try.func5, Try.ntmps5
  go_wp2_with fail
  refine (awakeS_any _).mono ?_
  rintro e w1 ⟨rfl, hb1⟩
  have HB1 := Lib.hid hb1
  clear hb1
  go_wp2_with fail
  refine (P1.out _).mono ?_
  rintro e w' ⟨rfl, rfl⟩
  go_wp2_with fail
  refine (P2.out _).mono ?_
  rintro e w' ⟨rfl, rfl⟩
  go_wp2_with fail
  refine (P3.out _).mono ?_
  rintro e w' ⟨rfl, rfl⟩
  go_wp2_with fail
  refine (name_any x _).mono ?_
  rintro e w2 ⟨rfl, hb2⟩
  go_wp2_with fail
  refine (named_any (nmV x) _).mono ?_
  rw [HN1.out, HN2.out]
  rintro e w3 ⟨rfl, hb3⟩
  have HB3 := Lib.hid (HB1.out.trans ((hb2.trans (hb3.mono hb2.size)).mono HB1.out.size))
  clear hb2 hb3 HB1
  go_wp2_with fail
  refine (file_any x _).mono ?_
  rintro e w4 ⟨rfl, hb4⟩
  go_wp2_with fail
  refine (rank_any x _).mono ?_
  rintro e w5 ⟨rfl, hb5⟩
  go_wp2_with fail
  refine (at_any (sF x) (sR x) _).mono ?_
  rw [HAT.out]
  rintro e w6 ⟨rfl, hb6⟩
  have HB6 := Lib.hid (HB3.out.trans ((hb4.trans ((hb5.trans (hb6.mono hb5.size)).mono hb4.size)).mono HB3.out.size))
  clear hb4 hb5 hb6 HB3
  go_wp2_with fail
  refine (step_any x (f - 7) (r - 7) _ (i64_of (by omega) (by omega)) (i64_of (by omega) (by omega))).mono ?_
  rw [HT.out]
  rintro e w7 ⟨rfl, hb7⟩
  have HB7 := Lib.hid (HB6.out.trans (hb7.mono HB6.out.size))
  clear hb7 HB6
  go_wp2_with fail
  refine (is_any t _).mono ?_
  rintro e w8 ⟨rfl, hb8⟩
  have HB8 := Lib.hid (HB7.out.trans (hb8.mono HB7.out.size))
  clear hb8 HB7
  rcases HOR.out with rfl | hq
  · rw [show sq (-1) = false from rfl]
    have hu1 : u = -1 := HU.out.symm.trans (stp_off rfl _ _)
    subst hu1
    go_wp2_with fail
    refine (P4.out _).mono ?_
    rintro e w' ⟨rfl, rfl⟩
    go_wp2_with fail
    refine (step_any (-1) (k - 7) 0 _ (i64_of (by omega) (by omega)) (i64_of (by omega) (by omega))).mono ?_
    rw [HU.out]
    rintro e w9 ⟨rfl, hb9⟩
    have HB9 := Lib.hid (HB8.out.trans (hb9.mono HB8.out.size))
    go_wp2
    go_ret
    exact ⟨rfl, HB9.out⟩
  · have ht0 := (sq_iff t).1 hq
    have hsd := HSD.out hq
    have hsb := HSB.out hq
    rw [show -(f - 7) = 7 - f by omega, show -(r - 7) = 7 - r by omega] at hsb
    have HSB2 := Lib.hid hsb
    have HQ := Lib.hid hq
    rw [hq]
    clear hq hsb
    clear HSB HSD
    have HSBW := Lib.hid (show ∀ W, Calls Try.prog 22 #[.int .i64 t, .int .i64 (7 - f), .int .i64 (7 - r)] W fun e w' => e = .returned (.int .i64 x) ∧ Below W.heap.size W w' from fun W => by
      rw [← HSB2.out]; exact step_any t (7 - f) (7 - r) W (i64_of (by omega) (by omega)) (i64_of (by omega) (by omega)))
    have hn1 : -(f - 7) = 7 - f := by omega
    have hn2 : -(r - 7) = 7 - r := by omega
    go_wp2_with fail
    refine (HSBW.out _).mono ?_
    rintro e w9 ⟨rfl, hb9⟩
    have HB9 := Lib.hid (HB8.out.trans (hb9.mono HB8.out.size))
    clear hb9 HB8 HSBW
    go_wp2_with fail
    refine (darkSq_any t _).mono ?_
    rw [hsd]
    obtain ⟨D, hD⟩ : ∃ D, dark x = D := ⟨_, rfl⟩
    rw [hD]
    rintro e w10 ⟨rfl, hb10⟩
    have HB10 := Lib.hid (HB9.out.trans (hb10.mono HB9.out.size))
    clear hb10 HB9 hsd
    go_wp2_with fail
    refine (darkSq_any x _).mono ?_
    rw [hD]
    clear hD
    rintro e w11 ⟨rfl, hb11⟩
    have HB11 := Lib.hid (HB10.out.trans (hb11.mono HB10.out.size))
    clear hb11 HB10
    have hst := HST.out HQ.out
    have HST2 := Lib.hid hst
    clear hst HST
    have hpp : (f - 7 + (r - 7) + 14) % 2 = 0 ∨ (f - 7 + (r - 7) + 14) % 2 = 1 := by omega
    rcases hpp with hp | hp
    all_goals
      have htm : (f - 7 + (r - 7) + 14).tmod 2 = (f - 7 + (r - 7) + 14) % 2 := Int.tmod_eq_emod_of_nonneg (by omega)
      rw [hp] at htm
      rw [hp]
      clear hp
      cases D
      all_goals
        go_wp2_with fail
        refine (P4.out _).mono ?_
        rintro e w' ⟨rfl, rfl⟩
        go_wp2_with fail
        refine (step_any t (k - 7) 0 _ (i64_of (by omega) (by omega)) (i64_of (by omega) (by omega))).mono ?_
        rw [HU.out]
        rintro e w12 ⟨rfl, hb12⟩
        have HB12 := Lib.hid (HB11.out.trans (hb12.mono HB11.out.size))
        clear hb12
        rcases HOR2.out with rfl | hqu
        · go_wp2
          go_ret
          exact ⟨rfl, HB12.out⟩
        · have hu0 := (sq_iff u).1 hqu
          have HS2 := Lib.hid (HST2.out hqu)
          clear hqu
          by_cases g1 : f - 7 + (k - 7) > 7
          · go_wp2
            go_ret
            exact ⟨rfl, HB12.out⟩
          · by_cases g2 : f - 7 + (k - 7) < -7
            · go_wp2
              go_ret
              exact ⟨rfl, HB12.out⟩
            · go_wp2_with fail
              refine (step_any x (f - 7 + (k - 7)) (r - 7) _ (i64_of (by omega) (by omega)) (i64_of (by omega) (by omega))).mono ?_
              rw [HS2.out]
              rintro e w13 ⟨rfl, hb13⟩
              have HB13 := Lib.hid (HB12.out.trans (hb13.mono HB12.out.size))
              go_wp2
              go_ret
              exact ⟨rfl, HB13.out⟩
end Go.Proofs.Ytaiihdkcpbkmaaa
