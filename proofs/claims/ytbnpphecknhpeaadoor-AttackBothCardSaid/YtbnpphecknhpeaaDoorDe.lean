/-
  The iterator of what a piece attacks: its walk.
-/
import Derived.Test.YtbnpphecknhpeaaDoorDd
namespace Go.Proofs.YtbnpphecknhpeaaDoor
open Go.RowKit Go.Sort
set_option linter.unusedSimpArgs false
set_option linter.unusedVariables false
attribute [local go_sem] Oper.semAt_some

set_option maxHeartbeats 4000000 in
set_option maxRecDepth 100000 in
theorem attacked_comes (b fb sb xb : Nat) (P : Nat → Int) (s k d : Int) (w : World) (har : AR b fb sb P s w) (hxb : w.heap[xb]? = some (.cells #[.int .i64 k, .int .i64 d] 25 (0, 0))) :
    Comes Tryd.prog 42 #[.pointer (some ⟨xb, 0, none⟩), .pointer (some ⟨sb, 0, none⟩), .pointer (some ⟨fb, 0, none⟩)] (AN b fb sb xb) (Value.int .i64) (attL P s k d) w := by
  refine ⟨?_, fun l J Jx X W hW hXN hJ hJx hlt hY h0 => ?_⟩
  · rintro q (rfl | rfl | rfl | rfl | rfl)
    · exact har.p.lt
    · exact al_lt har.f
    · exact al_lt har.s
    · exact al_lt hxb
    · exact har.t.lt
  have HA := Lib.hid (har.go hW)
  have hx1 := sl_go hxb hW
  obtain ⟨x0, x1, xf, _⟩ := row2 hx1
  clear har hxb hW hx1
  have hgs := gait_small k d
  go_enter Tryd.func42, Tryd.ntmps42
  have HJ := Lib.hid hJ
  have HJX := Lib.hid hJx
  have HLT := Lib.hid hlt
  have HY := Lib.hid hY
  have HR := Lib.hid (AR.reads b fb sb xb P s)
  have HN := Lib.hid (show ∀ A, AR b fb sb P s A → xb < A.heap.size → ∀ q, AN b fb sb xb q → q < A.heap.size from fun A h hq q hn => by
    rcases hn with rfl | rfl | rfl | rfl | rfl
    · exact h.p.lt
    · exact al_lt h.f
    · exact al_lt h.s
    · exact hq
    · exact h.t.lt)
  clear hJ hJx hlt hY
  go_wp2_with fail
  refine (gaitOf_any k d _).mono ?_
  rintro e w1 ⟨rfl, hb1⟩
  have HK := Lib.hid ((show Keep J (AR b fb sb P s) (AN b fb sb xb) [] [] X W from ⟨h0, HA.out, fun p hp => (by cases hp), fun q hq => ⟨hXN q hq, fun p hp => (by cases hp)⟩⟩).go HR.out HJ.out hb1)
  have HZ := Lib.hid (Nat.lt_of_lt_of_le ‹xb < W.heap.size› hb1.size)
  clear hb1 h0 HA x0 x1 xf hXN
  have HL := Lib.hid (show attL P s k d = attUp P s k d (gTo k d - gFrom k d) from rfl)
  have HW := Lib.hid (show ∀ i, wayL P s k d i = cut (occB P) (gFar k d) (ray i (stp s (dF i) (dR i))) from fun _ => rfl)
  have HS := Lib.hid (attUp_succ P s k d)
  obtain ⟨g0, hg0⟩ : ∃ g, gFrom k d = g := ⟨_, rfl⟩
  obtain ⟨g1, hg1⟩ : ∃ g, gTo k d = g := ⟨_, rfl⟩
  obtain ⟨fa, hfa⟩ : ∃ f, gFar k d = f := ⟨_, rfl⟩
  rw [hg0, hg1] at HL hgs
  rw [hg0] at HS
  rw [hfa] at HW
  rw [hg0, hg1, hfa]
  clear hg0 hg1 hfa
  have HG := Lib.hid hgs
  clear hgs
  go_wp2
  have HK2 := Lib.hid (HK.out.add (t := w1.heap.size) (o := .cells #[.int .i64 g0, .int .i64 g1, .bool fa] 70 (0, 0)) HR.out HJ.out HLT.out rfl)
  clear HK
  go_loopw [6] (fun i wr => ∃ (m : Nat) (Y : Nat → Prop), g0 ≤ m ∧ m ≤ g1 ∧ i = .int .i64 (m : Int) ∧ xb < wr.heap.size ∧ Keep J (AR b fb sb P s) (AN b fb sb xb) [(w1.heap.size, .cells #[.int .i64 g0, .int .i64 g1, .bool fa] 70 (0, 0))] (attUp P s k d (m - g0)) Y wr) (fun i _ => g1 - (intOf i).toNat)
  case atStart => exact ⟨g0, _, Nat.le_refl _, HG.out.1, rfl, by simp; have := HZ.out; omega, by rw [Nat.sub_self]; exact HK2.out⟩
  case round =>
    clear HK2 HZ
    obtain ⟨v1, rfl⟩ : ∃ v, v = wr := ⟨_, rfl⟩
    obtain ⟨m, Y, hm0, hm1, rfl, hz, hk⟩ := hrel
    have HK := Lib.hid hk
    have HZ1 := Lib.hid hz
    have hh := hk.head
    dsimp only at hh
    obtain ⟨c0, c1, c2, fr, _⟩ := row3 hh
    by_cases hlt : m < g1
    · have hm16 : m < 16 := by have := HG.out.2; omega
      have h0 : (0 : Int) ≤ m := by omega
      have h1 : (m : Int) < 16 := by omega
      have e1 : v1.cell? ⟨0, m * 2, none⟩ = some (.int .i64 (dF m)) := hk.r.t.cell (m * 2) (by omega)
      have e2 : v1.cell? ⟨0, m * 2 + 1, none⟩ = some (.int .i64 (dR m)) := hk.r.t.cell (m * 2 + 1) (by omega)
      have hI := dF_I m hm16
      have hI' := dR_I m hm16
      have HWM := Lib.hid (HW.out m)
      have HRO := Lib.hid (ray_on m hm16)
      obtain ⟨x, hx⟩ : ∃ x, dF m = x := ⟨_, rfl⟩
      obtain ⟨y, hy⟩ : ∃ y, dR m = y := ⟨_, rfl⟩
      rw [hx] at e1 hI
      rw [hy] at e2 hI'
      rw [hx, hy] at HWM HRO
      clear hx hy
      obtain ⟨s0, sf, _⟩ := row1 hk.r.s
      clear hk hz hh
      have HI := Lib.hid (And.intro hI hI')
      clear hI hI'
      go_wp2_with fail
      refine (step_any s x y _ HI.out.1 HI.out.2).mono ?_
      rintro e w2 ⟨rfl, hb2⟩
      have HK3 := Lib.hid ((HK.out.add (t := v1.heap.size) (o := .cells #[.int .i64 x, .int .i64 y] 73 (0, 0)) HR.out HJ.out HLT.out rfl).go HR.out HJ.out hb2)
      have hs2 := hb2.size
      rw [World.size_alloc] at hs2
      have HZ2 := Lib.hid (show xb < w2.heap.size by have := HZ1.out; omega)
      clear hb2 hs2 HK HZ1 c0 c1 c2 fr e1 e2 s0 sf h0 h1
      obtain ⟨pr, hpr⟩ : ∃ p, attUp P s k d (m - g0) = p := ⟨_, rfl⟩
      rw [hpr] at HK3
      have HPR := Lib.hid hpr
      clear hpr
      go_wp2
      go_loopw [8] (fun v wr => ∃ (t : Int) (pi : List Int) (Y : Nat → Prop), v = .int .i64 t ∧ xb < wr.heap.size ∧ wayL P s k d m = pi ++ cut (occB P) fa (ray m t) ∧ Keep J (AR b fb sb P s) (AN b fb sb xb) [(v1.heap.size, .cells #[.int .i64 x, .int .i64 y] 73 (0, 0)), (w1.heap.size, .cells #[.int .i64 g0, .int .i64 g1, .bool fa] 70 (0, 0))] (pr ++ pi) Y wr) (fun v _ => (ray m (intOf v)).length)
      case atStart => exact ⟨_, [], _, rfl, HZ2.out, by rw [List.nil_append]; exact HWM.out, by rw [List.append_nil]; exact HK3.out⟩
      case round =>
        clear HK3 HZ2
        obtain ⟨t, pi, Z, rfl, hz, hw, hk⟩ := hrel
        have HZ3 := Lib.hid hz
        have HWL := Lib.hid hw
        have HK4 := Lib.hid hk
        clear hz hw hk
        cases hs : sq t
        · have HSQ := Lib.hid hs
          have HEND := Lib.hid (show attUp P s k d (m + 1 - g0) = pr ++ pi by
            rw [show m + 1 - g0 = (m - g0) + 1 by omega, HS.out, HPR.out, show g0 + (m - g0) = m by omega, HWL.out, ray_off m t hs, show cut (occB P) fa [] = [] from rfl, List.append_nil])
          clear hs
          go_wp2_with fail
          refine (is_any t _).mono ?_
          rw [HSQ.out]
          rintro e w3 ⟨rfl, hb3⟩
          have HK5 := Lib.hid (HK4.out.go HR.out HJ.out hb3)
          have HZ4 := Lib.hid (Nat.lt_of_lt_of_le HZ3.out hb3.size)
          clear hb3 HK4 HZ3
          have h0 : (0 : Int) ≤ m := by omega
          have h1 : (m : Int) < 16 := by omega
          go_wp2
          go_roundw
          case rel => exact ⟨m + 1, Z, by omega, by omega, by go_num, HZ4.out, by rw [HEND.out]; exact HK5.out.drop⟩
          case measure => simp [intOf]; omega
        · obtain ⟨t0, t1⟩ := (sq_iff t).1 hs
          obtain ⟨n, rfl⟩ := Int.eq_ofNat_of_zero_le t0
          have HSQ := Lib.hid hs
          have hr := HRO.out _ hs
          have hw2 : wayL P s k d m = pi ++ (n : Int) :: (if fa && !occB P n then cut (occB P) fa (ray m (stp n x y)) else []) := by rw [HWL.out, hr]; rfl
          have HW2 := Lib.hid hw2
          have HRR := Lib.hid hr
          have HPF := Lib.hid (show (pr ++ pi) ++ [(n : Int)] <+: attL P s k d by
            have h1 : (pr ++ pi) ++ [(n : Int)] <+: attUp P s k d (m - g0 + 1) := by
              rw [HS.out, HPR.out, show g0 + (m - g0) = m by omega, hw2]
              exact ⟨if fa && !occB P n then cut (occB P) fa (ray m (stp n x y)) else [], by simp⟩
            rw [HL.out]
            exact h1.trans (attUp_pre P s k d (by omega)))
          clear hs hr hw2
          go_wp2_with fail
          refine (is_any n _).mono ?_
          rw [HSQ.out]
          rintro e w3 ⟨rfl, hb3⟩
          have HK5 := Lib.hid (HK4.out.go HR.out HJ.out hb3)
          have HZ4 := Lib.hid (Nat.lt_of_lt_of_le HZ3.out hb3.size)
          clear hb3 HK4 HZ3
          go_upto_region 8 with (fail)
          obtain ⟨fn, tmps, assign, body, hy, hR8⟩ := HY.out _ (n : Int) Z w3 HK5.out.j HPF.out
          refine (wpIn_wide (n := 0)).1 ?_
          gi_wp2
          refine ⟨rfl, (roundIn_wide hR8).mono ?_⟩
          clear hR8 hy
          rintro e B ⟨Z2, hT, hZ2, (⟨rfl, hJB⟩ | ⟨rfl, hJB⟩)⟩
          · have HK6 := Lib.hid (HK5.out.turn HR.out (HN.out _ HK5.out.r HZ4.out) hT hZ2 hJB)
            have HZ5 := Lib.hid (Nat.lt_of_lt_of_le HZ4.out hT.size)
            clear hT hZ2 hJB HK5 HZ4
            have hg := HK6.out.next
            have ht := HK6.out.head
            dsimp only at hg ht
            obtain ⟨c0, c1, c2, fr, _⟩ := row3 hg
            obtain ⟨d0, d1, dr, _⟩ := row2 ht
            obtain ⟨f0, ff, _⟩ := row1 HK6.out.r.f
            have hpb := HK6.out.r.p
            clear hg ht
            have HPB := Lib.hid hpb
            clear hpb
            gi_wp2
            have h0 : (0 : Int) ≤ m := by omega
            have h1 : (m : Int) < 16 := by omega
            have HEND := Lib.hid (show (fa && !occB P n) = false → attUp P s k d (m + 1 - g0) = pr ++ pi ++ [(n : Int)] from fun he => by
              rw [show m + 1 - g0 = (m - g0) + 1 by omega, HS.out, HPR.out, show g0 + (m - g0) = m by omega, HW2.out, he]; simp)
            clear HWL
            cases fa
            · go_wp2
              go_roundw
              case rel => exact ⟨m + 1, Z2, by omega, by omega, by go_num, HZ5.out, by rw [HEND.out rfl]; exact HK6.out.drop⟩
              case measure => simp [intOf]; omega
            · have hn64 : n < 64 := by omega
              go_wp2_with fail
              refine (stands_any b P n hn64 _ HPB.out).mono ?_
              cases ho : occB P n
              · rw [ho] at HW2
                have HW3 := Lib.hid (show wayL P s k d m = (pi ++ [(n : Int)]) ++ cut (occB P) true (ray m (stp n x y)) by rw [HW2.out]; simp)
                clear HEND HW2 ho
                rintro e B2 ⟨rfl, rfl⟩
                go_wp2_with fail
                refine (step_any n x y _ HI.out.1 HI.out.2).mono ?_
                rintro e B3 ⟨rfl, hb3⟩
                have HK7 := Lib.hid (HK6.out.go HR.out HJ.out hb3)
                have HZ6 := Lib.hid (Nat.lt_of_lt_of_le HZ5.out hb3.size)
                clear hb3 HK6 HZ5 c0 c1 c2 fr d0 d1 dr f0 ff
                go_wp2
                go_roundw
                case rel => exact ⟨stp n x y, pi ++ [(n : Int)], Z2, rfl, HZ6.out, HW3.out, by rw [← List.append_assoc]; exact HK7.out⟩
                case measure => simp [intOf, HRR.out]
              · have HE2 := Lib.hid (HEND.out (by rw [ho]; rfl))
                clear HEND HW2 ho
                rintro e B2 ⟨rfl, rfl⟩
                go_wp2
                go_roundw
                case rel => exact ⟨m + 1, Z2, by omega, by omega, by go_num, HZ5.out, by rw [HE2.out]; exact HK6.out.drop⟩
                case measure => simp [intOf]; omega
          · gi_wp2
            go_wp2
            refine bodyPost_ret (results_none rfl _ _ _) rfl ?_
            exact ⟨⟨_, rfl⟩, Z2, .inr ⟨_, HPF.out, hJB⟩⟩
    · obtain rfl : m = g1 := by omega
      clear hh hk hz
      go_wp2
      go_end0
      exact ⟨⟨_, rfl⟩, Y, .inl (by rw [HL.out]; exact HK.out.j)⟩
end Go.Proofs.YtbnpphecknhpeaaDoor
