/-
  Contracts: the document's castlings.
-/
import Derived.Test.YteahikjnlhlmmaaDoorBm
namespace Go.Proofs.YteahikjnlhlmmaaDoor
open Go.RowKit Go.Sort
set_option linter.unusedSimpArgs false
set_option linter.unusedVariables false

/-- a whole position is loaded, in a region that does not draw -/
theorem wpList_pos {ops : Array Oper} {rest : List Oper} {op : Oper} {a : Act} {w : World} {Q : Exit → Act → World → Prop} (hw : Region.wanted op (yielded ops a.tmps) = true) (x : Operand) (ho : op.op = .load 29 x)
    (b : Nat) (P : Nat → Int) (X : Array Value) (hX : X = (pc P).toArray) (hx : a.eval x = .pointer (some ⟨b, 0, none⟩)) (hc : PB w b P) (h : wpList Tryd.prog ops Q rest (a.put op.dst (.agg X)) w) : wpList Tryd.prog ops Q (op :: rest) a w := by
  subst hX
  exact BigFrame.wpList_want hw fun _ hK => wp_load_mid 29 x ho b 0 hx (pc P) _ hc.range Tryd.underlying29 rfl (by rw [infoPos, pc_len]) (hK _ _ h)
set_option maxHeartbeats 1000000 in
set_option maxRecDepth 100000 in
theorem rHome_any (P : Nat → Int) (d : Int) (k r : Nat) (hk : k < 64) (hr : r < 64) (w : World) :
    Calls Tryd.prog 49 #[.agg (pc P).toArray, .int .i64 d, .int .i64 (k : Int), .int .i64 (r : Int)] w fun e w' => e = .returned (.bool (homeB P d k r)) ∧ Below w.heap.size w w' := by
  obtain ⟨X, hX⟩ : ∃ X, X = (pc P).toArray := ⟨_, rfl⟩
  rw [← hX]
  have hp : PB (w.alloc (.cells X 29)) w.heap.size P := by subst hX; exact PB.new rfl
  have HB := Lib.hid (below_new (w := w) (.cells X 29))
  have e1 := hp.cell (k * 2) (by omega)
  have e2 := hp.cell (k * 2 + 1) (by omega)
  have e3 := hp.cell (r * 2) (by omega)
  have e4 := hp.cell (r * 2 + 1) (by omega)
  have k0 : (0 : Int) ≤ k := by omega
  have k1 : (k : Int) < 64 := by omega
  have r0 : (0 : Int) ≤ r := by omega
  have r1 : (r : Int) < 64 := by omega
  clear hX hp
  obtain ⟨a, ha⟩ : ∃ a, pe (P (k * 2)) (P (k * 2 + 1)) 6 d = a := ⟨_, rfl⟩
  obtain ⟨b, hb⟩ : ∃ b, pe (P (r * 2)) (P (r * 2 + 1)) 4 d = b := ⟨_, rfl⟩
  have HV := Lib.hid (show homeB P d k r = (a && b) by unfold homeB; rw [Nat.mul_comm 2 k, Nat.mul_comm 2 r, ha, hb])
  generalize P (k * 2) = x1 at *
  generalize P (k * 2 + 1) = x2 at *
  generalize P (r * 2) = x3 at *
  generalize P (r * 2 + 1) = x4 at *
  cases a
  · go_enter Tryd.func49, Tryd.ntmps49
    go_wp2
    go_ret
    exact ⟨q_b HV.out.symm, HB.out⟩
  · go_enter Tryd.func49, Tryd.ntmps49
    go_wp2
    go_ret
    exact ⟨q_b (by rw [HV.out]; simp), HB.out⟩
def castB (P : Nat → Int) : Bool := casB (P 129) && (P 129 % 2 == 0 || homeB P 0 4 7) && (P 129 / 2 % 2 == 0 || homeB P 0 4 0) && (P 129 / 4 % 2 == 0 || homeB P 1 60 63) && (P 129 / 8 == 0 || homeB P 1 60 56)
theorem tdm (c : Int) (h : 0 ≤ c) : c.tmod 2 = c % 2 ∧ (c.tdiv 2).tmod 2 = c / 2 % 2 ∧ (c.tdiv 4).tmod 2 = c / 4 % 2 ∧ c.tdiv 8 = c / 8 := by
  have h2 : c.tdiv 2 = c / 2 := Int.tdiv_eq_ediv_of_nonneg h
  have h4 : c.tdiv 4 = c / 4 := Int.tdiv_eq_ediv_of_nonneg h
  have h8 : c.tdiv 8 = c / 8 := Int.tdiv_eq_ediv_of_nonneg h
  refine ⟨Int.tmod_eq_emod_of_nonneg h, ?_, ?_, h8⟩
  · rw [h2]; exact Int.tmod_eq_emod_of_nonneg (by omega)
  · rw [h4]; exact Int.tmod_eq_emod_of_nonneg (by omega)
set_option maxHeartbeats 2000000 in
set_option maxRecDepth 100000 in
theorem rCastles_any (P : Nat → Int) (w : World) :
    Calls Tryd.prog 36 #[.agg (pc P).toArray] w fun e w' => e = .returned (.bool (castB P)) ∧ Below w.heap.size w w' := by
  obtain ⟨X, hX⟩ : ∃ X, X = (pc P).toArray := ⟨_, rfl⟩
  rw [← hX]
  have hp : PB (w.alloc (.cells X 29)) w.heap.size P := by subst hX; exact PB.new rfl
  have HB := Lib.hid (below_new (w := w) (.cells X 29))
  have HP := Lib.hid hp
  have HM := Lib.hid (rHome_any P)
  rw [← hX] at HM
  have HX := Lib.hid hX
  have e1 := hp.cell 129 (by omega)
  clear hp hX
  have hv : castB P = (casB (P 129) && (P 129 % 2 == 0 || homeB P 0 4 7) && (P 129 / 2 % 2 == 0 || homeB P 0 4 0) && (P 129 / 4 % 2 == 0 || homeB P 1 60 63) && (P 129 / 8 == 0 || homeB P 1 60 56)) := rfl
  generalize P 129 = c at *
  rcases cas_cases c with ⟨h1, hb⟩ | ⟨h1, hb⟩ | ⟨h1, h2, hb⟩
  case inr.inr =>
    rw [hb] at hv
    obtain ⟨t1, t2, t3, t4⟩ := tdm c h1
    obtain ⟨m1, u1⟩ : ∃ m, c % 2 = m := ⟨_, rfl⟩
    obtain ⟨m2, u2⟩ : ∃ m, c / 2 % 2 = m := ⟨_, rfl⟩
    obtain ⟨m3, u3⟩ : ∃ m, c / 4 % 2 = m := ⟨_, rfl⟩
    obtain ⟨m4, u4⟩ : ∃ m, c / 8 = m := ⟨_, rfl⟩
    rw [u1] at t1 hv
    rw [u2] at t2 hv
    rw [u3] at t3 hv
    rw [u4] at t4 hv
    obtain ⟨b1, hb1⟩ : ∃ b1, (m1 == 0) = b1 := ⟨_, rfl⟩
    obtain ⟨b2, hb2⟩ : ∃ b2, (m2 == 0) = b2 := ⟨_, rfl⟩
    obtain ⟨b3, hb3⟩ : ∃ b3, (m3 == 0) = b3 := ⟨_, rfl⟩
    obtain ⟨b4, hb4⟩ : ∃ b4, (m4 == 0) = b4 := ⟨_, rfl⟩
    obtain ⟨a1, ha1⟩ : ∃ a1, homeB P 0 4 7 = a1 := ⟨_, rfl⟩
    obtain ⟨a2, ha2⟩ : ∃ a2, homeB P 0 4 0 = a2 := ⟨_, rfl⟩
    obtain ⟨a3, ha3⟩ : ∃ a3, homeB P 1 60 63 = a3 := ⟨_, rfl⟩
    obtain ⟨a4, ha4⟩ : ∃ a4, homeB P 1 60 56 = a4 := ⟨_, rfl⟩
    rw [hb1, hb2, hb3, hb4, ha1, ha2, ha3, ha4] at hv
    have HV := Lib.hid hv
    have A1 := Lib.hid ha1
    have A2 := Lib.hid ha2
    have A3 := Lib.hid ha3
    have A4 := Lib.hid ha4
    clear hv ha1 ha2 ha3 ha4 hb
    cases b1 <;> cases b2 <;> cases b3 <;> cases b4
    · go_enter Tryd.func36, Tryd.ntmps36
      go_wp2_with (refine wpList_pos (by rfl) _ (by rfl) w.heap.size P X HX.out (by rfl) HP.out ?_)
      refine (HM.out 0 4 7 (by omega) (by omega) _).mono ?_
      rw [A1.out]
      rintro e w1 ⟨rfl, hb⟩
      replace HP := Lib.hid (HP.out.go hb)
      replace HB := Lib.hid (HB.out.trans (hb.mono HB.out.size))
      clear hb
      cases a1
      · go_wp2
        go_ret
        exact ⟨q_b (by rw [HV.out]; simp), HB.out⟩
      go_wp2_with (refine wpList_pos (by rfl) _ (by rfl) w.heap.size P X HX.out (by rfl) HP.out ?_)
      refine (HM.out 0 4 0 (by omega) (by omega) _).mono ?_
      rw [A2.out]
      rintro e w2 ⟨rfl, hb⟩
      replace HP := Lib.hid (HP.out.go hb)
      replace HB := Lib.hid (HB.out.trans (hb.mono HB.out.size))
      clear hb
      cases a2
      · go_wp2
        go_ret
        exact ⟨q_b (by rw [HV.out]; simp), HB.out⟩
      go_wp2_with (refine wpList_pos (by rfl) _ (by rfl) w.heap.size P X HX.out (by rfl) HP.out ?_)
      refine (HM.out 1 60 63 (by omega) (by omega) _).mono ?_
      rw [A3.out]
      rintro e w3 ⟨rfl, hb⟩
      replace HP := Lib.hid (HP.out.go hb)
      replace HB := Lib.hid (HB.out.trans (hb.mono HB.out.size))
      clear hb
      cases a3
      · go_wp2
        go_ret
        exact ⟨q_b (by rw [HV.out]; simp), HB.out⟩
      go_wp2_with (refine wpList_pos (by rfl) _ (by rfl) w.heap.size P X HX.out (by rfl) HP.out ?_)
      refine (HM.out 1 60 56 (by omega) (by omega) _).mono ?_
      rw [A4.out]
      rintro e w4 ⟨rfl, hb⟩
      replace HP := Lib.hid (HP.out.go hb)
      replace HB := Lib.hid (HB.out.trans (hb.mono HB.out.size))
      clear hb
      cases a4
      · go_wp2
        go_ret
        exact ⟨q_b (by rw [HV.out]; simp), HB.out⟩
      go_wp2
      go_ret
      exact ⟨q_b (by rw [HV.out]; simp), HB.out⟩
    · go_enter Tryd.func36, Tryd.ntmps36
      go_wp2_with (refine wpList_pos (by rfl) _ (by rfl) w.heap.size P X HX.out (by rfl) HP.out ?_)
      refine (HM.out 0 4 7 (by omega) (by omega) _).mono ?_
      rw [A1.out]
      rintro e w1 ⟨rfl, hb⟩
      replace HP := Lib.hid (HP.out.go hb)
      replace HB := Lib.hid (HB.out.trans (hb.mono HB.out.size))
      clear hb
      cases a1
      · go_wp2
        go_ret
        exact ⟨q_b (by rw [HV.out]; simp), HB.out⟩
      go_wp2_with (refine wpList_pos (by rfl) _ (by rfl) w.heap.size P X HX.out (by rfl) HP.out ?_)
      refine (HM.out 0 4 0 (by omega) (by omega) _).mono ?_
      rw [A2.out]
      rintro e w2 ⟨rfl, hb⟩
      replace HP := Lib.hid (HP.out.go hb)
      replace HB := Lib.hid (HB.out.trans (hb.mono HB.out.size))
      clear hb
      cases a2
      · go_wp2
        go_ret
        exact ⟨q_b (by rw [HV.out]; simp), HB.out⟩
      go_wp2_with (refine wpList_pos (by rfl) _ (by rfl) w.heap.size P X HX.out (by rfl) HP.out ?_)
      refine (HM.out 1 60 63 (by omega) (by omega) _).mono ?_
      rw [A3.out]
      rintro e w3 ⟨rfl, hb⟩
      replace HP := Lib.hid (HP.out.go hb)
      replace HB := Lib.hid (HB.out.trans (hb.mono HB.out.size))
      clear hb
      cases a3
      · go_wp2
        go_ret
        exact ⟨q_b (by rw [HV.out]; simp), HB.out⟩
      go_wp2
      go_ret
      exact ⟨q_b (by rw [HV.out]; simp), HB.out⟩
    · go_enter Tryd.func36, Tryd.ntmps36
      go_wp2_with (refine wpList_pos (by rfl) _ (by rfl) w.heap.size P X HX.out (by rfl) HP.out ?_)
      refine (HM.out 0 4 7 (by omega) (by omega) _).mono ?_
      rw [A1.out]
      rintro e w1 ⟨rfl, hb⟩
      replace HP := Lib.hid (HP.out.go hb)
      replace HB := Lib.hid (HB.out.trans (hb.mono HB.out.size))
      clear hb
      cases a1
      · go_wp2
        go_ret
        exact ⟨q_b (by rw [HV.out]; simp), HB.out⟩
      go_wp2_with (refine wpList_pos (by rfl) _ (by rfl) w.heap.size P X HX.out (by rfl) HP.out ?_)
      refine (HM.out 0 4 0 (by omega) (by omega) _).mono ?_
      rw [A2.out]
      rintro e w2 ⟨rfl, hb⟩
      replace HP := Lib.hid (HP.out.go hb)
      replace HB := Lib.hid (HB.out.trans (hb.mono HB.out.size))
      clear hb
      cases a2
      · go_wp2
        go_ret
        exact ⟨q_b (by rw [HV.out]; simp), HB.out⟩
      go_wp2_with (refine wpList_pos (by rfl) _ (by rfl) w.heap.size P X HX.out (by rfl) HP.out ?_)
      refine (HM.out 1 60 56 (by omega) (by omega) _).mono ?_
      rw [A4.out]
      rintro e w4 ⟨rfl, hb⟩
      replace HP := Lib.hid (HP.out.go hb)
      replace HB := Lib.hid (HB.out.trans (hb.mono HB.out.size))
      clear hb
      cases a4
      · go_wp2
        go_ret
        exact ⟨q_b (by rw [HV.out]; simp), HB.out⟩
      go_wp2
      go_ret
      exact ⟨q_b (by rw [HV.out]; simp), HB.out⟩
    · go_enter Tryd.func36, Tryd.ntmps36
      go_wp2_with (refine wpList_pos (by rfl) _ (by rfl) w.heap.size P X HX.out (by rfl) HP.out ?_)
      refine (HM.out 0 4 7 (by omega) (by omega) _).mono ?_
      rw [A1.out]
      rintro e w1 ⟨rfl, hb⟩
      replace HP := Lib.hid (HP.out.go hb)
      replace HB := Lib.hid (HB.out.trans (hb.mono HB.out.size))
      clear hb
      cases a1
      · go_wp2
        go_ret
        exact ⟨q_b (by rw [HV.out]; simp), HB.out⟩
      go_wp2_with (refine wpList_pos (by rfl) _ (by rfl) w.heap.size P X HX.out (by rfl) HP.out ?_)
      refine (HM.out 0 4 0 (by omega) (by omega) _).mono ?_
      rw [A2.out]
      rintro e w2 ⟨rfl, hb⟩
      replace HP := Lib.hid (HP.out.go hb)
      replace HB := Lib.hid (HB.out.trans (hb.mono HB.out.size))
      clear hb
      cases a2
      · go_wp2
        go_ret
        exact ⟨q_b (by rw [HV.out]; simp), HB.out⟩
      go_wp2
      go_ret
      exact ⟨q_b (by rw [HV.out]; simp), HB.out⟩
    · go_enter Tryd.func36, Tryd.ntmps36
      go_wp2_with (refine wpList_pos (by rfl) _ (by rfl) w.heap.size P X HX.out (by rfl) HP.out ?_)
      refine (HM.out 0 4 7 (by omega) (by omega) _).mono ?_
      rw [A1.out]
      rintro e w1 ⟨rfl, hb⟩
      replace HP := Lib.hid (HP.out.go hb)
      replace HB := Lib.hid (HB.out.trans (hb.mono HB.out.size))
      clear hb
      cases a1
      · go_wp2
        go_ret
        exact ⟨q_b (by rw [HV.out]; simp), HB.out⟩
      go_wp2_with (refine wpList_pos (by rfl) _ (by rfl) w.heap.size P X HX.out (by rfl) HP.out ?_)
      refine (HM.out 1 60 63 (by omega) (by omega) _).mono ?_
      rw [A3.out]
      rintro e w3 ⟨rfl, hb⟩
      replace HP := Lib.hid (HP.out.go hb)
      replace HB := Lib.hid (HB.out.trans (hb.mono HB.out.size))
      clear hb
      cases a3
      · go_wp2
        go_ret
        exact ⟨q_b (by rw [HV.out]; simp), HB.out⟩
      go_wp2_with (refine wpList_pos (by rfl) _ (by rfl) w.heap.size P X HX.out (by rfl) HP.out ?_)
      refine (HM.out 1 60 56 (by omega) (by omega) _).mono ?_
      rw [A4.out]
      rintro e w4 ⟨rfl, hb⟩
      replace HP := Lib.hid (HP.out.go hb)
      replace HB := Lib.hid (HB.out.trans (hb.mono HB.out.size))
      clear hb
      cases a4
      · go_wp2
        go_ret
        exact ⟨q_b (by rw [HV.out]; simp), HB.out⟩
      go_wp2
      go_ret
      exact ⟨q_b (by rw [HV.out]; simp), HB.out⟩
    · go_enter Tryd.func36, Tryd.ntmps36
      go_wp2_with (refine wpList_pos (by rfl) _ (by rfl) w.heap.size P X HX.out (by rfl) HP.out ?_)
      refine (HM.out 0 4 7 (by omega) (by omega) _).mono ?_
      rw [A1.out]
      rintro e w1 ⟨rfl, hb⟩
      replace HP := Lib.hid (HP.out.go hb)
      replace HB := Lib.hid (HB.out.trans (hb.mono HB.out.size))
      clear hb
      cases a1
      · go_wp2
        go_ret
        exact ⟨q_b (by rw [HV.out]; simp), HB.out⟩
      go_wp2_with (refine wpList_pos (by rfl) _ (by rfl) w.heap.size P X HX.out (by rfl) HP.out ?_)
      refine (HM.out 1 60 63 (by omega) (by omega) _).mono ?_
      rw [A3.out]
      rintro e w3 ⟨rfl, hb⟩
      replace HP := Lib.hid (HP.out.go hb)
      replace HB := Lib.hid (HB.out.trans (hb.mono HB.out.size))
      clear hb
      cases a3
      · go_wp2
        go_ret
        exact ⟨q_b (by rw [HV.out]; simp), HB.out⟩
      go_wp2
      go_ret
      exact ⟨q_b (by rw [HV.out]; simp), HB.out⟩
    · go_enter Tryd.func36, Tryd.ntmps36
      go_wp2_with (refine wpList_pos (by rfl) _ (by rfl) w.heap.size P X HX.out (by rfl) HP.out ?_)
      refine (HM.out 0 4 7 (by omega) (by omega) _).mono ?_
      rw [A1.out]
      rintro e w1 ⟨rfl, hb⟩
      replace HP := Lib.hid (HP.out.go hb)
      replace HB := Lib.hid (HB.out.trans (hb.mono HB.out.size))
      clear hb
      cases a1
      · go_wp2
        go_ret
        exact ⟨q_b (by rw [HV.out]; simp), HB.out⟩
      go_wp2_with (refine wpList_pos (by rfl) _ (by rfl) w.heap.size P X HX.out (by rfl) HP.out ?_)
      refine (HM.out 1 60 56 (by omega) (by omega) _).mono ?_
      rw [A4.out]
      rintro e w4 ⟨rfl, hb⟩
      replace HP := Lib.hid (HP.out.go hb)
      replace HB := Lib.hid (HB.out.trans (hb.mono HB.out.size))
      clear hb
      cases a4
      · go_wp2
        go_ret
        exact ⟨q_b (by rw [HV.out]; simp), HB.out⟩
      go_wp2
      go_ret
      exact ⟨q_b (by rw [HV.out]; simp), HB.out⟩
    · go_enter Tryd.func36, Tryd.ntmps36
      go_wp2_with (refine wpList_pos (by rfl) _ (by rfl) w.heap.size P X HX.out (by rfl) HP.out ?_)
      refine (HM.out 0 4 7 (by omega) (by omega) _).mono ?_
      rw [A1.out]
      rintro e w1 ⟨rfl, hb⟩
      replace HP := Lib.hid (HP.out.go hb)
      replace HB := Lib.hid (HB.out.trans (hb.mono HB.out.size))
      clear hb
      cases a1
      · go_wp2
        go_ret
        exact ⟨q_b (by rw [HV.out]; simp), HB.out⟩
      go_wp2
      go_ret
      exact ⟨q_b (by rw [HV.out]; simp), HB.out⟩
    · go_enter Tryd.func36, Tryd.ntmps36
      go_wp2_with (refine wpList_pos (by rfl) _ (by rfl) w.heap.size P X HX.out (by rfl) HP.out ?_)
      refine (HM.out 0 4 0 (by omega) (by omega) _).mono ?_
      rw [A2.out]
      rintro e w2 ⟨rfl, hb⟩
      replace HP := Lib.hid (HP.out.go hb)
      replace HB := Lib.hid (HB.out.trans (hb.mono HB.out.size))
      clear hb
      cases a2
      · go_wp2
        go_ret
        exact ⟨q_b (by rw [HV.out]; simp), HB.out⟩
      go_wp2_with (refine wpList_pos (by rfl) _ (by rfl) w.heap.size P X HX.out (by rfl) HP.out ?_)
      refine (HM.out 1 60 63 (by omega) (by omega) _).mono ?_
      rw [A3.out]
      rintro e w3 ⟨rfl, hb⟩
      replace HP := Lib.hid (HP.out.go hb)
      replace HB := Lib.hid (HB.out.trans (hb.mono HB.out.size))
      clear hb
      cases a3
      · go_wp2
        go_ret
        exact ⟨q_b (by rw [HV.out]; simp), HB.out⟩
      go_wp2_with (refine wpList_pos (by rfl) _ (by rfl) w.heap.size P X HX.out (by rfl) HP.out ?_)
      refine (HM.out 1 60 56 (by omega) (by omega) _).mono ?_
      rw [A4.out]
      rintro e w4 ⟨rfl, hb⟩
      replace HP := Lib.hid (HP.out.go hb)
      replace HB := Lib.hid (HB.out.trans (hb.mono HB.out.size))
      clear hb
      cases a4
      · go_wp2
        go_ret
        exact ⟨q_b (by rw [HV.out]; simp), HB.out⟩
      go_wp2
      go_ret
      exact ⟨q_b (by rw [HV.out]; simp), HB.out⟩
    · go_enter Tryd.func36, Tryd.ntmps36
      go_wp2_with (refine wpList_pos (by rfl) _ (by rfl) w.heap.size P X HX.out (by rfl) HP.out ?_)
      refine (HM.out 0 4 0 (by omega) (by omega) _).mono ?_
      rw [A2.out]
      rintro e w2 ⟨rfl, hb⟩
      replace HP := Lib.hid (HP.out.go hb)
      replace HB := Lib.hid (HB.out.trans (hb.mono HB.out.size))
      clear hb
      cases a2
      · go_wp2
        go_ret
        exact ⟨q_b (by rw [HV.out]; simp), HB.out⟩
      go_wp2_with (refine wpList_pos (by rfl) _ (by rfl) w.heap.size P X HX.out (by rfl) HP.out ?_)
      refine (HM.out 1 60 63 (by omega) (by omega) _).mono ?_
      rw [A3.out]
      rintro e w3 ⟨rfl, hb⟩
      replace HP := Lib.hid (HP.out.go hb)
      replace HB := Lib.hid (HB.out.trans (hb.mono HB.out.size))
      clear hb
      cases a3
      · go_wp2
        go_ret
        exact ⟨q_b (by rw [HV.out]; simp), HB.out⟩
      go_wp2
      go_ret
      exact ⟨q_b (by rw [HV.out]; simp), HB.out⟩
    · go_enter Tryd.func36, Tryd.ntmps36
      go_wp2_with (refine wpList_pos (by rfl) _ (by rfl) w.heap.size P X HX.out (by rfl) HP.out ?_)
      refine (HM.out 0 4 0 (by omega) (by omega) _).mono ?_
      rw [A2.out]
      rintro e w2 ⟨rfl, hb⟩
      replace HP := Lib.hid (HP.out.go hb)
      replace HB := Lib.hid (HB.out.trans (hb.mono HB.out.size))
      clear hb
      cases a2
      · go_wp2
        go_ret
        exact ⟨q_b (by rw [HV.out]; simp), HB.out⟩
      go_wp2_with (refine wpList_pos (by rfl) _ (by rfl) w.heap.size P X HX.out (by rfl) HP.out ?_)
      refine (HM.out 1 60 56 (by omega) (by omega) _).mono ?_
      rw [A4.out]
      rintro e w4 ⟨rfl, hb⟩
      replace HP := Lib.hid (HP.out.go hb)
      replace HB := Lib.hid (HB.out.trans (hb.mono HB.out.size))
      clear hb
      cases a4
      · go_wp2
        go_ret
        exact ⟨q_b (by rw [HV.out]; simp), HB.out⟩
      go_wp2
      go_ret
      exact ⟨q_b (by rw [HV.out]; simp), HB.out⟩
    · go_enter Tryd.func36, Tryd.ntmps36
      go_wp2_with (refine wpList_pos (by rfl) _ (by rfl) w.heap.size P X HX.out (by rfl) HP.out ?_)
      refine (HM.out 0 4 0 (by omega) (by omega) _).mono ?_
      rw [A2.out]
      rintro e w2 ⟨rfl, hb⟩
      replace HP := Lib.hid (HP.out.go hb)
      replace HB := Lib.hid (HB.out.trans (hb.mono HB.out.size))
      clear hb
      cases a2
      · go_wp2
        go_ret
        exact ⟨q_b (by rw [HV.out]; simp), HB.out⟩
      go_wp2
      go_ret
      exact ⟨q_b (by rw [HV.out]; simp), HB.out⟩
    · go_enter Tryd.func36, Tryd.ntmps36
      go_wp2_with (refine wpList_pos (by rfl) _ (by rfl) w.heap.size P X HX.out (by rfl) HP.out ?_)
      refine (HM.out 1 60 63 (by omega) (by omega) _).mono ?_
      rw [A3.out]
      rintro e w3 ⟨rfl, hb⟩
      replace HP := Lib.hid (HP.out.go hb)
      replace HB := Lib.hid (HB.out.trans (hb.mono HB.out.size))
      clear hb
      cases a3
      · go_wp2
        go_ret
        exact ⟨q_b (by rw [HV.out]; simp), HB.out⟩
      go_wp2_with (refine wpList_pos (by rfl) _ (by rfl) w.heap.size P X HX.out (by rfl) HP.out ?_)
      refine (HM.out 1 60 56 (by omega) (by omega) _).mono ?_
      rw [A4.out]
      rintro e w4 ⟨rfl, hb⟩
      replace HP := Lib.hid (HP.out.go hb)
      replace HB := Lib.hid (HB.out.trans (hb.mono HB.out.size))
      clear hb
      cases a4
      · go_wp2
        go_ret
        exact ⟨q_b (by rw [HV.out]; simp), HB.out⟩
      go_wp2
      go_ret
      exact ⟨q_b (by rw [HV.out]; simp), HB.out⟩
    · go_enter Tryd.func36, Tryd.ntmps36
      go_wp2_with (refine wpList_pos (by rfl) _ (by rfl) w.heap.size P X HX.out (by rfl) HP.out ?_)
      refine (HM.out 1 60 63 (by omega) (by omega) _).mono ?_
      rw [A3.out]
      rintro e w3 ⟨rfl, hb⟩
      replace HP := Lib.hid (HP.out.go hb)
      replace HB := Lib.hid (HB.out.trans (hb.mono HB.out.size))
      clear hb
      cases a3
      · go_wp2
        go_ret
        exact ⟨q_b (by rw [HV.out]; simp), HB.out⟩
      go_wp2
      go_ret
      exact ⟨q_b (by rw [HV.out]; simp), HB.out⟩
    · go_enter Tryd.func36, Tryd.ntmps36
      go_wp2_with (refine wpList_pos (by rfl) _ (by rfl) w.heap.size P X HX.out (by rfl) HP.out ?_)
      refine (HM.out 1 60 56 (by omega) (by omega) _).mono ?_
      rw [A4.out]
      rintro e w4 ⟨rfl, hb⟩
      replace HP := Lib.hid (HP.out.go hb)
      replace HB := Lib.hid (HB.out.trans (hb.mono HB.out.size))
      clear hb
      cases a4
      · go_wp2
        go_ret
        exact ⟨q_b (by rw [HV.out]; simp), HB.out⟩
      go_wp2
      go_ret
      exact ⟨q_b (by rw [HV.out]; simp), HB.out⟩
    · go_enter Tryd.func36, Tryd.ntmps36
      go_wp2
      go_ret
      exact ⟨q_b (by rw [HV.out]; simp), HB.out⟩
  all_goals
    have HV := Lib.hid (show castB P = false by rw [hv, hb]; rfl)
    clear hb hv
    go_enter Tryd.func36, Tryd.ntmps36
    go_wp2
    go_ret
    exact ⟨q_b HV.out.symm, HB.out⟩
end Go.Proofs.YteahikjnlhlmmaaDoor
