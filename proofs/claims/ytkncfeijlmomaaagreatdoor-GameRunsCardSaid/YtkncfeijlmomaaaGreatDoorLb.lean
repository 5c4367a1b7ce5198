/-
  Games: contracts of the small functions.
-/
import Derived.Test.YtkncfeijlmomaaaGreatDoorLa
namespace Go.Proofs.YtkncfeijlmomaaaGreatDoor
open Go.RowKit Go.Sort Go.Maps
set_option linter.unusedSimpArgs false
set_option linter.unusedVariables false
set_option maxRecDepth 20000

theorem infoGm : (Tryz.prog.info? 81).map (·.size) = some 139 := by kernel_rfl
theorem infoGm_ex : ∃ j, Tryz.prog.info? 81 = some j := by
  cases e : Tryz.prog.info? 81 with
  | none => have := infoGm; rw [e] at this; cases this
  | some j => exact ⟨j, rfl⟩
set_option maxHeartbeats 1000000 in
set_option maxRecDepth 100000 in
theorem gnone_any (base : Nat) (g : Gm) (w : World) (h : GW base g w) :
    Calls Tryz.prog 44 #[.pointer (some ⟨g.gb, 0, none⟩)] w fun e w' => e = .returned (.bool false) ∧ w' = w := by
  obtain ⟨_, _, _, _, _, _, x0, xf⟩ := h.cell
  have xf := xf 138
  have xz := h.lt
  obtain ⟨j, hj⟩ := infoGm_ex
  generalize g.gb = gb at *
  have en := fun W => Lib.run_neq_ptr_same (P := Tryz.prog) W (tp := 32) (te := 81) ⟨gb, 0, none⟩ Tryz.underlying32 hj
  clear h hj
  go_enter Tryz.func44, Tryz.ntmps44
  go_wp2
  go_ret
  exact ⟨rfl, rfl⟩
set_option maxHeartbeats 1000000 in
set_option maxRecDepth 100000 in
theorem gover_any (base : Nat) (g : Gm) (w : World) (h : GW base g w) :
    Calls Tryz.prog 52 #[.pointer (some ⟨g.gb, 0, none⟩)] w fun e w' => e = .returned (.bool (g.r != 0)) ∧ w' = w := by
  obtain ⟨_, _, _, _, x0, _, _, xf⟩ := h.cell
  have xf := xf 136
  have xz := h.lt
  generalize g.gb = gb at *
  generalize g.r = r at *
  clear h
  go_enter Tryz.func52, Tryz.ntmps52
  go_wp2
  go_ret
  exact ⟨rfl, rfl⟩
set_option maxHeartbeats 1000000 in
theorem drawn_any (b : Bool) (y : Int) (w : World) :
    Calls Tryz.prog 108 #[.bool b, .int .i64 y] w fun e w' => e = .returned (.tuple #[.int .i64 (if b then 3 else 0), .int .i64 (if b then y else 0)]) ∧ w' = w := by
  cases b
  · go_enter Tryz.func108, Tryz.ntmps108
    go_wp2
    go_ret2
    exact ⟨rfl, rfl⟩
  · go_enter Tryz.func108, Tryz.ntmps108
    go_wp2
    go_ret2
    exact ⟨rfl, rfl⟩
set_option maxHeartbeats 1000000 in
set_option maxRecDepth 100000 in
theorem glost_any (base : Nat) (g : Gm) (w : World) (h : GW base g w) :
    Calls Tryz.prog 66 #[.pointer (some ⟨g.gb, 0, none⟩)] w fun e w' => e = .returned (.int .i64 (winN (oth (g.P 128)))) ∧ w' = w := by
  obtain ⟨x0, _, _, _, _, _, _, xf⟩ := h.cell
  have x0 := x0 128 (by omega)
  have xf := xf 128
  have xz := h.lt
  generalize g.gb = gb at *
  obtain ⟨d, hd⟩ : ∃ d, g.P 128 = d := ⟨_, rfl⟩
  rw [hd] at x0 ⊢
  clear h
  go_enter Tryz.func66, Tryz.ntmps66
  go_wp2_with fail
  refine (other_any d w).mono ?_
  rintro e w1 ⟨rfl, rfl⟩
  dsimp only
  refine list_go (by assumption) ?_
  go_wp2_with fail
  refine (wins_any _ w).mono ?_
  rintro e w1 ⟨rfl, rfl⟩
  dsimp only
  refine list_go (by assumption) ?_
  go_wp2
  go_ret
  exact ⟨rfl, rfl⟩
/-- may a draw be claimed so at its position -/
def Gm.cl (g : Gm) (y : Int) : Bool := if y = 6 then decide (3 ≤ g.n) else if y = 7 then atB g.P 100 else false
def Gm.may (g : Gm) (y : Int) : Bool := if g.r = 0 then g.cl y else false
set_option maxHeartbeats 2000000 in
set_option maxRecDepth 100000 in
theorem gclaimable_any (B base : Nat) (g : Gm) (y : Int) (hn : g.n ≤ 1000000) (w : World) (h : GW base g w) (he : EN B w) :
    Calls Tryz.prog 67 #[.pointer (some ⟨g.gb, 0, none⟩), .int .i64 y] w fun e w' => e = .returned (.bool (g.cl y)) ∧ Below w.heap.size w w' := by
  obtain ⟨_, _, x0, _, _, _, _, xf⟩ := h.cell
  have xf := xf 134
  have xz := h.lt
  by_cases h6 : y = 6
  · subst h6
    have HV := Lib.hid (show g.cl 6 = decide ((3 : Int) ≤ (g.n : Int)) by unfold Gm.cl; rw [if_pos rfl]; exact decide_eq_decide.2 (by omega))
    generalize g.gb = gb at *
    generalize g.n = n at *
    clear h he
    go_enter Tryz.func67, Tryz.ntmps67
    go_wp2
    go_ret
    exact ⟨q_b HV.out.symm, Below.refl _ _⟩
  · have e6 : (y == 6) = false := beq_eq_false_iff_ne.2 h6
    by_cases h7 : y = 7
    · subst h7
      have HV := Lib.hid (show g.cl 7 = atB g.P 100 from rfl)
      obtain ⟨X, hX⟩ : ∃ X, X = (pc g.P).toArray := ⟨_, rfl⟩
      have HX := Lib.hid hX
      have HP := Lib.hid h.pb
      have MF := Lib.hid (fun W (h : EN B W) => fifty_any g.P W B h.gb h.gs h.gm h.gp h.k)
      rw [← hX] at MF
      have HE := Lib.hid he
      clear h he hX x0
      go_enter Tryz.func67, Tryz.ntmps67
      go_wp2_with (first | refine wpList_pos (by rfl) _ (by rfl) g.gb g.P X HX.out (by rfl) HP.out ?_ | fail)
      refine (MF.out _ HE.out).mono ?_
      rintro e w1 ⟨rfl, hb⟩
      dsimp only
      refine list_go (by assumption) ?_
      go_wp2
      go_ret
      exact ⟨q_b HV.out.symm, hb⟩
    · have e7 : (y == 7) = false := beq_eq_false_iff_ne.2 h7
      have HV := Lib.hid (show g.cl y = false by unfold Gm.cl; rw [if_neg h6, if_neg h7])
      clear h he x0
      go_enter Tryz.func67, Tryz.ntmps67
      go_wp2
      go_ret
      exact ⟨q_b HV.out.symm, Below.refl _ _⟩
set_option maxHeartbeats 2000000 in
set_option maxRecDepth 100000 in
theorem gmay_any (B base : Nat) (g : Gm) (y : Int) (hn : g.n ≤ 1000000) (w : World) (h : GW base g w) (he : EN B w) :
    Calls Tryz.prog 35 #[.pointer (some ⟨g.gb, 0, none⟩), .int .i64 y] w fun e w' => e = .returned (.bool (g.may y)) ∧ Below w.heap.size w w' := by
  have MN := Lib.hid (gnone_any base g w h)
  have MO := Lib.hid (gover_any base g w h)
  have MC := Lib.hid (gclaimable_any B base g y hn w h he)
  have xz := h.lt
  have HV := Lib.hid (show g.may y = if g.r = 0 then g.cl y else false from rfl)
  obtain ⟨c, hc⟩ : ∃ c, g.cl y = c := ⟨_, rfl⟩
  rw [hc] at HV MC
  generalize g.may y = q at *
  by_cases h0 : g.r = 0
  · rw [h0] at MO HV
    rw [if_pos rfl] at HV
    rw [show ((0 : Int) != 0) = false from rfl] at MO
    clear h he hc h0
    go_enter Tryz.func35, Tryz.ntmps35
    go_wp2_with fail
    refine MN.out.mono ?_
    rintro e w1 ⟨rfl, rfl⟩
    dsimp only
    refine list_go (by assumption) ?_
    go_wp2_with fail
    refine MO.out.mono ?_
    rintro e w1 ⟨rfl, rfl⟩
    dsimp only
    refine list_go (by assumption) ?_
    go_wp2_with fail
    refine MC.out.mono ?_
    rintro e w1 ⟨rfl, hb⟩
    dsimp only
    refine list_go (by assumption) ?_
    go_wp2
    go_ret
    exact ⟨q_b HV.out.symm, hb⟩
  · rw [if_neg h0] at HV
    rw [show (g.r != 0) = true from bne_iff_ne.2 h0] at MO
    clear h he hc h0 MC
    go_enter Tryz.func35, Tryz.ntmps35
    go_wp2_with fail
    refine MN.out.mono ?_
    rintro e w1 ⟨rfl, rfl⟩
    dsimp only
    refine list_go (by assumption) ?_
    go_wp2_with fail
    refine MO.out.mono ?_
    rintro e w1 ⟨rfl, rfl⟩
    dsimp only
    refine list_go (by assumption) ?_
    go_wp2
    go_ret
    exact ⟨q_b HV.out.symm, Below.refl _ _⟩
end Go.Proofs.YtkncfeijlmomaaaGreatDoor
