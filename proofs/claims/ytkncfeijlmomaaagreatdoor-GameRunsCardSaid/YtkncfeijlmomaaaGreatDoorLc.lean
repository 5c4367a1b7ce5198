/-
  Games: claims, stops, what is told.
-/
import Derived.Test.YtkncfeijlmomaaaGreatDoorLb
namespace Go.Proofs.YtkncfeijlmomaaaGreatDoor
open Go.RowKit Go.Sort Go.Maps
set_option linter.unusedSimpArgs false
set_option linter.unusedVariables false
set_option maxRecDepth 20000

def Gm.clE (g : Gm) (y : Int) : Int := if y = 6 ∨ y = 7 then (if g.r = 0 then (if g.cl y then 0 else 8) else 9) else 2
def Gm.stE (g : Gm) (y : Int) : Int := if y = 8 ∨ y = 9 ∨ y = 10 then (if g.r = 0 then 0 else 9) else 2
def Gm.clG (g : Gm) (y : Int) : Gm := if g.clE y = 0 then { g with r := 3, y := y } else g
def Gm.stG (g : Gm) (y : Int) : Gm := if g.stE y = 0 then { g with r := if y = 8 then 3 else winN (oth (g.P 128)), y := y } else g
/-- what an operation on a game's result leaves -/
structure Gdid (base : Nat) (g g' : Gm) (w w' : World) : Prop where
  m : GW base g' w'
  c : Ch (fun k => k = g.gb) w w'
theorem Gdid.same {base : Nat} {g : Gm} {w w' : World} (h : GW base g w) (b : Below w.heap.size w w') : Gdid base g g w w' := ⟨h.go b, Ch.bel b⟩
theorem Gdid.two {base : Nat} {g : Gm} {w w1 : World} (h : GW base g w) (b : Below w.heap.size w w1) (r y : Int) : Gdid base g { g with r := r, y := y } w ((w1.setCell ⟨g.gb, 136, none⟩ (.int .i64 r)).setCell ⟨g.gb, 137, none⟩ (.int .i64 y)) :=
  ⟨((h.go b).setR r).setY y, ((Ch.bel (X := fun k => k = g.gb) b).trans (Ch.gr (X := fun k => k = g.gb) (gr1_B (hb := g.gb) (i := 136) (w := w1) (.int .i64 r)) rfl) fun _ _ hx => hx).trans (Ch.gr (X := fun k => k = g.gb) (gr1_B (hb := g.gb) (i := 137) (.int .i64 y)) rfl) fun _ _ hx => hx⟩
theorem Gdid.three {base : Nat} {g : Gm} {w w1 : World} (h : GW base g w) (b : Below w.heap.size w w1) (r s y : Int) : Gdid base g { g with r := s, y := y } w (((w1.setCell ⟨g.gb, 136, none⟩ (.int .i64 r)).setCell ⟨g.gb, 137, none⟩ (.int .i64 y)).setCell ⟨g.gb, 136, none⟩ (.int .i64 s)) :=
  ⟨(Gdid.two h b r y).m.setR s, (Gdid.two h b r y).c.trans (Ch.gr (X := fun k => k = g.gb) (gr1_B (hb := g.gb) (i := 136) (.int .i64 s)) rfl) fun _ _ hx => hx⟩
theorem clE_ne (g : Gm) (y : Int) (h6 : y ≠ 6) (h7 : y ≠ 7) : g.clE y = 2 := by unfold Gm.clE; rw [if_neg (by omega)]
theorem clE_yes (g : Gm) (y : Int) (h : y = 6 ∨ y = 7) : g.clE y = if g.r = 0 then (if g.cl y then 0 else 8) else 9 := by unfold Gm.clE; rw [if_pos h]
set_option maxHeartbeats 4000000 in
set_option maxRecDepth 100000 in
theorem gclaim_any (B base : Nat) (g : Gm) (y : Int) (hn : g.n ≤ 1000000) (w : World) (h : GW base g w) (he : EN B w) :
    Calls Tryz.prog 20 #[.pointer (some ⟨g.gb, 0, none⟩), .int .i64 y] w fun e w' => e = .returned (.int .i64 (g.clE y)) ∧ Gdid base g (g.clG y) w w' := by
  have MN := Lib.hid (gnone_any base g w h)
  have MO := Lib.hid (gover_any base g w h)
  have MC := Lib.hid (gmay_any B base g y hn w h he)
  have HS := Lib.hid (fun w' (b : Below w.heap.size w w') => Gdid.same h b)
  have HT := Lib.hid (fun w1 (b : Below w.heap.size w w1) => Gdid.two h b 3 y)
  have HC := Lib.hid (fun w1 (b : Below w.heap.size w w1) => (h.go b).cell.2.2.2.2)
  have HL := Lib.hid (fun w1 (b : Below w.heap.size w w1) => (h.go b).lt)
  have xz := h.lt
  clear h he hn
  have go2 : y ≠ 6 → y ≠ 7 → Calls Tryz.prog 20 #[.pointer (some ⟨g.gb, 0, none⟩), .int .i64 y] w fun e w' => e = .returned (.int .i64 (g.clE y)) ∧ Gdid base g (g.clG y) w w' := fun h6 h7 => by
    have e6 : (y != 6) = true := bne_iff_ne.2 h6
    have e7 : (y != 7) = true := bne_iff_ne.2 h7
    have HE := Lib.hid (clE_ne g y h6 h7)
    have HV := Lib.hid (show g.clG y = g by unfold Gm.clG; rw [clE_ne g y h6 h7]; rfl)
    clear MO MC HT HC h6 h7 HL
    go_enter Tryz.func20, Tryz.ntmps20
    go_wp2_with fail
    refine MN.out.mono ?_
    rintro e w1 ⟨rfl, rfl⟩
    dsimp only
    refine list_go (by assumption) ?_
    go_wp2
    go_ret
    exact ⟨q_i HE.out.symm, by rw [HV.out]; exact HS.out _ (Below.refl _ _)⟩
  by_cases hy : y = 6 ∨ y = 7
  · have HE := Lib.hid (clE_yes g y hy)
    have HGV := Lib.hid (show g.clG y = if g.clE y = 0 then { g with r := 3, y := y } else g from rfl)
    have HM := Lib.hid (show g.may y = if g.r = 0 then g.cl y else false from rfl)
    obtain ⟨c, hc⟩ : ∃ c, g.cl y = c := ⟨_, rfl⟩
    rw [hc] at HE HM
    by_cases h0 : g.r = 0
    · rw [show (g.r != 0) = false by rw [h0]; rfl] at MO
      rw [if_pos h0] at HM HE
      rw [HM.out] at MC
      clear go2 h0 hc HM
      cases c
      · have HE2 := Lib.hid (show g.clE y = 8 from HE.out)
        have HV := Lib.hid (show g.clG y = g by rw [HGV.out, HE2.out]; rfl)
        clear HE HGV HT HC HL
        rcases hy with rfl | rfl
        all_goals
          go_enter Tryz.func20, Tryz.ntmps20
          go_wp2_with fail
          refine MN.out.mono ?_
          rintro e w1 ⟨rfl, rfl⟩
          dsimp only
          refine list_go (by assumption) ?_
          go_wp2_with fail
          refine MO.out.mono ?_
          rintro e w1 ⟨rfl, rfl⟩
          dsimp only
          refine list_go (by assumption) ?_
          go_wp2_with fail
          refine MC.out.mono ?_
          rintro e w1 ⟨rfl, hb⟩
          dsimp only
          refine list_go (by assumption) ?_
          go_wp2
          go_ret
          exact ⟨q_i HE2.out.symm, by rw [HV.out]; exact HS.out _ hb⟩
      · have HE2 := Lib.hid (show g.clE y = 0 from HE.out)
        have HV := Lib.hid (show g.clG y = { g with r := 3, y := y } by rw [HGV.out, HE2.out]; rfl)
        clear HE HGV HS
        rcases hy with rfl | rfl
        all_goals
          go_enter Tryz.func20, Tryz.ntmps20
          go_wp2_with fail
          refine MN.out.mono ?_
          rintro e w1 ⟨rfl, rfl⟩
          dsimp only
          refine list_go (by assumption) ?_
          go_wp2_with fail
          refine MO.out.mono ?_
          rintro e w1 ⟨rfl, rfl⟩
          dsimp only
          refine list_go (by assumption) ?_
          go_wp2_with fail
          refine MC.out.mono ?_
          rintro e w1 ⟨rfl, hb⟩
          dsimp only
          refine list_go (by assumption) ?_
          obtain ⟨x1, x2, _, y0⟩ := HC.out _ hb
          have y1 := y0 136
          have y2 := y0 137
          clear y0
          have y3 := HL.out _ hb
          go_wp2
          go_ret
          exact ⟨q_i HE2.out.symm, by rw [HV.out]; exact HT.out _ hb⟩
    · rw [show (g.r != 0) = true from bne_iff_ne.2 h0] at MO
      rw [if_neg h0] at HE
      have HV := Lib.hid (show g.clG y = g by rw [HGV.out, HE.out]; rfl)
      clear HGV HT HC HL MC h0 hc HM go2
      rcases hy with rfl | rfl
      all_goals
        go_enter Tryz.func20, Tryz.ntmps20
        go_wp2_with fail
        refine MN.out.mono ?_
        rintro e w1 ⟨rfl, rfl⟩
        dsimp only
        refine list_go (by assumption) ?_
        go_wp2_with fail
        refine MO.out.mono ?_
        rintro e w1 ⟨rfl, rfl⟩
        dsimp only
        refine list_go (by assumption) ?_
        go_wp2
        go_ret
        exact ⟨q_i HE.out.symm, by rw [HV.out]; exact HS.out _ (Below.refl _ _)⟩
  · exact go2 (fun e => hy (.inl e)) (fun e => hy (.inr e))
theorem stE_ne (g : Gm) (y : Int) (h8 : y ≠ 8) (h9 : y ≠ 9) (h10 : y ≠ 10) : g.stE y = 2 := by unfold Gm.stE; rw [if_neg (by omega)]
theorem stE_yes (g : Gm) (y : Int) (h : y = 8 ∨ y = 9 ∨ y = 10) : g.stE y = if g.r = 0 then 0 else 9 := by unfold Gm.stE; rw [if_pos h]
set_option maxHeartbeats 4000000 in
set_option maxRecDepth 100000 in
theorem gstop_any (base : Nat) (g : Gm) (y : Int) (w : World) (h : GW base g w) :
    Calls Tryz.prog 34 #[.pointer (some ⟨g.gb, 0, none⟩), .int .i64 y] w fun e w' => e = .returned (.int .i64 (g.stE y)) ∧ Gdid base g (g.stG y) w w' := by
  have MN := Lib.hid (gnone_any base g w h)
  have MO := Lib.hid (gover_any base g w h)
  have ML := Lib.hid (glost_any base g w h)
  have HS := Lib.hid (Gdid.same h (Below.refl _ _))
  have HT := Lib.hid (fun r => Gdid.two h (Below.refl _ _) r y)
  have HT3 := Lib.hid (fun r => Gdid.three h (Below.refl _ _) r 3 y)
  obtain ⟨x1, x2, _, y0⟩ := h.cell.2.2.2.2
  have y1 := y0 136
  have y2 := y0 137
  clear y0
  have xz := h.lt
  clear h
  obtain ⟨wn, hwn⟩ : ∃ x, winN (oth (g.P 128)) = x := ⟨_, rfl⟩
  have HW := Lib.hid hwn
  rw [hwn] at ML
  clear hwn
  by_cases hy : y = 8 ∨ y = 9 ∨ y = 10
  · have HE := Lib.hid (stE_yes g y hy)
    have HGV := Lib.hid (show g.stG y = if g.stE y = 0 then { g with r := if y = 8 then 3 else wn, y := y } else g by unfold Gm.stG; rw [HW.out])
    by_cases h0 : g.r = 0
    · rw [show (g.r != 0) = false by rw [h0]; rfl] at MO
      rw [if_pos h0] at HE
      have HV := Lib.hid (show g.stG y = { g with r := if y = 8 then 3 else wn, y := y } by rw [HGV.out, HE.out]; rfl)
      clear HGV HS h0 HW
      rcases hy with rfl | rfl | rfl
      all_goals
        go_enter Tryz.func34, Tryz.ntmps34
        go_wp2_with fail
        refine MN.out.mono ?_
        rintro e w1 ⟨rfl, rfl⟩
        dsimp only
        refine list_go (by assumption) ?_
        go_wp2_with fail
        refine MO.out.mono ?_
        rintro e w1 ⟨rfl, rfl⟩
        dsimp only
        refine list_go (by assumption) ?_
        go_wp2_with fail
        refine ML.out.mono ?_
        rintro e w1 ⟨rfl, rfl⟩
        dsimp only
        refine list_go (by assumption) ?_
        go_wp2
        go_ret
        exact ⟨q_i HE.out.symm, by rw [HV.out]; first | exact HT.out wn | exact HT3.out wn⟩
    · rw [show (g.r != 0) = true from bne_iff_ne.2 h0] at MO
      rw [if_neg h0] at HE
      have HV := Lib.hid (show g.stG y = g by rw [HGV.out, HE.out]; rfl)
      clear HGV HT HT3 ML h0 HW
      rcases hy with rfl | rfl | rfl
      all_goals
        go_enter Tryz.func34, Tryz.ntmps34
        go_wp2_with fail
        refine MN.out.mono ?_
        rintro e w1 ⟨rfl, rfl⟩
        dsimp only
        refine list_go (by assumption) ?_
        go_wp2_with fail
        refine MO.out.mono ?_
        rintro e w1 ⟨rfl, rfl⟩
        dsimp only
        refine list_go (by assumption) ?_
        go_wp2
        go_ret
        exact ⟨q_i HE.out.symm, by rw [HV.out]; exact HS.out⟩
  · have h8 : y ≠ 8 := fun e => hy (.inl e)
    have h9 : y ≠ 9 := fun e => hy (.inr (.inl e))
    have h10 : y ≠ 10 := fun e => hy (.inr (.inr e))
    have e8 : (y != 8) = true := bne_iff_ne.2 h8
    have e9 : (y != 9) = true := bne_iff_ne.2 h9
    have e10 : (y != 10) = true := bne_iff_ne.2 h10
    have HE := Lib.hid (stE_ne g y h8 h9 h10)
    have HV := Lib.hid (show g.stG y = g by unfold Gm.stG; rw [stE_ne g y h8 h9 h10]; rfl)
    clear MO ML HT HT3 h8 h9 h10 hy HW
    go_enter Tryz.func34, Tryz.ntmps34
    go_wp2_with fail
    refine MN.out.mono ?_
    rintro e w1 ⟨rfl, rfl⟩
    dsimp only
    refine list_go (by assumption) ?_
    go_wp2
    go_ret
    exact ⟨q_i HE.out.symm, by rw [HV.out]; exact HS.out⟩
set_option maxHeartbeats 2000000 in
set_option maxRecDepth 100000 in
theorem gresult_any (base : Nat) (g : Gm) (w : World) (h : GW base g w) :
    Calls Tryz.prog 22 #[.pointer (some ⟨g.gb, 0, none⟩)] w fun e w' => e = .returned (.tuple #[.int .i64 g.r, .int .i64 g.y]) ∧ Below w.heap.size w w' := by
  have MN := Lib.hid (gnone_any base g w h)
  obtain ⟨_, _, _, _, x0, x1, _, xf⟩ := h.cell
  have xf1 := xf 136
  have xf2 := xf 137
  have xz := h.lt
  generalize g.r = r at *
  generalize g.y = y at *
  clear h
  go_enter Tryz.func22, Tryz.ntmps22
  go_wp2_with fail
  refine MN.out.mono ?_
  rintro e w1 ⟨rfl, rfl⟩
  dsimp only
  refine list_go (by assumption) ?_
  go_wp2
  go_region
  all_goals (go_wp2; go_ret2; exact ⟨rfl, (Below.refl _ _).drew⟩)
end Go.Proofs.YtkncfeijlmomaaaGreatDoor
