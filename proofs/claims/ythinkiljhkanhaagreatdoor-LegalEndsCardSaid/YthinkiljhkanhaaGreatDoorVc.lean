/-
  LegalEnds: kings beside and apart, castlings over attacked squares, a pinned pawn, the begin three deep.
-/
import Derived.Test.YthinkiljhkanhaaGreatDoorUi
import Derived.Test.YthinkiljhkanhaaGreatDoorVb
namespace Go.Proofs.YthinkiljhkanhaaGreatDoor
open Go.RowKit Go.Sort
set_option linter.unusedSimpArgs false
set_option linter.unusedVariables false
set_option maxRecDepth 20000

/-- what stands in this law: the packages' variables, the two kings -/
structure LW (B b1 b2 : Nat) (w W : World) : Prop where
  gb : GB B W
  gs : GS B W
  gm : GM B W
  gp : GP B W
  bel : Below w.heap.size w W
  k : B ≤ w.heap.size
  r1 : W.heap[b1]? = some (.cells #[.int .i64 6, .int .i64 0] 25 (0, 0))
  r2 : W.heap[b2]? = some (.cells #[.int .i64 6, .int .i64 1] 25 (0, 0))
theorem LW.l1 {B b1 b2 : Nat} {w W : World} (h : LW B b1 b2 w W) : b1 < W.heap.size := al_lt h.r1
theorem LW.l2 {B b1 b2 : Nat} {w W : World} (h : LW B b1 b2 w W) : b2 < W.heap.size := al_lt h.r2
theorem LW.upto {B b1 b2 H : Nat} {w W W' : World} (h : LW B b1 b2 w W) (g : Below H W W') (hw : w.heap.size ≤ H) (h1 : b1 < H) (h2 : b2 < H) : LW B b1 b2 w W' :=
  have g0 := g.mono (Nat.le_trans h.k hw)
  ⟨h.gb.below g0, h.gs.below g0, h.gm.below g0, h.gp.below g0, h.bel.trans (g.mono hw), h.k, (g.block b1 h1).trans h.r1, (g.block b2 h2).trans h.r2⟩
theorem LW.go {B b1 b2 : Nat} {w W W' : World} (h : LW B b1 b2 w W) (g : Below W.heap.size W W') : LW B b1 b2 w W' := h.upto g h.bel.size h.l1 h.l2
/-- .. and a position in a block behind them -/
structure LX (B b1 b2 b : Nat) (P : Nat → Int) (w W : World) : Prop where
  l : LW B b1 b2 w W
  p : PB W b P
  z : w.heap.size ≤ b
  n1 : b1 < b
  n2 : b2 < b
theorem LX.go {B b1 b2 b : Nat} {P : Nat → Int} {w W W' : World} (h : LX B b1 b2 b P w W) (g : Below W.heap.size W W') : LX B b1 b2 b P w W' :=
  ⟨h.l.go g, h.p.go g, h.z, h.n1, h.n2⟩
theorem LX.set {B b1 b2 b : Nat} {P : Nat → Int} {w W : World} (h : LX B b1 b2 b P w W) (i : Nat) (x : Int) (hi : i < 133) : LX B b1 b2 b (setN P i x) w (W.setCell ⟨b, i, none⟩ (.int .i64 x)) :=
  ⟨h.l.upto ((Below.refl _ W).setCell (p := ⟨b, i, none⟩) (Nat.le_refl b) _) h.z h.n1 h.n2, h.p.set i x hi, h.z, h.n1, h.n2⟩
theorem LX.pt {B b1 b2 b : Nat} {P : Nat → Int} {w W : World} (h : LX B b1 b2 b P w W) (m : Nat) (k d : Int) (hm : m < 64) :
    LX B b1 b2 b (ptN P m k d) w ((W.setCell ⟨b, m * 2, none⟩ (.int .i64 k)).setCell ⟨b, m * 2 + 1, none⟩ (.int .i64 d)) := by
  have := (h.set (m * 2) k (by omega)).set (m * 2 + 1) d (by omega)
  unfold ptN
  rwa [Nat.mul_comm 2 m]
theorem LX.drew {B b1 b2 b : Nat} {P : Nat → Int} {w W : World} (h : LX B b1 b2 b P w W) : LX B b1 b2 b P w W.drew := h.go (Below.refl _ _).drew
/-- .. and another, further on -/
structure LY (B b1 b2 b : Nat) (P : Nat → Int) (c : Nat) (R : Nat → Int) (w W : World) : Prop where
  x : LX B b1 b2 b P w W
  q : PB W c R
  g : b < c
theorem LY.go {B b1 b2 b c : Nat} {P R : Nat → Int} {w W W' : World} (h : LY B b1 b2 b P c R w W) (g : Below W.heap.size W W') : LY B b1 b2 b P c R w W' :=
  ⟨h.x.go g, h.q.go g, h.g⟩
theorem LY.set {B b1 b2 b c : Nat} {P R : Nat → Int} {w W : World} (h : LY B b1 b2 b P c R w W) (i : Nat) (x : Int) (hi : i < 133) : LY B b1 b2 b P c (setN R i x) w (W.setCell ⟨c, i, none⟩ (.int .i64 x)) := by
  have hb : Below c W (W.setCell ⟨c, i, none⟩ (.int .i64 x)) := (Below.refl _ W).setCell (p := ⟨c, i, none⟩) (Nat.le_refl c) _
  have h1 := h.x.z
  have h2 := h.x.n1
  have h3 := h.x.n2
  have h4 := h.g
  exact ⟨⟨h.x.l.upto hb (by omega) (by omega) (by omega), h.x.p.below hb h4, h1, h2, h3⟩, h.q.set i x hi, h4⟩
theorem LY.drew {B b1 b2 b c : Nat} {P R : Nat → Int} {w W : World} (h : LY B b1 b2 b P c R w W) : LY B b1 b2 b P c R w W.drew := h.go (Below.refl _ _).drew
/-- LegalTells, of any position and row -/
theorem ltB {B b1 b2 : Nat} {w W : World} (h : LW B b1 b2 w W) (P : Nat → Int) (X : Array Value) (hX : X = (pc P).toArray) (F T G : Nat → Int) (p : Option Addr) (n c : Nat) (hn : n ≤ maxLen) (hr : Reads3 W.heap.size W p n F T G) :
    Calls Tryz.prog 3 #[.agg X, .slice p n c] W fun e w' => e = .returned (.bool true) ∧ Below W.heap.size W w' := by
  subst hX
  exact legalTells_any P p n c F T G W B hn hr h.gb h.gs h.gm h.gp (Nat.le_trans h.k h.bel.size)
theorem row3_one (V : World) (f t k : Int) : Reads3 (V.alloc (.cells #[.int .i64 f, .int .i64 t, .int .i64 k] 41)).heap.size (V.alloc (.cells #[.int .i64 f, .int .i64 t, .int .i64 k] 41)) (some ⟨V.heap.size, 0, none⟩) 1 (fun _ => f) (fun _ => t) (fun _ => k) := by
  have hat : (V.alloc (.cells #[.int .i64 f, .int .i64 t, .int .i64 k] 41)).heap[V.heap.size]? = some (.cells #[.int .i64 f, .int .i64 t, .int .i64 k] 41 (0, 0)) := sl_at rfl
  obtain ⟨q0, q1, q2, _, _⟩ := row3 hat
  refine .inr ⟨V.heap.size, 0, rfl, by simp, fun i hi => ?_⟩
  obtain rfl : i = 0 := by omega
  exact ⟨q0, q1, q2⟩
theorem row3_none (V : World) : Reads3 V.heap.size V none 0 (fun _ => 0) (fun _ => 0) (fun _ => 0) := .inl rfl
theorem countB {B b1 b2 : Nat} {w W : World} (h : LW B b1 b2 w W) (P : Nat → Int) (X : Array Value) (hX : X = (pc P).toArray) (x : Int) (n : Nat) (v : Int) (hn : cntP P x = n) (hv : (n : Int) = v) :
    Calls Tryz.prog 22 #[.agg X, .int .i64 x] W fun e w' => e = .returned (.int .i64 v) ∧ Below W.heap.size W w' := by
  subst hX; subst hn; subst hv
  exact lCount_any P x W B h.gb h.gs h.gm h.gp (Nat.le_trans h.k h.bel.size)
theorem isB {B b1 b2 : Nat} {w W : World} (h : LW B b1 b2 w W) (P : Nat → Int) (X : Array Value) (hX : X = (pc P).toArray) (f t k : Int) (v : Bool) (hv : (posB P && legB P f t k) = v) :
    Calls Tryz.prog 20 #[.agg X, .agg #[.int .i64 f, .int .i64 t, .int .i64 k]] W fun e w' => e = .returned (.bool v) ∧ Below W.heap.size W w' := by
  subst hX; subst hv
  exact lIs_any P f t k W B h.gb h.gs h.gm h.gp (Nat.le_trans h.k h.bel.size)
theorem rPosB (P : Nat → Int) (X : Array Value) (hX : X = (pc P).toArray) (v : Bool) (hv : posB P = v) (W : World) :
    Calls Tryz.prog 16 #[.agg X] W fun e w' => e = .returned (.bool v) ∧ Below W.heap.size W w' := by
  subst hX; subst hv
  exact rPosition_any P W
/-- the pinned pawn, that would take over -/
def pinN : Nat → Int := setN (ptN (ptN (ptN (ptN (ptN emptyN 32 6 0) 39 4 1) 56 6 1) 33 1 0) 34 1 1) 130 42
theorem pin_pos : posB pinN = true := by decide +kernel
theorem pin_is : (posB pinN && legB pinN 33 42 0) = false := by
  unfold legB
  rw [legF_is]
  decide +kernel
theorem full_not : posB (setN startN 132 0) = false := by decide +kernel
theorem full_cnt (x : Int) : cntP (setN startN 132 0) x = 0 := by unfold cntP; rw [full_not]; rfl
def twoV (a b : Int) (i : Nat) : Int := if i = 0 then a else b
theorem row3_two (V : World) (f t k f2 t2 k2 : Int) : Reads3 (V.alloc (.cells #[.int .i64 f, .int .i64 t, .int .i64 k, .int .i64 f2, .int .i64 t2, .int .i64 k2] 41)).heap.size (V.alloc (.cells #[.int .i64 f, .int .i64 t, .int .i64 k, .int .i64 f2, .int .i64 t2, .int .i64 k2] 41)) (some ⟨V.heap.size, 0, none⟩) 2 (twoV f f2) (twoV t t2) (twoV k k2) := by
  have hat : (V.alloc (.cells #[.int .i64 f, .int .i64 t, .int .i64 k, .int .i64 f2, .int .i64 t2, .int .i64 k2] 41)).heap[V.heap.size]? = some (.cells #[.int .i64 f, .int .i64 t, .int .i64 k, .int .i64 f2, .int .i64 t2, .int .i64 k2] 41 (0, 0)) := sl_at rfl
  refine .inr ⟨V.heap.size, 0, rfl, by simp, fun i hi => ?_⟩
  rcases (show i = 0 ∨ i = 1 by omega) with rfl | rfl
  · exact ⟨by rw [cell_of_row _ _ _ _ _ (0, 0) hat]; rfl, by rw [cell_of_row _ _ _ _ _ (0, 0) hat]; rfl, by rw [cell_of_row _ _ _ _ _ (0, 0) hat]; rfl⟩
  · exact ⟨by rw [cell_of_row _ _ _ _ _ (0, 0) hat]; rfl, by rw [cell_of_row _ _ _ _ _ (0, 0) hat]; rfl, by rw [cell_of_row _ _ _ _ _ (0, 0) hat]; rfl⟩
set_option maxHeartbeats 16000000 in
set_option maxRecDepth 100000 in
theorem legalEnds_any (w : World) (B : Nat) (hgb : GB B w) (hgs : GS B w) (hgm : GM B w) (hgp : GP B w) (hB : B ≤ w.heap.size) :
    Calls Tryz.prog 5 #[] w fun e w' => e = .returned (.bool true) ∧ Below w.heap.size w w' := by
  have H0 := Lib.hid (And.intro hgb (And.intro hgs (And.intro hgm hgp)))
  have HB := Lib.hid hB
  clear hgb hgs hgm hgp hB
  go_enter Tryz.func5, Tryz.ntmps5
  go_upto_region 1 with (fail)
  have hgb := H0.out
  have HEM := Lib.hid (fun W => rEmpty_any W)
  obtain ⟨E, hE⟩ : ∃ E, E = (pc emptyN).toArray := ⟨_, rfl⟩
  rw [← hE] at HEM
  have HE := Lib.hid hE
  clear hE
  go_upto_region 2 with (fail)
  refine forget_B (fun W => LW B w.heap.size (w.heap.size + 1) w W) ?_ ?_
  · obtain ⟨g1, g2, g3, g4⟩ := H0.out
    have hb : Below w.heap.size w ((w.alloc (.cells #[.int .i64 6, .int .i64 0] 25)).alloc (.cells #[.int .i64 6, .int .i64 1] 25)) := (below_new _).alloc (by simp) _
    exact ⟨g1.below (hb.mono HB.out), g2.below (hb.mono HB.out), g3.below (hb.mono HB.out), g4.below (hb.mono HB.out), hb, HB.out, al_old (sl_at rfl) _, sl_at (by simp)⟩
  clear hgb H0 HB
  intro W h1
  have HI := Lib.hid h1
  clear h1
  generalize w.heap.size + 1 = b2 at *
  obtain ⟨b1, hb1⟩ : ∃ b, b = w.heap.size := ⟨_, rfl⟩
  rw [← hb1] at HI ⊢
  clear hb1
  go_wp2
  go_loopw [3] (fun v wr => ∃ s : Nat, s ≤ 64 ∧ v = .int .i64 (s : Int) ∧ LW B b1 b2 w wr) (fun v _ => 64 - (intOf v).toNat)
  case atStart => exact ⟨0, Nat.zero_le _, rfl, HI.out⟩
  case round =>
    clear HI
    obtain ⟨s, hs, rfl, hl⟩ := hrel
    have HI := Lib.hid hl
    clear hl
    by_cases hlt : s < 64
    · have s0 : (0 : Int) ≤ (s : Int) := by omega
      have s1 : (s : Int) < 64 := by omega
      go_wp2_with fail
      refine (HEM.out _).mono ?_
      rintro e w1 ⟨rfl, hb⟩
      replace HI := Lib.hid (HI.out.go hb)
      clear hb
      dsimp only
      refine list_go (by assumption) ?_
      go_wp2_with (refine wpList_new E emptyN HE.out (by rfl) (by rfl) ?_)
      intro W2 hp2 hb2 hz2
      have HX := Lib.hid (show LX B b1 b2 w1.heap.size emptyN w W2 from ⟨HI.out.go hb2, hp2, HI.out.bel.size, HI.out.l1, HI.out.l2⟩)
      clear hp2 hb2 hz2 HI
      generalize w1.heap.size = bp at *
      try simp only [Act.put, List.setIfInBounds_toArray, List.set_cons_zero, List.set_cons_succ]
      obtain ⟨P0, hP0⟩ : ∃ P, emptyN = P := ⟨_, rfl⟩
      rw [hP0] at HX
      clear hP0
      obtain ⟨k0, k1, kf, kz⟩ := row2 HX.out.l.r1
      have e1 := HX.out.p.cell 54 (by omega)
      have e2 := HX.out.p.cell 55 (by omega)
      have e3 := HX.out.p.fr 54
      have e4 := HX.out.p.fr 55
      have HT := Lib.hid (HX.out.pt 27 6 0 (by omega))
      generalize P0 54 = q1 at e1
      generalize P0 55 = q2 at e2
      go_upto_region 7 with (fail)
      obtain ⟨P1, hP⟩ : ∃ P, ptN P0 27 6 0 = P := ⟨_, rfl⟩
      rw [hP] at HT
      refine forget_B (fun W => LX B b1 b2 bp P1 w W) HT.out ?_
      clear HX HT e1 e2 e3 e4 k0 k1 kf kz hP
      intro W3 h1
      have HX := Lib.hid h1
      clear h1
      go_upto_if 20 with (fail)
      go_cut [] from 21 to 24 (fun wx => ∃ P, LX B b1 b2 bp P w wx)
      case first =>
        obtain ⟨k0, k1, kf, kz⟩ := row2 HX.out.l.r2
        have e1 := HX.out.p.cell (s * 2) (by omega)
        have e2 := HX.out.p.cell (s * 2 + 1) (by omega)
        have e3 := HX.out.p.fr (s * 2)
        have e4 := HX.out.p.fr (s * 2 + 1)
        have HT := Lib.hid (HX.out.pt s 6 1 hlt)
        generalize P1 (s * 2) = q1 at e1
        generalize P1 (s * 2 + 1) = q2 at e2
        by_cases h27 : s = 27
        · have hz : ((s : Int) != 27) = false := by simp; omega
          go_wp2_with fail
          go_meet
          exact ⟨_, HX.out⟩
        · have hz : ((s : Int) != 27) = true := by simp; omega
          go_wp2_with fail
          go_meet
          exact ⟨_, HT.out⟩
      case rest =>
      obtain ⟨P, h1⟩ := hcut
      replace HX := Lib.hid h1
      clear h1
      obtain ⟨X, hX⟩ : ∃ X, X = (pc P).toArray := ⟨_, rfl⟩
      have HXX := Lib.hid hX
      obtain ⟨R, hR⟩ : ∃ R, setN P 128 1 = R := ⟨_, rfl⟩
      obtain ⟨Y, hY⟩ : ∃ Y, Y = (pc R).toArray := ⟨_, rfl⟩
      have HYY := Lib.hid hY
      have HRR := Lib.hid hR
      clear hX hR hY
      go_wp2_with (first | refine wpList_pos (by rfl) _ (by rfl) bp P X HXX.out (by rfl) HX.out.p ?_ | refine wpList_new X P HXX.out (by rfl) (by rfl) ?_)
      intro W4 hp4 hb4 hz4
      have HY := Lib.hid (show LY B b1 b2 bp P wc.heap.size P w W4 from ⟨HX.out.go hb4, hp4, HX.out.p.lt⟩)
      clear hp4 hb4 hz4 HX
      generalize wc.heap.size = bq at *
      try simp only [Act.put, List.setIfInBounds_toArray, List.set_cons_zero, List.set_cons_succ]
      have e1 := HY.out.q.cell 128 (by omega)
      have e3 := HY.out.q.fr 128
      have HT := Lib.hid (HY.out.set 128 1 (by omega))
      rw [HRR.out] at HT
      generalize P 128 = qq at e1
      go_upto_region 11 with (fail)
      refine forget_B (fun W => LY B b1 b2 bp P bq R w W) HT.out ?_
      clear HY HT e1 e3 HRR
      intro W5 h1
      have HI := Lib.hid h1
      clear h1
      go_wp2_with (refine wpList_pos (by rfl) _ (by rfl) bp P X HXX.out (by rfl) HI.out.x.p ?_)
      have HRW := Lib.hid (row3_one W5 27 35 0)
      replace HI := Lib.hid (HI.out.go (below_new (w := W5) (.cells #[.int .i64 27, .int .i64 35, .int .i64 0] 41)))
      refine (ltB HI.out.x.l P X HXX.out _ _ _ _ _ _ (by decide) HRW.out).mono ?_
      rintro e w6 ⟨rfl, hb⟩
      replace HI := Lib.hid (HI.out.go hb)
      clear hb HRW
      dsimp only
      refine list_go (by assumption) ?_
      go_wp2_with (refine wpList_pos (by rfl) _ (by rfl) bq R Y HYY.out (by rfl) HI.out.q ?_)
      have HRW := Lib.hid (row3_two w6 (s : Int) 35 0 27 26 0)
      replace HI := Lib.hid (HI.out.x.l.go (below_new (w := w6) (.cells #[.int .i64 (s : Int), .int .i64 35, .int .i64 0, .int .i64 27, .int .i64 26, .int .i64 0] 41)))
      refine (ltB HI.out R Y HYY.out _ _ _ _ _ _ (by decide) HRW.out).mono ?_
      rintro e w7 ⟨rfl, hb⟩
      replace HI := Lib.hid (HI.out.go hb)
      clear hb HRW HXX HYY
      dsimp only
      refine list_go (by assumption) ?_
      go_wp2_with fail
      refine (HEM.out _).mono ?_
      rintro e w8 ⟨rfl, hb⟩
      replace HI := Lib.hid (HI.out.go hb)
      clear hb
      dsimp only
      refine list_go (by assumption) ?_
      go_wp2_with (refine wpList_new E emptyN HE.out (by rfl) (by rfl) ?_)
      intro W9 hp9 hb9 hz9
      have HX := Lib.hid (show LX B b1 b2 w8.heap.size emptyN w W9 from ⟨HI.out.go hb9, hp9, HI.out.bel.size, HI.out.l1, HI.out.l2⟩)
      clear hp9 hb9 hz9 HI
      generalize w8.heap.size = bc at *
      try simp only [Act.put, List.setIfInBounds_toArray, List.set_cons_zero, List.set_cons_succ]
      obtain ⟨P0, hP0⟩ : ∃ P, emptyN = P := ⟨_, rfl⟩
      rw [hP0] at HX
      clear hP0
      obtain ⟨k0, k1, kf, kz⟩ := row2 HX.out.l.r1
      have e1 := HX.out.p.cell 8 (by omega)
      have e2 := HX.out.p.cell 9 (by omega)
      have e3 := HX.out.p.fr 8
      have e4 := HX.out.p.fr 9
      have HT := Lib.hid (HX.out.pt 4 6 0 (by omega))
      generalize P0 8 = q1 at e1
      generalize P0 9 = q2 at e2
      go_upto_region 15 with (fail)
      obtain ⟨P1, hP⟩ : ∃ P, ptN P0 4 6 0 = P := ⟨_, rfl⟩
      rw [hP] at HT
      refine forget_B (fun W => LX B b1 b2 bc P1 w W) HT.out ?_
      clear HX HT e1 e2 e3 e4 k0 k1 kf kz hP
      intro W10 h1
      have HX := Lib.hid h1
      clear h1
      have e1 := HX.out.p.cell 0 (by omega)
      have e2 := HX.out.p.cell 1 (by omega)
      have e3 := HX.out.p.fr 0
      have e4 := HX.out.p.fr 1
      have HT := Lib.hid (HX.out.pt 0 4 0 (by omega))
      generalize P1 0 = q1 at e1
      generalize P1 1 = q2 at e2
      go_upto_region 16 with (fail)
      obtain ⟨P2, hP⟩ : ∃ P, ptN P1 0 4 0 = P := ⟨_, rfl⟩
      rw [hP] at HT
      refine forget_B (fun W => LX B b1 b2 bc P2 w W) HT.out ?_
      clear HX HT e1 e2 e3 e4 hP
      intro W11 h1
      have HX := Lib.hid h1
      clear h1
      have e1 := HX.out.p.cell 14 (by omega)
      have e2 := HX.out.p.cell 15 (by omega)
      have e3 := HX.out.p.fr 14
      have e4 := HX.out.p.fr 15
      have HT := Lib.hid (HX.out.pt 7 4 0 (by omega))
      generalize P2 14 = q1 at e1
      generalize P2 15 = q2 at e2
      go_upto_region 17 with (fail)
      obtain ⟨P3, hP⟩ : ∃ P, ptN P2 7 4 0 = P := ⟨_, rfl⟩
      rw [hP] at HT
      refine forget_B (fun W => LX B b1 b2 bc P3 w W) HT.out ?_
      clear HX HT e1 e2 e3 e4 hP
      intro W12 h1
      have HX := Lib.hid h1
      clear h1
      obtain ⟨k0, k1, kf, kz⟩ := row2 HX.out.l.r2
      have e1 := HX.out.p.cell 124 (by omega)
      have e2 := HX.out.p.cell 125 (by omega)
      have e3 := HX.out.p.fr 124
      have e4 := HX.out.p.fr 125
      have HT := Lib.hid (HX.out.pt 62 6 1 (by omega))
      generalize P3 124 = q1 at e1
      generalize P3 125 = q2 at e2
      go_upto_region 18 with (fail)
      obtain ⟨P4, hP⟩ : ∃ P, ptN P3 62 6 1 = P := ⟨_, rfl⟩
      rw [hP] at HT
      refine forget_B (fun W => LX B b1 b2 bc P4 w W) HT.out ?_
      clear HX HT e1 e2 e3 e4 hP k0 k1 kf kz
      intro W13 h1
      have HX := Lib.hid h1
      clear h1
      have e1 := HX.out.p.cell 129 (by omega)
      have e3 := HX.out.p.fr 129
      have HT := Lib.hid (HX.out.set 129 3 (by omega))
      generalize P4 129 = q1 at e1
      go_upto_region 19 with (fail)
      obtain ⟨P5, hP⟩ : ∃ P, setN P4 129 3 = P := ⟨_, rfl⟩
      rw [hP] at HT
      refine forget_B (fun W => LX B b1 b2 bc P5 w W) HT.out ?_
      clear HX HT e1 e3 hP
      intro W14 h1
      have HX := Lib.hid h1
      clear h1
      have e1 := HX.out.p.cell (s * 2) (by omega)
      have e2 := HX.out.p.cell (s * 2 + 1) (by omega)
      have e3 := HX.out.p.fr (s * 2)
      have e4 := HX.out.p.fr (s * 2 + 1)
      have e5 : s * 2 + 1 < 133 := by omega
      obtain ⟨q1, hq1⟩ : ∃ q, P5 (s * 2) = q := ⟨_, rfl⟩
      obtain ⟨q2, hq2⟩ : ∃ q, P5 (s * 2 + 1) = q := ⟨_, rfl⟩
      rw [hq1] at e1
      rw [hq2] at e2
      clear hq1 hq2
      go_upto_if 60 with (fail)
      obtain ⟨em, hem⟩ : ∃ b, pe q1 q2 0 0 = b := ⟨_, rfl⟩
      rw [hem]
      clear hem
      go_cut [] from 61 to 69 (fun wx => ∃ P, LX B b1 b2 bc P w wx)
      case first =>
        cases em
        · go_wp2_with fail
          go_meet
          exact ⟨_, HX.out⟩
        · have blt := HX.out.p.lt
          rcases (show (s : Int).tmod 3 = 0 ∨ (s : Int).tmod 3 = 1 ∨ (s : Int).tmod 3 = 2 by rw [Int.tmod_eq_emod_of_nonneg (by omega)]; omega) with hm | hm | hm
          all_goals
            go_wp2_with fail
            go_meet
            exact ⟨_, (HX.out.pt s _ 1 hlt).go (below_new _)⟩
      case rest =>
      clear HX e1 e2 e3 e4 e5
      obtain ⟨P6, h1⟩ := hcut
      have HI := Lib.hid h1
      clear h1
      obtain ⟨X, hX⟩ : ∃ X, X = (pc P6).toArray := ⟨_, rfl⟩
      have HXX := Lib.hid hX
      clear hX
      go_wp2_with (refine wpList_pos (by rfl) _ (by rfl) bc P6 X HXX.out (by rfl) HI.out.p ?_)
      have HRW := Lib.hid (row3_one wc 4 6 0)
      replace HI := Lib.hid (HI.out.go (below_new (w := wc) (.cells #[.int .i64 4, .int .i64 6, .int .i64 0] 41)))
      refine (ltB HI.out.l P6 X HXX.out _ _ _ _ _ _ (by decide) HRW.out).mono ?_
      rintro e w15 ⟨rfl, hb⟩
      replace HI := Lib.hid (HI.out.go hb)
      clear hb HRW
      dsimp only
      refine list_go (by assumption) ?_
      go_wp2_with (refine wpList_pos (by rfl) _ (by rfl) bc P6 X HXX.out (by rfl) HI.out.p ?_)
      have HRW := Lib.hid (row3_one w15 4 2 0)
      replace HI := Lib.hid (HI.out.l.go (below_new (w := w15) (.cells #[.int .i64 4, .int .i64 2, .int .i64 0] 41)))
      refine (ltB HI.out P6 X HXX.out _ _ _ _ _ _ (by decide) HRW.out).mono ?_
      rintro e w16 ⟨rfl, hb⟩
      replace HI := Lib.hid (HI.out.go hb)
      clear hb HRW HXX
      dsimp only
      refine list_go (by assumption) ?_
      go_wp2
      go_roundw
      case rel => exact ⟨s + 1, by omega, by go_num, HI.out⟩
      case measure => simp [intOf]; omega
    · obtain rfl : s = 64 := by omega
      rw [show ((64 : Nat) : Int) = 64 from rfl]
      obtain ⟨Z, hZ⟩ : ∃ Z, pinN = Z := ⟨_, rfl⟩
      obtain ⟨ZX, hZX⟩ : ∃ X, X = (pc Z).toArray := ⟨_, rfl⟩
      have HZX := Lib.hid hZX
      have HZZ := Lib.hid (show setN (ptN (ptN (ptN (ptN (ptN emptyN 32 6 0) 39 4 1) 56 6 1) 33 1 0) 34 1 1) 130 42 = Z from hZ)
      have RPO := Lib.hid (fun W => rPosB Z ZX hZX true (by rw [← hZ]; exact pin_pos) W)
      have ISO := Lib.hid (show (posB Z && legB Z 33 42 0) = false by rw [← hZ]; exact pin_is)
      obtain ⟨S0, hS0⟩ : ∃ S, S = (pc startN).toArray := ⟨_, rfl⟩
      have MS := Lib.hid (fun W => rStart_any W)
      rw [← hS0] at MS
      have HSS := Lib.hid hS0
      clear hS0 hZ hZX hlt hs
      go_wp2_with fail
      refine (HEM.out _).mono ?_
      rintro e w1 ⟨rfl, hb⟩
      replace HI := Lib.hid (HI.out.go hb)
      clear hb
      dsimp only
      refine list_go (by assumption) ?_
      go_wp2_with (refine wpList_new E emptyN HE.out (by rfl) (by rfl) ?_)
      intro W2 hp2 hb2 hz2
      have HX := Lib.hid (show LX B b1 b2 w1.heap.size emptyN w W2 from ⟨HI.out.go hb2, hp2, HI.out.bel.size, HI.out.l1, HI.out.l2⟩)
      clear hp2 hb2 hz2 HI HEM HE
      generalize w1.heap.size = b7 at *
      try simp only [Act.put, List.setIfInBounds_toArray, List.set_cons_zero, List.set_cons_succ]
      obtain ⟨P0, hP0⟩ : ∃ P, emptyN = P := ⟨_, rfl⟩
      rw [hP0] at HX HZZ
      clear hP0
      obtain ⟨k0, k1, kf, kz⟩ := row2 HX.out.l.r1
      have e1 := HX.out.p.cell 64 (by omega)
      have e2 := HX.out.p.cell 65 (by omega)
      have e3 := HX.out.p.fr 64
      have e4 := HX.out.p.fr 65
      have HT := Lib.hid (HX.out.pt 32 6 0 (by omega))
      generalize P0 64 = q1 at e1
      generalize P0 65 = q2 at e2
      go_upto_region 25 with (fail)
      obtain ⟨P1, hP⟩ : ∃ P, ptN P0 32 6 0 = P := ⟨_, rfl⟩
      rw [hP] at HT HZZ
      refine forget_B (fun W => LX B b1 b2 b7 P1 w W) HT.out ?_
      clear HX HT e1 e2 e3 e4 hP k0 k1 kf kz
      intro W3 h1
      have HX := Lib.hid h1
      clear h1
      have e1 := HX.out.p.cell 78 (by omega)
      have e2 := HX.out.p.cell 79 (by omega)
      have e3 := HX.out.p.fr 78
      have e4 := HX.out.p.fr 79
      have HT := Lib.hid (HX.out.pt 39 4 1 (by omega))
      generalize P1 78 = q1 at e1
      generalize P1 79 = q2 at e2
      go_upto_region 26 with (fail)
      obtain ⟨P2, hP⟩ : ∃ P, ptN P1 39 4 1 = P := ⟨_, rfl⟩
      rw [hP] at HT HZZ
      refine forget_B (fun W => LX B b1 b2 b7 P2 w W) HT.out ?_
      clear HX HT e1 e2 e3 e4 hP
      intro W4 h1
      have HX := Lib.hid h1
      clear h1
      obtain ⟨k0, k1, kf, kz⟩ := row2 HX.out.l.r2
      have e1 := HX.out.p.cell 112 (by omega)
      have e2 := HX.out.p.cell 113 (by omega)
      have e3 := HX.out.p.fr 112
      have e4 := HX.out.p.fr 113
      have HT := Lib.hid (HX.out.pt 56 6 1 (by omega))
      generalize P2 112 = q1 at e1
      generalize P2 113 = q2 at e2
      go_upto_region 27 with (fail)
      obtain ⟨P3, hP⟩ : ∃ P, ptN P2 56 6 1 = P := ⟨_, rfl⟩
      rw [hP] at HT HZZ
      refine forget_B (fun W => LX B b1 b2 b7 P3 w W) HT.out ?_
      clear HX HT e1 e2 e3 e4 hP k0 k1 kf kz
      intro W5 h1
      have HX := Lib.hid h1
      clear h1
      have e1 := HX.out.p.cell 66 (by omega)
      have e2 := HX.out.p.cell 67 (by omega)
      have e3 := HX.out.p.fr 66
      have e4 := HX.out.p.fr 67
      have HT := Lib.hid (HX.out.pt 33 1 0 (by omega))
      generalize P3 66 = q1 at e1
      generalize P3 67 = q2 at e2
      go_upto_region 28 with (fail)
      obtain ⟨P4, hP⟩ : ∃ P, ptN P3 33 1 0 = P := ⟨_, rfl⟩
      rw [hP] at HT HZZ
      refine forget_B (fun W => LX B b1 b2 b7 P4 w W) HT.out ?_
      clear HX HT e1 e2 e3 e4 hP
      intro W6 h1
      have HX := Lib.hid h1
      clear h1
      have e1 := HX.out.p.cell 68 (by omega)
      have e2 := HX.out.p.cell 69 (by omega)
      have e3 := HX.out.p.fr 68
      have e4 := HX.out.p.fr 69
      have HT := Lib.hid (HX.out.pt 34 1 1 (by omega))
      generalize P4 68 = q1 at e1
      generalize P4 69 = q2 at e2
      go_upto_region 29 with (fail)
      obtain ⟨P5, hP⟩ : ∃ P, ptN P4 34 1 1 = P := ⟨_, rfl⟩
      rw [hP] at HT HZZ
      refine forget_B (fun W => LX B b1 b2 b7 P5 w W) HT.out ?_
      clear HX HT e1 e2 e3 e4 hP
      intro W7 h1
      have HX := Lib.hid h1
      clear h1
      have e1 := HX.out.p.cell 130 (by omega)
      have e3 := HX.out.p.fr 130
      have HT := Lib.hid (HX.out.set 130 42 (by omega))
      rw [HZZ.out] at HT
      generalize P5 130 = q1 at e1
      go_upto_region 30 with (fail)
      refine forget_B (fun W => LX B b1 b2 b7 Z w W) HT.out ?_
      clear HX HT e1 e3 HZZ
      intro W8 h1
      have HI := Lib.hid h1
      clear h1
      go_wp2_with (refine wpList_pos (by rfl) _ (by rfl) b7 Z ZX HZX.out (by rfl) HI.out.p ?_)
      refine (RPO.out _).mono ?_
      rintro e w9 ⟨rfl, hb⟩
      replace HI := Lib.hid (HI.out.go hb)
      clear hb RPO
      dsimp only
      refine list_go (by assumption) ?_
      go_wp2_with (refine wpList_pos (by rfl) _ (by rfl) b7 Z ZX HZX.out (by rfl) HI.out.p ?_)
      refine (isB HI.out.l Z ZX HZX.out _ _ _ _ ISO.out).mono ?_
      rintro e w10 ⟨rfl, hb⟩
      replace HI := Lib.hid (HI.out.go hb)
      clear hb ISO
      dsimp only
      refine list_go (by assumption) ?_
      go_wp2_with (refine wpList_pos (by rfl) _ (by rfl) b7 Z ZX HZX.out (by rfl) HI.out.p ?_)
      have HRW := Lib.hid (row3_one w10 33 42 0)
      replace HI := Lib.hid (HI.out.l.go (below_new (w := w10) (.cells #[.int .i64 33, .int .i64 42, .int .i64 0] 41)))
      refine (ltB HI.out Z ZX HZX.out _ _ _ _ _ _ (by decide) HRW.out).mono ?_
      rintro e w11 ⟨rfl, hb⟩
      replace HI := Lib.hid (HI.out.go hb)
      clear hb HRW HZX
      dsimp only
      refine list_go (by assumption) ?_
      go_wp2_with fail
      refine (MS.out _).mono ?_
      rintro e w12 ⟨rfl, hb⟩
      replace HI := Lib.hid (HI.out.go hb)
      clear hb
      dsimp only
      refine list_go (by assumption) ?_
      go_wp2_with (refine wpList_new S0 startN HSS.out (by rfl) (by rfl) ?_)
      intro W13 hp3 hb3 hz3
      have HX := Lib.hid (show LX B b1 b2 w12.heap.size startN w W13 from ⟨HI.out.go hb3, hp3, HI.out.bel.size, HI.out.l1, HI.out.l2⟩)
      clear hp3 hb3 hz3 HI
      generalize w12.heap.size = b8 at *
      try simp only [Act.put, List.setIfInBounds_toArray, List.set_cons_zero, List.set_cons_succ]
      have e1 := HX.out.p.cell 132 (by omega)
      have e3 := HX.out.p.fr 132
      have HT := Lib.hid (HX.out.set 132 0 (by omega))
      obtain ⟨R, hR⟩ : ∃ R, setN startN 132 0 = R := ⟨_, rfl⟩
      rw [hR] at HT
      have RC := Lib.hid (show ∀ x, cntP R x = 0 from fun x => by rw [← hR]; exact full_cnt x)
      obtain ⟨Y, hY⟩ : ∃ Y, Y = (pc R).toArray := ⟨_, rfl⟩
      have HYY := Lib.hid hY
      clear hR hY
      generalize startN 132 = q1 at e1
      go_upto_region 34 with (fail)
      refine forget_B (fun W => LX B b1 b2 b8 R w W) HT.out ?_
      clear HX HT e1 e3
      intro W14 h1
      have HI := Lib.hid h1
      clear h1
      go_wp2_with fail
      refine (MS.out _).mono ?_
      rintro e w16 ⟨rfl, hb⟩
      replace HI := Lib.hid (HI.out.go hb)
      clear hb
      dsimp only
      refine list_go (by assumption) ?_
      go_wp2_with fail
      refine (countB HI.out.l startN S0 HSS.out 2 400 400 start_p2 rfl).mono ?_
      rintro e w17 ⟨rfl, hb⟩
      replace HI := Lib.hid (HI.out.go hb)
      clear hb
      dsimp only
      refine list_go (by assumption) ?_
      go_wp2_with fail
      refine (MS.out _).mono ?_
      rintro e w18 ⟨rfl, hb⟩
      replace HI := Lib.hid (HI.out.go hb)
      clear hb
      dsimp only
      refine list_go (by assumption) ?_
      go_wp2_with fail
      refine (countB HI.out.l startN S0 HSS.out 3 8902 8902 start_p3 rfl).mono ?_
      rintro e w19 ⟨rfl, hb⟩
      replace HI := Lib.hid (HI.out.go hb)
      clear hb
      dsimp only
      refine list_go (by assumption) ?_
      go_wp2_with fail
      refine (MS.out _).mono ?_
      rintro e w20 ⟨rfl, hb⟩
      replace HI := Lib.hid (HI.out.go hb)
      clear hb
      dsimp only
      refine list_go (by assumption) ?_
      go_wp2_with fail
      refine (countB HI.out.l startN S0 HSS.out 9 8902 8902 start_p9 rfl).mono ?_
      rintro e w21 ⟨rfl, hb⟩
      replace HI := Lib.hid (HI.out.go hb)
      clear hb
      dsimp only
      refine list_go (by assumption) ?_
      go_wp2_with (refine wpList_pos (by rfl) _ (by rfl) b8 R Y HYY.out (by rfl) HI.out.p ?_)
      refine (countB HI.out.l R Y HYY.out 1 0 0 (RC.out 1) rfl).mono ?_
      rintro e w22 ⟨rfl, hb⟩
      replace HI := Lib.hid (HI.out.go hb)
      clear hb
      dsimp only
      refine list_go (by assumption) ?_
      go_wp2_with (refine wpList_pos (by rfl) _ (by rfl) b8 R Y HYY.out (by rfl) HI.out.p ?_)
      refine (countB HI.out.l R Y HYY.out 0 0 0 (RC.out 0) rfl).mono ?_
      rintro e w23 ⟨rfl, hb⟩
      replace HI := Lib.hid (HI.out.go hb)
      clear hb
      dsimp only
      refine list_go (by assumption) ?_
      go_wp2_with fail
      refine (MS.out _).mono ?_
      rintro e w24 ⟨rfl, hb⟩
      replace HI := Lib.hid (HI.out.go hb)
      clear hb
      dsimp only
      refine list_go (by assumption) ?_
      go_wp2_with fail
      refine (countB HI.out.l startN S0 HSS.out (-9223372036854775808) 1 1 start_low rfl).mono ?_
      rintro e w25 ⟨rfl, hb⟩
      replace HI := Lib.hid (HI.out.go hb)
      clear hb
      dsimp only
      refine list_go (by assumption) ?_
      go_wp2_with (refine wpList_pos (by rfl) _ (by rfl) b8 R Y HYY.out (by rfl) HI.out.p ?_)
      refine (ltB HI.out.l R Y HYY.out _ _ _ _ _ _ (by decide) (row3_none _)).mono ?_
      rintro e w26 ⟨rfl, hb⟩
      replace HI := Lib.hid (HI.out.go hb)
      clear hb
      dsimp only
      refine list_go (by assumption) ?_
      go_wp2_with (refine wpList_pos (by rfl) _ (by rfl) b8 R Y HYY.out (by rfl) HI.out.p ?_)
      have HRW := Lib.hid (row3_one w26 12 28 0)
      replace HI := Lib.hid (HI.out.l.go (below_new (w := w26) (.cells #[.int .i64 12, .int .i64 28, .int .i64 0] 41)))
      refine (ltB HI.out R Y HYY.out _ _ _ _ _ _ (by decide) HRW.out).mono ?_
      rintro e w27 ⟨rfl, hb⟩
      replace HI := Lib.hid (HI.out.go hb)
      clear hb HRW HYY HSS MS RC
      dsimp only
      refine list_go (by assumption) ?_
      go_wp2_with fail
      refine (awake10_any w27 B HI.out.gb HI.out.gs HI.out.gm HI.out.gp (Nat.le_trans HI.out.k HI.out.bel.size)).mono ?_
      rintro e w28 ⟨rfl, hb⟩
      replace HI := Lib.hid (HI.out.go hb)
      clear hb
      dsimp only
      refine list_go (by assumption) ?_
      go_wp2
      go_ret
      exact ⟨rfl, HI.out.bel⟩
end Go.Proofs.YthinkiljhkanhaaGreatDoor
