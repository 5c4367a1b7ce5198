/-
  Contracts: bare positions, the laws' examples.
-/
import Derived.Test.YthinkiljhkanhaaGreatDoorUb
import Derived.Test.YthinkiljhkanhaaGreatDoorG12
namespace Go.Proofs.YthinkiljhkanhaaGreatDoor
open Go.RowKit Go.Sort
set_option linter.unusedSimpArgs false
set_option linter.unusedVariables false
set_option maxRecDepth 20000

theorem PS.pt {w W : World} {b : Nat} {P : Nat → Int} (h : PS w W b P) (m : Nat) (k d : Int) (hm : m < 64) :
    PS w ((W.setCell ⟨b, m * 2, none⟩ (.int .i64 k)).setCell ⟨b, m * 2 + 1, none⟩ (.int .i64 d)) b (ptN P m k d) := by
  have := (h.set (m * 2) k (by omega)).set (m * 2 + 1) d (by omega)
  unfold ptN
  rwa [Nat.mul_comm 2 m]
/-- two kings, and a queen of white's; black moves -/
def bareN (k1 k2 q : Nat) : Nat → Int := setN (ptN (ptN (ptN emptyN q 5 0) k1 6 0) k2 6 1) 128 1
set_option maxHeartbeats 4000000 in
set_option maxRecDepth 100000 in
theorem bare_any (k1 k2 q : Nat) (h1 : k1 < 64) (h2 : k2 < 64) (h3 : q < 64) (w : World) :
    Calls Tryz.prog 43 #[.int .i64 (k1 : Int), .int .i64 (k2 : Int), .int .i64 (q : Int)] w fun e w' => e = .returned (.agg (pc (bareN k1 k2 q)).toArray) ∧ Below w.heap.size w w' := by
  obtain ⟨Z, hZ⟩ : ∃ Z, bareN k1 k2 q = Z := ⟨_, rfl⟩
  obtain ⟨Y, hY⟩ : ∃ Y, Y = (pc Z).toArray := ⟨_, rfl⟩
  obtain ⟨E, hE⟩ : ∃ E, E = (pc emptyN).toArray := ⟨_, rfl⟩
  have HEM := Lib.hid (fun W => rEmpty_any W)
  rw [hZ, ← hY]
  rw [← hE] at HEM
  have HY := Lib.hid hY
  have HE := Lib.hid hE
  have HZZ := Lib.hid (show setN (ptN (ptN (ptN emptyN q 5 0) k1 6 0) k2 6 1) 128 1 = Z from hZ)
  have hpn : PB (w.alloc (.cells Tryz.zeroCells29 29)) w.heap.size (fun _ => 0) := by rw [zeroPos]; exact PB.new rfl
  have HN := Lib.hid hpn
  have HB0 := Lib.hid (below_new (w := w) (.cells Tryz.zeroCells29 29))
  clear hY hE hpn hZ
  go_enter Tryz.func43, Tryz.ntmps43
  go_upto_region 1 with (fail)
  refine forget_B (fun W => PB W w.heap.size (fun _ => 0) ∧ Below w.heap.size w W) ⟨HN.out, HB0.out⟩ ?_
  clear HN HB0
  rintro W ⟨hp, hb⟩
  have HN := Lib.hid hp
  have HB0 := Lib.hid hb
  clear hp hb
  go_wp2_with fail
  refine (HEM.out _).mono ?_
  rintro e w1 ⟨rfl, hb1⟩
  have HN1 := Lib.hid (HN.out.go hb1)
  have HB1 := Lib.hid (HB0.out.trans (hb1.mono HB0.out.size))
  clear hb1 HN HB0
  go_wp2_with (refine wpList_new E emptyN HE.out (by rfl) (by rfl) ?_)
  intro W2 hp2 hb2 hz2
  have HS0 := Lib.hid (show PS w W2 w1.heap.size emptyN from ⟨HN1.out.go hb2, hp2, HB1.out.trans (hb2.mono HB1.out.size), HN1.out.lt⟩)
  clear hp2 hb2 hz2 HN1 HB1
  generalize w1.heap.size = blk at *
  obtain ⟨P0, hP0⟩ : ∃ P, emptyN = P := ⟨_, rfl⟩
  rw [hP0] at HS0 HZZ
  clear hP0
  go_upto_region 2 with (fail)
  have hm0 : (0 : Int) ≤ (q : Int) := by omega
  have hm1 : (q : Int) < 64 := by omega
  have e1 := HS0.out.p.cell (q * 2) (by omega)
  have e2 := HS0.out.p.cell (q * 2 + 1) (by omega)
  have e3 := HS0.out.p.fr (q * 2)
  have e4 := HS0.out.p.fr (q * 2 + 1)
  have HT := Lib.hid (HS0.out.pt q 5 0 h3)
  generalize P0 (q * 2) = q1 at e1
  generalize P0 (q * 2 + 1) = q2 at e2
  go_upto_region 3 with (fail)
  obtain ⟨P1, hP⟩ : ∃ P, ptN P0 q 5 0 = P := ⟨_, rfl⟩
  rw [hP] at HT HZZ
  refine forget_B (fun W => PS w W blk P1) HT.out ?_
  clear HS0 HT e1 e2 e3 e4 hm0 hm1 hP
  intro V0 hs
  have HS1 := Lib.hid hs
  clear hs
  have hm0 : (0 : Int) ≤ (k1 : Int) := by omega
  have hm1 : (k1 : Int) < 64 := by omega
  have e1 := HS1.out.p.cell (k1 * 2) (by omega)
  have e2 := HS1.out.p.cell (k1 * 2 + 1) (by omega)
  have e3 := HS1.out.p.fr (k1 * 2)
  have e4 := HS1.out.p.fr (k1 * 2 + 1)
  have HT := Lib.hid (HS1.out.pt k1 6 0 h1)
  generalize P1 (k1 * 2) = q1 at e1
  generalize P1 (k1 * 2 + 1) = q2 at e2
  go_upto_region 4 with (fail)
  obtain ⟨P2, hP⟩ : ∃ P, ptN P1 k1 6 0 = P := ⟨_, rfl⟩
  rw [hP] at HT HZZ
  refine forget_B (fun W => PS w W blk P2) HT.out ?_
  clear HS1 HT e1 e2 e3 e4 hm0 hm1 hP
  intro V1 hs
  have HS2 := Lib.hid hs
  clear hs
  have hm0 : (0 : Int) ≤ (k2 : Int) := by omega
  have hm1 : (k2 : Int) < 64 := by omega
  have e1 := HS2.out.p.cell (k2 * 2) (by omega)
  have e2 := HS2.out.p.cell (k2 * 2 + 1) (by omega)
  have e3 := HS2.out.p.fr (k2 * 2)
  have e4 := HS2.out.p.fr (k2 * 2 + 1)
  have HT := Lib.hid (HS2.out.pt k2 6 1 h2)
  generalize P2 (k2 * 2) = q1 at e1
  generalize P2 (k2 * 2 + 1) = q2 at e2
  go_upto_region 5 with (fail)
  obtain ⟨P3, hP⟩ : ∃ P, ptN P2 k2 6 1 = P := ⟨_, rfl⟩
  rw [hP] at HT HZZ
  refine forget_B (fun W => PS w W blk P3) HT.out ?_
  clear HS2 HT e1 e2 e3 e4 hm0 hm1 hP
  intro V2 hs
  have HS3 := Lib.hid hs
  clear hs
  have e1 := HS3.out.p.cell 128 (by omega)
  have e3 := HS3.out.p.fr 128
  have HF := Lib.hid (HS3.out.set 128 1 (by omega))
  rw [HZZ.out] at HF
  clear HS3 HZZ
  generalize P3 128 = q1 at e1
  go_upto_region 6 with (fail)
  generalize V2.setCell ⟨blk, 128, none⟩ (.int .i64 1) = W8 at HF ⊢
  clear e1 e3
  refine wp_region_lit ?_
  refine wpList_pos (by rfl) _ (by rfl) blk Z Y HY.out (by rfl) HF.out.p ?_
  refine wpList_store_mid rfl 29 _ _ rfl w.heap.size 0 (pc Z).toArray rfl (congrArg Value.agg HY.out) (by rw [pc_size]; exact HF.out.z.there) (by rw [infoPos, pc_size]) (pc_one _) ?_
  rw [List.toList_toArray]
  have HR := Lib.hid (HF.out.z.store (Q := Z)).range
  have HBB := Lib.hid (below_store (b := w.heap.size) Z HF.out.b (Nat.le_refl _) HF.out.b.size)
  clear HF
  generalize W8.setCells w.heap.size 0 (pc Z) = W9 at HR HBB ⊢
  show Exit.then _ _ Exit.normal _ _
  refine ret_go (by assumption) ?_
  refine bodyPost_ret (v := .agg (pc Z).toArray) ?_ rfl ⟨by rw [HY.out], HBB.out⟩
  exact results_cell_mid (p := 6) (ty := 29) rfl _ W9 w.heap.size _ _ rfl HR.out Tryz.underlying29 rfl (by rw [infoPos, pc_len])
/-! ### the examples, by the kernel -/
def legE (P : Nat → Int) : List (Int × Int × Int) := ((upList (ownB P) 64).flatMap fun x => putL P x.toNat (upList (goB P x.toNat) 64)).filter (okL P)
theorem legE_is (P : Nat → Int) : legM P = legE P := by unfold legM legE; rw [allM_up]
theorem mate_pos : posB (bareN 45 62 54) = true := by decide +kernel
theorem mate_leg : legM (bareN 45 62 54) = [] := by rw [legE_is]; decide +kernel
theorem mate_chk : chkB (bareN 45 62 54) 1 = true := by decide +kernel
theorem stale_pos : posB (bareN 45 63 53) = true := by decide +kernel
theorem stale_leg : legM (bareN 45 63 53) = [] := by rw [legE_is]; decide +kernel
theorem stale_chk : chkB (bareN 45 63 53) 1 = false := by decide +kernel
theorem mate_is : ofR (bareN 45 62 54) = 1 ∧ ofY (bareN 45 62 54) = 1 := by
  have hs : stkB (bareN 45 62 54) = true := by unfold stkB; rw [mate_pos, mate_leg]; rfl
  have hd : bareN 45 62 54 128 = 1 := by decide
  unfold ofR ofY
  rw [hs, hd, mate_chk]
  decide
theorem stale_is : ofR (bareN 45 63 53) = 3 ∧ ofY (bareN 45 63 53) = 2 := by
  have hs : stkB (bareN 45 63 53) = true := by unfold stkB; rw [stale_pos, stale_leg]; rfl
  have hd : bareN 45 63 53 128 = 1 := by decide
  unfold ofR ofY
  rw [hs, hd, stale_chk]
  decide
set_option maxHeartbeats 4000000 in
set_option maxRecDepth 100000 in
theorem awake11_any (w : World) (B : Nat) (hgb : GB B w) (hgs : GS B w) (hgm : GM B w) (hgp : GP B w) (hB : B ≤ w.heap.size) :
    Calls Tryz.prog 42 #[] w fun e w' => e = .returned (.bool true) ∧ Below w.heap.size w w' := by
  obtain ⟨P1, hP1⟩ : ∃ P, bareN 45 62 54 = P := ⟨_, rfl⟩
  obtain ⟨P2, hP2⟩ : ∃ P, bareN 45 63 53 = P := ⟨_, rfl⟩
  have M1 := Lib.hid (fun W => bare_any 45 62 54 (by omega) (by omega) (by omega) W)
  have M2 := Lib.hid (fun W => bare_any 45 63 53 (by omega) (by omega) (by omega) W)
  have m1 := mate_is
  have m2 := stale_is
  rw [hP1] at M1 m1
  rw [hP2] at M2 m2
  obtain ⟨X1, hX1⟩ : ∃ X, X = (pc P1).toArray := ⟨_, rfl⟩
  obtain ⟨X2, hX2⟩ : ∃ X, X = (pc P2).toArray := ⟨_, rfl⟩
  have HO := Lib.hid (fun P W h => of_any P W B (hgb.below h) (hgs.below h) (hgm.below h) (hgp.below h) (Nat.le_trans hB h.size))
  have HO1 := Lib.hid (fun W (h : Below w.heap.size w W) => HO.out P1 W (h.mono hB))
  have HO2 := Lib.hid (fun W (h : Below w.heap.size w W) => HO.out P2 W (h.mono hB))
  rw [m1.1, m1.2, ← hX1] at HO1
  rw [m2.1, m2.2, ← hX2] at HO2
  rw [← hX1] at M1
  rw [← hX2] at M2
  have HBB := Lib.hid (Below.refl w.heap.size w)
  clear hX1 hX2 m1 m2 hP1 hP2 HO hgb hgs hgm hgp
  go_enter Tryz.func42, Tryz.ntmps42
  go_wp2_with fail
  refine (M1.out _).mono ?_
  rintro e w1 ⟨rfl, hb⟩
  replace HBB := Lib.hid (HBB.out.trans (hb.mono HBB.out.size))
  clear hb M1
  dsimp only
  refine list_go (by assumption) ?_
  go_wp2_with fail
  refine (HO1.out _ HBB.out).mono ?_
  rintro e w2 ⟨rfl, hb⟩
  replace HBB := Lib.hid (HBB.out.trans (hb.mono HBB.out.size))
  clear hb HO1
  dsimp only
  refine list_go (by assumption) ?_
  go_wp2_with fail
  refine (M2.out _).mono ?_
  rintro e w3 ⟨rfl, hb⟩
  replace HBB := Lib.hid (HBB.out.trans (hb.mono HBB.out.size))
  clear hb M2
  dsimp only
  refine list_go (by assumption) ?_
  go_wp2_with fail
  refine (HO2.out _ HBB.out).mono ?_
  rintro e w4 ⟨rfl, hb⟩
  replace HBB := Lib.hid (HBB.out.trans (hb.mono HBB.out.size))
  clear hb HO2
  dsimp only
  refine list_go (by assumption) ?_
  go_wp2
  go_ret
  exact ⟨rfl, HBB.out⟩
end Go.Proofs.YthinkiljhkanhaaGreatDoor
