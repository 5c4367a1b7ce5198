/-
  Games: the chapter's example.
-/
import Derived.Test.YtkncfeijlmomaaaGreatDoorLk
import Derived.Test.YtkncfeijlmomaaaGreatDoorG28
namespace Go.Proofs.YtkncfeijlmomaaaGreatDoor
open Go.RowKit Go.Sort Go.Maps
set_option linter.unusedSimpArgs false
set_option linter.unusedVariables false
set_option maxRecDepth 20000

def aw1 : Nat → Int := nxP startN 13 21 0
def aw2 : Nat → Int := nxP aw1 52 36 0
def aw3 : Nat → Int := nxP aw2 14 30 0
def aw4 : Nat → Int := nxP aw3 59 31 0
set_option maxRecDepth 100000 in
theorem aw_leg : (legF startN).contains (13, 21, 0) = true ∧ (legF aw1).contains (52, 36, 0) = true ∧ (legF aw2).contains (14, 30, 0) = true ∧ (legF aw3).contains (59, 31, 0) = true := by decide +kernel
set_option maxRecDepth 100000 in
theorem aw_end : posB aw4 = true ∧ (legF aw4).isEmpty = true ∧ chkB aw4 (aw4 128) = true ∧ aw4 128 = 0 := by decide +kernel
set_option maxRecDepth 100000 in
theorem aw_open : (deadB (cntJ startN 64) = false ∧ atB startN 150 = false) ∧ (deadB (cntJ aw1 64) = false ∧ atB aw1 150 = false) ∧ (deadB (cntJ aw2 64) = false ∧ atB aw2 150 = false) ∧ (deadB (cntJ aw3 64) = false ∧ atB aw3 150 = false) := by decide +kernel
/-- the example's moves -/
def aL : List (Int × Int × Int) := [(13, 21, 0), (52, 36, 0), (14, 30, 0), (59, 31, 0)]
theorem co_ok {A : GCore} {l : Nat} {m : Int × Int × Int} (h0 : A.2.2.2.1 = 0) (hl : l < 8192) (hm : legB A.1 m.1 m.2.1 m.2.2 = true) : coE A l m = 0 := by
  unfold coE; rw [if_pos h0, if_neg (by omega), if_pos hm]
theorem coN_parts (A : GCore) (m : Int × Int × Int) (N : Nat → Int) (hN : nxP A.1 m.1.toNat m.2.1.toNat m.2.2 = N) : ∃ n, coN A m = (N, kyB N :: A.2.1, n, endR N n, endY N n) ∧ n ≤ A.2.1.length + 1 := by
  subst hN
  exact ⟨cntT (kyB (nxP A.1 m.1.toNat m.2.1.toNat m.2.2) :: A.2.1) (kyB (nxP A.1 m.1.toNat m.2.1.toNat m.2.2)), by simp only [coN], by have := cntT_le (kyB (nxP A.1 m.1.toNat m.2.1.toNat m.2.2) :: A.2.1) (kyB (nxP A.1 m.1.toNat m.2.1.toNat m.2.2)); rwa [List.length_cons] at this⟩
theorem open_leg {P : Nat → Int} {f t k : Int} (h : legB P f t k = true) {n : Nat} (hn : n < 5) (hd : deadB (cntJ P 64) = false ∧ atB P 150 = false) : endR P n = 0 := by
  refine (end_zero P n).2.1.2 ⟨?_, hd.1, hn, hd.2⟩
  unfold ofR stkB
  cases e : (legM P).isEmpty
  · simp
  · have := (legB_iff P f t k).1 h
    rw [List.isEmpty_iff.1 e] at this
    cases this
theorem aw_legs : legB startN 13 21 0 = true ∧ legB aw1 52 36 0 = true ∧ legB aw2 14 30 0 = true ∧ legB aw3 59 31 0 = true := by
  unfold legB
  rw [legF_is, legF_is, legF_is, legF_is]
  exact aw_leg
theorem aw_run : ∃ A, pyS (coB startN) [] (mF aL) (mT aL) (mK aL) 4 = (A, aL, 0) ∧ A.2.2.2.1 = 2 ∧ A.2.2.2.2 = 1 := by
  obtain ⟨l0, l1, l2, l3⟩ := aw_legs
  obtain ⟨d0, d1, d2, d3⟩ := aw_open
  obtain ⟨n1, e1, b1⟩ := coN_parts (coB startN) (13, 21, 0) aw1 rfl
  have h1 := pyS_go (A := coB startN) (L := []) (F := mF aL) (T := mT aL) (K := mK aL) (i := 0) (A' := coB startN) (L' := []) rfl (co_ok (A := coB startN) (m := (13, 21, 0)) (open_leg l0 (by omega) d0) (by simp) l0)
  have h1 : pyS (coB startN) [] (mF aL) (mT aL) (mK aL) 1 = (coN (coB startN) (13, 21, 0), [(13, 21, 0)], 0) := h1
  rw [e1] at h1
  have b1 : n1 ≤ 2 := b1
  obtain ⟨T1, hT1⟩ : ∃ T, kyB aw1 :: (coB startN).2.1 = T := ⟨_, rfl⟩
  have t1 : T1.length = 2 := by rw [← hT1]; rfl
  rw [hT1] at h1
  have r1 := open_leg l1 (n := n1) (by omega) d1
  obtain ⟨n2, e2, b2⟩ := coN_parts (aw1, T1, n1, endR aw1 n1, endY aw1 n1) (52, 36, 0) aw2 rfl
  have h2 : pyS (coB startN) [] (mF aL) (mT aL) (mK aL) 2 = (coN (aw1, T1, n1, endR aw1 n1, endY aw1 n1) (52, 36, 0), [(13, 21, 0)] ++ [(52, 36, 0)], 0) := pyS_go (i := 1) h1 (co_ok (m := (52, 36, 0)) r1 (by simp) l1)
  rw [e2] at h2
  have b2 : n2 ≤ 3 := by have q : n2 ≤ T1.length + 1 := b2; rw [t1] at q; exact q
  obtain ⟨T2, hT2⟩ : ∃ T, kyB aw2 :: T1 = T := ⟨_, rfl⟩
  have t2 : T2.length = 3 := by rw [← hT2, List.length_cons, t1]
  have h2 : pyS (coB startN) [] (mF aL) (mT aL) (mK aL) 2 = ((aw2, T2, n2, endR aw2 n2, endY aw2 n2), [(13, 21, 0), (52, 36, 0)], 0) := by rw [← hT2]; exact h2
  have r2 := open_leg l2 (n := n2) (by omega) d2
  obtain ⟨n3, e3, b3⟩ := coN_parts (aw2, T2, n2, endR aw2 n2, endY aw2 n2) (14, 30, 0) aw3 rfl
  have h3 : pyS (coB startN) [] (mF aL) (mT aL) (mK aL) 3 = (coN (aw2, T2, n2, endR aw2 n2, endY aw2 n2) (14, 30, 0), [(13, 21, 0), (52, 36, 0)] ++ [(14, 30, 0)], 0) := pyS_go (i := 2) h2 (co_ok (m := (14, 30, 0)) r2 (by simp) l2)
  rw [e3] at h3
  have b3 : n3 ≤ 4 := by have q : n3 ≤ T2.length + 1 := b3; rw [t2] at q; exact q
  obtain ⟨T3, hT3⟩ : ∃ T, kyB aw3 :: T2 = T := ⟨_, rfl⟩
  have h3 : pyS (coB startN) [] (mF aL) (mT aL) (mK aL) 3 = ((aw3, T3, n3, endR aw3 n3, endY aw3 n3), [(13, 21, 0), (52, 36, 0), (14, 30, 0)], 0) := by rw [← hT3]; exact h3
  have r3 := open_leg l3 (n := n3) (by omega) d3
  obtain ⟨n4, e4, _⟩ := coN_parts (aw3, T3, n3, endR aw3 n3, endY aw3 n3) (59, 31, 0) aw4 rfl
  have h4 : pyS (coB startN) [] (mF aL) (mT aL) (mK aL) 4 = (coN (aw3, T3, n3, endR aw3 n3, endY aw3 n3) (59, 31, 0), [(13, 21, 0), (52, 36, 0), (14, 30, 0)] ++ [(59, 31, 0)], 0) := pyS_go (i := 3) h3 (co_ok (m := (59, 31, 0)) r3 (by simp) l3)
  rw [e4] at h4
  obtain ⟨p1, p2, p3, p4⟩ := aw_end
  have hs : stkB aw4 = true := by unfold stkB; rw [p1, legF_is, p2]; rfl
  have hr : ofR aw4 = 2 ∧ ofY aw4 = 1 := by
    unfold ofR ofY
    rw [hs, p3, p4]
    exact ⟨rfl, rfl⟩
  obtain ⟨q1, q2⟩ := (end_zero aw4 n4).2.2.1 (by rw [hr.1]; decide)
  exact ⟨_, h4, q1.trans hr.1, q2.trans hr.2⟩
theorem aL_row {W : World} {R : Nat} (h : W.heap[R]? = some (.cells #[.int .i64 13, .int .i64 21, .int .i64 0, .int .i64 52, .int .i64 36, .int .i64 0, .int .i64 14, .int .i64 30, .int .i64 0, .int .i64 59, .int .i64 31, .int .i64 0] 46 (0, 0))) :
    Reads3 W.heap.size W (some ⟨R, 0, none⟩) 4 (mF aL) (mT aL) (mK aL) := by
  refine .inr ⟨R, 0, rfl, (Array.getElem?_eq_some_iff.1 h).1, fun i hi => ?_⟩
  have c := fun j => cell_of_row W R j _ _ (0, 0) h
  rcases (show i = 0 ∨ i = 1 ∨ i = 2 ∨ i = 3 by omega) with rfl | rfl | rfl | rfl
  · exact ⟨(c 0).trans rfl, (c 1).trans rfl, (c 2).trans rfl⟩
  · exact ⟨(c 3).trans rfl, (c 4).trans rfl, (c 5).trans rfl⟩
  · exact ⟨(c 6).trans rfl, (c 7).trans rfl, (c 8).trans rfl⟩
  · exact ⟨(c 9).trans rfl, (c 10).trans rfl, (c 11).trans rfl⟩
theorem gz_is (gb b mb : Nat) (P : Nat → Int) (hp : posB P = true) : Gis ((gz gb b mb).comes P) (coB P) [] :=
  ⟨by simp only [Gm.core, Gm.comes, gz, coB, cntT_one], rfl, hp, by show [kyB P].length ≤ 1; exact Nat.le_refl _⟩
set_option maxHeartbeats 4000000 in
set_option maxRecDepth 100000 in
theorem awake14_any (B : Nat) (w : World) (he : EN B w) :
    Calls Tryz.prog 8 #[] w fun e w' => e = .returned (.bool true) ∧ Below w.heap.size w w' := by
  have HE := Lib.hid he
  have MN := Lib.hid (gnew_any B w he)
  have HBW := Lib.hid he.k
  clear he
  go_enter Tryz.func8, Tryz.ntmps8
  go_wp2_with fail
  refine MN.out.mono ?_
  rintro e w1 ⟨gb, b, mb, rfl, hm, hb⟩
  obtain ⟨g, hg⟩ : ∃ g, (gz gb b mb).comes startN = g := ⟨_, rfl⟩
  have HGB := Lib.hid (show g.gb = gb by rw [← hg]; rfl)
  have HGI := Lib.hid (show Gis g (coB startN) [] by rw [← hg]; exact gz_is gb b mb startN start_pos)
  rw [hg] at hm
  have HM := Lib.hid hm
  have HB := Lib.hid hb
  replace HE := Lib.hid (HE.out.go hb)
  clear hm hb MN hg
  dsimp only
  refine list_go (by assumption) ?_
  go_wp2_with fail
  obtain ⟨A, ha, hr, hy⟩ := aw_run
  have MP := Lib.hid (gplay_any B w.heap.size g (coB startN) [] (mF aL) (mT aL) (mK aL) (some ⟨w1.heap.size, 0, none⟩) 4 4 (by omega) (by simp) HGI.out _ (HM.out.go (below_new (.cells #[.int .i64 13, .int .i64 21, .int .i64 0, .int .i64 52, .int .i64 36, .int .i64 0, .int .i64 14, .int .i64 30, .int .i64 0, .int .i64 59, .int .i64 31, .int .i64 0] 46))) (HE.out.go (below_new _)) (HB.out.alloc HB.out.size _).size HBW.out (aL_row (sl_at rfl)) (fun q o e hx => by
    have := (HM.out.ltX q hx).2
    cases e
    exact Nat.lt_irrefl _ this))
  rw [ha, HGB.out] at MP
  replace HB := Lib.hid (HB.out.alloc HB.out.size (.cells #[.int .i64 13, .int .i64 21, .int .i64 0, .int .i64 52, .int .i64 36, .int .i64 0, .int .i64 14, .int .i64 30, .int .i64 0, .int .i64 59, .int .i64 31, .int .i64 0] 46))
  have HX := Lib.hid (HM.out.ltX)
  have HAR := Lib.hid (And.intro hr hy)
  clear ha hr hy
  refine MP.out.mono ?_
  rintro e w2 ⟨g', rfl, hs, hi⟩
  have HR := Lib.hid (show g'.r = 2 ∧ g'.y = 1 ∧ g'.L.length = 4 by
    have h1 := HAR.out.1
    have h2 := HAR.out.2
    simp only at hi
    rw [← hi.a] at h1 h2
    exact ⟨h1, h2, by rw [hi.l]; rfl⟩)
  have HM2 := Lib.hid hs.m
  have HGB2 := Lib.hid (hs.s.1.trans HGB.out)
  replace HB := Lib.hid (show Below w.heap.size w w2 from hs.c.below HB.out HB.out.size fun k hk hx => by have := (HX.out k hx).1; omega)
  clear hs hi MP HM HE HX HAR HGI
  have MR := Lib.hid (fun W (h : GW w.heap.size g' W) => gresult_any w.heap.size g' W h)
  have MM := Lib.hid (fun W (h : GW w.heap.size g' W) => gmoves_any w.heap.size g' (by have := HR.out.2.2; omega) W h)
  rw [HR.out.1, HR.out.2.1, HGB2.out] at MR
  rw [HR.out.2.2, HGB2.out] at MM
  dsimp only
  refine list_go (by assumption) ?_
  go_wp2_with fail
  refine (MR.out _ HM2.out).mono ?_
  rintro e w3 ⟨rfl, hb⟩
  replace HM2 := Lib.hid (HM2.out.go hb)
  replace HB := Lib.hid (HB.out.trans (hb.mono HB.out.size))
  clear hb MR
  dsimp only
  refine list_go (by assumption) ?_
  go_wp2_with fail
  refine (MM.out _ HM2.out).mono ?_
  rintro e w4 ⟨v, rfl, hb, ho⟩
  obtain ⟨p, c, rfl⟩ := own3_shape ho
  replace HB := Lib.hid (HB.out.trans (hb.mono HB.out.size))
  clear hb ho MM HM2
  dsimp only
  refine list_go (by assumption) ?_
  go_wp2
  go_ret
  exact ⟨rfl, HB.out⟩
end Go.Proofs.YtkncfeijlmomaaaGreatDoor
