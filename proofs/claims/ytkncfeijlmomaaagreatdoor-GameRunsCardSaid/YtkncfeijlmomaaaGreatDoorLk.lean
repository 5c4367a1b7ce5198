/-
  Games: Copy.
-/
import Derived.Test.YtkncfeijlmomaaaGreatDoorLj
namespace Go.Proofs.YtkncfeijlmomaaaGreatDoor
open Go.RowKit Go.Sort Go.Maps
set_option linter.unusedSimpArgs false
set_option linter.unusedVariables false
set_option maxRecDepth 20000

set_option maxHeartbeats 4000000 in
set_option maxRecDepth 100000 in
theorem gcopy_any (B base : Nat) (g : Gm) (hl : g.L.length ≤ 100000) (w : World) (h : GW base g w) (he : EN B w) (hbb : B ≤ base) (hB : base ≤ w.heap.size) :
    Calls Tryz.prog 12 #[.pointer (some ⟨g.gb, 0, none⟩)] w fun e w' => ∃ cb b mb v, e = .returned (.pointer (some ⟨cb, 0, none⟩)) ∧ GW w.heap.size { g with gb := cb, b := b, mb := mb, mv := v } w' ∧ Below w.heap.size w w' := by
  have HI := Lib.hid (show GW base g w ∧ EN B w ∧ Below w.heap.size w w from ⟨h, he, Below.refl _ _⟩)
  have MN := Lib.hid (fun W (h : GW base g W) => gnone_any base g W h)
  have MC := Lib.hid (fun W (h : GW base g W) (e : EN B W) => gcopied_any B base g W h e)
  have MM := Lib.hid (fun W (h : GW base g W) => gmoves_any base g hl W h)
  have HBW := Lib.hid hB
  have HBB := Lib.hid hbb
  have HWS := Lib.hid he.k
  have hxlt := h.lt
  clear h he hB hbb
  go_enter Tryz.func12, Tryz.ntmps12
  go_wp2_with fail
  refine (MN.out _ HI.out.1).mono ?_
  rintro e w1 ⟨rfl, rfl⟩
  dsimp only
  refine list_go (by assumption) ?_
  go_upto_region 3 with (fail)
  refine wp_region_noPanic ?_
  refine wp_region_start (n := 17) (l := #[ff, ff, ff, ff, ff, ff, ff, ff, ff, ff, ff, ff, ff, ff, ff, ff, ff]) (S := (fun W => GW base g W)) (by kernel_rfl) rfl (by kernel_rfl) (by exact HI.out.1.go (Below.refl _ _).drew) (fun hHeld => ?_)
  obtain ⟨w, hw⟩ : ∃ w, w1 = w := ⟨_, rfl⟩
  replace HI := Lib.hid (show GW base g w1.drew ∧ EN B w1.drew ∧ Below w1.heap.size w1 w1.drew from ⟨HI.out.1.go (Below.refl _ _).drew, HI.out.2.1.go (Below.refl _ _).drew, HI.out.2.2.drew⟩)
  rw [hw] at HI hHeld ⊢
  rw [hw] at hxlt HBW HWS
  subst hw
  generalize World.drew w1 = V0 at *
  refine tq (i := 0) (d := some 6) rfl rfl ?_
  try simp only [aP, sA, sZ, sS]
  refine tq (i := 1) (d := some 7) rfl rfl ?_
  try simp only [aP, sA, sZ, sS]
  refine tq (i := 2) (d := some 8) rfl rfl ?_
  try simp only [aP, sA, sZ, sS]
  refine tq (i := 4) (d := some 10) rfl rfl ?_
  try simp only [aP, sA, sZ, sS]
  refine tq (i := 6) (d := some 12) rfl rfl ?_
  try simp only [aP, sA, sZ, sS]
  refine tq (i := 7) (d := some 13) rfl rfl ?_
  try simp only [aP, sA, sZ, sS]
  refine tq (i := 8) (d := some 14) rfl rfl ?_
  try simp only [aP, sA, sZ, sS]
  refine tg (i := 9) (d := some 15) (v := (.int .i64 g.r)) rfl rfl ?_ ?_
  · refine Or.inl ⟨by rfl, ?_⟩; intro w' hSw; have e := hSw.cell.2.2.2.2.1; go_simp
  try simp only [aP, sA, sZ, sS]
  refine tq (i := 10) (d := some 16) rfl rfl ?_
  try simp only [aP, sA, sZ, sS]
  refine tq (i := 11) (d := some 17) rfl rfl ?_
  try simp only [aP, sA, sZ, sS]
  refine tq (i := 12) (d := some 18) rfl rfl ?_
  try simp only [aP, sA, sZ, sS]
  refine tg (i := 13) (d := some 19) (v := (.int .i64 g.y)) rfl rfl ?_ ?_
  · refine Or.inl ⟨by rfl, ?_⟩; intro w' hSw; have e := hSw.cell.2.2.2.2.2.1; go_simp
  try simp only [aP, sA, sZ, sS]
  refine og (i := 3) rfl (by kernel_rfl) (fun K hK => ?_)
  go_simp
  refine (MC.out _ HI.out.1 HI.out.2.1).mono ?_
  rintro e V ⟨b2, c2, rfl, hk, hb, hb2, hc2⟩
  have HK := Lib.hid (show BW V b2 c2 g.T ∧ w1.heap.size ≤ b2 ∧ w1.heap.size ≤ c2 from ⟨hk, Nat.le_trans HI.out.2.2.size hb2, Nat.le_trans HI.out.2.2.size hc2⟩)
  replace HI := Lib.hid (show GW base g V ∧ EN B V ∧ Below w1.heap.size w1 V from ⟨HI.out.1.go hb, HI.out.2.1.go hb, HI.out.2.2.trans (hb.mono HI.out.2.2.size)⟩)
  clear hb2 hc2 hk hb MC
  dsimp only
  refine hK.out _ _ (by exact HI.out.1) (fun hHeld => ?_)
  clear hK K
  try simp only [aP, sA, sZ, sS]
  refine og (i := 5) rfl (by kernel_rfl) (fun K hK => ?_)
  go_simp
  refine (MM.out _ HI.out.1).mono ?_
  rintro e V2 ⟨v, rfl, hb, ho⟩
  obtain ⟨pv, cv, rfl⟩ := own3_shape ho
  replace HK := Lib.hid (show BW V2 b2 c2 g.T ∧ w1.heap.size ≤ b2 ∧ w1.heap.size ≤ c2 from ⟨HK.out.1.go hb, HK.out.2⟩)
  have HO := Lib.hid (show V2.ownsRow w1.heap.size 46 3 (.slice pv g.L.length cv) g.L.length (mvals g.L) from ⟨ho.1, ho.2.elim .inl fun ⟨q, cap, cur, e, hq, rest⟩ => .inr ⟨q, cap, cur, e, Nat.le_trans HI.out.2.2.size hq, rest⟩⟩)
  replace HI := Lib.hid (show GW base g V2 ∧ EN B V2 ∧ Below w1.heap.size w1 V2 from ⟨HI.out.1.go hb, HI.out.2.1.go hb, HI.out.2.2.trans (hb.mono HI.out.2.2.size)⟩)
  clear hb ho MM
  dsimp only
  refine hK.out _ _ (by exact HI.out.1) (fun hHeld => ?_)
  clear hK K
  try simp only [aP, sA, sZ, sS]
  refine tg (i := 14) (d := some 20) (v := (.agg (mkC g.P b2 (g.n : Int) (.slice pv g.L.length cv) g.r g.y).toArray)) rfl rfl ?_ ?_
  · refine Or.inl ⟨by rfl, ?_⟩; intro w' hSw; have e := foldGm g.P b2 (g.n : Int) (.slice pv g.L.length cv) g.r g.y; have e2 := (foldl_size (shC g.P b2 (g.n : Int)).zipIdx Tryz.zeroCells81).trans zeroGm_size; have e3 := shC_len g.P b2 (g.n : Int); go_simp
  try simp only [aP, sA, sZ, sS]
  refine og (i := 15) rfl (by kernel_rfl) (fun K hK => ?_)
  go_simp
  obtain ⟨cb, hcb⟩ : ∃ c, V2.heap.size = c := ⟨_, rfl⟩
  have HNE := Lib.hid (show b2 ≠ cb ∧ c2 ≠ cb ∧ w1.heap.size ≤ cb ∧ (∀ q, (Value.slice pv g.L.length cv).ownBlock = some q → q < cb) ∧ g.gb < cb from ⟨by have := HK.out.1.ltb; omega, by have := HK.out.1.m.lt; omega, by have := HI.out.2.2.size; omega, fun q hq => by have := (HO.out.lt q hq).2; omega, by have := HI.out.1.lt; omega⟩)
  have HC := Lib.hid (show (V2.alloc (.cells (mkC g.P b2 (g.n : Int) (.slice pv g.L.length cv) g.r g.y).toArray 81)).heap[cb]? = some (.cells (mkC g.P b2 (g.n : Int) (.slice pv g.L.length cv) g.r g.y).toArray 81 (0, 0)) from sl_at hcb.symm)
  replace HK := Lib.hid (show BW (V2.alloc (.cells (mkC g.P b2 (g.n : Int) (.slice pv g.L.length cv) g.r g.y).toArray 81)) b2 c2 g.T ∧ w1.heap.size ≤ b2 ∧ w1.heap.size ≤ c2 from ⟨HK.out.1.go (below_new _), HK.out.2⟩)
  replace HO := Lib.hid (owns_below_ HO.out (below_new (.cells (mkC g.P b2 (g.n : Int) (.slice pv g.L.length cv) g.r g.y).toArray 81)))
  replace HI := Lib.hid (show GW base g (V2.alloc (.cells (mkC g.P b2 (g.n : Int) (.slice pv g.L.length cv) g.r g.y).toArray 81)) ∧ EN B (V2.alloc (.cells (mkC g.P b2 (g.n : Int) (.slice pv g.L.length cv) g.r g.y).toArray 81)) ∧ Below w1.heap.size w1 (V2.alloc (.cells (mkC g.P b2 (g.n : Int) (.slice pv g.L.length cv) g.r g.y).toArray 81)) from ⟨HI.out.1.go (below_new _), HI.out.2.1.go (below_new _), HI.out.2.2.alloc HI.out.2.2.size _⟩)
  rw [hcb]
  generalize V2.alloc (.cells (mkC g.P b2 (g.n : Int) (.slice pv g.L.length cv) g.r g.y).toArray 81) = V3 at *
  clear hcb
  refine hK.out _ _ (by exact HI.out.1) (fun hHeld => ?_)
  clear hK K
  try simp only [aP, sA, sZ, sS]
  refine tq (i := 16) (d := some 3) rfl rfl ?_
  try simp only [aP, sA, sZ, sS]
  refine wpAnyH_done (by kernel_rfl) ?_ _
  refine NoPanic.normal ?_
  clear hHeld
  have HM := Lib.hid (show GW w1.heap.size { g with gb := cb, b := b2, mb := c2, mv := .slice pv g.L.length cv } (V3.setCell ⟨cb, 138, none⟩ (.pointer (some ⟨cb, 0, none⟩))) from GW.made (base := w1.heap.size) (g := { g with gb := cb, b := b2, mb := c2, mv := .slice pv g.L.length cv }) (W := V3) (g.n : Int) rfl HC.out HK.out.1 HO.out HNE.out.2.2.1 HK.out.2.1 HK.out.2.2 (fun e => by have := HNE.out.2.2.2.1 _ e; exact Nat.lt_irrefl _ this) HNE.out.1 HNE.out.2.1)
  have HB := Lib.hid (show Below w1.heap.size w1 (V3.setCell ⟨cb, 138, none⟩ (.pointer (some ⟨cb, 0, none⟩))) from HI.out.2.2.setCell (p := ⟨cb, 138, none⟩) HNE.out.2.2.1 _)
  have c0 : V3.cell? ⟨cb, 138, none⟩ = some (.pointer none) := (cell_of_row V3 cb 138 _ _ (0, 0) HC.out).trans (mkC_at _ _ _ _ _ _)
  have c1 := frozen_of_row V3 cb 138 _ _ HC.out
  have c2 : cb < V3.heap.size := (Array.getElem?_eq_some_iff.1 HC.out).1
  clear HI HK HO HC
  go_wp2
  go_ret
  exact ⟨cb, b2, _, _, rfl, HM.out, HB.out⟩
end Go.Proofs.YtkncfeijlmomaaaGreatDoor
