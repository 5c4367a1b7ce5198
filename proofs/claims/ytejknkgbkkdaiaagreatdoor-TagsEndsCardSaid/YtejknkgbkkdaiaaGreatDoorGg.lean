/-
  Contracts: the document's maker: sums, tags under a key, draws.
-/
import Derived.Test.YtejknkgbkkdaiaaGreatDoorGc
import Derived.Test.YtejknkgbkkdaiaaGreatDoorGe
import Derived.Test.YtejknkgbkkdaiaaGreatDoorRefTag
import Derived.Test.YtejknkgbkkdaiaaGreatDoorMacTells
namespace Go.Proofs.YtejknkgbkkdaiaaGreatDoor
open Go.RowKit
set_option linter.unusedVariables false
set_option linter.unusedSimpArgs false

theorem conv_str (W : World) (B : Nat) (p : Option Addr) (n c : Nat) (f : Nat → BitVec 8) (hr : Reads B W p n (fun j => .int .u8 (ub (f j)))) (hz : p = none → n = 0) : (convert 22 9 (.slice p n c)).run Tryz.prog W = .ok (.string ⟨(byL f n).toArray⟩) W := by
  cases p with
  | none =>
    have h0 := hz rfl
    subst h0
    exact Lib.run_convert_nil_bytes W 22 9 5 c Tryz.underlying22 Tryz.underlying5 Tryz.underlying9
  | some a =>
    have := run_convert_bytes_back (P := Tryz.prog) W 22 9 5 a c (byL f n) Tryz.underlying22 Tryz.underlying5 Tryz.underlying9 (fun j hj => by
      have hjn : j < n := by rwa [byL_len] at hj
      rcases hr with h | ⟨b, o, he, hb, hc⟩
      · omega
      · cases he
        rw [Go.WideShapes.add_plain, hc j hjn]
        have e := byL_get f n j hjn
        rw [List.getElem?_eq_getElem hj] at e
        rw [Option.some.inj e]
        rfl)
    rw [byL_len] at this
    exact this
theorem addT_pos (L : List Thing) (x : Thing) : 0 < (addT L x).length := List.length_pos_of_mem (addT_mem L x)
set_option maxHeartbeats 1000000 in
set_option maxRecDepth 100000 in
theorem rsumT_any (rb : Nat) (sv av : Value) (b0 : Nat) (L : List Thing) (p : Option Addr) (n c : Nat) (g : Nat → BitVec 8) (w : World) (hb0 : b0 ≤ w.heap.size) (hL : L.length ≤ 1000000) (h : RMk w rb false sv av b0 L) (hr : Reads w.heap.size w p n (fun j => .int .u8 (ub (g j)))) (hz : p = none → n = 0) :
    Calls Tryz.prog 28 #[.pointer (some ⟨rb, 0, none⟩), .slice p n c] w fun e w' => ∃ av', e = .returned (tagV (numT (idx (addT L (0, [], byL g n, 0)) (0, [], byL g n, 0)))) ∧ Rch rb av.ownBlock w w' ∧ RMk w' rb false sv av' b0 (addT L (0, [], byL g n, 0)) := by
  have HW := Lib.hid (show RT4 w rb false sv av b0 L (fun _ => 0#8) (w.alloc (.cells (List.replicate 32 (Value.int .u8 0)).toArray 25)) from ⟨(Below.refl _ _).alloc (Nat.le_refl _) _, BT.of_cells (laid_at rfl) (fun i hi => zero_atL 32 i hi), h.go ((Below.refl _ _).alloc (Nat.le_refl _) _)⟩)
  obtain ⟨x, hx⟩ : ∃ x : Thing, x = (0, [], byL g n, 0) := ⟨_, rfl⟩
  obtain ⟨s, hs⟩ : ∃ s, s = numT (idx (addT L x) x) := ⟨_, rfl⟩
  obtain ⟨L2, hL2⟩ : ∃ l, l = addT L x := ⟨_, rfl⟩
  obtain ⟨TX, hTX⟩ : ∃ T : ByteArray, T = ⟨(byL g n).toArray⟩ := ⟨_, rfl⟩
  have HCV := Lib.hid (show ∀ W, Below w.heap.size w W → (convert 22 9 (.slice p n c)).run Tryz.prog W = .ok (.string TX) W from fun W hW => by rw [hTX]; exact conv_str W _ p n c g (hr.below hW) hz)
  have HASK := Lib.hid (show ∀ W, RT4 w rb false sv av b0 L (fun _ => 0#8) W → Calls Tryz.prog 47 #[.pointer (some ⟨rb, 0, none⟩), .agg #[.int .i64 0, .string ⟨#[]⟩, .string TX, .int .i64 0]] W fun e w' => ∃ av', e = .returned (tagV s) ∧ Rch rb av.ownBlock W w' ∧ RMk w' rb false sv av' b0 L2 from fun W hW => by
    rw [hs, hL2, hx]
    exact rask_any rb false sv av b0 L (0, [], byL g n, 0) ⟨#[]⟩ TX rfl hTX W (Nat.le_trans hb0 hW.bel.size) hL hW.rm)
  rw [← hx, ← hs, ← hL2]
  have HLP := Lib.hid (show 0 < L2.length by rw [hL2]; exact addT_pos L x)
  have HNE := Lib.hid (show w.heap.size ≠ rb ∧ some w.heap.size ≠ av.ownBlock from ⟨by have := (Array.getElem?_eq_some_iff.1 h.box).1; omega, fun e => by have := (h.own.lt _ e.symm).2; omega⟩)
  clear h hb0 hL hx hs hL2 hr hz hTX
  go_enter Tryz.func28, Tryz.ntmps28
  go_upto_region 1 with (fail)
  refine forget_code (RT4 w rb false sv av b0 L (fun _ => 0#8)) HW.out ?_
  intro W hW
  clear HW
  have HW := Lib.hid hW
  clear hW
  obtain ⟨r0, _, r2, fr, hrl⟩ := HW.out.rm.cells
  go_upto_region 3 with (fail)
  clear r0 r2 fr hrl
  have hcv := HCV.out W HW.out.bel
  refine wp_region_lit ?_
  refine wpList_plain rfl (fun K hK => ?_)
  go_simp
  refine hK _ _ ?_
  clear hK K
  refine wpList_plain rfl (fun K hK => ?_)
  go_simp
  refine hK _ _ ?_
  clear hK K
  refine wpList_plain rfl (fun K hK => ?_)
  go_simp
  refine hK _ _ ?_
  clear hK K
  refine wpList_plain rfl (fun K hK => ?_)
  go_simp
  refine hK _ _ ?_
  clear hK K
  refine wpList_plain rfl (fun K hK => ?_)
  go_simp
  refine (HASK.out W HW.out).mono ?_
  rintro e w14 ⟨av', rfl, hch, hrm⟩
  dsimp only
  refine hK _ _ ?_
  clear hK K
  have HT := Lib.hid (hch.bt HW.out.tg HNE.out.1 HNE.out.2)
  have HM := Lib.hid hrm
  have HCH := Lib.hid ((Rch.of HW.out.bel).trans hch)
  clear hch hrm
  refine wpList_store_mid rfl 25 _ _ rfl w.heap.size 0 (tagC s).toArray rfl rfl (by simpa [tagC_len] using HT.out.there 32 (Nat.le_refl _)) (by simp [infoTag, tagC_len]) (tagC_one _) ?_
  rw [List.toList_toArray]
  have HR5 := Lib.hid (World.rangeAt_setCells_same w14 w.heap.size 0 (tagC s) (by rw [tagC_len]; exact HT.out.there 32 (Nat.le_refl _)))
  have gs := gr_setCells (hb := w.heap.size) (tagC s) 0 w14
  have HM5 := Lib.hid (HM.out.gr gs HNE.out.1.symm (HM.out.off_bt HLP.out HT.out))
  have HC5 := Lib.hid (HCH.out.new gs (Nat.le_refl _))
  generalize w14.setCells w.heap.size 0 (tagC s) = W7 at HR5 HM5 HC5 ⊢
  clear gs
  show Exit.then _ _ Exit.normal _ W7
  go_wp2
  refine bodyPost_ret (v := tagV s) ?_ rfl ?_
  · exact results_cell_mid (p := 4) (ty := 25) rfl _ W7 w.heap.size _ _ rfl HR5.out Tryz.underlying25 rfl (by simp [infoTag, tagC_len])
  · exact ⟨_, rfl, HC5.out, HM5.out⟩
set_option maxHeartbeats 1000000 in
set_option maxRecDepth 100000 in
theorem rmacT_any (rb : Nat) (sv av : Value) (b0 : Nat) (L : List Thing) (kp : Option Addr) (kn kc : Nat) (key : Nat → BitVec 8) (p : Option Addr) (n c : Nat) (g : Nat → BitVec 8) (w : World) (hb0 : b0 ≤ w.heap.size) (hL : L.length ≤ 1000000) (h : RMk w rb false sv av b0 L) (hr : Reads w.heap.size w p n (fun j => .int .u8 (ub (g j)))) (hz : p = none → n = 0) (hkr : Reads w.heap.size w kp kn (fun j => .int .u8 (ub (key j)))) (hkz : kp = none → kn = 0) :
    Calls Tryz.prog 30 #[.pointer (some ⟨rb, 0, none⟩), .slice kp kn kc, .slice p n c] w fun e w' => ∃ av', e = .returned (tagV (numT (idx (addT L (1, byL key kn, byL g n, 0)) (1, byL key kn, byL g n, 0)))) ∧ Rch rb av.ownBlock w w' ∧ RMk w' rb false sv av' b0 (addT L (1, byL key kn, byL g n, 0)) := by
  have HW := Lib.hid (show RT4 w rb false sv av b0 L (fun _ => 0#8) (w.alloc (.cells (List.replicate 32 (Value.int .u8 0)).toArray 25)) from ⟨(Below.refl _ _).alloc (Nat.le_refl _) _, BT.of_cells (laid_at rfl) (fun i hi => zero_atL 32 i hi), h.go ((Below.refl _ _).alloc (Nat.le_refl _) _)⟩)
  obtain ⟨x, hx⟩ : ∃ x : Thing, x = (1, byL key kn, byL g n, 0) := ⟨_, rfl⟩
  obtain ⟨s, hs⟩ : ∃ s, s = numT (idx (addT L x) x) := ⟨_, rfl⟩
  obtain ⟨L2, hL2⟩ : ∃ l, l = addT L x := ⟨_, rfl⟩
  obtain ⟨TX, hTX⟩ : ∃ T : ByteArray, T = ⟨(byL g n).toArray⟩ := ⟨_, rfl⟩
  have HCV := Lib.hid (show ∀ W, Below w.heap.size w W → (convert 22 9 (.slice p n c)).run Tryz.prog W = .ok (.string TX) W from fun W hW => by rw [hTX]; exact conv_str W _ p n c g (hr.below hW) hz)
  obtain ⟨KX, hKX⟩ : ∃ T : ByteArray, T = ⟨(byL key kn).toArray⟩ := ⟨_, rfl⟩
  have HCK := Lib.hid (show ∀ W, Below w.heap.size w W → (convert 22 9 (.slice kp kn kc)).run Tryz.prog W = .ok (.string KX) W from fun W hW => by rw [hKX]; exact conv_str W _ kp kn kc key (hkr.below hW) hkz)
  have HASK := Lib.hid (show ∀ W, RT4 w rb false sv av b0 L (fun _ => 0#8) W → Calls Tryz.prog 47 #[.pointer (some ⟨rb, 0, none⟩), .agg #[.int .i64 1, .string KX, .string TX, .int .i64 0]] W fun e w' => ∃ av', e = .returned (tagV s) ∧ Rch rb av.ownBlock W w' ∧ RMk w' rb false sv av' b0 L2 from fun W hW => by
    rw [hs, hL2, hx]
    exact rask_any rb false sv av b0 L (1, byL key kn, byL g n, 0) KX TX hKX hTX W (Nat.le_trans hb0 hW.bel.size) hL hW.rm)
  rw [← hx, ← hs, ← hL2]
  have HLP := Lib.hid (show 0 < L2.length by rw [hL2]; exact addT_pos L x)
  have HNE := Lib.hid (show w.heap.size ≠ rb ∧ some w.heap.size ≠ av.ownBlock from ⟨by have := (Array.getElem?_eq_some_iff.1 h.box).1; omega, fun e => by have := (h.own.lt _ e.symm).2; omega⟩)
  clear h hb0 hL hx hs hL2 hr hz hTX hkr hkz hKX
  go_enter Tryz.func30, Tryz.ntmps30
  go_upto_region 1 with (fail)
  refine forget_code (RT4 w rb false sv av b0 L (fun _ => 0#8)) HW.out ?_
  intro W hW
  clear HW
  have HW := Lib.hid hW
  clear hW
  obtain ⟨r0, _, r2, fr, hrl⟩ := HW.out.rm.cells
  go_upto_region 3 with (fail)
  clear r0 r2 fr hrl
  have hcv := HCV.out W HW.out.bel
  have hck := HCK.out W HW.out.bel
  refine wp_region_lit ?_
  refine wpList_plain rfl (fun K hK => ?_)
  go_simp
  refine hK _ _ ?_
  clear hK K
  refine wpList_plain rfl (fun K hK => ?_)
  go_simp
  refine hK _ _ ?_
  clear hK K
  refine wpList_plain rfl (fun K hK => ?_)
  go_simp
  refine hK _ _ ?_
  clear hK K
  refine wpList_plain rfl (fun K hK => ?_)
  go_simp
  refine hK _ _ ?_
  clear hK K
  refine wpList_plain rfl (fun K hK => ?_)
  go_simp
  refine hK _ _ ?_
  clear hK K
  refine wpList_plain rfl (fun K hK => ?_)
  go_simp
  refine hK _ _ ?_
  clear hK K
  refine wpList_plain rfl (fun K hK => ?_)
  go_simp
  refine (HASK.out W HW.out).mono ?_
  rintro e w14 ⟨av', rfl, hch, hrm⟩
  dsimp only
  refine hK _ _ ?_
  clear hK K
  have HT := Lib.hid (hch.bt HW.out.tg HNE.out.1 HNE.out.2)
  have HM := Lib.hid hrm
  have HCH := Lib.hid ((Rch.of HW.out.bel).trans hch)
  clear hch hrm
  refine wpList_store_mid rfl 25 _ _ rfl w.heap.size 0 (tagC s).toArray rfl rfl (by simpa [tagC_len] using HT.out.there 32 (Nat.le_refl _)) (by simp [infoTag, tagC_len]) (tagC_one _) ?_
  rw [List.toList_toArray]
  have HR5 := Lib.hid (World.rangeAt_setCells_same w14 w.heap.size 0 (tagC s) (by rw [tagC_len]; exact HT.out.there 32 (Nat.le_refl _)))
  have gs := gr_setCells (hb := w.heap.size) (tagC s) 0 w14
  have HM5 := Lib.hid (HM.out.gr gs HNE.out.1.symm (HM.out.off_bt HLP.out HT.out))
  have HC5 := Lib.hid (HCH.out.new gs (Nat.le_refl _))
  generalize w14.setCells w.heap.size 0 (tagC s) = W7 at HR5 HM5 HC5 ⊢
  clear gs
  show Exit.then _ _ Exit.normal _ W7
  go_wp2
  refine bodyPost_ret (v := tagV s) ?_ rfl ?_
  · exact results_cell_mid (p := 6) (ty := 25) rfl _ W7 w.heap.size _ _ rfl HR5.out Tryz.underlying25 rfl (by simp [infoTag, tagC_len])
  · exact ⟨_, rfl, HC5.out, HM5.out⟩
set_option maxHeartbeats 1000000 in
set_option maxRecDepth 100000 in
theorem rdrawT_any (rb : Nat) (sv av : Value) (b0 : Nat) (L : List Thing) (k : Int) (w : World) (hb0 : b0 ≤ w.heap.size) (hL : L.length ≤ 1000000) (h : RMk w rb false sv av b0 L) :
    Calls Tryz.prog 31 #[.pointer (some ⟨rb, 0, none⟩), .int .i64 k] w fun e w' => ∃ av', e = .returned (tagV (numT (idx (addT L (2, [], [], k)) (2, [], [], k)))) ∧ Rch rb av.ownBlock w w' ∧ RMk w' rb false sv av' b0 (addT L (2, [], [], k)) := by
  have HW := Lib.hid (show RT4 w rb false sv av b0 L (fun _ => 0#8) (w.alloc (.cells (List.replicate 32 (Value.int .u8 0)).toArray 25)) from ⟨(Below.refl _ _).alloc (Nat.le_refl _) _, BT.of_cells (laid_at rfl) (fun i hi => zero_atL 32 i hi), h.go ((Below.refl _ _).alloc (Nat.le_refl _) _)⟩)
  obtain ⟨x, hx⟩ : ∃ x : Thing, x = (2, [], [], k) := ⟨_, rfl⟩
  obtain ⟨s, hs⟩ : ∃ s, s = numT (idx (addT L x) x) := ⟨_, rfl⟩
  obtain ⟨L2, hL2⟩ : ∃ l, l = addT L x := ⟨_, rfl⟩
  have HASK := Lib.hid (show ∀ W, RT4 w rb false sv av b0 L (fun _ => 0#8) W → Calls Tryz.prog 47 #[.pointer (some ⟨rb, 0, none⟩), .agg #[.int .i64 2, .string ⟨#[]⟩, .string ⟨#[]⟩, .int .i64 k]] W fun e w' => ∃ av', e = .returned (tagV s) ∧ Rch rb av.ownBlock W w' ∧ RMk w' rb false sv av' b0 L2 from fun W hW => by
    rw [hs, hL2, hx]
    exact rask_any rb false sv av b0 L (2, [], [], k) ⟨#[]⟩ ⟨#[]⟩ rfl rfl W (Nat.le_trans hb0 hW.bel.size) hL hW.rm)
  rw [← hx, ← hs, ← hL2]
  have HLP := Lib.hid (show 0 < L2.length by rw [hL2]; exact addT_pos L x)
  have HNE := Lib.hid (show w.heap.size ≠ rb ∧ some w.heap.size ≠ av.ownBlock from ⟨by have := (Array.getElem?_eq_some_iff.1 h.box).1; omega, fun e => by have := (h.own.lt _ e.symm).2; omega⟩)
  clear h hb0 hL hx hs hL2 
  go_enter Tryz.func31, Tryz.ntmps31
  go_upto_region 1 with (fail)
  refine forget_code (RT4 w rb false sv av b0 L (fun _ => 0#8)) HW.out ?_
  intro W hW
  clear HW
  have HW := Lib.hid hW
  clear hW
  obtain ⟨r0, _, r2, fr, hrl⟩ := HW.out.rm.cells
  go_upto_region 3 with (fail)
  clear r0 r2 fr hrl
  refine wp_region_lit ?_
  refine wpList_plain rfl (fun K hK => ?_)
  go_simp
  refine hK _ _ ?_
  clear hK K
  refine wpList_plain rfl (fun K hK => ?_)
  go_simp
  refine hK _ _ ?_
  clear hK K
  refine wpList_plain rfl (fun K hK => ?_)
  go_simp
  refine hK _ _ ?_
  clear hK K
  refine wpList_plain rfl (fun K hK => ?_)
  go_simp
  refine (HASK.out W HW.out).mono ?_
  rintro e w14 ⟨av', rfl, hch, hrm⟩
  dsimp only
  refine hK _ _ ?_
  clear hK K
  have HT := Lib.hid (hch.bt HW.out.tg HNE.out.1 HNE.out.2)
  have HM := Lib.hid hrm
  have HCH := Lib.hid ((Rch.of HW.out.bel).trans hch)
  clear hch hrm
  refine wpList_store_mid rfl 25 _ _ rfl w.heap.size 0 (tagC s).toArray rfl rfl (by simpa [tagC_len] using HT.out.there 32 (Nat.le_refl _)) (by simp [infoTag, tagC_len]) (tagC_one _) ?_
  rw [List.toList_toArray]
  have HR5 := Lib.hid (World.rangeAt_setCells_same w14 w.heap.size 0 (tagC s) (by rw [tagC_len]; exact HT.out.there 32 (Nat.le_refl _)))
  have gs := gr_setCells (hb := w.heap.size) (tagC s) 0 w14
  have HM5 := Lib.hid (HM.out.gr gs HNE.out.1.symm (HM.out.off_bt HLP.out HT.out))
  have HC5 := Lib.hid (HCH.out.new gs (Nat.le_refl _))
  generalize w14.setCells w.heap.size 0 (tagC s) = W7 at HR5 HM5 HC5 ⊢
  clear gs
  show Exit.then _ _ Exit.normal _ W7
  go_wp2
  refine bodyPost_ret (v := tagV s) ?_ rfl ?_
  · exact results_cell_mid (p := 4) (ty := 25) rfl _ W7 w.heap.size _ _ rfl HR5.out Tryz.underlying25 rfl (by simp [infoTag, tagC_len])
  · exact ⟨_, rfl, HC5.out, HM5.out⟩
set_option maxHeartbeats 1000000 in
set_option maxRecDepth 100000 in
theorem rsumR_any (rb : Nat) (sv av : Value) (b0 : Nat) (L : List Thing) (p : Option Addr) (n c : Nat) (g : Nat → BitVec 8) (w : World) (h : RMk w rb true sv av b0 L) (hr : Reads w.heap.size w p n (fun j => .int .u8 (ub (g j)))) (hz : p = none → n = 0) (hn : n ≤ 2147483584) :
    Calls Tryz.prog 28 #[.pointer (some ⟨rb, 0, none⟩), .slice p n c] w fun e w' => e = .returned (tagV (sha g n)) ∧ Below w.heap.size w w' := by
  have HW := Lib.hid (show RT4 w rb true sv av b0 L (fun _ => 0#8) (w.alloc (.cells (List.replicate 32 (Value.int .u8 0)).toArray 25)) from ⟨(Below.refl _ _).alloc (Nat.le_refl _) _, BT.of_cells (laid_at rfl) (fun i hi => zero_atL 32 i hi), h.go ((Below.refl _ _).alloc (Nat.le_refl _) _)⟩)
  obtain ⟨s, hs⟩ : ∃ s, s = sha g n := ⟨_, rfl⟩
  have HCL := Lib.hid (show ∀ W, Below w.heap.size w W → Calls Tryz.prog 46 #[.slice p n c] W fun e w' => e = .returned (tagV s) ∧ Below W.heap.size W w' from fun W hW => by
    rw [hs]
    exact refOf_any w.heap.size W p n c g hW.size (by omega) (hr.below hW))
  rw [← hs]
  clear h hs hr hz hn
  go_enter Tryz.func28, Tryz.ntmps28
  go_upto_region 1 with (fail)
  refine forget_code (RT4 w rb true sv av b0 L (fun _ => 0#8)) HW.out ?_
  intro W hW
  clear HW
  have HW := Lib.hid hW
  clear hW
  obtain ⟨r0, _, r2, fr, hrl⟩ := HW.out.rm.cells
  go_upto_region 2 with (fail)
  clear r0 r2 fr hrl
  refine wp_region_lit ?_
  refine wpList_plain rfl (fun K hK => ?_)
  go_simp
  refine hK _ _ ?_
  clear hK K
  refine wpList_plain rfl (fun K hK => ?_)
  go_simp
  refine (HCL.out W HW.out.bel).mono ?_
  rintro e w14 ⟨rfl, hb14⟩
  dsimp only
  refine hK _ _ ?_
  clear hK K
  have HT := Lib.hid (HW.out.tg.below' hb14)
  have HB := Lib.hid (HW.out.bel.trans (hb14.mono HW.out.bel.size))
  clear hb14
  refine wpList_store_mid rfl 25 _ _ rfl w.heap.size 0 (tagC s).toArray rfl rfl (by simpa [tagC_len] using HT.out.there 32 (Nat.le_refl _)) (by simp [infoTag, tagC_len]) (tagC_one _) ?_
  rw [List.toList_toArray]
  have HR5 := Lib.hid (World.rangeAt_setCells_same w14 w.heap.size 0 (tagC s) (by rw [tagC_len]; exact HT.out.there 32 (Nat.le_refl _)))
  have gs := gr_setCells (hb := w.heap.size) (tagC s) 0 w14
  have HB5 := Lib.hid (HB.out.grown gs HB.out.size (by rintro q ⟨⟩; exact Nat.le_refl _))
  generalize w14.setCells w.heap.size 0 (tagC s) = W7 at HR5 HB5 ⊢
  clear gs
  show Exit.then _ _ Exit.normal _ W7
  go_wp2
  refine bodyPost_ret (v := tagV s) ?_ rfl ?_
  · exact results_cell_mid (p := 4) (ty := 25) rfl _ W7 w.heap.size _ _ rfl HR5.out Tryz.underlying25 rfl (by simp [infoTag, tagC_len])
  · exact ⟨rfl, HB5.out⟩
set_option maxHeartbeats 1000000 in
set_option maxRecDepth 100000 in
theorem rmacR_any (rb : Nat) (sv av : Value) (b0 : Nat) (L : List Thing) (kp : Option Addr) (kn kc : Nat) (key : Nat → BitVec 8) (p : Option Addr) (n c : Nat) (g : Nat → BitVec 8) (w : World) (h : RMk w rb true sv av b0 L) (hr : Reads w.heap.size w p n (fun j => .int .u8 (ub (g j)))) (hz : p = none → n = 0) (hkr : Reads w.heap.size w kp kn (fun j => .int .u8 (ub (key j)))) (hkz : kp = none → kn = 0) (hn : n ≤ 2147483584) (hkn : kn ≤ 2147483584) :
    Calls Tryz.prog 30 #[.pointer (some ⟨rb, 0, none⟩), .slice kp kn kc, .slice p n c] w fun e w' => e = .returned (tagV (hmac key kn g n)) ∧ Below w.heap.size w w' := by
  have HW := Lib.hid (show RT4 w rb true sv av b0 L (fun _ => 0#8) (w.alloc (.cells (List.replicate 32 (Value.int .u8 0)).toArray 25)) from ⟨(Below.refl _ _).alloc (Nat.le_refl _) _, BT.of_cells (laid_at rfl) (fun i hi => zero_atL 32 i hi), h.go ((Below.refl _ _).alloc (Nat.le_refl _) _)⟩)
  obtain ⟨s, hs⟩ : ∃ s, s = hmac key kn g n := ⟨_, rfl⟩
  have HCL := Lib.hid (show ∀ W, Below w.heap.size w W → Calls Tryz.prog 48 #[.slice kp kn kc, .slice p n c] W fun e w' => e = .returned (tagV s) ∧ Below W.heap.size W w' from fun W hW => by
    rw [hs]
    exact ref3Of_any w.heap.size W kp kn kc key p n c g hW.size (by omega) (hkr.below hW) hn (hr.below hW))
  rw [← hs]
  clear h hs hr hz hkr hkz hn hkn
  go_enter Tryz.func30, Tryz.ntmps30
  go_upto_region 1 with (fail)
  refine forget_code (RT4 w rb true sv av b0 L (fun _ => 0#8)) HW.out ?_
  intro W hW
  clear HW
  have HW := Lib.hid hW
  clear hW
  obtain ⟨r0, _, r2, fr, hrl⟩ := HW.out.rm.cells
  go_upto_region 2 with (fail)
  clear r0 r2 fr hrl
  refine wp_region_lit ?_
  refine wpList_plain rfl (fun K hK => ?_)
  go_simp
  refine hK _ _ ?_
  clear hK K
  refine wpList_plain rfl (fun K hK => ?_)
  go_simp
  refine hK _ _ ?_
  clear hK K
  refine wpList_plain rfl (fun K hK => ?_)
  go_simp
  refine (HCL.out W HW.out.bel).mono ?_
  rintro e w14 ⟨rfl, hb14⟩
  dsimp only
  refine hK _ _ ?_
  clear hK K
  have HT := Lib.hid (HW.out.tg.below' hb14)
  have HB := Lib.hid (HW.out.bel.trans (hb14.mono HW.out.bel.size))
  clear hb14
  refine wpList_store_mid rfl 25 _ _ rfl w.heap.size 0 (tagC s).toArray rfl rfl (by simpa [tagC_len] using HT.out.there 32 (Nat.le_refl _)) (by simp [infoTag, tagC_len]) (tagC_one _) ?_
  rw [List.toList_toArray]
  have HR5 := Lib.hid (World.rangeAt_setCells_same w14 w.heap.size 0 (tagC s) (by rw [tagC_len]; exact HT.out.there 32 (Nat.le_refl _)))
  have gs := gr_setCells (hb := w.heap.size) (tagC s) 0 w14
  have HB5 := Lib.hid (HB.out.grown gs HB.out.size (by rintro q ⟨⟩; exact Nat.le_refl _))
  generalize w14.setCells w.heap.size 0 (tagC s) = W7 at HR5 HB5 ⊢
  clear gs
  show Exit.then _ _ Exit.normal _ W7
  go_wp2
  refine bodyPost_ret (v := tagV s) ?_ rfl ?_
  · exact results_cell_mid (p := 6) (ty := 25) rfl _ W7 w.heap.size _ _ rfl HR5.out Tryz.underlying25 rfl (by simp [infoTag, tagC_len])
  · exact ⟨rfl, HB5.out⟩
end Go.Proofs.YtejknkgbkkdaiaaGreatDoor
