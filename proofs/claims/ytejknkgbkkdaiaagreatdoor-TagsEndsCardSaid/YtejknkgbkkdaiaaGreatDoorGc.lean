/-
  Contract: the document's table is asked.
-/
import Derived.Test.YtejknkgbkkdaiaaGreatDoorGb
import Derived.Test.YtejknkgbkkdaiaaGreatDoorOct
import Derived.Deep.Cut
namespace Go.Proofs.YtejknkgbkkdaiaaGreatDoor
open Go.RowKit
set_option linter.unusedVariables false
set_option linter.unusedSimpArgs false

/-- what lies there while the document's maker is asked -/
structure RA (w : World) (rb : Nat) (real : Bool) (sv av : Value) (b0 : Nat) (L : List Thing) (kd : Int) (K T : ByteArray) (nm : Int) (W : World) : Prop where
  bel : Below w.heap.size w W
  box : W.heap[w.heap.size]? = some (.cells #[.int .i64 kd, .string K, .string T, .int .i64 nm] 77 (0, 0))
  tg : BT W (w.heap.size + 1) 32 (fun _ => 0#8)
  rm : RMk W rb real sv av b0 L
section
variable {w W W' : World} {rb b0 : Nat} {real : Bool} {sv av : Value} {L : List Thing} {kd nm : Int} {K T : ByteArray}
theorem RA.go (h : RA w rb real sv av b0 L kd K T nm W) (g : Below W.heap.size W W') : RA w rb real sv av b0 L kd K T nm W' :=
  ⟨h.bel.trans (g.mono h.bel.size), laid_go h.box g, h.tg.below' g, h.rm.go g⟩
theorem RA.start (h : RMk w rb real sv av b0 L) : RA w rb real sv av b0 L kd K T nm ((w.alloc (.cells #[.int .i64 kd, .string K, .string T, .int .i64 nm] 77)).alloc (.cells (List.replicate 32 (Value.int .u8 0)).toArray 25)) := by
  have hb : Below w.heap.size w ((w.alloc (.cells #[.int .i64 kd, .string K, .string T, .int .i64 nm] 77)).alloc (.cells (List.replicate 32 (Value.int .u8 0)).toArray 25)) := ((Below.refl _ _).alloc (Nat.le_refl _) _).alloc (by simp) _
  exact ⟨hb, laid_old (laid_at rfl), BT.of_cells (laid_at (by simp)) (fun i hi => zero_atL 32 i hi), h.go hb⟩
theorem RA.bx (h : RA w rb real sv av b0 L kd K T nm W) : W.cell? ⟨w.heap.size, 0, none⟩ = some (.int .i64 kd) ∧ W.cell? ⟨w.heap.size, 1, none⟩ = some (.string K) ∧ W.cell? ⟨w.heap.size, 2, none⟩ = some (.string T) ∧ W.cell? ⟨w.heap.size, 3, none⟩ = some (.int .i64 nm) :=
  ⟨by rw [cell_of_row W _ 0 _ _ (0, 0) h.box]; rfl, by rw [cell_of_row W _ 1 _ _ (0, 0) h.box]; rfl, by rw [cell_of_row W _ 2 _ _ (0, 0) h.box]; rfl, by rw [cell_of_row W _ 3 _ _ (0, 0) h.box]; rfl⟩
end
theorem wrap_nat (n : Nat) (h : n < 9223372036854775808) : IntKind.u64.wrap (n : Int) = ((n : Nat) : Int) := by
  rw [IntKind.wrap_u64]; omega
set_option maxHeartbeats 4000000 in
set_option maxRecDepth 100000 in
theorem rask_any (rb : Nat) (real : Bool) (sv av : Value) (b0 : Nat) (L : List Thing) (x : Thing) (KY TX : ByteArray) (hK : KY = ⟨x.2.1.toArray⟩) (hT : TX = ⟨x.2.2.1.toArray⟩) (w : World) (hb0 : b0 ≤ w.heap.size) (hL : L.length ≤ 1000000) (h : RMk w rb real sv av b0 L) :
    Calls Tryz.prog 47 #[.pointer (some ⟨rb, 0, none⟩), .agg #[.int .i64 x.1, .string KY, .string TX, .int .i64 x.2.2.2]] w fun e w' => ∃ av', e = .returned (tagV (numT (idx (addT L x) x))) ∧ Rch rb av.ownBlock w w' ∧ RMk w' rb real sv av' b0 (addT L x) := by
  have h0 := RA.start (kd := x.1) (K := KY) (T := TX) (nm := x.2.2.2) h
  obtain ⟨th, hth⟩ : ∃ t, t = x := ⟨_, rfl⟩
  have HQ := Lib.hid (show ∀ (y : Thing) (op : BinOp) (a b : Operand) (W : World), (binOp .eql 77 (.agg #[.int .i64 y.1, .string ⟨y.2.1.toArray⟩, .string ⟨y.2.2.1.toArray⟩, .int .i64 y.2.2.2]) (.agg #[.int .i64 x.1, .string KY, .string TX, .int .i64 x.2.2.2])).run Tryz.prog W = .ok (.bool (decide (y = x))) W ∧ (eqGuard op 77 a b (.agg #[.int .i64 y.1, .string ⟨y.2.1.toArray⟩, .string ⟨y.2.2.1.toArray⟩, .int .i64 y.2.2.2]) (.agg #[.int .i64 x.1, .string KY, .string TX, .int .i64 x.2.2.2])).run Tryz.prog W = .ok () W from fun y op a b W => by
    subst hK hT
    exact ⟨eql_thR y x W, guard_thR y x op a b W⟩)
  have HC := Lib.hid (show thC x = [.int .i64 x.1, .string KY, .string TX, .int .i64 x.2.2.2] by subst hK hT; rfl)
  rw [← hth] at HQ HC h0 ⊢
  obtain ⟨kd, hkd⟩ : ∃ k, k = th.1 := ⟨_, rfl⟩
  obtain ⟨nm, hnm⟩ : ∃ k, k = th.2.2.2 := ⟨_, rfl⟩
  rw [← hkd, ← hnm] at HQ HC h0
  rw [← hkd, ← hnm]
  have HB := Lib.hid hb0
  obtain ⟨s, hs⟩ : ∃ s, s = numT (idx (addT L th) th) := ⟨_, rfl⟩
  obtain ⟨L2, hL2⟩ : ∃ l, l = addT L th := ⟨_, rfl⟩
  obtain ⟨n, hn⟩ : ∃ n, n = L.length := ⟨_, rfl⟩
  rw [← hs, ← hL2]
  rw [← hn] at hL
  have HS := Lib.hid hs
  have HL2 := Lib.hid hL2
  have HN := Lib.hid hn
  have HLO := Lib.hid h.lo
  have HLT := Lib.hid (show some (w.heap.size + 1) ≠ av.ownBlock ∧ some w.heap.size ≠ av.ownBlock from ⟨fun e => by have := (h.own.lt _ e.symm).2; omega, fun e => by have := (h.own.lt _ e.symm).2; omega⟩)
  have HNE := Lib.hid (show w.heap.size + 1 ≠ rb ∧ w.heap.size ≠ rb from by have := (Array.getElem?_eq_some_iff.1 h.box).1; omega)
  clear hb0 h hK hT hth hkd hnm hs hL2 hn
  go_enter Tryz.func47, Tryz.ntmps47
  go_upto_region 1 with (fail)
  refine forget_code (RA w rb real sv av b0 L kd KY TX nm) h0 ?_
  intro W hW
  have HW := Lib.hid hW
  clear hW h0
  go_wp2
  go_loopw [5] (fun iv wr => ∃ i : Nat, i ≤ n ∧ iv = .int .i64 (i : Int) ∧ RA w rb real sv av b0 L kd KY TX nm wr ∧ ∀ j y, j < i → L[j]? = some y → y ≠ th) (fun iv _ => n - (intOf iv).toNat)
  case atStart => exact ⟨0, Nat.zero_le _, rfl, HW.out, fun j _ hj => absurd hj (Nat.not_lt_zero _)⟩
  case round =>
    obtain ⟨i, hi, rfl, hra, hno⟩ := hrel
    clear HW
    have HW := Lib.hid hra
    have HNO := Lib.hid hno
    clear hra hno
    by_cases hlt : i < n
    · obtain ⟨y, g, cap, hy, hav, q0, q1, q2, q3⟩ := HW.out.rm.at i (by rw [← HN.out]; exact hlt)
      rw [← HN.out] at hav
      subst hav
      have HY := Lib.hid hy
      obtain ⟨_, _, r2, fr, hrl⟩ := HW.out.rm.cells
      obtain ⟨b0', b1, b2, b3⟩ := HW.out.bx
      obtain ⟨q, hq⟩ : ∃ q, decide (y = th) = q := ⟨_, rfl⟩
      have HQQ := Lib.hid hq
      have he := fun W => (HQ.out y .eql (.tmp 0) (.tmp 0) W).1
      rw [hq] at he
      have hgd := fun op a b W => (HQ.out y op a b W).2
      clear hy hq
      go_upto_region 4 with (fail)
      refine wp_region_noPanic ?_
      refine wp_region_start (n := 9) (l := #[false, false, false, false, false, false, false, false, false]) (S := (fun W => W.cell? ⟨rb, 2, none⟩ = some (.slice (some ⟨g, 0, none⟩) n cap) ∧ (W.cell? ⟨w.heap.size, 0, none⟩ = some (.int .i64 kd) ∧ W.cell? ⟨w.heap.size, 1, none⟩ = some (.string KY) ∧ W.cell? ⟨w.heap.size, 2, none⟩ = some (.string TX) ∧ W.cell? ⟨w.heap.size, 3, none⟩ = some (.int .i64 nm)) ∧ (W.cell? ⟨g, i * 4, none⟩ = some (.int .i64 y.1) ∧ W.cell? ⟨g, i * 4 + 1, none⟩ = some (.string ⟨y.2.1.toArray⟩) ∧ W.cell? ⟨g, i * 4 + 2, none⟩ = some (.string ⟨y.2.2.1.toArray⟩) ∧ W.cell? ⟨g, i * 4 + 3, none⟩ = some (.int .i64 y.2.2.2)))) (by kernel_rfl) rfl (by kernel_rfl) (by exact ⟨r2, ⟨b0', b1, b2, b3⟩, q0, q1, q2, q3⟩) (fun hHeld => ?_)
      replace HW := Lib.hid (HW.out.go (Below.refl _ _).drew)
      clear r2 fr hrl b0' b1 b2 b3 q0 q1 q2 q3
      generalize World.drew _ = V2 at hHeld HW ⊢
      refine take_to (i := 0) (d := some 15) (v := ?_) (l' := #[true, false, false, false, false, false, false, false, false]) rfl rfl (by kernel_rfl) (by kernel_rfl) (by kernel_rfl) (by kernel_rfl) (fun _ _ _ h => h) (Or.inl ⟨by rfl, ?_⟩) (by assumption) ?_; rotate_left; · (intro w' hSw; (try dsimp only at hSw); go_simp; (try with_reducible rfl))
      try simp only [Act.put, List.setIfInBounds_toArray, List.set_cons_zero, List.set_cons_succ]
      refine take_to (i := 1) (d := some 16) (v := ?_) (l' := #[true, true, false, false, false, false, false, false, false]) rfl rfl (by kernel_rfl) (by kernel_rfl) (by kernel_rfl) (by kernel_rfl) (fun _ _ _ h => h) (Or.inl ⟨by rfl, ?_⟩) (by assumption) ?_; rotate_left; · (intro w' hSw; (try dsimp only at hSw); go_simp; (try with_reducible rfl))
      try simp only [Act.put, List.setIfInBounds_toArray, List.set_cons_zero, List.set_cons_succ]
      refine take_to (i := 2) (d := some 17) (v := ?_) (l' := #[true, true, true, false, false, false, false, false, false]) rfl rfl (by kernel_rfl) (by kernel_rfl) (by kernel_rfl) (by kernel_rfl) (fun _ _ _ h => h) (Or.inl ⟨by rfl, ?_⟩) (by assumption) ?_; rotate_left; · (intro w' hSw; (try dsimp only at hSw); go_simp; (try with_reducible rfl))
      try simp only [Act.put, List.setIfInBounds_toArray, List.set_cons_zero, List.set_cons_succ]
      refine take_to (i := 3) (d := some 18) (v := ?_) (l' := #[true, true, true, true, false, false, false, false, false]) rfl rfl (by kernel_rfl) (by kernel_rfl) (by kernel_rfl) (by kernel_rfl) (fun _ _ _ h => h) (Or.inl ⟨by rfl, ?_⟩) (by assumption) ?_; rotate_left; · (intro w' hSw; (try dsimp only at hSw); go_simp; (try with_reducible rfl))
      try simp only [Act.put, List.setIfInBounds_toArray, List.set_cons_zero, List.set_cons_succ]
      refine take_to (i := 4) (d := some 19) (v := ?_) (l' := #[true, true, true, true, true, false, false, false, false]) rfl rfl (by kernel_rfl) (by kernel_rfl) (by kernel_rfl) (by kernel_rfl) (fun _ _ _ h => h) (Or.inl ⟨by rfl, ?_⟩) (by assumption) ?_; rotate_left; · (intro w' hSw; (try dsimp only at hSw); go_simp; (try with_reducible rfl))
      try simp only [Act.put, List.setIfInBounds_toArray, List.set_cons_zero, List.set_cons_succ]
      refine take_to (i := 5) (d := some 20) (v := ?_) (l' := #[true, true, true, true, true, true, false, false, false]) rfl rfl (by kernel_rfl) (by kernel_rfl) (by kernel_rfl) (by kernel_rfl) (fun _ _ _ h => h) (Or.inl ⟨by rfl, ?_⟩) (by assumption) ?_; rotate_left; · (intro w' hSw; (try dsimp only at hSw); go_simp; (try with_reducible rfl))
      try simp only [Act.put, List.setIfInBounds_toArray, List.set_cons_zero, List.set_cons_succ]
      refine take_to (i := 6) (d := some 21) (v := ?_) (l' := #[true, true, true, true, true, true, true, false, false]) rfl rfl (by kernel_rfl) (by kernel_rfl) (by kernel_rfl) (by kernel_rfl) (fun _ _ _ h => h) (Or.inl ⟨by rfl, ?_⟩) (by assumption) ?_; rotate_left; · (intro w' hSw; (try dsimp only at hSw); go_simp; (try with_reducible rfl))
      try simp only [Act.put, List.setIfInBounds_toArray, List.set_cons_zero, List.set_cons_succ]
      refine take_to (i := 7) (d := some 22) (v := ?_) (l' := #[true, true, true, true, true, true, true, true, false]) rfl rfl (by kernel_rfl) (by kernel_rfl) (by kernel_rfl) (by kernel_rfl) (fun _ _ _ h => h) (Or.inl ⟨by rfl, ?_⟩) (by assumption) ?_; rotate_left; · (intro w' hSw; (try dsimp only at hSw); go_simp; (try with_reducible rfl))
      try simp only [Act.put, List.setIfInBounds_toArray, List.set_cons_zero, List.set_cons_succ]
      refine take_to (i := 8) (d := some 23) (v := ?_) (l' := #[true, true, true, true, true, true, true, true, true]) rfl rfl (by kernel_rfl) (by kernel_rfl) (by kernel_rfl) (by kernel_rfl) (fun _ _ _ h => h) (Or.inl ⟨by rfl, ?_⟩) (by assumption) ?_; rotate_left; · (intro w' hSw; (try dsimp only at hSw); go_simp; (try with_reducible rfl))
      try simp only [Act.put, List.setIfInBounds_toArray, List.set_cons_zero, List.set_cons_succ]
      refine wpAnyH_done (by kernel_rfl) ?_ _
      refine NoPanic.normal ?_
      clear hHeld
      cases q
      · go_wp2
        go_roundw
        case rel => exact ⟨i + 1, by omega, by go_num, HW.out, fun j z hj hz => by
          by_cases e : j = i
          · subst e
            rw [HY.out] at hz
            cases hz
            exact of_decide_eq_false HQQ.out
          · exact HNO.out j z (by omega) hz⟩
        case measure => simp [intOf]; omega
      · have hyt := of_decide_eq_true HQQ.out
        have hmem : th ∈ L := by rw [← hyt]; exact List.mem_of_getElem? HY.out
        have hid := idx_first L th i (by rw [HY.out, hyt]) HNO.out
        have hs2 : s = numT i := by rw [HS.out, addT_in hmem, hid]
        have hl2 : L2 = L := by rw [HL2.out, addT_in hmem]
        have HS2 := Lib.hid hs2
        subst hl2
        clear hmem hid hyt hs2
        go_upto_region 5 with (fail)
        refine wp_region_lit ?_
        refine wpList_plain rfl (fun K hK => ?_)
        go_simp
        refine hK _ _ ?_
        clear hK K
        refine wpList_plain rfl (fun K hK => ?_)
        go_simp
        refine (number_any (i : Int) i (wrap_nat i (by omega)) _).mono ?_
        rw [← HS2.out]
        rintro e w14 ⟨rfl, hb14⟩
        dsimp only
        refine hK _ _ ?_
        clear hK K
        replace HW := Lib.hid (HW.out.go hb14)
        clear hb14
        refine wpList_store_mid rfl 25 _ _ rfl (w.heap.size + 1) 0 (tagC s).toArray rfl rfl (by simpa [tagC_len] using HW.out.tg.there 32 (Nat.le_refl _)) (by simp [infoTag, tagC_len]) (tagC_one _) ?_
        rw [List.toList_toArray]
        have HR5 := Lib.hid (World.rangeAt_setCells_same w14 (w.heap.size + 1) 0 (tagC s) (by rw [tagC_len]; exact HW.out.tg.there 32 (Nat.le_refl _)))
        have gs := gr_setCells (hb := w.heap.size + 1) (tagC s) 0 w14
        have HM5 := Lib.hid (HW.out.rm.gr gs HNE.out.1.symm (fun e => HLT.out.1 e.symm))
        have HC5 := Lib.hid (Rch.of (rb := rb) (o := (Value.slice (some ⟨g, 0, none⟩) n cap).ownBlock) (HW.out.bel.grown gs HW.out.bel.size (by rintro q ⟨⟩; omega)))
        generalize w14.setCells (w.heap.size + 1) 0 (tagC s) = W7 at HR5 HM5 HC5 ⊢
        clear gs
        show Exit.then _ _ Exit.normal _ W7
        go_wp2
        refine bodyPost_ret (v := tagV s) ?_ rfl ?_
        · exact results_cell_mid (p := 4) (ty := 25) rfl _ W7 (w.heap.size + 1) _ _ rfl HR5.out Tryz.underlying25 rfl (by simp [infoTag, tagC_len])
        · exact ⟨_, rfl, HC5.out, HM5.out⟩
    · have him : i = n := by omega
      subst him
      have hnm : th ∉ L := fun hm => by
        obtain ⟨j, hj⟩ := List.mem_iff_getElem?.1 hm
        have h1 := (List.getElem?_eq_some_iff.1 hj).1
        exact HNO.out j th (by rw [HN.out]; exact h1) hj rfl
      have HS2 := Lib.hid (show s = numT i by rw [HS.out, addT_new hnm, idx_new hnm, HN.out])
      have HLA := Lib.hid (show L2.length = i + 1 by rw [HL2.out, addT_new hnm, List.length_append, ← HN.out]; rfl)
      have HLB := Lib.hid (show rthL L2 = rthL L ++ thC th by rw [HL2.out, addT_new hnm, rthL_append]; simp [rthL])
      have HCL := Lib.hid (show ∀ nb (V : World), V.heap[nb]? = some (.cells #[.int .i64 kd, .string KY, .string TX, .int .i64 nm] 77 (0, 0)) → ∀ j u, (thC th)[j]? = some u → V.cell? ⟨nb, j, none⟩ = some u from fun nb V hV j u hu => by
        rw [cell_of_row V nb j _ _ (0, 0) hV]
        rw [HC.out] at hu
        simpa using hu)
      have HCO := Lib.hid (show ∀ u ∈ thC th, u.oneCell' = true from fun u hu => by
        rw [HC.out] at hu
        simp only [List.mem_cons, List.not_mem_nil, or_false] at hu
        rcases hu with rfl | rfl | rfl | rfl <;> rfl)
      clear hnm
      obtain ⟨p, cap, hav⟩ := HW.out.rm.form
      rw [← HN.out] at hav
      subst hav
      obtain ⟨_, _, r2, fr, hrl⟩ := HW.out.rm.cells
      go_upto_region 6 with (fail)
      clear r2 fr hrl
      go_cut [] from 26 to 35 (fun wx => ∃ p' c', RMk wx rb real sv (.slice p' (i + 1) c') b0 L2 ∧ Rch rb (Value.slice p i cap).ownBlock w wx ∧ BT wx (w.heap.size + 1) 32 (fun _ => 0#8))
      case first =>
        refine wp_region_noPanic ?_
        refine wp_region_start (n := 11) (l := #[false, false, false, false, false, false, false, false, false, false, false]) (S := (fun W => W.cell? ⟨w.heap.size, 0, none⟩ = some (.int .i64 kd) ∧ W.cell? ⟨w.heap.size, 1, none⟩ = some (.string KY) ∧ W.cell? ⟨w.heap.size, 2, none⟩ = some (.string TX) ∧ W.cell? ⟨w.heap.size, 3, none⟩ = some (.int .i64 nm))) (by kernel_rfl) rfl (by kernel_rfl) (by first | exact HW.out.bx | exact (HW.out.go (Below.refl _ _).drew).bx) (fun hHeld => ?_)
        replace HW := Lib.hid (HW.out.go (Below.refl _ _).drew)
        generalize World.drew _ = V2 at hHeld HW ⊢
        refine take_to (i := 0) (d := some 26) (v := ?_) (l' := #[true, false, false, false, false, false, false, false, false, false, false]) rfl rfl (by kernel_rfl) (by kernel_rfl) (by kernel_rfl) (by kernel_rfl) (fun _ _ _ h => h) (Or.inl ⟨by rfl, ?_⟩) (by assumption) ?_; rotate_left; · (intro w' hSw; (try dsimp only at hSw); go_simp; (try with_reducible rfl))
        try simp only [Act.put, List.setIfInBounds_toArray, List.set_cons_zero, List.set_cons_succ]
        refine take_to (i := 1) (d := some 27) (v := ?_) (l' := #[true, true, false, false, false, false, false, false, false, false, false]) rfl rfl (by kernel_rfl) (by kernel_rfl) (by kernel_rfl) (by kernel_rfl) (fun _ _ _ h => h) (Or.inl ⟨by rfl, ?_⟩) (by assumption) ?_; rotate_left; · (intro w' hSw; (try dsimp only at hSw); go_simp; (try with_reducible rfl))
        try simp only [Act.put, List.setIfInBounds_toArray, List.set_cons_zero, List.set_cons_succ]
        refine take_to (i := 2) (d := some 28) (v := ?_) (l' := #[true, true, true, false, false, false, false, false, false, false, false]) rfl rfl (by kernel_rfl) (by kernel_rfl) (by kernel_rfl) (by kernel_rfl) (fun _ _ _ h => h) (Or.inl ⟨by rfl, ?_⟩) (by assumption) ?_; rotate_left; · (intro w' hSw; (try dsimp only at hSw); go_simp; (try with_reducible rfl))
        try simp only [Act.put, List.setIfInBounds_toArray, List.set_cons_zero, List.set_cons_succ]
        refine take_to (i := 3) (d := some 29) (v := ?_) (l' := #[true, true, true, true, false, false, false, false, false, false, false]) rfl rfl (by kernel_rfl) (by kernel_rfl) (by kernel_rfl) (by kernel_rfl) (fun _ _ _ h => h) (Or.inl ⟨by rfl, ?_⟩) (by assumption) ?_; rotate_left; · (intro w' hSw; (try dsimp only at hSw); go_simp; (try with_reducible rfl))
        try simp only [Act.put, List.setIfInBounds_toArray, List.set_cons_zero, List.set_cons_succ]
        refine take_to (i := 5) (d := some 31) (v := ?_) (l' := #[true, true, true, true, false, true, false, false, false, false, false]) rfl rfl (by kernel_rfl) (by kernel_rfl) (by kernel_rfl) (by kernel_rfl) (fun _ _ _ h => h) (Or.inl ⟨by rfl, ?_⟩) (by assumption) ?_; rotate_left; · (intro w' hSw; (try dsimp only at hSw); go_simp; (try with_reducible rfl))
        try simp only [Act.put, List.setIfInBounds_toArray, List.set_cons_zero, List.set_cons_succ]
        refine two_to (i := 4) (j := 6) (l1 := #[true, true, true, true, true, true, false, false, false, false, false]) (l2 := #[true, true, true, true, false, true, true, false, false, false, false]) rfl rfl (by kernel_rfl) (by kernel_rfl) (by kernel_rfl) (fun K hK => ?_) (fun K hK => ?_)
        · skip
          obtain ⟨_, _, r2, fr, hrl⟩ := HW.out.rm.cells
          go_simp
          clear r2 fr hrl
          refine hK.out _ _ (by first | exact HW.out.bx | exact (HW.out.go (Below.refl _ _).drew).bx) (fun hHeld => ?_)
          clear hK K
          try simp only [Act.put, List.setIfInBounds_toArray, List.set_cons_zero, List.set_cons_succ]
          refine one_to (i := 6) (l' := #[true, true, true, true, true, true, true, false, false, false, false]) rfl (by kernel_rfl) (by kernel_rfl) (fun K hK => ?_)
          refine wp_sliceR _ rfl #[.int .i64 kd, .string KY, .string TX, .int .i64 nm] rfl rfl ?_
          have HNB := Lib.hid (laid_at (W := V2) (o := .cells #[.int .i64 kd, .string KY, .string TX, .int .i64 nm] 77) rfl)
          replace HW := Lib.hid (HW.out.go (below_al V2 (.cells #[.int .i64 kd, .string KY, .string TX, .int .i64 nm] 77)))
          generalize V2.alloc (.cells #[.int .i64 kd, .string KY, .string TX, .int .i64 nm] 77) = V3 at *
          generalize V2.heap.size = nb at *
          refine hK.out _ _ (by first | exact HW.out.bx | exact (HW.out.go (Below.refl _ _).drew).bx) (fun hHeld => ?_)
          clear hK K
          try simp only [Act.put, List.setIfInBounds_toArray, List.set_cons_zero, List.set_cons_succ]
          refine one_to (i := 7) (l' := #[true, true, true, true, true, true, true, true, false, false, false]) rfl (by kernel_rfl) (by kernel_rfl) (fun K hK => ?_)
          have hLn : L.length ≤ 1000000 := by rw [← HN.out]; exact hL
          obtain ⟨ie, hie, ⟨z, hz, hzs⟩, hz2, hz3⟩ := infoThRAll
          refine wp_append_own _ _ _ 32 rfl b0 77 ie z 4 48 Tryz.underlying32 hie hz hz2 hz3 hzs (by omega) _ _ _ rfl HW.out.rm.own ⟨nb, 0, none⟩ 1 1 (thC th) rfl (by rw [thC_len]) (fun j u hj => by rw [Go.WideShapes.add_plain, Nat.zero_add]; exact HCL.out nb V3 HNB.out j u hj) (fun u hu => by have := HCO.out u hu; exact this) (by unfold maxLen; omega) (by omega) (Nat.le_trans HB.out HW.out.bel.size) (fun v2 U3 hown2 hgrow _ => ?_)
          rw [← HN.out] at hown2
          obtain ⟨vp, vc, rfl⟩ := own_form hown2
          have HOW := Lib.hid hown2
          have HGR := Lib.hid hgrow
          have HT3 := Lib.hid (show BT U3 (w.heap.size + 1) 32 (fun _ => 0#8) from HW.out.tg.of_block hgrow.size (hgrow.block _ HW.out.tg.lt (HLT.out.1)))
          have HX3 := Lib.hid ((hgrow.block _ (Array.getElem?_eq_some_iff.1 HW.out.box).1 HLT.out.2).trans HW.out.box)
          have HR3 := Lib.hid ((hgrow.block rb (Array.getElem?_eq_some_iff.1 HW.out.rm.box).1 (fun e => HW.out.rm.nob e.symm)).trans HW.out.rm.box)
          clear hown2 hgrow hie hz hzs hz2 hz3
          refine hK.out _ _ (by exact bx_of HX3.out) (fun hHeld => ?_)
          clear hK K
          try simp only [Act.put, List.setIfInBounds_toArray, List.set_cons_zero, List.set_cons_succ]
          refine take_to (i := 8) (d := some 34) (v := ?_) (l' := #[true, true, true, true, true, true, true, true, true, false, false]) rfl rfl (by kernel_rfl) (by kernel_rfl) (by kernel_rfl) (by kernel_rfl) (fun _ _ _ h => h) (Or.inl ⟨by rfl, ?_⟩) (by assumption) ?_; rotate_left; · (intro w' hSw; (try dsimp only at hSw); go_simp; (try with_reducible rfl))
          try simp only [Act.put, List.setIfInBounds_toArray, List.set_cons_zero, List.set_cons_succ]
          refine take_to (i := 9) (d := some 35) (v := ?_) (l' := #[true, true, true, true, true, true, true, true, true, true, false]) rfl rfl (by kernel_rfl) (by kernel_rfl) (by kernel_rfl) (by kernel_rfl) (fun _ _ _ h => h) (Or.inl ⟨by rfl, ?_⟩) (by assumption) ?_; rotate_left; · (intro w' hSw; (try dsimp only at hSw); go_simp; (try with_reducible rfl))
          try simp only [Act.put, List.setIfInBounds_toArray, List.set_cons_zero, List.set_cons_succ]
          refine one_to (i := 10) (l' := #[true, true, true, true, true, true, true, true, true, true, true]) rfl (by kernel_rfl) (by kernel_rfl) (fun K hK => ?_)
          have r2 : U3.cell? ⟨rb, 2, none⟩ = some (.slice p i cap) := by rw [cell_of_row U3 rb 2 _ _ (0, 0) HR3.out]; rfl
          have fr := fun o => frozen_of_row U3 rb o _ _ HR3.out
          have hrl := (Array.getElem?_eq_some_iff.1 HR3.out).1
          go_simp
          clear r2 fr hrl
          have gs := gr_setCell (w := U3) (hb := rb) (i := 2) (.slice vp (i + 1) vc)
          have HT4 := Lib.hid (HT3.out.gr gs HNE.out.1)
          have HX4 := Lib.hid ((gs.block _ (Array.getElem?_eq_some_iff.1 HX3.out).1 (ne_some' HNE.out.2)).trans HX3.out)
          have HR4 := Lib.hid (Go.heap_setCell_same U3 rb 2 _ _ (.slice vp (i + 1) vc) HR3.out)
          have HO4 := Lib.hid (owns_gr HOW.out gs (fun q hq => by cases hq; exact own_lo HOW.out HLO.out))
          have HCH := Lib.hid (((Rch.of HW.out.bel).trans (Rch.grown HGR.out)).trans (Rch.one gs) : Rch rb (Value.slice p i cap).ownBlock w _)
          clear gs
          refine hK.out _ _ (by exact bx_of HX4.out) (fun hHeld => ?_)
          clear hK K
          try simp only [Act.put, List.setIfInBounds_toArray, List.set_cons_zero, List.set_cons_succ]
          refine wpAnyH_done (by kernel_rfl) ?_ _
          refine NoPanic.normal ?_
          clear hHeld
          go_wp2_with fail
          go_meet
          exact ⟨vp, vc, ⟨HR4.out, by rw [HLA.out, HLB.out]; exact HO4.out, HLO.out⟩, HCH.out, HT4.out⟩
        · skip
          refine wp_sliceR _ rfl #[.int .i64 kd, .string KY, .string TX, .int .i64 nm] rfl rfl ?_
          have HNB := Lib.hid (laid_at (W := V2) (o := .cells #[.int .i64 kd, .string KY, .string TX, .int .i64 nm] 77) rfl)
          replace HW := Lib.hid (HW.out.go (below_al V2 (.cells #[.int .i64 kd, .string KY, .string TX, .int .i64 nm] 77)))
          generalize V2.alloc (.cells #[.int .i64 kd, .string KY, .string TX, .int .i64 nm] 77) = V3 at *
          generalize V2.heap.size = nb at *
          refine hK.out _ _ (by first | exact HW.out.bx | exact (HW.out.go (Below.refl _ _).drew).bx) (fun hHeld => ?_)
          clear hK K
          try simp only [Act.put, List.setIfInBounds_toArray, List.set_cons_zero, List.set_cons_succ]
          refine one_to (i := 4) (l' := #[true, true, true, true, true, true, true, false, false, false, false]) rfl (by kernel_rfl) (by kernel_rfl) (fun K hK => ?_)
          obtain ⟨_, _, r2, fr, hrl⟩ := HW.out.rm.cells
          go_simp
          clear r2 fr hrl
          refine hK.out _ _ (by first | exact HW.out.bx | exact (HW.out.go (Below.refl _ _).drew).bx) (fun hHeld => ?_)
          clear hK K
          try simp only [Act.put, List.setIfInBounds_toArray, List.set_cons_zero, List.set_cons_succ]
          refine one_to (i := 7) (l' := #[true, true, true, true, true, true, true, true, false, false, false]) rfl (by kernel_rfl) (by kernel_rfl) (fun K hK => ?_)
          have hLn : L.length ≤ 1000000 := by rw [← HN.out]; exact hL
          obtain ⟨ie, hie, ⟨z, hz, hzs⟩, hz2, hz3⟩ := infoThRAll
          refine wp_append_own _ _ _ 32 rfl b0 77 ie z 4 48 Tryz.underlying32 hie hz hz2 hz3 hzs (by omega) _ _ _ rfl HW.out.rm.own ⟨nb, 0, none⟩ 1 1 (thC th) rfl (by rw [thC_len]) (fun j u hj => by rw [Go.WideShapes.add_plain, Nat.zero_add]; exact HCL.out nb V3 HNB.out j u hj) (fun u hu => by have := HCO.out u hu; exact this) (by unfold maxLen; omega) (by omega) (Nat.le_trans HB.out HW.out.bel.size) (fun v2 U3 hown2 hgrow _ => ?_)
          rw [← HN.out] at hown2
          obtain ⟨vp, vc, rfl⟩ := own_form hown2
          have HOW := Lib.hid hown2
          have HGR := Lib.hid hgrow
          have HT3 := Lib.hid (show BT U3 (w.heap.size + 1) 32 (fun _ => 0#8) from HW.out.tg.of_block hgrow.size (hgrow.block _ HW.out.tg.lt (HLT.out.1)))
          have HX3 := Lib.hid ((hgrow.block _ (Array.getElem?_eq_some_iff.1 HW.out.box).1 HLT.out.2).trans HW.out.box)
          have HR3 := Lib.hid ((hgrow.block rb (Array.getElem?_eq_some_iff.1 HW.out.rm.box).1 (fun e => HW.out.rm.nob e.symm)).trans HW.out.rm.box)
          clear hown2 hgrow hie hz hzs hz2 hz3
          refine hK.out _ _ (by exact bx_of HX3.out) (fun hHeld => ?_)
          clear hK K
          try simp only [Act.put, List.setIfInBounds_toArray, List.set_cons_zero, List.set_cons_succ]
          refine take_to (i := 8) (d := some 34) (v := ?_) (l' := #[true, true, true, true, true, true, true, true, true, false, false]) rfl rfl (by kernel_rfl) (by kernel_rfl) (by kernel_rfl) (by kernel_rfl) (fun _ _ _ h => h) (Or.inl ⟨by rfl, ?_⟩) (by assumption) ?_; rotate_left; · (intro w' hSw; (try dsimp only at hSw); go_simp; (try with_reducible rfl))
          try simp only [Act.put, List.setIfInBounds_toArray, List.set_cons_zero, List.set_cons_succ]
          refine take_to (i := 9) (d := some 35) (v := ?_) (l' := #[true, true, true, true, true, true, true, true, true, true, false]) rfl rfl (by kernel_rfl) (by kernel_rfl) (by kernel_rfl) (by kernel_rfl) (fun _ _ _ h => h) (Or.inl ⟨by rfl, ?_⟩) (by assumption) ?_; rotate_left; · (intro w' hSw; (try dsimp only at hSw); go_simp; (try with_reducible rfl))
          try simp only [Act.put, List.setIfInBounds_toArray, List.set_cons_zero, List.set_cons_succ]
          refine one_to (i := 10) (l' := #[true, true, true, true, true, true, true, true, true, true, true]) rfl (by kernel_rfl) (by kernel_rfl) (fun K hK => ?_)
          have r2 : U3.cell? ⟨rb, 2, none⟩ = some (.slice p i cap) := by rw [cell_of_row U3 rb 2 _ _ (0, 0) HR3.out]; rfl
          have fr := fun o => frozen_of_row U3 rb o _ _ HR3.out
          have hrl := (Array.getElem?_eq_some_iff.1 HR3.out).1
          go_simp
          clear r2 fr hrl
          have gs := gr_setCell (w := U3) (hb := rb) (i := 2) (.slice vp (i + 1) vc)
          have HT4 := Lib.hid (HT3.out.gr gs HNE.out.1)
          have HX4 := Lib.hid ((gs.block _ (Array.getElem?_eq_some_iff.1 HX3.out).1 (ne_some' HNE.out.2)).trans HX3.out)
          have HR4 := Lib.hid (Go.heap_setCell_same U3 rb 2 _ _ (.slice vp (i + 1) vc) HR3.out)
          have HO4 := Lib.hid (owns_gr HOW.out gs (fun q hq => by cases hq; exact own_lo HOW.out HLO.out))
          have HCH := Lib.hid (((Rch.of HW.out.bel).trans (Rch.grown HGR.out)).trans (Rch.one gs) : Rch rb (Value.slice p i cap).ownBlock w _)
          clear gs
          refine hK.out _ _ (by exact bx_of HX4.out) (fun hHeld => ?_)
          clear hK K
          try simp only [Act.put, List.setIfInBounds_toArray, List.set_cons_zero, List.set_cons_succ]
          refine wpAnyH_done (by kernel_rfl) ?_ _
          refine NoPanic.normal ?_
          clear hHeld
          go_wp2_with fail
          go_meet
          exact ⟨vp, vc, ⟨HR4.out, by rw [HLA.out, HLB.out]; exact HO4.out, HLO.out⟩, HCH.out, HT4.out⟩
      case rest =>
        obtain ⟨p', c', hm, hch, hbt⟩ := hcut
        clear HW
        have HM := Lib.hid hm
        have HCH := Lib.hid hch
        have HT := Lib.hid hbt
        clear hm hch hbt
        obtain ⟨_, _, r2, fr, hrl⟩ := HM.out.cells
        go_upto_region 7 with (fail)
        refine wp_region_lit ?_
        refine wpList_plain rfl (fun K hK => ?_)
        go_simp
        refine hK _ _ ?_
        clear hK K
        refine wpList_plain rfl (fun K hK => ?_)
        go_simp
        refine hK _ _ ?_
        clear hK K
        refine wpList_plain rfl (fun K hK => ?_)
        go_simp
        refine hK _ _ ?_
        clear hK K
        refine wpList_plain rfl (fun K hK => ?_)
        go_simp
        refine hK _ _ ?_
        clear hK K
        refine wpList_plain rfl (fun K hK => ?_)
        go_simp
        refine hK _ _ ?_
        clear hK K
        refine wpList_plain rfl (fun K hK => ?_)
        go_simp
        refine hK _ _ ?_
        clear hK K
        clear r2 fr hrl
        refine wpList_plain rfl (fun K hK => ?_)
        go_simp
        refine (number_any _ i (by rw [IntWalk.i64_in (i : Int) (by omega), IntKind.wrap_u64]; omega) _).mono ?_
        rw [← HS2.out]
        rintro e w14 ⟨rfl, hb14⟩
        dsimp only
        refine hK _ _ ?_
        clear hK K
        replace HM := Lib.hid (HM.out.go hb14)
        replace HT := Lib.hid (HT.out.below' hb14)
        replace HCH := Lib.hid (HCH.out.trans (Rch.of hb14))
        clear hb14
        have hsz := HCH.out.size
        refine wpList_store_mid rfl 25 _ _ rfl (w.heap.size + 1) 0 (tagC s).toArray rfl rfl (by simpa [tagC_len] using HT.out.there 32 (Nat.le_refl _)) (by simp [infoTag, tagC_len]) (tagC_one _) ?_
        rw [List.toList_toArray]
        have HR5 := Lib.hid (World.rangeAt_setCells_same w14 (w.heap.size + 1) 0 (tagC s) (by rw [tagC_len]; exact HT.out.there 32 (Nat.le_refl _)))
        have gs := gr_setCells (hb := w.heap.size + 1) (tagC s) 0 w14
        have HM5 := Lib.hid (HM.out.gr gs HNE.out.1.symm (HM.out.off_bt (by rw [HLA.out]; omega) HT.out))
        have HC5 := Lib.hid (HCH.out.new gs (by omega))
        generalize w14.setCells (w.heap.size + 1) 0 (tagC s) = W7 at HR5 HM5 HC5 ⊢
        clear gs
        show Exit.then _ _ Exit.normal _ W7
        go_wp2
        refine bodyPost_ret (v := tagV s) ?_ rfl ?_
        · exact results_cell_mid (p := 4) (ty := 25) rfl _ W7 (w.heap.size + 1) _ _ rfl HR5.out Tryz.underlying25 rfl (by simp [infoTag, tagC_len])
        · exact ⟨_, rfl, HC5.out, HM5.out⟩
end Go.Proofs.YtejknkgbkkdaiaaGreatDoor
