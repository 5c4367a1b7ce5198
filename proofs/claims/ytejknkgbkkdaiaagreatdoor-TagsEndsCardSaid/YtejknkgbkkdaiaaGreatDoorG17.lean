/-
  Merged: RealAsk, Copy.
-/
import Derived.Test.YtejknkgbkkdaiaaGreatDoorReal
import Derived.Shelf.SlMaps.Clone

namespace Go.Proofs.YtejknkgbkkdaiaaGreatDoor
open Go.RowKit
set_option linter.unusedVariables false
set_option linter.unusedSimpArgs false

/-- what is asked is small enough for the digest -/
structure Ask.small (x : Ask) : Prop where
  kc : x.kn ≤ x.kc ∧ x.kc ≤ maxLen
  kn : x.kn ≤ 2147483584
  c : x.c ≤ maxLen
  n : pos x.ln x.m ≤ 2147483584
/-- the bytes of a draw -/
def drwG (sd : Nat → BitVec 8) (sm N : Nat) : Nat → BitVec 8 := fun j => if j < 4 then drwT j else if j < 4 + sm then sd (j - 4) else oct N (j - (4 + sm))
/-- a real maker's answer -/
noncomputable def Ask.real (x : Ask) (sd : Nat → BitVec 8) (sm : Nat) : Nat → BitVec 8 :=
  if x.what % 3 = 0 then sha x.all (pos x.ln x.m) else if x.what % 3 = 1 then hmac x.key x.kn x.all (pos x.ln x.m) else sha (drwG sd sm (IntKind.u64.wrap x.k).toNat) (4 + sm + 8)
structure AR (w : World) (mb B : Nat) (v : Value) (x : Ask) (W : World) : Prop where
  bel : Below w.heap.size w W
  mkr : MB W mb B true v
  box : W.heap[w.heap.size]? = some (.cells #[.int .i64 x.what, .slice x.kp x.kn x.kc, .slice x.p x.m x.c, .int .i64 x.k] 38 (0, 0))
  tag : BT W (w.heap.size + 1) 32 (fun _ => 0#8)
set_option maxHeartbeats 1000000 in
set_option maxRecDepth 100000 in
theorem toldR_any (w : World) (mb B : Nat) (sp : Option Addr) (sm sc : Nat) (h : MB w mb B true (.slice sp sm sc)) (B0 : Nat) (hk : Kc B0 w) (hB : B0 ≤ w.heap.size)
    (sd : Nat → BitVec 8) (hsr : Reads w.heap.size w sp sm (fun j => .int .u8 (ub (sd j)))) (hsm : sm ≤ 2147483500) (hsc : sm ≤ sc) (hscm : sc ≤ maxLen) (x : Ask) (hx : x.lies w) (hxs : x.small) :
    Calls Tryz.prog 10 #[.pointer (some ⟨mb, 0, none⟩), x.val] w fun e w' => e = .returned (tagV (x.real sd sm)) ∧ Below w.heap.size w w' := by
  have HX := Lib.hid hx
  have HXS := Lib.hid hxs
  have HKC := Lib.hid hk
  have HSR := Lib.hid hsr
  obtain ⟨v, hv⟩ : ∃ v, v = Value.slice sp sm sc := ⟨_, rfl⟩
  have HV := Lib.hid hv
  rw [← hv] at h
  have h0 : AR w mb B v x ((w.alloc (.cells #[.int .i64 x.what, .slice x.kp x.kn x.kc, .slice x.p x.m x.c, .int .i64 x.k] 38)).alloc (.cells (List.replicate 32 (Value.int .u8 0)).toArray 25)) := by
    have hb : Below w.heap.size w ((w.alloc (.cells #[.int .i64 x.what, .slice x.kp x.kn x.kc, .slice x.p x.m x.c, .int .i64 x.k] 38)).alloc (.cells (List.replicate 32 (Value.int .u8 0)).toArray 25)) := ((Below.refl _ _).alloc (Nat.le_refl _) _).alloc (by simp) _
    exact ⟨hb, h.below hb, laid_old (laid_at rfl), BT.of_cells (laid_at (by simp)) (fun i hi => zero_atL 32 i hi)⟩
  have hmw := h.lt
  unfold Ask.val
  obtain ⟨s, hs⟩ : ∃ s, s = x.real sd sm := ⟨_, rfl⟩
  rw [← hs]
  have HS := Lib.hid hs
  clear h hk hx hxs hsr hv hs
  go_enter Tryz.func10, Tryz.ntmps10
  go_upto_region 1 with (fail)
  refine forget_code (AR w mb B v x) h0 ?_
  intro W hW
  have HW := Lib.hid hW
  have c0 : W.cell? ⟨w.heap.size, 0, none⟩ = some (.int .i64 x.what) := by rw [cell_of_row W _ 0 _ _ (0, 0) hW.box]; rfl
  have c1 : W.cell? ⟨w.heap.size, 1, none⟩ = some (.slice x.kp x.kn x.kc) := by rw [cell_of_row W _ 1 _ _ (0, 0) hW.box]; rfl
  have c2 : W.cell? ⟨w.heap.size, 2, none⟩ = some (.slice x.p x.m x.c) := by rw [cell_of_row W _ 2 _ _ (0, 0) hW.box]; rfl
  have c3 : W.cell? ⟨w.heap.size, 3, none⟩ = some (.int .i64 x.k) := by rw [cell_of_row W _ 3 _ _ (0, 0) hW.box]; rfl
  have HXW := Lib.hid (HX.out.below hW.bel)
  have T0 := Lib.hid hW.tag
  have G0 := Lib.hid hW.bel
  clear hW h0
  have hw3 : 0 ≤ x.what % 3 ∧ x.what % 3 < 3 := ⟨Int.emod_nonneg _ (by omega), Int.emod_lt_of_pos _ (by omega)⟩
  go_wp2_with fail
  refine (pick3_any x.what W).mono ?_
  rintro e w' ⟨rfl, rfl⟩
  obtain ⟨kd, hkd⟩ : ∃ kd, kd = x.what % 3 := ⟨_, rfl⟩
  rw [← hkd] at hw3 ⊢
  have HKD := Lib.hid hkd
  clear hkd
  by_cases k0 : kd = 0
  · subst k0
    have ht : s = sha x.all (pos x.ln x.m) := by rw [HS.out]; unfold Ask.real; rw [if_pos HKD.out.symm]
    have hc := sumR_any W mb B v HW.out.mkr B0 (HKC.out.below (G0.out.mono hB)) (Nat.le_trans hB G0.out.size) x.p x.m x.c x.P x.ln x.C x.f x.all HXW.out.rows HXW.out.m HXS.out.n x.all_at
    rw [← ht] at hc
    clear ht hw3
    go_upto_region 3 with (fail)
    refine wp_region_lit ?_
    refine wpList_plain rfl (fun K hK => ?_)
    go_simp
    refine hK _ _ ?_
    clear hK K
    refine wpList_plain rfl (fun K hK => ?_)
    go_simp
    refine hK _ _ ?_
    clear hK K
    refine wpList_plain rfl (fun K hK => ?_)
    go_simp
    refine hK _ _ ?_
    clear hK K
    refine wpList_plain rfl (fun K hK => ?_)
    go_simp
    refine hc.mono ?_
    rintro e W5 ⟨rfl, b5⟩
    dsimp only
    refine hK _ _ ?_
    clear hK K
    have t5 := T0.out.below' b5
    refine wpList_store_mid rfl 25 _ _ rfl (w.heap.size + 1) 0 (tagC s).toArray rfl rfl (by simpa [tagC_len] using t5.there 32 (Nat.le_refl _)) (by simp [infoTag, tagC_len]) (tagC_one _) ?_
    rw [List.toList_toArray]
    have HR5 := Lib.hid (World.rangeAt_setCells_same W5 (w.heap.size + 1) 0 (tagC s) (by rw [tagC_len]; exact t5.there 32 (Nat.le_refl _)))
    have HG5 := Lib.hid ((G0.out.trans (b5.mono G0.out.size)).trans (gr_below (gr_setCells (hb := w.heap.size + 1) (tagC s) 0 W5) (by omega) (Nat.le_trans G0.out.size b5.size)))
    generalize W5.setCells (w.heap.size + 1) 0 (tagC s) = W7 at HR5 HG5 ⊢
    clear t5 b5
    show Exit.then _ _ Exit.normal _ W7
    go_wp2
    refine bodyPost_ret (v := tagV s) ?_ rfl ?_
    · exact results_cell_mid (p := 4) (ty := 25) rfl _ W7 (w.heap.size + 1) _ _ rfl HR5.out Tryz.underlying25 rfl (by simp [infoTag, tagC_len])
    · exact ⟨rfl, HG5.out⟩
  · by_cases k1 : kd = 1
    · subst k1
      have ht : s = hmac x.key x.kn x.all (pos x.ln x.m) := by rw [HS.out]; unfold Ask.real; rw [if_neg (by have := HKD.out; omega), if_pos HKD.out.symm]
      have hc := macR_any W mb B v HW.out.mkr B0 (HKC.out.below (G0.out.mono hB)) (Nat.le_trans hB G0.out.size) x.kp x.kn x.kc x.key (by have := HXS.out.kn; omega) HXS.out.kc.1 HXS.out.kc.2 HXW.out.key x.p x.m x.c x.P x.ln x.C x.f x.all HXW.out.rows HXW.out.mc HXS.out.c HXW.out.m HXS.out.n x.all_at
      rw [← ht] at hc
      clear ht hw3
      go_upto_region 5 with (fail)
      refine wp_region_lit ?_
      refine wpList_plain rfl (fun K hK => ?_)
      go_simp
      refine hK _ _ ?_
      clear hK K
      refine wpList_plain rfl (fun K hK => ?_)
      go_simp
      refine hK _ _ ?_
      clear hK K
      refine wpList_plain rfl (fun K hK => ?_)
      go_simp
      refine hK _ _ ?_
      clear hK K
      refine wpList_plain rfl (fun K hK => ?_)
      go_simp
      refine hK _ _ ?_
      clear hK K
      refine wpList_plain rfl (fun K hK => ?_)
      go_simp
      refine hK _ _ ?_
      clear hK K
      refine wpList_plain rfl (fun K hK => ?_)
      go_simp
      refine hc.mono ?_
      rintro e W5 ⟨rfl, b5⟩
      dsimp only
      refine hK _ _ ?_
      clear hK K
      have t5 := T0.out.below' b5
      refine wpList_store_mid rfl 25 _ _ rfl (w.heap.size + 1) 0 (tagC s).toArray rfl rfl (by simpa [tagC_len] using t5.there 32 (Nat.le_refl _)) (by simp [infoTag, tagC_len]) (tagC_one _) ?_
      rw [List.toList_toArray]
      have HR5 := Lib.hid (World.rangeAt_setCells_same W5 (w.heap.size + 1) 0 (tagC s) (by rw [tagC_len]; exact t5.there 32 (Nat.le_refl _)))
      have HG5 := Lib.hid ((G0.out.trans (b5.mono G0.out.size)).trans (gr_below (gr_setCells (hb := w.heap.size + 1) (tagC s) 0 W5) (by omega) (Nat.le_trans G0.out.size b5.size)))
      generalize W5.setCells (w.heap.size + 1) 0 (tagC s) = W7 at HR5 HG5 ⊢
      clear t5 b5
      show Exit.then _ _ Exit.normal _ W7
      go_wp2
      refine bodyPost_ret (v := tagV s) ?_ rfl ?_
      · exact results_cell_mid (p := 4) (ty := 25) rfl _ W7 (w.heap.size + 1) _ _ rfl HR5.out Tryz.underlying25 rfl (by simp [infoTag, tagC_len])
      · exact ⟨rfl, HG5.out⟩
    · have ht : s = sha (drwG sd sm (IntKind.u64.wrap x.k).toNat) (4 + sm + 8) := by rw [HS.out]; unfold Ask.real; rw [if_neg (by have := HKD.out; omega), if_neg (by have := HKD.out; omega)]
      have hun : 0 ≤ IntKind.u64.wrap x.k := by rw [IntKind.wrap_u64]; omega
      have hc := drawR_any W mb B sp sm sc (HV.out ▸ HW.out.mkr) B0 (HKC.out.below (G0.out.mono hB)) (Nat.le_trans hB G0.out.size) sd ((HSR.out.below G0.out).mono G0.out.size) hsm hsc hscm (drwG sd sm (IntKind.u64.wrap x.k).toNat) x.k (IntKind.u64.wrap x.k).toNat (by omega)
        (fun j hj => by unfold drwG; rw [if_pos hj]) (fun j hj => by unfold drwG; rw [if_neg (by omega), if_pos (by omega), show 4 + j - 4 = j by omega]) (fun j hj => by unfold drwG; rw [if_neg (by omega), if_neg (by omega), show 4 + sm + j - (4 + sm) = j by omega])
      rw [← ht] at hc
      clear ht hun
      go_upto_region 6 with (fail)
      refine wp_region_lit ?_
      refine wpList_plain rfl (fun K hK => ?_)
      go_simp
      refine hK _ _ ?_
      clear hK K
      refine wpList_plain rfl (fun K hK => ?_)
      go_simp
      refine hK _ _ ?_
      clear hK K
      refine wpList_plain rfl (fun K hK => ?_)
      go_simp
      refine hK _ _ ?_
      clear hK K
      refine wpList_plain rfl (fun K hK => ?_)
      go_simp
      refine hc.mono ?_
      rintro e W5 ⟨rfl, b5⟩
      dsimp only
      refine hK _ _ ?_
      clear hK K
      have t5 := T0.out.below' b5
      refine wpList_store_mid rfl 25 _ _ rfl (w.heap.size + 1) 0 (tagC s).toArray rfl rfl (by simpa [tagC_len] using t5.there 32 (Nat.le_refl _)) (by simp [infoTag, tagC_len]) (tagC_one _) ?_
      rw [List.toList_toArray]
      have HR5 := Lib.hid (World.rangeAt_setCells_same W5 (w.heap.size + 1) 0 (tagC s) (by rw [tagC_len]; exact t5.there 32 (Nat.le_refl _)))
      have HG5 := Lib.hid ((G0.out.trans (b5.mono G0.out.size)).trans (gr_below (gr_setCells (hb := w.heap.size + 1) (tagC s) 0 W5) (by omega) (Nat.le_trans G0.out.size b5.size)))
      generalize W5.setCells (w.heap.size + 1) 0 (tagC s) = W7 at HR5 HG5 ⊢
      clear t5 b5
      show Exit.then _ _ Exit.normal _ W7
      go_wp2
      refine bodyPost_ret (v := tagV s) ?_ rfl ?_
      · exact results_cell_mid (p := 4) (ty := 25) rfl _ W7 (w.heap.size + 1) _ _ rfl HR5.out Tryz.underlying25 rfl (by simp [infoTag, tagC_len])
      · exact ⟨rfl, HG5.out⟩
end Go.Proofs.YtejknkgbkkdaiaaGreatDoor

namespace Go.Proofs.YtejknkgbkkdaiaaGreatDoor
open Go.RowKit
set_option linter.unusedVariables false
set_option linter.unusedSimpArgs false

def clone_ren : Go.Shelf.Ren := ⟨fun | 5 => 75 | 7 => 92 | n => n, fun | 4 => 4 | 20 => 20 | 23 => 51 | 25 => 68 | 3 => 3 | n => n, fun | n => n⟩
theorem clone_lays : Go.Proofs.SlLaysW.n5 Tryz.prog clone_ren := {
  mixed := by kernel_rfl
  f5 := ⟨"maps.Clone[map[zugzwang/tags.thing]int,zugzwang/tags.thing,int]", by decide, Tryz.func75.trans (congrArg some (by kernel_rfl))⟩
  f7 := Tryz.func92.trans (congrArg some (by kernel_rfl))
  t4 := Tryz.underlying4
  a4 := Tryz.isAgg4
  z4 := Tryz.sizeOf4
  v4 := Tryz.zeroValue4
  t20 := Tryz.underlying20
  a20 := Tryz.isAgg20
  z20 := Tryz.sizeOf20
  v20 := Tryz.zeroValue20
  t23 := Tryz.underlying51
  a23 := Tryz.isAgg51
  z23 := Tryz.sizeOf51
  v23 := Tryz.zeroValue51 }
set_option maxHeartbeats 400000 in
theorem cloneM_any (w : World) (B : Nat) (L : List Thing) (h : BK w B L) :
    Calls Tryz.prog 75 #[.map (some B)] w fun e w' => e = .returned (.map (some w.heap.size)) ∧ BK w' w.heap.size L ∧ Below w.heap.size w w' := by
  obtain ⟨D, h1, h2⟩ := h
  refine (AnyW.maps_Clone_owns clone_lays _ _ B _ D w h1).mono ?_
  rintro e w' ⟨rfl, h3, _, hb⟩
  exact ⟨rfl, ⟨D, h3, h2⟩, hb⟩
theorem infoBook : (Tryz.prog.info? 53).map (·.size) = some 1 := by kernel_rfl
set_option maxHeartbeats 400000 in
theorem copied_any (w : World) (B : Nat) (L : List Thing) (h : BK w B L) :
    Calls Tryz.prog 52 #[.agg #[.map (some B)]] w fun e w' => ∃ C, e = .returned (.agg #[.map (some C)]) ∧ w.heap.size ≤ C ∧ BK w' C L ∧ Below w.heap.size w w' := by
  have h2 : BK ((w.alloc (.cells #[.map (some B)] 53)).alloc (.cells #[.map none] 53)) B L := h.below (((Below.refl _ _).alloc (Nat.le_refl _) _).alloc (by simp) _)
  have HB := Lib.hid h2
  clear h h2
  go_enter Tryz.func52, Tryz.ntmps52
  go_wp2_with fail
  refine (cloneM_any _ B L HB.out).mono ?_
  rintro e w1 ⟨rfl, hk1, hb1⟩
  have hl : w1.heap[w.heap.size + 1]? = some (.cells #[.map none] 53 (0, 0)) := laid_go (laid_at (by simp)) hb1
  have c0 : w1.cell? ⟨w.heap.size + 1, 0, none⟩ = some (.map none) := by rw [cell_of_row w1 _ 0 _ _ (0, 0) hl]; rfl
  have fr : ∀ o, w1.frozen? ⟨w.heap.size + 1, o, none⟩ = false := fun o => frozen_of_row w1 _ o _ _ hl
  have h0 : Below w.heap.size w w1 := (((Below.refl _ _).alloc (Nat.le_refl _) _).alloc (by simp) _).trans (hb1.mono (by simp; omega))
  have gs := gr_setCell (hb := w.heap.size + 1) (i := 0) (w := w1) (.map (some (w.heap.size + 2)))
  have hz := hb1.size
  simp only [World.size_alloc] at hz hk1
  have HG := Lib.hid (h0.trans (gr_below gs (by omega) h0.size))
  have HK := Lib.hid (hk1.kept gs (by simp))
  have HL := Lib.hid (Go.heap_setCell_same w1 (w.heap.size + 1) 0 _ _ (.map (some (w.heap.size + 2))) hl)
  clear hb1 hk1 gs h0 hl HB
  go_wp2
  refine bodyPost_ret (v := .agg #[.map (some (w.heap.size + 2))]) ?_ rfl ⟨w.heap.size + 2, rfl, by omega, HK.out, HG.out⟩
  exact results_cell_row (p := 2) (ty := 53) rfl _ _ (w.heap.size + 1) 53 _ (0, 0) _ rfl HL.out Tryz.underlying53 rfl infoBook
theorem own_ne {w : World} {b0 n m2 C : Nat} {v sv : Value} {xs : List Value} {real : Bool} (h : w.ownsRow b0 5 1 v n xs) (hm : MB w m2 C real sv) : v.ownBlock ≠ some m2 := by
  intro hq
  rcases h.2 with ⟨hv, _⟩ | ⟨g, cap, cur, hv, _, hc, _⟩
  · rw [hv] at hq; cases hq
  · rw [hv] at hq
    simp [Value.ownBlock] at hq
    subst hq
    unfold MB at hm
    rw [hc] at hm
    simp at hm
set_option maxHeartbeats 1000000 in
set_option maxRecDepth 100000 in
theorem copyR_any (w : World) (mb B : Nat) (L : List Thing) (p : Option Addr) (m c : Nat) (f : Nat → BitVec 8) (h : MB w mb B true (.slice p m c)) (hk : BK w B L) (hz : p = none → m = 0) (hm : m ≤ 4294967296) (hr : Reads w.heap.size w p m (fun j => .int .u8 (ub (f j)))) :
    Calls Tryz.prog 37 #[.pointer (some ⟨mb, 0, none⟩)] w fun e w' => ∃ m2 C v b0, e = .returned (.pointer (some ⟨m2, 0, none⟩)) ∧ w.heap.size ≤ m2 ∧ w.heap.size ≤ C ∧ w.heap.size ≤ b0 ∧ Below w.heap.size w w' ∧ MB w' m2 C true v ∧ BK w' C L ∧ w'.ownsRow b0 5 1 v m ((List.range m).map (fun j => .int .u8 (ub (f j)))) := by
  have hnew := newR_any w.drew p m c f hz hm hr
  have H := Lib.hid h
  have HK := Lib.hid hk
  have HN := Lib.hid hnew
  have H2 := Lib.hid (h.below (Below.refl _ _).drew)
  have HK2 := Lib.hid (hk.below (Below.refl _ _).drew)
  have c1 := h.c1
  have c2 := h.c2
  clear h hk hr hz hnew
  go_enter Tryz.func37, Tryz.ntmps37
  go_wp2_with fail
  refine (noneM_any w mb B true _ H.out).mono ?_
  rintro e w' ⟨rfl, rfl⟩
  go_upto_region 3 with (fail)
  refine wp_region_noPanic ?_
  refine wp_region_start (n := 10) (l := #[false, false, false, false, false, false, false, false, false, false]) (S := (fun W => W.cell? ⟨mb, 1, none⟩ = some (.bool true) ∧ W.cell? ⟨mb, 2, none⟩ = some (.slice p m c))) (by kernel_rfl) rfl (by kernel_rfl) (by (first | exact ⟨(H2.out.below b1).c1, (H2.out.below b1).c2⟩ | exact ⟨c1, c2⟩)) (fun hHeld => ?_)
  refine take_to (i := 0) (d := some 6) (v := ?_) (l' := #[true, false, false, false, false, false, false, false, false, false]) rfl rfl (by kernel_rfl) (by kernel_rfl) (by kernel_rfl) (by kernel_rfl) (fun _ _ _ h => h) (Or.inl ⟨by rfl, ?_⟩) (by assumption) ?_; rotate_left; · (intro w' hSw; (try dsimp only at hSw); go_simp; (try with_reducible rfl))
  try simp only [Act.put, List.setIfInBounds_toArray, List.set_cons_zero, List.set_cons_succ]
  refine take_to (i := 1) (d := some 7) (v := ?_) (l' := #[true, true, false, false, false, false, false, false, false, false]) rfl rfl (by kernel_rfl) (by kernel_rfl) (by kernel_rfl) (by kernel_rfl) (fun _ _ _ h => h) (Or.inl ⟨by rfl, ?_⟩) (by assumption) ?_; rotate_left; · (intro w' hSw; (try dsimp only at hSw); go_simp; (try with_reducible rfl))
  try simp only [Act.put, List.setIfInBounds_toArray, List.set_cons_zero, List.set_cons_succ]
  refine take_to (i := 2) (d := some 8) (v := ?_) (l' := #[true, true, true, false, false, false, false, false, false, false]) rfl rfl (by kernel_rfl) (by kernel_rfl) (by kernel_rfl) (by kernel_rfl) (fun _ _ _ h => h) (Or.inl ⟨by rfl, ?_⟩) (by assumption) ?_; rotate_left; · (intro w' hSw; (try dsimp only at hSw); go_simp; (try with_reducible rfl))
  try simp only [Act.put, List.setIfInBounds_toArray, List.set_cons_zero, List.set_cons_succ]
  refine take_to (i := 3) (d := some 9) (v := ?_) (l' := #[true, true, true, true, false, false, false, false, false, false]) rfl rfl (by kernel_rfl) (by kernel_rfl) (by kernel_rfl) (by kernel_rfl) (fun _ _ _ h => h) (Or.inl ⟨by rfl, ?_⟩) (by assumption) ?_; rotate_left; · (intro w' hSw; (try dsimp only at hSw); go_simp; (try with_reducible rfl))
  try simp only [Act.put, List.setIfInBounds_toArray, List.set_cons_zero, List.set_cons_succ]
  refine take_to (i := 4) (d := some 10) (v := ?_) (l' := #[true, true, true, true, true, false, false, false, false, false]) rfl rfl (by kernel_rfl) (by kernel_rfl) (by kernel_rfl) (by kernel_rfl) (fun _ _ _ h => h) (Or.inl ⟨by rfl, ?_⟩) (by assumption) ?_; rotate_left; · (intro w' hSw; (try dsimp only at hSw); go_simp; (try with_reducible rfl))
  try simp only [Act.put, List.setIfInBounds_toArray, List.set_cons_zero, List.set_cons_succ]
  refine take_to (i := 5) (d := some 11) (v := ?_) (l' := #[true, true, true, true, true, true, false, false, false, false]) rfl rfl (by kernel_rfl) (by kernel_rfl) (by kernel_rfl) (by kernel_rfl) (fun _ _ _ h => h) (Or.inl ⟨by rfl, ?_⟩) (by assumption) ?_; rotate_left; · (intro w' hSw; (try dsimp only at hSw); go_simp; (try with_reducible rfl))
  try simp only [Act.put, List.setIfInBounds_toArray, List.set_cons_zero, List.set_cons_succ]
  refine take_to (i := 6) (d := some 12) (v := ?_) (l' := #[true, true, true, true, true, true, true, false, false, false]) rfl rfl (by kernel_rfl) (by kernel_rfl) (by kernel_rfl) (by kernel_rfl) (fun _ _ _ h => h) (Or.inl ⟨by rfl, ?_⟩) (by assumption) ?_; rotate_left; · (intro w' hSw; (try dsimp only at hSw); go_simp; (try with_reducible rfl))
  try simp only [Act.put, List.setIfInBounds_toArray, List.set_cons_zero, List.set_cons_succ]
  refine take_to (i := 7) (d := some 13) (v := ?_) (l' := #[true, true, true, true, true, true, true, true, false, false]) rfl rfl (by kernel_rfl) (by kernel_rfl) (by kernel_rfl) (by kernel_rfl) (fun _ _ _ h => h) (Or.inl ⟨by rfl, ?_⟩) (by assumption) ?_; rotate_left; · (intro w' hSw; (try dsimp only at hSw); go_simp; (try with_reducible rfl))
  try simp only [Act.put, List.setIfInBounds_toArray, List.set_cons_zero, List.set_cons_succ]
  refine one_to (i := 8) (l' := #[true, true, true, true, true, true, true, true, true, false]) rfl (by kernel_rfl) (by kernel_rfl) (fun K hK => ?_)
  go_simp
  refine (HN.out).mono ?_
  rintro e w1 ⟨m2, C0, v, b0, rfl, g1, g2, g3, b1, M1, K1, O1⟩
  dsimp only
  refine hK.out _ _ (by (first | exact ⟨(H2.out.below b1).c1, (H2.out.below b1).c2⟩ | exact ⟨c1, c2⟩)) (fun hHeld => ?_)
  clear hK K
  try simp only [Act.put, List.setIfInBounds_toArray, List.set_cons_zero, List.set_cons_succ]
  refine take_to (i := 9) (d := some 3) (v := ?_) (l' := #[true, true, true, true, true, true, true, true, true, true]) rfl rfl (by kernel_rfl) (by kernel_rfl) (by kernel_rfl) (by kernel_rfl) (fun _ _ _ h => h) (Or.inl ⟨by rfl, ?_⟩) (by assumption) ?_; rotate_left; · (intro w' hSw; (try dsimp only at hSw); go_simp; (try with_reducible rfl))
  try simp only [Act.put, List.setIfInBounds_toArray, List.set_cons_zero, List.set_cons_succ]
  refine wpAnyH_done (by kernel_rfl) ?_ _
  refine NoPanic.normal ?_
  clear hHeld
  have HB1 := Lib.hid b1
  have HM1 := Lib.hid M1
  have HO1 := Lib.hid O1
  have hbk := HK2.out.below b1
  have d0 := (H2.out.below b1).c0
  have HHB := Lib.hid hbk
  clear b1 M1 K1 O1 c1 c2 HN hbk
  go_wp2_with fail
  refine (copied_any w1 B L HHB.out).mono ?_
  rintro e w2 ⟨C, rfl, hC, hk2, hb2⟩
  have m2b := HM1.out.below hb2
  have o2 := owns_below HO1.out hb2
  have e0 := m2b.c0
  have fr : ∀ o, w2.frozen? ⟨m2, o, none⟩ = false := fun o => frozen_of_row w2 _ o _ _ m2b
  have gs := gr_setCell (hb := m2) (i := 0) (w := w2) (.map (some C))
  have hmlt := HM1.out.lt
  have hz2 := hb2.size
  have hz1 := HB1.out.size
  simp only [World.size_drew] at hz1 g1 g2 g3
  have HG := Lib.hid ((Below.refl w.heap.size w).drew.trans ((HB1.out.trans (hb2.mono HB1.out.size)).trans (gr_below gs g1 (Nat.le_trans HB1.out.size hb2.size))))
  have HKK := Lib.hid (hk2.kept gs (by simp; omega))
  have HMM := Lib.hid (Go.heap_setCell_same w2 m2 0 _ _ (.map (some C)) m2b)
  have HOO := Lib.hid (owns_gr o2 gs (by rintro q ⟨⟩; exact own_ne HO1.out HM1.out))
  clear hb2 hk2 m2b o2 gs HB1 HM1 HO1 HHB HK HK2 H H2
  go_wp2
  go_ret
  exact ⟨m2, C, v, b0, rfl, g1, by omega, g3, HG.out, HMM.out, HKK.out, HOO.out⟩
set_option maxHeartbeats 1000000 in
set_option maxRecDepth 100000 in
theorem copyT_any (w : World) (mb B : Nat) (L : List Thing) (h : MB w mb B false (.slice none 0 0)) (hk : BK w B L) :
    Calls Tryz.prog 37 #[.pointer (some ⟨mb, 0, none⟩)] w fun e w' => ∃ m2 C, e = .returned (.pointer (some ⟨m2, 0, none⟩)) ∧ w.heap.size ≤ m2 ∧ w.heap.size ≤ C ∧ Below w.heap.size w w' ∧ MB w' m2 C false (.slice none 0 0) ∧ BK w' C L := by
  have H := Lib.hid h
  have H2 := Lib.hid (h.below (Below.refl _ _).drew)
  have HK2 := Lib.hid (hk.below (Below.refl _ _).drew)
  have HK := Lib.hid hk
  have c1 := h.c1
  have c2 := h.c2
  clear h hk
  go_enter Tryz.func37, Tryz.ntmps37
  go_wp2_with fail
  refine (noneM_any w mb B false _ H.out).mono ?_
  rintro e w' ⟨rfl, rfl⟩
  go_upto_region 3 with (fail)
  refine wp_region_noPanic ?_
  refine wp_region_start (n := 10) (l := #[false, false, false, false, false, false, false, false, false, false]) (S := (fun W => W.cell? ⟨mb, 1, none⟩ = some (.bool false) ∧ W.cell? ⟨mb, 2, none⟩ = some (.slice none 0 0))) (by kernel_rfl) rfl (by kernel_rfl) (by (first | exact ⟨(H2.out.below b1).c1, (H2.out.below b1).c2⟩ | exact ⟨c1, c2⟩)) (fun hHeld => ?_)
  refine take_to (i := 0) (d := some 6) (v := ?_) (l' := #[true, false, false, false, false, false, false, false, false, false]) rfl rfl (by kernel_rfl) (by kernel_rfl) (by kernel_rfl) (by kernel_rfl) (fun _ _ _ h => h) (Or.inl ⟨by rfl, ?_⟩) (by assumption) ?_; rotate_left; · (intro w' hSw; (try dsimp only at hSw); go_simp; (try with_reducible rfl))
  try simp only [Act.put, List.setIfInBounds_toArray, List.set_cons_zero, List.set_cons_succ]
  refine take_to (i := 1) (d := some 7) (v := ?_) (l' := #[true, true, false, false, false, false, false, false, false, false]) rfl rfl (by kernel_rfl) (by kernel_rfl) (by kernel_rfl) (by kernel_rfl) (fun _ _ _ h => h) (Or.inl ⟨by rfl, ?_⟩) (by assumption) ?_; rotate_left; · (intro w' hSw; (try dsimp only at hSw); go_simp; (try with_reducible rfl))
  try simp only [Act.put, List.setIfInBounds_toArray, List.set_cons_zero, List.set_cons_succ]
  refine take_to (i := 2) (d := some 8) (v := ?_) (l' := #[true, true, true, false, false, false, false, false, false, false]) rfl rfl (by kernel_rfl) (by kernel_rfl) (by kernel_rfl) (by kernel_rfl) (fun _ _ _ h => h) (Or.inl ⟨by rfl, ?_⟩) (by assumption) ?_; rotate_left; · (intro w' hSw; (try dsimp only at hSw); go_simp; (try with_reducible rfl))
  try simp only [Act.put, List.setIfInBounds_toArray, List.set_cons_zero, List.set_cons_succ]
  refine take_to (i := 3) (d := some 9) (v := ?_) (l' := #[true, true, true, true, false, false, false, false, false, false]) rfl rfl (by kernel_rfl) (by kernel_rfl) (by kernel_rfl) (by kernel_rfl) (fun _ _ _ h => h) (Or.inl ⟨by rfl, ?_⟩) (by assumption) ?_; rotate_left; · (intro w' hSw; (try dsimp only at hSw); go_simp; (try with_reducible rfl))
  try simp only [Act.put, List.setIfInBounds_toArray, List.set_cons_zero, List.set_cons_succ]
  refine take_to (i := 4) (d := some 10) (v := ?_) (l' := #[true, true, true, true, true, false, false, false, false, false]) rfl rfl (by kernel_rfl) (by kernel_rfl) (by kernel_rfl) (by kernel_rfl) (fun _ _ _ h => h) (Or.inl ⟨by rfl, ?_⟩) (by assumption) ?_; rotate_left; · (intro w' hSw; (try dsimp only at hSw); go_simp; (try with_reducible rfl))
  try simp only [Act.put, List.setIfInBounds_toArray, List.set_cons_zero, List.set_cons_succ]
  refine take_to (i := 5) (d := some 11) (v := ?_) (l' := #[true, true, true, true, true, true, false, false, false, false]) rfl rfl (by kernel_rfl) (by kernel_rfl) (by kernel_rfl) (by kernel_rfl) (fun _ _ _ h => h) (Or.inl ⟨by rfl, ?_⟩) (by assumption) ?_; rotate_left; · (intro w' hSw; (try dsimp only at hSw); go_simp; (try with_reducible rfl))
  try simp only [Act.put, List.setIfInBounds_toArray, List.set_cons_zero, List.set_cons_succ]
  refine take_to (i := 6) (d := some 12) (v := ?_) (l' := #[true, true, true, true, true, true, true, false, false, false]) rfl rfl (by kernel_rfl) (by kernel_rfl) (by kernel_rfl) (by kernel_rfl) (fun _ _ _ h => h) (Or.inl ⟨by rfl, ?_⟩) (by assumption) ?_; rotate_left; · (intro w' hSw; (try dsimp only at hSw); go_simp; (try with_reducible rfl))
  try simp only [Act.put, List.setIfInBounds_toArray, List.set_cons_zero, List.set_cons_succ]
  refine take_to (i := 7) (d := some 13) (v := ?_) (l' := #[true, true, true, true, true, true, true, true, false, false]) rfl rfl (by kernel_rfl) (by kernel_rfl) (by kernel_rfl) (by kernel_rfl) (fun _ _ _ h => h) (Or.inl ⟨by rfl, ?_⟩) (by assumption) ?_; rotate_left; · (intro w' hSw; (try dsimp only at hSw); go_simp; (try with_reducible rfl))
  try simp only [Act.put, List.setIfInBounds_toArray, List.set_cons_zero, List.set_cons_succ]
  refine one_to (i := 8) (l' := #[true, true, true, true, true, true, true, true, true, false]) rfl (by kernel_rfl) (by kernel_rfl) (fun K hK => ?_)
  go_simp
  refine (newT_any w.drew (.slice none 0 0)).mono ?_
  rintro e w1 ⟨m2, C0, rfl, g1, g2, b1, M1, K1⟩
  dsimp only
  refine hK.out _ _ (by (first | exact ⟨(H2.out.below b1).c1, (H2.out.below b1).c2⟩ | exact ⟨c1, c2⟩)) (fun hHeld => ?_)
  clear hK K
  try simp only [Act.put, List.setIfInBounds_toArray, List.set_cons_zero, List.set_cons_succ]
  refine take_to (i := 9) (d := some 3) (v := ?_) (l' := #[true, true, true, true, true, true, true, true, true, true]) rfl rfl (by kernel_rfl) (by kernel_rfl) (by kernel_rfl) (by kernel_rfl) (fun _ _ _ h => h) (Or.inl ⟨by rfl, ?_⟩) (by assumption) ?_; rotate_left; · (intro w' hSw; (try dsimp only at hSw); go_simp; (try with_reducible rfl))
  try simp only [Act.put, List.setIfInBounds_toArray, List.set_cons_zero, List.set_cons_succ]
  refine wpAnyH_done (by kernel_rfl) ?_ _
  refine NoPanic.normal ?_
  clear hHeld
  have HB1 := Lib.hid b1
  have HM1 := Lib.hid M1
  have hbk := HK2.out.below b1
  have d0 := (H2.out.below b1).c0
  have HHB := Lib.hid hbk
  clear b1 M1 K1 c1 c2 hbk
  go_wp2_with fail
  refine (copied_any w1 B L HHB.out).mono ?_
  rintro e w2 ⟨C, rfl, hC, hk2, hb2⟩
  have m2b := HM1.out.below hb2
  have e0 := m2b.c0
  have fr : ∀ o, w2.frozen? ⟨m2, o, none⟩ = false := fun o => frozen_of_row w2 _ o _ _ m2b
  have gs := gr_setCell (hb := m2) (i := 0) (w := w2) (.map (some C))
  have hmlt := HM1.out.lt
  have hz2 := hb2.size
  have hz1 := HB1.out.size
  simp only [World.size_drew] at hz1 g1 g2
  have HG := Lib.hid ((Below.refl w.heap.size w).drew.trans ((HB1.out.trans (hb2.mono HB1.out.size)).trans (gr_below gs g1 (Nat.le_trans HB1.out.size hb2.size))))
  have HKK := Lib.hid (hk2.kept gs (by simp; omega))
  have HMM := Lib.hid (Go.heap_setCell_same w2 m2 0 _ _ (.map (some C)) m2b)
  clear hb2 hk2 m2b gs HB1 HM1 HHB HK HK2 H H2
  go_wp2
  go_ret
  exact ⟨m2, C, rfl, g1, by omega, HG.out, HMM.out, HKK.out⟩
/-- how bytes are parted does not matter to a real maker, nor its seed but for a draw -/
theorem Ask.real_same (x y : Ask) (sd sd2 : Nat → BitVec 8) (sm sm2 : Nat) (hw : y.what = x.what) (hkn : y.kn = x.kn) (hkey : y.key = x.key) (hk : y.k = x.k) (hn : pos y.ln y.m = pos x.ln x.m)
    (hg : ∀ i, i < pos x.ln x.m → y.all i = x.all i) (hs : x.what % 3 = 2 → sm2 = sm ∧ ∀ j, j < sm → sd2 j = sd j) : y.real sd2 sm2 = x.real sd sm := by
  unfold Ask.real
  rw [hw, hkn, hkey, hk, hn]
  by_cases h0 : x.what % 3 = 0
  · rw [if_pos h0, if_pos h0]
    exact sha_congr _ hg
  · rw [if_neg h0, if_neg h0]
    by_cases h1 : x.what % 3 = 1
    · rw [if_pos h1, if_pos h1]
      exact hmb_congr (fun _ _ => rfl) hg
    · rw [if_neg h1, if_neg h1]
      have h2 : x.what % 3 = 2 := by have := Int.emod_nonneg x.what (show (3 : Int) ≠ 0 by omega); have := Int.emod_lt_of_pos x.what (show (0 : Int) < 3 by omega); omega
      obtain ⟨e, hd⟩ := hs h2
      rw [e]
      refine sha_congr _ fun i _ => ?_
      unfold drwG
      by_cases q0 : i < 4
      · rw [if_pos q0, if_pos q0]
      · rw [if_neg q0, if_neg q0]
        by_cases q1 : i < 4 + sm
        · rw [if_pos q1, if_pos q1]; exact hd _ (by omega)
        · rw [if_neg q1, if_neg q1]
end Go.Proofs.YtejknkgbkkdaiaaGreatDoor
