/-
  Merged: Ask, Real, RealAsk, Copy, AskRow.
-/
import Derived.Test.YtjflaeohkhmkaaaDoorAwakeT
import Derived.Shelf.SlMaps.Clone

namespace Go.Proofs.YtjflaeohkhmkaaaDoor
open Go.RowKit
set_option linter.unusedVariables false
set_option linter.unusedSimpArgs false

theorem tmod3 (a : Int) : a % 3 = if a.tmod 3 < 0 then a.tmod 3 + 3 else a.tmod 3 := by
  rcases Int.lt_or_le a 0 with h | h
  · have e : a.tmod 3 = -((-a) % 3) := by
      rw [← Int.tmod_eq_emod_of_nonneg (show 0 ≤ -a by omega), Int.neg_tmod, Int.neg_neg]
    rw [e]
    split <;> omega
  · rw [Int.tmod_eq_emod_of_nonneg h]
    split <;> omega
set_option maxHeartbeats 400000 in
theorem pick3_any (a : Int) (w : World) :
    Calls Tryd.prog 19 #[.int .i64 a, .int .i64 3] w fun e w' => e = .returned (.int .i64 (a % 3)) ∧ w = w' := by
  obtain ⟨h1, h2, _⟩ := tmod_lo a 3 (by omega)
  have hm := tmod3 a
  by_cases h0 : a.tmod 3 < 0
  · rw [if_pos h0] at hm
    rw [hm]
    clear hm
    have s1 : IntKind.i64.wrap (a.tmod 3 + 3) = a.tmod 3 + 3 := IntWalk.i64_in _ (by omega)
    go_enter Tryd.func19, Tryd.ntmps19
    go_wp2
    go_ret
    exact ⟨rfl, rfl⟩
  · rw [if_neg h0] at hm
    rw [hm]
    clear hm
    go_enter Tryd.func19, Tryd.ntmps19
    go_wp2
    go_ret
    exact ⟨rfl, rfl⟩
/-- what is asked -/
structure Ask where
  what : Int
  kp : Option Addr
  kn : Nat
  kc : Nat
  key : Nat → BitVec 8
  p : Option Addr
  m : Nat
  c : Nat
  P : Nat → Option Addr
  ln : Nat → Nat
  C : Nat → Nat
  f : Nat → Nat → BitVec 8
  k : Int
def Ask.val (x : Ask) : Value := .agg #[.int .i64 x.what, .slice x.kp x.kn x.kc, .slice x.p x.m x.c, .int .i64 x.k]
/-- it lies in the world -/
structure Ask.lies (x : Ask) (w : World) : Prop where
  key : Reads w.heap.size w x.kp x.kn (fun j => .int .u8 (ub (x.key j)))
  kz : x.kp = none → x.kn = 0
  kn : x.kn ≤ 4294967295
  rows : RI w x.p x.m x.P x.ln x.C x.f
  mc : x.m ≤ x.c
  m : x.m ≤ 4294967295
  n : pos x.ln x.m ≤ 4294967295
  k : (Lit.int .i64 x.k).wf = true
theorem Ask.lies.below {x : Ask} {w W : World} (h : x.lies w) (g : Below w.heap.size w W) : x.lies W :=
  ⟨(h.key.below g).mono g.size, h.kz, h.kn, ⟨(h.rows.rows.below g).mono g.size, h.rows.cap, fun i hi => ((h.rows.row i hi).below g).mono g.size⟩, h.mc, h.m, h.n, h.k⟩
/-- all rows' bytes -/
noncomputable def Ask.all (x : Ask) : Nat → BitVec 8 := (joined_ex x.ln x.f x.m).choose
theorem Ask.all_at (x : Ask) : ∀ i, i < x.m → ∀ q, q < x.ln i → x.f i q = x.all (pos x.ln i + q) := (joined_ex x.ln x.f x.m).choose_spec
noncomputable def Ask.thing (x : Ask) : Thing :=
  if x.what % 3 = 0 then (0, [], byL x.all (pos x.ln x.m), 0) else if x.what % 3 = 1 then (1, byL x.key x.kn, byL x.all (pos x.ln x.m), 0) else (2, [], [], x.k)
/-- what lies there while a law asks a maker -/
structure AK (w : World) (mb B : Nat) (L : List Thing) (x : Ask) (W : World) : Prop where
  bel : Below w.heap.size w W
  mkr : MB W mb B false (.slice none 0 0)
  bk : BK W B L
  box : W.heap[w.heap.size]? = some (.cells #[.int .i64 x.what, .slice x.kp x.kn x.kc, .slice x.p x.m x.c, .int .i64 x.k] 26 (0, 0))
  tag : BT W (w.heap.size + 1) 32 (fun _ => 0#8)
set_option maxHeartbeats 1000000 in
set_option maxRecDepth 100000 in
theorem toldT_any (w : World) (mb B : Nat) (L : List Thing) (x : Ask) (h : MB w mb B false (.slice none 0 0)) (hk : BK w B L) (hL : L.length ≤ 1000000000000) (hx : x.lies w) :
    Calls Tryd.prog 7 #[.pointer (some ⟨mb, 0, none⟩), x.val] w fun e w' => e = .returned (tagV (numT (idx (addT L x.thing) x.thing))) ∧ w.grownBy w' (some B) ∧ BK w' B (addT L x.thing) := by
  have HX := Lib.hid hx
  have h0 : AK w mb B L x ((w.alloc (.cells #[.int .i64 x.what, .slice x.kp x.kn x.kc, .slice x.p x.m x.c, .int .i64 x.k] 26)).alloc (.cells (List.replicate 32 (Value.int .u8 0)).toArray 33)) := by
    have hb : Below w.heap.size w ((w.alloc (.cells #[.int .i64 x.what, .slice x.kp x.kn x.kc, .slice x.p x.m x.c, .int .i64 x.k] 26)).alloc (.cells (List.replicate 32 (Value.int .u8 0)).toArray 33)) := ((Below.refl _ _).alloc (Nat.le_refl _) _).alloc (by simp) _
    exact ⟨hb, h.below hb, hk.below hb, laid_old (laid_at rfl), BT.of_cells (laid_at (by simp)) (fun i hi => zero_atL 32 i hi)⟩
  have hap := h.apart hk
  have hBw := hk.lt
  have hmw := h.lt
  unfold Ask.val
  clear h hk hx
  obtain ⟨th, hth⟩ : ∃ t, t = x.thing := ⟨_, rfl⟩
  rw [← hth]
  obtain ⟨s, hs⟩ : ∃ s, s = numT (idx (addT L th) th) := ⟨_, rfl⟩
  obtain ⟨L2, hL2⟩ : ∃ l, l = addT L th := ⟨_, rfl⟩
  rw [← hs, ← hL2]
  rw [← hL2] at hs
  have HTH := Lib.hid hth
  have HS := Lib.hid hs
  have HL2 := Lib.hid hL2
  clear hth hs hL2
  go_enter Tryd.func7, Tryd.ntmps7
  go_upto_region 1 with (fail)
  refine forget_code (AK w mb B L x) h0 ?_
  intro W hW
  have HW := Lib.hid hW
  have c0 : W.cell? ⟨w.heap.size, 0, none⟩ = some (.int .i64 x.what) := by rw [cell_of_row W _ 0 _ _ (0, 0) hW.box]; rfl
  have c1 : W.cell? ⟨w.heap.size, 1, none⟩ = some (.slice x.kp x.kn x.kc) := by rw [cell_of_row W _ 1 _ _ (0, 0) hW.box]; rfl
  have c2 : W.cell? ⟨w.heap.size, 2, none⟩ = some (.slice x.p x.m x.c) := by rw [cell_of_row W _ 2 _ _ (0, 0) hW.box]; rfl
  have c3 : W.cell? ⟨w.heap.size, 3, none⟩ = some (.int .i64 x.k) := by rw [cell_of_row W _ 3 _ _ (0, 0) hW.box]; rfl
  have HXW := Lib.hid (HX.out.below hW.bel)
  have T0 := Lib.hid hW.tag
  have G0 := Lib.hid (below_gr hW.bel (some B))
  clear hW h0
  have hw3 : 0 ≤ x.what % 3 ∧ x.what % 3 < 3 := ⟨Int.emod_nonneg _ (by omega), Int.emod_lt_of_pos _ (by omega)⟩
  go_wp2_with fail
  refine (pick3_any x.what W).mono ?_
  rintro e w' ⟨rfl, rfl⟩
  obtain ⟨kd, hkd⟩ : ∃ kd, kd = x.what % 3 := ⟨_, rfl⟩
  rw [← hkd] at hw3 ⊢
  have HKD := Lib.hid hkd
  clear hkd
  by_cases k0 : kd = 0
  · subst k0
    have ht : th = (0, [], byL x.all (pos x.ln x.m), 0) := by rw [HTH.out]; unfold Ask.thing; rw [if_pos HKD.out.symm]
    have hc := sumM_any W mb B L HW.out.mkr HW.out.bk hL x.p x.m x.c x.P x.ln x.C x.f x.all HXW.out.rows HXW.out.mc HXW.out.m HXW.out.n x.all_at
    rw [← ht, ← HL2.out, ← HS.out] at hc
    clear ht hw3
    go_upto_region 3 with (fail)
    refine wp_region_lit ?_
    refine wpList_plain rfl (fun K hK => ?_)
    go_simp
    refine hK _ _ ?_
    clear hK K
    refine wpList_plain rfl (fun K hK => ?_)
    go_simp
    refine hK _ _ ?_
    clear hK K
    refine wpList_plain rfl (fun K hK => ?_)
    go_simp
    refine hK _ _ ?_
    clear hK K
    refine wpList_plain rfl (fun K hK => ?_)
    go_simp
    refine hc.mono ?_
    rintro e W5 ⟨rfl, g5, k5⟩
    dsimp only
    refine hK _ _ ?_
    clear hK K
    have t5 := T0.out.gr g5 (by omega)
    refine wpList_store_mid rfl 33 _ _ rfl (w.heap.size + 1) 0 (tagC s).toArray rfl rfl (by simpa [tagC_len] using t5.there 32 (Nat.le_refl _)) (by simp [infoTag, tagC_len]) (tagC_one _) ?_
    rw [List.toList_toArray]
    have HR5 := Lib.hid (World.rangeAt_setCells_same W5 (w.heap.size + 1) 0 (tagC s) (by rw [tagC_len]; exact t5.there 32 (Nat.le_refl _)))
    have gs := gr_setCells (hb := w.heap.size + 1) (tagC s) 0 W5
    have HG5 := Lib.hid (gr_new (G0.out.trans g5) gs (by omega))
    have HK5 := Lib.hid (k5.kept gs (by simp; omega))
    generalize W5.setCells (w.heap.size + 1) 0 (tagC s) = W7 at HR5 HG5 HK5 ⊢
    clear t5 g5 k5 gs
    show Exit.then _ _ Exit.normal _ W7
    go_wp2
    refine bodyPost_ret (v := tagV s) ?_ rfl ?_
    · exact results_cell_mid (p := 4) (ty := 33) rfl _ W7 (w.heap.size + 1) _ _ rfl HR5.out Tryd.underlying33 rfl (by simp [infoTag, tagC_len])
    · exact ⟨rfl, HG5.out, HK5.out⟩
  · by_cases k1 : kd = 1
    · subst k1
      have ht : th = (1, byL x.key x.kn, byL x.all (pos x.ln x.m), 0) := by rw [HTH.out]; unfold Ask.thing; rw [if_neg (by have := HKD.out; omega), if_pos HKD.out.symm]
      have hc := macM_any W mb B L HW.out.mkr HW.out.bk hL x.kp x.kn x.kc x.key HXW.out.key HXW.out.kz HXW.out.kn x.p x.m x.c x.P x.ln x.C x.f x.all HXW.out.rows HXW.out.mc HXW.out.m HXW.out.n x.all_at
      rw [← ht, ← HL2.out, ← HS.out] at hc
      clear ht hw3
      go_upto_region 5 with (fail)
      refine wp_region_lit ?_
      refine wpList_plain rfl (fun K hK => ?_)
      go_simp
      refine hK _ _ ?_
      clear hK K
      refine wpList_plain rfl (fun K hK => ?_)
      go_simp
      refine hK _ _ ?_
      clear hK K
      refine wpList_plain rfl (fun K hK => ?_)
      go_simp
      refine hK _ _ ?_
      clear hK K
      refine wpList_plain rfl (fun K hK => ?_)
      go_simp
      refine hK _ _ ?_
      clear hK K
      refine wpList_plain rfl (fun K hK => ?_)
      go_simp
      refine hK _ _ ?_
      clear hK K
      refine wpList_plain rfl (fun K hK => ?_)
      go_simp
      refine hc.mono ?_
      rintro e W5 ⟨rfl, g5, k5⟩
      dsimp only
      refine hK _ _ ?_
      clear hK K
      have t5 := T0.out.gr g5 (by omega)
      refine wpList_store_mid rfl 33 _ _ rfl (w.heap.size + 1) 0 (tagC s).toArray rfl rfl (by simpa [tagC_len] using t5.there 32 (Nat.le_refl _)) (by simp [infoTag, tagC_len]) (tagC_one _) ?_
      rw [List.toList_toArray]
      have HR5 := Lib.hid (World.rangeAt_setCells_same W5 (w.heap.size + 1) 0 (tagC s) (by rw [tagC_len]; exact t5.there 32 (Nat.le_refl _)))
      have gs := gr_setCells (hb := w.heap.size + 1) (tagC s) 0 W5
      have HG5 := Lib.hid (gr_new (G0.out.trans g5) gs (by omega))
      have HK5 := Lib.hid (k5.kept gs (by simp; omega))
      generalize W5.setCells (w.heap.size + 1) 0 (tagC s) = W7 at HR5 HG5 HK5 ⊢
      clear t5 g5 k5 gs
      show Exit.then _ _ Exit.normal _ W7
      go_wp2
      refine bodyPost_ret (v := tagV s) ?_ rfl ?_
      · exact results_cell_mid (p := 4) (ty := 33) rfl _ W7 (w.heap.size + 1) _ _ rfl HR5.out Tryd.underlying33 rfl (by simp [infoTag, tagC_len])
      · exact ⟨rfl, HG5.out, HK5.out⟩
    · have ht : th = (2, [], [], x.k) := by rw [HTH.out]; unfold Ask.thing; rw [if_neg (by have := HKD.out; omega), if_neg (by have := HKD.out; omega)]
      have hc := drawM_any W mb B L HW.out.mkr HW.out.bk hL x.k HXW.out.k
      rw [← ht, ← HL2.out, ← HS.out] at hc
      clear ht
      go_upto_region 6 with (fail)
      refine wp_region_lit ?_
      refine wpList_plain rfl (fun K hK => ?_)
      go_simp
      refine hK _ _ ?_
      clear hK K
      refine wpList_plain rfl (fun K hK => ?_)
      go_simp
      refine hK _ _ ?_
      clear hK K
      refine wpList_plain rfl (fun K hK => ?_)
      go_simp
      refine hK _ _ ?_
      clear hK K
      refine wpList_plain rfl (fun K hK => ?_)
      go_simp
      refine hc.mono ?_
      rintro e W5 ⟨rfl, g5, k5⟩
      dsimp only
      refine hK _ _ ?_
      clear hK K
      have t5 := T0.out.gr g5 (by omega)
      refine wpList_store_mid rfl 33 _ _ rfl (w.heap.size + 1) 0 (tagC s).toArray rfl rfl (by simpa [tagC_len] using t5.there 32 (Nat.le_refl _)) (by simp [infoTag, tagC_len]) (tagC_one _) ?_
      rw [List.toList_toArray]
      have HR5 := Lib.hid (World.rangeAt_setCells_same W5 (w.heap.size + 1) 0 (tagC s) (by rw [tagC_len]; exact t5.there 32 (Nat.le_refl _)))
      have gs := gr_setCells (hb := w.heap.size + 1) (tagC s) 0 W5
      have HG5 := Lib.hid (gr_new (G0.out.trans g5) gs (by omega))
      have HK5 := Lib.hid (k5.kept gs (by simp; omega))
      generalize W5.setCells (w.heap.size + 1) 0 (tagC s) = W7 at HR5 HG5 HK5 ⊢
      clear t5 g5 k5 gs
      show Exit.then _ _ Exit.normal _ W7
      go_wp2
      refine bodyPost_ret (v := tagV s) ?_ rfl ?_
      · exact results_cell_mid (p := 4) (ty := 33) rfl _ W7 (w.heap.size + 1) _ _ rfl HR5.out Tryd.underlying33 rfl (by simp [infoTag, tagC_len])
      · exact ⟨rfl, HG5.out, HK5.out⟩
end Go.Proofs.YtjflaeohkhmkaaaDoor

namespace Go.Proofs.YtjflaeohkhmkaaaDoor
open Go.RowKit
set_option linter.unusedVariables false
set_option linter.unusedSimpArgs false

end Go.Proofs.YtjflaeohkhmkaaaDoor

namespace Go.Proofs.YtjflaeohkhmkaaaDoor
open Go.RowKit
set_option linter.unusedVariables false
set_option linter.unusedSimpArgs false

/-- what is asked is small enough for the digest -/
structure Ask.small (x : Ask) : Prop where
  kc : x.kn ≤ x.kc ∧ x.kc ≤ maxLen
  kn : x.kn ≤ 2147483584
  c : x.c ≤ maxLen
  n : pos x.ln x.m ≤ 2147483584
end Go.Proofs.YtjflaeohkhmkaaaDoor

namespace Go.Proofs.YtjflaeohkhmkaaaDoor
open Go.RowKit
set_option linter.unusedVariables false
set_option linter.unusedSimpArgs false

def clone_ren : Go.Shelf.Ren := ⟨fun | 5 => 39 | 7 => 51 | n => n, fun | 4 => 4 | 20 => 20 | 23 => 43 | 25 => 57 | 3 => 3 | n => n, fun | n => n⟩
theorem clone_lays : Go.Proofs.SlLaysW.n5 Tryd.prog clone_ren := {
  mixed := by kernel_rfl
  f5 := ⟨"maps.Clone[map[zugzwang/tags.thing]int,zugzwang/tags.thing,int]", by decide, Tryd.func39.trans (congrArg some (by kernel_rfl))⟩
  f7 := Tryd.func51.trans (congrArg some (by kernel_rfl))
  t4 := Tryd.underlying4
  a4 := Tryd.isAgg4
  z4 := Tryd.sizeOf4
  v4 := Tryd.zeroValue4
  t20 := Tryd.underlying20
  a20 := Tryd.isAgg20
  z20 := Tryd.sizeOf20
  v20 := Tryd.zeroValue20
  t23 := Tryd.underlying43
  a23 := Tryd.isAgg43
  z23 := Tryd.sizeOf43
  v23 := Tryd.zeroValue43 }
set_option maxHeartbeats 400000 in
theorem cloneM_any (w : World) (B : Nat) (L : List Thing) (h : BK w B L) :
    Calls Tryd.prog 39 #[.map (some B)] w fun e w' => e = .returned (.map (some w.heap.size)) ∧ BK w' w.heap.size L ∧ Below w.heap.size w w' := by
  obtain ⟨D, h1, h2⟩ := h
  refine (AnyW.maps_Clone_owns clone_lays _ _ B _ D w h1).mono ?_
  rintro e w' ⟨rfl, h3, _, hb⟩
  exact ⟨rfl, ⟨D, h3, h2⟩, hb⟩
theorem infoBook : (Tryd.prog.info? 45).map (·.size) = some 1 := by kernel_rfl
set_option maxHeartbeats 400000 in
theorem copied_any (w : World) (B : Nat) (L : List Thing) (h : BK w B L) :
    Calls Tryd.prog 27 #[.agg #[.map (some B)]] w fun e w' => ∃ C, e = .returned (.agg #[.map (some C)]) ∧ w.heap.size ≤ C ∧ BK w' C L ∧ Below w.heap.size w w' := by
  have h2 : BK ((w.alloc (.cells #[.map (some B)] 45)).alloc (.cells #[.map none] 45)) B L := h.below (((Below.refl _ _).alloc (Nat.le_refl _) _).alloc (by simp) _)
  have HB := Lib.hid h2
  clear h h2
  go_enter Tryd.func27, Tryd.ntmps27
  go_wp2_with fail
  refine (cloneM_any _ B L HB.out).mono ?_
  rintro e w1 ⟨rfl, hk1, hb1⟩
  have hl : w1.heap[w.heap.size + 1]? = some (.cells #[.map none] 45 (0, 0)) := laid_go (laid_at (by simp)) hb1
  have c0 : w1.cell? ⟨w.heap.size + 1, 0, none⟩ = some (.map none) := by rw [cell_of_row w1 _ 0 _ _ (0, 0) hl]; rfl
  have fr : ∀ o, w1.frozen? ⟨w.heap.size + 1, o, none⟩ = false := fun o => frozen_of_row w1 _ o _ _ hl
  have h0 : Below w.heap.size w w1 := (((Below.refl _ _).alloc (Nat.le_refl _) _).alloc (by simp) _).trans (hb1.mono (by simp; omega))
  have gs := gr_setCell (hb := w.heap.size + 1) (i := 0) (w := w1) (.map (some (w.heap.size + 2)))
  have hz := hb1.size
  simp only [World.size_alloc] at hz hk1
  have HG := Lib.hid (h0.trans (gr_below gs (by omega) h0.size))
  have HK := Lib.hid (hk1.kept gs (by simp))
  have HL := Lib.hid (Go.heap_setCell_same w1 (w.heap.size + 1) 0 _ _ (.map (some (w.heap.size + 2))) hl)
  clear hb1 hk1 gs h0 hl HB
  go_wp2
  refine bodyPost_ret (v := .agg #[.map (some (w.heap.size + 2))]) ?_ rfl ⟨w.heap.size + 2, rfl, by omega, HK.out, HG.out⟩
  exact results_cell_row (p := 2) (ty := 45) rfl _ _ (w.heap.size + 1) 45 _ (0, 0) _ rfl HL.out Tryd.underlying45 rfl infoBook
set_option maxHeartbeats 1000000 in
set_option maxRecDepth 100000 in
theorem copyT_any (w : World) (mb B : Nat) (L : List Thing) (h : MB w mb B false (.slice none 0 0)) (hk : BK w B L) :
    Calls Tryd.prog 12 #[.pointer (some ⟨mb, 0, none⟩)] w fun e w' => ∃ m2 C, e = .returned (.pointer (some ⟨m2, 0, none⟩)) ∧ w.heap.size ≤ m2 ∧ w.heap.size ≤ C ∧ Below w.heap.size w w' ∧ MB w' m2 C false (.slice none 0 0) ∧ BK w' C L := by
  have H := Lib.hid h
  have H2 := Lib.hid (h.below (Below.refl _ _).drew)
  have HK2 := Lib.hid (hk.below (Below.refl _ _).drew)
  have HK := Lib.hid hk
  have c1 := h.c1
  have c2 := h.c2
  clear h hk
  go_enter Tryd.func12, Tryd.ntmps12
  go_wp2_with fail
  refine (noneM_any w mb B false _ H.out).mono ?_
  rintro e w' ⟨rfl, rfl⟩
  go_upto_region 3 with (fail)
  refine wp_region_noPanic ?_
  refine wp_region_start (n := 10) (l := #[false, false, false, false, false, false, false, false, false, false]) (S := (fun W => W.cell? ⟨mb, 1, none⟩ = some (.bool false) ∧ W.cell? ⟨mb, 2, none⟩ = some (.slice none 0 0))) (by kernel_rfl) rfl (by kernel_rfl) (by (first | exact ⟨(H2.out.below b1).c1, (H2.out.below b1).c2⟩ | exact ⟨c1, c2⟩)) (fun hHeld => ?_)
  refine take_to (i := 0) (d := some 6) (v := ?_) (l' := #[true, false, false, false, false, false, false, false, false, false]) rfl rfl (by kernel_rfl) (by kernel_rfl) (by kernel_rfl) (by kernel_rfl) (fun _ _ _ h => h) (Or.inl ⟨by rfl, ?_⟩) (by assumption) ?_; rotate_left; · (intro w' hSw; (try dsimp only at hSw); go_simp; (try with_reducible rfl))
  try simp only [Act.put, List.setIfInBounds_toArray, List.set_cons_zero, List.set_cons_succ]
  refine take_to (i := 1) (d := some 7) (v := ?_) (l' := #[true, true, false, false, false, false, false, false, false, false]) rfl rfl (by kernel_rfl) (by kernel_rfl) (by kernel_rfl) (by kernel_rfl) (fun _ _ _ h => h) (Or.inl ⟨by rfl, ?_⟩) (by assumption) ?_; rotate_left; · (intro w' hSw; (try dsimp only at hSw); go_simp; (try with_reducible rfl))
  try simp only [Act.put, List.setIfInBounds_toArray, List.set_cons_zero, List.set_cons_succ]
  refine take_to (i := 2) (d := some 8) (v := ?_) (l' := #[true, true, true, false, false, false, false, false, false, false]) rfl rfl (by kernel_rfl) (by kernel_rfl) (by kernel_rfl) (by kernel_rfl) (fun _ _ _ h => h) (Or.inl ⟨by rfl, ?_⟩) (by assumption) ?_; rotate_left; · (intro w' hSw; (try dsimp only at hSw); go_simp; (try with_reducible rfl))
  try simp only [Act.put, List.setIfInBounds_toArray, List.set_cons_zero, List.set_cons_succ]
  refine take_to (i := 3) (d := some 9) (v := ?_) (l' := #[true, true, true, true, false, false, false, false, false, false]) rfl rfl (by kernel_rfl) (by kernel_rfl) (by kernel_rfl) (by kernel_rfl) (fun _ _ _ h => h) (Or.inl ⟨by rfl, ?_⟩) (by assumption) ?_; rotate_left; · (intro w' hSw; (try dsimp only at hSw); go_simp; (try with_reducible rfl))
  try simp only [Act.put, List.setIfInBounds_toArray, List.set_cons_zero, List.set_cons_succ]
  refine take_to (i := 4) (d := some 10) (v := ?_) (l' := #[true, true, true, true, true, false, false, false, false, false]) rfl rfl (by kernel_rfl) (by kernel_rfl) (by kernel_rfl) (by kernel_rfl) (fun _ _ _ h => h) (Or.inl ⟨by rfl, ?_⟩) (by assumption) ?_; rotate_left; · (intro w' hSw; (try dsimp only at hSw); go_simp; (try with_reducible rfl))
  try simp only [Act.put, List.setIfInBounds_toArray, List.set_cons_zero, List.set_cons_succ]
  refine take_to (i := 5) (d := some 11) (v := ?_) (l' := #[true, true, true, true, true, true, false, false, false, false]) rfl rfl (by kernel_rfl) (by kernel_rfl) (by kernel_rfl) (by kernel_rfl) (fun _ _ _ h => h) (Or.inl ⟨by rfl, ?_⟩) (by assumption) ?_; rotate_left; · (intro w' hSw; (try dsimp only at hSw); go_simp; (try with_reducible rfl))
  try simp only [Act.put, List.setIfInBounds_toArray, List.set_cons_zero, List.set_cons_succ]
  refine take_to (i := 6) (d := some 12) (v := ?_) (l' := #[true, true, true, true, true, true, true, false, false, false]) rfl rfl (by kernel_rfl) (by kernel_rfl) (by kernel_rfl) (by kernel_rfl) (fun _ _ _ h => h) (Or.inl ⟨by rfl, ?_⟩) (by assumption) ?_; rotate_left; · (intro w' hSw; (try dsimp only at hSw); go_simp; (try with_reducible rfl))
  try simp only [Act.put, List.setIfInBounds_toArray, List.set_cons_zero, List.set_cons_succ]
  refine take_to (i := 7) (d := some 13) (v := ?_) (l' := #[true, true, true, true, true, true, true, true, false, false]) rfl rfl (by kernel_rfl) (by kernel_rfl) (by kernel_rfl) (by kernel_rfl) (fun _ _ _ h => h) (Or.inl ⟨by rfl, ?_⟩) (by assumption) ?_; rotate_left; · (intro w' hSw; (try dsimp only at hSw); go_simp; (try with_reducible rfl))
  try simp only [Act.put, List.setIfInBounds_toArray, List.set_cons_zero, List.set_cons_succ]
  refine one_to (i := 8) (l' := #[true, true, true, true, true, true, true, true, true, false]) rfl (by kernel_rfl) (by kernel_rfl) (fun K hK => ?_)
  go_simp
  refine (newT_any w.drew (.slice none 0 0)).mono ?_
  rintro e w1 ⟨m2, C0, rfl, g1, g2, b1, M1, K1⟩
  dsimp only
  refine hK.out _ _ (by (first | exact ⟨(H2.out.below b1).c1, (H2.out.below b1).c2⟩ | exact ⟨c1, c2⟩)) (fun hHeld => ?_)
  clear hK K
  try simp only [Act.put, List.setIfInBounds_toArray, List.set_cons_zero, List.set_cons_succ]
  refine take_to (i := 9) (d := some 3) (v := ?_) (l' := #[true, true, true, true, true, true, true, true, true, true]) rfl rfl (by kernel_rfl) (by kernel_rfl) (by kernel_rfl) (by kernel_rfl) (fun _ _ _ h => h) (Or.inl ⟨by rfl, ?_⟩) (by assumption) ?_; rotate_left; · (intro w' hSw; (try dsimp only at hSw); go_simp; (try with_reducible rfl))
  try simp only [Act.put, List.setIfInBounds_toArray, List.set_cons_zero, List.set_cons_succ]
  refine wpAnyH_done (by kernel_rfl) ?_ _
  refine NoPanic.normal ?_
  clear hHeld
  have HB1 := Lib.hid b1
  have HM1 := Lib.hid M1
  have hbk := HK2.out.below b1
  have d0 := (H2.out.below b1).c0
  have HHB := Lib.hid hbk
  clear b1 M1 K1 c1 c2 hbk
  go_wp2_with fail
  refine (copied_any w1 B L HHB.out).mono ?_
  rintro e w2 ⟨C, rfl, hC, hk2, hb2⟩
  have m2b := HM1.out.below hb2
  have e0 := m2b.c0
  have fr : ∀ o, w2.frozen? ⟨m2, o, none⟩ = false := fun o => frozen_of_row w2 _ o _ _ m2b
  have gs := gr_setCell (hb := m2) (i := 0) (w := w2) (.map (some C))
  have hmlt := HM1.out.lt
  have hz2 := hb2.size
  have hz1 := HB1.out.size
  simp only [World.size_drew] at hz1 g1 g2
  have HG := Lib.hid ((Below.refl w.heap.size w).drew.trans ((HB1.out.trans (hb2.mono HB1.out.size)).trans (gr_below gs g1 (Nat.le_trans HB1.out.size hb2.size))))
  have HKK := Lib.hid (hk2.kept gs (by simp; omega))
  have HMM := Lib.hid (Go.heap_setCell_same w2 m2 0 _ _ (.map (some C)) m2b)
  clear hb2 hk2 m2b gs HB1 HM1 HHB HK HK2 H H2
  go_wp2
  go_ret
  exact ⟨m2, C, rfl, g1, by omega, HG.out, HMM.out, HKK.out⟩
end Go.Proofs.YtjflaeohkhmkaaaDoor

namespace Go.Proofs.YtjflaeohkhmkaaaDoor
open Go.RowKit
set_option linter.unusedVariables false
set_option linter.unusedSimpArgs false

/-- a row of asks -/
def AskRow (B : Nat) (w : World) (p : Option Addr) (m : Nat) (X : Nat → Ask) : Prop :=
  m = 0 ∨ ∃ b off, p = some ⟨b, off, none⟩ ∧ b < B ∧ ∀ i, i < m → w.cell? ⟨b, off + i * 4, none⟩ = some (.int .i64 (X i).what) ∧ w.cell? ⟨b, off + i * 4 + 1, none⟩ = some (.slice (X i).kp (X i).kn (X i).kc) ∧
    w.cell? ⟨b, off + i * 4 + 2, none⟩ = some (.slice (X i).p (X i).m (X i).c) ∧ w.cell? ⟨b, off + i * 4 + 3, none⟩ = some (.int .i64 (X i).k)
theorem AskRow.below {B : Nat} {w w' : World} {p : Option Addr} {m : Nat} {X : Nat → Ask} (h : AskRow B w p m X) (hb : Below B w w') : AskRow B w' p m X := by
  rcases h with h | ⟨b, off, h1, h2, h3⟩
  · exact .inl h
  · refine .inr ⟨b, off, h1, h2, fun i hi => ?_⟩
    obtain ⟨c0, c1, c2, c3⟩ := h3 i hi
    exact ⟨(hb.cell (p := ⟨b, off + i * 4, none⟩) h2).trans c0, (hb.cell (p := ⟨b, off + i * 4 + 1, none⟩) h2).trans c1, (hb.cell (p := ⟨b, off + i * 4 + 2, none⟩) h2).trans c2, (hb.cell (p := ⟨b, off + i * 4 + 3, none⟩) h2).trans c3⟩
theorem AskRow.mono {B B' : Nat} {w : World} {p : Option Addr} {m : Nat} {X : Nat → Ask} (h : AskRow B w p m X) (hB : B ≤ B') : AskRow B' w p m X := by
  rcases h with h | ⟨b, off, h1, h2, h3⟩
  · exact .inl h
  · exact .inr ⟨b, off, h1, Nat.lt_of_lt_of_le h2 hB, h3⟩
def Ask.tot (x : Ask) : Nat := x.kn + x.m + pos x.ln x.m
def totA (X : Nat → Ask) : Nat → Nat
  | 0 => 0
  | k + 1 => totA X k + (X k).tot
/-- what is asked is not longer than the machine bears -/
structure Ask.fits (x : Ask) (B : Nat) (w : World) : Prop where
  kn : x.kn ≤ 140737488351232
  m : x.m ≤ 5864062014634
  ln : ∀ i, i < x.m → x.ln i ≤ 140737488351232
  rows : Reads B w x.p x.m (fun i => .slice (x.P i) (x.ln i) (x.C i))
theorem Ask.fits.below {x : Ask} {B : Nat} {w w' : World} (h : x.fits B w) (hb : Below B w w') : x.fits B w' := ⟨h.kn, h.m, h.ln, h.rows.below hb⟩
set_option maxHeartbeats 4000000 in
set_option maxRecDepth 100000 in
theorem size04_any (w : World) (p : Option Addr) (m c : Nat) (X : Nat → Ask) (hm : m ≤ 5864062014634) (hr : AskRow w.heap.size w p m X) (hf : ∀ i, i < m → (X i).fits w.heap.size w) :
    Calls Tryd.prog 5 #[.slice p m c] w fun e w' => ∃ x : Nat, e = .returned (.int .i64 (x : Int)) ∧ (x ≤ 400 → x = m + totA X m) ∧ x ≤ 844424930107392 ∧ Below w.heap.size w w' := by
  have HR := Lib.hid hr
  have HF := Lib.hid hf
  clear hr hf
  go_enter Tryd.func5, Tryd.ntmps5
  go_wp2
  go_loopw [3, 4] (fun nv iv wr => ∃ k x : Nat, k ≤ m ∧ iv = .int .i64 (k : Int) ∧ nv = .int .i64 (x : Int) ∧ (x ≤ 400 → x = m + totA X k) ∧ x ≤ 844424930107392 ∧ Below w.heap.size w wr) (fun _ iv _ => m - (intOf iv).toNat)
  case atStart => exact ⟨0, m, Nat.zero_le _, rfl, rfl, fun _ => by simp [totA], by omega, Below.refl _ _⟩
  case round =>
    obtain ⟨k, x, hk, rfl, rfl, hx, hxb, hbk⟩ := hrel
    have HX := Lib.hid hx
    have HBK := Lib.hid hbk
    clear hx hbk
    by_cases hlt : k < m
    · by_cases h400 : (x : Int) ≤ 400
      · rcases HR.out.below HBK.out with h0 | ⟨b, off, rfl, hbb, hcc⟩
        · omega
        obtain ⟨_, c1, c2, _⟩ := hcc k hlt
        have hfk := HF.out k hlt
        have b1 := hfk.kn
        have b2 := hfk.m
        have HFK := Lib.hid hfk
        clear hcc hfk
        obtain ⟨kp, hkp⟩ : ∃ y, (X k).kp = y := ⟨_, rfl⟩
        obtain ⟨kn, hkn⟩ : ∃ y, (X k).kn = y := ⟨_, rfl⟩
        obtain ⟨kc, hkc⟩ : ∃ y, (X k).kc = y := ⟨_, rfl⟩
        obtain ⟨rp, hrp⟩ : ∃ y, (X k).p = y := ⟨_, rfl⟩
        obtain ⟨rm, hrm⟩ : ∃ y, (X k).m = y := ⟨_, rfl⟩
        obtain ⟨rc, hrc⟩ : ∃ y, (X k).c = y := ⟨_, rfl⟩
        rw [hkp, hkn, hkc] at c1
        rw [hrp, hrm, hrc] at c2
        rw [hkn] at b1
        rw [hrm] at b2
        have HTK := Lib.hid (show totA X (k + 1) = totA X k + (kn + rm + pos (X k).ln rm) from by show totA X k + (X k).tot = _; unfold Ask.tot; rw [hkn, hrm])
        have HRW := Lib.hid (show Reads w.heap.size w rp rm (fun i => .slice ((X k).P i) ((X k).ln i) ((X k).C i)) from by rw [← hrp, ← hrm]; exact HFK.out.rows)
        have HLN := Lib.hid (show ∀ i, i < rm → (X k).ln i ≤ 140737488351232 from by rw [← hrm]; exact HFK.out.ln)
        have hx2 := HX.out (by omega)
        have HX2 := Lib.hid hx2
        clear hkp hkn hkc hrp hrm hrc HFK hx2
        go_wp2
        go_region
        go_wp2
        obtain ⟨wo, hwo⟩ : ∃ wo : World, wo = wr := ⟨_, rfl⟩
        subst hwo
        go_loopw [3, 5] (fun nv jv wr => ∃ j y : Nat, j ≤ rm ∧ jv = .int .i64 (j : Int) ∧ nv = .int .i64 (y : Int) ∧ (y ≤ 400 → y = x + kn + rm + pos (X k).ln j) ∧ y ≤ 844424930107392 ∧ Below w.heap.size w wr ∧ wr.cell? ⟨b, off + k * 4 + 2, none⟩ = some (.slice rp rm rc)) (fun _ jv _ => rm - (intOf jv).toNat)
        case atStart => exact ⟨0, x + kn + rm, Nat.zero_le _, rfl, by push_cast; rfl, fun _ => by simp [pos], by omega, HBK.out.drew, c2⟩
        case round =>
          clear HBK c1 c2
          obtain ⟨j, y, hj, rfl, rfl, hy, hyb, hbj, c2⟩ := hrel
          have HY := Lib.hid hy
          have HBJ := Lib.hid hbj
          clear hy hbj
          by_cases hjl : j < rm
          · by_cases hy4 : (y : Int) ≤ 400
            · rcases HRW.out.below HBJ.out with h0 | ⟨b3, off3, rfl, hbb3, hc3⟩
              · omega
              have c3 : wr.cell? ⟨b3, off3 + j, none⟩ = some (.slice ((X k).P j) ((X k).ln j) ((X k).C j)) := hc3 j hjl
              have hl1 := HLN.out j hjl
              clear hc3
              go_wp2
              go_roundw
              case rel => exact ⟨j + 1, y + (X k).ln j, by omega, by go_num, by go_num, fun h => by simp only [pos]; have := HY.out (by omega); omega, by omega, HBJ.out, c2⟩
              case measure => simp [intOf]; omega
            · have hdd : decide ((y : Int) ≤ 400) = false := by simp; omega
              go_wp2
              go_roundw
              case rel => exact ⟨k + 1, y, by omega, by go_num, rfl, fun h => by omega, hyb, HBJ.out⟩
              case measure => simp [intOf]; omega
          · obtain rfl : j = rm := by omega
            by_cases hy4 : (y : Int) ≤ 400
            all_goals
              go_wp2
              go_roundw
              case rel => exact ⟨k + 1, y, by omega, by go_num, rfl, fun h => by have h1 := HY.out h; have h2 := HX2.out; have h3 := HTK.out; omega, hyb, HBJ.out⟩
              case measure => simp [intOf]; omega
      · go_wp2
        go_ret
        exact ⟨x, rfl, fun h => by omega, hxb, HBK.out⟩
    · obtain rfl : k = m := by omega
      by_cases h400 : (x : Int) ≤ 400
      all_goals
        go_wp2
        go_ret
        exact ⟨x, rfl, HX.out, hxb, HBK.out⟩
end Go.Proofs.YtjflaeohkhmkaaaDoor
