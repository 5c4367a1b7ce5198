/-
  What is asked of a maker, and what a table tells.
-/
import Derived.Test.YtejknkgbkkdaiaaGreatDoorAwakeT
namespace Go.Proofs.YtejknkgbkkdaiaaGreatDoor
open Go.RowKit
set_option linter.unusedVariables false
set_option linter.unusedSimpArgs false

theorem tmod3 (a : Int) : a % 3 = if a.tmod 3 < 0 then a.tmod 3 + 3 else a.tmod 3 := by
  rcases Int.lt_or_le a 0 with h | h
  · have e : a.tmod 3 = -((-a) % 3) := by
      rw [← Int.tmod_eq_emod_of_nonneg (show 0 ≤ -a by omega), Int.neg_tmod, Int.neg_neg]
    rw [e]
    split <;> omega
  · rw [Int.tmod_eq_emod_of_nonneg h]
    split <;> omega
set_option maxHeartbeats 400000 in
theorem pick3_any (a : Int) (w : World) :
    Calls Tryz.prog 26 #[.int .i64 a, .int .i64 3] w fun e w' => e = .returned (.int .i64 (a % 3)) ∧ w = w' := by
  obtain ⟨h1, h2, _⟩ := tmod_lo a 3 (by omega)
  have hm := tmod3 a
  by_cases h0 : a.tmod 3 < 0
  · rw [if_pos h0] at hm
    rw [hm]
    clear hm
    have s1 : IntKind.i64.wrap (a.tmod 3 + 3) = a.tmod 3 + 3 := IntWalk.i64_in _ (by omega)
    go_enter Tryz.func26, Tryz.ntmps26
    go_wp2
    go_ret
    exact ⟨rfl, rfl⟩
  · rw [if_neg h0] at hm
    rw [hm]
    clear hm
    go_enter Tryz.func26, Tryz.ntmps26
    go_wp2
    go_ret
    exact ⟨rfl, rfl⟩
/-- what is asked -/
structure Ask where
  what : Int
  kp : Option Addr
  kn : Nat
  kc : Nat
  key : Nat → BitVec 8
  p : Option Addr
  m : Nat
  c : Nat
  P : Nat → Option Addr
  ln : Nat → Nat
  C : Nat → Nat
  f : Nat → Nat → BitVec 8
  k : Int
def Ask.val (x : Ask) : Value := .agg #[.int .i64 x.what, .slice x.kp x.kn x.kc, .slice x.p x.m x.c, .int .i64 x.k]
/-- it lies in the world -/
structure Ask.lies (x : Ask) (w : World) : Prop where
  key : Reads w.heap.size w x.kp x.kn (fun j => .int .u8 (ub (x.key j)))
  kz : x.kp = none → x.kn = 0
  kn : x.kn ≤ 4294967295
  rows : RI w x.p x.m x.P x.ln x.C x.f
  mc : x.m ≤ x.c
  m : x.m ≤ 4294967295
  n : pos x.ln x.m ≤ 4294967295
  k : (Lit.int .i64 x.k).wf = true
theorem Ask.lies.below {x : Ask} {w W : World} (h : x.lies w) (g : Below w.heap.size w W) : x.lies W :=
  ⟨(h.key.below g).mono g.size, h.kz, h.kn, ⟨(h.rows.rows.below g).mono g.size, h.rows.cap, fun i hi => ((h.rows.row i hi).below g).mono g.size⟩, h.mc, h.m, h.n, h.k⟩
/-- all rows' bytes -/
noncomputable def Ask.all (x : Ask) : Nat → BitVec 8 := (joined_ex x.ln x.f x.m).choose
theorem Ask.all_at (x : Ask) : ∀ i, i < x.m → ∀ q, q < x.ln i → x.f i q = x.all (pos x.ln i + q) := (joined_ex x.ln x.f x.m).choose_spec
noncomputable def Ask.thing (x : Ask) : Thing :=
  if x.what % 3 = 0 then (0, [], byL x.all (pos x.ln x.m), 0) else if x.what % 3 = 1 then (1, byL x.key x.kn, byL x.all (pos x.ln x.m), 0) else (2, [], [], x.k)
/-- what lies there while a law asks a maker -/
structure AK (w : World) (mb B : Nat) (L : List Thing) (x : Ask) (W : World) : Prop where
  bel : Below w.heap.size w W
  mkr : MB W mb B false (.slice none 0 0)
  bk : BK W B L
  box : W.heap[w.heap.size]? = some (.cells #[.int .i64 x.what, .slice x.kp x.kn x.kc, .slice x.p x.m x.c, .int .i64 x.k] 38 (0, 0))
  tag : BT W (w.heap.size + 1) 32 (fun _ => 0#8)
set_option maxHeartbeats 1000000 in
set_option maxRecDepth 100000 in
theorem toldT_any (w : World) (mb B : Nat) (L : List Thing) (x : Ask) (h : MB w mb B false (.slice none 0 0)) (hk : BK w B L) (hL : L.length ≤ 1000000000000) (hx : x.lies w) :
    Calls Tryz.prog 10 #[.pointer (some ⟨mb, 0, none⟩), x.val] w fun e w' => e = .returned (tagV (numT (idx (addT L x.thing) x.thing))) ∧ w.grownBy w' (some B) ∧ BK w' B (addT L x.thing) := by
  have HX := Lib.hid hx
  have h0 : AK w mb B L x ((w.alloc (.cells #[.int .i64 x.what, .slice x.kp x.kn x.kc, .slice x.p x.m x.c, .int .i64 x.k] 38)).alloc (.cells (List.replicate 32 (Value.int .u8 0)).toArray 25)) := by
    have hb : Below w.heap.size w ((w.alloc (.cells #[.int .i64 x.what, .slice x.kp x.kn x.kc, .slice x.p x.m x.c, .int .i64 x.k] 38)).alloc (.cells (List.replicate 32 (Value.int .u8 0)).toArray 25)) := ((Below.refl _ _).alloc (Nat.le_refl _) _).alloc (by simp) _
    exact ⟨hb, h.below hb, hk.below hb, laid_old (laid_at rfl), BT.of_cells (laid_at (by simp)) (fun i hi => zero_atL 32 i hi)⟩
  have hap := h.apart hk
  have hBw := hk.lt
  have hmw := h.lt
  unfold Ask.val
  clear h hk hx
  obtain ⟨th, hth⟩ : ∃ t, t = x.thing := ⟨_, rfl⟩
  rw [← hth]
  obtain ⟨s, hs⟩ : ∃ s, s = numT (idx (addT L th) th) := ⟨_, rfl⟩
  obtain ⟨L2, hL2⟩ : ∃ l, l = addT L th := ⟨_, rfl⟩
  rw [← hs, ← hL2]
  rw [← hL2] at hs
  have HTH := Lib.hid hth
  have HS := Lib.hid hs
  have HL2 := Lib.hid hL2
  clear hth hs hL2
  go_enter Tryz.func10, Tryz.ntmps10
  go_upto_region 1 with (fail)
  refine forget_code (AK w mb B L x) h0 ?_
  intro W hW
  have HW := Lib.hid hW
  have c0 : W.cell? ⟨w.heap.size, 0, none⟩ = some (.int .i64 x.what) := by rw [cell_of_row W _ 0 _ _ (0, 0) hW.box]; rfl
  have c1 : W.cell? ⟨w.heap.size, 1, none⟩ = some (.slice x.kp x.kn x.kc) := by rw [cell_of_row W _ 1 _ _ (0, 0) hW.box]; rfl
  have c2 : W.cell? ⟨w.heap.size, 2, none⟩ = some (.slice x.p x.m x.c) := by rw [cell_of_row W _ 2 _ _ (0, 0) hW.box]; rfl
  have c3 : W.cell? ⟨w.heap.size, 3, none⟩ = some (.int .i64 x.k) := by rw [cell_of_row W _ 3 _ _ (0, 0) hW.box]; rfl
  have HXW := Lib.hid (HX.out.below hW.bel)
  have T0 := Lib.hid hW.tag
  have G0 := Lib.hid (below_gr hW.bel (some B))
  clear hW h0
  have hw3 : 0 ≤ x.what % 3 ∧ x.what % 3 < 3 := ⟨Int.emod_nonneg _ (by omega), Int.emod_lt_of_pos _ (by omega)⟩
  go_wp2_with fail
  refine (pick3_any x.what W).mono ?_
  rintro e w' ⟨rfl, rfl⟩
  obtain ⟨kd, hkd⟩ : ∃ kd, kd = x.what % 3 := ⟨_, rfl⟩
  rw [← hkd] at hw3 ⊢
  have HKD := Lib.hid hkd
  clear hkd
  by_cases k0 : kd = 0
  · subst k0
    have ht : th = (0, [], byL x.all (pos x.ln x.m), 0) := by rw [HTH.out]; unfold Ask.thing; rw [if_pos HKD.out.symm]
    have hc := sumM_any W mb B L HW.out.mkr HW.out.bk hL x.p x.m x.c x.P x.ln x.C x.f x.all HXW.out.rows HXW.out.mc HXW.out.m HXW.out.n x.all_at
    rw [← ht, ← HL2.out, ← HS.out] at hc
    clear ht hw3
    go_upto_region 3 with (fail)
    refine wp_region_lit ?_
    refine wpList_plain rfl (fun K hK => ?_)
    go_simp
    refine hK _ _ ?_
    clear hK K
    refine wpList_plain rfl (fun K hK => ?_)
    go_simp
    refine hK _ _ ?_
    clear hK K
    refine wpList_plain rfl (fun K hK => ?_)
    go_simp
    refine hK _ _ ?_
    clear hK K
    refine wpList_plain rfl (fun K hK => ?_)
    go_simp
    refine hc.mono ?_
    rintro e W5 ⟨rfl, g5, k5⟩
    dsimp only
    refine hK _ _ ?_
    clear hK K
    have t5 := T0.out.gr g5 (by omega)
    refine wpList_store_mid rfl 25 _ _ rfl (w.heap.size + 1) 0 (tagC s).toArray rfl rfl (by simpa [tagC_len] using t5.there 32 (Nat.le_refl _)) (by simp [infoTag, tagC_len]) (tagC_one _) ?_
    rw [List.toList_toArray]
    have HR5 := Lib.hid (World.rangeAt_setCells_same W5 (w.heap.size + 1) 0 (tagC s) (by rw [tagC_len]; exact t5.there 32 (Nat.le_refl _)))
    have gs := gr_setCells (hb := w.heap.size + 1) (tagC s) 0 W5
    have HG5 := Lib.hid (gr_new (G0.out.trans g5) gs (by omega))
    have HK5 := Lib.hid (k5.kept gs (by simp; omega))
    generalize W5.setCells (w.heap.size + 1) 0 (tagC s) = W7 at HR5 HG5 HK5 ⊢
    clear t5 g5 k5 gs
    show Exit.then _ _ Exit.normal _ W7
    go_wp2
    refine bodyPost_ret (v := tagV s) ?_ rfl ?_
    · exact results_cell_mid (p := 4) (ty := 25) rfl _ W7 (w.heap.size + 1) _ _ rfl HR5.out Tryz.underlying25 rfl (by simp [infoTag, tagC_len])
    · exact ⟨rfl, HG5.out, HK5.out⟩
  · by_cases k1 : kd = 1
    · subst k1
      have ht : th = (1, byL x.key x.kn, byL x.all (pos x.ln x.m), 0) := by rw [HTH.out]; unfold Ask.thing; rw [if_neg (by have := HKD.out; omega), if_pos HKD.out.symm]
      have hc := macM_any W mb B L HW.out.mkr HW.out.bk hL x.kp x.kn x.kc x.key HXW.out.key HXW.out.kz HXW.out.kn x.p x.m x.c x.P x.ln x.C x.f x.all HXW.out.rows HXW.out.mc HXW.out.m HXW.out.n x.all_at
      rw [← ht, ← HL2.out, ← HS.out] at hc
      clear ht hw3
      go_upto_region 5 with (fail)
      refine wp_region_lit ?_
      refine wpList_plain rfl (fun K hK => ?_)
      go_simp
      refine hK _ _ ?_
      clear hK K
      refine wpList_plain rfl (fun K hK => ?_)
      go_simp
      refine hK _ _ ?_
      clear hK K
      refine wpList_plain rfl (fun K hK => ?_)
      go_simp
      refine hK _ _ ?_
      clear hK K
      refine wpList_plain rfl (fun K hK => ?_)
      go_simp
      refine hK _ _ ?_
      clear hK K
      refine wpList_plain rfl (fun K hK => ?_)
      go_simp
      refine hK _ _ ?_
      clear hK K
      refine wpList_plain rfl (fun K hK => ?_)
      go_simp
      refine hc.mono ?_
      rintro e W5 ⟨rfl, g5, k5⟩
      dsimp only
      refine hK _ _ ?_
      clear hK K
      have t5 := T0.out.gr g5 (by omega)
      refine wpList_store_mid rfl 25 _ _ rfl (w.heap.size + 1) 0 (tagC s).toArray rfl rfl (by simpa [tagC_len] using t5.there 32 (Nat.le_refl _)) (by simp [infoTag, tagC_len]) (tagC_one _) ?_
      rw [List.toList_toArray]
      have HR5 := Lib.hid (World.rangeAt_setCells_same W5 (w.heap.size + 1) 0 (tagC s) (by rw [tagC_len]; exact t5.there 32 (Nat.le_refl _)))
      have gs := gr_setCells (hb := w.heap.size + 1) (tagC s) 0 W5
      have HG5 := Lib.hid (gr_new (G0.out.trans g5) gs (by omega))
      have HK5 := Lib.hid (k5.kept gs (by simp; omega))
      generalize W5.setCells (w.heap.size + 1) 0 (tagC s) = W7 at HR5 HG5 HK5 ⊢
      clear t5 g5 k5 gs
      show Exit.then _ _ Exit.normal _ W7
      go_wp2
      refine bodyPost_ret (v := tagV s) ?_ rfl ?_
      · exact results_cell_mid (p := 4) (ty := 25) rfl _ W7 (w.heap.size + 1) _ _ rfl HR5.out Tryz.underlying25 rfl (by simp [infoTag, tagC_len])
      · exact ⟨rfl, HG5.out, HK5.out⟩
    · have ht : th = (2, [], [], x.k) := by rw [HTH.out]; unfold Ask.thing; rw [if_neg (by have := HKD.out; omega), if_neg (by have := HKD.out; omega)]
      have hc := drawM_any W mb B L HW.out.mkr HW.out.bk hL x.k HXW.out.k
      rw [← ht, ← HL2.out, ← HS.out] at hc
      clear ht
      go_upto_region 6 with (fail)
      refine wp_region_lit ?_
      refine wpList_plain rfl (fun K hK => ?_)
      go_simp
      refine hK _ _ ?_
      clear hK K
      refine wpList_plain rfl (fun K hK => ?_)
      go_simp
      refine hK _ _ ?_
      clear hK K
      refine wpList_plain rfl (fun K hK => ?_)
      go_simp
      refine hK _ _ ?_
      clear hK K
      refine wpList_plain rfl (fun K hK => ?_)
      go_simp
      refine hc.mono ?_
      rintro e W5 ⟨rfl, g5, k5⟩
      dsimp only
      refine hK _ _ ?_
      clear hK K
      have t5 := T0.out.gr g5 (by omega)
      refine wpList_store_mid rfl 25 _ _ rfl (w.heap.size + 1) 0 (tagC s).toArray rfl rfl (by simpa [tagC_len] using t5.there 32 (Nat.le_refl _)) (by simp [infoTag, tagC_len]) (tagC_one _) ?_
      rw [List.toList_toArray]
      have HR5 := Lib.hid (World.rangeAt_setCells_same W5 (w.heap.size + 1) 0 (tagC s) (by rw [tagC_len]; exact t5.there 32 (Nat.le_refl _)))
      have gs := gr_setCells (hb := w.heap.size + 1) (tagC s) 0 W5
      have HG5 := Lib.hid (gr_new (G0.out.trans g5) gs (by omega))
      have HK5 := Lib.hid (k5.kept gs (by simp; omega))
      generalize W5.setCells (w.heap.size + 1) 0 (tagC s) = W7 at HR5 HG5 HK5 ⊢
      clear t5 g5 k5 gs
      show Exit.then _ _ Exit.normal _ W7
      go_wp2
      refine bodyPost_ret (v := tagV s) ?_ rfl ?_
      · exact results_cell_mid (p := 4) (ty := 25) rfl _ W7 (w.heap.size + 1) _ _ rfl HR5.out Tryz.underlying25 rfl (by simp [infoTag, tagC_len])
      · exact ⟨rfl, HG5.out, HK5.out⟩
end Go.Proofs.YtejknkgbkkdaiaaGreatDoor
