/-
  What is asked of a real maker.
-/
import Derived.Test.YtoocfkaclhgjeaaDoorReal
namespace Go.Proofs.YtoocfkaclhgjeaaDoor
open Go.RowKit
set_option linter.unusedVariables false
set_option linter.unusedSimpArgs false

/-- what is asked is small enough for the digest -/
structure Ask.small (x : Ask) : Prop where
  kc : x.kn ≤ x.kc ∧ x.kc ≤ maxLen
  kn : x.kn ≤ 2147483584
  c : x.c ≤ maxLen
  n : pos x.ln x.m ≤ 2147483584
/-- the bytes of a draw -/
def drwG (sd : Nat → BitVec 8) (sm N : Nat) : Nat → BitVec 8 := fun j => if j < 4 then drwT j else if j < 4 + sm then sd (j - 4) else oct N (j - (4 + sm))
/-- a real maker's answer -/
noncomputable def Ask.real (x : Ask) (sd : Nat → BitVec 8) (sm : Nat) : Nat → BitVec 8 :=
  if x.what % 3 = 0 then sha x.all (pos x.ln x.m) else if x.what % 3 = 1 then hmac x.key x.kn x.all (pos x.ln x.m) else sha (drwG sd sm (IntKind.u64.wrap x.k).toNat) (4 + sm + 8)
structure AR (w : World) (mb B : Nat) (v : Value) (x : Ask) (W : World) : Prop where
  bel : Below w.heap.size w W
  mkr : MB W mb B true v
  box : W.heap[w.heap.size]? = some (.cells #[.int .i64 x.what, .slice x.kp x.kn x.kc, .slice x.p x.m x.c, .int .i64 x.k] 26 (0, 0))
  tag : BT W (w.heap.size + 1) 32 (fun _ => 0#8)
set_option maxHeartbeats 1000000 in
set_option maxRecDepth 100000 in
theorem toldR_any (w : World) (mb B : Nat) (sp : Option Addr) (sm sc : Nat) (h : MB w mb B true (.slice sp sm sc)) (B0 : Nat) (hk : Kc B0 w) (hB : B0 ≤ w.heap.size)
    (sd : Nat → BitVec 8) (hsr : Reads w.heap.size w sp sm (fun j => .int .u8 (ub (sd j)))) (hsm : sm ≤ 2147483500) (hsc : sm ≤ sc) (hscm : sc ≤ maxLen) (x : Ask) (hx : x.lies w) (hxs : x.small) :
    Calls Tryd.prog 8 #[.pointer (some ⟨mb, 0, none⟩), x.val] w fun e w' => e = .returned (tagV (x.real sd sm)) ∧ Below w.heap.size w w' := by
  have HX := Lib.hid hx
  have HXS := Lib.hid hxs
  have HKC := Lib.hid hk
  have HSR := Lib.hid hsr
  obtain ⟨v, hv⟩ : ∃ v, v = Value.slice sp sm sc := ⟨_, rfl⟩
  have HV := Lib.hid hv
  rw [← hv] at h
  have h0 : AR w mb B v x ((w.alloc (.cells #[.int .i64 x.what, .slice x.kp x.kn x.kc, .slice x.p x.m x.c, .int .i64 x.k] 26)).alloc (.cells (List.replicate 32 (Value.int .u8 0)).toArray 33)) := by
    have hb : Below w.heap.size w ((w.alloc (.cells #[.int .i64 x.what, .slice x.kp x.kn x.kc, .slice x.p x.m x.c, .int .i64 x.k] 26)).alloc (.cells (List.replicate 32 (Value.int .u8 0)).toArray 33)) := ((Below.refl _ _).alloc (Nat.le_refl _) _).alloc (by simp) _
    exact ⟨hb, h.below hb, laid_old (laid_at rfl), BT.of_cells (laid_at (by simp)) (fun i hi => zero_atL 32 i hi)⟩
  have hmw := h.lt
  unfold Ask.val
  obtain ⟨s, hs⟩ : ∃ s, s = x.real sd sm := ⟨_, rfl⟩
  rw [← hs]
  have HS := Lib.hid hs
  clear h hk hx hxs hsr hv hs
  go_enter Tryd.func8, Tryd.ntmps8
  go_upto_region 1 with (fail)
  refine forget_code (AR w mb B v x) h0 ?_
  intro W hW
  have HW := Lib.hid hW
  have c0 : W.cell? ⟨w.heap.size, 0, none⟩ = some (.int .i64 x.what) := by rw [cell_of_row W _ 0 _ _ (0, 0) hW.box]; rfl
  have c1 : W.cell? ⟨w.heap.size, 1, none⟩ = some (.slice x.kp x.kn x.kc) := by rw [cell_of_row W _ 1 _ _ (0, 0) hW.box]; rfl
  have c2 : W.cell? ⟨w.heap.size, 2, none⟩ = some (.slice x.p x.m x.c) := by rw [cell_of_row W _ 2 _ _ (0, 0) hW.box]; rfl
  have c3 : W.cell? ⟨w.heap.size, 3, none⟩ = some (.int .i64 x.k) := by rw [cell_of_row W _ 3 _ _ (0, 0) hW.box]; rfl
  have HXW := Lib.hid (HX.out.below hW.bel)
  have T0 := Lib.hid hW.tag
  have G0 := Lib.hid hW.bel
  clear hW h0
  have hw3 : 0 ≤ x.what % 3 ∧ x.what % 3 < 3 := ⟨Int.emod_nonneg _ (by omega), Int.emod_lt_of_pos _ (by omega)⟩
  go_wp2_with fail
  refine (pick3_any x.what W).mono ?_
  rintro e w' ⟨rfl, rfl⟩
  obtain ⟨kd, hkd⟩ : ∃ kd, kd = x.what % 3 := ⟨_, rfl⟩
  rw [← hkd] at hw3 ⊢
  have HKD := Lib.hid hkd
  clear hkd
  by_cases k0 : kd = 0
  · subst k0
    have ht : s = sha x.all (pos x.ln x.m) := by rw [HS.out]; unfold Ask.real; rw [if_pos HKD.out.symm]
    have hc := sumR_any W mb B v HW.out.mkr B0 (HKC.out.below (G0.out.mono hB)) (Nat.le_trans hB G0.out.size) x.p x.m x.c x.P x.ln x.C x.f x.all HXW.out.rows HXW.out.m HXS.out.n x.all_at
    rw [← ht] at hc
    clear ht hw3
    go_upto_region 3 with (fail)
    refine wp_region_lit ?_
    refine wpList_plain rfl (fun K hK => ?_)
    go_simp
    refine hK _ _ ?_
    clear hK K
    refine wpList_plain rfl (fun K hK => ?_)
    go_simp
    refine hK _ _ ?_
    clear hK K
    refine wpList_plain rfl (fun K hK => ?_)
    go_simp
    refine hK _ _ ?_
    clear hK K
    refine wpList_plain rfl (fun K hK => ?_)
    go_simp
    refine hc.mono ?_
    rintro e W5 ⟨rfl, b5⟩
    dsimp only
    refine hK _ _ ?_
    clear hK K
    have t5 := T0.out.below' b5
    refine wpList_store_mid rfl 33 _ _ rfl (w.heap.size + 1) 0 (tagC s).toArray rfl rfl (by simpa [tagC_len] using t5.there 32 (Nat.le_refl _)) (by simp [infoTag, tagC_len]) (tagC_one _) ?_
    rw [List.toList_toArray]
    have HR5 := Lib.hid (World.rangeAt_setCells_same W5 (w.heap.size + 1) 0 (tagC s) (by rw [tagC_len]; exact t5.there 32 (Nat.le_refl _)))
    have HG5 := Lib.hid ((G0.out.trans (b5.mono G0.out.size)).trans (gr_below (gr_setCells (hb := w.heap.size + 1) (tagC s) 0 W5) (by omega) (Nat.le_trans G0.out.size b5.size)))
    generalize W5.setCells (w.heap.size + 1) 0 (tagC s) = W7 at HR5 HG5 ⊢
    clear t5 b5
    show Exit.then _ _ Exit.normal _ W7
    go_wp2
    refine bodyPost_ret (v := tagV s) ?_ rfl ?_
    · exact results_cell_mid (p := 4) (ty := 33) rfl _ W7 (w.heap.size + 1) _ _ rfl HR5.out Tryd.underlying33 rfl (by simp [infoTag, tagC_len])
    · exact ⟨rfl, HG5.out⟩
  · by_cases k1 : kd = 1
    · subst k1
      have ht : s = hmac x.key x.kn x.all (pos x.ln x.m) := by rw [HS.out]; unfold Ask.real; rw [if_neg (by have := HKD.out; omega), if_pos HKD.out.symm]
      have hc := macR_any W mb B v HW.out.mkr B0 (HKC.out.below (G0.out.mono hB)) (Nat.le_trans hB G0.out.size) x.kp x.kn x.kc x.key (by have := HXS.out.kn; omega) HXS.out.kc.1 HXS.out.kc.2 HXW.out.key x.p x.m x.c x.P x.ln x.C x.f x.all HXW.out.rows HXW.out.mc HXS.out.c HXW.out.m HXS.out.n x.all_at
      rw [← ht] at hc
      clear ht hw3
      go_upto_region 5 with (fail)
      refine wp_region_lit ?_
      refine wpList_plain rfl (fun K hK => ?_)
      go_simp
      refine hK _ _ ?_
      clear hK K
      refine wpList_plain rfl (fun K hK => ?_)
      go_simp
      refine hK _ _ ?_
      clear hK K
      refine wpList_plain rfl (fun K hK => ?_)
      go_simp
      refine hK _ _ ?_
      clear hK K
      refine wpList_plain rfl (fun K hK => ?_)
      go_simp
      refine hK _ _ ?_
      clear hK K
      refine wpList_plain rfl (fun K hK => ?_)
      go_simp
      refine hK _ _ ?_
      clear hK K
      refine wpList_plain rfl (fun K hK => ?_)
      go_simp
      refine hc.mono ?_
      rintro e W5 ⟨rfl, b5⟩
      dsimp only
      refine hK _ _ ?_
      clear hK K
      have t5 := T0.out.below' b5
      refine wpList_store_mid rfl 33 _ _ rfl (w.heap.size + 1) 0 (tagC s).toArray rfl rfl (by simpa [tagC_len] using t5.there 32 (Nat.le_refl _)) (by simp [infoTag, tagC_len]) (tagC_one _) ?_
      rw [List.toList_toArray]
      have HR5 := Lib.hid (World.rangeAt_setCells_same W5 (w.heap.size + 1) 0 (tagC s) (by rw [tagC_len]; exact t5.there 32 (Nat.le_refl _)))
      have HG5 := Lib.hid ((G0.out.trans (b5.mono G0.out.size)).trans (gr_below (gr_setCells (hb := w.heap.size + 1) (tagC s) 0 W5) (by omega) (Nat.le_trans G0.out.size b5.size)))
      generalize W5.setCells (w.heap.size + 1) 0 (tagC s) = W7 at HR5 HG5 ⊢
      clear t5 b5
      show Exit.then _ _ Exit.normal _ W7
      go_wp2
      refine bodyPost_ret (v := tagV s) ?_ rfl ?_
      · exact results_cell_mid (p := 4) (ty := 33) rfl _ W7 (w.heap.size + 1) _ _ rfl HR5.out Tryd.underlying33 rfl (by simp [infoTag, tagC_len])
      · exact ⟨rfl, HG5.out⟩
    · have ht : s = sha (drwG sd sm (IntKind.u64.wrap x.k).toNat) (4 + sm + 8) := by rw [HS.out]; unfold Ask.real; rw [if_neg (by have := HKD.out; omega), if_neg (by have := HKD.out; omega)]
      have hun : 0 ≤ IntKind.u64.wrap x.k := by rw [IntKind.wrap_u64]; omega
      have hc := drawR_any W mb B sp sm sc (HV.out ▸ HW.out.mkr) B0 (HKC.out.below (G0.out.mono hB)) (Nat.le_trans hB G0.out.size) sd ((HSR.out.below G0.out).mono G0.out.size) hsm hsc hscm (drwG sd sm (IntKind.u64.wrap x.k).toNat) x.k (IntKind.u64.wrap x.k).toNat (by omega)
        (fun j hj => by unfold drwG; rw [if_pos hj]) (fun j hj => by unfold drwG; rw [if_neg (by omega), if_pos (by omega), show 4 + j - 4 = j by omega]) (fun j hj => by unfold drwG; rw [if_neg (by omega), if_neg (by omega), show 4 + sm + j - (4 + sm) = j by omega])
      rw [← ht] at hc
      clear ht hun
      go_upto_region 6 with (fail)
      refine wp_region_lit ?_
      refine wpList_plain rfl (fun K hK => ?_)
      go_simp
      refine hK _ _ ?_
      clear hK K
      refine wpList_plain rfl (fun K hK => ?_)
      go_simp
      refine hK _ _ ?_
      clear hK K
      refine wpList_plain rfl (fun K hK => ?_)
      go_simp
      refine hK _ _ ?_
      clear hK K
      refine wpList_plain rfl (fun K hK => ?_)
      go_simp
      refine hc.mono ?_
      rintro e W5 ⟨rfl, b5⟩
      dsimp only
      refine hK _ _ ?_
      clear hK K
      have t5 := T0.out.below' b5
      refine wpList_store_mid rfl 33 _ _ rfl (w.heap.size + 1) 0 (tagC s).toArray rfl rfl (by simpa [tagC_len] using t5.there 32 (Nat.le_refl _)) (by simp [infoTag, tagC_len]) (tagC_one _) ?_
      rw [List.toList_toArray]
      have HR5 := Lib.hid (World.rangeAt_setCells_same W5 (w.heap.size + 1) 0 (tagC s) (by rw [tagC_len]; exact t5.there 32 (Nat.le_refl _)))
      have HG5 := Lib.hid ((G0.out.trans (b5.mono G0.out.size)).trans (gr_below (gr_setCells (hb := w.heap.size + 1) (tagC s) 0 W5) (by omega) (Nat.le_trans G0.out.size b5.size)))
      generalize W5.setCells (w.heap.size + 1) 0 (tagC s) = W7 at HR5 HG5 ⊢
      clear t5 b5
      show Exit.then _ _ Exit.normal _ W7
      go_wp2
      refine bodyPost_ret (v := tagV s) ?_ rfl ?_
      · exact results_cell_mid (p := 4) (ty := 33) rfl _ W7 (w.heap.size + 1) _ _ rfl HR5.out Tryd.underlying33 rfl (by simp [infoTag, tagC_len])
      · exact ⟨rfl, HG5.out⟩
end Go.Proofs.YtoocfkaclhgjeaaDoor
