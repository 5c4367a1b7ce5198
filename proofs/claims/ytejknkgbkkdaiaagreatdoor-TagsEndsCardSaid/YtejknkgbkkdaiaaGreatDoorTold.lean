/-
  Contracts: a maker is made, asked a tag under a key, and whether it told a tag.
-/
import Derived.Test.YtejknkgbkkdaiaaGreatDoorMaker
namespace Go.Proofs.YtejknkgbkkdaiaaGreatDoor
open Go.RowKit
set_option linter.unusedVariables false
set_option linter.unusedSimpArgs false

set_option maxHeartbeats 400000 in
theorem newT_any (w : World) (sv : Value) :
    Calls Tryz.prog 8 #[.bool false, sv] w fun e w' => ∃ mb B, e = .returned (.pointer (some ⟨mb, 0, none⟩)) ∧ w.heap.size ≤ mb ∧ w.heap.size ≤ B ∧ Below w.heap.size w w' ∧ MB w' mb B false (.slice none 0 0) ∧ BK w' B [] := by
  go_enter Tryz.func8, Tryz.ntmps8
  go_wp2_with fail
  refine (emptyBook_any w).mono ?_
  rintro e w1 ⟨B, rfl, hB, hb, hk⟩
  have HB := Lib.hid hb
  have HK := Lib.hid hk
  have hz := hb.size
  clear hb hk
  go_wp2
  go_ret
  exact ⟨w1.heap.size, B, rfl, hz, hB, HB.out.alloc hz _, laid_at rfl, HK.out.below ((Below.refl _ _).alloc (Nat.le_refl _) _)⟩
/-- whether a table of n things told t -/
def toldB (n : Nat) (t : Nat → BitVec 8) : Bool := decide (val8 t 8 < n) && teq t (numT (val8 t 8))
theorem toldB_num (n i : Nat) (h : i < n) (hi : i < lim64) : toldB n (numT i) = true := by
  unfold toldB
  rw [val8_num i hi, teq_self]
  simp [h]
structure TT (w : World) (B : Nat) (L : List Thing) (t : Nat → BitVec 8) (W : World) : Prop where
  bel : Below w.heap.size w W
  bk : BK W B L
  b0 : W.heap[w.heap.size]? = some (.cells #[.map (some B)] 53 (0, 0))
  tag : BT W (w.heap.size + 1) 32 t
theorem TT.go {w W W' : World} {B : Nat} {L : List Thing} {t : Nat → BitVec 8} (h : TT w B L t W) (g : Below W.heap.size W W') : TT w B L t W' :=
  ⟨h.bel.trans (g.mono h.bel.size), h.bk.below g, laid_go h.b0 g, h.tag.below' g⟩
theorem TT.drew {w W : World} {B : Nat} {L : List Thing} {t : Nat → BitVec 8} (h : TT w B L t W) : TT w B L t W.drew := h.go (Below.refl _ _).drew
theorem TT.c0 {w W : World} {B : Nat} {L : List Thing} {t : Nat → BitVec 8} (h : TT w B L t W) : W.cell? ⟨w.heap.size, 0, none⟩ = some (.map (some B)) := by rw [cell_of_row W _ 0 _ _ (0, 0) h.b0]; rfl
set_option maxHeartbeats 1000000 in
set_option maxRecDepth 100000 in
theorem toldBook_any (w : World) (B : Nat) (L : List Thing) (t : Nat → BitVec 8) (hk : BK w B L) (hL : L.length ≤ 1000000000000) :
    Calls Tryz.prog 34 #[.agg #[.map (some B)], tagV t] w fun e w' => e = .returned (.bool (toldB L.length t)) ∧ Below w.heap.size w w' := by
  obtain ⟨C1, hC1⟩ : ∃ C, C = (tagC t).toArray := ⟨_, rfl⟩
  obtain ⟨V, hV⟩ : ∃ V, V = tagV t := ⟨_, rfl⟩
  obtain ⟨N, hN⟩ : ∃ N, N = val8 t 8 := ⟨_, rfl⟩
  have HNI := Lib.hid (show ∀ W, Calls Tryz.prog 49 #[V] W fun e w' => e = .returned (.int .u64 (N : Int)) ∧ Below W.heap.size W w' by rw [hV, hN]; exact numberIn_any t)
  obtain ⟨e1, he1⟩ : ∃ e1, e1 = teq t (numT N) := ⟨_, rfl⟩
  have htb : toldB L.length t = (decide (N < L.length) && e1) := by rw [he1, hN]; rfl
  rw [htb]
  obtain ⟨VN, hVN⟩ : ∃ V, V = tagV (numT N) := ⟨_, rfl⟩
  have hq : ∀ w, (binOp .eql 25 V VN).run Tryz.prog w = .ok (.bool e1) w := by rw [hV, hVN, he1]; exact eql_tags _ _
  have hg : ∀ op x y w, (eqGuard op 25 x y V VN).run Tryz.prog w = .ok () w := by rw [hV, hVN]; exact guard_tag _ _
  have HNB := Lib.hid (show ∀ W, Calls Tryz.prog 50 #[.int .u64 (N : Int)] W fun e w' => e = .returned VN ∧ Below W.heap.size W w' by rw [hVN]; exact numbered_any N)
  obtain ⟨res, hres⟩ : ∃ b, b = (decide (N < L.length) && e1) := ⟨_, rfl⟩
  rw [← hres]
  have HRES := Lib.hid hres
  clear hN he1 htb hVN hres
  have h0 : TT w B L t ((w.alloc (.cells #[.map (some B)] 53)).alloc (.cells C1 25)) :=
    ⟨((Below.refl _ _).alloc (Nat.le_refl _) _).alloc (by simp) _, hk.below (((Below.refl _ _).alloc (Nat.le_refl _) _).alloc (by simp) _), laid_old (laid_at rfl), BT.of_cells (laid_at (by simp)) (fun i hi => by rw [hC1]; exact tagC_get t i hi)⟩
  unfold tagV
  rw [← hC1]
  have HVV := Lib.hid hV
  clear hC1 hk hV
  go_enter Tryz.func34, Tryz.ntmps34
  go_upto_region 1 with (fail)
  refine forget_code (TT w B L t) h0 ?_
  intro W hW
  have HW := Lib.hid hW
  clear hW h0
  refine wp_region_lit ?_
  refine wpList_load_mid rfl 25 _ rfl (w.heap.size + 1) 0 rfl (tagC t) _ HW.out.tag.range Tryz.underlying25 rfl (by simp [infoTag, tagC_len]) ?_
  rw [show Value.agg (tagC t).toArray = V from HVV.out.symm]
  refine wpList_plain rfl (fun K hK => ?_)
  go_simp
  refine (HNI.out W).mono ?_
  rintro e W2 ⟨rfl, hb2⟩
  dsimp only
  refine hK _ _ ?_
  clear hK K
  have H2 := Lib.hid (HW.out.go hb2)
  clear hb2 HW HNI
  refine wpList_plain rfl (fun K hK => ?_)
  go_simp
  refine hK _ _ ?_
  clear hK K
  show Exit.then _ _ Exit.normal _ W2
  have LV := Lib.hid (fun (ops : Array Oper) (o : Oper) (ac : Act) (x : Operand) (h1 : Region.wanted o (yielded ops ac.tmps) = true) (h2 : o.op = .load 25 x) (h3 : ac.eval x = .pointer (some ⟨w.heap.size + 1, 0, none⟩)) => HVV.out ▸ tag_load (S := fun (W : World) => TT w B L t W ∧ W.cell? ⟨w.heap.size, 0, none⟩ = some (Value.map (some B))) (fun _ h => h.1.tag) h1 h2 h3)
  have hwr : IntKind.u64.wrap ((L.length : Nat) : Int) = ((L.length : Nat) : Int) := by rw [IntKind.wrap_u64]; omega
  have HTC := Lib.hid (show ∀ W : World, TT w B L t W → TT w B L t W ∧ W.cell? ⟨w.heap.size, 0, none⟩ = some (Value.map (some B)) from fun W h => ⟨h, h.c0⟩)
  clear HVV
  go_upto_region 2 with (fail)
  by_cases hlt : N < L.length
  · have hlt' : (N : Int) < (L.length : Int) := by omega
    have hre : res = e1 := by rw [HRES.out]; simp [hlt]
    have HRE := Lib.hid hre
    clear hre
    refine wp_region_noPanic ?_
    refine wp_region_start (n := 12) (l := #[false, false, false, false, false, false, false, false, false, false, false, false]) (S := (fun (W : World) => TT w B L t W ∧ W.cell? ⟨w.heap.size, 0, none⟩ = some (Value.map (some B)))) (by kernel_rfl) rfl (by kernel_rfl) (by (refine HTC.out _ ?_; repeat (first | exact H2.out | apply TT.drew | (refine TT.go ?_ (by assumption))))) (fun hHeld => ?_)
    refine take_to (i := 0) (d := some 8) (v := ?_) (l' := #[true, false, false, false, false, false, false, false, false, false, false, false]) rfl rfl (by kernel_rfl) (by kernel_rfl) (by kernel_rfl) (by kernel_rfl) (fun _ _ _ h => h) (Or.inl ⟨by rfl, ?_⟩) (by assumption) ?_; rotate_left; · (intro w' hSw; (try dsimp only at hSw); go_simp; (try with_reducible rfl))
    try simp only [Act.put, List.setIfInBounds_toArray, List.set_cons_zero, List.set_cons_succ]
    refine take_to (i := 1) (d := some 9) (v := ?_) (l' := #[true, true, false, false, false, false, false, false, false, false, false, false]) rfl rfl (by kernel_rfl) (by kernel_rfl) (by kernel_rfl) (by kernel_rfl) (fun _ _ _ h => h) (Or.inl ⟨by rfl, ?_⟩) (by assumption) ?_; rotate_left; · (intro w' hSw; (try dsimp only at hSw); go_simp; (try with_reducible rfl))
    try simp only [Act.put, List.setIfInBounds_toArray, List.set_cons_zero, List.set_cons_succ]
    refine one_to (i := 2) (l' := #[true, true, true, false, false, false, false, false, false, false, false, false]) rfl (by kernel_rfl) (by kernel_rfl) (fun K hK => ?_)
    go_simp
    refine (sizeB_any _ B L (show TT w B L t _ from (by repeat (first | exact H2.out | apply TT.drew | (refine TT.go ?_ (by assumption))))).bk).mono ?_
    rintro e w5 ⟨rfl, hb5⟩
    dsimp only
    refine hK.out _ _ (by (refine HTC.out _ ?_; repeat (first | exact H2.out | apply TT.drew | (refine TT.go ?_ (by assumption))))) (fun hHeld => ?_)
    clear hK K
    try simp only [Act.put, List.setIfInBounds_toArray, List.set_cons_zero, List.set_cons_succ]
    refine take_to (i := 3) (d := some 11) (v := ?_) (l' := #[true, true, true, true, false, false, false, false, false, false, false, false]) rfl rfl (by kernel_rfl) (by kernel_rfl) (by kernel_rfl) (by kernel_rfl) (fun _ _ _ h => h) (Or.inl ⟨by rfl, ?_⟩) (by assumption) ?_; rotate_left; · (intro w' hSw; (try dsimp only at hSw); go_simp; (try with_reducible rfl))
    try simp only [Act.put, List.setIfInBounds_toArray, List.set_cons_zero, List.set_cons_succ]
    refine take_to (i := 4) (d := some 12) (v := ?_) (l' := #[true, true, true, true, true, false, false, false, false, false, false, false]) rfl rfl (by kernel_rfl) (by kernel_rfl) (by kernel_rfl) (by kernel_rfl) (fun _ _ _ h => h) (Or.inl ⟨by rfl, ?_⟩) (by assumption) ?_; rotate_left; · (intro w' hSw; (try dsimp only at hSw); go_simp; (try with_reducible rfl))
    try simp only [Act.put, List.setIfInBounds_toArray, List.set_cons_zero, List.set_cons_succ]
    refine take_to (i := 5) (d := some 13) (v := ?_) (l' := #[true, true, true, true, true, true, false, false, false, false, false, false]) rfl rfl (by kernel_rfl) (by kernel_rfl) (by kernel_rfl) (by kernel_rfl) (fun _ _ _ h => h) (Or.inl ⟨by rfl, ?_⟩) (by assumption) ?_; rotate_left; · (intro w' hSw; (try dsimp only at hSw); go_simp; (try with_reducible rfl))
    try simp only [Act.put, List.setIfInBounds_toArray, List.set_cons_zero, List.set_cons_succ]
    refine take_to (i := 6) (d := some 14) (v := V) (l' := #[true, true, true, true, true, true, true, false, false, false, false, false]) rfl rfl (by kernel_rfl) (by kernel_rfl) (by kernel_rfl) (by kernel_rfl) (fun _ _ _ h => h) ?_ (by assumption) ?_
    · exact LV.out _ _ _ _ (by rfl) rfl rfl
    try simp only [Act.put, List.setIfInBounds_toArray, List.set_cons_zero, List.set_cons_succ]
    refine take_to (i := 7) (d := some 15) (v := ?_) (l' := #[true, true, true, true, true, true, true, true, false, false, false, false]) rfl rfl (by kernel_rfl) (by kernel_rfl) (by kernel_rfl) (by kernel_rfl) (fun _ _ _ h => h) (Or.inl ⟨by rfl, ?_⟩) (by assumption) ?_; rotate_left; · (intro w' hSw; (try dsimp only at hSw); go_simp; (try with_reducible rfl))
    try simp only [Act.put, List.setIfInBounds_toArray, List.set_cons_zero, List.set_cons_succ]
    refine one_to (i := 8) (l' := #[true, true, true, true, true, true, true, true, true, false, false, false]) rfl (by kernel_rfl) (by kernel_rfl) (fun K hK => ?_)
    go_simp
    refine (HNB.out _).mono ?_
    rintro e w6 ⟨rfl, hb6⟩
    dsimp only
    refine hK.out _ _ (by (refine HTC.out _ ?_; repeat (first | exact H2.out | apply TT.drew | (refine TT.go ?_ (by assumption))))) (fun hHeld => ?_)
    clear hK K
    try simp only [Act.put, List.setIfInBounds_toArray, List.set_cons_zero, List.set_cons_succ]
    refine take_to (i := 9) (d := some 17) (v := ?_) (l' := #[true, true, true, true, true, true, true, true, true, true, false, false]) rfl rfl (by kernel_rfl) (by kernel_rfl) (by kernel_rfl) (by kernel_rfl) (fun _ _ _ h => h) (Or.inl ⟨by rfl, ?_⟩) (by assumption) ?_; rotate_left; · (intro w' hSw; (try dsimp only at hSw); go_simp; (try with_reducible rfl))
    try simp only [Act.put, List.setIfInBounds_toArray, List.set_cons_zero, List.set_cons_succ]
    refine take_to (i := 10) (d := some 18) (v := ?_) (l' := #[true, true, true, true, true, true, true, true, true, true, true, false]) rfl rfl (by kernel_rfl) (by kernel_rfl) (by kernel_rfl) (by kernel_rfl) (fun _ _ _ h => h) (Or.inl ⟨by rfl, ?_⟩) (by assumption) ?_; rotate_left; · (intro w' hSw; (try dsimp only at hSw); go_simp; (try with_reducible rfl))
    try simp only [Act.put, List.setIfInBounds_toArray, List.set_cons_zero, List.set_cons_succ]
    refine take_to (i := 11) (d := some 4) (v := ?_) (l' := #[true, true, true, true, true, true, true, true, true, true, true, true]) rfl rfl (by kernel_rfl) (by kernel_rfl) (by kernel_rfl) (by kernel_rfl) (fun _ _ _ h => h) (Or.inl ⟨by rfl, ?_⟩) (by assumption) ?_; rotate_left; · (intro w' hSw; (try dsimp only at hSw); go_simp; (try with_reducible rfl))
    try simp only [Act.put, List.setIfInBounds_toArray, List.set_cons_zero, List.set_cons_succ]
    refine wpAnyH_done (by kernel_rfl) ?_ _
    refine NoPanic.normal ?_
    have HF := Lib.hid hHeld.1.bel
    clear hHeld HNB LV HTC H2
    go_wp2
    go_ret
    exact ⟨by rw [HRE.out]; rfl, HF.out⟩
  · have hlt' : decide ((N : Int) < (L.length : Int)) = false := by simpa using hlt
    have hre : res = false := by rw [HRES.out]; simp [hlt]
    have HRE := Lib.hid hre
    clear hre
    refine wp_region_noPanic ?_
    refine wp_region_start (n := 12) (l := #[false, false, false, false, false, false, false, false, false, false, false, false]) (S := (fun (W : World) => TT w B L t W ∧ W.cell? ⟨w.heap.size, 0, none⟩ = some (Value.map (some B)))) (by kernel_rfl) rfl (by kernel_rfl) (by (refine HTC.out _ ?_; repeat (first | exact H2.out | apply TT.drew | (refine TT.go ?_ (by assumption))))) (fun hHeld => ?_)
    refine take_to (i := 0) (d := some 8) (v := ?_) (l' := #[true, false, false, false, false, false, false, false, false, false, false, false]) rfl rfl (by kernel_rfl) (by kernel_rfl) (by kernel_rfl) (by kernel_rfl) (fun _ _ _ h => h) (Or.inl ⟨by rfl, ?_⟩) (by assumption) ?_; rotate_left; · (intro w' hSw; (try dsimp only at hSw); go_simp; (try with_reducible rfl))
    try simp only [Act.put, List.setIfInBounds_toArray, List.set_cons_zero, List.set_cons_succ]
    refine take_to (i := 1) (d := some 9) (v := ?_) (l' := #[true, true, false, false, false, false, false, false, false, false, false, false]) rfl rfl (by kernel_rfl) (by kernel_rfl) (by kernel_rfl) (by kernel_rfl) (fun _ _ _ h => h) (Or.inl ⟨by rfl, ?_⟩) (by assumption) ?_; rotate_left; · (intro w' hSw; (try dsimp only at hSw); go_simp; (try with_reducible rfl))
    try simp only [Act.put, List.setIfInBounds_toArray, List.set_cons_zero, List.set_cons_succ]
    refine one_to (i := 2) (l' := #[true, true, true, false, false, false, false, false, false, false, false, false]) rfl (by kernel_rfl) (by kernel_rfl) (fun K hK => ?_)
    go_simp
    refine (sizeB_any _ B L (show TT w B L t _ from (by repeat (first | exact H2.out | apply TT.drew | (refine TT.go ?_ (by assumption))))).bk).mono ?_
    rintro e w5 ⟨rfl, hb5⟩
    dsimp only
    refine hK.out _ _ (by (refine HTC.out _ ?_; repeat (first | exact H2.out | apply TT.drew | (refine TT.go ?_ (by assumption))))) (fun hHeld => ?_)
    clear hK K
    try simp only [Act.put, List.setIfInBounds_toArray, List.set_cons_zero, List.set_cons_succ]
    refine take_to (i := 3) (d := some 11) (v := ?_) (l' := #[true, true, true, true, false, false, false, false, false, false, false, false]) rfl rfl (by kernel_rfl) (by kernel_rfl) (by kernel_rfl) (by kernel_rfl) (fun _ _ _ h => h) (Or.inl ⟨by rfl, ?_⟩) (by assumption) ?_; rotate_left; · (intro w' hSw; (try dsimp only at hSw); go_simp; (try with_reducible rfl))
    try simp only [Act.put, List.setIfInBounds_toArray, List.set_cons_zero, List.set_cons_succ]
    refine take_to (i := 4) (d := some 12) (v := ?_) (l' := #[true, true, true, true, true, false, false, false, false, false, false, false]) rfl rfl (by kernel_rfl) (by kernel_rfl) (by kernel_rfl) (by kernel_rfl) (fun _ _ _ h => h) (Or.inl ⟨by rfl, ?_⟩) (by assumption) ?_; rotate_left; · (intro w' hSw; (try dsimp only at hSw); go_simp; (try with_reducible rfl))
    try simp only [Act.put, List.setIfInBounds_toArray, List.set_cons_zero, List.set_cons_succ]
    refine take_to (i := 5) (d := some 13) (v := ?_) (l' := #[true, true, true, true, true, true, false, false, false, false, false, false]) rfl rfl (by kernel_rfl) (by kernel_rfl) (by kernel_rfl) (by kernel_rfl) (fun _ _ _ h => h) (Or.inl ⟨by rfl, ?_⟩) (by assumption) ?_; rotate_left; · (intro w' hSw; (try dsimp only at hSw); go_simp; (try with_reducible rfl))
    try simp only [Act.put, List.setIfInBounds_toArray, List.set_cons_zero, List.set_cons_succ]
    refine take_to (i := 6) (d := some 14) (v := undef) (l' := #[true, true, true, true, true, true, true, false, false, false, false, false]) rfl rfl (by kernel_rfl) (by kernel_rfl) (by kernel_rfl) (by kernel_rfl) (fun _ _ _ h => h) (Or.inr ⟨by rfl, rfl⟩) (by assumption) ?_
    try simp only [Act.put, List.setIfInBounds_toArray, List.set_cons_zero, List.set_cons_succ]
    refine take_to (i := 7) (d := some 15) (v := undef) (l' := #[true, true, true, true, true, true, true, true, false, false, false, false]) rfl rfl (by kernel_rfl) (by kernel_rfl) (by kernel_rfl) (by kernel_rfl) (fun _ _ _ h => h) (Or.inr ⟨by rfl, rfl⟩) (by assumption) ?_
    try simp only [Act.put, List.setIfInBounds_toArray, List.set_cons_zero, List.set_cons_succ]
    refine one_to (i := 8) (l' := #[true, true, true, true, true, true, true, true, true, false, false, false]) rfl (by kernel_rfl) (by kernel_rfl) (fun K hK => ?_)
    go_simp
    refine hK.out _ _ (by (refine HTC.out _ ?_; repeat (first | exact H2.out | apply TT.drew | (refine TT.go ?_ (by assumption))))) (fun hHeld => ?_)
    clear hK K
    try simp only [Act.put, List.setIfInBounds_toArray, List.set_cons_zero, List.set_cons_succ]
    refine take_to (i := 9) (d := some 17) (v := undef) (l' := #[true, true, true, true, true, true, true, true, true, true, false, false]) rfl rfl (by kernel_rfl) (by kernel_rfl) (by kernel_rfl) (by kernel_rfl) (fun _ _ _ h => h) (Or.inr ⟨by rfl, rfl⟩) (by assumption) ?_
    try simp only [Act.put, List.setIfInBounds_toArray, List.set_cons_zero, List.set_cons_succ]
    refine take_to (i := 10) (d := some 18) (v := ?_) (l' := #[true, true, true, true, true, true, true, true, true, true, true, false]) rfl rfl (by kernel_rfl) (by kernel_rfl) (by kernel_rfl) (by kernel_rfl) (fun _ _ _ h => h) (Or.inl ⟨by rfl, ?_⟩) (by assumption) ?_; rotate_left; · (intro w' hSw; (try dsimp only at hSw); go_simp; (try with_reducible rfl))
    try simp only [Act.put, List.setIfInBounds_toArray, List.set_cons_zero, List.set_cons_succ]
    refine take_to (i := 11) (d := some 4) (v := ?_) (l' := #[true, true, true, true, true, true, true, true, true, true, true, true]) rfl rfl (by kernel_rfl) (by kernel_rfl) (by kernel_rfl) (by kernel_rfl) (fun _ _ _ h => h) (Or.inl ⟨by rfl, ?_⟩) (by assumption) ?_; rotate_left; · (intro w' hSw; (try dsimp only at hSw); go_simp; (try with_reducible rfl))
    try simp only [Act.put, List.setIfInBounds_toArray, List.set_cons_zero, List.set_cons_succ]
    refine wpAnyH_done (by kernel_rfl) ?_ _
    refine NoPanic.normal ?_
    have HF := Lib.hid hHeld.1.bel
    clear hHeld HNB LV HTC H2
    go_wp2
    go_ret
    exact ⟨by rw [HRE.out]; rfl, HF.out⟩
structure TS (w : World) (mb B : Nat) (real : Bool) (sv : Value) (L : List Thing) (t : Nat → BitVec 8) (W : World) : Prop where
  bel : Below w.heap.size w W
  mb : MB W mb B real sv
  bk : BK W B L
  tag : BT W w.heap.size 32 t
theorem TS.go {w W W' : World} {mb B : Nat} {real : Bool} {sv : Value} {L : List Thing} {t : Nat → BitVec 8} (h : TS w mb B real sv L t W) (g : Below W.heap.size W W') : TS w mb B real sv L t W' :=
  ⟨h.bel.trans (g.mono h.bel.size), h.mb.below g, h.bk.below g, h.tag.below' g⟩
theorem TS.drew {w W : World} {mb B : Nat} {real : Bool} {sv : Value} {L : List Thing} {t : Nat → BitVec 8} (h : TS w mb B real sv L t W) : TS w mb B real sv L t W.drew := h.go (Below.refl _ _).drew
set_option maxHeartbeats 1000000 in
set_option maxRecDepth 100000 in
theorem toldM_any (w : World) (mb B : Nat) (real : Bool) (sv : Value) (L : List Thing) (t : Nat → BitVec 8) (h : MB w mb B real sv) (hk : BK w B L) (hL : L.length ≤ 1000000000000) :
    Calls Tryz.prog 13 #[.pointer (some ⟨mb, 0, none⟩), tagV t] w fun e w' => e = .returned (.bool (toldB L.length t)) ∧ Below w.heap.size w w' := by
  obtain ⟨C1, hC1⟩ : ∃ C, C = (tagC t).toArray := ⟨_, rfl⟩
  obtain ⟨V, hV⟩ : ∃ V, V = tagV t := ⟨_, rfl⟩
  obtain ⟨res, hres⟩ : ∃ b, b = toldB L.length t := ⟨_, rfl⟩
  have HTB := Lib.hid (show ∀ W, BK W B L → Calls Tryz.prog 34 #[.agg #[.map (some B)], V] W fun e w' => e = .returned (.bool res) ∧ Below W.heap.size W w' from fun W hW => by rw [hV, hres]; exact toldBook_any W B L t hW hL)
  have LV := Lib.hid (fun (ops : Array Oper) (o : Oper) (ac : Act) (x : Operand) (h1 : Region.wanted o (yielded ops ac.tmps) = true) (h2 : o.op = .load 25 x) (h3 : ac.eval x = .pointer (some ⟨w.heap.size, 0, none⟩)) => hV ▸ tag_load (S := fun (W : World) => TS w mb B real sv L t W ∧ W.cell? ⟨mb, 0, none⟩ = some (Value.map (some B))) (fun _ h => h.1.tag) h1 h2 h3)
  have hb0 : Below w.heap.size w (w.alloc (.cells C1 25)) := (Below.refl _ _).alloc (Nat.le_refl _) _
  have h0 : TS w mb B real sv L t (w.alloc (.cells C1 25)) :=
    ⟨hb0, h.below hb0, hk.below hb0, BT.of_cells (laid_at rfl) (fun i hi => by rw [hC1]; exact tagC_get t i hi)⟩
  have HTC := Lib.hid (show ∀ W : World, TS w mb B real sv L t W → TS w mb B real sv L t W ∧ W.cell? ⟨mb, 0, none⟩ = some (Value.map (some B)) from fun W h => ⟨h, h.mb.c0⟩)
  rw [← hres]
  unfold tagV
  rw [← hC1]
  clear hC1 hk h hV hres hb0
  go_enter Tryz.func13, Tryz.ntmps13
  go_upto_region 1 with (fail)
  refine forget_code (TS w mb B real sv L t) h0 ?_
  intro W hW
  have H2 := Lib.hid hW
  clear hW h0
  refine wp_region_noPanic ?_
  refine wp_region_start (n := 12) (l := #[false, false, false, false, false, false, false, false, false, false, false, false]) (S := (fun (W : World) => TS w mb B real sv L t W ∧ W.cell? ⟨mb, 0, none⟩ = some (Value.map (some B)))) (by kernel_rfl) rfl (by kernel_rfl) (by (refine HTC.out _ ?_; repeat (first | exact H2.out | apply TS.drew | (refine TS.go ?_ (by assumption))))) (fun hHeld => ?_)
  refine take_to (i := 0) (d := some 5) (v := ?_) (l' := #[true, false, false, false, false, false, false, false, false, false, false, false]) rfl rfl (by kernel_rfl) (by kernel_rfl) (by kernel_rfl) (by kernel_rfl) (fun _ _ _ h => h) (Or.inl ⟨by rfl, ?_⟩) (by assumption) ?_; rotate_left; · (intro w' hSw; (try dsimp only at hSw); go_simp; (try with_reducible rfl))
  try simp only [Act.put, List.setIfInBounds_toArray, List.set_cons_zero, List.set_cons_succ]
  refine one_to (i := 1) (l' := #[true, true, false, false, false, false, false, false, false, false, false, false]) rfl (by kernel_rfl) (by kernel_rfl) (fun K hK => ?_)
  go_simp
  refine (noneM_any _ mb B real sv (show TS w mb B real sv L t _ from (by repeat (first | exact H2.out | apply TS.drew | (refine TS.go ?_ (by assumption))))).mb).mono ?_
  rintro e w' ⟨rfl, rfl⟩
  dsimp only
  refine hK.out _ _ (by (refine HTC.out _ ?_; repeat (first | exact H2.out | apply TS.drew | (refine TS.go ?_ (by assumption))))) (fun hHeld => ?_)
  clear hK K
  try simp only [Act.put, List.setIfInBounds_toArray, List.set_cons_zero, List.set_cons_succ]
  refine take_to (i := 2) (d := some 7) (v := ?_) (l' := #[true, true, true, false, false, false, false, false, false, false, false, false]) rfl rfl (by kernel_rfl) (by kernel_rfl) (by kernel_rfl) (by kernel_rfl) (fun _ _ _ h => h) (Or.inl ⟨by rfl, ?_⟩) (by assumption) ?_; rotate_left; · (intro w' hSw; (try dsimp only at hSw); go_simp; (try with_reducible rfl))
  try simp only [Act.put, List.setIfInBounds_toArray, List.set_cons_zero, List.set_cons_succ]
  refine take_to (i := 3) (d := some 8) (v := ?_) (l' := #[true, true, true, true, false, false, false, false, false, false, false, false]) rfl rfl (by kernel_rfl) (by kernel_rfl) (by kernel_rfl) (by kernel_rfl) (fun _ _ _ h => h) (Or.inl ⟨by rfl, ?_⟩) (by assumption) ?_; rotate_left; · (intro w' hSw; (try dsimp only at hSw); go_simp; (try with_reducible rfl))
  try simp only [Act.put, List.setIfInBounds_toArray, List.set_cons_zero, List.set_cons_succ]
  refine take_to (i := 4) (d := some 9) (v := ?_) (l' := #[true, true, true, true, true, false, false, false, false, false, false, false]) rfl rfl (by kernel_rfl) (by kernel_rfl) (by kernel_rfl) (by kernel_rfl) (fun _ _ _ h => h) (Or.inl ⟨by rfl, ?_⟩) (by assumption) ?_; rotate_left; · (intro w' hSw; (try dsimp only at hSw); go_simp; (try with_reducible rfl))
  try simp only [Act.put, List.setIfInBounds_toArray, List.set_cons_zero, List.set_cons_succ]
  refine take_to (i := 5) (d := some 10) (v := ?_) (l' := #[true, true, true, true, true, true, false, false, false, false, false, false]) rfl rfl (by kernel_rfl) (by kernel_rfl) (by kernel_rfl) (by kernel_rfl) (fun _ _ _ h => h) (Or.inl ⟨by rfl, ?_⟩) (by assumption) ?_; rotate_left; · (intro w' hSw; (try dsimp only at hSw); go_simp; (try with_reducible rfl))
  try simp only [Act.put, List.setIfInBounds_toArray, List.set_cons_zero, List.set_cons_succ]
  refine take_to (i := 6) (d := some 11) (v := ?_) (l' := #[true, true, true, true, true, true, true, false, false, false, false, false]) rfl rfl (by kernel_rfl) (by kernel_rfl) (by kernel_rfl) (by kernel_rfl) (fun _ _ _ h => h) (Or.inl ⟨by rfl, ?_⟩) (by assumption) ?_; rotate_left; · (intro w' hSw; (try dsimp only at hSw); go_simp; (try with_reducible rfl))
  try simp only [Act.put, List.setIfInBounds_toArray, List.set_cons_zero, List.set_cons_succ]
  refine take_to (i := 7) (d := some 12) (v := ?_) (l' := #[true, true, true, true, true, true, true, true, false, false, false, false]) rfl rfl (by kernel_rfl) (by kernel_rfl) (by kernel_rfl) (by kernel_rfl) (fun _ _ _ h => h) (Or.inl ⟨by rfl, ?_⟩) (by assumption) ?_; rotate_left; · (intro w' hSw; (try dsimp only at hSw); go_simp; (try with_reducible rfl))
  try simp only [Act.put, List.setIfInBounds_toArray, List.set_cons_zero, List.set_cons_succ]
  refine take_to (i := 8) (d := some 13) (v := V) (l' := #[true, true, true, true, true, true, true, true, true, false, false, false]) rfl rfl (by kernel_rfl) (by kernel_rfl) (by kernel_rfl) (by kernel_rfl) (fun _ _ _ h => h) ?_ (by assumption) ?_
  · exact LV.out _ _ _ _ (by rfl) rfl rfl
  try simp only [Act.put, List.setIfInBounds_toArray, List.set_cons_zero, List.set_cons_succ]
  refine one_to (i := 9) (l' := #[true, true, true, true, true, true, true, true, true, true, false, false]) rfl (by kernel_rfl) (by kernel_rfl) (fun K hK => ?_)
  go_simp
  refine (HTB.out _ (show TS w mb B real sv L t _ from (by repeat (first | exact H2.out | apply TS.drew | (refine TS.go ?_ (by assumption))))).bk).mono ?_
  rintro e w6 ⟨rfl, hb6⟩
  dsimp only
  refine hK.out _ _ (by (refine HTC.out _ ?_; repeat (first | exact H2.out | apply TS.drew | (refine TS.go ?_ (by assumption))))) (fun hHeld => ?_)
  clear hK K
  try simp only [Act.put, List.setIfInBounds_toArray, List.set_cons_zero, List.set_cons_succ]
  refine take_to (i := 10) (d := some 15) (v := ?_) (l' := #[true, true, true, true, true, true, true, true, true, true, true, false]) rfl rfl (by kernel_rfl) (by kernel_rfl) (by kernel_rfl) (by kernel_rfl) (fun _ _ _ h => h) (Or.inl ⟨by rfl, ?_⟩) (by assumption) ?_; rotate_left; · (intro w' hSw; (try dsimp only at hSw); go_simp; (try with_reducible rfl))
  try simp only [Act.put, List.setIfInBounds_toArray, List.set_cons_zero, List.set_cons_succ]
  refine take_to (i := 11) (d := some 4) (v := ?_) (l' := #[true, true, true, true, true, true, true, true, true, true, true, true]) rfl rfl (by kernel_rfl) (by kernel_rfl) (by kernel_rfl) (by kernel_rfl) (fun _ _ _ h => h) (Or.inl ⟨by rfl, ?_⟩) (by assumption) ?_; rotate_left; · (intro w' hSw; (try dsimp only at hSw); go_simp; (try with_reducible rfl))
  try simp only [Act.put, List.setIfInBounds_toArray, List.set_cons_zero, List.set_cons_succ]
  refine wpAnyH_done (by kernel_rfl) ?_ _
  refine NoPanic.normal ?_
  have HF := Lib.hid hHeld.1.bel
  clear hHeld HTB LV HTC H2
  go_wp2
  go_ret
  exact ⟨rfl, HF.out⟩
set_option maxHeartbeats 1000000 in
set_option maxRecDepth 100000 in
theorem macM_any (w : World) (mb B : Nat) (L : List Thing) (h : MB w mb B false (.slice none 0 0)) (hk : BK w B L) (hL : L.length ≤ 1000000000000)
    (kp : Option Addr) (kn kc : Nat) (key : Nat → BitVec 8) (hkr : Reads w.heap.size w kp kn (fun j => .int .u8 (ub (key j)))) (hkz : kp = none → kn = 0) (hkn : kn ≤ 4294967295)
    (p : Option Addr) (m c : Nat) (P : Nat → Option Addr) (ln C : Nat → Nat) (f : Nat → Nat → BitVec 8) (g : Nat → BitVec 8) (hr : RI w p m P ln C f) (hmc : m ≤ c) (hm : m ≤ 4294967295) (hn : pos ln m ≤ 4294967295) (hg : ∀ i, i < m → ∀ j, j < ln i → f i j = g (pos ln i + j)) :
    Calls Tryz.prog 27 #[.pointer (some ⟨mb, 0, none⟩), .slice kp kn kc, .slice p m c] w fun e w' => e = .returned (tagV (numT (idx (addT L (1, byL key kn, byL g (pos ln m), 0)) (1, byL key kn, byL g (pos ln m), 0)))) ∧ w.grownBy w' (some B) ∧ BK w' B (addT L (1, byL key kn, byL g (pos ln m), 0)) := by
  obtain ⟨l, hl⟩ : ∃ l, l = byL g (pos ln m) := ⟨_, rfl⟩
  obtain ⟨kl, hkl⟩ : ∃ l, l = byL key kn := ⟨_, rfl⟩
  have hll : l.length ≤ 4294967295 := by rw [hl, byL_len]; exact hn
  have hkll : kl.length ≤ 4294967295 := by rw [hkl, byL_len]; exact hkn
  have HSO := Lib.hid (show ∀ W, Below w.heap.size w W → Calls Tryz.prog 45 #[.slice kp kn kc, .slice p m c] W fun e w' => e = .returned (thV 1 ⟨kl.toArray⟩ ⟨l.toArray⟩ 0) ∧ Below W.heap.size W w' from fun W hW => by
    rw [hl, hkl]; exact macOfT_any W kp kn kc key ((hkr.below hW).mono hW.size) hkz p m c P ln C f g ⟨(hr.rows.below hW).mono hW.size, hr.cap, fun i hi => ((hr.row i hi).below hW).mono hW.size⟩ hmc hm hn hg)
  rw [← hl, ← hkl]
  obtain ⟨x, hx⟩ : ∃ x : Thing, x = (1, kl, l, 0) := ⟨_, rfl⟩
  have hok : x.ok := by rw [hx]; exact ⟨show (Lit.int .i64 1).wf = true by decide, show (Lit.int .i64 0).wf = true by decide, by show kl.length ≤ _; unfold maxLen; omega, by show l.length ≤ _; unfold maxLen; omega⟩
  obtain ⟨s, hs⟩ : ∃ s, s = numT (idx (addT L x) x) := ⟨_, rfl⟩
  have HTE := Lib.hid (show ∀ W, SM w mb B L W → Calls Tryz.prog 39 #[.agg #[.map (some B)], thV 1 ⟨kl.toArray⟩ ⟨l.toArray⟩ 0] W fun e w' => e = .returned (tagV s) ∧ W.grownBy w' (some B) ∧ BK w' B (addT L x) from fun W hW => by
    rw [hs]; rw [hx] at hok ⊢; exact tell_any W B L (1, kl, l, 0) _ _ rfl rfl hok hW.bk hL)
  rw [← hx, ← hs]
  have hap := h.apart hk
  have hBw := hk.lt
  have hmw := h.lt
  have hne : some mb ≠ some B := by simpa using hap
  go_enter Tryz.func27, Tryz.ntmps27
  go_upto_region 1 with (fail)
  refine forget_code (SM w mb B L) (SM.start h hk (fun i hi => zero_atL 32 i hi)) ?_
  intro W hW
  have HW := Lib.hid hW
  have c1 := hW.mb.c1
  clear hW h hk hr hg hl hs hx hok hkl hkr hkz
  go_wp2_with fail
  refine (noneM_any W mb B false _ HW.out.mb).mono ?_
  rintro e w' ⟨rfl, rfl⟩
  go_upto_region 5 with (fail)
  refine wp_region_noPanic ?_
  refine wp_region_start (n := 9) (l := #[false, false, false, false, false, false, false, false, false]) (S := (fun W => W.cell? ⟨mb, 0, none⟩ = some (.map (some B)))) (by kernel_rfl) rfl (by kernel_rfl) (by (first | exact M7.c0 | exact (H5.out.mb.gr hg6 hne).c0 | exact H5.out.mb.c0 | exact HW.out.drew.mb.c0)) (fun hHeld => ?_)
  refine take_to (i := 0) (d := some 17) (v := ?_) (l' := #[true, false, false, false, false, false, false, false, false]) rfl rfl (by kernel_rfl) (by kernel_rfl) (by kernel_rfl) (by kernel_rfl) (fun _ _ _ h => h) (Or.inl ⟨by rfl, ?_⟩) (by assumption) ?_; rotate_left; · (intro w' hSw; (try dsimp only at hSw); go_simp; (try with_reducible rfl))
  try simp only [Act.put, List.setIfInBounds_toArray, List.set_cons_zero, List.set_cons_succ]
  refine take_to (i := 1) (d := some 18) (v := ?_) (l' := #[true, true, false, false, false, false, false, false, false]) rfl rfl (by kernel_rfl) (by kernel_rfl) (by kernel_rfl) (by kernel_rfl) (fun _ _ _ h => h) (Or.inl ⟨by rfl, ?_⟩) (by assumption) ?_; rotate_left; · (intro w' hSw; (try dsimp only at hSw); go_simp; (try with_reducible rfl))
  try simp only [Act.put, List.setIfInBounds_toArray, List.set_cons_zero, List.set_cons_succ]
  refine take_to (i := 2) (d := some 19) (v := ?_) (l' := #[true, true, true, false, false, false, false, false, false]) rfl rfl (by kernel_rfl) (by kernel_rfl) (by kernel_rfl) (by kernel_rfl) (fun _ _ _ h => h) (Or.inl ⟨by rfl, ?_⟩) (by assumption) ?_; rotate_left; · (intro w' hSw; (try dsimp only at hSw); go_simp; (try with_reducible rfl))
  try simp only [Act.put, List.setIfInBounds_toArray, List.set_cons_zero, List.set_cons_succ]
  refine take_to (i := 3) (d := some 20) (v := ?_) (l' := #[true, true, true, true, false, false, false, false, false]) rfl rfl (by kernel_rfl) (by kernel_rfl) (by kernel_rfl) (by kernel_rfl) (fun _ _ _ h => h) (Or.inl ⟨by rfl, ?_⟩) (by assumption) ?_; rotate_left; · (intro w' hSw; (try dsimp only at hSw); go_simp; (try with_reducible rfl))
  try simp only [Act.put, List.setIfInBounds_toArray, List.set_cons_zero, List.set_cons_succ]
  refine take_to (i := 4) (d := some 21) (v := ?_) (l' := #[true, true, true, true, true, false, false, false, false]) rfl rfl (by kernel_rfl) (by kernel_rfl) (by kernel_rfl) (by kernel_rfl) (fun _ _ _ h => h) (Or.inl ⟨by rfl, ?_⟩) (by assumption) ?_; rotate_left; · (intro w' hSw; (try dsimp only at hSw); go_simp; (try with_reducible rfl))
  try simp only [Act.put, List.setIfInBounds_toArray, List.set_cons_zero, List.set_cons_succ]
  refine take_to (i := 5) (d := some 22) (v := ?_) (l' := #[true, true, true, true, true, true, false, false, false]) rfl rfl (by kernel_rfl) (by kernel_rfl) (by kernel_rfl) (by kernel_rfl) (fun _ _ _ h => h) (Or.inl ⟨by rfl, ?_⟩) (by assumption) ?_; rotate_left; · (intro w' hSw; (try dsimp only at hSw); go_simp; (try with_reducible rfl))
  try simp only [Act.put, List.setIfInBounds_toArray, List.set_cons_zero, List.set_cons_succ]
  refine one_to (i := 6) (l' := #[true, true, true, true, true, true, true, false, false]) rfl (by kernel_rfl) (by kernel_rfl) (fun K hK => ?_)
  go_simp
  refine (HSO.out _ HW.out.drew.bel).mono ?_
  rintro e w5 ⟨rfl, hb5⟩; have H5 := Lib.hid (HW.out.drew.go hb5); clear hb5
  dsimp only
  refine hK.out _ _ (by (first | exact M7.c0 | exact (H5.out.mb.gr hg6 hne).c0 | exact H5.out.mb.c0 | exact HW.out.drew.mb.c0)) (fun hHeld => ?_)
  clear hK K
  try simp only [Act.put, List.setIfInBounds_toArray, List.set_cons_zero, List.set_cons_succ]
  refine one_to (i := 7) (l' := #[true, true, true, true, true, true, true, true, false]) rfl (by kernel_rfl) (by kernel_rfl) (fun K hK => ?_)
  go_simp
  refine (HTE.out _ H5.out).mono ?_
  rintro e w6 ⟨rfl, hg6, hk6⟩
  dsimp only
  refine hK.out _ _ (by (first | exact M7.c0 | exact (H5.out.mb.gr hg6 hne).c0 | exact H5.out.mb.c0 | exact HW.out.drew.mb.c0)) (fun hHeld => ?_)
  clear hK K
  try simp only [Act.put, List.setIfInBounds_toArray, List.set_cons_zero, List.set_cons_succ]
  refine one_to (i := 8) (l' := #[true, true, true, true, true, true, true, true, true]) rfl (by kernel_rfl) (by kernel_rfl) (fun K hK => ?_)
  rw [if_pos (by rfl)]
  have t6 := H5.out.tag.gr hg6 (by omega)
  refine wp_store_mid 25 _ _ rfl w.heap.size 0 (tagC s).toArray rfl rfl (by simpa [tagC_len] using t6.there 32 (Nat.le_refl _)) (by simp [infoTag, tagC_len]) (tagC_one _) ?_
  rw [List.toList_toArray]
  have HR7 := Lib.hid (World.rangeAt_setCells_same w6 w.heap.size 0 (tagC s) (by rw [tagC_len]; exact t6.there 32 (Nat.le_refl _)))
  have gs := gr_setCells (hb := w.heap.size) (tagC s) 0 w6
  have HG7 := Lib.hid (gr_new ((below_gr H5.out.bel (some B)).trans hg6) gs (Nat.le_refl _))
  have HK7 := Lib.hid (hk6.kept gs (by simp; omega))
  have M7 := (H5.out.mb.gr hg6 hne).gr gs (by simp; omega)
  generalize w6.setCells w.heap.size 0 (tagC s) = W7 at HR7 HG7 HK7 M7 ⊢
  clear t6 gs
  refine hK.out _ _ (by (first | exact M7.c0 | exact (H5.out.mb.gr hg6 hne).c0 | exact H5.out.mb.c0 | exact HW.out.drew.mb.c0)) (fun hHeld => ?_)
  clear hK K
  try simp only [Act.put, List.setIfInBounds_toArray, List.set_cons_zero, List.set_cons_succ]
  refine wpAnyH_done (by kernel_rfl) ?_ _
  refine NoPanic.normal ?_
  clear hHeld
  clear M7 hg6 hk6 H5 HW HTE HSO
  go_wp2
  refine bodyPost_ret (v := tagV s) ?_ rfl ⟨rfl, HG7.out, HK7.out⟩
  exact results_cell_mid (p := 6) (ty := 25) rfl _ W7 w.heap.size _ _ rfl HR7.out Tryz.underlying25 rfl (by simp [infoTag, tagC_len])
end Go.Proofs.YtejknkgbkkdaiaaGreatDoor
