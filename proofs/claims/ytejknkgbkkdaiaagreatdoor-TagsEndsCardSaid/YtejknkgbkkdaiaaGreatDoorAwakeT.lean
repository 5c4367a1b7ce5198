/-
  Contract: the chapter's example of tags is answered.
-/
import Derived.Test.YtejknkgbkkdaiaaGreatDoorTold
namespace Go.Proofs.YtejknkgbkkdaiaaGreatDoor
open Go.RowKit
set_option linter.unusedVariables false
set_option linter.unusedSimpArgs false

structure AW (w : World) (mb B : Nat) (L : List Thing) (W : World) : Prop where
  bel : Below w.heap.size w W
  lo : w.heap.size ≤ mb ∧ w.heap.size ≤ B
  mb : MB W mb B false (.slice none 0 0)
  bk : BK W B L
theorem AW.go {w W W' : World} {mb B : Nat} {L : List Thing} (h : AW w mb B L W) (g : Below W.heap.size W W') : AW w mb B L W' := ⟨h.bel.trans (g.mono h.bel.size), h.lo, h.mb.below g, h.bk.below g⟩
theorem AW.drew {w W : World} {mb B : Nat} {L : List Thing} (h : AW w mb B L W) : AW w mb B L W.drew := h.go (Below.refl _ _).drew
theorem AW.alloc {w W : World} {mb B : Nat} {L : List Thing} (h : AW w mb B L W) (o : Obj) : AW w mb B L (W.alloc o) := h.go ((Below.refl _ _).alloc (Nat.le_refl _) o)
theorem AW.asked {w W W' : World} {mb B : Nat} {L L' : List Thing} (h : AW w mb B L W) (g : W.grownBy W' (some B)) (hk : BK W' B L') : AW w mb B L' W' :=
  ⟨h.bel.grown g h.bel.size (by rintro k ⟨⟩; exact h.lo.2), h.lo, h.mb.gr g (by have := h.mb.apart h.bk; simpa using this), hk⟩
def xa : Thing := (0, [], [97], 0)
def xd : Thing := (2, [], [], 0)
theorem xa_by : byL (fun _ => 97#8) 1 = [97] := by decide +kernel
structure AW3 (w : World) (mb B T1 T2 T3 : Nat) (W : World) : Prop where
  aw : AW w mb B [xa, xd] W
  t1 : BT W T1 32 (numT 0)
  t2 : BT W T2 32 (numT 1)
  t3 : BT W T3 32 (numT 0)
theorem AW3.go {w W W' : World} {mb B T1 T2 T3 : Nat} (h : AW3 w mb B T1 T2 T3 W) (g : Below W.heap.size W W') : AW3 w mb B T1 T2 T3 W' := ⟨h.aw.go g, h.t1.below' g, h.t2.below' g, h.t3.below' g⟩
theorem AW3.drew {w W : World} {mb B T1 T2 T3 : Nat} (h : AW3 w mb B T1 T2 T3 W) : AW3 w mb B T1 T2 T3 W.drew := h.go (Below.refl _ _).drew
theorem forget_list {P : Program} {ops : Array Oper} {Q : Exit → Act → World → Prop} {rest : List Oper} {a : Act} {w : World} (S : World → Prop) (h : S w) (H : ∀ W, S W → wpList P ops Q rest a W) : wpList P ops Q rest a w := H w h
set_option maxHeartbeats 1000000 in
set_option maxRecDepth 100000 in
theorem awake4 (w : World) :
    Calls Tryz.prog 6 #[] w fun e w' => e = .returned (.bool true) ∧ Below w.heap.size w w' := by
  have kc := fun (W : World) => Lib.run_convert_bytes_const (P := Tryz.prog) W 22 5 #[.int .u8 97] 1 1 Tryz.underlying22 Tryz.underlying5
  simp only [List.size_toArray, List.length_cons, List.length_nil, World.size_alloc, Nat.zero_add, Nat.reduceAdd] at kc
  have hsum : ∀ (W : World) (mb B H A : Nat) (L : List Thing), AW w mb B L W → L.length ≤ 5 → W.heap[H]? = some (.cells #[.slice (some ⟨A, 0, none⟩) 1 1] 22 (0, 0)) → W.heap[A]? = some (.cells #[.int .u8 97] 5 (1, 2)) →
      Calls Tryz.prog 21 #[.pointer (some ⟨mb, 0, none⟩), .slice (some ⟨H, 0, none⟩) 1 1] W fun e w' => e = .returned (tagV (numT (idx (addT L xa) xa))) ∧ W.grownBy w' (some B) ∧ BK w' B (addT L xa) := fun W mb B H A L hV hL hW hA => by
    have h := sumM_any W mb B L hV.mb hV.bk (by omega) _ 1 1 _ _ _ _ (fun _ => 97#8) (RI.one (f := fun _ => 97#8) hW (Nat.le_refl _) (by unfold maxLen; omega) (reads_at hA fun i hi => by rw [show i = 0 by omega]; rfl)) (Nat.le_refl _) (by omega) (by rw [pos_one]; omega) (fun i hi j hj => rfl)
    rw [pos_one, xa_by] at h
    exact h
  have HSM := Lib.hid hsum
  clear hsum
  go_enter Tryz.func6, Tryz.ntmps6
  go_wp2_with fail
  refine (newT_any w _).mono ?_
  rintro e w1 ⟨mb, B, rfl, h1, h2, hb, hmb, hbk⟩
  have H1 := Lib.hid (show AW w mb B [] w1 from ⟨hb, ⟨h1, h2⟩, hmb, hbk⟩)
  clear hb hmb hbk
  go_upto_region 2 with (fail)
  refine wp_region_lit ?_
  refine wpList_plain rfl (fun K hK => ?_)
  go_simp
  refine hK _ _ ?_
  clear hK K
  refine wpList_plain rfl (fun K hK => ?_)
  go_simp
  refine hK _ _ ?_
  clear hK K
  refine wpList_plain rfl (fun K hK => ?_)
  go_simp
  refine hK _ _ ?_
  clear hK K
  refine wpList_plain rfl (fun K hK => ?_)
  go_simp
  refine hK _ _ ?_
  clear hK K
  refine wpList_plain rfl (fun K hK => ?_)
  go_simp
  refine (HSM.out _ mb B _ _ _ ((H1.out.alloc _).alloc _) (by simp) (laid_at (by simp)) (laid_old (laid_at rfl))).mono ?_
  rintro e w2 ⟨rfl, hg2, hk2⟩
  dsimp only
  refine hK _ _ ?_
  clear hK K
  have H2 := Lib.hid (show AW w mb B [xa] w2 from ((H1.out.alloc _).alloc _).asked hg2 hk2)
  clear hg2 hk2 H1
  rw [show numT (idx (addT [] xa) xa) = numT 0 from rfl]
  refine wpList_plain rfl (fun K hK => ?_)
  go_simp
  refine hK _ _ ?_
  clear hK K
  refine wpList_plain rfl (fun K hK => ?_)
  go_simp
  refine (drawM_any w2 mb B [xa] H2.out.mb H2.out.bk (by simp) 0 (by decide)).mono ?_
  rintro e w3 ⟨rfl, hg3, hk3⟩
  dsimp only
  refine hK _ _ ?_
  clear hK K
  have H3 := Lib.hid (show AW w mb B [xa, xd] w3 from H2.out.asked hg3 hk3)
  clear hg3 hk3 H2
  rw [show numT (idx (addT [xa] (2, [], [], 0)) (2, [], [], 0)) = numT 1 from rfl]
  refine wpList_plain rfl (fun K hK => ?_)
  go_simp
  refine hK _ _ ?_
  clear hK K
  refine wpList_plain rfl (fun K hK => ?_)
  go_simp
  refine hK _ _ ?_
  clear hK K
  refine wpList_plain rfl (fun K hK => ?_)
  go_simp
  refine hK _ _ ?_
  clear hK K
  refine wpList_plain rfl (fun K hK => ?_)
  go_simp
  refine hK _ _ ?_
  clear hK K
  refine wpList_plain rfl (fun K hK => ?_)
  go_simp
  refine (HSM.out _ mb B _ _ _ ((H3.out.alloc _).alloc _) (by simp) (laid_at (by simp)) (laid_old (laid_at rfl))).mono ?_
  rintro e w4 ⟨rfl, hg4, hk4⟩
  dsimp only
  refine hK _ _ ?_
  clear hK K
  have H4 := Lib.hid (show AW w mb B [xa, xd] w4 from ((H3.out.alloc _).alloc _).asked hg4 hk4)
  clear hg4 hk4 H3 HSM kc
  rw [show numT (idx (addT [xa, xd] xa) xa) = numT 0 from rfl]
  refine wpList_plain rfl (fun K hK => ?_)
  go_simp
  refine hK _ _ ?_
  clear hK K
  refine wpList_plain rfl (fun K hK => ?_)
  go_simp
  refine hK _ _ ?_
  clear hK K
  refine wpList_plain rfl (fun K hK => ?_)
  go_simp
  refine hK _ _ ?_
  clear hK K
  have z1 : BT (((w4.alloc (.cells (List.replicate 32 (Value.int .u8 0)).toArray 25)).alloc (.cells (List.replicate 32 (Value.int .u8 0)).toArray 25)).alloc (.cells (List.replicate 32 (Value.int .u8 0)).toArray 25)) w4.heap.size 32 (fun _ => 0#8) := BT.of_cells (laid_old (laid_old (laid_at rfl))) (fun i hi => zero_atL 32 i hi)
  have z2 : BT (((w4.alloc (.cells (List.replicate 32 (Value.int .u8 0)).toArray 25)).alloc (.cells (List.replicate 32 (Value.int .u8 0)).toArray 25)).alloc (.cells (List.replicate 32 (Value.int .u8 0)).toArray 25)) (w4.heap.size + 1) 32 (fun _ => 0#8) := BT.of_cells (laid_old (laid_at (by simp))) (fun i hi => zero_atL 32 i hi)
  have z3 : BT (((w4.alloc (.cells (List.replicate 32 (Value.int .u8 0)).toArray 25)).alloc (.cells (List.replicate 32 (Value.int .u8 0)).toArray 25)).alloc (.cells (List.replicate 32 (Value.int .u8 0)).toArray 25)) (w4.heap.size + 2) 32 (fun _ => 0#8) := BT.of_cells (laid_at (by simp)) (fun i hi => zero_atL 32 i hi)
  have zb : Below w4.heap.size w4 (((w4.alloc (.cells (List.replicate 32 (Value.int .u8 0)).toArray 25)).alloc (.cells (List.replicate 32 (Value.int .u8 0)).toArray 25)).alloc (.cells (List.replicate 32 (Value.int .u8 0)).toArray 25)) := (((Below.refl _ _).alloc (Nat.le_refl _) _).alloc (by simp) _).alloc (by simp; omega) _
  refine forget_list (fun Z => BT Z w4.heap.size 32 (fun _ => 0#8) ∧ BT Z (w4.heap.size + 1) 32 (fun _ => 0#8) ∧ BT Z (w4.heap.size + 2) 32 (fun _ => 0#8) ∧ Below w4.heap.size w4 Z) ⟨z1, z2, z3, zb⟩ ?_
  clear z1 z2 z3 zb
  rintro Z ⟨z1, z2, z3, zb⟩
  refine wpList_store_mid rfl 25 _ _ rfl (w4.heap.size) 0 (tagC (numT 0)).toArray rfl rfl (by simpa [tagC_len] using z1.there 32 (Nat.le_refl _)) (by simp [infoTag, tagC_len]) (tagC_one _) ?_
  rw [List.toList_toArray]
  have gZ1 := gr_setCells (hb := w4.heap.size) (tagC (numT 0)) 0 Z
  have y1 := z1.setFirst (f' := numT 0) 32 (Nat.le_refl _) (tagC (numT 0)) rfl (fun j h1 h2 => by omega)
  have y2 := z2.gr gZ1 (by omega)
  have y3 := z3.gr gZ1 (by omega)
  have yb := zb.grown gZ1 zb.size (by rintro k ⟨⟩; omega)
  generalize Z.setCells (w4.heap.size) 0 (tagC (numT 0)) = Z1 at y1 y2 y3 yb ⊢
  clear z1 z2 z3 zb gZ1
  have z1 := y1
  have z2 := y2
  have z3 := y3
  have zb := yb
  clear y1 y2 y3 yb
  refine wpList_store_mid rfl 25 _ _ rfl (w4.heap.size + 1) 0 (tagC (numT 1)).toArray rfl rfl (by simpa [tagC_len] using z2.there 32 (Nat.le_refl _)) (by simp [infoTag, tagC_len]) (tagC_one _) ?_
  rw [List.toList_toArray]
  have gZ2 := gr_setCells (hb := w4.heap.size + 1) (tagC (numT 1)) 0 Z1
  have y2 := z2.setFirst (f' := numT 1) 32 (Nat.le_refl _) (tagC (numT 1)) rfl (fun j h1 h2 => by omega)
  have y1 := z1.gr gZ2 (by omega)
  have y3 := z3.gr gZ2 (by omega)
  have yb := zb.grown gZ2 zb.size (by rintro k ⟨⟩; omega)
  generalize Z1.setCells (w4.heap.size + 1) 0 (tagC (numT 1)) = Z2 at y1 y2 y3 yb ⊢
  clear z1 z2 z3 zb gZ2
  have z1 := y1
  have z2 := y2
  have z3 := y3
  have zb := yb
  clear y1 y2 y3 yb
  refine wpList_store_mid rfl 25 _ _ rfl (w4.heap.size + 2) 0 (tagC (numT 0)).toArray rfl rfl (by simpa [tagC_len] using z3.there 32 (Nat.le_refl _)) (by simp [infoTag, tagC_len]) (tagC_one _) ?_
  rw [List.toList_toArray]
  have gZ3 := gr_setCells (hb := w4.heap.size + 2) (tagC (numT 0)) 0 Z2
  have y3 := z3.setFirst (f' := numT 0) 32 (Nat.le_refl _) (tagC (numT 0)) rfl (fun j h1 h2 => by omega)
  have y1 := z1.gr gZ3 (by omega)
  have y2 := z2.gr gZ3 (by omega)
  have yb := zb.grown gZ3 zb.size (by rintro k ⟨⟩; omega)
  generalize Z2.setCells (w4.heap.size + 2) 0 (tagC (numT 0)) = Z3 at y1 y2 y3 yb ⊢
  clear z1 z2 z3 zb gZ3
  have HV := Lib.hid (show AW3 w mb B w4.heap.size (w4.heap.size + 1) (w4.heap.size + 2) Z3 from ⟨H4.out.go yb, y1, y2, y3⟩)
  clear y1 y2 y3 yb H4
  show Exit.then _ _ Exit.normal _ Z3
  obtain ⟨V0, hV0⟩ : ∃ V, V = tagV (numT 0) := ⟨_, rfl⟩
  obtain ⟨V1, hV1⟩ : ∃ V, V = tagV (numT 1) := ⟨_, rfl⟩
  have t01 : teq (numT 0) (numT 1) = false := by decide +kernel
  have q00 : ∀ w, (binOp .eql 25 V0 V0).run Tryz.prog w = .ok (.bool true) w := by rw [hV0]; exact eql_tag _
  have q11 : ∀ w, (binOp .eql 25 V1 V1).run Tryz.prog w = .ok (.bool true) w := by rw [hV1]; exact eql_tag _
  have q01 : ∀ w, (binOp .neq 25 V0 V1).run Tryz.prog w = .ok (.bool true) w := by rw [hV0, hV1]; intro w; rw [neq_tags, t01]; rfl
  have g00 : ∀ op x y w, (eqGuard op 25 x y V0 V0).run Tryz.prog w = .ok () w := by rw [hV0]; exact guard_tag _ _
  have g11 : ∀ op x y w, (eqGuard op 25 x y V1 V1).run Tryz.prog w = .ok () w := by rw [hV1]; exact guard_tag _ _
  have g01 : ∀ op x y w, (eqGuard op 25 x y V0 V1).run Tryz.prog w = .ok () w := by rw [hV0, hV1]; exact guard_tag _ _
  have HN0 := Lib.hid (show ∀ W, Calls Tryz.prog 19 #[.int .i64 0] W fun e w' => e = .returned V0 ∧ Below W.heap.size W w' by rw [hV0]; exact number_any 0 0 (by decide))
  have HN1 := Lib.hid (show ∀ W, Calls Tryz.prog 19 #[.int .i64 1] W fun e w' => e = .returned V1 ∧ Below W.heap.size W w' by rw [hV1]; exact number_any 1 1 (by decide))
  have HTD := Lib.hid (show ∀ W, AW w mb B [xa, xd] W → Calls Tryz.prog 13 #[.pointer (some ⟨mb, 0, none⟩), V1] W fun e w' => e = .returned (.bool true) ∧ Below W.heap.size W w' from fun W hW => by
    rw [hV1, ← toldB_num 2 1 (by omega) (by unfold lim64; omega)]; exact toldM_any W mb B false _ [xa, xd] (numT 1) hW.mb hW.bk (by simp))
  have HLN := Lib.hid (show ∀ W, AW w mb B [xa, xd] W → Calls Tryz.prog 12 #[.pointer (some ⟨mb, 0, none⟩)] W fun e w' => e = .returned (.int .i64 2) ∧ Below W.heap.size W w' from fun W hW => lenM_any W mb B false _ [xa, xd] hW.mb hW.bk)
  have L1 := Lib.hid (fun (ops : Array Oper) (o : Oper) (ac : Act) (x : Operand) (h1 : Region.wanted o (yielded ops ac.tmps) = true) (h2 : o.op = .load 25 x) (h3 : ac.eval x = .pointer (some ⟨w4.heap.size, 0, none⟩)) => hV0 ▸ tag_load (S := AW3 w mb B w4.heap.size (w4.heap.size + 1) (w4.heap.size + 2)) (fun _ h => h.t1) h1 h2 h3)
  have L2 := Lib.hid (fun (ops : Array Oper) (o : Oper) (ac : Act) (x : Operand) (h1 : Region.wanted o (yielded ops ac.tmps) = true) (h2 : o.op = .load 25 x) (h3 : ac.eval x = .pointer (some ⟨w4.heap.size + 1, 0, none⟩)) => hV1 ▸ tag_load (S := AW3 w mb B w4.heap.size (w4.heap.size + 1) (w4.heap.size + 2)) (fun _ h => h.t2) h1 h2 h3)
  have L3 := Lib.hid (fun (ops : Array Oper) (o : Oper) (ac : Act) (x : Operand) (h1 : Region.wanted o (yielded ops ac.tmps) = true) (h2 : o.op = .load 25 x) (h3 : ac.eval x = .pointer (some ⟨w4.heap.size + 1 + 1, 0, none⟩)) => hV0 ▸ tag_load (S := AW3 w mb B w4.heap.size (w4.heap.size + 1) (w4.heap.size + 2)) (fun _ h => h.t3) h1 h2 h3)
  clear hV0 hV1 t01
  go_upto_region 3 with (fail)
  refine wp_region_noPanic ?_
  refine wp_region_start (n := 34) (l := #[false, false, false, false, false, false, false, false, false, false, false, false, false, false, false, false, false, false, false, false, false, false, false, false, false, false, false, false, false, false, false, false, false, false]) (S := (AW3 w mb B w4.heap.size (w4.heap.size + 1) (w4.heap.size + 2))) (by kernel_rfl) rfl (by kernel_rfl) (by (repeat (first | exact HV.out | apply AW3.drew | (refine AW3.go ?_ (by assumption))))) (fun hHeld => ?_)
  refine take_to (i := 0) (d := some 18) (v := V0) (l' := #[true, false, false, false, false, false, false, false, false, false, false, false, false, false, false, false, false, false, false, false, false, false, false, false, false, false, false, false, false, false, false, false, false, false]) rfl rfl (by kernel_rfl) (by kernel_rfl) (by kernel_rfl) (by kernel_rfl) (fun _ _ _ h => h) ?_ (by assumption) ?_
  · exact L1.out _ _ _ _ (by rfl) rfl rfl
  try simp only [Act.put, List.setIfInBounds_toArray, List.set_cons_zero, List.set_cons_succ]
  refine take_to (i := 1) (d := some 19) (v := V0) (l' := #[true, true, false, false, false, false, false, false, false, false, false, false, false, false, false, false, false, false, false, false, false, false, false, false, false, false, false, false, false, false, false, false, false, false]) rfl rfl (by kernel_rfl) (by kernel_rfl) (by kernel_rfl) (by kernel_rfl) (fun _ _ _ h => h) ?_ (by assumption) ?_
  · exact L3.out _ _ _ _ (by rfl) rfl rfl
  try simp only [Act.put, List.setIfInBounds_toArray, List.set_cons_zero, List.set_cons_succ]
  refine take_to (i := 2) (d := some 20) (v := ?_) (l' := #[true, true, true, false, false, false, false, false, false, false, false, false, false, false, false, false, false, false, false, false, false, false, false, false, false, false, false, false, false, false, false, false, false, false]) rfl rfl (by kernel_rfl) (by kernel_rfl) (by kernel_rfl) (by kernel_rfl) (fun _ _ _ h => h) (Or.inl ⟨by rfl, ?_⟩) (by assumption) ?_; rotate_left; · (intro w' hSw; (try dsimp only at hSw); go_simp; (try with_reducible rfl))
  try simp only [Act.put, List.setIfInBounds_toArray, List.set_cons_zero, List.set_cons_succ]
  refine take_to (i := 3) (d := some 21) (v := ?_) (l' := #[true, true, true, true, false, false, false, false, false, false, false, false, false, false, false, false, false, false, false, false, false, false, false, false, false, false, false, false, false, false, false, false, false, false]) rfl rfl (by kernel_rfl) (by kernel_rfl) (by kernel_rfl) (by kernel_rfl) (fun _ _ _ h => h) (Or.inl ⟨by rfl, ?_⟩) (by assumption) ?_; rotate_left; · (intro w' hSw; (try dsimp only at hSw); go_simp; (try with_reducible rfl))
  try simp only [Act.put, List.setIfInBounds_toArray, List.set_cons_zero, List.set_cons_succ]
  refine take_to (i := 4) (d := some 22) (v := V0) (l' := #[true, true, true, true, true, false, false, false, false, false, false, false, false, false, false, false, false, false, false, false, false, false, false, false, false, false, false, false, false, false, false, false, false, false]) rfl rfl (by kernel_rfl) (by kernel_rfl) (by kernel_rfl) (by kernel_rfl) (fun _ _ _ h => h) ?_ (by assumption) ?_
  · exact L1.out _ _ _ _ (by rfl) rfl rfl
  try simp only [Act.put, List.setIfInBounds_toArray, List.set_cons_zero, List.set_cons_succ]
  refine take_to (i := 5) (d := some 23) (v := V1) (l' := #[true, true, true, true, true, true, false, false, false, false, false, false, false, false, false, false, false, false, false, false, false, false, false, false, false, false, false, false, false, false, false, false, false, false]) rfl rfl (by kernel_rfl) (by kernel_rfl) (by kernel_rfl) (by kernel_rfl) (fun _ _ _ h => h) ?_ (by assumption) ?_
  · exact L2.out _ _ _ _ (by rfl) rfl rfl
  try simp only [Act.put, List.setIfInBounds_toArray, List.set_cons_zero, List.set_cons_succ]
  refine take_to (i := 6) (d := some 24) (v := ?_) (l' := #[true, true, true, true, true, true, true, false, false, false, false, false, false, false, false, false, false, false, false, false, false, false, false, false, false, false, false, false, false, false, false, false, false, false]) rfl rfl (by kernel_rfl) (by kernel_rfl) (by kernel_rfl) (by kernel_rfl) (fun _ _ _ h => h) (Or.inl ⟨by rfl, ?_⟩) (by assumption) ?_; rotate_left; · (intro w' hSw; (try dsimp only at hSw); go_simp; (try with_reducible rfl))
  try simp only [Act.put, List.setIfInBounds_toArray, List.set_cons_zero, List.set_cons_succ]
  refine take_to (i := 7) (d := some 25) (v := ?_) (l' := #[true, true, true, true, true, true, true, true, false, false, false, false, false, false, false, false, false, false, false, false, false, false, false, false, false, false, false, false, false, false, false, false, false, false]) rfl rfl (by kernel_rfl) (by kernel_rfl) (by kernel_rfl) (by kernel_rfl) (fun _ _ _ h => h) (Or.inl ⟨by rfl, ?_⟩) (by assumption) ?_; rotate_left; · (intro w' hSw; (try dsimp only at hSw); go_simp; (try with_reducible rfl))
  try simp only [Act.put, List.setIfInBounds_toArray, List.set_cons_zero, List.set_cons_succ]
  refine take_to (i := 8) (d := some 26) (v := ?_) (l' := #[true, true, true, true, true, true, true, true, true, false, false, false, false, false, false, false, false, false, false, false, false, false, false, false, false, false, false, false, false, false, false, false, false, false]) rfl rfl (by kernel_rfl) (by kernel_rfl) (by kernel_rfl) (by kernel_rfl) (fun _ _ _ h => h) (Or.inl ⟨by rfl, ?_⟩) (by assumption) ?_; rotate_left; · (intro w' hSw; (try dsimp only at hSw); go_simp; (try with_reducible rfl))
  try simp only [Act.put, List.setIfInBounds_toArray, List.set_cons_zero, List.set_cons_succ]
  refine take_to (i := 9) (d := some 27) (v := V0) (l' := #[true, true, true, true, true, true, true, true, true, true, false, false, false, false, false, false, false, false, false, false, false, false, false, false, false, false, false, false, false, false, false, false, false, false]) rfl rfl (by kernel_rfl) (by kernel_rfl) (by kernel_rfl) (by kernel_rfl) (fun _ _ _ h => h) ?_ (by assumption) ?_
  · exact L1.out _ _ _ _ (by rfl) rfl rfl
  try simp only [Act.put, List.setIfInBounds_toArray, List.set_cons_zero, List.set_cons_succ]
  refine one_to (i := 10) (l' := #[true, true, true, true, true, true, true, true, true, true, true, false, false, false, false, false, false, false, false, false, false, false, false, false, false, false, false, false, false, false, false, false, false, false]) rfl (by kernel_rfl) (by kernel_rfl) (fun K hK => ?_)
  go_simp
  refine (HN0.out _).mono ?_
  rintro e w5 ⟨rfl, hb5⟩
  dsimp only
  refine hK.out _ _ (by (repeat (first | exact HV.out | apply AW3.drew | (refine AW3.go ?_ (by assumption))))) (fun hHeld => ?_)
  clear hK K
  try simp only [Act.put, List.setIfInBounds_toArray, List.set_cons_zero, List.set_cons_succ]
  refine take_to (i := 11) (d := some 29) (v := ?_) (l' := #[true, true, true, true, true, true, true, true, true, true, true, true, false, false, false, false, false, false, false, false, false, false, false, false, false, false, false, false, false, false, false, false, false, false]) rfl rfl (by kernel_rfl) (by kernel_rfl) (by kernel_rfl) (by kernel_rfl) (fun _ _ _ h => h) (Or.inl ⟨by rfl, ?_⟩) (by assumption) ?_; rotate_left; · (intro w' hSw; (try dsimp only at hSw); go_simp; (try with_reducible rfl))
  try simp only [Act.put, List.setIfInBounds_toArray, List.set_cons_zero, List.set_cons_succ]
  refine take_to (i := 12) (d := some 30) (v := ?_) (l' := #[true, true, true, true, true, true, true, true, true, true, true, true, true, false, false, false, false, false, false, false, false, false, false, false, false, false, false, false, false, false, false, false, false, false]) rfl rfl (by kernel_rfl) (by kernel_rfl) (by kernel_rfl) (by kernel_rfl) (fun _ _ _ h => h) (Or.inl ⟨by rfl, ?_⟩) (by assumption) ?_; rotate_left; · (intro w' hSw; (try dsimp only at hSw); go_simp; (try with_reducible rfl))
  try simp only [Act.put, List.setIfInBounds_toArray, List.set_cons_zero, List.set_cons_succ]
  refine take_to (i := 13) (d := some 31) (v := ?_) (l' := #[true, true, true, true, true, true, true, true, true, true, true, true, true, true, false, false, false, false, false, false, false, false, false, false, false, false, false, false, false, false, false, false, false, false]) rfl rfl (by kernel_rfl) (by kernel_rfl) (by kernel_rfl) (by kernel_rfl) (fun _ _ _ h => h) (Or.inl ⟨by rfl, ?_⟩) (by assumption) ?_; rotate_left; · (intro w' hSw; (try dsimp only at hSw); go_simp; (try with_reducible rfl))
  try simp only [Act.put, List.setIfInBounds_toArray, List.set_cons_zero, List.set_cons_succ]
  refine take_to (i := 14) (d := some 32) (v := V1) (l' := #[true, true, true, true, true, true, true, true, true, true, true, true, true, true, true, false, false, false, false, false, false, false, false, false, false, false, false, false, false, false, false, false, false, false]) rfl rfl (by kernel_rfl) (by kernel_rfl) (by kernel_rfl) (by kernel_rfl) (fun _ _ _ h => h) ?_ (by assumption) ?_
  · exact L2.out _ _ _ _ (by rfl) rfl rfl
  try simp only [Act.put, List.setIfInBounds_toArray, List.set_cons_zero, List.set_cons_succ]
  refine one_to (i := 15) (l' := #[true, true, true, true, true, true, true, true, true, true, true, true, true, true, true, true, false, false, false, false, false, false, false, false, false, false, false, false, false, false, false, false, false, false]) rfl (by kernel_rfl) (by kernel_rfl) (fun K hK => ?_)
  go_simp
  refine (HN1.out _).mono ?_
  rintro e w6 ⟨rfl, hb6⟩
  dsimp only
  refine hK.out _ _ (by (repeat (first | exact HV.out | apply AW3.drew | (refine AW3.go ?_ (by assumption))))) (fun hHeld => ?_)
  clear hK K
  try simp only [Act.put, List.setIfInBounds_toArray, List.set_cons_zero, List.set_cons_succ]
  refine take_to (i := 16) (d := some 34) (v := ?_) (l' := #[true, true, true, true, true, true, true, true, true, true, true, true, true, true, true, true, true, false, false, false, false, false, false, false, false, false, false, false, false, false, false, false, false, false]) rfl rfl (by kernel_rfl) (by kernel_rfl) (by kernel_rfl) (by kernel_rfl) (fun _ _ _ h => h) (Or.inl ⟨by rfl, ?_⟩) (by assumption) ?_; rotate_left; · (intro w' hSw; (try dsimp only at hSw); go_simp; (try with_reducible rfl))
  try simp only [Act.put, List.setIfInBounds_toArray, List.set_cons_zero, List.set_cons_succ]
  refine take_to (i := 17) (d := some 35) (v := ?_) (l' := #[true, true, true, true, true, true, true, true, true, true, true, true, true, true, true, true, true, true, false, false, false, false, false, false, false, false, false, false, false, false, false, false, false, false]) rfl rfl (by kernel_rfl) (by kernel_rfl) (by kernel_rfl) (by kernel_rfl) (fun _ _ _ h => h) (Or.inl ⟨by rfl, ?_⟩) (by assumption) ?_; rotate_left; · (intro w' hSw; (try dsimp only at hSw); go_simp; (try with_reducible rfl))
  try simp only [Act.put, List.setIfInBounds_toArray, List.set_cons_zero, List.set_cons_succ]
  refine take_to (i := 18) (d := some 36) (v := ?_) (l' := #[true, true, true, true, true, true, true, true, true, true, true, true, true, true, true, true, true, true, true, false, false, false, false, false, false, false, false, false, false, false, false, false, false, false]) rfl rfl (by kernel_rfl) (by kernel_rfl) (by kernel_rfl) (by kernel_rfl) (fun _ _ _ h => h) (Or.inl ⟨by rfl, ?_⟩) (by assumption) ?_; rotate_left; · (intro w' hSw; (try dsimp only at hSw); go_simp; (try with_reducible rfl))
  try simp only [Act.put, List.setIfInBounds_toArray, List.set_cons_zero, List.set_cons_succ]
  refine take_to (i := 19) (d := some 37) (v := ?_) (l' := #[true, true, true, true, true, true, true, true, true, true, true, true, true, true, true, true, true, true, true, true, false, false, false, false, false, false, false, false, false, false, false, false, false, false]) rfl rfl (by kernel_rfl) (by kernel_rfl) (by kernel_rfl) (by kernel_rfl) (fun _ _ _ h => h) (Or.inl ⟨by rfl, ?_⟩) (by assumption) ?_; rotate_left; · (intro w' hSw; (try dsimp only at hSw); go_simp; (try with_reducible rfl))
  try simp only [Act.put, List.setIfInBounds_toArray, List.set_cons_zero, List.set_cons_succ]
  refine one_to (i := 20) (l' := #[true, true, true, true, true, true, true, true, true, true, true, true, true, true, true, true, true, true, true, true, true, false, false, false, false, false, false, false, false, false, false, false, false, false]) rfl (by kernel_rfl) (by kernel_rfl) (fun K hK => ?_)
  go_simp
  refine (HLN.out _ (show AW3 w mb B w4.heap.size (w4.heap.size + 1) (w4.heap.size + 2) _ from (by repeat (first | exact HV.out | apply AW3.drew | (refine AW3.go ?_ (by assumption))))).aw).mono ?_
  rintro e w7 ⟨rfl, hb7⟩
  dsimp only
  refine hK.out _ _ (by (repeat (first | exact HV.out | apply AW3.drew | (refine AW3.go ?_ (by assumption))))) (fun hHeld => ?_)
  clear hK K
  try simp only [Act.put, List.setIfInBounds_toArray, List.set_cons_zero, List.set_cons_succ]
  refine take_to (i := 21) (d := some 39) (v := ?_) (l' := #[true, true, true, true, true, true, true, true, true, true, true, true, true, true, true, true, true, true, true, true, true, true, false, false, false, false, false, false, false, false, false, false, false, false]) rfl rfl (by kernel_rfl) (by kernel_rfl) (by kernel_rfl) (by kernel_rfl) (fun _ _ _ h => h) (Or.inl ⟨by rfl, ?_⟩) (by assumption) ?_; rotate_left; · (intro w' hSw; (try dsimp only at hSw); go_simp; (try with_reducible rfl))
  try simp only [Act.put, List.setIfInBounds_toArray, List.set_cons_zero, List.set_cons_succ]
  refine take_to (i := 22) (d := some 40) (v := ?_) (l' := #[true, true, true, true, true, true, true, true, true, true, true, true, true, true, true, true, true, true, true, true, true, true, true, false, false, false, false, false, false, false, false, false, false, false]) rfl rfl (by kernel_rfl) (by kernel_rfl) (by kernel_rfl) (by kernel_rfl) (fun _ _ _ h => h) (Or.inl ⟨by rfl, ?_⟩) (by assumption) ?_; rotate_left; · (intro w' hSw; (try dsimp only at hSw); go_simp; (try with_reducible rfl))
  try simp only [Act.put, List.setIfInBounds_toArray, List.set_cons_zero, List.set_cons_succ]
  refine take_to (i := 23) (d := some 41) (v := ?_) (l' := #[true, true, true, true, true, true, true, true, true, true, true, true, true, true, true, true, true, true, true, true, true, true, true, true, false, false, false, false, false, false, false, false, false, false]) rfl rfl (by kernel_rfl) (by kernel_rfl) (by kernel_rfl) (by kernel_rfl) (fun _ _ _ h => h) (Or.inl ⟨by rfl, ?_⟩) (by assumption) ?_; rotate_left; · (intro w' hSw; (try dsimp only at hSw); go_simp; (try with_reducible rfl))
  try simp only [Act.put, List.setIfInBounds_toArray, List.set_cons_zero, List.set_cons_succ]
  refine take_to (i := 24) (d := some 42) (v := ?_) (l' := #[true, true, true, true, true, true, true, true, true, true, true, true, true, true, true, true, true, true, true, true, true, true, true, true, true, false, false, false, false, false, false, false, false, false]) rfl rfl (by kernel_rfl) (by kernel_rfl) (by kernel_rfl) (by kernel_rfl) (fun _ _ _ h => h) (Or.inl ⟨by rfl, ?_⟩) (by assumption) ?_; rotate_left; · (intro w' hSw; (try dsimp only at hSw); go_simp; (try with_reducible rfl))
  try simp only [Act.put, List.setIfInBounds_toArray, List.set_cons_zero, List.set_cons_succ]
  refine take_to (i := 25) (d := some 43) (v := V1) (l' := #[true, true, true, true, true, true, true, true, true, true, true, true, true, true, true, true, true, true, true, true, true, true, true, true, true, true, false, false, false, false, false, false, false, false]) rfl rfl (by kernel_rfl) (by kernel_rfl) (by kernel_rfl) (by kernel_rfl) (fun _ _ _ h => h) ?_ (by assumption) ?_
  · exact L2.out _ _ _ _ (by rfl) rfl rfl
  try simp only [Act.put, List.setIfInBounds_toArray, List.set_cons_zero, List.set_cons_succ]
  refine one_to (i := 26) (l' := #[true, true, true, true, true, true, true, true, true, true, true, true, true, true, true, true, true, true, true, true, true, true, true, true, true, true, true, false, false, false, false, false, false, false]) rfl (by kernel_rfl) (by kernel_rfl) (fun K hK => ?_)
  go_simp
  refine (HTD.out _ (show AW3 w mb B w4.heap.size (w4.heap.size + 1) (w4.heap.size + 2) _ from (by repeat (first | exact HV.out | apply AW3.drew | (refine AW3.go ?_ (by assumption))))).aw).mono ?_
  rintro e w8 ⟨rfl, hb8⟩
  dsimp only
  refine hK.out _ _ (by (repeat (first | exact HV.out | apply AW3.drew | (refine AW3.go ?_ (by assumption))))) (fun hHeld => ?_)
  clear hK K
  try simp only [Act.put, List.setIfInBounds_toArray, List.set_cons_zero, List.set_cons_succ]
  refine take_to (i := 27) (d := some 45) (v := ?_) (l' := #[true, true, true, true, true, true, true, true, true, true, true, true, true, true, true, true, true, true, true, true, true, true, true, true, true, true, true, true, false, false, false, false, false, false]) rfl rfl (by kernel_rfl) (by kernel_rfl) (by kernel_rfl) (by kernel_rfl) (fun _ _ _ h => h) (Or.inl ⟨by rfl, ?_⟩) (by assumption) ?_; rotate_left; · (intro w' hSw; (try dsimp only at hSw); go_simp; (try with_reducible rfl))
  try simp only [Act.put, List.setIfInBounds_toArray, List.set_cons_zero, List.set_cons_succ]
  refine take_to (i := 28) (d := some 46) (v := ?_) (l' := #[true, true, true, true, true, true, true, true, true, true, true, true, true, true, true, true, true, true, true, true, true, true, true, true, true, true, true, true, true, false, false, false, false, false]) rfl rfl (by kernel_rfl) (by kernel_rfl) (by kernel_rfl) (by kernel_rfl) (fun _ _ _ h => h) (Or.inl ⟨by rfl, ?_⟩) (by assumption) ?_; rotate_left; · (intro w' hSw; (try dsimp only at hSw); go_simp; (try with_reducible rfl))
  try simp only [Act.put, List.setIfInBounds_toArray, List.set_cons_zero, List.set_cons_succ]
  refine take_to (i := 29) (d := some 47) (v := ?_) (l' := #[true, true, true, true, true, true, true, true, true, true, true, true, true, true, true, true, true, true, true, true, true, true, true, true, true, true, true, true, true, true, false, false, false, false]) rfl rfl (by kernel_rfl) (by kernel_rfl) (by kernel_rfl) (by kernel_rfl) (fun _ _ _ h => h) (Or.inl ⟨by rfl, ?_⟩) (by assumption) ?_; rotate_left; · (intro w' hSw; (try dsimp only at hSw); go_simp; (try with_reducible rfl))
  try simp only [Act.put, List.setIfInBounds_toArray, List.set_cons_zero, List.set_cons_succ]
  refine one_to (i := 30) (l' := #[true, true, true, true, true, true, true, true, true, true, true, true, true, true, true, true, true, true, true, true, true, true, true, true, true, true, true, true, true, true, true, false, false, false]) rfl (by kernel_rfl) (by kernel_rfl) (fun K hK => ?_)
  go_simp
  refine (realM_any _ mb B false _ (show AW3 w mb B w4.heap.size (w4.heap.size + 1) (w4.heap.size + 2) _ from (by repeat (first | exact HV.out | apply AW3.drew | (refine AW3.go ?_ (by assumption))))).aw.mb).mono ?_
  rintro e w' ⟨rfl, rfl⟩
  dsimp only
  refine hK.out _ _ (by (repeat (first | exact HV.out | apply AW3.drew | (refine AW3.go ?_ (by assumption))))) (fun hHeld => ?_)
  clear hK K
  try simp only [Act.put, List.setIfInBounds_toArray, List.set_cons_zero, List.set_cons_succ]
  refine take_to (i := 31) (d := some 49) (v := ?_) (l' := #[true, true, true, true, true, true, true, true, true, true, true, true, true, true, true, true, true, true, true, true, true, true, true, true, true, true, true, true, true, true, true, true, false, false]) rfl rfl (by kernel_rfl) (by kernel_rfl) (by kernel_rfl) (by kernel_rfl) (fun _ _ _ h => h) (Or.inl ⟨by rfl, ?_⟩) (by assumption) ?_; rotate_left; · (intro w' hSw; (try dsimp only at hSw); go_simp; (try with_reducible rfl))
  try simp only [Act.put, List.setIfInBounds_toArray, List.set_cons_zero, List.set_cons_succ]
  refine take_to (i := 32) (d := some 50) (v := ?_) (l' := #[true, true, true, true, true, true, true, true, true, true, true, true, true, true, true, true, true, true, true, true, true, true, true, true, true, true, true, true, true, true, true, true, true, false]) rfl rfl (by kernel_rfl) (by kernel_rfl) (by kernel_rfl) (by kernel_rfl) (fun _ _ _ h => h) (Or.inl ⟨by rfl, ?_⟩) (by assumption) ?_; rotate_left; · (intro w' hSw; (try dsimp only at hSw); go_simp; (try with_reducible rfl))
  try simp only [Act.put, List.setIfInBounds_toArray, List.set_cons_zero, List.set_cons_succ]
  refine take_to (i := 33) (d := some 0) (v := ?_) (l' := #[true, true, true, true, true, true, true, true, true, true, true, true, true, true, true, true, true, true, true, true, true, true, true, true, true, true, true, true, true, true, true, true, true, true]) rfl rfl (by kernel_rfl) (by kernel_rfl) (by kernel_rfl) (by kernel_rfl) (fun _ _ _ h => h) (Or.inl ⟨by rfl, ?_⟩) (by assumption) ?_; rotate_left; · (intro w' hSw; (try dsimp only at hSw); go_simp; (try with_reducible rfl))
  try simp only [Act.put, List.setIfInBounds_toArray, List.set_cons_zero, List.set_cons_succ]
  refine wpAnyH_done (by kernel_rfl) ?_ _
  refine NoPanic.normal ?_
  have HF := Lib.hid hHeld.aw.bel
  clear hHeld HN0 HN1 HTD HLN L1 L2 L3 HV q00 q11 q01 g00 g11 g01
  go_wp2
  go_ret
  exact ⟨rfl, HF.out⟩
end Go.Proofs.YtejknkgbkkdaiaaGreatDoor
