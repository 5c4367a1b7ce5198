/-
  Merged: Ha, Hb, Hc, Hd, He, Hg, Hh.
-/
import Derived.Test.YtejknkgbkkdaiaaGreatDoorGb
import Derived.Test.YtejknkgbkkdaiaaGreatDoorMaker
import Derived.Test.YtejknkgbkkdaiaaGreatDoorG19
import Derived.Great.BuildSlice
import Derived.Test.YtejknkgbkkdaiaaGreatDoorG18
import Derived.Test.YtejknkgbkkdaiaaGreatDoorGl
import Derived.Test.YtejknkgbkkdaiaaGreatDoorG14
import Derived.Test.YtejknkgbkkdaiaaGreatDoorGn
import Derived.Test.YtejknkgbkkdaiaaGreatDoorFrb
import Derived.Test.YtejknkgbkkdaiaaGreatDoorOct
import Derived.Test.YtejknkgbkkdaiaaGreatDoorGj
import Derived.Laws.IdiomStrings

namespace Go.Proofs.YtejknkgbkkdaiaaGreatDoor
open Go.RowKit
set_option linter.unusedVariables false
set_option linter.unusedSimpArgs false

/-- no maker: nil, or one that is no one's own -/
def NoM (W : World) (v : Value) : Prop := v = .pointer none ∨ ∃ zb, v = .pointer (some ⟨zb, 0, none⟩) ∧ W.heap[zb]? = some (.cells #[.map none, .bool false, .slice none 0 0, .pointer none] 56 (0, 0))
theorem NoM.go {W W' : World} {v : Value} (h : NoM W v) (g : Below W.heap.size W W') : NoM W' v := by
  rcases h with h | ⟨zb, h1, h2⟩
  · exact .inl h
  · exact .inr ⟨zb, h1, laid_go h2 g⟩
set_option maxHeartbeats 400000 in
theorem noneN_any (w : World) (v : Value) (h : NoM w v) :
    Calls Tryz.prog 32 #[v] w fun e w' => e = .returned (.bool true) ∧ w = w' := by
  rcases h with rfl | ⟨zb, rfl, hz⟩
  · go_enter Tryz.func32, Tryz.ntmps32
    go_wp2
    go_ret
    exact ⟨rfl, rfl⟩
  · have c3 : w.cell? ⟨zb, 3, none⟩ = some (.pointer none) := by rw [cell_of_row w zb 3 _ _ (0, 0) hz]; rfl
    have h2 := neq_nilM w ⟨zb, 0, none⟩
    clear hz
    go_enter Tryz.func32, Tryz.ntmps32
    go_wp2
    go_ret
    exact ⟨rfl, rfl⟩
set_option maxHeartbeats 1000000 in
set_option maxRecDepth 100000 in
theorem sumN_any (w : World) (v : Value) (h : NoM w v) :
    Calls Tryz.prog 21 #[v, .slice none 0 0] w fun e w' => e = .returned (tagV (fun _ => 0#8)) ∧ Below w.heap.size w w' := by
  obtain ⟨z, hz⟩ : ∃ z : Nat → BitVec 8, z = fun _ => 0#8 := ⟨_, rfl⟩
  have hzv : tagV z = .agg #[.int .u8 0, .int .u8 0, .int .u8 0, .int .u8 0, .int .u8 0, .int .u8 0, .int .u8 0, .int .u8 0, .int .u8 0, .int .u8 0, .int .u8 0, .int .u8 0, .int .u8 0, .int .u8 0, .int .u8 0, .int .u8 0, .int .u8 0, .int .u8 0, .int .u8 0, .int .u8 0, .int .u8 0, .int .u8 0, .int .u8 0, .int .u8 0, .int .u8 0, .int .u8 0, .int .u8 0, .int .u8 0, .int .u8 0, .int .u8 0, .int .u8 0, .int .u8 0] := by rw [hz]; rfl
  have HN := Lib.hid h
  have HT := Lib.hid (show BT (w.alloc (.cells (List.replicate 32 (Value.int .u8 0)).toArray 25)) w.heap.size 32 (fun _ => 0#8) from BT.of_cells (laid_at rfl) (fun i hi => zero_atL 32 i hi))
  have HB := Lib.hid (below_al w (.cells (List.replicate 32 (Value.int .u8 0)).toArray 25))
  rw [← hz]
  clear h hz
  go_enter Tryz.func21, Tryz.ntmps21
  go_upto_region 1 with (fail)
  refine forget_code (fun W => Below w.heap.size w W ∧ BT W w.heap.size 32 (fun _ => 0#8)) ⟨HB.out, HT.out⟩ ?_
  rintro W ⟨hb, ht⟩
  clear HB HT
  have HB := Lib.hid hb
  have HT := Lib.hid ht
  clear hb ht
  go_wp2_with fail
  refine (noneN_any W v (HN.out.go HB.out)).mono ?_
  rintro e w' ⟨rfl, rfl⟩
  go_upto_region 2 with (fail)
  refine wp_region_lit ?_
  refine wpList_plain rfl (fun K hK => ?_)
  go_simp
  refine hK _ _ ?_
  clear hK K
  rw [← hzv]
  refine wpList_store_mid rfl 25 _ _ rfl w.heap.size 0 (tagC z).toArray rfl rfl (by simpa [tagC_len] using HT.out.there 32 (Nat.le_refl _)) (by simp [infoTag, tagC_len]) (tagC_one _) ?_
  rw [List.toList_toArray]
  have HR5 := Lib.hid (World.rangeAt_setCells_same W w.heap.size 0 (tagC z) (by rw [tagC_len]; exact HT.out.there 32 (Nat.le_refl _)))
  have HB5 := Lib.hid (HB.out.grown (gr_setCells (hb := w.heap.size) (tagC z) 0 W) HB.out.size (by rintro q ⟨⟩; exact Nat.le_refl _))
  generalize W.setCells w.heap.size 0 (tagC z) = W7 at HR5 HB5 ⊢
  show Exit.then _ _ Exit.normal _ W7
  go_wp2
  refine bodyPost_ret (v := tagV z) ?_ rfl ?_
  · exact results_cell_mid (p := 4) (ty := 25) rfl _ W7 w.heap.size _ _ rfl HR5.out Tryz.underlying25 rfl (by simp [infoTag, tagC_len])
  · exact ⟨rfl, HB5.out⟩
set_option maxHeartbeats 1000000 in
set_option maxRecDepth 100000 in
theorem macN_any (w : World) (v : Value) (h : NoM w v) :
    Calls Tryz.prog 27 #[v, .slice none 0 0, .slice none 0 0] w fun e w' => e = .returned (tagV (fun _ => 0#8)) ∧ Below w.heap.size w w' := by
  obtain ⟨z, hz⟩ : ∃ z : Nat → BitVec 8, z = fun _ => 0#8 := ⟨_, rfl⟩
  have hzv : tagV z = .agg #[.int .u8 0, .int .u8 0, .int .u8 0, .int .u8 0, .int .u8 0, .int .u8 0, .int .u8 0, .int .u8 0, .int .u8 0, .int .u8 0, .int .u8 0, .int .u8 0, .int .u8 0, .int .u8 0, .int .u8 0, .int .u8 0, .int .u8 0, .int .u8 0, .int .u8 0, .int .u8 0, .int .u8 0, .int .u8 0, .int .u8 0, .int .u8 0, .int .u8 0, .int .u8 0, .int .u8 0, .int .u8 0, .int .u8 0, .int .u8 0, .int .u8 0, .int .u8 0] := by rw [hz]; rfl
  have HN := Lib.hid h
  have HT := Lib.hid (show BT (w.alloc (.cells (List.replicate 32 (Value.int .u8 0)).toArray 25)) w.heap.size 32 (fun _ => 0#8) from BT.of_cells (laid_at rfl) (fun i hi => zero_atL 32 i hi))
  have HB := Lib.hid (below_al w (.cells (List.replicate 32 (Value.int .u8 0)).toArray 25))
  rw [← hz]
  clear h hz
  go_enter Tryz.func27, Tryz.ntmps27
  go_upto_region 1 with (fail)
  refine forget_code (fun W => Below w.heap.size w W ∧ BT W w.heap.size 32 (fun _ => 0#8)) ⟨HB.out, HT.out⟩ ?_
  rintro W ⟨hb, ht⟩
  clear HB HT
  have HB := Lib.hid hb
  have HT := Lib.hid ht
  clear hb ht
  go_wp2_with fail
  refine (noneN_any W v (HN.out.go HB.out)).mono ?_
  rintro e w' ⟨rfl, rfl⟩
  go_upto_region 2 with (fail)
  refine wp_region_lit ?_
  refine wpList_plain rfl (fun K hK => ?_)
  go_simp
  refine hK _ _ ?_
  clear hK K
  rw [← hzv]
  refine wpList_store_mid rfl 25 _ _ rfl w.heap.size 0 (tagC z).toArray rfl rfl (by simpa [tagC_len] using HT.out.there 32 (Nat.le_refl _)) (by simp [infoTag, tagC_len]) (tagC_one _) ?_
  rw [List.toList_toArray]
  have HR5 := Lib.hid (World.rangeAt_setCells_same W w.heap.size 0 (tagC z) (by rw [tagC_len]; exact HT.out.there 32 (Nat.le_refl _)))
  have HB5 := Lib.hid (HB.out.grown (gr_setCells (hb := w.heap.size) (tagC z) 0 W) HB.out.size (by rintro q ⟨⟩; exact Nat.le_refl _))
  generalize W.setCells w.heap.size 0 (tagC z) = W7 at HR5 HB5 ⊢
  show Exit.then _ _ Exit.normal _ W7
  go_wp2
  refine bodyPost_ret (v := tagV z) ?_ rfl ?_
  · exact results_cell_mid (p := 6) (ty := 25) rfl _ W7 w.heap.size _ _ rfl HR5.out Tryz.underlying25 rfl (by simp [infoTag, tagC_len])
  · exact ⟨rfl, HB5.out⟩
set_option maxHeartbeats 1000000 in
set_option maxRecDepth 100000 in
theorem drawN_any (w : World) (v : Value) (k : Int) (h : NoM w v) :
    Calls Tryz.prog 22 #[v, .int .i64 k] w fun e w' => e = .returned (tagV (fun _ => 0#8)) ∧ Below w.heap.size w w' := by
  obtain ⟨z, hz⟩ : ∃ z : Nat → BitVec 8, z = fun _ => 0#8 := ⟨_, rfl⟩
  have hzv : tagV z = .agg #[.int .u8 0, .int .u8 0, .int .u8 0, .int .u8 0, .int .u8 0, .int .u8 0, .int .u8 0, .int .u8 0, .int .u8 0, .int .u8 0, .int .u8 0, .int .u8 0, .int .u8 0, .int .u8 0, .int .u8 0, .int .u8 0, .int .u8 0, .int .u8 0, .int .u8 0, .int .u8 0, .int .u8 0, .int .u8 0, .int .u8 0, .int .u8 0, .int .u8 0, .int .u8 0, .int .u8 0, .int .u8 0, .int .u8 0, .int .u8 0, .int .u8 0, .int .u8 0] := by rw [hz]; rfl
  have HN := Lib.hid h
  have HT := Lib.hid (show BT (w.alloc (.cells (List.replicate 32 (Value.int .u8 0)).toArray 25)) w.heap.size 32 (fun _ => 0#8) from BT.of_cells (laid_at rfl) (fun i hi => zero_atL 32 i hi))
  have HB := Lib.hid (below_al w (.cells (List.replicate 32 (Value.int .u8 0)).toArray 25))
  rw [← hz]
  clear h hz
  go_enter Tryz.func22, Tryz.ntmps22
  go_upto_region 1 with (fail)
  refine forget_code (fun W => Below w.heap.size w W ∧ BT W w.heap.size 32 (fun _ => 0#8)) ⟨HB.out, HT.out⟩ ?_
  rintro W ⟨hb, ht⟩
  clear HB HT
  have HB := Lib.hid hb
  have HT := Lib.hid ht
  clear hb ht
  go_wp2_with fail
  refine (noneN_any W v (HN.out.go HB.out)).mono ?_
  rintro e w' ⟨rfl, rfl⟩
  go_upto_region 2 with (fail)
  refine wp_region_lit ?_
  refine wpList_plain rfl (fun K hK => ?_)
  go_simp
  refine hK _ _ ?_
  clear hK K
  rw [← hzv]
  refine wpList_store_mid rfl 25 _ _ rfl w.heap.size 0 (tagC z).toArray rfl rfl (by simpa [tagC_len] using HT.out.there 32 (Nat.le_refl _)) (by simp [infoTag, tagC_len]) (tagC_one _) ?_
  rw [List.toList_toArray]
  have HR5 := Lib.hid (World.rangeAt_setCells_same W w.heap.size 0 (tagC z) (by rw [tagC_len]; exact HT.out.there 32 (Nat.le_refl _)))
  have HB5 := Lib.hid (HB.out.grown (gr_setCells (hb := w.heap.size) (tagC z) 0 W) HB.out.size (by rintro q ⟨⟩; exact Nat.le_refl _))
  generalize W.setCells w.heap.size 0 (tagC z) = W7 at HR5 HB5 ⊢
  show Exit.then _ _ Exit.normal _ W7
  go_wp2
  refine bodyPost_ret (v := tagV z) ?_ rfl ?_
  · exact results_cell_mid (p := 4) (ty := 25) rfl _ W7 w.heap.size _ _ rfl HR5.out Tryz.underlying25 rfl (by simp [infoTag, tagC_len])
  · exact ⟨rfl, HB5.out⟩
set_option maxHeartbeats 1000000 in
set_option maxRecDepth 100000 in
theorem realN_any (w : World) (v : Value) (h : NoM w v) :
    Calls Tryz.prog 15 #[v] w fun e w' => e = .returned (.bool false) ∧ Below w.heap.size w w' := by
  have HN := Lib.hid h
  clear h
  go_enter Tryz.func15, Tryz.ntmps15
  go_wp2_with fail
  refine (noneN_any _ v (by first | exact HN.out | exact HN.out.go (below_al _ _))).mono ?_
  rintro e w' ⟨rfl, rfl⟩
  go_wp2
  go_ret
  exact ⟨rfl, by first | exact Below.refl _ _ | exact below_al _ _⟩
set_option maxHeartbeats 1000000 in
set_option maxRecDepth 100000 in
theorem lenN_any (w : World) (v : Value) (h : NoM w v) :
    Calls Tryz.prog 12 #[v] w fun e w' => e = .returned (.int .i64 0) ∧ Below w.heap.size w w' := by
  have HN := Lib.hid h
  clear h
  go_enter Tryz.func12, Tryz.ntmps12
  go_wp2_with fail
  refine (noneN_any _ v (by first | exact HN.out | exact HN.out.go (below_al _ _))).mono ?_
  rintro e w' ⟨rfl, rfl⟩
  go_wp2
  go_ret
  exact ⟨rfl, by first | exact Below.refl _ _ | exact below_al _ _⟩
set_option maxHeartbeats 1000000 in
set_option maxRecDepth 100000 in
theorem toldN_any (w : World) (v : Value) (t : Nat → BitVec 8) (h : NoM w v) :
    Calls Tryz.prog 13 #[v, tagV t] w fun e w' => e = .returned (.bool false) ∧ Below w.heap.size w w' := by
  have hb := below_al w (.cells (tagC t).toArray 25)
  have HN := Lib.hid (h.go hb)
  have HB := Lib.hid hb
  clear h hb
  unfold tagV
  go_enter Tryz.func13, Tryz.ntmps13
  go_upto_region 1 with (fail)
  generalize w.alloc (.cells (tagC t).toArray 25) = V at HN HB ⊢
  refine wp_region_noPanic ?_
  refine wp_region_start (n := 12) (l := #[false, false, false, false, false, false, false, false, false, false, false, false]) (S := (fun W => NoM W v)) (by kernel_rfl) rfl (by kernel_rfl) (by first | exact HN.out | exact HN.out.go (Below.refl _ _).drew) (fun hHeld => ?_)
  replace HN := Lib.hid (HN.out.go (Below.refl _ _).drew)
  replace HB := Lib.hid HB.out.drew
  generalize World.drew _ = V2 at hHeld HN HB ⊢
  refine take_to (i := 0) (d := some 5) (v := ?_) (l' := #[true, false, false, false, false, false, false, false, false, false, false, false]) rfl rfl (by kernel_rfl) (by kernel_rfl) (by kernel_rfl) (by kernel_rfl) (fun _ _ _ h => h) (Or.inl ⟨by rfl, ?_⟩) (by assumption) ?_; rotate_left; · (intro w' hSw; (try dsimp only at hSw); go_simp; (try with_reducible rfl))
  try simp only [Act.put, List.setIfInBounds_toArray, List.set_cons_zero, List.set_cons_succ]
  refine one_to (i := 1) (l' := #[true, true, false, false, false, false, false, false, false, false, false, false]) rfl (by kernel_rfl) (by kernel_rfl) (fun K hK => ?_)
  go_simp
  refine (noneN_any V2 v HN.out).mono ?_
  rintro e w' ⟨rfl, rfl⟩
  dsimp only
  refine hK.out _ _ (by first | exact HN.out | exact HN.out.go (Below.refl _ _).drew) (fun hHeld => ?_)
  clear hK K
  try simp only [Act.put, List.setIfInBounds_toArray, List.set_cons_zero, List.set_cons_succ]
  refine take_to (i := 2) (d := some 7) (v := ?_) (l' := #[true, true, true, false, false, false, false, false, false, false, false, false]) rfl rfl (by kernel_rfl) (by kernel_rfl) (by kernel_rfl) (by kernel_rfl) (fun _ _ _ h => h) (Or.inl ⟨by rfl, ?_⟩) (by assumption) ?_; rotate_left; · (intro w' hSw; (try dsimp only at hSw); go_simp; (try with_reducible rfl))
  try simp only [Act.put, List.setIfInBounds_toArray, List.set_cons_zero, List.set_cons_succ]
  refine take_to (i := 3) (d := some 8) (v := ?_) (l' := #[true, true, true, true, false, false, false, false, false, false, false, false]) rfl rfl (by kernel_rfl) (by kernel_rfl) (by kernel_rfl) (by kernel_rfl) (fun _ _ _ h => h) (Or.inl ⟨by rfl, ?_⟩) (by assumption) ?_; rotate_left; · (intro w' hSw; (try dsimp only at hSw); go_simp; (try with_reducible rfl))
  try simp only [Act.put, List.setIfInBounds_toArray, List.set_cons_zero, List.set_cons_succ]
  refine take_to (i := 4) (d := some 9) (v := undef) (l' := #[true, true, true, true, true, false, false, false, false, false, false, false]) rfl rfl (by kernel_rfl) (by kernel_rfl) (by kernel_rfl) (by kernel_rfl) (fun _ _ _ h => h) (Or.inr ⟨by rfl, rfl⟩) (by assumption) ?_
  try simp only [Act.put, List.setIfInBounds_toArray, List.set_cons_zero, List.set_cons_succ]
  refine take_to (i := 5) (d := some 10) (v := undef) (l' := #[true, true, true, true, true, true, false, false, false, false, false, false]) rfl rfl (by kernel_rfl) (by kernel_rfl) (by kernel_rfl) (by kernel_rfl) (fun _ _ _ h => h) (Or.inr ⟨by rfl, rfl⟩) (by assumption) ?_
  try simp only [Act.put, List.setIfInBounds_toArray, List.set_cons_zero, List.set_cons_succ]
  refine take_to (i := 6) (d := some 11) (v := undef) (l' := #[true, true, true, true, true, true, true, false, false, false, false, false]) rfl rfl (by kernel_rfl) (by kernel_rfl) (by kernel_rfl) (by kernel_rfl) (fun _ _ _ h => h) (Or.inr ⟨by rfl, rfl⟩) (by assumption) ?_
  try simp only [Act.put, List.setIfInBounds_toArray, List.set_cons_zero, List.set_cons_succ]
  refine take_to (i := 7) (d := some 12) (v := undef) (l' := #[true, true, true, true, true, true, true, true, false, false, false, false]) rfl rfl (by kernel_rfl) (by kernel_rfl) (by kernel_rfl) (by kernel_rfl) (fun _ _ _ h => h) (Or.inr ⟨by rfl, rfl⟩) (by assumption) ?_
  try simp only [Act.put, List.setIfInBounds_toArray, List.set_cons_zero, List.set_cons_succ]
  refine take_to (i := 8) (d := some 13) (v := undef) (l' := #[true, true, true, true, true, true, true, true, true, false, false, false]) rfl rfl (by kernel_rfl) (by kernel_rfl) (by kernel_rfl) (by kernel_rfl) (fun _ _ _ h => h) (Or.inr ⟨by rfl, rfl⟩) (by assumption) ?_
  try simp only [Act.put, List.setIfInBounds_toArray, List.set_cons_zero, List.set_cons_succ]
  refine one_to (i := 9) (l' := #[true, true, true, true, true, true, true, true, true, true, false, false]) rfl (by kernel_rfl) (by kernel_rfl) (fun K hK => ?_)
  go_simp
  refine hK.out _ _ (by first | exact HN.out | exact HN.out.go (Below.refl _ _).drew) (fun hHeld => ?_)
  clear hK K
  try simp only [Act.put, List.setIfInBounds_toArray, List.set_cons_zero, List.set_cons_succ]
  refine take_to (i := 10) (d := some 15) (v := ?_) (l' := #[true, true, true, true, true, true, true, true, true, true, true, false]) rfl rfl (by kernel_rfl) (by kernel_rfl) (by kernel_rfl) (by kernel_rfl) (fun _ _ _ h => h) (Or.inl ⟨by rfl, ?_⟩) (by assumption) ?_; rotate_left; · (intro w' hSw; (try dsimp only at hSw); go_simp; (try with_reducible rfl))
  try simp only [Act.put, List.setIfInBounds_toArray, List.set_cons_zero, List.set_cons_succ]
  refine take_to (i := 11) (d := some 4) (v := ?_) (l' := #[true, true, true, true, true, true, true, true, true, true, true, true]) rfl rfl (by kernel_rfl) (by kernel_rfl) (by kernel_rfl) (by kernel_rfl) (fun _ _ _ h => h) (Or.inl ⟨by rfl, ?_⟩) (by assumption) ?_; rotate_left; · (intro w' hSw; (try dsimp only at hSw); go_simp; (try with_reducible rfl))
  try simp only [Act.put, List.setIfInBounds_toArray, List.set_cons_zero, List.set_cons_succ]
  refine wpAnyH_done (by kernel_rfl) ?_ _
  refine NoPanic.normal ?_
  clear hHeld
  go_wp2
  go_ret
  exact ⟨rfl, HB.out⟩
set_option maxHeartbeats 1000000 in
set_option maxRecDepth 100000 in
theorem copyN_any (w : World) (v : Value) (h : NoM w v) :
    Calls Tryz.prog 37 #[v] w fun e w' => e = .returned (.pointer none) ∧ Below w.heap.size w w' := by
  have HN := Lib.hid h
  clear h
  go_enter Tryz.func37, Tryz.ntmps37
  go_wp2_with fail
  refine (noneN_any _ v (by first | exact HN.out | exact HN.out.go (below_al _ _))).mono ?_
  rintro e w' ⟨rfl, rfl⟩
  go_wp2
  go_ret
  exact ⟨rfl, by first | exact Below.refl _ _ | exact below_al _ _⟩
end Go.Proofs.YtejknkgbkkdaiaaGreatDoor

namespace Go.Proofs.YtejknkgbkkdaiaaGreatDoor
open Go.RowKit
set_option linter.unusedVariables false
set_option linter.unusedSimpArgs false

/-- what lies there: a maker that is no one's own, the row of both -/
structure N04 (w W : World) : Prop where
  bel : Below w.heap.size w W
  zm : W.heap[w.heap.size]? = some (.cells #[.map none, .bool false, .slice none 0 0, .pointer none] 56 (0, 0))
  row : W.heap[w.heap.size + 1]? = some (.cells #[.pointer none, .pointer (some ⟨w.heap.size, 0, none⟩)] 29 (0, 0))
theorem N04.go {w W W' : World} (h : N04 w W) (g : Below W.heap.size W W') : N04 w W' := ⟨h.bel.trans (g.mono h.bel.size), laid_go h.zm g, laid_go h.row g⟩
/-- the one or the other -/
def mk04 (w : World) (i : Nat) : Value := if i = 0 then .pointer none else .pointer (some ⟨w.heap.size, 0, none⟩)
theorem N04.cell {w W : World} (h : N04 w W) (i : Nat) (hi : i < 2) : W.cell? ⟨w.heap.size + 1, i, none⟩ = some (mk04 w i) ∧ NoM W (mk04 w i) ∧ w.heap.size + 1 < W.heap.size := by
  have hz := (Array.getElem?_eq_some_iff.1 h.row).1
  match i, hi with
  | 0, _ => exact ⟨by rw [cell_of_row W _ 0 _ _ (0, 0) h.row]; rfl, .inl rfl, hz⟩
  | 1, _ => exact ⟨by rw [cell_of_row W _ 1 _ _ (0, 0) h.row]; rfl, .inr ⟨_, rfl, h.zm⟩, hz⟩
set_option maxHeartbeats 4000000 in
set_option maxRecDepth 100000 in
theorem none04_any (w : World) : Calls Tryz.prog 20 #[] w fun e w' => e = .returned (.bool true) ∧ Below w.heap.size w w' := by
  have h0 : N04 w ((w.alloc (.cells #[.map none, .bool false, .slice none 0 0, .pointer none] 56)).alloc (.cells #[.pointer none, .pointer (some ⟨w.heap.size, 0, none⟩)] 29)) :=
    ⟨((Below.refl _ _).alloc (Nat.le_refl _) _).alloc (by simp) _, laid_old (laid_at rfl), laid_at (by simp)⟩
  obtain ⟨z, hz⟩ : ∃ z : Nat → BitVec 8, z = fun _ => 0#8 := ⟨_, rfl⟩
  have hzv : tagV z = .agg #[.int .u8 0, .int .u8 0, .int .u8 0, .int .u8 0, .int .u8 0, .int .u8 0, .int .u8 0, .int .u8 0, .int .u8 0, .int .u8 0, .int .u8 0, .int .u8 0, .int .u8 0, .int .u8 0, .int .u8 0, .int .u8 0, .int .u8 0, .int .u8 0, .int .u8 0, .int .u8 0, .int .u8 0, .int .u8 0, .int .u8 0, .int .u8 0, .int .u8 0, .int .u8 0, .int .u8 0, .int .u8 0, .int .u8 0, .int .u8 0, .int .u8 0, .int .u8 0] := by rw [hz]; rfl
  have HS := Lib.hid (show ∀ W v, NoM W v → Calls Tryz.prog 21 #[v, .slice none 0 0] W fun e w' => e = .returned (tagV z) ∧ Below W.heap.size W w' from fun W v h => by rw [hz]; exact sumN_any W v h)
  have HM := Lib.hid (show ∀ W v, NoM W v → Calls Tryz.prog 27 #[v, .slice none 0 0, .slice none 0 0] W fun e w' => e = .returned (tagV z) ∧ Below W.heap.size W w' from fun W v h => by rw [hz]; exact macN_any W v h)
  have HD := Lib.hid (show ∀ W v, NoM W v → Calls Tryz.prog 22 #[v, .int .i64 3] W fun e w' => e = .returned (tagV z) ∧ Below W.heap.size W w' from fun W v h => by rw [hz]; exact drawN_any W v 3 h)
  have HT := Lib.hid (show ∀ W v, NoM W v → Calls Tryz.prog 13 #[v, .agg #[.int .u8 0, .int .u8 0, .int .u8 0, .int .u8 0, .int .u8 0, .int .u8 0, .int .u8 0, .int .u8 0, .int .u8 0, .int .u8 0, .int .u8 0, .int .u8 0, .int .u8 0, .int .u8 0, .int .u8 0, .int .u8 0, .int .u8 0, .int .u8 0, .int .u8 0, .int .u8 0, .int .u8 0, .int .u8 0, .int .u8 0, .int .u8 0, .int .u8 0, .int .u8 0, .int .u8 0, .int .u8 0, .int .u8 0, .int .u8 0, .int .u8 0, .int .u8 0]] W fun e w' => e = .returned (.bool false) ∧ Below W.heap.size W w' from fun W v h => by rw [← hzv]; exact toldN_any W v z h)
  have he : ∀ W, (binOp .neq 25 (tagV z) (.agg #[.int .u8 0, .int .u8 0, .int .u8 0, .int .u8 0, .int .u8 0, .int .u8 0, .int .u8 0, .int .u8 0, .int .u8 0, .int .u8 0, .int .u8 0, .int .u8 0, .int .u8 0, .int .u8 0, .int .u8 0, .int .u8 0, .int .u8 0, .int .u8 0, .int .u8 0, .int .u8 0, .int .u8 0, .int .u8 0, .int .u8 0, .int .u8 0, .int .u8 0, .int .u8 0, .int .u8 0, .int .u8 0, .int .u8 0, .int .u8 0, .int .u8 0, .int .u8 0])).run Tryz.prog W = .ok (.bool false) W := fun W => by
    have h := neq_tag z W
    rw [hzv] at h ⊢
    exact h
  have hgd : ∀ op x y W, (eqGuard op 25 x y (tagV z) (.agg #[.int .u8 0, .int .u8 0, .int .u8 0, .int .u8 0, .int .u8 0, .int .u8 0, .int .u8 0, .int .u8 0, .int .u8 0, .int .u8 0, .int .u8 0, .int .u8 0, .int .u8 0, .int .u8 0, .int .u8 0, .int .u8 0, .int .u8 0, .int .u8 0, .int .u8 0, .int .u8 0, .int .u8 0, .int .u8 0, .int .u8 0, .int .u8 0, .int .u8 0, .int .u8 0, .int .u8 0, .int .u8 0, .int .u8 0, .int .u8 0, .int .u8 0, .int .u8 0])).run Tryz.prog W = .ok () W := fun op x y W => by
    have h := guard_tag z z op x y W
    rw [hzv] at h ⊢
    exact h
  clear hz hzv
  go_enter Tryz.func20, Tryz.ntmps20
  go_upto_region 2 with (fail)
  refine forget_code (N04 w) h0 ?_
  intro W hW
  clear h0
  have HW := Lib.hid hW
  clear hW
  go_wp2
  go_loopw [2] (fun iv wr => ∃ i : Nat, i ≤ 2 ∧ iv = .int .i64 (i : Int) ∧ N04 w wr) (fun iv _ => 2 - (intOf iv).toNat)
  case atStart => exact ⟨0, by omega, rfl, HW.out⟩
  case round =>
    obtain ⟨i, hi, rfl, hw⟩ := hrel
    clear HW
    have HW := Lib.hid hw
    clear hw
    by_cases hlt : i < 2
    · obtain ⟨v, hv⟩ : ∃ v, v = mk04 w i := ⟨_, rfl⟩
      have HC := Lib.hid (show ∀ W, N04 w W → W.cell? ⟨w.heap.size + 1, i, none⟩ = some v ∧ NoM W v ∧ w.heap.size + 1 < W.heap.size from fun W h => by rw [hv]; exact h.cell i hlt)
      have HV := Lib.hid (show v = .pointer none ∨ v = .pointer (some ⟨w.heap.size, 0, none⟩) from by
        rw [hv]; unfold mk04; split
        · exact .inl rfl
        · exact .inr rfl)
      clear hv
      obtain ⟨c0, _, cz⟩ := HC.out _ HW.out
      go_wp2_with fail
      refine (HS.out _ v (HC.out _ HW.out).2.1).mono ?_
      rintro e w5 ⟨rfl, hb5⟩
      clear c0 cz
      replace HW := Lib.hid (HW.out.go hb5)
      clear hb5
      obtain ⟨c0, _, cz⟩ := HC.out _ HW.out
      go_wp2_with fail
      refine (HM.out _ v (HC.out _ HW.out).2.1).mono ?_
      rintro e w5 ⟨rfl, hb5⟩
      clear c0 cz
      replace HW := Lib.hid (HW.out.go hb5)
      clear hb5
      obtain ⟨c0, _, cz⟩ := HC.out _ HW.out
      go_wp2_with fail
      refine (HD.out _ v (HC.out _ HW.out).2.1).mono ?_
      rintro e w5 ⟨rfl, hb5⟩
      clear c0 cz
      replace HW := Lib.hid (HW.out.go hb5)
      clear hb5
      obtain ⟨c0, _, cz⟩ := HC.out _ HW.out
      go_wp2_with fail
      refine (realN_any _ v (HC.out _ HW.out).2.1).mono ?_
      rintro e w5 ⟨rfl, hb5⟩
      clear c0 cz
      replace HW := Lib.hid (HW.out.go hb5)
      clear hb5
      obtain ⟨c0, _, cz⟩ := HC.out _ HW.out
      go_wp2_with fail
      refine (lenN_any _ v (HC.out _ HW.out).2.1).mono ?_
      rintro e w5 ⟨rfl, hb5⟩
      clear c0 cz
      replace HW := Lib.hid (HW.out.go hb5)
      clear hb5
      obtain ⟨c0, _, cz⟩ := HC.out _ HW.out
      go_wp2_with fail
      refine (HT.out _ v (HC.out _ HW.out).2.1).mono ?_
      rintro e w5 ⟨rfl, hb5⟩
      clear c0 cz
      replace HW := Lib.hid (HW.out.go hb5)
      clear hb5
      obtain ⟨c0, _, cz⟩ := HC.out _ HW.out
      go_wp2_with fail
      refine (copyN_any _ v (HC.out _ HW.out).2.1).mono ?_
      rintro e w5 ⟨rfl, hb5⟩
      clear c0 cz
      replace HW := Lib.hid (HW.out.go hb5)
      clear hb5
      go_wp2
      go_roundw
      case rel => exact ⟨i + 1, by omega, by go_num, HW.out⟩
      case measure => simp [intOf]; omega
    · go_wp2
      go_ret
      exact ⟨rfl, HW.out.bel⟩
end Go.Proofs.YtejknkgbkkdaiaaGreatDoor

namespace Go.Proofs.YtejknkgbkkdaiaaGreatDoor
open Go.RowKit
set_option linter.unusedVariables false
set_option linter.unusedSimpArgs false
set_option maxRecDepth 20000

/-- of the old blocks, rows of asks alone may have turned -/
structure AC (w w' : World) : Prop where
  size : w.heap.size ≤ w'.heap.size
  block : ∀ k, k < w.heap.size → (∀ cs fr, w.heap[k]? ≠ some (.cells cs 38 fr)) → w'.heap[k]? = w.heap[k]?
theorem AC.bel {w w' : World} (g : Below w.heap.size w w') : AC w w' := ⟨g.size, fun k hk _ => g.block k hk⟩
theorem AC.trans {a b c : World} (h : AC a b) (k : AC b c) : AC a c :=
  ⟨Nat.le_trans h.size k.size, fun i hi hn => by
    have e := h.block i hi hn
    exact (k.block i (Nat.lt_of_lt_of_le hi h.size) (by rw [e]; exact hn)).trans e⟩
theorem AC.own {w w' : World} {base n : Nat} {v : Value} {xs : List Value} (h : w.ownsRow base 38 4 v n xs) (g : w.grownBy w' v.ownBlock) : AC w w' :=
  ⟨g.size, fun k hk hn => g.block k hk (fun e => by
    rcases h.2 with ⟨h1, _⟩ | ⟨q, cap, cur, h1, _, hq, _⟩
    · rw [h1] at e; cases e
    · rw [h1] at e
      cases e
      exact hn _ _ hq)⟩
theorem AC.at {w w' : World} {k : Nat} {cs : Array Value} {t : TypeId} {fr : Nat × Nat} (h : AC w w') (hk : w.heap[k]? = some (.cells cs t fr)) (ht : t ≠ 38) : w'.heap[k]? = some (.cells cs t fr) :=
  (h.block k (Array.getElem?_eq_some_iff.1 hk).1 (fun c f e => by rw [hk] at e; injection e with e; injection e with _ e2; exact ht e2)).trans hk
/-- an ask that stays there while rows of asks turn -/
def AE (w : World) (x : Ask) : Prop := ∀ w', AC w w' → x.there w'
theorem AE.go {w w' : World} {x : Ask} (h : AE w x) (g : AC w w') : AE w' x := fun W k => h W (g.trans k)
theorem AE.there {w : World} {x : Ask} (h : AE w x) : x.there w := h w ⟨Nat.le_refl _, fun _ _ _ => rfl⟩
/-- a row of asks' cells -/
def askC (x : Ask) : List Value := [.int .i64 x.what, .slice x.kp x.kn x.kc, .slice x.p x.m x.c, .int .i64 x.k]
def askRL (X : Nat → Ask) : Nat → List Value
  | 0 => []
  | n + 1 => askRL X n ++ askC (X n)
theorem askRL_len (X : Nat → Ask) : ∀ n, (askRL X n).length = n * 4
  | 0 => rfl
  | n + 1 => by unfold askRL; rw [List.length_append, askRL_len X n]; show n * 4 + 4 = _; omega
theorem askRL_at (X : Nat → Ask) : ∀ n i j, i < n → j < 4 → (askRL X n)[i * 4 + j]? = (askC (X i))[j]?
  | 0, i, j, h, _ => absurd h (Nat.not_lt_zero _)
  | n + 1, i, j, h, hj => by
    unfold askRL
    by_cases e : i = n
    · subst e
      rw [List.getElem?_append_right (by rw [askRL_len]; omega), askRL_len, Nat.add_sub_cancel_left]
    · rw [List.getElem?_append_left (by rw [askRL_len]; omega)]
      exact askRL_at X n i j (by omega) hj
/-- a row that is owned is a row of asks, from any place on -/
theorem own_asks {W : World} {base n : Nat} {v : Value} {X : Nat → Ask} (h : W.ownsRow base 38 4 v n (askRL X n)) (hn : 0 < n) : ∃ g cap, v = .slice (some ⟨g, 0, none⟩) n cap ∧ n ≤ cap ∧ cap ≤ maxLen ∧ ∀ i, i ≤ n → AskRow W.heap.size W (some ⟨g, i * 4, none⟩) (n - i) (fun j => X (i + j)) := by
  have hc := fun g hg => h.cells (g := g) hg
  rcases h.2 with ⟨_, h0⟩ | ⟨g, cap, cur, rfl, hb, hg, hcap, hmax, _, _⟩
  · omega
  · refine ⟨g, cap, rfl, hcap, hmax, fun i hi => .inr ⟨g, i * 4, rfl, (Array.getElem?_eq_some_iff.1 hg).1, fun j hj => ?_⟩⟩
    have hx : ∀ q v, q < 4 → (askC (X (i + j)))[q]? = some v → W.cell? ⟨g, i * 4 + j * 4 + q, none⟩ = some v := fun q v hq hv => by
      have := hc g rfl ((i + j) * 4 + q) v (by rw [askRL_at X n (i + j) q (by omega) hq]; exact hv)
      rw [Go.WideShapes.add_plain, Nat.zero_add, show (i + j) * 4 + q = i * 4 + j * 4 + q by omega] at this
      exact this
    exact ⟨hx 0 _ (by omega) rfl, hx 1 _ (by omega) rfl, hx 2 _ (by omega) rfl, hx 3 _ (by omega) rfl⟩
theorem infoAskZ : ((Tryz.prog.info? 38).bind (·.zero)).map (·.cells.size) = some 4 := by kernel_rfl
theorem infoAskB : (Tryz.prog.info? 38).map (·.bytes) = some 64 := by kernel_rfl
theorem infoAskS : (Tryz.prog.info? 38).map (·.size) = some 4 := by kernel_rfl
theorem infoAskAll : ∃ ie, Tryz.prog.info? 38 = some ie ∧ (∃ z, ie.zero = some z ∧ z.cells.size = 4) ∧ ie.size = 4 ∧ ie.bytes = 64 := by
  cases hie : Tryz.prog.info? 38 with
  | none => have := infoAskS; rw [hie] at this; cases this
  | some ie =>
    have h1 := infoAskS
    have h2 := infoAskZ
    have h3 := infoAskB
    simp only [hie, Option.map_some, Option.some.injEq, Option.bind_some] at h1 h2 h3
    obtain ⟨z, hz, hs⟩ := Option.map_eq_some_iff.1 h2
    exact ⟨ie, rfl, ⟨z, hz, hs⟩, h1, h3⟩
/-- a row of asks is laid -/
theorem wp_sliceA {o : Oper} {a : Act} {w : World} {K : Act → World → Prop} {Q : Exit → Act → World → Prop} (len : Nat) (parts : Array (Nat × Operand)) (ho : o.op = .buildSlice 23 len parts)
    (Xs : List (Array Value)) (hX : ∀ X ∈ Xs, X.size = 4) (hlen : len = Xs.length) (hpos : 0 < len) (hle : len ≤ 1000)
    (hparts : (parts.toList.map fun x => (x.1, a.eval x.2)) = ((Xs.map Value.agg).zipIdx 0).map fun x => (x.2, x.1))
    (h : K (a.put o.dst (.slice (some ⟨w.heap.size, 0, none⟩) len len)) (w.alloc (.cells (Xs.flatMap fun X => X.toList).toArray 38))) : o.wp Tryz.prog a w K Q := by
  obtain ⟨ie, hie, ⟨z, hzz, hzs⟩, hsz, _⟩ := infoAskAll
  refine wp_buildSlice 23 38 len parts ho _ ie z Tryz.underlying23 hie hzz (by rw [hsz]; omega) (by rw [hsz]; omega) ?_ h
  rw [Array.toList_map, show (parts.toList.map fun (x : Nat × Operand) => match x with | (i, x) => (i, a.eval x)) = parts.toList.map fun x => (x.1, a.eval x.2) from rfl, hparts, hsz]
  have hf := Great.fill_whole (s := 4) (by omega) (Xs.map Value.agg) ((Array.range (len * 4)).map (z.cells[· % z.cells.size]!)) (fun v hv => by obtain ⟨X, hx, rfl⟩ := List.mem_map.1 hv; exact hX X hx) (by simp [hlen])
  rw [hf]
  simp [List.flatMap_map, Value.cells]
/-- a draw -/
def drawA (k : Int) : Ask := ⟨2, none, 0, 0, fun _ => 0#8, none, 0, 0, fun _ => none, fun _ => 0, fun _ => 0, fun _ _ => 0#8, k⟩
theorem drawA_there (w : World) (k : Int) (hk : (Lit.int .i64 k).wf = true) : AE w (drawA k) := fun w' _ =>
  ⟨⟨Nat.zero_le _, Nat.zero_le _, fun i hi => absurd hi (Nat.not_lt_zero _), .inl rfl⟩, .inl rfl, fun _ => rfl, ⟨.inl rfl, fun i hi => absurd hi (Nat.not_lt_zero _), fun i hi => absurd hi (Nat.not_lt_zero _)⟩, ⟨Nat.le_refl _, Nat.zero_le _⟩, ⟨Nat.le_refl _, Nat.zero_le _⟩, hk, ⟨fun _ => rfl, fun i hi => absurd hi (Nat.not_lt_zero _)⟩⟩
end Go.Proofs.YtejknkgbkkdaiaaGreatDoor

namespace Go.Proofs.YtejknkgbkkdaiaaGreatDoor
open Go.RowKit
set_option linter.unusedVariables false
set_option linter.unusedSimpArgs false
set_option maxRecDepth 20000

theorem piece_to (b o : Nat) (n c q : Nat) (hq : q ≤ n) (hc : n ≤ c) :
    ∃ p1, (∀ W, (Instr.slice 22 (.slice (some ⟨b, o, none⟩) n c) none (some (.int .i64 (q : Int))) none).run Tryz.prog W = .ok (.slice (some p1) q c) W) ∧ ∀ B W f, Reads B W (some ⟨b, o, none⟩) n f → Reads B W (some p1) q f := by
  obtain ⟨p, h1, h2⟩ := slice_to (some ⟨b, o, none⟩) n c q hq hc
  cases p with
  | some a => exact ⟨a, h1, h2⟩
  | none =>
    exfalso
    have h := h1 default
    rw [run_slice_h default 22 (some ⟨b, o, none⟩) n c sliceElem .i64 q (by omega) (by omega), sliceSize, sizeU8] at h
    simp [sliced] at h
    split at h <;> simp at h
theorem piece_from (b o : Nat) (n c q : Nat) (hq : q ≤ n) (hc : n ≤ c) :
    ∃ p1, (∀ W, (Instr.slice 22 (.slice (some ⟨b, o, none⟩) n c) (some (.int .i64 (q : Int))) none none).run Tryz.prog W = .ok (.slice (some p1) (n - q) (c - q)) W) ∧ ∀ B W f, Reads B W (some ⟨b, o, none⟩) n f → Reads B W (some p1) (n - q) (fun i => f (q + i)) := by
  obtain ⟨p, h1, h2⟩ := slice_from (some ⟨b, o, none⟩) n c q hq hc
  cases p with
  | some a => exact ⟨a, h1, h2⟩
  | none =>
    exfalso
    have h := h1 default
    rw [run_slice_l default 22 (some ⟨b, o, none⟩) n c sliceElem .i64 q (by omega) (by omega), sliceSize, sizeU8] at h
    simp [sliced] at h
    by_cases e : c = q
    · simp [e] at h
    · simp [e] at h
/-- a b c -/
def abc4 (j : Nat) : BitVec 8 := if j = 0 then 97#8 else if j = 1 then 98#8 else 99#8
def abcObj4 : Obj := .cells #[.int .u8 97, .int .u8 98, .int .u8 99] 5 (3, 4)
theorem abc_reads {W : World} {ab : Nat} (h : W.heap[ab]? = some (.cells #[.int .u8 97, .int .u8 98, .int .u8 99] 5 (3, 4))) : Reads W.heap.size W (some ⟨ab, 0, none⟩) 3 (fun j => .int .u8 (ub (abc4 j))) :=
  .inr ⟨ab, 0, rfl, (Array.getElem?_eq_some_iff.1 h).1, fun j hj => by
    rw [Nat.zero_add, cell_of_row W ab j _ _ (3, 4) h]
    match j, hj with
    | 0, _ | 1, _ | 2, _ => rfl⟩
/-- an ask of rows in a block of their own -/
theorem made_ask (w : World) (x : Ask) (rb ab : Nat) (cs : Array Value) (hab : w.heap[ab]? = some (.cells #[.int .u8 97, .int .u8 98, .int .u8 99] 5 (3, 4))) (hrb : w.heap[rb]? = some (.cells cs 22 (0, 0)))
    (hp : x.p = some ⟨rb, 0, none⟩) (hm : x.m ≤ 2 ∧ x.m ≤ x.c ∧ x.c ≤ 2) (hcs : ∀ i, i < x.m → cs[i]? = some (.slice (x.P i) (x.ln i) (x.C i))) (hC : ∀ i, i < x.m → x.ln i ≤ x.C i ∧ x.C i ≤ 3 ∧ (x.P i = none → x.C i = 0))
    (hP : ∀ W, AC w W → ∀ i, i < x.m → Reads W.heap.size W (x.P i) (x.ln i) (fun j => .int .u8 (ub (x.f i j)))) (hkey : ∀ W, AC w W → Reads W.heap.size W x.kp x.kn (fun j => .int .u8 (ub (x.key j)))) (hk : x.kn ≤ x.kc ∧ x.kc ≤ 3 ∧ (x.kp = none → x.kc = 0)) (hkk : (Lit.int .i64 x.k).wf = true) : AE w x := fun W g => by
  have hr := g.at hrb (by decide)
  have hrows : Reads W.heap.size W x.p x.m (fun i => .slice (x.P i) (x.ln i) (x.C i)) := by
    rw [hp]
    exact .inr ⟨rb, 0, rfl, (Array.getElem?_eq_some_iff.1 hr).1, fun i hi => by rw [Nat.zero_add, cell_of_row W rb i _ _ (0, 0) hr]; exact hcs i hi⟩
  refine ⟨⟨by omega, by omega, fun i hi => by have := hC i hi; omega, hrows⟩, hkey W g, fun e => by have := hk.2.2 e; omega, ⟨hrows, fun i hi => ⟨(hC i hi).1, by have := hC i hi; unfold maxLen; omega⟩, hP W g⟩, ⟨hk.1, by unfold maxLen; omega⟩, ⟨hm.2.1, by unfold maxLen; omega⟩, hkk, ⟨hk.2.2, fun i hi => (hC i hi).2.2⟩⟩
theorem AC.refl (w : World) : AC w w := ⟨Nat.le_refl _, fun _ _ _ => rfl⟩
end Go.Proofs.YtejknkgbkkdaiaaGreatDoor

namespace Go.Proofs.YtejknkgbkkdaiaaGreatDoor
open Go.RowKit
set_option linter.unusedVariables false
set_option linter.unusedSimpArgs false
set_option maxRecDepth 20000

theorem askRL_congr {X Y : Nat → Ask} : ∀ n, (∀ i, i < n → X i = Y i) → askRL X n = askRL Y n
  | 0, _ => rfl
  | n + 1, h => by unfold askRL; rw [askRL_congr n (fun i hi => h i (by omega)), h n (by omega)]
theorem askRL_add (X : Nat → Ask) (n : Nat) : ∀ k, askRL X (n + k) = askRL X n ++ askRL (fun j => X (n + j)) k
  | 0 => by show askRL X n = askRL X n ++ []; rw [List.append_nil]
  | k + 1 => by
    show askRL X (n + k) ++ askC (X (n + k)) = askRL X n ++ (askRL (fun j => X (n + j)) k ++ askC (X (n + k)))
    rw [askRL_add X n k, List.append_assoc]
/-- what lies there while the row grows -/
structure LE4 (w : World) (ab b0 : Nat) (v : Value) (n : Nat) (X : Nat → Ask) (W : World) : Prop where
  bel : Below w.heap.size w W
  abc : W.heap[ab]? = some (.cells #[.int .u8 97, .int .u8 98, .int .u8 99] 5 (3, 4))
  own : W.ownsRow b0 38 4 v n (askRL X n)
  ae : ∀ i, i < n → AE W (X i)
  lo : w.heap.size ≤ b0 ∧ b0 ≤ W.heap.size
section
variable {w W W' : World} {ab b0 n : Nat} {v : Value} {X : Nat → Ask}
theorem LE4.go (h : LE4 w ab b0 v n X W) (g : Below W.heap.size W W') : LE4 w ab b0 v n X W' :=
  ⟨h.bel.trans (g.mono h.bel.size), laid_go h.abc g, owns_below h.own g, fun i hi => (h.ae i hi).go (AC.bel g), h.lo.1, Nat.le_trans h.lo.2 g.size⟩
theorem LE4.more {k : Nat} {v2 : Value} {Z : Nat → Ask} (h : LE4 w ab b0 v n X W) (hZ : ∀ i, i < k → AE W (Z i)) (ho : W'.ownsRow b0 38 4 v2 (n + k) (askRL X n ++ askRL Z k)) (g : W.grownBy W' v.ownBlock) : LE4 w ab b0 v2 (n + k) (fun j => if j < n then X j else Z (j - n)) W' := by
  have hac := AC.own h.own g
  refine ⟨h.bel.grown g h.bel.size (fun q hq => Nat.le_trans h.lo.1 (h.own.lt q hq).1), hac.at h.abc (by decide), ?_, fun i hi => ?_, h.lo.1, Nat.le_trans h.lo.2 g.size⟩
  · rw [askRL_add, askRL_congr (Y := X) n (fun i hi => by show (if i < n then X i else _) = _; rw [if_pos hi]), askRL_congr (Y := Z) k (fun i hi => by show (if n + i < n then X (n + i) else Z (n + i - n)) = _; rw [if_neg (by omega), show n + i - n = i by omega])]
    exact ho
  · show AE W' (if i < n then X i else Z (i - n))
    split
    · exact (h.ae i (by assumption)).go hac
    · exact (hZ (i - n) (by omega)).go hac
end
/-- b[:i], b[i:] in a row -/
def askA1 (rb : Nat) (p1 p2 : Addr) (i : Nat) : Ask := ⟨0, none, 0, 0, fun _ => 0#8, some ⟨rb, 0, none⟩, 2, 2, fun j => if j = 0 then some p1 else some p2, fun j => if j = 0 then i else 3 - i, fun j => if j = 0 then 3 else 3 - i, fun j q => if j = 0 then abc4 q else abc4 (i + q), 0⟩
/-- b[i:] under b[:i] -/
def askA2 (rb : Nat) (p1 p2 : Addr) (i : Nat) : Ask := ⟨1, some p1, i, 3, abc4, some ⟨rb, 0, none⟩, 1, 1, fun _ => some p2, fun _ => 3 - i, fun _ => 3 - i, fun _ q => abc4 (i + q), 0⟩
/-- b[:i] and none under b -/
def askA3 (rb ab : Nat) (p1 : Addr) (i : Nat) : Ask := ⟨1, some ⟨ab, 0, none⟩, 3, 3, abc4, some ⟨rb, 0, none⟩, 2, 2, fun j => if j = 0 then some p1 else none, fun j => if j = 0 then i else 0, fun j => if j = 0 then 3 else 0, fun _ q => abc4 q, 0⟩
section
variable {w : World} {rb ab i : Nat} {p1 p2 : Addr}
theorem lt2 {P : Nat → Prop} (h0 : P 0) (h1 : P 1) : ∀ i, i < 2 → P i := fun i hi => by
  match i, hi with
  | 0, _ => exact h0
  | 1, _ => exact h1
theorem lt1 {P : Nat → Prop} (h0 : P 0) : ∀ i, i < 1 → P i := fun i hi => by
  match i, hi with
  | 0, _ => exact h0
theorem ae_A1 (hi : i ≤ 3) (h1 : ∀ B W f, Reads B W (some ⟨ab, 0, none⟩) 3 f → Reads B W (some p1) i f) (h2 : ∀ B W f, Reads B W (some ⟨ab, 0, none⟩) 3 f → Reads B W (some p2) (3 - i) (fun q => f (i + q)))
    (hab : w.heap[ab]? = some (.cells #[.int .u8 97, .int .u8 98, .int .u8 99] 5 (3, 4))) (hrb : w.heap[rb]? = some (.cells #[.slice (some p1) i 3, .slice (some p2) (3 - i) (3 - i)] 22 (0, 0))) : AE w (askA1 rb p1 p2 i) :=
  made_ask w (askA1 rb p1 p2 i) rb ab _ hab hrb rfl ⟨Nat.le_refl 2, Nat.le_refl 2, Nat.le_refl 2⟩ (lt2 rfl rfl) (lt2 ⟨hi, Nat.le_refl 3, fun e => by cases e⟩ ⟨Nat.le_refl _, by show 3 - i ≤ 3; omega, fun e => by cases e⟩)
    (fun W g => lt2 (h1 _ _ _ (abc_reads (g.at hab (by decide)))) (h2 _ _ _ (abc_reads (g.at hab (by decide))))) (fun W g => .inl rfl) ⟨Nat.le_refl 0, Nat.zero_le 3, fun _ => rfl⟩ (show (Lit.int .i64 0).wf = true by decide)
theorem ae_A2 (hi : i ≤ 3) (h1 : ∀ B W f, Reads B W (some ⟨ab, 0, none⟩) 3 f → Reads B W (some p1) i f) (h2 : ∀ B W f, Reads B W (some ⟨ab, 0, none⟩) 3 f → Reads B W (some p2) (3 - i) (fun q => f (i + q)))
    (hab : w.heap[ab]? = some (.cells #[.int .u8 97, .int .u8 98, .int .u8 99] 5 (3, 4))) (hrb : w.heap[rb]? = some (.cells #[.slice (some p2) (3 - i) (3 - i)] 22 (0, 0))) : AE w (askA2 rb p1 p2 i) :=
  made_ask w (askA2 rb p1 p2 i) rb ab _ hab hrb rfl ⟨by show 1 ≤ 2; omega, Nat.le_refl 1, by show 1 ≤ 2; omega⟩ (lt1 rfl) (lt1 ⟨Nat.le_refl _, by show 3 - i ≤ 3; omega, fun e => by cases e⟩)
    (fun W g => lt1 (h2 _ _ _ (abc_reads (g.at hab (by decide))))) (fun W g => h1 _ _ _ (abc_reads (g.at hab (by decide)))) ⟨hi, Nat.le_refl 3, fun e => by cases e⟩ (show (Lit.int .i64 0).wf = true by decide)
theorem ae_A3 (hi : i ≤ 3) (h1 : ∀ B W f, Reads B W (some ⟨ab, 0, none⟩) 3 f → Reads B W (some p1) i f)
    (hab : w.heap[ab]? = some (.cells #[.int .u8 97, .int .u8 98, .int .u8 99] 5 (3, 4))) (hrb : w.heap[rb]? = some (.cells #[.slice (some p1) i 3, .slice none 0 0] 22 (0, 0))) : AE w (askA3 rb ab p1 i) :=
  made_ask w (askA3 rb ab p1 i) rb ab _ hab hrb rfl ⟨Nat.le_refl 2, Nat.le_refl 2, Nat.le_refl 2⟩ (lt2 rfl rfl) (lt2 ⟨hi, Nat.le_refl 3, fun e => by cases e⟩ ⟨Nat.le_refl 0, by show 0 ≤ 3; omega, fun _ => rfl⟩)
    (fun W g => lt2 (h1 _ _ _ (abc_reads (g.at hab (by decide)))) (.inl rfl)) (fun W g => abc_reads (g.at hab (by decide))) ⟨Nat.le_refl 3, Nat.le_refl 3, fun e => by cases e⟩ (show (Lit.int .i64 0).wf = true by decide)
end
end Go.Proofs.YtejknkgbkkdaiaaGreatDoor

namespace Go.Proofs.YtejknkgbkkdaiaaGreatDoor
open Go.RowKit
set_option linter.unusedVariables false
set_option linter.unusedSimpArgs false

theorem tlist_go {P : Program} {ops : Array Oper} {Q : Exit → Act → World → Prop} {rest : List Oper} {K : Act → World → Prop} {a : Act} {w : World} (h : ∀ a w, wpList P ops Q rest a w → K a w) (hq : wpList P ops Q rest a w) : K a w := h _ _ hq
/-- the six tags of the law -/
def nearT (k : Nat) : Nat → BitVec 8 := if k = 0 then fun _ => 0#8 else if k = 1 then numT 0 else if k = 2 then numT 5 else if k = 3 then numT 28 else if k = 4 then numT 18446744073709551615 else numT 4611686018427387904
/-- one of them, its last byte 1 -/
def tailT (k : Nat) : Nat → BitVec 8 := fun j => if j = 31 then 1#8 else nearT k j
/-- their row -/
def NB (W : World) (nb : Nat) : Prop := W.heap[nb]? = some (.cells (tagL nearT 6).toArray 25 (0, 0))
theorem NB.go {W W' : World} {nb : Nat} (h : NB W nb) (g : Below W.heap.size W W') : NB W' nb := laid_go h g
theorem NB.range {W : World} {nb : Nat} (h : NB W nb) (i : Nat) (hi : i < 6) : W.rangeAt nb (i * 32) (tagC (nearT i)) := fun j v hv => by
  have hj : j < 32 := by have := (List.getElem?_eq_some_iff.1 hv).1; rwa [tagC_len] at this
  rw [cell_of_row W nb (i * 32 + j) _ _ (0, 0) h, List.getElem?_toArray, tagL_at nearT 6 i j hi hj]
  exact hv
theorem near_load {S : World → Prop} {ops : Array Oper} {o : Oper} {ac : Act} {x : Operand} {nb k : Nat} (hk : k < 6) (hS : ∀ w, S w → NB w nb) (h1 : Region.wanted o (yielded ops ac.tmps) = true) (h2 : o.op = .load 25 x) (h3 : ac.eval x = .pointer (some ⟨nb, k * 32, none⟩)) : YieldsIf Tryz.prog ops S o (tagV (nearT k)) ac :=
  yieldsIf_load_mid h1 25 x h2 nb (k * 32) h3 (tagC (nearT k)) _ (fun w' hw' => (hS w' hw').range k hk) Tryz.underlying25 rfl (by simp [infoTag, tagC_len])
theorem own_rows {W : World} {base n g cap : Nat} {X : Nat → Ask} (h : W.ownsRow base 38 4 (.slice (some ⟨g, 0, none⟩) n cap) n (askRL X n)) (hn : 0 < n) (i : Nat) (hi : i ≤ n) : AskRow W.heap.size W (some ⟨g, i * 4, none⟩) (n - i) (fun j => X (i + j)) := by
  obtain ⟨g', cap', he, _, _, hr⟩ := own_asks h hn
  cases he
  exact hr i hi
/-- what stands in the third loop -/
structure N4 (w : World) (ab b0 g2 c2 nb : Nat) (X : Nat → Ask) (W : World) : Prop where
  le : LE4 w ab b0 (.slice (some ⟨g2, 0, none⟩) 28 c2) 28 X W
  nb : NB W nb
theorem N4.go {w W W' : World} {ab b0 g2 c2 nb : Nat} {X : Nat → Ask} (h : N4 w ab b0 g2 c2 nb X W) (g : Below W.heap.size W W') : N4 w ab b0 g2 c2 nb X W' := ⟨h.le.go g, h.nb.go g⟩
theorem N4.ask {w W : World} {ab b0 g2 c2 nb : Nat} {X : Nat → Ask} (h : N4 w ab b0 g2 c2 nb X W) (mx : Int) (hmx : w.cell? ⟨mk_lays_ren.g 1, 0, none⟩ = some (.int .i64 mx)) (hk : Kc w.heap.size w) (real : Bool) (t : Nat → BitVec 8) :
    Calls Tryz.prog 3 #[.bool real, .slice (some ⟨ab, 0, none⟩) 3 3, .slice (some ⟨g2, 0, none⟩) 28 c2, tagV t] W fun e w' => e = .returned (.bool true) ∧ Below W.heap.size W w' := by
  have hr := own_rows h.le.own (by omega) 0 (by omega)
  rw [Nat.zero_mul] at hr
  have hr2 : AskRow W.heap.size W (some ⟨g2, 0, none⟩) 28 X := by
    have e : (fun j => X (0 + j)) = X := by funext j; rw [Nat.zero_add]
    rw [e] at hr; exact hr
  have hlt : mk_lays_ren.g 1 < w.heap.size := World.block_lt_of_cell? w _ hmx
  exact tagsTell_walk real (some ⟨ab, 0, none⟩) 3 3 abc4 (some ⟨g2, 0, none⟩) 28 c2 X t W mx (by rw [h.le.bel.cell (p := ⟨mk_lays_ren.g 1, 0, none⟩) hlt]; exact hmx) ((hk.below h.le.bel).mono h.le.bel.size) (by omega) hr2 (fun i hi => (h.le.ae i hi).there) (abc_reads h.le.abc) (by omega) (by omega) (fun e => by cases e)
theorem N4.asks {w W : World} {ab b0 g2 c2 nb : Nat} {X : Nat → Ask} (h : N4 w ab b0 g2 c2 nb X W) (mx : Int) (hmx : w.cell? ⟨mk_lays_ren.g 1, 0, none⟩ = some (.int .i64 mx)) (hk : Kc w.heap.size w) (real : Bool) (t : Nat → BitVec 8) (i c : Nat) (hi : i ≤ 28) :
    Calls Tryz.prog 3 #[.bool real, .slice none 0 0, .slice (some ⟨g2, i * 4, none⟩) (28 - i) c, tagV t] W fun e w' => e = .returned (.bool true) ∧ Below W.heap.size W w' := by
  have hr := own_rows h.le.own (by omega) i (by omega)
  have hlt : mk_lays_ren.g 1 < w.heap.size := World.block_lt_of_cell? w _ hmx
  exact tagsTell_walk real none 0 0 (fun _ => 0#8) (some ⟨g2, i * 4, none⟩) (28 - i) c (fun j => X (i + j)) t W mx (by rw [h.le.bel.cell (p := ⟨mk_lays_ren.g 1, 0, none⟩) hlt]; exact hmx) ((hk.below h.le.bel).mono h.le.bel.size) (by omega) hr (fun j hj => (h.le.ae (i + j) (by omega)).there) (.inl rfl) (Nat.le_refl _) (by omega) (fun _ => rfl)
theorem N4.asks0 {w W : World} {ab b0 g2 c2 nb : Nat} {X : Nat → Ask} (h : N4 w ab b0 g2 c2 nb X W) (mx : Int) (hmx : w.cell? ⟨mk_lays_ren.g 1, 0, none⟩ = some (.int .i64 mx)) (hk : Kc w.heap.size w) (real : Bool) (t : Nat → BitVec 8) :
    Calls Tryz.prog 3 #[.bool real, .slice none 0 0, .slice (some ⟨g2, 0, none⟩) 28 c2, tagV t] W fun e w' => e = .returned (.bool true) ∧ Below W.heap.size W w' := by
  have := h.asks mx hmx hk real t 0 c2 (by omega)
  rwa [Nat.zero_mul, Nat.sub_zero] at this
theorem tail_set (k : Nat) : tailT k 31 = 1#8 ∧ ∀ j, j < 32 → j ≠ 31 → tailT k j = nearT k j := ⟨rfl, fun j _ h => by unfold tailT; rw [if_neg h]⟩
theorem askElem : Tryz.prog.underlying 23 = some (.slice (Tryz.prog.elem 23)) := by kernel_rfl
theorem askElemIs : Tryz.prog.elem 23 = 38 := by kernel_rfl
theorem infoAskS2 : (Tryz.prog.info? 38).map (·.size) = some 4 := by kernel_rfl
theorem sizeAskS (w : World) : (sizeOf 38).run Tryz.prog w = .ok 4 w := by
  cases hq : Tryz.prog.info? 38 with
  | none => have := infoAskS2; rw [hq] at this; cases this
  | some i =>
    have h := infoAskS2
    rw [hq] at h
    have hs : i.size = 4 := by simpa using h
    simp [sizeOf, typeInfo, hq, hs]
theorem asks_from (g c i : Nat) (hi : i < 28) (hc : 28 ≤ c) (W : World) : (Instr.slice 23 (.slice (some ⟨g, 0, none⟩) 28 c) (some (.int .i64 (i : Int))) none none).run Tryz.prog W = .ok (.slice (some ⟨g, i * 4, none⟩) (28 - i) (c - i)) W := by
  rw [run_slice_l W 23 (some ⟨g, 0, none⟩) 28 c askElem .i64 i (by omega) (by omega), askElemIs, sizeAskS]
  have : ¬ c = i := by omega
  simp [sliced, this, Addr.add_lit]
theorem near_row : (nearT 0 = fun _ => 0#8) ∧ nearT 1 = numT 0 ∧ nearT 2 = numT 5 ∧ nearT 3 = numT 28 ∧ nearT 4 = numT 18446744073709551615 ∧ nearT 5 = numT 4611686018427387904 := ⟨rfl, rfl, rfl, rfl, rfl, rfl⟩
end Go.Proofs.YtejknkgbkkdaiaaGreatDoor

namespace Go.Proofs.YtejknkgbkkdaiaaGreatDoor
open Go.RowKit
set_option linter.unusedVariables false
set_option linter.unusedSimpArgs false

/-- the mark's text -/
def zS : ByteArray := ⟨#[122, 117, 103, 122, 119, 97, 110, 103]⟩
def t1S (i : Nat) : ByteArray := (⟨#[122, 117, 103]⟩ : ByteArray) ++ zS.extract 0 i
def t2S (i : Nat) : ByteArray := zS.extract i zS.size ++ (⟨#[33]⟩ : ByteArray)
def t3S (i : Nat) : ByteArray := zS.extract 0 i ++ zS ++ zS.extract i zS.size
def bvS (s : ByteArray) (j : Nat) : BitVec 8 := BitVec.ofNat 8 ((s.data[j]?).getD 0).toNat
theorem mark1 : ∀ i, i < 9 → mkS (bvS (t1S i)) (t1S i).size = decide (i = 8) := by decide +kernel
theorem mark2 : ∀ i, i < 9 → mkS (bvS (t2S i)) (t2S i).size = decide (i = 0) := by decide +kernel
theorem mark3 : ∀ i, i < 9 → mkS (bvS (t3S i)) (t3S i).size = true := by decide +kernel
theorem size_t : ∀ i, i < 9 → (t1S i).size ≤ 100 ∧ (t2S i).size ≤ 100 ∧ (t3S i).size ≤ 100 := by decide +kernel
theorem size_u : ∀ i, i < 9 → (⟨#[122, 117, 103]⟩ : ByteArray).size + (zS.extract 0 i).size ≤ 1000 ∧ (zS.extract i zS.size).size + (⟨#[33]⟩ : ByteArray).size ≤ 1000 ∧ (zS.extract 0 i).size + zS.size ≤ 1000 ∧ (zS.extract 0 i ++ zS).size + (zS.extract i zS.size).size ≤ 1000 := by decide +kernel
theorem str_to (i : Nat) (hi : i ≤ 8) (W : World) : (Instr.slice 9 (.string zS) none (some (.int .i64 (i : Int))) none).run Tryz.prog W = .ok (.string (zS.extract 0 i)) W := by
  have h8 : zS.size = 8 := rfl
  rw [run_slice_string_h W 9 zS Tryz.underlying9 .i64 (i : Int) (by omega) (by rw [h8]; omega), Int.toNat_natCast]
theorem str_from (i : Nat) (hi : i ≤ 8) (W : World) : (Instr.slice 9 (.string zS) (some (.int .i64 (i : Int))) none none).run Tryz.prog W = .ok (.string (zS.extract i zS.size)) W := by
  have h8 : zS.size = 8 := rfl
  rw [run_slice_string_l W 9 zS Tryz.underlying9 .i64 (i : Int) (by omega) (by rw [h8]; omega), Int.toNat_natCast]
theorem str_add (a b : ByteArray) (hs : a.size + b.size ≤ 1000) (W : World) : (binOp .add 9 (.string a) (.string b)).run Tryz.prog W = .ok (.string (a ++ b)) W := by
  simp [binOp, run_underlying Tryz.underlying9, Op.stringOp]
  omega
theorem bytesRow_at (s : ByteArray) (cap j : Nat) (hj : j < s.size) : (bytesRow s cap)[j]? = some (.int .u8 (ub (bvS s j))) := by
  have hs : j < s.data.size := hj
  unfold bytesRow bvS
  rw [Array.getElem?_append_left (by simpa using hs), Array.getElem?_map, Array.getElem?_eq_getElem hs]
  simp only [Option.map_some, Option.getD_some]
  congr 2
  unfold ub
  rw [BitVec.toNat_ofNat, Nat.mod_eq_of_lt (UInt8.toNat_lt _)]
/-- a text's bytes -/
theorem conv_bytes (s : ByteArray) (W : World) : ∃ c V, (convert 9 22 (.string s)).run Tryz.prog W = .ok (.slice (some ⟨W.heap.size, 0, none⟩) s.size c) V ∧ Below W.heap.size W V ∧ s.size ≤ c ∧ Reads V.heap.size V (some ⟨W.heap.size, 0, none⟩) s.size (fun j => .int .u8 (ub (bvS s j))) := by
  refine ⟨_, _, run_bytes_of_string W 9 22 5 s Tryz.underlying9 Tryz.underlying22 Tryz.underlying5, ?_, grownCap_ge W s.size 0 5, ?_⟩
  · exact (Below.refl _ _).drew.alloc (Nat.le_refl _) _
  · refine .inr ⟨W.heap.size, 0, rfl, by simp, fun j hj => ?_⟩
    rw [Nat.zero_add, cell_of_row _ W.heap.size j _ 5 _ (laid_at (W := W.drew) rfl), bytesRow_at s _ j hj]
theorem wp_conv {o : Oper} {a : Act} {w : World} {K : Act → World → Prop} {Q : Exit → Act → World → Prop} (x : Operand) (ho : o.op = .convert 9 22 x) (s : ByteArray) (hx : a.eval x = .string s)
    (h : ∀ b c V, Below w.heap.size w V → s.size ≤ c → Reads V.heap.size V (some ⟨b, 0, none⟩) s.size (fun j => .int .u8 (ub (bvS s j))) → K (a.put o.dst (.slice (some ⟨b, 0, none⟩) s.size c)) V) : o.wp Tryz.prog a w K Q := by
  obtain ⟨c, V, h1, h2, h3, h4⟩ := conv_bytes s w
  unfold Oper.wp execOp
  simp only [ho, hx, Sem.run_bind, Sem.run_pure, h1, Result.andThen_ok]
  exact h _ c V h2 h3 h4
theorem yields_strTo {ops : Array Oper} {S : World → Prop} {op : Oper} {a : Act} (hw : Region.wanted op (yielded ops a.tmps) = true) (x y : Operand) (ho : op.op = .slice 9 x none (some y) none) (i : Nat) (hi : i ≤ 8) (hx : a.eval x = .string zS) (hy : a.eval y = .int .i64 (i : Int)) : YieldsIf Tryz.prog ops S op (.string (zS.extract 0 i)) a :=
  .inl ⟨hw, fun w _ => by
    unfold execOp
    simp only [ho, hx, hy, Option.map_some, Option.map_none]
    simp [Instr.sliceAt, str_to i hi]⟩
theorem yields_strFrom {ops : Array Oper} {S : World → Prop} {op : Oper} {a : Act} (hw : Region.wanted op (yielded ops a.tmps) = true) (x y : Operand) (ho : op.op = .slice 9 x (some y) none none) (i : Nat) (hi : i ≤ 8) (hx : a.eval x = .string zS) (hy : a.eval y = .int .i64 (i : Int)) : YieldsIf Tryz.prog ops S op (.string (zS.extract i zS.size)) a :=
  .inl ⟨hw, fun w _ => by
    unfold execOp
    simp only [ho, hx, hy, Option.map_some, Option.map_none]
    simp [Instr.sliceAt, str_from i hi]⟩
theorem yields_strAdd {ops : Array Oper} {S : World → Prop} {op : Oper} {a : Act} (hw : Region.wanted op (yielded ops a.tmps) = true) (x y : Operand) (r : TypeId) (ho : op.op = .binOp .add 9 x y r) (s1 s2 : ByteArray) (hs : s1.size + s2.size ≤ 1000) (hx : a.eval x = .string s1) (hy : a.eval y = .string s2) : YieldsIf Tryz.prog ops S op (.string (s1 ++ s2)) a :=
  .inl ⟨hw, fun w _ => by unfold execOp; simp [ho, hx, hy, str_add s1 s2 hs, eqGuard]⟩
theorem yields_eqK {ops : Array Oper} {S : World → Prop} {op : Oper} {a : Act} (hw : Region.wanted op (yielded ops a.tmps) = true) (x y : Operand) (r : TypeId) (ho : op.op = .binOp .eql 3 x y r) (k n : Nat) (e : Bool) (he : decide (k = n) = e) (hx : a.eval x = .int .i64 (k : Int)) (hy : a.eval y = .int .i64 (n : Int)) : YieldsIf Tryz.prog ops S op (.bool e) a :=
  .inl ⟨hw, fun w _ => by
    have hkn : ((k : Int) == (n : Int)) = e := by
      rw [← he]
      by_cases h : k = n
      · subst h; simp
      · rw [decide_eq_false h]; simp; omega
    unfold execOp; simp [ho, hx, hy, eqGuard, binOp, run_underlying Tryz.underlying3, Op.intCmp, hkn]⟩
theorem markS_any {w W : World} (mx : Int) (hmx : w.cell? ⟨mk_lays_ren.g 1, 0, none⟩ = some (.int .i64 mx)) (s : ByteArray) (r : Bool) (hs : s.size ≤ 100) (hr : mkS (bvS s) s.size = r) (hb : Below w.heap.size w W) (b c : Nat) (hc : s.size ≤ c) (hrd : Reads W.heap.size W (some ⟨b, 0, none⟩) s.size (fun j => .int .u8 (ub (bvS s j)))) :
    Calls Tryz.prog 17 #[.slice (some ⟨b, 0, none⟩) s.size c] W fun e w' => e = .returned (.bool r) ∧ Below W.heap.size W w' := by
  subst hr
  have hlt : mk_lays_ren.g 1 < w.heap.size := World.block_lt_of_cell? w _ hmx
  exact tmarkG_any W.heap.size (some ⟨b, 0, none⟩) s.size c (bvS s) mx W hrd (fun e => by cases e) hc (by omega) (by rw [hb.cell (p := ⟨mk_lays_ren.g 1, 0, none⟩) hlt]; exact hmx)
theorem mark0_any {w W : World} (mx : Int) (hmx : w.cell? ⟨mk_lays_ren.g 1, 0, none⟩ = some (.int .i64 mx)) (hb : Below w.heap.size w W) :
    Calls Tryz.prog 17 #[.slice none 0 0] W fun e w' => e = .returned (.bool false) ∧ Below W.heap.size W w' := by
  have hlt : mk_lays_ren.g 1 < w.heap.size := World.block_lt_of_cell? w _ hmx
  exact tmarkG_any W.heap.size none 0 0 (fun _ => 0#8) mx W (.inl rfl) (fun _ => rfl) (Nat.le_refl _) (by omega) (by rw [hb.cell (p := ⟨mk_lays_ren.g 1, 0, none⟩) hlt]; exact hmx)
end Go.Proofs.YtejknkgbkkdaiaaGreatDoor
