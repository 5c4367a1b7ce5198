/-
  Contracts: makers.
-/
import Derived.Test.YtejknkgbkkdaiaaGreatDoorG16
namespace Go.Proofs.YtejknkgbkkdaiaaGreatDoor
open Go.RowKit
set_option linter.unusedVariables false
set_option linter.unusedSimpArgs false

theorem infoMaker : (Tryz.prog.info? 56).isSome = true := by kernel_rfl
theorem neq_ownM (w : World) (a : Addr) : (binOp .neq 29 (.pointer (some a)) (.pointer (some a))).run Tryz.prog w = .ok (.bool false) w := by
  obtain ⟨j, hj⟩ := Option.isSome_iff_exists.1 infoMaker
  have h : ∀ d : Nat, (Op.equalIn (d + 1) 29 (.pointer (some a)) (.pointer (some a))).run Tryz.prog w = .ok true w := fun d => by
    simp [Op.equalIn, run_underlying Tryz.underlying29, sizeOf, typeInfo, hj, run_sameAddr_same]
  simp only [binOp]
  simp [Op.equal, Op.maxDepth, h 9999]
theorem neq_nilM (w : World) (a : Addr) : (binOp .neq 29 (.pointer none) (.pointer (some a))).run Tryz.prog w = .ok (.bool true) w := by
  have h : ∀ d : Nat, (Op.equalIn (d + 1) 29 (.pointer none) (.pointer (some a))).run Tryz.prog w = .ok false w := fun d => by
    simp [Op.equalIn, run_underlying Tryz.underlying29]
  simp only [binOp]
  simp [Op.equal, Op.maxDepth, h 9999]
/-- a maker that New or Copy made -/
def MB (W : World) (mb B : Nat) (real : Bool) (sv : Value) : Prop :=
  W.heap[mb]? = some (.cells #[.map (some B), .bool real, sv, .pointer (some ⟨mb, 0, none⟩)] 56 (0, 0))
theorem MB.c0 {W : World} {mb B : Nat} {real : Bool} {sv : Value} (h : MB W mb B real sv) : W.cell? ⟨mb, 0, none⟩ = some (.map (some B)) := by rw [cell_of_row W _ 0 _ _ (0, 0) h]; rfl
theorem MB.c1 {W : World} {mb B : Nat} {real : Bool} {sv : Value} (h : MB W mb B real sv) : W.cell? ⟨mb, 1, none⟩ = some (.bool real) := by rw [cell_of_row W _ 1 _ _ (0, 0) h]; rfl
theorem MB.c2 {W : World} {mb B : Nat} {real : Bool} {sv : Value} (h : MB W mb B real sv) : W.cell? ⟨mb, 2, none⟩ = some sv := by rw [cell_of_row W _ 2 _ _ (0, 0) h]; rfl
theorem MB.c3 {W : World} {mb B : Nat} {real : Bool} {sv : Value} (h : MB W mb B real sv) : W.cell? ⟨mb, 3, none⟩ = some (.pointer (some ⟨mb, 0, none⟩)) := by rw [cell_of_row W _ 3 _ _ (0, 0) h]; rfl
theorem MB.lt {W : World} {mb B : Nat} {real : Bool} {sv : Value} (h : MB W mb B real sv) : mb < W.heap.size := (Array.getElem?_eq_some_iff.1 h).1
theorem MB.gr {W W' : World} {mb B : Nat} {real : Bool} {sv : Value} {row : Option Nat} (h : MB W mb B real sv) (g : W.grownBy W' row) (hne : some mb ≠ row) : MB W' mb B real sv := (g.block mb h.lt hne).trans h
theorem MB.below {W W' : World} {mb B : Nat} {real : Bool} {sv : Value} (h : MB W mb B real sv) (g : Below W.heap.size W W') : MB W' mb B real sv := (g.block mb h.lt).trans h
/-- a table of the things L -/
def TM (W : World) (mb : Nat) (L : List Thing) : Prop := ∃ B, MB W mb B false (.slice none 0 0) ∧ BK W B L
theorem MB.apart {W : World} {mb B : Nat} {real : Bool} {sv : Value} {L : List Thing} (h : MB W mb B real sv) (hb : BK W B L) : mb ≠ B := by
  rintro rfl
  obtain ⟨D, ⟨es, clock, h1, _⟩, _⟩ := hb
  unfold MB at h
  rw [h] at h1
  cases h1
theorem TM.below {W W' : World} {mb : Nat} {L : List Thing} (h : TM W mb L) (g : Below W.heap.size W W') : TM W' mb L := by
  obtain ⟨B, h1, h2⟩ := h
  exact ⟨B, h1.below g, h2.below g⟩
set_option maxHeartbeats 400000 in
theorem noneM_any (w : World) (mb B : Nat) (real : Bool) (sv : Value) (h : MB w mb B real sv) :
    Calls Tryz.prog 32 #[.pointer (some ⟨mb, 0, none⟩)] w fun e w' => e = .returned (.bool false) ∧ w = w' := by
  have h1 := h.c3
  have h2 := neq_ownM w ⟨mb, 0, none⟩
  clear h
  go_enter Tryz.func32, Tryz.ntmps32
  go_wp2
  go_ret
  exact ⟨rfl, rfl⟩
set_option maxHeartbeats 400000 in
theorem emptyBook_any (w : World) :
    Calls Tryz.prog 24 #[] w fun e w' => ∃ B, e = .returned (.agg #[.map (some B)]) ∧ w.heap.size ≤ B ∧ Below w.heap.size w w' ∧ BK w' B [] := by
  have hmm := @run_makeMap Tryz.prog
  have HB := Lib.hid (BK.made (w.alloc (.cells #[.map (some (w.heap.size + 1))] 53)))
  go_enter Tryz.func24, Tryz.ntmps24
  go_wp2
  exact bodyPost_ret (v := .agg #[.map (some (w.heap.size + 1))]) (by simp [results, Tryz.results24, go_sem]) rfl ⟨w.heap.size + 1, rfl, by omega, ((Below.refl _ _).alloc (Nat.le_refl _) _).alloc (by simp) _, by simpa using HB.out⟩
set_option maxHeartbeats 400000 in
theorem sizeB_any (w : World) (B : Nat) (L : List Thing) (h : BK w B L) :
    Calls Tryz.prog 33 #[.agg #[.map (some B)]] w fun e w' => e = .returned (.int .i64 (L.length : Int)) ∧ Below w.heap.size w w' := by
  have hk := h.below ((Below.refl _ _).alloc (Nat.le_refl _) (.cells #[.map (some B)] 53))
  obtain ⟨D, hown, _, _, _, _, hsz⟩ := hk
  have hlen : ∀ ty, (Builtin.len_ #[51] ty #[.map (some B)]).run Tryz.prog (w.alloc (.cells #[.map (some B)] 53)) = .ok (.int .i64 (L.length : Int)) (w.alloc (.cells #[.map (some B)] 53)) := fun ty => by
    rw [← hsz]; exact hown.len Tryz.underlying51 ty
  clear hown hsz h
  go_enter Tryz.func33, Tryz.ntmps33
  go_wp2
  go_ret
  exact ⟨rfl, (Below.refl _ _).alloc (Nat.le_refl _) _⟩
set_option maxHeartbeats 400000 in
theorem lenM_any (w : World) (mb B : Nat) (real : Bool) (sv : Value) (L : List Thing) (h : MB w mb B real sv) (hk : BK w B L) :
    Calls Tryz.prog 12 #[.pointer (some ⟨mb, 0, none⟩)] w fun e w' => e = .returned (.int .i64 (L.length : Int)) ∧ Below w.heap.size w w' := by
  have h0 := h.c0
  have H := Lib.hid h
  have HK := Lib.hid hk
  clear h hk
  go_enter Tryz.func12, Tryz.ntmps12
  go_wp2_with fail
  refine (noneM_any w mb B real sv H.out).mono ?_
  rintro e w' ⟨rfl, rfl⟩
  go_wp2_with fail
  refine (sizeB_any w B L HK.out).mono ?_
  rintro e w1 ⟨rfl, hb⟩
  have HB := Lib.hid hb
  clear hb
  go_wp2
  go_ret
  exact ⟨rfl, HB.out⟩
set_option maxHeartbeats 400000 in
theorem realM_any (w : World) (mb B : Nat) (real : Bool) (sv : Value) (h : MB w mb B real sv) :
    Calls Tryz.prog 15 #[.pointer (some ⟨mb, 0, none⟩)] w fun e w' => e = .returned (.bool real) ∧ w = w' := by
  have h1 := h.c1
  have H := Lib.hid h
  clear h
  go_enter Tryz.func15, Tryz.ntmps15
  go_wp2_with fail
  refine (noneM_any w mb B real sv H.out).mono ?_
  rintro e w' ⟨rfl, rfl⟩
  go_wp2
  go_ret
  exact ⟨rfl, rfl⟩
theorem infoThing : (Tryz.prog.info? 68).map (·.size) = some 4 := by kernel_rfl
theorem thing_stored (w1 : World) (H : Nat) (a b c d a' b' c' d' : Value) (hl : w1.heap[H]? = some (.cells #[a, b, c, d] 68 (0, 0))) : ((((w1.setCell ⟨H, 0, none⟩ a').setCell ⟨H, 1, none⟩ b').setCell ⟨H, 2, none⟩ c').setCell ⟨H, 3, none⟩ d').heap[H]? = some (.cells #[a', b', c', d'] 68 (0, 0)) :=
  heap_setCell_same _ H 3 _ _ _ (heap_setCell_same _ H 2 _ _ _ (heap_setCell_same _ H 1 _ _ _ (heap_setCell_same _ H 0 _ _ _ hl)))
theorem thing_below {B : Nat} {w w1 : World} (H : Nat) (a' b' c' d' : Value) (h : Below B w w1) (hB : B ≤ H) : Below B w ((((w1.setCell ⟨H, 0, none⟩ a').setCell ⟨H, 1, none⟩ b').setCell ⟨H, 2, none⟩ c').setCell ⟨H, 3, none⟩ d') :=
  (((h.setCell (by exact hB) _).setCell (by exact hB) _).setCell (by exact hB) _).setCell (by exact hB) _
set_option maxHeartbeats 400000 in
theorem sumOf_any (w : World) (p : Option Addr) (m c : Nat) (P : Nat → Option Addr) (ln C : Nat → Nat) (f : Nat → Nat → BitVec 8) (g : Nat → BitVec 8) (hr : RI w p m P ln C f) (hmc : m ≤ c) (hm : m ≤ 4294967295) (hn : pos ln m ≤ 4294967295) (hg : ∀ i, i < m → ∀ j, j < ln i → f i j = g (pos ln i + j)) :
    Calls Tryz.prog 40 #[.slice p m c] w fun e w' => e = .returned (thV 0 ⟨#[]⟩ ⟨(byL g (pos ln m)).toArray⟩ 0) ∧ Below w.heap.size w w' := by
  have ha : Below w.heap.size w (w.alloc (.cells #[.int .i64 0, .string ⟨#[]⟩, .string ⟨#[]⟩, .int .i64 0] 68)) := (Below.refl _ _).alloc (Nat.le_refl _) _
  have hj := joined_any (w.alloc (.cells #[.int .i64 0, .string ⟨#[]⟩, .string ⟨#[]⟩, .int .i64 0] 68)) p m c P ln C f g ⟨(hr.rows.below ha).mono ha.size, hr.cap, fun i hi => ((hr.row i hi).below ha).mono ha.size⟩ hmc hm hn hg
  obtain ⟨S, hS⟩ : ∃ S : ByteArray, S = ⟨(byL g (pos ln m)).toArray⟩ := ⟨_, rfl⟩
  rw [← hS] at hj ⊢
  have HJ := Lib.hid hj
  clear hj hS hr hg
  go_enter Tryz.func40, Tryz.ntmps40
  go_wp2_with fail
  refine HJ.out.mono ?_
  rintro e w1 ⟨rfl, hb⟩
  have hl : w1.heap[w.heap.size]? = some (.cells #[.int .i64 0, .string ⟨#[]⟩, .string ⟨#[]⟩, .int .i64 0] 68 (0, 0)) := laid_go (laid_at rfl) hb
  have c0 : w1.cell? ⟨w.heap.size, 0, none⟩ = some (.int .i64 0) := by rw [cell_of_row w1 _ 0 _ _ (0, 0) hl]; rfl
  have c1 : w1.cell? ⟨w.heap.size, 1, none⟩ = some (.string ⟨#[]⟩) := by rw [cell_of_row w1 _ 1 _ _ (0, 0) hl]; rfl
  have c2 : w1.cell? ⟨w.heap.size, 2, none⟩ = some (.string ⟨#[]⟩) := by rw [cell_of_row w1 _ 2 _ _ (0, 0) hl]; rfl
  have c3 : w1.cell? ⟨w.heap.size, 3, none⟩ = some (.int .i64 0) := by rw [cell_of_row w1 _ 3 _ _ (0, 0) hl]; rfl
  have fr : ∀ o, w1.frozen? ⟨w.heap.size, o, none⟩ = false := fun o => frozen_of_row w1 _ o _ _ hl
  have HB := Lib.hid (ha.trans (hb.mono (by simp)))
  have HL := Lib.hid hl
  clear hb hl HJ ha
  go_wp2
  refine bodyPost_ret (v := thV 0 ⟨#[]⟩ S 0) ?_ rfl ⟨rfl, thing_below _ _ _ _ _ HB.out (Nat.le_refl _)⟩
  exact results_cell_row (p := 2) (ty := 68) rfl _ _ w.heap.size 68 _ (0, 0) _ rfl (thing_stored w1 _ _ _ _ _ _ _ _ _ HL.out) Tryz.underlying68 rfl infoThing
set_option maxHeartbeats 400000 in
theorem drawOf_any (w : World) (k : Int) :
    Calls Tryz.prog 42 #[.int .i64 k] w fun e w' => e = .returned (thV 2 ⟨#[]⟩ ⟨#[]⟩ k) ∧ Below w.heap.size w w' := by
  go_enter Tryz.func42, Tryz.ntmps42
  go_wp2
  refine bodyPost_ret (v := thV 2 ⟨#[]⟩ ⟨#[]⟩ k) ?_ rfl ⟨rfl, (Below.refl _ _).alloc (Nat.le_refl _) _⟩
  exact results_cell_row (p := 2) (ty := 68) rfl _ _ w.heap.size 68 _ (0, 0) _ rfl (heap_alloc_new _ _) Tryz.underlying68 rfl infoThing
/-- what lies there while a maker is asked -/
structure SM (w : World) (mb B : Nat) (L : List Thing) (W : World) : Prop where
  bel : Below w.heap.size w W
  mb : MB W mb B false (.slice none 0 0)
  bk : BK W B L
  tag : BT W w.heap.size 32 (fun _ => 0#8)
theorem SM.go {w W W' : World} {mb B : Nat} {L : List Thing} (h : SM w mb B L W) (g : Below W.heap.size W W') : SM w mb B L W' := ⟨h.bel.trans (g.mono h.bel.size), h.mb.below g, h.bk.below g, h.tag.below' g⟩
theorem SM.drew {w W : World} {mb B : Nat} {L : List Thing} (h : SM w mb B L W) : SM w mb B L W.drew := h.go (Below.refl _ _).drew
theorem nil_thing_ok (g : List UInt8) (h : g.length ≤ 4294967295) : Thing.ok (0, [], g, 0) := ⟨show (Lit.int .i64 0).wf = true by decide, show (Lit.int .i64 0).wf = true by decide, by simp, by show g.length ≤ _; unfold maxLen; omega⟩
theorem SM.start {w : World} {mb B : Nat} {L : List Thing} {C : Array Value} (h : MB w mb B false (.slice none 0 0)) (hk : BK w B L) (hC : ∀ i, i < 32 → C[i]? = some (.int .u8 (ub 0#8))) : SM w mb B L (w.alloc (.cells C 25)) := by
  have hb0 : Below w.heap.size w (w.alloc (.cells C 25)) := (Below.refl _ _).alloc (Nat.le_refl _) _
  exact ⟨hb0, h.below hb0, hk.below hb0, BT.of_cells (laid_at rfl) hC⟩
set_option maxHeartbeats 1000000 in
set_option maxRecDepth 100000 in
theorem sumM_any (w : World) (mb B : Nat) (L : List Thing) (h : MB w mb B false (.slice none 0 0)) (hk : BK w B L) (hL : L.length ≤ 1000000000000)
    (p : Option Addr) (m c : Nat) (P : Nat → Option Addr) (ln C : Nat → Nat) (f : Nat → Nat → BitVec 8) (g : Nat → BitVec 8) (hr : RI w p m P ln C f) (hmc : m ≤ c) (hm : m ≤ 4294967295) (hn : pos ln m ≤ 4294967295) (hg : ∀ i, i < m → ∀ j, j < ln i → f i j = g (pos ln i + j)) :
    Calls Tryz.prog 21 #[.pointer (some ⟨mb, 0, none⟩), .slice p m c] w fun e w' => e = .returned (tagV (numT (idx (addT L (0, [], byL g (pos ln m), 0)) (0, [], byL g (pos ln m), 0)))) ∧ w.grownBy w' (some B) ∧ BK w' B (addT L (0, [], byL g (pos ln m), 0)) := by
  obtain ⟨l, hl⟩ : ∃ l, l = byL g (pos ln m) := ⟨_, rfl⟩
  have hll : l.length ≤ 4294967295 := by rw [hl, byL_len]; exact hn
  have HSO := Lib.hid (show ∀ W, Below w.heap.size w W → Calls Tryz.prog 40 #[.slice p m c] W fun e w' => e = .returned (thV 0 ⟨#[]⟩ ⟨l.toArray⟩ 0) ∧ Below W.heap.size W w' from fun W hW => by
    rw [hl]; exact sumOf_any W p m c P ln C f g ⟨(hr.rows.below hW).mono hW.size, hr.cap, fun i hi => ((hr.row i hi).below hW).mono hW.size⟩ hmc hm hn hg)
  rw [← hl]
  obtain ⟨x, hx⟩ : ∃ x : Thing, x = (0, [], l, 0) := ⟨_, rfl⟩
  obtain ⟨s, hs⟩ : ∃ s, s = numT (idx (addT L x) x) := ⟨_, rfl⟩
  have HTE := Lib.hid (show ∀ W, SM w mb B L W → Calls Tryz.prog 39 #[.agg #[.map (some B)], thV 0 ⟨#[]⟩ ⟨l.toArray⟩ 0] W fun e w' => e = .returned (tagV s) ∧ W.grownBy w' (some B) ∧ BK w' B (addT L x) from fun W hW => by
    rw [hs, hx]; exact tell_any W B L (0, [], l, 0) _ _ rfl rfl (nil_thing_ok l hll) hW.bk hL)
  rw [← hx, ← hs]
  have hap := h.apart hk
  have hBw := hk.lt
  have hmw := h.lt
  have hne : some mb ≠ some B := by simpa using hap
  go_enter Tryz.func21, Tryz.ntmps21
  go_upto_region 1 with (fail)
  refine forget_code (SM w mb B L) (SM.start h hk (fun i hi => zero_atL 32 i hi)) ?_
  intro W hW
  have HW := Lib.hid hW
  have c1 := hW.mb.c1
  clear hW h hk hr hg hl hs hx
  go_wp2_with fail
  refine (noneM_any W mb B false _ HW.out.mb).mono ?_
  rintro e w' ⟨rfl, rfl⟩
  go_upto_region 5 with (fail)
  refine wp_region_noPanic ?_
  refine wp_region_start (n := 8) (l := #[false, false, false, false, false, false, false, false]) (S := (fun W => W.cell? ⟨mb, 0, none⟩ = some (.map (some B)))) (by kernel_rfl) rfl (by kernel_rfl) (by (first | exact M7.c0 | exact (H5.out.mb.gr hg6 hne).c0 | exact H5.out.mb.c0 | exact HW.out.drew.mb.c0)) (fun hHeld => ?_)
  refine take_to (i := 0) (d := some 14) (v := ?_) (l' := #[true, false, false, false, false, false, false, false]) rfl rfl (by kernel_rfl) (by kernel_rfl) (by kernel_rfl) (by kernel_rfl) (fun _ _ _ h => h) (Or.inl ⟨by rfl, ?_⟩) (by assumption) ?_; rotate_left; · (intro w' hSw; (try dsimp only at hSw); go_simp; (try with_reducible rfl))
  try simp only [Act.put, List.setIfInBounds_toArray, List.set_cons_zero, List.set_cons_succ]
  refine take_to (i := 1) (d := some 15) (v := ?_) (l' := #[true, true, false, false, false, false, false, false]) rfl rfl (by kernel_rfl) (by kernel_rfl) (by kernel_rfl) (by kernel_rfl) (fun _ _ _ h => h) (Or.inl ⟨by rfl, ?_⟩) (by assumption) ?_; rotate_left; · (intro w' hSw; (try dsimp only at hSw); go_simp; (try with_reducible rfl))
  try simp only [Act.put, List.setIfInBounds_toArray, List.set_cons_zero, List.set_cons_succ]
  refine take_to (i := 2) (d := some 16) (v := ?_) (l' := #[true, true, true, false, false, false, false, false]) rfl rfl (by kernel_rfl) (by kernel_rfl) (by kernel_rfl) (by kernel_rfl) (fun _ _ _ h => h) (Or.inl ⟨by rfl, ?_⟩) (by assumption) ?_; rotate_left; · (intro w' hSw; (try dsimp only at hSw); go_simp; (try with_reducible rfl))
  try simp only [Act.put, List.setIfInBounds_toArray, List.set_cons_zero, List.set_cons_succ]
  refine take_to (i := 3) (d := some 17) (v := ?_) (l' := #[true, true, true, true, false, false, false, false]) rfl rfl (by kernel_rfl) (by kernel_rfl) (by kernel_rfl) (by kernel_rfl) (fun _ _ _ h => h) (Or.inl ⟨by rfl, ?_⟩) (by assumption) ?_; rotate_left; · (intro w' hSw; (try dsimp only at hSw); go_simp; (try with_reducible rfl))
  try simp only [Act.put, List.setIfInBounds_toArray, List.set_cons_zero, List.set_cons_succ]
  refine take_to (i := 4) (d := some 18) (v := ?_) (l' := #[true, true, true, true, true, false, false, false]) rfl rfl (by kernel_rfl) (by kernel_rfl) (by kernel_rfl) (by kernel_rfl) (fun _ _ _ h => h) (Or.inl ⟨by rfl, ?_⟩) (by assumption) ?_; rotate_left; · (intro w' hSw; (try dsimp only at hSw); go_simp; (try with_reducible rfl))
  try simp only [Act.put, List.setIfInBounds_toArray, List.set_cons_zero, List.set_cons_succ]
  refine one_to (i := 5) (l' := #[true, true, true, true, true, true, false, false]) rfl (by kernel_rfl) (by kernel_rfl) (fun K hK => ?_)
  go_simp
  refine (HSO.out _ HW.out.drew.bel).mono ?_
  rintro e w5 ⟨rfl, hb5⟩; have H5 := Lib.hid (HW.out.drew.go hb5); clear hb5
  dsimp only
  refine hK.out _ _ (by (first | exact M7.c0 | exact (H5.out.mb.gr hg6 hne).c0 | exact H5.out.mb.c0 | exact HW.out.drew.mb.c0)) (fun hHeld => ?_)
  clear hK K
  try simp only [Act.put, List.setIfInBounds_toArray, List.set_cons_zero, List.set_cons_succ]
  refine one_to (i := 6) (l' := #[true, true, true, true, true, true, true, false]) rfl (by kernel_rfl) (by kernel_rfl) (fun K hK => ?_)
  go_simp
  refine (HTE.out _ H5.out).mono ?_
  rintro e w6 ⟨rfl, hg6, hk6⟩
  dsimp only
  refine hK.out _ _ (by (first | exact M7.c0 | exact (H5.out.mb.gr hg6 hne).c0 | exact H5.out.mb.c0 | exact HW.out.drew.mb.c0)) (fun hHeld => ?_)
  clear hK K
  try simp only [Act.put, List.setIfInBounds_toArray, List.set_cons_zero, List.set_cons_succ]
  refine one_to (i := 7) (l' := #[true, true, true, true, true, true, true, true]) rfl (by kernel_rfl) (by kernel_rfl) (fun K hK => ?_)
  rw [if_pos (by rfl)]
  have t6 := H5.out.tag.gr hg6 (by omega)
  refine wp_store_mid 25 _ _ rfl w.heap.size 0 (tagC s).toArray rfl rfl (by simpa [tagC_len] using t6.there 32 (Nat.le_refl _)) (by simp [infoTag, tagC_len]) (tagC_one _) ?_
  rw [List.toList_toArray]
  have HR7 := Lib.hid (World.rangeAt_setCells_same w6 w.heap.size 0 (tagC s) (by rw [tagC_len]; exact t6.there 32 (Nat.le_refl _)))
  have gs := gr_setCells (hb := w.heap.size) (tagC s) 0 w6
  have HG7 := Lib.hid (gr_new ((below_gr H5.out.bel (some B)).trans hg6) gs (Nat.le_refl _))
  have HK7 := Lib.hid (hk6.kept gs (by simp; omega))
  have M7 := (H5.out.mb.gr hg6 hne).gr gs (by simp; omega)
  generalize w6.setCells w.heap.size 0 (tagC s) = W7 at HR7 HG7 HK7 M7 ⊢
  clear t6 gs
  refine hK.out _ _ (by (first | exact M7.c0 | exact (H5.out.mb.gr hg6 hne).c0 | exact H5.out.mb.c0 | exact HW.out.drew.mb.c0)) (fun hHeld => ?_)
  clear hK K
  try simp only [Act.put, List.setIfInBounds_toArray, List.set_cons_zero, List.set_cons_succ]
  refine wpAnyH_done (by kernel_rfl) ?_ _
  refine NoPanic.normal ?_
  clear hHeld
  clear M7 hg6 hk6 H5 HW HTE HSO
  go_wp2
  refine bodyPost_ret (v := tagV s) ?_ rfl ⟨rfl, HG7.out, HK7.out⟩
  exact results_cell_mid (p := 4) (ty := 25) rfl _ W7 w.heap.size _ _ rfl HR7.out Tryz.underlying25 rfl (by simp [infoTag, tagC_len])
theorem draw_thing_ok (k : Int) (h : (Lit.int .i64 k).wf = true) : Thing.ok (2, [], [], k) := ⟨show (Lit.int .i64 2).wf = true by decide, h, by simp, by simp⟩
set_option maxHeartbeats 1000000 in
set_option maxRecDepth 100000 in
theorem drawM_any (w : World) (mb B : Nat) (L : List Thing) (h : MB w mb B false (.slice none 0 0)) (hk : BK w B L) (hL : L.length ≤ 1000000000000) (k : Int) (hw : (Lit.int .i64 k).wf = true) :
    Calls Tryz.prog 22 #[.pointer (some ⟨mb, 0, none⟩), .int .i64 k] w fun e w' => e = .returned (tagV (numT (idx (addT L (2, [], [], k)) (2, [], [], k)))) ∧ w.grownBy w' (some B) ∧ BK w' B (addT L (2, [], [], k)) := by
  obtain ⟨x, hx⟩ : ∃ x : Thing, x = (2, [], [], k) := ⟨_, rfl⟩
  obtain ⟨s, hs⟩ : ∃ s, s = numT (idx (addT L x) x) := ⟨_, rfl⟩
  have HTE := Lib.hid (show ∀ W, SM w mb B L W → Calls Tryz.prog 39 #[.agg #[.map (some B)], thV 2 ⟨#[]⟩ ⟨#[]⟩ k] W fun e w' => e = .returned (tagV s) ∧ W.grownBy w' (some B) ∧ BK w' B (addT L x) from fun W hW => by
    rw [hs, hx]; exact tell_any W B L (2, [], [], k) _ _ rfl rfl (draw_thing_ok k hw) hW.bk hL)
  rw [← hx, ← hs]
  have hap := h.apart hk
  have hBw := hk.lt
  have hmw := h.lt
  have hne : some mb ≠ some B := by simpa using hap
  go_enter Tryz.func22, Tryz.ntmps22
  go_upto_region 1 with (fail)
  refine forget_code (SM w mb B L) (SM.start h hk (fun i hi => zero_atL 32 i hi)) ?_
  intro W hW
  have HW := Lib.hid hW
  have c1 := hW.mb.c1
  clear hW h hk hs hx hw
  go_wp2_with fail
  refine (noneM_any W mb B false _ HW.out.mb).mono ?_
  rintro e w' ⟨rfl, rfl⟩
  go_upto_region 5 with (fail)
  refine wp_region_noPanic ?_
  refine wp_region_start (n := 8) (l := #[false, false, false, false, false, false, false, false]) (S := (fun W => W.cell? ⟨mb, 0, none⟩ = some (.map (some B)))) (by kernel_rfl) rfl (by kernel_rfl) (by (first | exact M7.c0 | exact (H5.out.mb.gr hg6 hne).c0 | exact H5.out.mb.c0 | exact HW.out.drew.mb.c0)) (fun hHeld => ?_)
  refine take_to (i := 0) (d := some 23) (v := ?_) (l' := #[true, false, false, false, false, false, false, false]) rfl rfl (by kernel_rfl) (by kernel_rfl) (by kernel_rfl) (by kernel_rfl) (fun _ _ _ h => h) (Or.inl ⟨by rfl, ?_⟩) (by assumption) ?_; rotate_left; · (intro w' hSw; (try dsimp only at hSw); go_simp; (try with_reducible rfl))
  try simp only [Act.put, List.setIfInBounds_toArray, List.set_cons_zero, List.set_cons_succ]
  refine take_to (i := 1) (d := some 24) (v := ?_) (l' := #[true, true, false, false, false, false, false, false]) rfl rfl (by kernel_rfl) (by kernel_rfl) (by kernel_rfl) (by kernel_rfl) (fun _ _ _ h => h) (Or.inl ⟨by rfl, ?_⟩) (by assumption) ?_; rotate_left; · (intro w' hSw; (try dsimp only at hSw); go_simp; (try with_reducible rfl))
  try simp only [Act.put, List.setIfInBounds_toArray, List.set_cons_zero, List.set_cons_succ]
  refine take_to (i := 2) (d := some 25) (v := ?_) (l' := #[true, true, true, false, false, false, false, false]) rfl rfl (by kernel_rfl) (by kernel_rfl) (by kernel_rfl) (by kernel_rfl) (fun _ _ _ h => h) (Or.inl ⟨by rfl, ?_⟩) (by assumption) ?_; rotate_left; · (intro w' hSw; (try dsimp only at hSw); go_simp; (try with_reducible rfl))
  try simp only [Act.put, List.setIfInBounds_toArray, List.set_cons_zero, List.set_cons_succ]
  refine take_to (i := 3) (d := some 26) (v := ?_) (l' := #[true, true, true, true, false, false, false, false]) rfl rfl (by kernel_rfl) (by kernel_rfl) (by kernel_rfl) (by kernel_rfl) (fun _ _ _ h => h) (Or.inl ⟨by rfl, ?_⟩) (by assumption) ?_; rotate_left; · (intro w' hSw; (try dsimp only at hSw); go_simp; (try with_reducible rfl))
  try simp only [Act.put, List.setIfInBounds_toArray, List.set_cons_zero, List.set_cons_succ]
  refine take_to (i := 4) (d := some 27) (v := ?_) (l' := #[true, true, true, true, true, false, false, false]) rfl rfl (by kernel_rfl) (by kernel_rfl) (by kernel_rfl) (by kernel_rfl) (fun _ _ _ h => h) (Or.inl ⟨by rfl, ?_⟩) (by assumption) ?_; rotate_left; · (intro w' hSw; (try dsimp only at hSw); go_simp; (try with_reducible rfl))
  try simp only [Act.put, List.setIfInBounds_toArray, List.set_cons_zero, List.set_cons_succ]
  refine one_to (i := 5) (l' := #[true, true, true, true, true, true, false, false]) rfl (by kernel_rfl) (by kernel_rfl) (fun K hK => ?_)
  go_simp
  refine (drawOf_any _ k).mono ?_
  rintro e w5 ⟨rfl, hb5⟩; have H5 := Lib.hid (HW.out.drew.go hb5); clear hb5
  dsimp only
  refine hK.out _ _ (by (first | exact M7.c0 | exact (H5.out.mb.gr hg6 hne).c0 | exact H5.out.mb.c0 | exact HW.out.drew.mb.c0)) (fun hHeld => ?_)
  clear hK K
  try simp only [Act.put, List.setIfInBounds_toArray, List.set_cons_zero, List.set_cons_succ]
  refine one_to (i := 6) (l' := #[true, true, true, true, true, true, true, false]) rfl (by kernel_rfl) (by kernel_rfl) (fun K hK => ?_)
  go_simp
  refine (HTE.out _ H5.out).mono ?_
  rintro e w6 ⟨rfl, hg6, hk6⟩
  dsimp only
  refine hK.out _ _ (by (first | exact M7.c0 | exact (H5.out.mb.gr hg6 hne).c0 | exact H5.out.mb.c0 | exact HW.out.drew.mb.c0)) (fun hHeld => ?_)
  clear hK K
  try simp only [Act.put, List.setIfInBounds_toArray, List.set_cons_zero, List.set_cons_succ]
  refine one_to (i := 7) (l' := #[true, true, true, true, true, true, true, true]) rfl (by kernel_rfl) (by kernel_rfl) (fun K hK => ?_)
  rw [if_pos (by rfl)]
  have t6 := H5.out.tag.gr hg6 (by omega)
  refine wp_store_mid 25 _ _ rfl w.heap.size 0 (tagC s).toArray rfl rfl (by simpa [tagC_len] using t6.there 32 (Nat.le_refl _)) (by simp [infoTag, tagC_len]) (tagC_one _) ?_
  rw [List.toList_toArray]
  have HR7 := Lib.hid (World.rangeAt_setCells_same w6 w.heap.size 0 (tagC s) (by rw [tagC_len]; exact t6.there 32 (Nat.le_refl _)))
  have gs := gr_setCells (hb := w.heap.size) (tagC s) 0 w6
  have HG7 := Lib.hid (gr_new ((below_gr H5.out.bel (some B)).trans hg6) gs (Nat.le_refl _))
  have HK7 := Lib.hid (hk6.kept gs (by simp; omega))
  have M7 := (H5.out.mb.gr hg6 hne).gr gs (by simp; omega)
  generalize w6.setCells w.heap.size 0 (tagC s) = W7 at HR7 HG7 HK7 M7 ⊢
  clear t6 gs
  refine hK.out _ _ (by (first | exact M7.c0 | exact (H5.out.mb.gr hg6 hne).c0 | exact H5.out.mb.c0 | exact HW.out.drew.mb.c0)) (fun hHeld => ?_)
  clear hK K
  try simp only [Act.put, List.setIfInBounds_toArray, List.set_cons_zero, List.set_cons_succ]
  refine wpAnyH_done (by kernel_rfl) ?_ _
  refine NoPanic.normal ?_
  clear hHeld
  clear M7 hg6 hk6 H5 HW HTE 
  go_wp2
  refine bodyPost_ret (v := tagV s) ?_ rfl ⟨rfl, HG7.out, HK7.out⟩
  exact results_cell_mid (p := 4) (ty := 25) rfl _ W7 w.heap.size _ _ rfl HR7.out Tryz.underlying25 rfl (by simp [infoTag, tagC_len])
set_option maxHeartbeats 1000000 in
set_option maxRecDepth 100000 in
theorem macOfT_any (w : World) (kp : Option Addr) (kn kc : Nat) (key : Nat → BitVec 8) (hkr : Reads w.heap.size w kp kn (fun j => .int .u8 (ub (key j)))) (hkz : kp = none → kn = 0) (p : Option Addr) (m c : Nat) (P : Nat → Option Addr) (ln C : Nat → Nat) (f : Nat → Nat → BitVec 8) (g : Nat → BitVec 8) (hr : RI w p m P ln C f) (hmc : m ≤ c) (hm : m ≤ 4294967295) (hn : pos ln m ≤ 4294967295) (hg : ∀ i, i < m → ∀ j, j < ln i → f i j = g (pos ln i + j)) :
    Calls Tryz.prog 45 #[.slice kp kn kc, .slice p m c] w fun e w' => e = .returned (thV 1 ⟨(byL key kn).toArray⟩ ⟨(byL g (pos ln m)).toArray⟩ 0) ∧ Below w.heap.size w w' := by
  obtain ⟨S, hS⟩ : ∃ S : ByteArray, S = ⟨(byL g (pos ln m)).toArray⟩ := ⟨_, rfl⟩
  obtain ⟨K, hK⟩ : ∃ K : ByteArray, K = ⟨(byL key kn).toArray⟩ := ⟨_, rfl⟩
  have HJ := Lib.hid (show ∀ W, Below w.heap.size w W → Calls Tryz.prog 56 #[.slice p m c] W fun e w' => e = .returned (.string S) ∧ Below W.heap.size W w' from fun W hW => by
    rw [hS]; exact joined_any W p m c P ln C f g ⟨(hr.rows.below hW).mono hW.size, hr.cap, fun i hi => ((hr.row i hi).below hW).mono hW.size⟩ hmc hm hn hg)
  have HCV := Lib.hid (show ∀ W, Below w.heap.size w W → (convert 22 9 (.slice kp kn kc)).run Tryz.prog W = .ok (.string K) W from fun W hW => by
    rw [hK]
    cases kp with
    | none =>
      have h0 := hkz rfl
      subst h0
      exact Lib.run_convert_nil_bytes W 22 9 5 kc Tryz.underlying22 Tryz.underlying5 Tryz.underlying9
    | some a =>
      have := run_convert_bytes_back (P := Tryz.prog) W 22 9 5 a kc (byL key kn) Tryz.underlying22 Tryz.underlying5 Tryz.underlying9 (fun j hj => by
        have hjn : j < kn := by rwa [byL_len] at hj
        rcases hkr.below hW with h | ⟨b, o, he, hb, hc⟩
        · omega
        · cases he
          rw [Go.WideShapes.add_plain, hc j hjn]
          have e := byL_get key kn j hjn
          rw [List.getElem?_eq_getElem hj] at e
          rw [Option.some.inj e]
          rfl)
      rw [byL_len] at this
      exact this)
  rw [← hS, ← hK]
  have ha : Below w.heap.size w (w.alloc (.cells #[.int .i64 0, .string ⟨#[]⟩, .string ⟨#[]⟩, .int .i64 0] 68)) := (Below.refl _ _).alloc (Nat.le_refl _) _
  have hl : (w.alloc (.cells #[.int .i64 0, .string ⟨#[]⟩, .string ⟨#[]⟩, .int .i64 0] 68)).heap[w.heap.size]? = some (.cells #[.int .i64 0, .string ⟨#[]⟩, .string ⟨#[]⟩, .int .i64 0] 68 (0, 0)) := laid_at rfl
  clear hS hK hr hg hkr hkz
  go_enter Tryz.func45, Tryz.ntmps45
  go_upto_region 1 with (fail)
  refine wp_region_noPanic ?_
  refine wp_region_start (n := 6) (l := #[false, false, false, false, false, false]) (S := (fun W => Below w.heap.size w W)) (by kernel_rfl) rfl (by kernel_rfl) (by (first | exact thing_below _ _ _ _ _ (ha.drew.trans (hb5.mono ha.size)) (Nat.le_refl _) | exact ha.drew.trans (hb5.mono ha.size) | exact ha.drew)) (fun hHeld => ?_)
  refine take_to (i := 0) (d := some 5) (v := ?_) (l' := #[true, false, false, false, false, false]) rfl rfl (by kernel_rfl) (by kernel_rfl) (by kernel_rfl) (by kernel_rfl) (fun _ _ _ h => h) (Or.inl ⟨by rfl, ?_⟩) (by assumption) ?_; rotate_left; · (intro w' hSw; (try dsimp only at hSw); go_simp; (try with_reducible rfl))
  try simp only [Act.put, List.setIfInBounds_toArray, List.set_cons_zero, List.set_cons_succ]
  refine take_to (i := 1) (d := some 6) (v := (.string K)) (l' := #[true, true, false, false, false, false]) rfl rfl (by kernel_rfl) (by kernel_rfl) (by kernel_rfl) (by kernel_rfl) (fun _ _ _ h => h) ?_ (by assumption) ?_
  · exact Or.inl ⟨by rfl, fun W hW => by have hcv := HCV.out W hW; go_simp; try rfl⟩
  try simp only [Act.put, List.setIfInBounds_toArray, List.set_cons_zero, List.set_cons_succ]
  refine take_to (i := 2) (d := some 7) (v := ?_) (l' := #[true, true, true, false, false, false]) rfl rfl (by kernel_rfl) (by kernel_rfl) (by kernel_rfl) (by kernel_rfl) (fun _ _ _ h => h) (Or.inl ⟨by rfl, ?_⟩) (by assumption) ?_; rotate_left; · (intro w' hSw; (try dsimp only at hSw); go_simp; (try with_reducible rfl))
  try simp only [Act.put, List.setIfInBounds_toArray, List.set_cons_zero, List.set_cons_succ]
  refine one_to (i := 3) (l' := #[true, true, true, true, false, false]) rfl (by kernel_rfl) (by kernel_rfl) (fun K hK => ?_)
  go_simp
  refine (HJ.out _ ha.drew).mono ?_
  rintro e w5 ⟨rfl, hb5⟩; have hl5 : w5.heap[w.heap.size]? = some (.cells #[.int .i64 0, .string ⟨#[]⟩, .string ⟨#[]⟩, .int .i64 0] 68 (0, 0)) := laid_go (W := (w.alloc (.cells #[.int .i64 0, .string ⟨#[]⟩, .string ⟨#[]⟩, .int .i64 0] 68)).drew) hl hb5; have HL := Lib.hid hl5; have d0 : w5.cell? ⟨w.heap.size, 0, none⟩ = some (.int .i64 0) := by { rw [cell_of_row w5 _ 0 _ _ (0, 0) hl5]; rfl }; have d1 : w5.cell? ⟨w.heap.size, 1, none⟩ = some (.string ⟨#[]⟩) := by { rw [cell_of_row w5 _ 1 _ _ (0, 0) hl5]; rfl }; have d2 : w5.cell? ⟨w.heap.size, 2, none⟩ = some (.string ⟨#[]⟩) := by { rw [cell_of_row w5 _ 2 _ _ (0, 0) hl5]; rfl }; have d3 : w5.cell? ⟨w.heap.size, 3, none⟩ = some (.int .i64 0) := by { rw [cell_of_row w5 _ 3 _ _ (0, 0) hl5]; rfl }; have fr : ∀ o, w5.frozen? ⟨w.heap.size, o, none⟩ = false := fun o => frozen_of_row w5 _ o _ _ hl5; clear hl5
  dsimp only
  refine hK.out _ _ (by (first | exact thing_below _ _ _ _ _ (ha.drew.trans (hb5.mono ha.size)) (Nat.le_refl _) | exact ha.drew.trans (hb5.mono ha.size) | exact ha.drew)) (fun hHeld => ?_)
  clear hK K
  try simp only [Act.put, List.setIfInBounds_toArray, List.set_cons_zero, List.set_cons_succ]
  refine take_to (i := 4) (d := some 9) (v := ?_) (l' := #[true, true, true, true, true, false]) rfl rfl (by kernel_rfl) (by kernel_rfl) (by kernel_rfl) (by kernel_rfl) (fun _ _ _ h => h) (Or.inl ⟨by rfl, ?_⟩) (by assumption) ?_; rotate_left; · (intro w' hSw; (try dsimp only at hSw); go_simp; (try with_reducible rfl))
  try simp only [Act.put, List.setIfInBounds_toArray, List.set_cons_zero, List.set_cons_succ]
  refine one_to (i := 5) (l' := #[true, true, true, true, true, true]) rfl (by kernel_rfl) (by kernel_rfl) (fun K hK => ?_)
  go_simp
  refine hK.out _ _ (by (first | exact thing_below _ _ _ _ _ (ha.drew.trans (hb5.mono ha.size)) (Nat.le_refl _) | exact ha.drew.trans (hb5.mono ha.size) | exact ha.drew)) (fun hHeld => ?_)
  clear hK K
  try simp only [Act.put, List.setIfInBounds_toArray, List.set_cons_zero, List.set_cons_succ]
  refine wpAnyH_done (by kernel_rfl) ?_ _
  refine NoPanic.normal ?_
  clear hHeld d0 d1 d2 d3 fr
  go_wp2
  refine bodyPost_ret (v := thV 1 K S 0) ?_ rfl ⟨rfl, thing_below _ _ _ _ _ (ha.drew.trans (hb5.mono ha.size)) (Nat.le_refl _)⟩
  exact results_cell_row (p := 4) (ty := 68) rfl _ _ w.heap.size 68 _ (0, 0) _ rfl (thing_stored w5 _ _ _ _ _ _ _ _ _ HL.out) Tryz.underlying68 rfl infoThing
end Go.Proofs.YtejknkgbkkdaiaaGreatDoor
