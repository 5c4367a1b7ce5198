/-
  The chapter's example.
-/
import Derived.Test.YtbnpphecknhpeaaDoorDi
import Derived.Test.YtbnpphecknhpeaaDoorDo
import Derived.Test.YtbnpphecknhpeaaDoorBx
import Derived.Test.YtbnpphecknhpeaaDoorG1
namespace Go.Proofs.YtbnpphecknhpeaaDoor
open Go.RowKit Go.Sort
set_option linter.unusedSimpArgs false
set_option linter.unusedVariables false

theorem from_start : fromL startN 6 = [12, 21, 23] := by rw [from_eq]; decide +kernel
theorem to_start0 : toL startN 28 0 = [] := by rw [to_eq]; decide +kernel
theorem to_start1 : toL startN 28 1 = [] := by rw [to_eq]; decide +kernel
theorem atk_nil (P : Nat → Int) (s d : Int) : rToL P s d = [] ↔ atkL P s d = [] := by
  rw [← to_eq]
  unfold toL
  rw [← List.length_eq_zero_iff, ← List.length_eq_zero_iff, risen_len]
theorem is_start : isAt startN 0 (getI [28, 16]) 2 = true :=
  isAt_hit (i := 1) (by omega) (fun h => absurd ((atk_nil startN 16 0).2 h) (by decide +kernel))
theorem find_start6 : fnd startN 6 0 64 = [4] := by decide +kernel
theorem chk_start : chkB startN 0 = false := by
  unfold chkB
  rw [find_start6]
  rw [show isAt startN (oth 0) (getI [4]) ([4] : List Int).length = false from isAt_miss fun i hi => by
    obtain rfl : i = 0 := by simp at hi; exact hi
    exact (atk_nil startN 4 1).1 (by decide +kernel)]
  rfl
structure AwS (w : World) (B b : Nat) (W : World) : Prop where
  p : PB W b startN
  g : GS B W
  b : Below w.heap.size w W
  bb : B ≤ W.heap.size
theorem AwS.go {w : World} {B b : Nat} {W W' : World} (h : AwS w B b W) (g : Below W.heap.size W W') : AwS w B b W' :=
  ⟨h.p.go g, h.g.below (g.mono h.bb), h.b.trans (g.mono h.b.size), Nat.le_trans h.bb g.size⟩
theorem AwS.row3 {w : World} {B b : Nat} {W : World} (h : AwS w B b W) :
    Reads (W.alloc (.cells #[.int .i64 12, .int .i64 21, .int .i64 23] 3)).heap.size (W.alloc (.cells #[.int .i64 12, .int .i64 21, .int .i64 23] 3)) (some ⟨W.heap.size, 0, none⟩) 3 (fun i => .int .i64 (getI [12, 21, 23] i)) :=
  .inr ⟨W.heap.size, 0, rfl, by simp, fun i hi => by
    rw [Nat.zero_add, cell_of_row _ _ i _ _ (0, 0) (sl_at rfl)]
    rcases (show i = 0 ∨ i = 1 ∨ i = 2 by omega) with rfl | rfl | rfl <;> rfl⟩
theorem AwS.row2 {w : World} {B b : Nat} {W : World} (h : AwS w B b W) :
    Reads (W.alloc (.cells #[.int .i64 28, .int .i64 16] 3)).heap.size (W.alloc (.cells #[.int .i64 28, .int .i64 16] 3)) (some ⟨W.heap.size, 0, none⟩) 2 (fun i => .int .i64 (getI [28, 16] i)) :=
  .inr ⟨W.heap.size, 0, rfl, by simp, fun i hi => by
    rw [Nat.zero_add, cell_of_row _ _ i _ _ (0, 0) (sl_at rfl)]
    rcases (show i = 0 ∨ i = 1 by omega) with rfl | rfl <;> rfl⟩
set_option maxHeartbeats 4000000 in
set_option maxRecDepth 100000 in
theorem awake_any (w : World) (B : Nat) (hg : GS B w) (hB : B ≤ w.heap.size) :
    Calls Tryd.prog 7 #[] w fun e w' => e = .returned (.bool true) ∧ Below w.heap.size w w' := by
  obtain ⟨Y, hY⟩ : ∃ Y, Y = (pc startN).toArray := ⟨_, rfl⟩
  have HST := Lib.hid (fun W => rStart_any W)
  have HFR := Lib.hid (fun W h1 h2 => from_any startN 6 W B h1 h2)
  have HT0 := Lib.hid (fun W h1 h2 => to_any startN 28 0 W B h1 h2)
  have HT1 := Lib.hid (fun W h1 h2 => to_any startN 28 1 W B h1 h2)
  have HIS := Lib.hid (fun W p n c f hn hr hg hB => isA_any W.heap.size startN 0 p n c f W hn hr hg hB)
  have HCK := Lib.hid (fun W h1 h2 => chk_any startN 0 W B h1 h2)
  rw [from_start] at HFR
  rw [to_start0] at HT0
  rw [to_start1] at HT1
  rw [chk_start] at HCK
  rw [← hY] at HST HFR HT0 HT1 HIS HCK
  have HY := Lib.hid hY
  have HG := Lib.hid hg
  clear hY hg
  go_enter Tryd.func7, Tryd.ntmps7
  go_wp2_with fail
  refine (HST.out _).mono ?_
  rintro e w1 ⟨rfl, hb1⟩
  have HG1 := Lib.hid (HG.out.below (hb1.mono hB))
  have HB1 := Lib.hid hb1
  clear hb1 HG HST
  go_wp2_with (refine wpList_new Y startN HY.out (by rfl) (by rfl) ?_)
  intro W1 hp2 hb2 hz2
  have HI := Lib.hid (show AwS w B w1.heap.size W1 from ⟨hp2, HG1.out.below (hb2.mono (Nat.le_trans hB HB1.out.size)), HB1.out.trans (hb2.mono HB1.out.size), Nat.le_trans hB (Nat.le_trans HB1.out.size hb2.size)⟩)
  clear hp2 hb2 hz2 HG1 HB1
  go_upto_region 2 with (fail)
  refine wp_region_noPanic ?_
  refine wp_region_start (n := 25) (l := #[false, false, false, false, false, false, false, false, false, false, false, false, false, false, false, false, false, false, false, false, false, false, false, false, false]) (S := (fun W => AwS w B w1.heap.size W)) (by kernel_rfl) rfl (by kernel_rfl) (by first | exact HI.out | exact HI.out.go (Below.refl _ _).drew) (fun hHeld => ?_)
  replace HI := Lib.hid (HI.out.go (Below.refl W1.heap.size W1).drew)
  generalize W1.drew = V0 at hHeld HI ⊢
  refine take_to (i := 0) (d := some 3) (v := (.agg Y)) (l' := #[true, false, false, false, false, false, false, false, false, false, false, false, false, false, false, false, false, false, false, false, false, false, false, false, false]) rfl rfl (by kernel_rfl) (by kernel_rfl) (by kernel_rfl) (by kernel_rfl) (fun _ _ _ h => h) ?_ (by assumption) ?_
  · exact yields_posC (by rfl) _ (by rfl) w1.heap.size startN Y HY.out (by rfl) (fun W h => h.p)
  try simp only [Act.put, List.setIfInBounds_toArray, List.set_cons_zero, List.set_cons_succ]
  refine two_to (i := 1) (j := 2) (l1 := #[true, true, false, false, false, false, false, false, false, false, false, false, false, false, false, false, false, false, false, false, false, false, false, false, false]) (l2 := #[true, false, true, false, false, false, false, false, false, false, false, false, false, false, false, false, false, false, false, false, false, false, false, false, false]) rfl rfl (by kernel_rfl) (by kernel_rfl) (by kernel_rfl) (fun K hK => ?_) (fun K hK => ?_)
  · skip
    go_simp
    refine (HFR.out _ HI.out.g (Nat.le_trans hB HI.out.b.size)).mono ?_
    rintro e V1 ⟨v, rfl, hb, hown⟩
    rw [ivals_range] at hown
    obtain ⟨p1, c1, rfl, hr1, _⟩ := sq_reads hown
    replace HI := Lib.hid (HI.out.go hb)
    try replace HRB := Lib.hid ((HRB.out.below hb).mono hb.size)
    have HRF := Lib.hid (show Reads V1.heap.size V1 p1 3 (fun i => .int .i64 (getI [12, 21, 23] i)) from hr1)
    clear hb hown hr1
    dsimp only
    refine hK.out _ _ (by first | exact HI.out | exact HI.out.go (Below.refl _ _).drew) (fun hHeld => ?_)
    clear hK K
    try simp only [Act.put, List.setIfInBounds_toArray, List.set_cons_zero, List.set_cons_succ]
    refine one_to (i := 2) (l' := #[true, true, true, false, false, false, false, false, false, false, false, false, false, false, false, false, false, false, false, false, false, false, false, false, false]) rfl (by kernel_rfl) (by kernel_rfl) (fun K hK => ?_)
    go_simp
    have HRB := Lib.hid (AwS.row3 HI.out)
    try replace HRF := Lib.hid ((HRF.out.below (below_new (.cells #[.int .i64 12, .int .i64 21, .int .i64 23] 3))).mono (below_new (.cells #[.int .i64 12, .int .i64 21, .int .i64 23] 3)).size)
    replace HI := Lib.hid (HI.out.go (below_new (.cells #[.int .i64 12, .int .i64 21, .int .i64 23] 3)))
    refine hK.out _ _ (by first | exact HI.out | exact HI.out.go (Below.refl _ _).drew) (fun hHeld => ?_)
    clear hK K
    try simp only [Act.put, List.setIfInBounds_toArray, List.set_cons_zero, List.set_cons_succ]
    refine one_to (i := 3) (l' := #[true, true, true, true, false, false, false, false, false, false, false, false, false, false, false, false, false, false, false, false, false, false, false, false, false]) rfl (by kernel_rfl) (by kernel_rfl) (fun K hK => ?_)
    go_simp
    refine (sameInts_any _ _ _ 3 _ _ _ _ (by omega) HRF.out HRB.out).mono ?_
    rintro e V3 ⟨rfl, hb⟩
    replace HI := Lib.hid (HI.out.go hb)
    clear hb HRF HRB
    dsimp only
    refine hK.out _ _ (by first | exact HI.out | exact HI.out.go (Below.refl _ _).drew) (fun hHeld => ?_)
    clear hK K
    try simp only [Act.put, List.setIfInBounds_toArray, List.set_cons_zero, List.set_cons_succ]
    refine take_to (i := 4) (d := some 7) (v := ?_) (l' := #[true, true, true, true, true, false, false, false, false, false, false, false, false, false, false, false, false, false, false, false, false, false, false, false, false]) rfl rfl (by kernel_rfl) (by kernel_rfl) (by kernel_rfl) (by kernel_rfl) (fun _ _ _ h => h) (Or.inl ⟨by rfl, ?_⟩) (by assumption) ?_; rotate_left; · (intro w' hSw; (try dsimp only at hSw); go_simp; (try with_reducible rfl))
    try simp only [Act.put, List.setIfInBounds_toArray, List.set_cons_zero, List.set_cons_succ]
    refine take_to (i := 5) (d := some 8) (v := (.agg Y)) (l' := #[true, true, true, true, true, true, false, false, false, false, false, false, false, false, false, false, false, false, false, false, false, false, false, false, false]) rfl rfl (by kernel_rfl) (by kernel_rfl) (by kernel_rfl) (by kernel_rfl) (fun _ _ _ h => h) ?_ (by assumption) ?_
    · exact yields_posC (by rfl) _ (by rfl) w1.heap.size startN Y HY.out (by rfl) (fun W h => h.p)
    try simp only [Act.put, List.setIfInBounds_toArray, List.set_cons_zero, List.set_cons_succ]
    refine take_to (i := 8) (d := some 11) (v := (.agg Y)) (l' := #[true, true, true, true, true, true, false, false, true, false, false, false, false, false, false, false, false, false, false, false, false, false, false, false, false]) rfl rfl (by kernel_rfl) (by kernel_rfl) (by kernel_rfl) (by kernel_rfl) (fun _ _ _ h => h) ?_ (by assumption) ?_
    · exact yields_posC (by rfl) _ (by rfl) w1.heap.size startN Y HY.out (by rfl) (fun W h => h.p)
    try simp only [Act.put, List.setIfInBounds_toArray, List.set_cons_zero, List.set_cons_succ]
    refine one_to (i := 6) (l' := #[true, true, true, true, true, true, true, false, true, false, false, false, false, false, false, false, false, false, false, false, false, false, false, false, false]) rfl (by kernel_rfl) (by kernel_rfl) (fun K hK => ?_)
    go_simp
    refine (HT0.out _ HI.out.g (Nat.le_trans hB HI.out.b.size)).mono ?_
    rintro e V4 ⟨v, rfl, hb, hown⟩
    rw [ivals_range] at hown
    obtain ⟨p4, c4, rfl, hr4, _⟩ := sq_reads hown
    replace HI := Lib.hid (HI.out.go hb)
    clear hb hown hr4
    dsimp only [List.length_nil]
    refine hK.out _ _ (by first | exact HI.out | exact HI.out.go (Below.refl _ _).drew) (fun hHeld => ?_)
    clear hK K
    try simp only [Act.put, List.setIfInBounds_toArray, List.set_cons_zero, List.set_cons_succ]
    refine take_to (i := 7) (d := some 10) (v := ?_) (l' := #[true, true, true, true, true, true, true, true, true, false, false, false, false, false, false, false, false, false, false, false, false, false, false, false, false]) rfl rfl (by kernel_rfl) (by kernel_rfl) (by kernel_rfl) (by kernel_rfl) (fun _ _ _ h => h) (Or.inl ⟨by rfl, ?_⟩) (by assumption) ?_; rotate_left; · (intro w' hSw; (try dsimp only at hSw); go_simp; (try with_reducible rfl))
    try simp only [Act.put, List.setIfInBounds_toArray, List.set_cons_zero, List.set_cons_succ]
    refine one_to (i := 9) (l' := #[true, true, true, true, true, true, true, true, true, true, false, false, false, false, false, false, false, false, false, false, false, false, false, false, false]) rfl (by kernel_rfl) (by kernel_rfl) (fun K hK => ?_)
    go_simp
    refine (HT1.out _ HI.out.g (Nat.le_trans hB HI.out.b.size)).mono ?_
    rintro e V5 ⟨v, rfl, hb, hown⟩
    rw [ivals_range] at hown
    obtain ⟨p5, c5, rfl, hr5, _⟩ := sq_reads hown
    replace HI := Lib.hid (HI.out.go hb)
    clear hb hown hr5
    dsimp only [List.length_nil]
    refine hK.out _ _ (by first | exact HI.out | exact HI.out.go (Below.refl _ _).drew) (fun hHeld => ?_)
    clear hK K
    try simp only [Act.put, List.setIfInBounds_toArray, List.set_cons_zero, List.set_cons_succ]
    refine take_to (i := 10) (d := some 13) (v := ?_) (l' := #[true, true, true, true, true, true, true, true, true, true, true, false, false, false, false, false, false, false, false, false, false, false, false, false, false]) rfl rfl (by kernel_rfl) (by kernel_rfl) (by kernel_rfl) (by kernel_rfl) (fun _ _ _ h => h) (Or.inl ⟨by rfl, ?_⟩) (by assumption) ?_; rotate_left; · (intro w' hSw; (try dsimp only at hSw); go_simp; (try with_reducible rfl))
    try simp only [Act.put, List.setIfInBounds_toArray, List.set_cons_zero, List.set_cons_succ]
    refine take_to (i := 11) (d := some 14) (v := ?_) (l' := #[true, true, true, true, true, true, true, true, true, true, true, true, false, false, false, false, false, false, false, false, false, false, false, false, false]) rfl rfl (by kernel_rfl) (by kernel_rfl) (by kernel_rfl) (by kernel_rfl) (fun _ _ _ h => h) (Or.inl ⟨by rfl, ?_⟩) (by assumption) ?_; rotate_left; · (intro w' hSw; (try dsimp only at hSw); go_simp; (try with_reducible rfl))
    try simp only [Act.put, List.setIfInBounds_toArray, List.set_cons_zero, List.set_cons_succ]
    refine take_to (i := 12) (d := some 15) (v := ?_) (l' := #[true, true, true, true, true, true, true, true, true, true, true, true, true, false, false, false, false, false, false, false, false, false, false, false, false]) rfl rfl (by kernel_rfl) (by kernel_rfl) (by kernel_rfl) (by kernel_rfl) (fun _ _ _ h => h) (Or.inl ⟨by rfl, ?_⟩) (by assumption) ?_; rotate_left; · (intro w' hSw; (try dsimp only at hSw); go_simp; (try with_reducible rfl))
    try simp only [Act.put, List.setIfInBounds_toArray, List.set_cons_zero, List.set_cons_succ]
    refine take_to (i := 13) (d := some 16) (v := ?_) (l' := #[true, true, true, true, true, true, true, true, true, true, true, true, true, true, false, false, false, false, false, false, false, false, false, false, false]) rfl rfl (by kernel_rfl) (by kernel_rfl) (by kernel_rfl) (by kernel_rfl) (fun _ _ _ h => h) (Or.inl ⟨by rfl, ?_⟩) (by assumption) ?_; rotate_left; · (intro w' hSw; (try dsimp only at hSw); go_simp; (try with_reducible rfl))
    try simp only [Act.put, List.setIfInBounds_toArray, List.set_cons_zero, List.set_cons_succ]
    refine take_to (i := 14) (d := some 17) (v := ?_) (l' := #[true, true, true, true, true, true, true, true, true, true, true, true, true, true, true, false, false, false, false, false, false, false, false, false, false]) rfl rfl (by kernel_rfl) (by kernel_rfl) (by kernel_rfl) (by kernel_rfl) (fun _ _ _ h => h) (Or.inl ⟨by rfl, ?_⟩) (by assumption) ?_; rotate_left; · (intro w' hSw; (try dsimp only at hSw); go_simp; (try with_reducible rfl))
    try simp only [Act.put, List.setIfInBounds_toArray, List.set_cons_zero, List.set_cons_succ]
    refine take_to (i := 15) (d := some 18) (v := (.agg Y)) (l' := #[true, true, true, true, true, true, true, true, true, true, true, true, true, true, true, true, false, false, false, false, false, false, false, false, false]) rfl rfl (by kernel_rfl) (by kernel_rfl) (by kernel_rfl) (by kernel_rfl) (fun _ _ _ h => h) ?_ (by assumption) ?_
    · exact yields_posC (by rfl) _ (by rfl) w1.heap.size startN Y HY.out (by rfl) (fun W h => h.p)
    try simp only [Act.put, List.setIfInBounds_toArray, List.set_cons_zero, List.set_cons_succ]
    refine one_to (i := 16) (l' := #[true, true, true, true, true, true, true, true, true, true, true, true, true, true, true, true, true, false, false, false, false, false, false, false, false]) rfl (by kernel_rfl) (by kernel_rfl) (fun K hK => ?_)
    go_simp
    have HRC := Lib.hid (AwS.row2 HI.out)
    replace HI := Lib.hid (HI.out.go (below_new (.cells #[.int .i64 28, .int .i64 16] 3)))
    refine hK.out _ _ (by first | exact HI.out | exact HI.out.go (Below.refl _ _).drew) (fun hHeld => ?_)
    clear hK K
    try simp only [Act.put, List.setIfInBounds_toArray, List.set_cons_zero, List.set_cons_succ]
    refine one_to (i := 17) (l' := #[true, true, true, true, true, true, true, true, true, true, true, true, true, true, true, true, true, true, false, false, false, false, false, false, false]) rfl (by kernel_rfl) (by kernel_rfl) (fun K hK => ?_)
    go_simp
    refine (HIS.out _ _ _ _ _ (by omega) HRC.out (HI.out.g.mono HI.out.bb) (Nat.le_refl _)).mono ?_
    rintro e V6 ⟨rfl, hb⟩
    rw [is_start]
    replace HI := Lib.hid (HI.out.go hb)
    clear hb HRC
    dsimp only
    refine hK.out _ _ (by first | exact HI.out | exact HI.out.go (Below.refl _ _).drew) (fun hHeld => ?_)
    clear hK K
    try simp only [Act.put, List.setIfInBounds_toArray, List.set_cons_zero, List.set_cons_succ]
    refine take_to (i := 18) (d := some 21) (v := ?_) (l' := #[true, true, true, true, true, true, true, true, true, true, true, true, true, true, true, true, true, true, true, false, false, false, false, false, false]) rfl rfl (by kernel_rfl) (by kernel_rfl) (by kernel_rfl) (by kernel_rfl) (fun _ _ _ h => h) (Or.inl ⟨by rfl, ?_⟩) (by assumption) ?_; rotate_left; · (intro w' hSw; (try dsimp only at hSw); go_simp; (try with_reducible rfl))
    try simp only [Act.put, List.setIfInBounds_toArray, List.set_cons_zero, List.set_cons_succ]
    refine take_to (i := 19) (d := some 22) (v := ?_) (l' := #[true, true, true, true, true, true, true, true, true, true, true, true, true, true, true, true, true, true, true, true, false, false, false, false, false]) rfl rfl (by kernel_rfl) (by kernel_rfl) (by kernel_rfl) (by kernel_rfl) (fun _ _ _ h => h) (Or.inl ⟨by rfl, ?_⟩) (by assumption) ?_; rotate_left; · (intro w' hSw; (try dsimp only at hSw); go_simp; (try with_reducible rfl))
    try simp only [Act.put, List.setIfInBounds_toArray, List.set_cons_zero, List.set_cons_succ]
    refine take_to (i := 20) (d := some 23) (v := (.agg Y)) (l' := #[true, true, true, true, true, true, true, true, true, true, true, true, true, true, true, true, true, true, true, true, true, false, false, false, false]) rfl rfl (by kernel_rfl) (by kernel_rfl) (by kernel_rfl) (by kernel_rfl) (fun _ _ _ h => h) ?_ (by assumption) ?_
    · exact yields_posC (by rfl) _ (by rfl) w1.heap.size startN Y HY.out (by rfl) (fun W h => h.p)
    try simp only [Act.put, List.setIfInBounds_toArray, List.set_cons_zero, List.set_cons_succ]
    refine one_to (i := 21) (l' := #[true, true, true, true, true, true, true, true, true, true, true, true, true, true, true, true, true, true, true, true, true, true, false, false, false]) rfl (by kernel_rfl) (by kernel_rfl) (fun K hK => ?_)
    go_simp
    refine (HCK.out _ HI.out.g (Nat.le_trans hB HI.out.b.size)).mono ?_
    rintro e V7 ⟨rfl, hb⟩
    replace HI := Lib.hid (HI.out.go hb)
    clear hb
    dsimp only
    refine hK.out _ _ (by first | exact HI.out | exact HI.out.go (Below.refl _ _).drew) (fun hHeld => ?_)
    clear hK K
    try simp only [Act.put, List.setIfInBounds_toArray, List.set_cons_zero, List.set_cons_succ]
    refine take_to (i := 22) (d := some 25) (v := ?_) (l' := #[true, true, true, true, true, true, true, true, true, true, true, true, true, true, true, true, true, true, true, true, true, true, true, false, false]) rfl rfl (by kernel_rfl) (by kernel_rfl) (by kernel_rfl) (by kernel_rfl) (fun _ _ _ h => h) (Or.inl ⟨by rfl, ?_⟩) (by assumption) ?_; rotate_left; · (intro w' hSw; (try dsimp only at hSw); go_simp; (try with_reducible rfl))
    try simp only [Act.put, List.setIfInBounds_toArray, List.set_cons_zero, List.set_cons_succ]
    refine take_to (i := 23) (d := some 26) (v := ?_) (l' := #[true, true, true, true, true, true, true, true, true, true, true, true, true, true, true, true, true, true, true, true, true, true, true, true, false]) rfl rfl (by kernel_rfl) (by kernel_rfl) (by kernel_rfl) (by kernel_rfl) (fun _ _ _ h => h) (Or.inl ⟨by rfl, ?_⟩) (by assumption) ?_; rotate_left; · (intro w' hSw; (try dsimp only at hSw); go_simp; (try with_reducible rfl))
    try simp only [Act.put, List.setIfInBounds_toArray, List.set_cons_zero, List.set_cons_succ]
    refine take_to (i := 24) (d := some 0) (v := ?_) (l' := #[true, true, true, true, true, true, true, true, true, true, true, true, true, true, true, true, true, true, true, true, true, true, true, true, true]) rfl rfl (by kernel_rfl) (by kernel_rfl) (by kernel_rfl) (by kernel_rfl) (fun _ _ _ h => h) (Or.inl ⟨by rfl, ?_⟩) (by assumption) ?_; rotate_left; · (intro w' hSw; (try dsimp only at hSw); go_simp; (try with_reducible rfl))
    try simp only [Act.put, List.setIfInBounds_toArray, List.set_cons_zero, List.set_cons_succ]
    refine wpAnyH_done (by kernel_rfl) ?_ _
    refine NoPanic.normal ?_
    clear hHeld HFR HT0 HT1 HIS HCK
    go_wp2
    go_ret
    exact ⟨rfl, HI.out.b⟩
  · skip
    go_simp
    have HRB := Lib.hid (AwS.row3 HI.out)
    try replace HRF := Lib.hid ((HRF.out.below (below_new (.cells #[.int .i64 12, .int .i64 21, .int .i64 23] 3))).mono (below_new (.cells #[.int .i64 12, .int .i64 21, .int .i64 23] 3)).size)
    replace HI := Lib.hid (HI.out.go (below_new (.cells #[.int .i64 12, .int .i64 21, .int .i64 23] 3)))
    refine hK.out _ _ (by first | exact HI.out | exact HI.out.go (Below.refl _ _).drew) (fun hHeld => ?_)
    clear hK K
    try simp only [Act.put, List.setIfInBounds_toArray, List.set_cons_zero, List.set_cons_succ]
    refine one_to (i := 1) (l' := #[true, true, true, false, false, false, false, false, false, false, false, false, false, false, false, false, false, false, false, false, false, false, false, false, false]) rfl (by kernel_rfl) (by kernel_rfl) (fun K hK => ?_)
    go_simp
    refine (HFR.out _ HI.out.g (Nat.le_trans hB HI.out.b.size)).mono ?_
    rintro e V1 ⟨v, rfl, hb, hown⟩
    rw [ivals_range] at hown
    obtain ⟨p1, c1, rfl, hr1, _⟩ := sq_reads hown
    replace HI := Lib.hid (HI.out.go hb)
    try replace HRB := Lib.hid ((HRB.out.below hb).mono hb.size)
    have HRF := Lib.hid (show Reads V1.heap.size V1 p1 3 (fun i => .int .i64 (getI [12, 21, 23] i)) from hr1)
    clear hb hown hr1
    dsimp only
    refine hK.out _ _ (by first | exact HI.out | exact HI.out.go (Below.refl _ _).drew) (fun hHeld => ?_)
    clear hK K
    try simp only [Act.put, List.setIfInBounds_toArray, List.set_cons_zero, List.set_cons_succ]
    refine one_to (i := 3) (l' := #[true, true, true, true, false, false, false, false, false, false, false, false, false, false, false, false, false, false, false, false, false, false, false, false, false]) rfl (by kernel_rfl) (by kernel_rfl) (fun K hK => ?_)
    go_simp
    refine (sameInts_any _ _ _ 3 _ _ _ _ (by omega) HRF.out HRB.out).mono ?_
    rintro e V3 ⟨rfl, hb⟩
    replace HI := Lib.hid (HI.out.go hb)
    clear hb HRF HRB
    dsimp only
    refine hK.out _ _ (by first | exact HI.out | exact HI.out.go (Below.refl _ _).drew) (fun hHeld => ?_)
    clear hK K
    try simp only [Act.put, List.setIfInBounds_toArray, List.set_cons_zero, List.set_cons_succ]
    refine take_to (i := 4) (d := some 7) (v := ?_) (l' := #[true, true, true, true, true, false, false, false, false, false, false, false, false, false, false, false, false, false, false, false, false, false, false, false, false]) rfl rfl (by kernel_rfl) (by kernel_rfl) (by kernel_rfl) (by kernel_rfl) (fun _ _ _ h => h) (Or.inl ⟨by rfl, ?_⟩) (by assumption) ?_; rotate_left; · (intro w' hSw; (try dsimp only at hSw); go_simp; (try with_reducible rfl))
    try simp only [Act.put, List.setIfInBounds_toArray, List.set_cons_zero, List.set_cons_succ]
    refine take_to (i := 5) (d := some 8) (v := (.agg Y)) (l' := #[true, true, true, true, true, true, false, false, false, false, false, false, false, false, false, false, false, false, false, false, false, false, false, false, false]) rfl rfl (by kernel_rfl) (by kernel_rfl) (by kernel_rfl) (by kernel_rfl) (fun _ _ _ h => h) ?_ (by assumption) ?_
    · exact yields_posC (by rfl) _ (by rfl) w1.heap.size startN Y HY.out (by rfl) (fun W h => h.p)
    try simp only [Act.put, List.setIfInBounds_toArray, List.set_cons_zero, List.set_cons_succ]
    refine take_to (i := 8) (d := some 11) (v := (.agg Y)) (l' := #[true, true, true, true, true, true, false, false, true, false, false, false, false, false, false, false, false, false, false, false, false, false, false, false, false]) rfl rfl (by kernel_rfl) (by kernel_rfl) (by kernel_rfl) (by kernel_rfl) (fun _ _ _ h => h) ?_ (by assumption) ?_
    · exact yields_posC (by rfl) _ (by rfl) w1.heap.size startN Y HY.out (by rfl) (fun W h => h.p)
    try simp only [Act.put, List.setIfInBounds_toArray, List.set_cons_zero, List.set_cons_succ]
    refine one_to (i := 6) (l' := #[true, true, true, true, true, true, true, false, true, false, false, false, false, false, false, false, false, false, false, false, false, false, false, false, false]) rfl (by kernel_rfl) (by kernel_rfl) (fun K hK => ?_)
    go_simp
    refine (HT0.out _ HI.out.g (Nat.le_trans hB HI.out.b.size)).mono ?_
    rintro e V4 ⟨v, rfl, hb, hown⟩
    rw [ivals_range] at hown
    obtain ⟨p4, c4, rfl, hr4, _⟩ := sq_reads hown
    replace HI := Lib.hid (HI.out.go hb)
    clear hb hown hr4
    dsimp only [List.length_nil]
    refine hK.out _ _ (by first | exact HI.out | exact HI.out.go (Below.refl _ _).drew) (fun hHeld => ?_)
    clear hK K
    try simp only [Act.put, List.setIfInBounds_toArray, List.set_cons_zero, List.set_cons_succ]
    refine take_to (i := 7) (d := some 10) (v := ?_) (l' := #[true, true, true, true, true, true, true, true, true, false, false, false, false, false, false, false, false, false, false, false, false, false, false, false, false]) rfl rfl (by kernel_rfl) (by kernel_rfl) (by kernel_rfl) (by kernel_rfl) (fun _ _ _ h => h) (Or.inl ⟨by rfl, ?_⟩) (by assumption) ?_; rotate_left; · (intro w' hSw; (try dsimp only at hSw); go_simp; (try with_reducible rfl))
    try simp only [Act.put, List.setIfInBounds_toArray, List.set_cons_zero, List.set_cons_succ]
    refine one_to (i := 9) (l' := #[true, true, true, true, true, true, true, true, true, true, false, false, false, false, false, false, false, false, false, false, false, false, false, false, false]) rfl (by kernel_rfl) (by kernel_rfl) (fun K hK => ?_)
    go_simp
    refine (HT1.out _ HI.out.g (Nat.le_trans hB HI.out.b.size)).mono ?_
    rintro e V5 ⟨v, rfl, hb, hown⟩
    rw [ivals_range] at hown
    obtain ⟨p5, c5, rfl, hr5, _⟩ := sq_reads hown
    replace HI := Lib.hid (HI.out.go hb)
    clear hb hown hr5
    dsimp only [List.length_nil]
    refine hK.out _ _ (by first | exact HI.out | exact HI.out.go (Below.refl _ _).drew) (fun hHeld => ?_)
    clear hK K
    try simp only [Act.put, List.setIfInBounds_toArray, List.set_cons_zero, List.set_cons_succ]
    refine take_to (i := 10) (d := some 13) (v := ?_) (l' := #[true, true, true, true, true, true, true, true, true, true, true, false, false, false, false, false, false, false, false, false, false, false, false, false, false]) rfl rfl (by kernel_rfl) (by kernel_rfl) (by kernel_rfl) (by kernel_rfl) (fun _ _ _ h => h) (Or.inl ⟨by rfl, ?_⟩) (by assumption) ?_; rotate_left; · (intro w' hSw; (try dsimp only at hSw); go_simp; (try with_reducible rfl))
    try simp only [Act.put, List.setIfInBounds_toArray, List.set_cons_zero, List.set_cons_succ]
    refine take_to (i := 11) (d := some 14) (v := ?_) (l' := #[true, true, true, true, true, true, true, true, true, true, true, true, false, false, false, false, false, false, false, false, false, false, false, false, false]) rfl rfl (by kernel_rfl) (by kernel_rfl) (by kernel_rfl) (by kernel_rfl) (fun _ _ _ h => h) (Or.inl ⟨by rfl, ?_⟩) (by assumption) ?_; rotate_left; · (intro w' hSw; (try dsimp only at hSw); go_simp; (try with_reducible rfl))
    try simp only [Act.put, List.setIfInBounds_toArray, List.set_cons_zero, List.set_cons_succ]
    refine take_to (i := 12) (d := some 15) (v := ?_) (l' := #[true, true, true, true, true, true, true, true, true, true, true, true, true, false, false, false, false, false, false, false, false, false, false, false, false]) rfl rfl (by kernel_rfl) (by kernel_rfl) (by kernel_rfl) (by kernel_rfl) (fun _ _ _ h => h) (Or.inl ⟨by rfl, ?_⟩) (by assumption) ?_; rotate_left; · (intro w' hSw; (try dsimp only at hSw); go_simp; (try with_reducible rfl))
    try simp only [Act.put, List.setIfInBounds_toArray, List.set_cons_zero, List.set_cons_succ]
    refine take_to (i := 13) (d := some 16) (v := ?_) (l' := #[true, true, true, true, true, true, true, true, true, true, true, true, true, true, false, false, false, false, false, false, false, false, false, false, false]) rfl rfl (by kernel_rfl) (by kernel_rfl) (by kernel_rfl) (by kernel_rfl) (fun _ _ _ h => h) (Or.inl ⟨by rfl, ?_⟩) (by assumption) ?_; rotate_left; · (intro w' hSw; (try dsimp only at hSw); go_simp; (try with_reducible rfl))
    try simp only [Act.put, List.setIfInBounds_toArray, List.set_cons_zero, List.set_cons_succ]
    refine take_to (i := 14) (d := some 17) (v := ?_) (l' := #[true, true, true, true, true, true, true, true, true, true, true, true, true, true, true, false, false, false, false, false, false, false, false, false, false]) rfl rfl (by kernel_rfl) (by kernel_rfl) (by kernel_rfl) (by kernel_rfl) (fun _ _ _ h => h) (Or.inl ⟨by rfl, ?_⟩) (by assumption) ?_; rotate_left; · (intro w' hSw; (try dsimp only at hSw); go_simp; (try with_reducible rfl))
    try simp only [Act.put, List.setIfInBounds_toArray, List.set_cons_zero, List.set_cons_succ]
    refine take_to (i := 15) (d := some 18) (v := (.agg Y)) (l' := #[true, true, true, true, true, true, true, true, true, true, true, true, true, true, true, true, false, false, false, false, false, false, false, false, false]) rfl rfl (by kernel_rfl) (by kernel_rfl) (by kernel_rfl) (by kernel_rfl) (fun _ _ _ h => h) ?_ (by assumption) ?_
    · exact yields_posC (by rfl) _ (by rfl) w1.heap.size startN Y HY.out (by rfl) (fun W h => h.p)
    try simp only [Act.put, List.setIfInBounds_toArray, List.set_cons_zero, List.set_cons_succ]
    refine one_to (i := 16) (l' := #[true, true, true, true, true, true, true, true, true, true, true, true, true, true, true, true, true, false, false, false, false, false, false, false, false]) rfl (by kernel_rfl) (by kernel_rfl) (fun K hK => ?_)
    go_simp
    have HRC := Lib.hid (AwS.row2 HI.out)
    replace HI := Lib.hid (HI.out.go (below_new (.cells #[.int .i64 28, .int .i64 16] 3)))
    refine hK.out _ _ (by first | exact HI.out | exact HI.out.go (Below.refl _ _).drew) (fun hHeld => ?_)
    clear hK K
    try simp only [Act.put, List.setIfInBounds_toArray, List.set_cons_zero, List.set_cons_succ]
    refine one_to (i := 17) (l' := #[true, true, true, true, true, true, true, true, true, true, true, true, true, true, true, true, true, true, false, false, false, false, false, false, false]) rfl (by kernel_rfl) (by kernel_rfl) (fun K hK => ?_)
    go_simp
    refine (HIS.out _ _ _ _ _ (by omega) HRC.out (HI.out.g.mono HI.out.bb) (Nat.le_refl _)).mono ?_
    rintro e V6 ⟨rfl, hb⟩
    rw [is_start]
    replace HI := Lib.hid (HI.out.go hb)
    clear hb HRC
    dsimp only
    refine hK.out _ _ (by first | exact HI.out | exact HI.out.go (Below.refl _ _).drew) (fun hHeld => ?_)
    clear hK K
    try simp only [Act.put, List.setIfInBounds_toArray, List.set_cons_zero, List.set_cons_succ]
    refine take_to (i := 18) (d := some 21) (v := ?_) (l' := #[true, true, true, true, true, true, true, true, true, true, true, true, true, true, true, true, true, true, true, false, false, false, false, false, false]) rfl rfl (by kernel_rfl) (by kernel_rfl) (by kernel_rfl) (by kernel_rfl) (fun _ _ _ h => h) (Or.inl ⟨by rfl, ?_⟩) (by assumption) ?_; rotate_left; · (intro w' hSw; (try dsimp only at hSw); go_simp; (try with_reducible rfl))
    try simp only [Act.put, List.setIfInBounds_toArray, List.set_cons_zero, List.set_cons_succ]
    refine take_to (i := 19) (d := some 22) (v := ?_) (l' := #[true, true, true, true, true, true, true, true, true, true, true, true, true, true, true, true, true, true, true, true, false, false, false, false, false]) rfl rfl (by kernel_rfl) (by kernel_rfl) (by kernel_rfl) (by kernel_rfl) (fun _ _ _ h => h) (Or.inl ⟨by rfl, ?_⟩) (by assumption) ?_; rotate_left; · (intro w' hSw; (try dsimp only at hSw); go_simp; (try with_reducible rfl))
    try simp only [Act.put, List.setIfInBounds_toArray, List.set_cons_zero, List.set_cons_succ]
    refine take_to (i := 20) (d := some 23) (v := (.agg Y)) (l' := #[true, true, true, true, true, true, true, true, true, true, true, true, true, true, true, true, true, true, true, true, true, false, false, false, false]) rfl rfl (by kernel_rfl) (by kernel_rfl) (by kernel_rfl) (by kernel_rfl) (fun _ _ _ h => h) ?_ (by assumption) ?_
    · exact yields_posC (by rfl) _ (by rfl) w1.heap.size startN Y HY.out (by rfl) (fun W h => h.p)
    try simp only [Act.put, List.setIfInBounds_toArray, List.set_cons_zero, List.set_cons_succ]
    refine one_to (i := 21) (l' := #[true, true, true, true, true, true, true, true, true, true, true, true, true, true, true, true, true, true, true, true, true, true, false, false, false]) rfl (by kernel_rfl) (by kernel_rfl) (fun K hK => ?_)
    go_simp
    refine (HCK.out _ HI.out.g (Nat.le_trans hB HI.out.b.size)).mono ?_
    rintro e V7 ⟨rfl, hb⟩
    replace HI := Lib.hid (HI.out.go hb)
    clear hb
    dsimp only
    refine hK.out _ _ (by first | exact HI.out | exact HI.out.go (Below.refl _ _).drew) (fun hHeld => ?_)
    clear hK K
    try simp only [Act.put, List.setIfInBounds_toArray, List.set_cons_zero, List.set_cons_succ]
    refine take_to (i := 22) (d := some 25) (v := ?_) (l' := #[true, true, true, true, true, true, true, true, true, true, true, true, true, true, true, true, true, true, true, true, true, true, true, false, false]) rfl rfl (by kernel_rfl) (by kernel_rfl) (by kernel_rfl) (by kernel_rfl) (fun _ _ _ h => h) (Or.inl ⟨by rfl, ?_⟩) (by assumption) ?_; rotate_left; · (intro w' hSw; (try dsimp only at hSw); go_simp; (try with_reducible rfl))
    try simp only [Act.put, List.setIfInBounds_toArray, List.set_cons_zero, List.set_cons_succ]
    refine take_to (i := 23) (d := some 26) (v := ?_) (l' := #[true, true, true, true, true, true, true, true, true, true, true, true, true, true, true, true, true, true, true, true, true, true, true, true, false]) rfl rfl (by kernel_rfl) (by kernel_rfl) (by kernel_rfl) (by kernel_rfl) (fun _ _ _ h => h) (Or.inl ⟨by rfl, ?_⟩) (by assumption) ?_; rotate_left; · (intro w' hSw; (try dsimp only at hSw); go_simp; (try with_reducible rfl))
    try simp only [Act.put, List.setIfInBounds_toArray, List.set_cons_zero, List.set_cons_succ]
    refine take_to (i := 24) (d := some 0) (v := ?_) (l' := #[true, true, true, true, true, true, true, true, true, true, true, true, true, true, true, true, true, true, true, true, true, true, true, true, true]) rfl rfl (by kernel_rfl) (by kernel_rfl) (by kernel_rfl) (by kernel_rfl) (fun _ _ _ h => h) (Or.inl ⟨by rfl, ?_⟩) (by assumption) ?_; rotate_left; · (intro w' hSw; (try dsimp only at hSw); go_simp; (try with_reducible rfl))
    try simp only [Act.put, List.setIfInBounds_toArray, List.set_cons_zero, List.set_cons_succ]
    refine wpAnyH_done (by kernel_rfl) ?_ _
    refine NoPanic.normal ?_
    clear hHeld HFR HT0 HT1 HIS HCK
    go_wp2
    go_ret
    exact ⟨rfl, HI.out.b⟩
end Go.Proofs.YtbnpphecknhpeaaDoor
