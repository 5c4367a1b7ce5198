/-
  Merged: Seal, MacOf.
-/
import Derived.Test.YtejknkgbkkdaiaaGreatDoorG11

namespace Go.Proofs.YtejknkgbkkdaiaaGreatDoor
open Go.RowKit
set_option linter.unusedVariables false
set_option linter.unusedSimpArgs false

/-- one row ahead of others -/
def pre1 {α : Type} (x : α) (f : Nat → α) : Nat → α
  | 0 => x
  | i + 1 => f i
theorem pos_pre (x : Nat) (ln : Nat → Nat) (m : Nat) : pos (pre1 x ln) (m + 1) = x + pos ln m := by
  induction m with
  | zero => simp [pos, pre1]
  | succ m ih =>
    show pos (pre1 x ln) (m + 1) + pre1 x ln (m + 1) = _
    rw [ih]; simp only [pos, pre1]; omega
theorem flat_two (x : Value) (m : Nat) (V : Nat → Value) : flatL (fst3 1 m m) (fst3 (fun _ => x) V V) 2 = (List.range (1 + m)).map (pre1 x V) := by
  show [] ++ (List.range 1).map (fun _ => x) ++ (List.range m).map V = _
  rw [show (List.range 1).map (fun _ : Nat => x) = [x] from rfl, show 1 + m = m + 1 by omega, List.range_succ_eq_map, List.map_cons, List.map_map]
  rfl
theorem tot_two (m : Nat) : totL (fst3 1 m m) 2 = 1 + m := by simp [totL, fst3]
/-- what stays while the sealer makes its last tag -/
structure SV (B : Nat) (w : World) (b s : Nat → BitVec 8) (T : Nat) (W : World) : Prop where
  blk : BT W w.heap.size 64 b
  out : W.there (w.heap.size + 1) 0 32
  tag : BT W T 32 s
  kc : Kc B W
  bel : Below w.heap.size w W
  sz : w.heap.size + 1 < W.heap.size
theorem SV.go {B : Nat} {w W W' : World} {b s : Nat → BitVec 8} {T : Nat} (h : SV B w b s T W) (hB : B ≤ w.heap.size) (g : Below W.heap.size W W') : SV B w b s T W' :=
  ⟨h.blk.below' g, there_below h.out g h.sz, h.tag.below' g, h.kc.below (g.mono (by have := h.sz; omega)), h.bel.trans (g.mono (by have := h.sz; omega)), by have := h.sz; have := g.size; omega⟩
theorem SV.drew {B : Nat} {w W : World} {b s : Nat → BitVec 8} {T : Nat} (h : SV B w b s T W) : SV B w b s T W.drew :=
  ⟨h.blk.drew, (World.there_drew _ _ _ _).2 h.out, h.tag.drew, h.kc.below (Below.refl _ _).drew, h.bel.drew, h.sz⟩
theorem SV.alloc {B : Nat} {w W : World} {b s : Nat → BitVec 8} {T : Nat} (h : SV B w b s T W) (hB : B ≤ w.heap.size) (o : Obj) : SV B w b s T (W.alloc o) := h.go hB ((Below.refl _ _).alloc (Nat.le_refl _) o)
theorem SV.store {B : Nat} {w W : World} {b s : Nat → BitVec 8} {T : Nat} (h : SV B w b s T W) (hB : B ≤ w.heap.size) (hT : T ≠ w.heap.size + 1) (vs : List Value) : SV B w b s T (W.setCells (w.heap.size + 1) 0 vs) := by
  have g := gr_setCells (hb := w.heap.size + 1) vs 0 W
  have hz := h.sz
  have hbel := h.bel.grown g (by omega) (by rintro q ⟨⟩; omega)
  exact ⟨h.blk.gr g (by omega), World.there_setCells h.out _ _ _, h.tag.gr g hT, h.kc.below (gr_below g (by omega) (by omega)), hbel, by rw [size_setCells]; exact hz⟩
theorem BT.to_reads {W W' : World} {H n : Nat} {f : Nat → BitVec 8} (h : BT W H n f) (g : Below W.heap.size W W') : Reads W'.heap.size W' (some ⟨H, 0, none⟩) n (fun i => .int .u8 (ub (f i))) := (h.below' g).reads

set_option maxHeartbeats 2000000 in
set_option maxRecDepth 100000 in
theorem seal_any (B : Nat) (w : World) (b : Nat → BitVec 8) (g : Nat → BitVec 8) (p : Option Addr) (m c : Nat) (P : Nat → Option Addr) (ln C : Nat → Nat) (f : Nat → Nat → BitVec 8)
    (hk : Kc B w) (hB : B ≤ w.heap.size) (hr : RI w p m P ln C f) (hmc : m ≤ c) (hcm : c ≤ maxLen) (hm : m ≤ 4294967295) (hn : pos ln m ≤ 2147483584) (hg : ∀ i, i < m → ∀ j, j < ln i → f i j = g (pos ln i + j)) :
    Calls Tryz.prog 58 #[blkV b, .slice p m c] w fun e w' => e = .returned (tagV (hmb b g (pos ln m))) ∧ Below w.heap.size w w' := by
  obtain ⟨C1, hC1⟩ : ∃ C, C = (blkC b).toArray := ⟨_, rfl⟩
  unfold blkV
  rw [← hC1]
  have HC1 := Lib.hid hC1
  have HK := Lib.hid hk
  have HR := Lib.hid hr
  have HN := Lib.hid hn
  have HGG := Lib.hid hg
  clear hC1 hk hr hn hg
  go_enter Tryz.func58, Tryz.ntmps58
  go_upto_region 1 with (fail)
  refine forget_code (fun W => Below w.heap.size w W ∧ BT W w.heap.size 64 b ∧ W.there (w.heap.size + 1) 0 32 ∧ w.heap.size + 1 < W.heap.size)
    ⟨((Below.refl _ _).alloc (Nat.le_refl _) _).alloc (by simp) _, BT.of_cells (laid_old (laid_at rfl)) (fun i hi => by rw [HC1.out]; exact blkC_get b i hi), there_block (laid_at (by simp)) (by simp), by simp⟩ ?_
  rintro W ⟨hbel, hb1, ht1, hsz⟩
  have H1 := Lib.hid hb1
  have H2 := Lib.hid ht1
  have H3 := Lib.hid hbel
  clear hb1 ht1 hbel HC1
  refine wp_region_lit ?_
  refine wpList_plain rfl (fun K hK => ?_)
  go_simp
  refine hK _ _ ?_
  clear hK K
  refine wpList_load_mid rfl 88 _ rfl w.heap.size 0 rfl (blkC b) _ H1.out.range Tryz.underlying88 rfl (by simp [infoBlock, blkC_len]) ?_
  refine wpList_plain rfl (fun K hK => ?_)
  go_simp
  refine (inner_any b W).mono ?_
  rintro e W1 ⟨Hi, rfl, hHi, hb1, hbt1⟩
  dsimp only
  refine hK _ _ ?_
  clear hK K
  have q1 := hb1.size
  have HT1 := Lib.hid hbt1
  have G1 := Lib.hid (H1.out.below' hb1)
  have G2 := Lib.hid (there_below H2.out hb1 hsz)
  have G3 := Lib.hid (H3.out.trans (hb1.mono (by omega)))
  clear hb1 hbt1 H1 H2 H3
  refine wpList_plain rfl (fun K hK => ?_)
  go_simp
  refine hK _ _ ?_
  clear hK K
  refine wpList_plain rfl (fun K hK => ?_)
  go_simp
  refine hK _ _ ?_
  clear hK K
  refine wpList_plain rfl (fun K hK => ?_)
  go_simp
  refine hK _ _ ?_
  clear hK K
  have hal : Below W1.heap.size W1 ((W1.alloc (.cells #[.slice (some ⟨Hi, 0, none⟩) 64 64] 22)).alloc (.cells #[.slice (some ⟨W1.heap.size, 0, none⟩) 1 1, .slice p m c] 36)) := ((Below.refl _ _).alloc (Nat.le_refl _) _).alloc (by simp) _
  have hsz2 : W1.heap.size + 1 + 1 = ((W1.alloc (.cells #[.slice (some ⟨Hi, 0, none⟩) 64 64] 22)).alloc (.cells #[.slice (some ⟨W1.heap.size, 0, none⟩) 1 1, .slice p m c] 36)).heap.size := by simp
  have hread : Reads ((W1.alloc (.cells #[.slice (some ⟨Hi, 0, none⟩) 64 64] 22)).alloc (.cells #[.slice (some ⟨W1.heap.size, 0, none⟩) 1 1, .slice p m c] 36)).heap.size _ (some ⟨W1.heap.size + 1, 0, none⟩) 2 (fun i => .slice (fst3 (some ⟨W1.heap.size, 0, none⟩) p p i) (fst3 1 m m i) (fst3 1 c c i)) :=
    reads_at (laid_at (by simp)) (fun i hi => by
      match i, hi with
      | 0, _ => rfl
      | 1, _ => rfl)
  have hread1 : Reads ((W1.alloc (.cells #[.slice (some ⟨Hi, 0, none⟩) 64 64] 22)).alloc (.cells #[.slice (some ⟨W1.heap.size, 0, none⟩) 1 1, .slice p m c] 36)).heap.size _ (some ⟨W1.heap.size, 0, none⟩) 1 (fun _ => .slice (some ⟨Hi, 0, none⟩) 64 64) :=
    reads_at (laid_old (laid_at rfl)) (fun i hi => by rw [show i = 0 by omega]; rfl)
  generalize (W1.alloc (.cells #[.slice (some ⟨Hi, 0, none⟩) 64 64] 22)).alloc (.cells #[.slice (some ⟨W1.heap.size, 0, none⟩) 1 1, .slice p m c] 36) = W2 at hal hsz2 hread hread1 ⊢
  have hrow2 : Reads W2.heap.size W2 p m (fun i => .slice (P i) (ln i) (C i)) := (HR.out.rows.below (G3.out.trans (hal.mono (by omega)))).mono (by omega)
  refine wpList_plain rfl (fun K hK => ?_)
  go_simp
  refine (concat_any W2 _ 2 2 (fst3 (some ⟨W1.heap.size, 0, none⟩) p p) (fst3 1 m m) (fst3 1 c c) (fst3 (fun _ => .slice (some ⟨Hi, 0, none⟩) 64 64) (fun i => .slice (P i) (ln i) (C i)) (fun i => .slice (P i) (ln i) (C i))) (by omega) (by rw [tot_two]; omega) hread
    (fun i hi => by
      match i, hi with
      | 0, _ => exact ⟨Nat.le_refl _, by show 1 ≤ maxLen; decide⟩
      | 1, _ => exact ⟨hmc, hcm⟩)
    (fun i hi => by
      match i, hi with
      | 0, _ => exact hread1
      | 1, _ => exact hrow2)
    (fun i hi j hj => by
      match i, hi with
      | 0, _ => rfl
      | 1, _ => rfl)).mono ?_
  rintro e W3 ⟨v, rfl, hb3, hown3⟩
  rw [tot_two, flat_two] at hown3
  obtain ⟨p3, c3, rfl, hr3, hc3, hm3⟩ := owns_reads hown3
  dsimp only
  refine hK _ _ ?_
  clear hK K hown3 hread hread1
  have hb23 : Below W1.heap.size W1 W3 := hal.trans (hb3.mono (by omega))
  have q3 := hb23.size
  have hRI : RI W3 p3 (m + 1) (pre1 (some ⟨Hi, 0, none⟩) P) (pre1 64 ln) (pre1 64 C) (pre1 (xorB b 0x36#8) f) := by
    refine ⟨?_, ?_, ?_⟩
    · rw [show m + 1 = 1 + m by omega]
      refine hr3.mono' (Nat.le_refl _) fun i hi => ?_
      cases i with
      | zero => rfl
      | succ i => rfl
    · intro i hi
      cases i with
      | zero => exact ⟨Nat.le_refl _, by show 64 ≤ maxLen; decide⟩
      | succ i => exact HR.out.cap i (by omega)
    · intro i hi
      cases i with
      | zero => exact HT1.out.to_reads hb23
      | succ i => exact ((HR.out.row i (by omega)).below (G3.out.trans (hb23.mono (by omega)))).mono (by omega)
  have HRI := Lib.hid hRI
  have H1 := Lib.hid (G1.out.below' hb23)
  have H2 := Lib.hid (there_below G2.out hb23 (by omega))
  have H3 := Lib.hid (G3.out.trans (hb23.mono (by omega)))
  clear hRI hr3 hb3 hal hrow2 hb23 G1 G2 G3 HT1
  refine wpList_plain rfl (fun K hK => ?_)
  go_simp
  rw [show 1 + m = m + 1 by omega]
  have hof := of_any B W3 (cat (xorB b 0x36#8) 64 g) p3 (m + 1) c3 _ _ _ _ (HK.out.below (H3.out.mono hB)) (by omega) HRI.out (by omega) (by rw [pos_pre]; have := HN.out; omega) (fun i hi j hj => by
    cases i with
    | zero => show xorB b 0x36#8 j = _; rw [show pos (pre1 64 ln) 0 = 0 from rfl, Nat.zero_add, cat_lo (show j < 64 from hj)]
    | succ i => rw [pos_pre, Nat.add_assoc, cat_hi]; exact HGG.out i (by omega) j hj)
  rw [pos_pre] at hof
  refine hof.mono ?_
  clear hof
  rintro e W4 ⟨rfl, hb4⟩
  dsimp only
  refine hK _ _ ?_
  clear hK K
  obtain ⟨s, hs⟩ : ∃ s, s = sha (cat (xorB b 0x36#8) 64 g) (64 + pos ln m) := ⟨_, rfl⟩
  rw [← hs]
  have HS := Lib.hid hs
  have q4 := hb4.size
  have G1 := Lib.hid (H1.out.below' hb4)
  have G2 := Lib.hid (there_below H2.out hb4 (by omega))
  have G3 := Lib.hid (H3.out.trans (hb4.mono (by omega)))
  clear hs hb4 H1 H2 H3 HRI
  refine wpList_plain rfl (fun K hK => ?_)
  go_simp
  refine hK _ _ ?_
  clear hK K
  have ht : (W4.alloc (.cells (List.replicate 32 (Value.int .u8 0)).toArray 25)).there W4.heap.size 0 32 := there_block (laid_at rfl) (by simp)
  have ht0 : BT (W4.alloc (.cells (List.replicate 32 (Value.int .u8 0)).toArray 25)) W4.heap.size 32 (fun _ => 0#8) := BT.of_cells (laid_at rfl) (fun i hi => zero_at 32 i hi)
  refine wpList_store_mid rfl 25 _ _ rfl W4.heap.size 0 (tagC s).toArray rfl rfl (by simpa [tagC_len] using ht) (by simp [infoTag, tagC_len]) (tagC_one _) ?_
  rw [List.toList_toArray]
  have ht5 : BT ((W4.alloc (.cells (List.replicate 32 (Value.int .u8 0)).toArray 25)).setCells W4.heap.size 0 (tagC s)) W4.heap.size 32 s := ht0.setFirst 32 (Nat.le_refl _) _ rfl fun j h1 h2 => by omega
  have hg5 : W4.grownBy ((W4.alloc (.cells (List.replicate 32 (Value.int .u8 0)).toArray 25)).setCells W4.heap.size 0 (tagC s)) (some W4.heap.size) := (World.grownBy_alloc W4 _ _).trans (gr_setCells _ _ _)
  show Exit.then _ _ Exit.normal _ ((W4.alloc (.cells (List.replicate 32 (Value.int .u8 0)).toArray 25)).setCells W4.heap.size 0 (tagC s))
  generalize (W4.alloc (.cells (List.replicate 32 (Value.int .u8 0)).toArray 25)).setCells W4.heap.size 0 (tagC s) = W5 at ht5 hg5 ⊢
  have q5 := hg5.size
  have hSV : SV B w b s W4.heap.size W5 := ⟨G1.out.gr hg5 (by omega), there_gr G2.out hg5 (by omega) (by simp; omega), ht5, HK.out.below ((G3.out.grown hg5 G3.out.size (by rintro q ⟨⟩; omega)).mono hB), G3.out.grown hg5 G3.out.size (by rintro q ⟨⟩; omega), by omega⟩
  have HV := Lib.hid hSV
  clear hSV ht5 hg5 ht ht0 G1 G2 G3
  go_upto_region 2 with (fail)
  refine wp_region_noPanic ?_
  refine wp_region_start (n := 7) (l := #[false, false, false, false, false, false, false]) (S := SV B w b s W4.heap.size) (by kernel_rfl) rfl (by kernel_rfl) HV.out.drew (fun hHeld => ?_)
  refine take_to (i := 0) (d := some 14) (v := ?_) (l' := #[true, false, false, false, false, false, false]) rfl rfl (by kernel_rfl) (by kernel_rfl) (by kernel_rfl) (by kernel_rfl) (fun _ _ _ h => h) (Or.inl ⟨by rfl, ?_⟩) (by assumption) ?_; rotate_left; · (intro w' hSw; (try dsimp only at hSw); go_simp; (try with_reducible rfl))
  try simp only [Act.put, List.setIfInBounds_toArray, List.set_cons_zero, List.set_cons_succ]
  refine take_to (i := 1) (d := some 15) (v := .agg (blkC b).toArray) (l' := #[true, true, false, false, false, false, false]) rfl rfl (by kernel_rfl) (by kernel_rfl) (by kernel_rfl) (by kernel_rfl) (fun _ _ _ h => h) ?_ (by assumption) ?_
  · exact yieldsIf_load_mid (by rfl) 88 _ rfl w.heap.size 0 rfl (blkC b) _ (fun w' hw' => SV.blk hw' |>.range) Tryz.underlying88 rfl (by simp [infoBlock, blkC_len])
  try simp only [Act.put, List.setIfInBounds_toArray, List.set_cons_zero, List.set_cons_succ]
  refine take_to (i := 3) (d := some 17) (v := ?_) (l' := #[true, true, false, true, false, false, false]) rfl rfl (by kernel_rfl) (by kernel_rfl) (by kernel_rfl) (by kernel_rfl) (fun _ _ _ h => h) (Or.inl ⟨by rfl, ?_⟩) (by assumption) ?_; rotate_left; · (intro w' hSw; (try dsimp only at hSw); go_simp; (try with_reducible rfl))
  try simp only [Act.put, List.setIfInBounds_toArray, List.set_cons_zero, List.set_cons_succ]
  refine one_to (i := 2) (l' := #[true, true, true, true, false, false, false]) rfl (by kernel_rfl) (by kernel_rfl) (fun K hK => ?_)
  go_simp
  refine (outer_any b _).mono ?_
  rintro e W6 ⟨Ho, rfl, hHo, hb6, hbt6⟩
  have HBT6 := Lib.hid hbt6
  clear hbt6
  dsimp only
  refine hK.out _ _ (hHeld.go hB hb6) (fun hV6 => ?_)
  clear hK K
  try simp only [Act.put, List.setIfInBounds_toArray, List.set_cons_zero, List.set_cons_succ]
  refine one_to (i := 4) (l' := #[true, true, true, true, true, false, false]) rfl (by kernel_rfl) (by kernel_rfl) (fun K hK => ?_)
  go_simp
  refine hK.out _ _ (hV6.alloc hB _) (fun hV7 => ?_)
  clear hK K
  try simp only [Act.put, List.setIfInBounds_toArray, List.set_cons_zero, List.set_cons_succ]
  refine one_to (i := 5) (l' := #[true, true, true, true, true, true, false]) rfl (by kernel_rfl) (by kernel_rfl) (fun K hK => ?_)
  go_simp
  have hz6 := hV6.sz
  refine (of2 B _ W6.heap.size 64 64 32 32 (some ⟨Ho, 0, none⟩) (some ⟨W4.heap.size, 0, none⟩) 22 (cat (xorB b 0x5c#8) 64 s) hV7.kc (by have := hV7.sz; omega) (laid_at rfl) (Nat.le_refl _) (by decide) (Nat.le_refl _) (by decide)
    (((HBT6.out.alloc _).reads).mono' (Nat.le_refl _) (fun i hi => by rw [cat_lo hi])) ((hV7.tag.reads).mono' (Nat.le_refl _) (fun i hi => by rw [cat_hi])) (by omega)).mono ?_
  rintro e W8 ⟨rfl, hb8⟩
  obtain ⟨s2, hs2⟩ : ∃ s2, s2 = sha (cat (xorB b 0x5c#8) 64 s) (64 + 32) := ⟨_, rfl⟩
  rw [← hs2]
  have HS2 := Lib.hid hs2
  clear hs2
  dsimp only
  refine hK.out _ _ (hV7.go hB hb8) (fun hV8 => ?_)
  clear hK K
  try simp only [Act.put, List.setIfInBounds_toArray, List.set_cons_zero, List.set_cons_succ]
  refine one_to (i := 6) (l' := #[true, true, true, true, true, true, true]) rfl (by kernel_rfl) (by kernel_rfl) (fun K hK => ?_)
  rw [if_pos (by rfl)]
  have ht8 : W8.there (w.heap.size + 1) 0 32 := hV8.out
  refine wp_store_mid 25 _ _ rfl (w.heap.size + 1) 0 (tagC s2).toArray rfl rfl (by simpa [tagC_len] using ht8) (by simp [infoTag, tagC_len]) (tagC_one _) ?_
  rw [List.toList_toArray]
  refine hK.out _ _ (hV8.store hB (by omega) _) (fun hV9 => ?_)
  clear hK K
  try simp only [Act.put, List.setIfInBounds_toArray, List.set_cons_zero, List.set_cons_succ]
  refine wpAnyH_done (by kernel_rfl) ?_ _
  refine NoPanic.normal ?_
  have HR5 := Lib.hid (World.rangeAt_setCells_same W8 (w.heap.size + 1) 0 (tagC s2) (by rw [tagC_len]; exact hV8.out))
  have HB5 := Lib.hid hV9.bel
  clear hV9 hV8 hV7 hV6
  generalize W8.setCells (w.heap.size + 1) 0 (tagC s2) = W9 at HR5 HB5 ⊢
  go_wp2
  refine bodyPost_ret (v := tagV s2) ?_ rfl ⟨?_, HB5.out⟩
  · exact results_cell_mid (p := 4) (ty := 25) rfl _ W9 (w.heap.size + 1) _ _ rfl HR5.out Tryz.underlying25 rfl (by simp [infoTag, tagC_len])
  · rw [HS2.out, HS.out]; rfl
end Go.Proofs.YtejknkgbkkdaiaaGreatDoor

namespace Go.Proofs.YtejknkgbkkdaiaaGreatDoor
open Go.RowKit
set_option linter.unusedVariables false
set_option linter.unusedSimpArgs false

theorem RI.to {w W : World} {p : Option Addr} {m : Nat} {P : Nat → Option Addr} {ln C : Nat → Nat} {f : Nat → Nat → BitVec 8} (h : RI w p m P ln C f) (g : Below w.heap.size w W) : RI W p m P ln C f :=
  ⟨(h.rows.below g).mono g.size, h.cap, fun i hi => ((h.row i hi).below g).mono g.size⟩
theorem Reads.to {w W : World} {p : Option Addr} {n : Nat} {f : Nat → Value} (h : Reads w.heap.size w p n f) (g : Below w.heap.size w W) : Reads W.heap.size W p n f := (h.below g).mono g.size

set_option maxHeartbeats 2000000 in
set_option maxRecDepth 100000 in
theorem macOf_any (B : Nat) (w : World) (kp : Option Addr) (kn kc : Nat) (k : Nat → BitVec 8) (g : Nat → BitVec 8) (p : Option Addr) (m c : Nat) (P : Nat → Option Addr) (ln C : Nat → Nat) (f : Nat → Nat → BitVec 8)
    (hk : Kc B w) (hB : B ≤ w.heap.size) (hkn : kn ≤ 2147483648) (hkc : kn ≤ kc) (hkm : kc ≤ maxLen) (hkr : Reads w.heap.size w kp kn (fun j => .int .u8 (ub (k j))))
    (hr : RI w p m P ln C f) (hmc : m ≤ c) (hcm : c ≤ maxLen) (hm : m ≤ 4294967295) (hn : pos ln m ≤ 2147483584) (hg : ∀ i, i < m → ∀ j, j < ln i → f i j = g (pos ln i + j)) :
    Calls Tryz.prog 44 #[.slice kp kn kc, .slice p m c] w fun e w' => e = .returned (tagV (hmac k kn g (pos ln m))) ∧ Below w.heap.size w w' := by
  obtain ⟨s, hs⟩ : ∃ s, s = hmac k kn g (pos ln m) := ⟨_, rfl⟩
  rw [← hs]
  have HS := Lib.hid hs
  have HK := Lib.hid hk
  have HKR := Lib.hid hkr
  have HR := Lib.hid hr
  have HN := Lib.hid hn
  have HGG := Lib.hid hg
  clear hs hk hkr hr hn hg
  go_enter Tryz.func44, Tryz.ntmps44
  go_upto_region 1 with (fail)
  refine forget_code (fun W => Below w.heap.size w W ∧ W.there w.heap.size 0 32 ∧ w.heap.size < W.heap.size)
    ⟨(Below.refl _ _).alloc (Nat.le_refl _) _, there_block (laid_at rfl) (by simp), by simp⟩ ?_
  rintro W ⟨hbel, ht1, hsz⟩
  have H2 := Lib.hid ht1
  have H3 := Lib.hid hbel
  clear ht1 hbel
  refine wp_region_lit ?_
  refine wpList_plain rfl (fun K hK => ?_)
  go_simp
  refine hK _ _ ?_
  clear hK K
  refine wpList_plain rfl (fun K hK => ?_)
  go_simp
  refine (blockOf_any B W kp kn kc k (HK.out.below (H3.out.mono hB)) (by omega) hkn hkc hkm (HKR.out.to H3.out)).mono ?_
  rintro e W1 ⟨rfl, hb1⟩
  dsimp only
  refine hK _ _ ?_
  clear hK K
  obtain ⟨b, hb⟩ : ∃ b, b = kblk k kn := ⟨_, rfl⟩
  rw [← hb]
  have HB := Lib.hid hb
  have q1 := hb1.size
  have G2 := Lib.hid (there_below H2.out hb1 hsz)
  have G3 := Lib.hid (H3.out.trans (hb1.mono (by omega)))
  clear hb1 hb H2 H3
  refine wpList_build_at rfl 91 _ rfl (blkC b).toArray (by kernel_rfl) ?_
  simp only [Act.put, List.setIfInBounds_toArray, List.set_cons_zero, List.set_cons_succ]
  refine wpList_plain rfl (fun K hK => ?_)
  go_simp
  refine hK _ _ ?_
  clear hK K
  have ht : (W1.alloc (.cells (List.replicate 64 (Value.int .u8 0)).toArray 91)).there W1.heap.size 0 64 := there_block (laid_at rfl) (by simp)
  have ht0 : BT (W1.alloc (.cells (List.replicate 64 (Value.int .u8 0)).toArray 91)) W1.heap.size 64 (fun _ => 0#8) := BT.of_cells (laid_at rfl) (fun i hi => zero_at 64 i hi)
  refine wpList_store_mid rfl 91 _ _ rfl W1.heap.size 0 (blkC b).toArray rfl rfl (by simpa [blkC_len] using ht) (by simp [infoSealer, blkC_len]) (blkC_one _) ?_
  rw [List.toList_toArray]
  have ht5 : BT ((W1.alloc (.cells (List.replicate 64 (Value.int .u8 0)).toArray 91)).setCells W1.heap.size 0 (blkC b)) W1.heap.size 64 b := ht0.setFirst 64 (Nat.le_refl _) _ rfl fun j h1 h2 => by omega
  have hg5 : W1.grownBy ((W1.alloc (.cells (List.replicate 64 (Value.int .u8 0)).toArray 91)).setCells W1.heap.size 0 (blkC b)) (some W1.heap.size) := (World.grownBy_alloc W1 _ _).trans (gr_setCells _ _ _)
  show Exit.then _ _ Exit.normal _ ((W1.alloc (.cells (List.replicate 64 (Value.int .u8 0)).toArray 91)).setCells W1.heap.size 0 (blkC b))
  generalize (W1.alloc (.cells (List.replicate 64 (Value.int .u8 0)).toArray 91)).setCells W1.heap.size 0 (blkC b) = W5 at ht5 hg5 ⊢
  have q5 := hg5.size
  have F1 := Lib.hid ht5
  have F2 := Lib.hid (there_gr G2.out hg5 (by omega) (by simp; omega))
  have F3 := Lib.hid (G3.out.grown hg5 G3.out.size (by rintro q ⟨⟩; omega))
  clear ht5 hg5 ht ht0 G2 G3
  go_upto_region 2 with (fail)
  refine wp_region_lit ?_
  refine wpList_load_mid rfl 91 _ rfl W1.heap.size 0 rfl (blkC b) _ F1.out.range Tryz.underlying91 rfl (by simp [infoSealer, blkC_len]) ?_
  refine wpList_plain rfl (fun K hK => ?_)
  go_simp
  refine hK _ _ ?_
  clear hK K
  refine wpList_plain rfl (fun K hK => ?_)
  go_simp
  refine (seal_any B W5 b g p m c P ln C f (HK.out.below (F3.out.mono hB)) (by omega) (HR.out.to F3.out) hmc hcm hm HN.out HGG.out).mono ?_
  rintro e W6 ⟨rfl, hb6⟩
  rw [show hmb b g (pos ln m) = s by rw [HS.out, HB.out]; rfl]
  dsimp only
  refine hK _ _ ?_
  clear hK K
  have E2 := Lib.hid (there_below F2.out hb6 (by omega))
  have E3 := Lib.hid (F3.out.trans (hb6.mono (by omega)))
  clear hb6 F1 F2 F3
  refine wpList_store_mid rfl 25 _ _ rfl w.heap.size 0 (tagC s).toArray rfl rfl (by simpa [tagC_len] using E2.out) (by simp [infoTag, tagC_len]) (tagC_one _) ?_
  rw [List.toList_toArray]
  have HR5 := Lib.hid (World.rangeAt_setCells_same W6 w.heap.size 0 (tagC s) (by rw [tagC_len]; exact E2.out))
  have HB5 := Lib.hid (E3.out.grown (gr_setCells (hb := w.heap.size) (tagC s) 0 W6) E3.out.size (by rintro q ⟨⟩; omega))
  generalize W6.setCells w.heap.size 0 (tagC s) = W7 at HR5 HB5 ⊢
  show Exit.then _ _ Exit.normal _ _
  go_wp2
  refine bodyPost_ret (v := tagV s) ?_ rfl ⟨rfl, HB5.out⟩
  exact results_cell_mid (p := 4) (ty := 25) rfl _ W7 w.heap.size _ _ rfl HR5.out Tryz.underlying25 rfl (by simp [infoTag, tagC_len])

/-- what stays while Check asks -/
structure CV (w : World) (t : Nat → BitVec 8) (W : World) : Prop where
  bel : Below w.heap.size w W
  cells : BT W w.heap.size 32 t
theorem CV.drew {w W : World} {t : Nat → BitVec 8} (h : CV w t W) : CV w t W.drew := ⟨h.bel.drew, h.cells.drew⟩
theorem CV.go {w W W' : World} {t : Nat → BitVec 8} (h : CV w t W) (g : Below W.heap.size W W') : CV w t W' := ⟨h.bel.trans (g.mono h.bel.size), h.cells.below' g⟩
/-- what Check answers -/
def chk (b : Bool) : Int := if b then 0 else 7
theorem chk_ok (b : Bool) : (chk b == 0) = b := by cases b <;> rfl
theorem chk_bad (b : Bool) : (chk b == 7) = !b := by cases b <;> rfl
theorem chk_nok (b : Bool) : (chk b != 0) = !b := by cases b <;> rfl
end Go.Proofs.YtejknkgbkkdaiaaGreatDoor
