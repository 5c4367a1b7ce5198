/-
  Contracts: the tag of rows under a key; whether a tag is that.
-/
import Derived.Test.YthhjieagdkimfaaDoorSeal
namespace Go.Proofs.YthhjieagdkimfaaDoor
open Go.RowKit
set_option linter.unusedVariables false
set_option linter.unusedSimpArgs false

theorem RI.to {w W : World} {p : Option Addr} {m : Nat} {P : Nat → Option Addr} {ln C : Nat → Nat} {f : Nat → Nat → BitVec 8} (h : RI w p m P ln C f) (g : Below w.heap.size w W) : RI W p m P ln C f :=
  ⟨(h.rows.below g).mono g.size, h.cap, fun i hi => ((h.row i hi).below g).mono g.size⟩
theorem Reads.to {w W : World} {p : Option Addr} {n : Nat} {f : Nat → Value} (h : Reads w.heap.size w p n f) (g : Below w.heap.size w W) : Reads W.heap.size W p n f := (h.below g).mono g.size

set_option maxHeartbeats 2000000 in
set_option maxRecDepth 100000 in
theorem macOf_any (B : Nat) (w : World) (kp : Option Addr) (kn kc : Nat) (k : Nat → BitVec 8) (g : Nat → BitVec 8) (p : Option Addr) (m c : Nat) (P : Nat → Option Addr) (ln C : Nat → Nat) (f : Nat → Nat → BitVec 8)
    (hk : Kc B w) (hB : B ≤ w.heap.size) (hkn : kn ≤ 2147483648) (hkc : kn ≤ kc) (hkm : kc ≤ maxLen) (hkr : Reads w.heap.size w kp kn (fun j => .int .u8 (ub (k j))))
    (hr : RI w p m P ln C f) (hmc : m ≤ c) (hcm : c ≤ maxLen) (hm : m ≤ 4294967295) (hn : pos ln m ≤ 2147483584) (hg : ∀ i, i < m → ∀ j, j < ln i → f i j = g (pos ln i + j)) :
    Calls Tryd.prog 22 #[.slice kp kn kc, .slice p m c] w fun e w' => e = .returned (tagV (hmac k kn g (pos ln m))) ∧ Below w.heap.size w w' := by
  obtain ⟨s, hs⟩ : ∃ s, s = hmac k kn g (pos ln m) := ⟨_, rfl⟩
  rw [← hs]
  have HS := Lib.hid hs
  have HK := Lib.hid hk
  have HKR := Lib.hid hkr
  have HR := Lib.hid hr
  have HN := Lib.hid hn
  have HGG := Lib.hid hg
  clear hs hk hkr hr hn hg
  go_enter Tryd.func22, Tryd.ntmps22
  go_upto_region 1 with (fail)
  refine forget_code (fun W => Below w.heap.size w W ∧ W.there w.heap.size 0 32 ∧ w.heap.size < W.heap.size)
    ⟨(Below.refl _ _).alloc (Nat.le_refl _) _, there_block (laid_at rfl) (by simp), by simp⟩ ?_
  rintro W ⟨hbel, ht1, hsz⟩
  have H2 := Lib.hid ht1
  have H3 := Lib.hid hbel
  clear ht1 hbel
  refine wp_region_lit ?_
  refine wpList_plain rfl (fun K hK => ?_)
  go_simp
  refine hK _ _ ?_
  clear hK K
  refine wpList_plain rfl (fun K hK => ?_)
  go_simp
  refine (blockOf_any B W kp kn kc k (HK.out.below (H3.out.mono hB)) (by omega) hkn hkc hkm (HKR.out.to H3.out)).mono ?_
  rintro e W1 ⟨rfl, hb1⟩
  dsimp only
  refine hK _ _ ?_
  clear hK K
  obtain ⟨b, hb⟩ : ∃ b, b = kblk k kn := ⟨_, rfl⟩
  rw [← hb]
  have HB := Lib.hid hb
  have q1 := hb1.size
  have G2 := Lib.hid (there_below H2.out hb1 hsz)
  have G3 := Lib.hid (H3.out.trans (hb1.mono (by omega)))
  clear hb1 hb H2 H3
  refine wpList_build_at rfl 82 _ rfl (blkC b).toArray (by kernel_rfl) ?_
  simp only [Act.put, List.setIfInBounds_toArray, List.set_cons_zero, List.set_cons_succ]
  refine wpList_plain rfl (fun K hK => ?_)
  go_simp
  refine hK _ _ ?_
  clear hK K
  have ht : (W1.alloc (.cells (List.replicate 64 (Value.int .u8 0)).toArray 82)).there W1.heap.size 0 64 := there_block (laid_at rfl) (by simp)
  have ht0 : BT (W1.alloc (.cells (List.replicate 64 (Value.int .u8 0)).toArray 82)) W1.heap.size 64 (fun _ => 0#8) := BT.of_cells (laid_at rfl) (fun i hi => zero_at 64 i hi)
  refine wpList_store_mid rfl 82 _ _ rfl W1.heap.size 0 (blkC b).toArray rfl rfl (by simpa [blkC_len] using ht) (by simp [infoSealer, blkC_len]) (blkC_one _) ?_
  rw [List.toList_toArray]
  have ht5 : BT ((W1.alloc (.cells (List.replicate 64 (Value.int .u8 0)).toArray 82)).setCells W1.heap.size 0 (blkC b)) W1.heap.size 64 b := ht0.setFirst 64 (Nat.le_refl _) _ rfl fun j h1 h2 => by omega
  have hg5 : W1.grownBy ((W1.alloc (.cells (List.replicate 64 (Value.int .u8 0)).toArray 82)).setCells W1.heap.size 0 (blkC b)) (some W1.heap.size) := (World.grownBy_alloc W1 _ _).trans (gr_setCells _ _ _)
  show Exit.then _ _ Exit.normal _ ((W1.alloc (.cells (List.replicate 64 (Value.int .u8 0)).toArray 82)).setCells W1.heap.size 0 (blkC b))
  generalize (W1.alloc (.cells (List.replicate 64 (Value.int .u8 0)).toArray 82)).setCells W1.heap.size 0 (blkC b) = W5 at ht5 hg5 ⊢
  have q5 := hg5.size
  have F1 := Lib.hid ht5
  have F2 := Lib.hid (there_gr G2.out hg5 (by omega) (by simp; omega))
  have F3 := Lib.hid (G3.out.grown hg5 G3.out.size (by rintro q ⟨⟩; omega))
  clear ht5 hg5 ht ht0 G2 G3
  go_upto_region 2 with (fail)
  refine wp_region_lit ?_
  refine wpList_load_mid rfl 82 _ rfl W1.heap.size 0 rfl (blkC b) _ F1.out.range Tryd.underlying82 rfl (by simp [infoSealer, blkC_len]) ?_
  refine wpList_plain rfl (fun K hK => ?_)
  go_simp
  refine hK _ _ ?_
  clear hK K
  refine wpList_plain rfl (fun K hK => ?_)
  go_simp
  refine (seal_any B W5 b g p m c P ln C f (HK.out.below (F3.out.mono hB)) (by omega) (HR.out.to F3.out) hmc hcm hm HN.out HGG.out).mono ?_
  rintro e W6 ⟨rfl, hb6⟩
  rw [show hmb b g (pos ln m) = s by rw [HS.out, HB.out]; rfl]
  dsimp only
  refine hK _ _ ?_
  clear hK K
  have E2 := Lib.hid (there_below F2.out hb6 (by omega))
  have E3 := Lib.hid (F3.out.trans (hb6.mono (by omega)))
  clear hb6 F1 F2 F3
  refine wpList_store_mid rfl 32 _ _ rfl w.heap.size 0 (tagC s).toArray rfl rfl (by simpa [tagC_len] using E2.out) (by simp [infoTag, tagC_len]) (tagC_one _) ?_
  rw [List.toList_toArray]
  have HR5 := Lib.hid (World.rangeAt_setCells_same W6 w.heap.size 0 (tagC s) (by rw [tagC_len]; exact E2.out))
  have HB5 := Lib.hid (E3.out.grown (gr_setCells (hb := w.heap.size) (tagC s) 0 W6) E3.out.size (by rintro q ⟨⟩; omega))
  generalize W6.setCells w.heap.size 0 (tagC s) = W7 at HR5 HB5 ⊢
  show Exit.then _ _ Exit.normal _ _
  go_wp2
  refine bodyPost_ret (v := tagV s) ?_ rfl ⟨rfl, HB5.out⟩
  exact results_cell_mid (p := 4) (ty := 32) rfl _ W7 w.heap.size _ _ rfl HR5.out Tryd.underlying32 rfl (by simp [infoTag, tagC_len])

/-- what stays while Check asks -/
structure CV (w : World) (t : Nat → BitVec 8) (W : World) : Prop where
  bel : Below w.heap.size w W
  cells : BT W w.heap.size 32 t
theorem CV.drew {w W : World} {t : Nat → BitVec 8} (h : CV w t W) : CV w t W.drew := ⟨h.bel.drew, h.cells.drew⟩
theorem CV.go {w W W' : World} {t : Nat → BitVec 8} (h : CV w t W) (g : Below W.heap.size W W') : CV w t W' := ⟨h.bel.trans (g.mono h.bel.size), h.cells.below' g⟩
/-- what Check answers -/
def chk (b : Bool) : Int := if b then 0 else 7
theorem chk_ok (b : Bool) : (chk b == 0) = b := by cases b <;> rfl
theorem chk_bad (b : Bool) : (chk b == 7) = !b := by cases b <;> rfl
theorem chk_nok (b : Bool) : (chk b != 0) = !b := by cases b <;> rfl
set_option maxHeartbeats 2000000 in
set_option maxRecDepth 100000 in
theorem check_any (B : Nat) (w : World) (kp : Option Addr) (kn kc : Nat) (k : Nat → BitVec 8) (t : Nat → BitVec 8) (g : Nat → BitVec 8) (p : Option Addr) (m c : Nat) (P : Nat → Option Addr) (ln C : Nat → Nat) (f : Nat → Nat → BitVec 8)
    (hk : Kc B w) (hB : B ≤ w.heap.size) (hkn : kn ≤ 2147483648) (hkc : kn ≤ kc) (hkm : kc ≤ maxLen) (hkr : Reads w.heap.size w kp kn (fun j => .int .u8 (ub (k j))))
    (hr : RI w p m P ln C f) (hmc : m ≤ c) (hcm : c ≤ maxLen) (hm : m ≤ 4294967295) (hn : pos ln m ≤ 2147483584) (hg : ∀ i, i < m → ∀ j, j < ln i → f i j = g (pos ln i + j)) :
    Calls Tryd.prog 24 #[.slice kp kn kc, tagV t, .slice p m c] w fun e w' => e = .returned (.int .i64 (chk (teq (hmac k kn g (pos ln m)) t))) ∧ Below w.heap.size w w' := by
  obtain ⟨C1, hC1⟩ : ∃ C, C = (tagC t).toArray := ⟨_, rfl⟩
  obtain ⟨s, hs⟩ : ∃ s, s = hmac k kn g (pos ln m) := ⟨_, rfl⟩
  have hof : ∀ W, Below w.heap.size w W → Calls Tryd.prog 22 #[.slice kp kn kc, .slice p m c] W fun e w' => e = .returned (tagV s) ∧ Below W.heap.size W w' := fun W hW => by
    rw [hs]; exact macOf_any B W kp kn kc k g p m c P ln C f (hk.below (hW.mono hB)) (Nat.le_trans hB hW.size) hkn hkc hkm (hkr.to hW) (hr.to hW) hmc hcm hm hn hg
  have HOF := Lib.hid hof
  rw [← hs]
  unfold tagV
  rw [← hC1]
  have HC1 := Lib.hid hC1
  clear hs hk hkr hr hn hg hof hC1
  have hsm := fun W => same_any s t W
  unfold tagV at hsm HOF
  rw [← HC1.out] at hsm
  obtain ⟨b, hb⟩ : ∃ b, b = teq s t := ⟨_, rfl⟩
  obtain ⟨T, hT⟩ : ∃ T, T = Value.agg (tagC s).toArray := ⟨_, rfl⟩
  rw [← hb] at hsm ⊢
  rw [← hT] at hsm HOF
  have HSM := Lib.hid hsm
  have HT := Lib.hid hT
  have HBB := Lib.hid hb
  clear hb hT hsm
  go_enter Tryd.func24, Tryd.ntmps24
  go_upto_region 1 with (fail)
  refine forget_code (CV w t)
    ⟨(Below.refl _ _).alloc (Nat.le_refl _) _, BT.of_cells (laid_at rfl) fun i hi => by rw [HC1.out]; exact tagC_get t i hi⟩ ?_
  intro W hCV
  refine wp_region_noPanic ?_
  refine wp_region_start (n := 6) (l := #[false, false, false, false, false, false]) (S := CV w t) (by kernel_rfl) rfl (by kernel_rfl) hCV.drew (fun hHeld => ?_)
  refine take_to (i := 0) (d := some 7) (v := ?_) (l' := #[true, false, false, false, false, false]) rfl rfl (by kernel_rfl) (by kernel_rfl) (by kernel_rfl) (by kernel_rfl) (fun _ _ _ h => h) (Or.inl ⟨by rfl, ?_⟩) (by assumption) ?_; rotate_left; · (intro w' hSw; (try dsimp only at hSw); go_simp; (try with_reducible rfl))
  try simp only [Act.put, List.setIfInBounds_toArray, List.set_cons_zero, List.set_cons_succ]
  refine take_to (i := 1) (d := some 8) (v := ?_) (l' := #[true, true, false, false, false, false]) rfl rfl (by kernel_rfl) (by kernel_rfl) (by kernel_rfl) (by kernel_rfl) (fun _ _ _ h => h) (Or.inl ⟨by rfl, ?_⟩) (by assumption) ?_; rotate_left; · (intro w' hSw; (try dsimp only at hSw); go_simp; (try with_reducible rfl))
  try simp only [Act.put, List.setIfInBounds_toArray, List.set_cons_zero, List.set_cons_succ]
  refine take_to (i := 3) (d := some 10) (v := .agg C1) (l' := #[true, true, false, true, false, false]) rfl rfl (by kernel_rfl) (by kernel_rfl) (by kernel_rfl) (by kernel_rfl) (fun _ _ _ h => h) ?_ (by assumption) ?_
  · exact (by rw [HC1.out]; exact yieldsIf_load_mid (by rfl) 32 _ rfl w.heap.size 0 rfl (tagC t) _ (fun w' hw' => CV.cells hw' |>.range) Tryd.underlying32 rfl (by simp [infoTag, tagC_len]))
  try simp only [Act.put, List.setIfInBounds_toArray, List.set_cons_zero, List.set_cons_succ]
  refine one_to (i := 2) (l' := #[true, true, true, true, false, false]) rfl (by kernel_rfl) (by kernel_rfl) (fun K hK => ?_)
  go_simp
  refine (HOF.out _ hHeld.bel).mono ?_
  rintro e W2 ⟨rfl, hb2⟩
  dsimp only
  refine hK.out _ _ (hHeld.go hb2) (fun hV2 => ?_)
  clear hK K
  try simp only [Act.put, List.setIfInBounds_toArray, List.set_cons_zero, List.set_cons_succ]
  refine one_to (i := 4) (l' := #[true, true, true, true, true, false]) rfl (by kernel_rfl) (by kernel_rfl) (fun K hK => ?_)
  go_simp
  refine (HSM.out _).mono ?_
  rintro e W3 ⟨rfl, hb3⟩
  dsimp only
  refine hK.out _ _ (hV2.go hb3) (fun hV3 => ?_)
  clear hK K
  try simp only [Act.put, List.setIfInBounds_toArray, List.set_cons_zero, List.set_cons_succ]
  refine take_to (i := 5) (d := some 12) (v := ?_) (l' := #[true, true, true, true, true, true]) rfl rfl (by kernel_rfl) (by kernel_rfl) (by kernel_rfl) (by kernel_rfl) (fun _ _ _ h => h) (Or.inl ⟨by rfl, ?_⟩) (by assumption) ?_; rotate_left; · (intro w' hSw; (try dsimp only at hSw); go_simp; (try with_reducible rfl))
  try simp only [Act.put, List.setIfInBounds_toArray, List.set_cons_zero, List.set_cons_succ]
  refine wpAnyH_done (by kernel_rfl) ?_ _
  refine NoPanic.normal ?_
  have HV3 := Lib.hid hV3.bel
  clear hV3 hV2 hHeld hCV HOF HSM
  cases b
  all_goals
    go_wp2
    go_ret
    exact ⟨rfl, HV3.out⟩
end Go.Proofs.YthhjieagdkimfaaDoor
