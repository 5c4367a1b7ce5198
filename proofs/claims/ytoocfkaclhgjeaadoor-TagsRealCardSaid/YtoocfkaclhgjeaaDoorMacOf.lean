/-
  Contracts: the tag of rows under a key; whether a tag is that.
-/
import Derived.Test.YtoocfkaclhgjeaaDoorSeal
namespace Go.Proofs.YtoocfkaclhgjeaaDoor
open Go.RowKit
set_option linter.unusedVariables false
set_option linter.unusedSimpArgs false

theorem RI.to {w W : World} {p : Option Addr} {m : Nat} {P : Nat → Option Addr} {ln C : Nat → Nat} {f : Nat → Nat → BitVec 8} (h : RI w p m P ln C f) (g : Below w.heap.size w W) : RI W p m P ln C f :=
  ⟨(h.rows.below g).mono g.size, h.cap, fun i hi => ((h.row i hi).below g).mono g.size⟩
theorem Reads.to {w W : World} {p : Option Addr} {n : Nat} {f : Nat → Value} (h : Reads w.heap.size w p n f) (g : Below w.heap.size w W) : Reads W.heap.size W p n f := (h.below g).mono g.size

set_option maxHeartbeats 2000000 in
set_option maxRecDepth 100000 in
theorem macOf_any (B : Nat) (w : World) (kp : Option Addr) (kn kc : Nat) (k : Nat → BitVec 8) (g : Nat → BitVec 8) (p : Option Addr) (m c : Nat) (P : Nat → Option Addr) (ln C : Nat → Nat) (f : Nat → Nat → BitVec 8)
    (hk : Kc B w) (hB : B ≤ w.heap.size) (hkn : kn ≤ 2147483648) (hkc : kn ≤ kc) (hkm : kc ≤ maxLen) (hkr : Reads w.heap.size w kp kn (fun j => .int .u8 (ub (k j))))
    (hr : RI w p m P ln C f) (hmc : m ≤ c) (hcm : c ≤ maxLen) (hm : m ≤ 4294967295) (hn : pos ln m ≤ 2147483584) (hg : ∀ i, i < m → ∀ j, j < ln i → f i j = g (pos ln i + j)) :
    Calls Tryd.prog 35 #[.slice kp kn kc, .slice p m c] w fun e w' => e = .returned (tagV (hmac k kn g (pos ln m))) ∧ Below w.heap.size w w' := by
  obtain ⟨s, hs⟩ : ∃ s, s = hmac k kn g (pos ln m) := ⟨_, rfl⟩
  rw [← hs]
  have HS := Lib.hid hs
  have HK := Lib.hid hk
  have HKR := Lib.hid hkr
  have HR := Lib.hid hr
  have HN := Lib.hid hn
  have HGG := Lib.hid hg
  clear hs hk hkr hr hn hg
  go_enter Tryd.func35, Tryd.ntmps35
  go_upto_region 1 with (fail)
  refine forget_code (fun W => Below w.heap.size w W ∧ W.there w.heap.size 0 32 ∧ w.heap.size < W.heap.size)
    ⟨(Below.refl _ _).alloc (Nat.le_refl _) _, there_block (laid_at rfl) (by simp), by simp⟩ ?_
  rintro W ⟨hbel, ht1, hsz⟩
  have H2 := Lib.hid ht1
  have H3 := Lib.hid hbel
  clear ht1 hbel
  refine wp_region_lit ?_
  refine wpList_plain rfl (fun K hK => ?_)
  go_simp
  refine hK _ _ ?_
  clear hK K
  refine wpList_plain rfl (fun K hK => ?_)
  go_simp
  refine (blockOf_any B W kp kn kc k (HK.out.below (H3.out.mono hB)) (by omega) hkn hkc hkm (HKR.out.to H3.out)).mono ?_
  rintro e W1 ⟨rfl, hb1⟩
  dsimp only
  refine hK _ _ ?_
  clear hK K
  obtain ⟨b, hb⟩ : ∃ b, b = kblk k kn := ⟨_, rfl⟩
  rw [← hb]
  have HB := Lib.hid hb
  have q1 := hb1.size
  have G2 := Lib.hid (there_below H2.out hb1 hsz)
  have G3 := Lib.hid (H3.out.trans (hb1.mono (by omega)))
  clear hb1 hb H2 H3
  refine wpList_build_at rfl 78 _ rfl (blkC b).toArray (by kernel_rfl) ?_
  simp only [Act.put, List.setIfInBounds_toArray, List.set_cons_zero, List.set_cons_succ]
  refine wpList_plain rfl (fun K hK => ?_)
  go_simp
  refine hK _ _ ?_
  clear hK K
  have ht : (W1.alloc (.cells (List.replicate 64 (Value.int .u8 0)).toArray 78)).there W1.heap.size 0 64 := there_block (laid_at rfl) (by simp)
  have ht0 : BT (W1.alloc (.cells (List.replicate 64 (Value.int .u8 0)).toArray 78)) W1.heap.size 64 (fun _ => 0#8) := BT.of_cells (laid_at rfl) (fun i hi => zero_at 64 i hi)
  refine wpList_store_mid rfl 78 _ _ rfl W1.heap.size 0 (blkC b).toArray rfl rfl (by simpa [blkC_len] using ht) (by simp [infoSealer, blkC_len]) (blkC_one _) ?_
  rw [List.toList_toArray]
  have ht5 : BT ((W1.alloc (.cells (List.replicate 64 (Value.int .u8 0)).toArray 78)).setCells W1.heap.size 0 (blkC b)) W1.heap.size 64 b := ht0.setFirst 64 (Nat.le_refl _) _ rfl fun j h1 h2 => by omega
  have hg5 : W1.grownBy ((W1.alloc (.cells (List.replicate 64 (Value.int .u8 0)).toArray 78)).setCells W1.heap.size 0 (blkC b)) (some W1.heap.size) := (World.grownBy_alloc W1 _ _).trans (gr_setCells _ _ _)
  show Exit.then _ _ Exit.normal _ ((W1.alloc (.cells (List.replicate 64 (Value.int .u8 0)).toArray 78)).setCells W1.heap.size 0 (blkC b))
  generalize (W1.alloc (.cells (List.replicate 64 (Value.int .u8 0)).toArray 78)).setCells W1.heap.size 0 (blkC b) = W5 at ht5 hg5 ⊢
  have q5 := hg5.size
  have F1 := Lib.hid ht5
  have F2 := Lib.hid (there_gr G2.out hg5 (by omega) (by simp; omega))
  have F3 := Lib.hid (G3.out.grown hg5 G3.out.size (by rintro q ⟨⟩; omega))
  clear ht5 hg5 ht ht0 G2 G3
  go_upto_region 2 with (fail)
  refine wp_region_lit ?_
  refine wpList_load_mid rfl 78 _ rfl W1.heap.size 0 rfl (blkC b) _ F1.out.range Tryd.underlying78 rfl (by simp [infoSealer, blkC_len]) ?_
  refine wpList_plain rfl (fun K hK => ?_)
  go_simp
  refine hK _ _ ?_
  clear hK K
  refine wpList_plain rfl (fun K hK => ?_)
  go_simp
  refine (seal_any B W5 b g p m c P ln C f (HK.out.below (F3.out.mono hB)) (by omega) (HR.out.to F3.out) hmc hcm hm HN.out HGG.out).mono ?_
  rintro e W6 ⟨rfl, hb6⟩
  rw [show hmb b g (pos ln m) = s by rw [HS.out, HB.out]; rfl]
  dsimp only
  refine hK _ _ ?_
  clear hK K
  have E2 := Lib.hid (there_below F2.out hb6 (by omega))
  have E3 := Lib.hid (F3.out.trans (hb6.mono (by omega)))
  clear hb6 F1 F2 F3
  refine wpList_store_mid rfl 33 _ _ rfl w.heap.size 0 (tagC s).toArray rfl rfl (by simpa [tagC_len] using E2.out) (by simp [infoTag, tagC_len]) (tagC_one _) ?_
  rw [List.toList_toArray]
  have HR5 := Lib.hid (World.rangeAt_setCells_same W6 w.heap.size 0 (tagC s) (by rw [tagC_len]; exact E2.out))
  have HB5 := Lib.hid (E3.out.grown (gr_setCells (hb := w.heap.size) (tagC s) 0 W6) E3.out.size (by rintro q ⟨⟩; omega))
  generalize W6.setCells w.heap.size 0 (tagC s) = W7 at HR5 HB5 ⊢
  show Exit.then _ _ Exit.normal _ _
  go_wp2
  refine bodyPost_ret (v := tagV s) ?_ rfl ⟨rfl, HB5.out⟩
  exact results_cell_mid (p := 4) (ty := 33) rfl _ W7 w.heap.size _ _ rfl HR5.out Tryd.underlying33 rfl (by simp [infoTag, tagC_len])

/-- what stays while Check asks -/
structure CV (w : World) (t : Nat → BitVec 8) (W : World) : Prop where
  bel : Below w.heap.size w W
  cells : BT W w.heap.size 32 t
theorem CV.drew {w W : World} {t : Nat → BitVec 8} (h : CV w t W) : CV w t W.drew := ⟨h.bel.drew, h.cells.drew⟩
theorem CV.go {w W W' : World} {t : Nat → BitVec 8} (h : CV w t W) (g : Below W.heap.size W W') : CV w t W' := ⟨h.bel.trans (g.mono h.bel.size), h.cells.below' g⟩
/-- what Check answers -/
def chk (b : Bool) : Int := if b then 0 else 7
theorem chk_ok (b : Bool) : (chk b == 0) = b := by cases b <;> rfl
theorem chk_bad (b : Bool) : (chk b == 7) = !b := by cases b <;> rfl
theorem chk_nok (b : Bool) : (chk b != 0) = !b := by cases b <;> rfl
end Go.Proofs.YtoocfkaclhgjeaaDoor
