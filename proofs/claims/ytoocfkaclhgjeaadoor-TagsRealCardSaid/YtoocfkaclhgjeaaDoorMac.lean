/-
  Contracts: bytes under a key.
-/
import Derived.Test.YtoocfkaclhgjeaaDoorConcat
import Derived.Test.YtoocfkaclhgjeaaDoorG8
namespace Go.Proofs.YtoocfkaclhgjeaaDoor
open Go.RowKit
set_option linter.unusedVariables false
set_option linter.unusedSimpArgs false

/-- a key's block -/
def kblk (k : Nat → BitVec 8) (n : Nat) : Nat → BitVec 8 := fun i => if n ≤ 64 then (if i < n then k i else 0#8) else (if i < 32 then sha k n i else 0#8)
/-- the tag of the first n of g under a key whose block is b -/
def hmb (b : Nat → BitVec 8) (g : Nat → BitVec 8) (n : Nat) : Nat → BitVec 8 := sha (cat (xorB b 0x5c#8) 64 (sha (cat (xorB b 0x36#8) 64 g) (64 + n))) (64 + 32)
def hmac (k : Nat → BitVec 8) (kn : Nat) (g : Nat → BitVec 8) (n : Nat) : Nat → BitVec 8 := hmb (kblk k kn) g n
theorem cat_congr {f f' g g' : Nat → BitVec 8} {n m : Nat} (h : ∀ i, i < n → f i = f' i) (h2 : ∀ i, i < m → g i = g' i) (i : Nat) (hi : i < n + m) : cat f n g i = cat f' n g' i := by
  unfold cat
  by_cases e : i < n
  · rw [if_pos e, if_pos e, h i e]
  · rw [if_neg e, if_neg e, h2 _ (by omega)]
theorem hmb_congr {b b' g g' : Nat → BitVec 8} {n : Nat} (h : ∀ i, i < 64 → b i = b' i) (h2 : ∀ i, i < n → g i = g' i) : hmb b g n = hmb b' g' n := by
  unfold hmb
  refine sha_congr _ fun i hi => cat_congr (fun j hj => by unfold xorB; rw [h j hj]) (fun j hj => ?_) i hi
  exact congrFun (sha_congr (64 + n) fun q hq => cat_congr (fun j hj => by unfold xorB; rw [h j hj]) h2 q hq) j

theorem zero_at (n i : Nat) (hi : i < n) : (List.replicate n (Value.int .u8 0)).toArray[i]? = some (.int .u8 (ub 0#8)) := by
  rw [List.getElem?_toArray, List.getElem?_replicate, if_pos hi]; rfl
set_option maxHeartbeats 1000000 in
set_option maxRecDepth 100000 in
theorem blockOf_short (w : World) (p : Option Addr) (n c : Nat) (k : Nat → BitVec 8) (hn : n ≤ 64) (hc : n ≤ c) (hr : Reads w.heap.size w p n (fun j => .int .u8 (ub (k j)))) :
    Calls Tryd.prog 45 #[.slice p n c] w fun e w' => e = .returned (blkV (kblk k n)) ∧ Below w.heap.size w w' := by
  have HR := Lib.hid hr
  clear hr
  go_enter Tryd.func45, Tryd.ntmps45
  go_upto_region 2 with (fail)
  refine forget_code (fun W => Below w.heap.size w W ∧ BT W w.heap.size 64 (fun _ => 0#8) ∧ BT W (w.heap.size + 1) 64 (fun _ => 0#8))
    ⟨((Below.refl _ _).alloc (Nat.le_refl _) _).alloc (by simp) _, BT.of_cells (laid_old (laid_at rfl)) (fun i hi => zero_at 64 i hi), BT.of_cells (laid_at (by simp)) (fun i hi => zero_at 64 i hi)⟩ ?_
  rintro W ⟨hbel, hb1, hb2⟩
  have hcp : ∀ ty, ∃ W2, (Builtin.copy_ #[23, 23] ty #[.slice (some ⟨w.heap.size + 1, 0, none⟩) 64 64, .slice p n c]).run Tryd.prog W = .ok (goInt n) W2 ∧ Below w.heap.size w W2 ∧ BT W2 w.heap.size 64 (fun _ => 0#8) ∧ BT W2 (w.heap.size + 1) 64 (kblk k n) := fun ty => by
    by_cases h0 : n = 0
    · subst h0
      refine ⟨W, run_copy_none W 23 23 ty 5 _ _ 64 64 0 c Tryd.underlying23 (by kernel_rfl) (by decide), hbel, hb1, hb2.congr fun i hi => by simp [kblk]⟩
    · rcases HR.out.below hbel with h | ⟨b, off, rfl, hbb, hcc⟩
      · omega
      refine ⟨W.setCells (w.heap.size + 1) 0 ((List.range n).map fun i => .int .u8 (ub (k i))), ?_, hbel.grown (gr_setCells (hb := w.heap.size + 1) _ 0 W) hbel.size (by rintro q ⟨⟩; omega), hb1.gr (gr_setCells _ _ _) (by omega), ?_⟩
      · have := run_copy_cells (P := Tryd.prog) W 23 23 ty 5 (w.heap.size + 1) 0 64 64 ⟨b, off, none⟩ n c ((List.range n).map fun i => .int .u8 (ub (k i))) Tryd.underlying23 (by kernel_rfl) (by simp; show n = min n 64; omega) (fun j v hv => by
          have hj : j < n := by have := (List.getElem?_eq_some_iff.1 hv).1; simpa using this
          rw [Addr.add_mid, hcc j hj, ← hv]; simp [hj]) (fun j hj => (hb2.there n hn j (by simpa using hj)).1) (fun j hj => (hb2.there n hn j (by simpa using hj)).2) (fun v hv => by
          obtain ⟨i, _, rfl⟩ := List.mem_map.1 hv
          rfl)
        simpa using this
      · refine hb2.setFirst n hn _ (by apply List.map_congr_left; intro i hi; unfold kblk; rw [if_pos hn, if_pos (List.mem_range.1 hi)]) fun j h1 h2 => by unfold kblk; rw [if_pos hn, if_neg (by omega)]
  have HCP := Lib.hid hcp
  clear hcp hbel hb1 hb2 HR
  go_upto_region 5 with (fail)
  refine wp_region_lit ?_
  refine wpList_plain rfl (fun K hK => ?_)
  go_simp
  refine hK _ _ ?_
  clear hK K
  refine wpList_plain rfl (fun K hK => ?_)
  go_simp
  refine hK _ _ ?_
  clear hK K
  obtain ⟨W2, hrun, hbel2, hb1, hb2⟩ := HCP.out 3
  have H1 := Lib.hid hb1
  have H2 := Lib.hid hb2
  have H3 := Lib.hid hbel2
  clear hb1 hb2 hbel2 HCP
  refine wpList_plain rfl (fun K hK => ?_)
  go_simp
  refine hK _ _ ?_
  clear hK K hrun
  show Exit.then _ _ Exit.normal _ _
  go_upto_region 6 with (fail)
  refine wp_region_lit ?_
  refine wpList_load_mid rfl 75 _ rfl (w.heap.size + 1) 0 rfl (blkC (kblk k n)) _ H2.out.range Tryd.underlying75 rfl (by simp [infoBlock, blkC_len]) ?_
  refine wpList_store_mid rfl 75 _ _ rfl w.heap.size 0 (blkC (kblk k n)).toArray rfl rfl (by simpa [blkC_len] using H1.out.there 64 (Nat.le_refl _)) (by simp [infoBlock, blkC_len]) (blkC_one _) ?_
  rw [List.toList_toArray]
  have HR5 := Lib.hid (World.rangeAt_setCells_same W2 w.heap.size 0 (blkC (kblk k n)) (by rw [blkC_len]; exact H1.out.there 64 (Nat.le_refl _)))
  have HB5 := Lib.hid (H3.out.grown (gr_setCells (hb := w.heap.size) (blkC (kblk k n)) 0 W2) H3.out.size (by rintro q ⟨⟩; omega))
  generalize W2.setCells w.heap.size 0 (blkC (kblk k n)) = W7 at HR5 HB5 ⊢
  show Exit.then _ _ Exit.normal _ _
  go_wp2
  refine bodyPost_ret (v := blkV (kblk k n)) ?_ rfl ⟨rfl, HB5.out⟩
  exact results_cell_mid (p := 2) (ty := 75) rfl _ W7 w.heap.size _ _ rfl HR5.out Tryd.underlying75 rfl (by simp [infoBlock, blkC_len])

set_option maxHeartbeats 1000000 in
set_option maxRecDepth 100000 in
theorem blockOf_long (B : Nat) (w : World) (p : Option Addr) (n c : Nat) (k : Nat → BitVec 8) (hk : Kc B w) (hB : B ≤ w.heap.size) (hn : 64 < n) (hn2 : n ≤ 2147483648) (hc : n ≤ c) (hm : c ≤ maxLen) (hr : Reads w.heap.size w p n (fun j => .int .u8 (ub (k j)))) :
    Calls Tryd.prog 45 #[.slice p n c] w fun e w' => e = .returned (blkV (kblk k n)) ∧ Below w.heap.size w w' := by
  have HR := Lib.hid hr
  have HK := Lib.hid hk
  have hcond : ((n : Int) > 64) := by omega
  clear hr hk
  go_enter Tryd.func45, Tryd.ntmps45
  go_upto_region 2 with (fail)
  refine forget_code (fun W => Below w.heap.size w W ∧ BT W w.heap.size 64 (fun _ => 0#8) ∧ BT W (w.heap.size + 1) 64 (fun _ => 0#8) ∧ w.heap.size + 1 < W.heap.size)
    ⟨((Below.refl _ _).alloc (Nat.le_refl _) _).alloc (by simp) _, BT.of_cells (laid_old (laid_at rfl)) (fun i hi => zero_at 64 i hi), BT.of_cells (laid_at (by simp)) (fun i hi => zero_at 64 i hi), by simp⟩ ?_
  rintro W ⟨hbel, hb1, hb2, hsz⟩
  have H1 := Lib.hid hb1
  have H2 := Lib.hid hb2
  have H3 := Lib.hid hbel
  clear hb1 hb2 hbel
  go_upto_region 3 with (fail)
  refine wp_region_lit ?_
  refine wpList_plain rfl (fun K hK => ?_)
  go_simp
  refine hK _ _ ?_
  clear hK K
  refine wpList_plain rfl (fun K hK => ?_)
  go_simp
  refine hK _ _ ?_
  clear hK K
  refine wpList_plain rfl (fun K hK => ?_)
  go_simp
  refine (of1 B _ W.heap.size n c p 23 k (HK.out.below ((H3.out.mono hB).alloc (by omega) _)) (by simp; omega) (laid_at rfl) hc hm ((HR.out.below (H3.out.alloc (by omega) _)).mono (by simp; omega)) (by omega)).mono ?_
  rintro e W1 ⟨rfl, hb1⟩
  dsimp only
  refine hK _ _ ?_
  clear hK K
  have hb2 : Below W.heap.size W W1 := ((Below.refl _ _).alloc (Nat.le_refl _) _).trans (hb1.mono (by simp))
  obtain ⟨s, hs⟩ : ∃ s, s = sha k n := ⟨_, rfl⟩
  rw [← hs]
  have HS := Lib.hid hs
  have hq1 := hb2.size
  have G1 := Lib.hid (H1.out.below' hb2)
  have G2 := Lib.hid (H2.out.below' hb2)
  have G3 := Lib.hid (H3.out.trans (hb2.mono (by omega)))
  clear hb1 hb2 H1 H2 H3 hs
  refine wpList_plain rfl (fun K hK => ?_)
  go_simp
  refine hK _ _ ?_
  clear hK K
  have ht : (W1.alloc (.cells (List.replicate 32 (Value.int .u8 0)).toArray 33)).there W1.heap.size 0 32 := there_block (laid_at rfl) (by simp)
  refine wpList_store_mid rfl 33 _ _ rfl W1.heap.size 0 (tagC s).toArray rfl rfl (by simpa [tagC_len] using ht) (by simp [infoTag, tagC_len]) (tagC_one _) ?_
  rw [List.toList_toArray]
  have hr5 := World.rangeAt_setCells_same (W1.alloc (.cells (List.replicate 32 (Value.int .u8 0)).toArray 33)) W1.heap.size 0 (tagC s) (by rw [tagC_len]; exact ht)
  have hg5 : W1.grownBy ((W1.alloc (.cells (List.replicate 32 (Value.int .u8 0)).toArray 33)).setCells W1.heap.size 0 (tagC s)) (some W1.heap.size) := (World.grownBy_alloc W1 _ _).trans (gr_setCells _ _ _)
  show Exit.then _ _ Exit.normal _ ((W1.alloc (.cells (List.replicate 32 (Value.int .u8 0)).toArray 33)).setCells W1.heap.size 0 (tagC s))
  have hz5 : W1.heap.size < ((W1.alloc (.cells (List.replicate 32 (Value.int .u8 0)).toArray 33)).setCells W1.heap.size 0 (tagC s)).heap.size := by rw [size_setCells]; simp
  generalize (W1.alloc (.cells (List.replicate 32 (Value.int .u8 0)).toArray 33)).setCells W1.heap.size 0 (tagC s) = W2 at hr5 hg5 hz5 ⊢
  have b1 := G1.out.gr hg5 (by omega)
  have b2 := G2.out.gr hg5 (by omega)
  have b3 := G3.out.grown hg5 G3.out.size (by rintro q ⟨⟩; omega)
  have hcp : ∀ ty, (Builtin.copy_ #[23, 23] ty #[.slice (some ⟨w.heap.size + 1, 0, none⟩) 64 64, .slice (some ⟨W1.heap.size, 0, none⟩) 32 32]).run Tryd.prog W2.drew = .ok (goInt 32) (W2.drew.setCells (w.heap.size + 1) 0 (tagC s)) := fun ty => by
    have := run_copy_cells (P := Tryd.prog) W2.drew 23 23 ty 5 (w.heap.size + 1) 0 64 64 ⟨W1.heap.size, 0, none⟩ 32 32 (tagC s) Tryd.underlying23 (by kernel_rfl) (by rw [tagC_len]; rfl) (fun j v hv => by
      rw [Addr.add_mid]; exact hr5 j v hv) (fun j hj => (b2.drew.there 32 (by omega) j (by rwa [tagC_len] at hj)).1) (fun j hj => (b2.drew.there 32 (by omega) j (by rwa [tagC_len] at hj)).2) (fun v hv => by
      obtain ⟨i, _, rfl⟩ := List.mem_map.1 hv
      rfl)
    rw [tagC_len] at this
    exact this
  have c1 := b1.drew.gr (gr_setCells (hb := w.heap.size + 1) (tagC s) 0 _) (by omega)
  have c2 : BT (W2.drew.setCells (w.heap.size + 1) 0 (tagC s)) (w.heap.size + 1) 64 (kblk k n) := b2.drew.setFirst 32 (by omega) _ (by
    unfold tagC; apply List.map_congr_left; intro i hi
    unfold kblk; rw [if_neg (by omega), if_pos (List.mem_range.1 hi), ← HS.out]) fun j h1 h2 => by unfold kblk; rw [if_neg (by omega), if_neg (by omega)]
  have c3 := b3.drew.grown (gr_setCells (hb := w.heap.size + 1) (tagC s) 0 W2.drew) b3.size (by rintro q ⟨⟩; omega)
  generalize W2.drew.setCells (w.heap.size + 1) 0 (tagC s) = W6 at hcp c1 c2 c3
  have F1 := Lib.hid c1
  have F2 := Lib.hid c2
  have F3 := Lib.hid c3
  clear b1 b2 b3 c1 c2 c3 hr5 hg5 ht G1 G2 G3
  go_wp2
  go_region
  clear hcp
  go_upto_region 6 with (fail)
  refine wp_region_lit ?_
  refine wpList_load_mid rfl 75 _ rfl (w.heap.size + 1) 0 rfl (blkC (kblk k n)) _ F2.out.range Tryd.underlying75 rfl (by simp [infoBlock, blkC_len]) ?_
  refine wpList_store_mid rfl 75 _ _ rfl w.heap.size 0 (blkC (kblk k n)).toArray rfl rfl (by simpa [blkC_len] using F1.out.there 64 (Nat.le_refl _)) (by simp [infoBlock, blkC_len]) (blkC_one _) ?_
  rw [List.toList_toArray]
  have HR5 := Lib.hid (World.rangeAt_setCells_same W6 w.heap.size 0 (blkC (kblk k n)) (by rw [blkC_len]; exact F1.out.there 64 (Nat.le_refl _)))
  have HB5 := Lib.hid (F3.out.grown (gr_setCells (hb := w.heap.size) (blkC (kblk k n)) 0 W6) F3.out.size (by rintro q ⟨⟩; omega))
  generalize W6.setCells w.heap.size 0 (blkC (kblk k n)) = W7 at HR5 HB5 ⊢
  show Exit.then _ _ Exit.normal _ _
  go_wp2
  refine bodyPost_ret (v := blkV (kblk k n)) ?_ rfl ⟨rfl, HB5.out⟩
  exact results_cell_mid (p := 2) (ty := 75) rfl _ W7 w.heap.size _ _ rfl HR5.out Tryd.underlying75 rfl (by simp [infoBlock, blkC_len])
theorem blockOf_any (B : Nat) (w : World) (p : Option Addr) (n c : Nat) (k : Nat → BitVec 8) (hk : Kc B w) (hB : B ≤ w.heap.size) (hn : n ≤ 2147483648) (hc : n ≤ c) (hm : c ≤ maxLen) (hr : Reads w.heap.size w p n (fun j => .int .u8 (ub (k j)))) :
    Calls Tryd.prog 45 #[.slice p n c] w fun e w' => e = .returned (blkV (kblk k n)) ∧ Below w.heap.size w w' := by
  by_cases h : n ≤ 64
  · exact blockOf_short w p n c k h hc hr
  · exact blockOf_long B w p n c k hk hB (by omega) hn hc hm hr
theorem infoSealer : (Tryd.prog.info? 78).map (·.size) = some 64 := by kernel_rfl
end Go.Proofs.YtoocfkaclhgjeaaDoor
