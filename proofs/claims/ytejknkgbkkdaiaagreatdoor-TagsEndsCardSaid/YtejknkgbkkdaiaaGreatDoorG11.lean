/-
  Merged: Regs, Refuse, Mac.
-/
import Derived.Test.YtejknkgbkkdaiaaGreatDoorG6
import Derived.Test.YtejknkgbkkdaiaaGreatDoorG9
import Derived.Test.YtejknkgbkkdaiaaGreatDoorG10

namespace Go.Proofs.YtejknkgbkkdaiaaGreatDoor
open Go.RowKit
set_option linter.unusedSimpArgs false
set_option linter.unusedVariables false
section
variable {P : Program} {ops : Array Oper} {Q : Exit → Act → World → Prop} {md : Region.Mode}
/-- the beginning of a region that draws: nothing is listed -/
theorem wp_region_start {S : World → Prop} {id n : Nat} {l : Array Bool} {a : Act} {w : World} (hm : P.follows .mixedOrders = true) (hsz : ops.size = n) (hl : Array.replicate n false = l) (hS : S w.drew)
    (h : S w.drew → wpAnyH P .any ops Q S n l a w.drew) : (Code.region id ops true).wp P Q a w := by
  subst hsz hl
  exact wp_region_held_drew hm hS h
/-- an operation is taken first; its slot, and what is listed behind it, are named -/
theorem take_to {S : World → Prop} {i : Nat} {oi : Oper} {d : Option Tmp} {v : Value} {fuel : Nat} {listed l' : Array Bool} {a : Act} {w : World} (hi : ops[i]? = some oi) (hd : oi.dst = d)
    (hs : Region.noSelect ops = true) (hf : Region.free md ops listed i = true) (hr : (Region.ready md ops listed).contains i = true) (hl : listed.setIfInBounds i true = l')
    (hQ : ∀ c a w, Q (.panic c) (a.put d v) w → Q (.panic c) a w) (hy : YieldsIf P ops S oi v a) (hS : S w)
    (h : wpAnyH P md ops Q S fuel l' (a.put d v) w) : wpAnyH P md ops Q S (fuel + 1) listed a w := by
  subst hd hl
  exact wpAnyH_take hi hs hf hr hQ hy hS h
/-- one operation alone may come up -/
theorem one_to {S : World → Prop} {i : Nat} {o : Oper} {fuel : Nat} {listed l' : Array Bool} {a : Act} {w : World} (ho : ops[i]? = some o) (hr : Region.ready md ops listed = [i]) (hl : listed.setIfInBounds i true = l')
    (h : ∀ K' : Act → World → Prop, Shut (∀ a w, S w → (S w → wpAnyH P md ops Q S fuel l' a w) → K' a w) → if Region.wanted o (yielded ops a.tmps) = true then Oper.wp P o a w K' Q else K' (a.put o.dst undef) w) : wpAnyH P md ops Q S (fuel + 1) listed a w := by
  subst hl
  exact wpAnyH_ready hr (by simp) (AllReadyH.cons ho h AllReadyH.nil)
/-- two may come up -/
theorem two_to {S : World → Prop} {i j : Nat} {o o2 : Oper} {fuel : Nat} {listed l1 l2 : Array Bool} {a : Act} {w : World} (ho : ops[i]? = some o) (ho2 : ops[j]? = some o2) (hr : Region.ready md ops listed = [i, j]) (hl : listed.setIfInBounds i true = l1) (hl2 : listed.setIfInBounds j true = l2)
    (h : ∀ K' : Act → World → Prop, Shut (∀ a w, S w → (S w → wpAnyH P md ops Q S fuel l1 a w) → K' a w) → if Region.wanted o (yielded ops a.tmps) = true then Oper.wp P o a w K' Q else K' (a.put o.dst undef) w)
    (h2 : ∀ K' : Act → World → Prop, Shut (∀ a w, S w → (S w → wpAnyH P md ops Q S fuel l2 a w) → K' a w) → if Region.wanted o2 (yielded ops a.tmps) = true then Oper.wp P o2 a w K' Q else K' (a.put o2.dst undef) w) : wpAnyH P md ops Q S (fuel + 1) listed a w := by
  subst hl hl2
  exact wpAnyH_ready hr (by simp) (AllReadyH.cons ho h (AllReadyH.cons ho2 h2 AllReadyH.nil))
end
end Go.Proofs.YtejknkgbkkdaiaaGreatDoor

namespace Go.Proofs.YtejknkgbkkdaiaaGreatDoor
open Go.RowKit
set_option linter.unusedSimpArgs false
set_option linter.unusedVariables false

theorem tmod_lo (a n : Int) (hn : 0 < n) : -n < a.tmod n ∧ a.tmod n < n ∧ (0 ≤ a.tmod n ∨ a.tmod n < 0) := by
  have h1 := Int.tmod_lt_of_pos a hn
  have h2 : -n < a.tmod n := by
    have := Int.lt_tmod_of_pos a hn
    omega
  omega
set_option maxHeartbeats 400000 in
theorem pick_any (a n : Int) (w : World) (hn : 0 < n) (hn2 : n ≤ 1000000000) :
    Calls Tryz.prog 26 #[.int .i64 a, .int .i64 n] w fun e w' => (∃ q : Nat, (q : Int) < n ∧ e = .returned (.int .i64 (q : Int))) ∧ w = w' := by
  obtain ⟨h1, h2, _⟩ := tmod_lo a n hn
  by_cases h0 : a.tmod n < 0
  · have s1 : IntKind.i64.wrap (a.tmod n + n) = a.tmod n + n := IntWalk.i64_in _ (by omega)
    go_enter Tryz.func26, Tryz.ntmps26
    go_wp2
    go_ret
    exact ⟨⟨(a.tmod n + n).toNat, by omega, by show Ending.returned (Value.int .i64 (a.tmod n + n)) = _; rw [show (((a.tmod n + n).toNat : Nat) : Int) = a.tmod n + n by omega]⟩, rfl⟩
  · go_enter Tryz.func26, Tryz.ntmps26
    go_wp2
    go_ret
    exact ⟨⟨(a.tmod n).toNat, by omega, by show Ending.returned (Value.int .i64 (a.tmod n)) = _; rw [show (((a.tmod n).toNat : Nat) : Int) = a.tmod n by omega]⟩, rfl⟩
theorem laid_go {W W' : World} {H : Nat} {o : Obj} (h : W.heap[H]? = some o) (b : Below W.heap.size W W') : W'.heap[H]? = some o :=
  (b.block H (Array.getElem?_eq_some_iff.1 h).1).trans h
/-- what stays while a law asks a hasher of the first n0 of g -/
structure RV (B : Nat) (w : World) (hb : Nat) (g : Nat → BitVec 8) (n0 : Nat) (W : World) : Prop where
  hh : HH W hb g n0 (some ⟨hb, 0, none⟩)
  kc : Kc B W
  bel : Below w.heap.size w W
  sz : w.heap.size ≤ W.heap.size
  lo : B ≤ w.heap.size
  hi : w.heap.size ≤ hb
section
variable {B hb n0 : Nat} {w W W' : World} {g : Nat → BitVec 8}
theorem RV.drew (h : RV B w hb g n0 W) : RV B w hb g n0 W.drew := ⟨h.hh.drew, h.kc.below (Below.refl _ _).drew, h.bel.drew, h.sz, h.lo, h.hi⟩
theorem RV.go (h : RV B w hb g n0 W) (b : Below W.heap.size W W') : RV B w hb g n0 W' :=
  ⟨h.hh.below' b, h.kc.below (b.mono (Nat.le_trans h.lo h.sz)), h.bel.trans (b.mono h.sz), Nat.le_trans h.sz b.size, h.lo, h.hi⟩
theorem RV.alloc (h : RV B w hb g n0 W) (o : Obj) : RV B w hb g n0 (W.alloc o) := h.go ((Below.refl _ _).alloc (Nat.le_refl _) o)
theorem RV.wrote {m : Nat} (h : RV B w hb g n0 W) (b : W.grownBy W' (some hb)) (hh : HH W' hb g m (some ⟨hb, 0, none⟩)) : RV B w hb g m W' :=
  ⟨hh, h.kc.below (gr_below b (Nat.le_trans h.lo h.hi) (Nat.le_trans h.lo h.sz)), h.bel.grown b h.sz (by rintro k ⟨⟩; exact h.hi), Nat.le_trans h.sz b.size, h.lo, h.hi⟩
theorem RV.reads {p : Option Addr} {n : Nat} {f : Nat → Value} (h : RV B w hb g n0 W) (r : Reads w.heap.size w p n f) : Reads W.heap.size W p n f := (r.below h.bel).mono h.sz
theorem RV.rx {p : Option Addr} {n : Nat} {f : Nat → Value} (h : RV B w hb g n0 W) (r : Reads w.heap.size w p n f) : RX hb W p n f := (r.below h.bel).rx h.hi h.hh.lt
theorem RV.asks (h : RV B w hb g n0 W) (hn : n0 ≤ 2147483648) :
    Calls Tryz.prog 55 #[.pointer (some ⟨hb, 0, none⟩)] W fun e w' => e = .returned (tagV (sha g n0)) ∧ Below W.heap.size W w' := tagOf_any B W hb g n0 h.kc (Nat.le_trans h.lo h.hi) h.hh hn
end
theorem RV.of1 {B hb n0 H n c : Nat} {w W : World} {g : Nat → BitVec 8} {p : Option Addr} {t : TypeId} (h : RV B w hb g n0 W) (hW : W.heap[H]? = some (.cells #[.slice p n c] t (0, 0))) (hc : n ≤ c) (hm : c ≤ maxLen) (hr : Reads w.heap.size w p n (fun j => .int .u8 (ub (g j)))) (hn : n ≤ 2147483648) :
    Calls Tryz.prog 38 #[.slice (some ⟨H, 0, none⟩) 1 1] W fun e w' => e = .returned (tagV (sha g n)) ∧ Below W.heap.size W w' := Go.Proofs.YtejknkgbkkdaiaaGreatDoor.of1 B W H n c p t g h.kc (Nat.le_trans h.lo h.sz) hW hc hm (h.reads hr) hn
theorem RV.of2 {B hb n0 H n c n2 c2 : Nat} {w W : World} {g : Nat → BitVec 8} {p p2 : Option Addr} {t : TypeId} (h : RV B w hb g n0 W) (hW : W.heap[H]? = some (.cells #[.slice p n c, .slice p2 n2 c2] t (0, 0))) (hc : n ≤ c) (hm : c ≤ maxLen) (hc2 : n2 ≤ c2) (hm2 : c2 ≤ maxLen)
    (hr : Reads w.heap.size w p n (fun j => .int .u8 (ub (g j)))) (hr2 : Reads w.heap.size w p2 n2 (fun j => .int .u8 (ub (g (n + j))))) (hn : n + n2 ≤ 2147483648) :
    Calls Tryz.prog 38 #[.slice (some ⟨H, 0, none⟩) 2 2] W fun e w' => e = .returned (tagV (sha g (n + n2))) ∧ Below W.heap.size W w' := Go.Proofs.YtejknkgbkkdaiaaGreatDoor.of2 B W H n c n2 c2 p p2 t g h.kc (Nat.le_trans h.lo h.sz) hW hc hm hc2 hm2 (h.reads hr) (h.reads hr2) hn
/-- a row of noughts -/
theorem made_row (n : Nat) : ∃ C : Array Value, (∀ i, i < n → C[i]? = some (.int .u8 (ub 0#8))) ∧ ∀ W : World, (Instr.makeSlice 22 (.int .i64 (n : Int)) (.int .i64 (n : Int))).run Tryz.prog W = (if n ≤ 281474976710656 then .ok (.slice (some ⟨W.heap.size, 0, none⟩) n n) (W.alloc (.cells C 5)) else (Instr.makeSlice 22 (.int .i64 (n : Int)) (.int .i64 (n : Int))).run Tryz.prog W) := by
  obtain ⟨i0, hi, hz0, hz1, hz2⟩ := info_parts Tryz.infoB
  refine ⟨madeCells (Value.int .u8 0).cells (n * i0.size), fun i hi2 => ?_, fun W => ?_⟩
  · rw [hz1, Nat.mul_one]
    have h := toList_madeCells_one (.int .u8 0) n
    rw [← Array.getElem?_toList]
    show (madeCells #[Value.int .u8 0] n).toList[i]? = _
    rw [h]; simp [hi2]; rfl
  · by_cases h : n ≤ 281474976710656
    · rw [if_pos h]
      have := run_make (P := Tryz.prog) W 22 5 i0 (.int .u8 0) Tryz.underlying22 hi hz0 .i64 .i64 (n : Int) (n : Int) (by omega) (by omega) (by rw [hz2]; omega) (by omega)
      rw [show ((n : Int)).toNat = n by omega] at this
      exact this
    · rw [if_neg h]
/-- two rows, one behind the other -/
def cat (f : Nat → BitVec 8) (n : Nat) (f2 : Nat → BitVec 8) : Nat → BitVec 8 := fun i => if i < n then f i else f2 (i - n)
theorem cat_lo {f f2 : Nat → BitVec 8} {n i : Nat} (h : i < n) : cat f n f2 i = f i := by unfold cat; rw [if_pos h]
theorem cat_hi {f f2 : Nat → BitVec 8} {n i : Nat} : cat f n f2 (n + i) = f2 i := by unfold cat; rw [if_neg (by omega), show n + i - n = i by omega]

end Go.Proofs.YtejknkgbkkdaiaaGreatDoor

namespace Go.Proofs.YtejknkgbkkdaiaaGreatDoor
open Go.RowKit
set_option linter.unusedVariables false
set_option linter.unusedSimpArgs false

/-- a key's block -/
def kblk (k : Nat → BitVec 8) (n : Nat) : Nat → BitVec 8 := fun i => if n ≤ 64 then (if i < n then k i else 0#8) else (if i < 32 then sha k n i else 0#8)
/-- the tag of the first n of g under a key whose block is b -/
def hmb (b : Nat → BitVec 8) (g : Nat → BitVec 8) (n : Nat) : Nat → BitVec 8 := sha (cat (xorB b 0x5c#8) 64 (sha (cat (xorB b 0x36#8) 64 g) (64 + n))) (64 + 32)
def hmac (k : Nat → BitVec 8) (kn : Nat) (g : Nat → BitVec 8) (n : Nat) : Nat → BitVec 8 := hmb (kblk k kn) g n
theorem cat_congr {f f' g g' : Nat → BitVec 8} {n m : Nat} (h : ∀ i, i < n → f i = f' i) (h2 : ∀ i, i < m → g i = g' i) (i : Nat) (hi : i < n + m) : cat f n g i = cat f' n g' i := by
  unfold cat
  by_cases e : i < n
  · rw [if_pos e, if_pos e, h i e]
  · rw [if_neg e, if_neg e, h2 _ (by omega)]
theorem hmb_congr {b b' g g' : Nat → BitVec 8} {n : Nat} (h : ∀ i, i < 64 → b i = b' i) (h2 : ∀ i, i < n → g i = g' i) : hmb b g n = hmb b' g' n := by
  unfold hmb
  refine sha_congr _ fun i hi => cat_congr (fun j hj => by unfold xorB; rw [h j hj]) (fun j hj => ?_) i hi
  exact congrFun (sha_congr (64 + n) fun q hq => cat_congr (fun j hj => by unfold xorB; rw [h j hj]) h2 q hq) j

theorem zero_at (n i : Nat) (hi : i < n) : (List.replicate n (Value.int .u8 0)).toArray[i]? = some (.int .u8 (ub 0#8)) := by
  rw [List.getElem?_toArray, List.getElem?_replicate, if_pos hi]; rfl
set_option maxHeartbeats 1000000 in
set_option maxRecDepth 100000 in
theorem blockOf_short (w : World) (p : Option Addr) (n c : Nat) (k : Nat → BitVec 8) (hn : n ≤ 64) (hc : n ≤ c) (hr : Reads w.heap.size w p n (fun j => .int .u8 (ub (k j)))) :
    Calls Tryz.prog 57 #[.slice p n c] w fun e w' => e = .returned (blkV (kblk k n)) ∧ Below w.heap.size w w' := by
  have HR := Lib.hid hr
  clear hr
  go_enter Tryz.func57, Tryz.ntmps57
  go_upto_region 2 with (fail)
  refine forget_code (fun W => Below w.heap.size w W ∧ BT W w.heap.size 64 (fun _ => 0#8) ∧ BT W (w.heap.size + 1) 64 (fun _ => 0#8))
    ⟨((Below.refl _ _).alloc (Nat.le_refl _) _).alloc (by simp) _, BT.of_cells (laid_old (laid_at rfl)) (fun i hi => zero_at 64 i hi), BT.of_cells (laid_at (by simp)) (fun i hi => zero_at 64 i hi)⟩ ?_
  rintro W ⟨hbel, hb1, hb2⟩
  have hcp : ∀ ty, ∃ W2, (Builtin.copy_ #[22, 22] ty #[.slice (some ⟨w.heap.size + 1, 0, none⟩) 64 64, .slice p n c]).run Tryz.prog W = .ok (goInt n) W2 ∧ Below w.heap.size w W2 ∧ BT W2 w.heap.size 64 (fun _ => 0#8) ∧ BT W2 (w.heap.size + 1) 64 (kblk k n) := fun ty => by
    by_cases h0 : n = 0
    · subst h0
      refine ⟨W, run_copy_none W 22 22 ty 5 _ _ 64 64 0 c Tryz.underlying22 (by kernel_rfl) (by decide), hbel, hb1, hb2.congr fun i hi => by simp [kblk]⟩
    · rcases HR.out.below hbel with h | ⟨b, off, rfl, hbb, hcc⟩
      · omega
      refine ⟨W.setCells (w.heap.size + 1) 0 ((List.range n).map fun i => .int .u8 (ub (k i))), ?_, hbel.grown (gr_setCells (hb := w.heap.size + 1) _ 0 W) hbel.size (by rintro q ⟨⟩; omega), hb1.gr (gr_setCells _ _ _) (by omega), ?_⟩
      · have := run_copy_cells (P := Tryz.prog) W 22 22 ty 5 (w.heap.size + 1) 0 64 64 ⟨b, off, none⟩ n c ((List.range n).map fun i => .int .u8 (ub (k i))) Tryz.underlying22 (by kernel_rfl) (by simp; show n = min n 64; omega) (fun j v hv => by
          have hj : j < n := by have := (List.getElem?_eq_some_iff.1 hv).1; simpa using this
          rw [Addr.add_mid, hcc j hj, ← hv]; simp [hj]) (fun j hj => (hb2.there n hn j (by simpa using hj)).1) (fun j hj => (hb2.there n hn j (by simpa using hj)).2) (fun v hv => by
          obtain ⟨i, _, rfl⟩ := List.mem_map.1 hv
          rfl)
        simpa using this
      · refine hb2.setFirst n hn _ (by apply List.map_congr_left; intro i hi; unfold kblk; rw [if_pos hn, if_pos (List.mem_range.1 hi)]) fun j h1 h2 => by unfold kblk; rw [if_pos hn, if_neg (by omega)]
  have HCP := Lib.hid hcp
  clear hcp hbel hb1 hb2 HR
  go_upto_region 5 with (fail)
  refine wp_region_lit ?_
  refine wpList_plain rfl (fun K hK => ?_)
  go_simp
  refine hK _ _ ?_
  clear hK K
  refine wpList_plain rfl (fun K hK => ?_)
  go_simp
  refine hK _ _ ?_
  clear hK K
  obtain ⟨W2, hrun, hbel2, hb1, hb2⟩ := HCP.out 3
  have H1 := Lib.hid hb1
  have H2 := Lib.hid hb2
  have H3 := Lib.hid hbel2
  clear hb1 hb2 hbel2 HCP
  refine wpList_plain rfl (fun K hK => ?_)
  go_simp
  refine hK _ _ ?_
  clear hK K hrun
  show Exit.then _ _ Exit.normal _ _
  go_upto_region 6 with (fail)
  refine wp_region_lit ?_
  refine wpList_load_mid rfl 88 _ rfl (w.heap.size + 1) 0 rfl (blkC (kblk k n)) _ H2.out.range Tryz.underlying88 rfl (by simp [infoBlock, blkC_len]) ?_
  refine wpList_store_mid rfl 88 _ _ rfl w.heap.size 0 (blkC (kblk k n)).toArray rfl rfl (by simpa [blkC_len] using H1.out.there 64 (Nat.le_refl _)) (by simp [infoBlock, blkC_len]) (blkC_one _) ?_
  rw [List.toList_toArray]
  have HR5 := Lib.hid (World.rangeAt_setCells_same W2 w.heap.size 0 (blkC (kblk k n)) (by rw [blkC_len]; exact H1.out.there 64 (Nat.le_refl _)))
  have HB5 := Lib.hid (H3.out.grown (gr_setCells (hb := w.heap.size) (blkC (kblk k n)) 0 W2) H3.out.size (by rintro q ⟨⟩; omega))
  generalize W2.setCells w.heap.size 0 (blkC (kblk k n)) = W7 at HR5 HB5 ⊢
  show Exit.then _ _ Exit.normal _ _
  go_wp2
  refine bodyPost_ret (v := blkV (kblk k n)) ?_ rfl ⟨rfl, HB5.out⟩
  exact results_cell_mid (p := 2) (ty := 88) rfl _ W7 w.heap.size _ _ rfl HR5.out Tryz.underlying88 rfl (by simp [infoBlock, blkC_len])

set_option maxHeartbeats 1000000 in
set_option maxRecDepth 100000 in
theorem blockOf_long (B : Nat) (w : World) (p : Option Addr) (n c : Nat) (k : Nat → BitVec 8) (hk : Kc B w) (hB : B ≤ w.heap.size) (hn : 64 < n) (hn2 : n ≤ 2147483648) (hc : n ≤ c) (hm : c ≤ maxLen) (hr : Reads w.heap.size w p n (fun j => .int .u8 (ub (k j)))) :
    Calls Tryz.prog 57 #[.slice p n c] w fun e w' => e = .returned (blkV (kblk k n)) ∧ Below w.heap.size w w' := by
  have HR := Lib.hid hr
  have HK := Lib.hid hk
  have hcond : ((n : Int) > 64) := by omega
  clear hr hk
  go_enter Tryz.func57, Tryz.ntmps57
  go_upto_region 2 with (fail)
  refine forget_code (fun W => Below w.heap.size w W ∧ BT W w.heap.size 64 (fun _ => 0#8) ∧ BT W (w.heap.size + 1) 64 (fun _ => 0#8) ∧ w.heap.size + 1 < W.heap.size)
    ⟨((Below.refl _ _).alloc (Nat.le_refl _) _).alloc (by simp) _, BT.of_cells (laid_old (laid_at rfl)) (fun i hi => zero_at 64 i hi), BT.of_cells (laid_at (by simp)) (fun i hi => zero_at 64 i hi), by simp⟩ ?_
  rintro W ⟨hbel, hb1, hb2, hsz⟩
  have H1 := Lib.hid hb1
  have H2 := Lib.hid hb2
  have H3 := Lib.hid hbel
  clear hb1 hb2 hbel
  go_upto_region 3 with (fail)
  refine wp_region_lit ?_
  refine wpList_plain rfl (fun K hK => ?_)
  go_simp
  refine hK _ _ ?_
  clear hK K
  refine wpList_plain rfl (fun K hK => ?_)
  go_simp
  refine hK _ _ ?_
  clear hK K
  refine wpList_plain rfl (fun K hK => ?_)
  go_simp
  refine (of1 B _ W.heap.size n c p 22 k (HK.out.below ((H3.out.mono hB).alloc (by omega) _)) (by simp; omega) (laid_at rfl) hc hm ((HR.out.below (H3.out.alloc (by omega) _)).mono (by simp; omega)) (by omega)).mono ?_
  rintro e W1 ⟨rfl, hb1⟩
  dsimp only
  refine hK _ _ ?_
  clear hK K
  have hb2 : Below W.heap.size W W1 := ((Below.refl _ _).alloc (Nat.le_refl _) _).trans (hb1.mono (by simp))
  obtain ⟨s, hs⟩ : ∃ s, s = sha k n := ⟨_, rfl⟩
  rw [← hs]
  have HS := Lib.hid hs
  have hq1 := hb2.size
  have G1 := Lib.hid (H1.out.below' hb2)
  have G2 := Lib.hid (H2.out.below' hb2)
  have G3 := Lib.hid (H3.out.trans (hb2.mono (by omega)))
  clear hb1 hb2 H1 H2 H3 hs
  refine wpList_plain rfl (fun K hK => ?_)
  go_simp
  refine hK _ _ ?_
  clear hK K
  have ht : (W1.alloc (.cells (List.replicate 32 (Value.int .u8 0)).toArray 25)).there W1.heap.size 0 32 := there_block (laid_at rfl) (by simp)
  refine wpList_store_mid rfl 25 _ _ rfl W1.heap.size 0 (tagC s).toArray rfl rfl (by simpa [tagC_len] using ht) (by simp [infoTag, tagC_len]) (tagC_one _) ?_
  rw [List.toList_toArray]
  have hr5 := World.rangeAt_setCells_same (W1.alloc (.cells (List.replicate 32 (Value.int .u8 0)).toArray 25)) W1.heap.size 0 (tagC s) (by rw [tagC_len]; exact ht)
  have hg5 : W1.grownBy ((W1.alloc (.cells (List.replicate 32 (Value.int .u8 0)).toArray 25)).setCells W1.heap.size 0 (tagC s)) (some W1.heap.size) := (World.grownBy_alloc W1 _ _).trans (gr_setCells _ _ _)
  show Exit.then _ _ Exit.normal _ ((W1.alloc (.cells (List.replicate 32 (Value.int .u8 0)).toArray 25)).setCells W1.heap.size 0 (tagC s))
  have hz5 : W1.heap.size < ((W1.alloc (.cells (List.replicate 32 (Value.int .u8 0)).toArray 25)).setCells W1.heap.size 0 (tagC s)).heap.size := by rw [size_setCells]; simp
  generalize (W1.alloc (.cells (List.replicate 32 (Value.int .u8 0)).toArray 25)).setCells W1.heap.size 0 (tagC s) = W2 at hr5 hg5 hz5 ⊢
  have b1 := G1.out.gr hg5 (by omega)
  have b2 := G2.out.gr hg5 (by omega)
  have b3 := G3.out.grown hg5 G3.out.size (by rintro q ⟨⟩; omega)
  have hcp : ∀ ty, (Builtin.copy_ #[22, 22] ty #[.slice (some ⟨w.heap.size + 1, 0, none⟩) 64 64, .slice (some ⟨W1.heap.size, 0, none⟩) 32 32]).run Tryz.prog W2.drew = .ok (goInt 32) (W2.drew.setCells (w.heap.size + 1) 0 (tagC s)) := fun ty => by
    have := run_copy_cells (P := Tryz.prog) W2.drew 22 22 ty 5 (w.heap.size + 1) 0 64 64 ⟨W1.heap.size, 0, none⟩ 32 32 (tagC s) Tryz.underlying22 (by kernel_rfl) (by rw [tagC_len]; rfl) (fun j v hv => by
      rw [Addr.add_mid]; exact hr5 j v hv) (fun j hj => (b2.drew.there 32 (by omega) j (by rwa [tagC_len] at hj)).1) (fun j hj => (b2.drew.there 32 (by omega) j (by rwa [tagC_len] at hj)).2) (fun v hv => by
      obtain ⟨i, _, rfl⟩ := List.mem_map.1 hv
      rfl)
    rw [tagC_len] at this
    exact this
  have c1 := b1.drew.gr (gr_setCells (hb := w.heap.size + 1) (tagC s) 0 _) (by omega)
  have c2 : BT (W2.drew.setCells (w.heap.size + 1) 0 (tagC s)) (w.heap.size + 1) 64 (kblk k n) := b2.drew.setFirst 32 (by omega) _ (by
    unfold tagC; apply List.map_congr_left; intro i hi
    unfold kblk; rw [if_neg (by omega), if_pos (List.mem_range.1 hi), ← HS.out]) fun j h1 h2 => by unfold kblk; rw [if_neg (by omega), if_neg (by omega)]
  have c3 := b3.drew.grown (gr_setCells (hb := w.heap.size + 1) (tagC s) 0 W2.drew) b3.size (by rintro q ⟨⟩; omega)
  generalize W2.drew.setCells (w.heap.size + 1) 0 (tagC s) = W6 at hcp c1 c2 c3
  have F1 := Lib.hid c1
  have F2 := Lib.hid c2
  have F3 := Lib.hid c3
  clear b1 b2 b3 c1 c2 c3 hr5 hg5 ht G1 G2 G3
  go_wp2
  go_region
  clear hcp
  go_upto_region 6 with (fail)
  refine wp_region_lit ?_
  refine wpList_load_mid rfl 88 _ rfl (w.heap.size + 1) 0 rfl (blkC (kblk k n)) _ F2.out.range Tryz.underlying88 rfl (by simp [infoBlock, blkC_len]) ?_
  refine wpList_store_mid rfl 88 _ _ rfl w.heap.size 0 (blkC (kblk k n)).toArray rfl rfl (by simpa [blkC_len] using F1.out.there 64 (Nat.le_refl _)) (by simp [infoBlock, blkC_len]) (blkC_one _) ?_
  rw [List.toList_toArray]
  have HR5 := Lib.hid (World.rangeAt_setCells_same W6 w.heap.size 0 (blkC (kblk k n)) (by rw [blkC_len]; exact F1.out.there 64 (Nat.le_refl _)))
  have HB5 := Lib.hid (F3.out.grown (gr_setCells (hb := w.heap.size) (blkC (kblk k n)) 0 W6) F3.out.size (by rintro q ⟨⟩; omega))
  generalize W6.setCells w.heap.size 0 (blkC (kblk k n)) = W7 at HR5 HB5 ⊢
  show Exit.then _ _ Exit.normal _ _
  go_wp2
  refine bodyPost_ret (v := blkV (kblk k n)) ?_ rfl ⟨rfl, HB5.out⟩
  exact results_cell_mid (p := 2) (ty := 88) rfl _ W7 w.heap.size _ _ rfl HR5.out Tryz.underlying88 rfl (by simp [infoBlock, blkC_len])
theorem blockOf_any (B : Nat) (w : World) (p : Option Addr) (n c : Nat) (k : Nat → BitVec 8) (hk : Kc B w) (hB : B ≤ w.heap.size) (hn : n ≤ 2147483648) (hc : n ≤ c) (hm : c ≤ maxLen) (hr : Reads w.heap.size w p n (fun j => .int .u8 (ub (k j)))) :
    Calls Tryz.prog 57 #[.slice p n c] w fun e w' => e = .returned (blkV (kblk k n)) ∧ Below w.heap.size w w' := by
  by_cases h : n ≤ 64
  · exact blockOf_short w p n c k h hc hr
  · exact blockOf_long B w p n c k hk hB (by omega) hn hc hm hr
theorem infoSealer : (Tryz.prog.info? 91).map (·.size) = some 64 := by kernel_rfl
end Go.Proofs.YtejknkgbkkdaiaaGreatDoor
