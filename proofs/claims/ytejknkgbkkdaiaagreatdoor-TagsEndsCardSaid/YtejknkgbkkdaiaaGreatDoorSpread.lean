/-
  Contract: the words of a block.
-/
import Derived.Test.YtejknkgbkkdaiaaGreatDoorG6
import Derived.Deep.Cut
namespace Go.Proofs.YtejknkgbkkdaiaaGreatDoor
open Go.RowKit
set_option linter.unusedSimpArgs false
set_option linter.unusedVariables false

/-- a table of 64 words -/
structure Tab (w : World) (tb : Nat) (f : Nat → BitVec 32) : Prop where
  lt : tb < w.heap.size
  word : ∀ i, i < 64 → w.cell? ⟨tb, i, none⟩ = some (.int .u32 (u (f i)))
  free : ∀ i, w.frozen? ⟨tb, i, none⟩ = false
section
variable {w w' : World} {tb : Nat} {f f' : Nat → BitVec 32}
theorem Tab.of_block (h : Tab w tb f) (hs : w.heap.size ≤ w'.heap.size) (e : w'.heap[tb]? = w.heap[tb]?) : Tab w' tb f :=
  ⟨Nat.lt_of_lt_of_le h.lt hs, fun i hi => (World.cell?_of_block (a := ⟨tb, i, none⟩) e).trans (h.word i hi), fun i => (World.frozen?_of_block (a := ⟨tb, i, none⟩) e).trans (h.free i)⟩
theorem Tab.below {B : Nat} (h : Tab w tb f) (g : Below B w w') (hB : tb < B) : Tab w' tb f := h.of_block g.size (g.block tb hB)
theorem Tab.alloc (h : Tab w tb f) (o : Obj) : Tab (w.alloc o) tb f := h.of_block (by simp) (heap_alloc_old w o h.lt)
theorem Tab.drew (h : Tab w tb f) : Tab w.drew tb f := h.of_block (Nat.le_refl _) rfl
theorem Tab.set (h : Tab w tb f) (i : Nat) (hi : i < 64) (x : BitVec 32) (hx : f' i = x) (ho : ∀ j, j < 64 → j ≠ i → f' j = f j) : Tab (w.setCell ⟨tb, i, none⟩ (.int .u32 (u x))) tb f' := by
  refine ⟨by simpa [World.setCell] using h.lt, fun j hj => ?_, fun i => fro_eq.trans (h.free i)⟩
  by_cases e : j = i
  · subst e
    rw [World.cell?_setCell_same' _ _ _ (by rw [h.word j hj]; rfl), hx]
  · rw [cell_ne (Ne.symm e), ho j hj e]; exact h.word j hj
theorem Tab.setFirst (h : Tab w tb f) (n : Nat) (hn : n ≤ 64) (vs : List Value) (hv : vs = (List.range n).map fun i => .int .u32 (u (f' i))) (ho : ∀ j, n ≤ j → j < 64 → f' j = f j) : Tab (w.setCells tb 0 vs) tb f' := by
  have hl : vs.length = n := by rw [hv]; simp
  refine ⟨by rw [size_setCells]; exact h.lt, fun i hi => ?_, fun i => (World.frozen?_setCells _ _ _ _ _).trans (h.free i)⟩
  by_cases hin : i < n
  · have := World.cell?_setCells_in tb vs 0 w (fun j hj => by rw [Nat.zero_add, h.word j (by omega)]; rfl) i (by omega)
    rw [Nat.zero_add] at this
    rw [this]
    subst hv
    simp
  · rw [setCells_other (by omega), ho i (by omega) hi]; exact h.word i hi
theorem Tab.range (h : Tab w tb f) : w.rangeAt tb 0 ((List.range 64).map fun i => .int .u32 (u (f i))) := fun j v hv => by
  have hj : j < 64 := by have := (List.getElem?_eq_some_iff.1 hv).1; simpa using this
  rw [Nat.zero_add, h.word j hj, ← hv]; simp [hj]
theorem Tab.there (h : Tab w tb f) (n : Nat) (hn : n ≤ 64) : w.there tb 0 n := fun j hj => by
  rw [Nat.zero_add]
  exact ⟨by rw [h.word j (by omega)]; rfl, h.free j⟩
theorem Tab.of_cells {t : TypeId} (h : w.heap[tb]? = some (.cells ((List.range 64).map fun i => Value.int .u32 (u (f i))).toArray t (0, 0))) : Tab w tb f := by
  refine ⟨(Array.getElem?_eq_some_iff.1 h).1, fun i hi => ?_, fun i => frozen_of_row w tb i _ t h⟩
  rw [cell_of_row w tb i _ t (0, 0) h]
  simp [hi]
end
/-- the table of which k words are told beyond the block's own -/
def tabTo (g : Nat → BitVec 32) (k : Nat) : Nat → BitVec 32 := fun i => if i < 16 + k then wl g k i else 0#32
theorem tabTo_at (g : Nat → BitVec 32) (k : Nat) : tabTo g (k + 1) (16 + k) = nextW (wl g k) (16 + k) := by
  unfold tabTo; rw [if_pos (by omega), wl_at]
theorem tabTo_ne (g : Nat → BitVec 32) (k j : Nat) (h : j ≠ 16 + k) : tabTo g (k + 1) j = tabTo g k j := by
  unfold tabTo
  by_cases h2 : j < 16 + k
  · rw [if_pos h2, if_pos (by omega), wl_lt g k j h2]
  · rw [if_neg h2, if_neg (by omega)]
theorem tabTo_lt (g : Nat → BitVec 32) (k j : Nat) (h : j < 16 + k) : tabTo g k j = wl g k j := by unfold tabTo; rw [if_pos h]

theorem small_a (x : BitVec 32) (w : World) : Calls Tryz.prog 104 #[.int .u32 (u x), .int .i64 7, .int .i64 18, .int .i64 3] w fun e w' => e = .returned (.int .u32 (u (sml x 7 18 3))) ∧ Below w.heap.size w w' :=
  small_any x 7 18 3 w 7 18 3 rfl rfl (by decide) (by decide) rfl
theorem small_b (x : BitVec 32) (w : World) : Calls Tryz.prog 104 #[.int .u32 (u x), .int .i64 17, .int .i64 19, .int .i64 10] w fun e w' => e = .returned (.int .u32 (u (sml x 17 19 10))) ∧ Below w.heap.size w w' :=
  small_any x 17 19 10 w 17 19 10 rfl rfl (by decide) (by decide) rfl
theorem Tab.below' {w w' : World} {tb : Nat} {f : Nat → BitVec 32} (h : Tab w tb f) (g : Below w.heap.size w w') : Tab w' tb f := h.below g h.lt
theorem Tab.next {W : World} {tb k : Nat} {g : Nat → BitVec 32} (h : Tab W tb (tabTo g k)) (hk : k < 48) (x : BitVec 32) (hx : x = wl g k k + sml (wl g k (k + 1)) 7 18 3 + wl g k (k + 9) + sml (wl g k (k + 14)) 17 19 10) :
    Tab (W.setCell ⟨tb, k + 16, none⟩ (.int .u32 (u x))) tb (tabTo g (k + 1)) := by
  refine h.set (k + 16) (by omega) x ?_ (fun j h1 h2 => tabTo_ne g k j (by omega))
  rw [show k + 16 = 16 + k by omega, tabTo_at, hx]
  unfold nextW
  rw [show 16 + k - 16 = k by omega, show 16 + k - 15 = k + 1 by omega, show 16 + k - 7 = k + 9 by omega, show 16 + k - 2 = k + 14 by omega]
theorem below_to {B : Nat} {w W W' : World} (h : Below B w W) (g : Below W.heap.size W W') (hB : B ≤ W.heap.size) : Below B w W' := h.trans (g.mono hB)

theorem info64 : (Tryz.prog.info? 130).map (·.size) = some 64 := by kernel_rfl
theorem words64_one (f : Nat → BitVec 32) : ((List.range 64).map fun i => Value.int .u32 (u (f i))).toArray.all (·.oneCell') = true :=
  all_oneCell_toArray fun v hv => by
    obtain ⟨i, _, rfl⟩ := List.mem_map.1 hv
    rfl
/-- what the rounds keep -/
structure TB (w W : World) (g : Nat → BitVec 32) (k : Nat) : Prop where
  tab : Tab W (w.heap.size + 1 + 1) (tabTo g k)
  res : Tab W (w.heap.size + 1) (fun _ => 0#32)
  bel : Below w.heap.size w W
  sz : w.heap.size ≤ W.heap.size
theorem TB.drew {w W : World} {g : Nat → BitVec 32} {k : Nat} (h : TB w W g k) : TB w W.drew g k := ⟨h.tab.drew, h.res.drew, h.bel.drew, h.sz⟩
theorem TB.alloc {w W : World} {g : Nat → BitVec 32} {k : Nat} (h : TB w W g k) (o : Obj) : TB w (W.alloc o) g k := ⟨h.tab.alloc o, h.res.alloc o, h.bel.alloc h.sz o, by simp; have := h.sz; omega⟩
theorem TB.go {w W W' : World} {g : Nat → BitVec 32} {k : Nat} (h : TB w W g k) (b : Below W.heap.size W W') : TB w W' g k := ⟨h.tab.below' b, h.res.below' b, below_to h.bel b h.sz, Nat.le_trans h.sz b.size⟩

theorem TB.next {w W : World} {g : Nat → BitVec 32} {k : Nat} (h : TB w W g k) (hk : k < 48) (x : BitVec 32) (hx : x = wl g k k + sml (wl g k (k + 1)) 7 18 3 + wl g k (k + 9) + sml (wl g k (k + 14)) 17 19 10) :
    TB w (W.setCell ⟨w.heap.size + 1 + 1, k + 16, none⟩ (.int .u32 (u x))) g (k + 1) :=
  ⟨h.tab.next hk x hx, h.res.of_block (by simp [World.setCell]) (Below.heap_setCell _ _ _ _ (by simp)), h.bel.setCell (by simp; omega) _, by simpa [World.setCell] using h.sz⟩

set_option maxHeartbeats 4000000 in
set_option maxRecDepth 100000 in
theorem spread_any (b : Nat → BitVec 8) (w : World) :
    Calls Tryz.prog 99 #[.agg ((List.range 64).map fun i => .int .u8 (ub (b i))).toArray] w fun e w' => e = .returned (.agg ((List.range 64).map fun i => .int .u32 (u (wl (bw b) 48 i))).toArray) ∧ Below w.heap.size w w' := by
  obtain ⟨A, hA⟩ : ∃ A : Array Value, A = ((List.range 64).map fun i => Value.int .u8 (ub (b i))).toArray := ⟨_, rfl⟩
  rw [← hA]
  have HA := Lib.hid hA
  clear hA
  go_enter Tryz.func99, Tryz.ntmps99
  go_wp2_with fail
  refine (words_yes (w.heap.size + 1) 16 64 _ b _ (by omega) (by simp) (reads_laid (t := 87) (by exact laid_old (laid_old (laid_at rfl))) (fun i hi => by rw [HA.out]; simp [show i < 64 by omega]))).mono ?_
  rintro e w1 ⟨v, rfl, hb1, hown⟩
  have ht1 : Tab w1 (w.heap.size + 1) (fun _ => 0#32) := (Tab.of_cells (t := 130) (by exact laid_old (laid_at (by simp)))).below hb1 (by simp)
  have ht2 : Tab w1 (w.heap.size + 1 + 1) (fun _ => 0#32) := (Tab.of_cells (t := 130) (by exact laid_at (by simp))).below hb1 (by simp)
  have hbel1 : Below w.heap.size w w1 := ((((Below.refl _ _).alloc (Nat.le_refl _) _).alloc (by simp) _).alloc (by simp; omega) _).trans (hb1.mono (by simp; omega))
  have hown1 := own_mono hown (show w.heap.size + 1 + 1 + 1 ≤ _ by simp)
  clear hb1 hown
  obtain ⟨p, c, rfl, hrd, _⟩ := owns_reads hown1
  clear hown1
  rcases hrd with h0 | ⟨b2, off2, rfl, hb2, hc2⟩
  · omega
  have hcp : ∀ ty, (Builtin.copy_ #[93, 93] ty #[.slice (some ⟨w.heap.size + 1 + 1, 0, none⟩) 64 64, .slice (some ⟨b2, off2, none⟩) 16 c]).run Tryz.prog w1 = .ok (goInt 16) (w1.setCells (w.heap.size + 1 + 1) 0 ((List.range 16).map fun i => .int .u32 (u (bw b i)))) := fun ty => by
    have := run_copy_cells (P := Tryz.prog) w1 93 93 ty 96 (w.heap.size + 1 + 1) 0 64 64 ⟨b2, off2, none⟩ 16 c ((List.range 16).map fun i => .int .u32 (u (bw b i))) Tryz.underlying93 (by kernel_rfl) (by simp) (fun j v hv => by
      have hj : j < 16 := by have := (List.getElem?_eq_some_iff.1 hv).1; simpa using this
      rw [Addr.add_mid, hc2 j hj, ← hv]; simp [hj]) (fun j hj => (ht2.there 64 (by omega) j (by simp at hj; omega)).1) (fun j hj => (ht2.there 64 (by omega) j (by simp at hj; omega)).2) (fun v hv => by
      obtain ⟨i, _, rfl⟩ := List.mem_map.1 hv
      rfl)
    simpa using this
  have ht3 : Tab (w1.setCells (w.heap.size + 1 + 1) 0 ((List.range 16).map fun i => .int .u32 (u (bw b i)))) (w.heap.size + 1 + 1) (tabTo (bw b) 0) :=
    ht2.setFirst 16 (by omega) _ (by apply List.map_congr_left; intro i hi; rw [tabTo_lt _ _ _ (by simpa using hi)]; rfl) (fun j h1 h2 => by unfold tabTo; rw [if_neg (by omega)])
  have hgr := gr_setCells (hb := w.heap.size + 1 + 1) ((List.range 16).map fun i => Value.int .u32 (u (bw b i))) 0 w1
  have ht4 := ht1.of_block hgr.size (hgr.block _ ht1.lt (by simp))
  have hbel2 := hbel1.grown hgr hbel1.size (by rintro k ⟨⟩; omega)
  clear ht1 ht2 hc2 hb2 hgr hbel1
  generalize w1.setCells (w.heap.size + 1 + 1) 0 ((List.range 16).map fun i => Value.int .u32 (u (bw b i))) = w2 at hcp ht3 ht4 hbel2
  have HT := Lib.hid ht3
  have HT' := Lib.hid ht4
  clear ht3 ht4
  go_wp2
  go_loopw [6] (fun i wr => ∃ k : Nat, k ≤ 48 ∧ i = .int .i64 ((k : Int) + 16) ∧ Tab wr (w.heap.size + 1 + 1) (tabTo (bw b) k) ∧ Tab wr (w.heap.size + 1) (fun _ => 0#32) ∧ Below w.heap.size w wr) (fun i _ => (64 - intOf i).toNat)
  case atStart => exact ⟨0, Nat.zero_le _, rfl, HT.out, HT'.out, hbel2⟩
  case round =>
    clear hbel2 hcp HT HT'
    obtain ⟨k, hk, rfl, ht, ht', hbel⟩ := hrel
    by_cases hlt : k < 48
    · have s1 : IntKind.i64.wrap ((k : Int) + 16 - 16) = (k : Int) := by rw [IntWalk.i64_in _ (by omega)]; omega
      have s0 : IntKind.i64.wrap (k : Int) = (k : Int) := IntWalk.i64_in _ (by omega)
      have s2 : IntKind.i64.wrap ((k : Int) + 16 - 15) = (k : Int) + 1 := by rw [IntWalk.i64_in _ (by omega)]; omega
      have s3 : IntKind.i64.wrap ((k : Int) + 16 - 7) = (k : Int) + 9 := by rw [IntWalk.i64_in _ (by omega)]; omega
      have s4 : IntKind.i64.wrap ((k : Int) + 16 - 2) = (k : Int) + 14 := by rw [IntWalk.i64_in _ (by omega)]; omega
      have t2 : ((k : Int) + 1).toNat = k + 1 := by omega
      have t3 : ((k : Int) + 9).toNat = k + 9 := by omega
      have t4 : ((k : Int) + 14).toNat = k + 14 := by omega
      have t5 : ((k : Int) + 16).toNat = k + 16 := by omega
      have i1 : (0 : Int) ≤ (k : Int) + 1 := by omega
      have i2 : (0 : Int) ≤ (k : Int) + 9 := by omega
      have i3 : (0 : Int) ≤ (k : Int) + 14 := by omega
      have i4 : (0 : Int) ≤ (k : Int) + 16 := by omega
      have l0 : (k : Int) + 16 < 64 := by omega
      have l1 : (k : Int) < 64 := by omega
      have l2 : (k : Int) + 1 < 64 := by omega
      have l3 : (k : Int) + 9 < 64 := by omega
      have l4 : (k : Int) + 14 < 64 := by omega
      have hd : ∀ W, TB w W (bw b) k → TB w W (bw b) k ∧ W.cell? ⟨w.heap.size + 1 + 1, k, none⟩ = some (.int .u32 (u (wl (bw b) k k))) ∧ W.cell? ⟨w.heap.size + 1 + 1, k + 1, none⟩ = some (.int .u32 (u (wl (bw b) k (k + 1)))) ∧ W.cell? ⟨w.heap.size + 1 + 1, k + 9, none⟩ = some (.int .u32 (u (wl (bw b) k (k + 9)))) ∧ W.cell? ⟨w.heap.size + 1 + 1, k + 14, none⟩ = some (.int .u32 (u (wl (bw b) k (k + 14))))   := fun w' h => by
        refine ⟨h, ?_, ?_, ?_, ?_⟩
        · rw [← tabTo_lt (bw b) k k (by omega)]; exact h.1.word k (by omega)
        · rw [← tabTo_lt (bw b) k (k + 1) (by omega)]; exact h.1.word (k + 1) (by omega)
        · rw [← tabTo_lt (bw b) k (k + 9) (by omega)]; exact h.1.word (k + 9) (by omega)
        · rw [← tabTo_lt (bw b) k (k + 14) (by omega)]; exact h.1.word (k + 14) (by omega)
      have HD := Lib.hid hd
      have HT := Lib.hid (show TB w wr (bw b) k from ⟨ht, ht', hbel, hbel.size⟩)
      clear hd ht ht' hbel
      go_wp2
      refine wp_region_noPanic ?_
      refine wp_region_last (n := 22) (S := (fun w' => TB w w' (bw b) k ∧ w'.cell? ⟨w.heap.size + 1 + 1, k, none⟩ = some (.int .u32 (u (wl (bw b) k k))) ∧ w'.cell? ⟨w.heap.size + 1 + 1, k + 1, none⟩ = some (.int .u32 (u (wl (bw b) k (k + 1)))) ∧ w'.cell? ⟨w.heap.size + 1 + 1, k + 9, none⟩ = some (.int .u32 (u (wl (bw b) k (k + 9)))) ∧ w'.cell? ⟨w.heap.size + 1 + 1, k + 14, none⟩ = some (.int .u32 (u (wl (bw b) k (k + 14)))))) 22 (by kernel_rfl) rfl (by kernel_rfl) (by decide) (by (refine HD.out _ ?_; repeat (first | exact HT.out | apply TB.drew | apply TB.alloc | (refine TB.go ?_ (by assumption))))) (fun hHeld => ?_)
      refine take_at (i := 0) (d := some 19) (v := ?_) rfl rfl (by kernel_rfl) (by kernel_rfl) (by kernel_rfl) (fun _ _ _ h => h) (Or.inl ⟨by rfl, ?_⟩) (by assumption) ?_; rotate_left; · (intro w' hSw; (try dsimp only at hSw); go_simp; (try with_reducible rfl))
      try simp only [Act.put, List.setIfInBounds_toArray, List.set_cons_zero, List.set_cons_succ]
      refine take_at (i := 1) (d := some 20) (v := ?_) rfl rfl (by kernel_rfl) (by kernel_rfl) (by kernel_rfl) (fun _ _ _ h => h) (Or.inl ⟨by rfl, ?_⟩) (by assumption) ?_; rotate_left; · (intro w' hSw; (try dsimp only at hSw); go_simp; (try with_reducible rfl))
      try simp only [Act.put, List.setIfInBounds_toArray, List.set_cons_zero, List.set_cons_succ]
      refine take_at (i := 2) (d := some 21) (v := ?_) rfl rfl (by kernel_rfl) (by kernel_rfl) (by kernel_rfl) (fun _ _ _ h => h) (Or.inl ⟨by rfl, ?_⟩) (by assumption) ?_; rotate_left; · (intro w' hSw; (try dsimp only at hSw); go_simp; (try with_reducible rfl))
      try simp only [Act.put, List.setIfInBounds_toArray, List.set_cons_zero, List.set_cons_succ]
      refine take_at (i := 3) (d := some 22) (v := ?_) rfl rfl (by kernel_rfl) (by kernel_rfl) (by kernel_rfl) (fun _ _ _ h => h) (Or.inl ⟨by rfl, ?_⟩) (by assumption) ?_; rotate_left; · (intro w' hSw; (try dsimp only at hSw); go_simp; (try with_reducible rfl))
      try simp only [Act.put, List.setIfInBounds_toArray, List.set_cons_zero, List.set_cons_succ]
      refine take_at (i := 4) (d := some 23) (v := ?_) rfl rfl (by kernel_rfl) (by kernel_rfl) (by kernel_rfl) (fun _ _ _ h => h) (Or.inl ⟨by rfl, ?_⟩) (by assumption) ?_; rotate_left; · (intro w' hSw; (try dsimp only at hSw); go_simp; (try with_reducible rfl))
      try simp only [Act.put, List.setIfInBounds_toArray, List.set_cons_zero, List.set_cons_succ]
      refine take_at (i := 5) (d := some 24) (v := ?_) rfl rfl (by kernel_rfl) (by kernel_rfl) (by kernel_rfl) (fun _ _ _ h => h) (Or.inl ⟨by rfl, ?_⟩) (by assumption) ?_; rotate_left; · (intro w' hSw; (try dsimp only at hSw); go_simp; (try with_reducible rfl))
      try simp only [Act.put, List.setIfInBounds_toArray, List.set_cons_zero, List.set_cons_succ]
      refine take_at (i := 6) (d := some 25) (v := ?_) rfl rfl (by kernel_rfl) (by kernel_rfl) (by kernel_rfl) (fun _ _ _ h => h) (Or.inl ⟨by rfl, ?_⟩) (by assumption) ?_; rotate_left; · (intro w' hSw; (try dsimp only at hSw); go_simp; (try with_reducible rfl))
      try simp only [Act.put, List.setIfInBounds_toArray, List.set_cons_zero, List.set_cons_succ]
      refine take_at (i := 7) (d := some 26) (v := ?_) rfl rfl (by kernel_rfl) (by kernel_rfl) (by kernel_rfl) (fun _ _ _ h => h) (Or.inl ⟨by rfl, ?_⟩) (by assumption) ?_; rotate_left; · (intro w' hSw; (try dsimp only at hSw); go_simp; (try with_reducible rfl))
      try simp only [Act.put, List.setIfInBounds_toArray, List.set_cons_zero, List.set_cons_succ]
      refine take_at (i := 8) (d := some 27) (v := ?_) rfl rfl (by kernel_rfl) (by kernel_rfl) (by kernel_rfl) (fun _ _ _ h => h) (Or.inl ⟨by rfl, ?_⟩) (by assumption) ?_; rotate_left; · (intro w' hSw; (try dsimp only at hSw); go_simp; (try with_reducible rfl))
      try simp only [Act.put, List.setIfInBounds_toArray, List.set_cons_zero, List.set_cons_succ]
      refine take_at (i := 10) (d := some 29) (v := ?_) rfl rfl (by kernel_rfl) (by kernel_rfl) (by kernel_rfl) (fun _ _ _ h => h) (Or.inl ⟨by rfl, ?_⟩) (by assumption) ?_; rotate_left; · (intro w' hSw; (try dsimp only at hSw); go_simp; (try with_reducible rfl))
      try simp only [Act.put, List.setIfInBounds_toArray, List.set_cons_zero, List.set_cons_succ]
      refine take_at (i := 11) (d := some 30) (v := ?_) rfl rfl (by kernel_rfl) (by kernel_rfl) (by kernel_rfl) (fun _ _ _ h => h) (Or.inl ⟨by rfl, ?_⟩) (by assumption) ?_; rotate_left; · (intro w' hSw; (try dsimp only at hSw); go_simp; (try with_reducible rfl))
      try simp only [Act.put, List.setIfInBounds_toArray, List.set_cons_zero, List.set_cons_succ]
      refine take_at (i := 12) (d := some 31) (v := ?_) rfl rfl (by kernel_rfl) (by kernel_rfl) (by kernel_rfl) (fun _ _ _ h => h) (Or.inl ⟨by rfl, ?_⟩) (by assumption) ?_; rotate_left; · (intro w' hSw; (try dsimp only at hSw); go_simp; (try with_reducible rfl))
      try simp only [Act.put, List.setIfInBounds_toArray, List.set_cons_zero, List.set_cons_succ]
      refine take_at (i := 13) (d := some 32) (v := ?_) rfl rfl (by kernel_rfl) (by kernel_rfl) (by kernel_rfl) (fun _ _ _ h => h) (Or.inl ⟨by rfl, ?_⟩) (by assumption) ?_; rotate_left; · (intro w' hSw; (try dsimp only at hSw); go_simp; (try with_reducible rfl))
      try simp only [Act.put, List.setIfInBounds_toArray, List.set_cons_zero, List.set_cons_succ]
      refine take_at (i := 14) (d := some 33) (v := ?_) rfl rfl (by kernel_rfl) (by kernel_rfl) (by kernel_rfl) (fun _ _ _ h => h) (Or.inl ⟨by rfl, ?_⟩) (by assumption) ?_; rotate_left; · (intro w' hSw; (try dsimp only at hSw); go_simp; (try with_reducible rfl))
      try simp only [Act.put, List.setIfInBounds_toArray, List.set_cons_zero, List.set_cons_succ]
      refine take_at (i := 15) (d := some 34) (v := ?_) rfl rfl (by kernel_rfl) (by kernel_rfl) (by kernel_rfl) (fun _ _ _ h => h) (Or.inl ⟨by rfl, ?_⟩) (by assumption) ?_; rotate_left; · (intro w' hSw; (try dsimp only at hSw); go_simp; (try with_reducible rfl))
      try simp only [Act.put, List.setIfInBounds_toArray, List.set_cons_zero, List.set_cons_succ]
      refine take_at (i := 16) (d := some 35) (v := ?_) rfl rfl (by kernel_rfl) (by kernel_rfl) (by kernel_rfl) (fun _ _ _ h => h) (Or.inl ⟨by rfl, ?_⟩) (by assumption) ?_; rotate_left; · (intro w' hSw; (try dsimp only at hSw); go_simp; (try with_reducible rfl))
      try simp only [Act.put, List.setIfInBounds_toArray, List.set_cons_zero, List.set_cons_succ]
      refine take_at (i := 17) (d := some 36) (v := ?_) rfl rfl (by kernel_rfl) (by kernel_rfl) (by kernel_rfl) (fun _ _ _ h => h) (Or.inl ⟨by rfl, ?_⟩) (by assumption) ?_; rotate_left; · (intro w' hSw; (try dsimp only at hSw); go_simp; (try with_reducible rfl))
      try simp only [Act.put, List.setIfInBounds_toArray, List.set_cons_zero, List.set_cons_succ]
      refine wpAnyH_ready (rs := [9]) (by kernel_rfl) (by simp) (AllReadyH.cons rfl (fun K hK => ?_) (AllReadyH.nil))
      go_simp
      refine (small_a _ _).mono ?_
      rintro e w3 ⟨rfl, hb3⟩
      dsimp only
      refine hK.out _ _ (by (refine HD.out _ ?_; repeat (first | exact HT.out | apply TB.drew | apply TB.alloc | (refine TB.go ?_ (by assumption))))) (fun hHeld => ?_)
      clear hK K
      try simp only [Act.put, List.setIfInBounds_toArray, List.set_cons_zero, List.set_cons_succ]
      refine wpAnyH_ready (rs := [18]) (by kernel_rfl) (by simp) (AllReadyH.cons rfl (fun K hK => ?_) (AllReadyH.nil))
      go_simp
      refine (small_b _ _).mono ?_
      rintro e w4 ⟨rfl, hb4⟩
      dsimp only
      refine hK.out _ _ (by (refine HD.out _ ?_; repeat (first | exact HT.out | apply TB.drew | apply TB.alloc | (refine TB.go ?_ (by assumption))))) (fun hHeld => ?_)
      clear hK K
      try simp only [Act.put, List.setIfInBounds_toArray, List.set_cons_zero, List.set_cons_succ]
      refine wpAnyH_ready (rs := [19]) (by kernel_rfl) (by simp) (AllReadyH.cons rfl (fun K hK => ?_) (AllReadyH.nil))
      go_simp
      refine hK.out _ _ (by (refine HD.out _ ?_; repeat (first | exact HT.out | apply TB.drew | apply TB.alloc | (refine TB.go ?_ (by assumption))))) (fun hHeld => ?_)
      clear hK K
      try simp only [Act.put, List.setIfInBounds_toArray, List.set_cons_zero, List.set_cons_succ]
      refine wpAnyH_ready (rs := [20]) (by kernel_rfl) (by simp) (AllReadyH.cons rfl (fun K hK => ?_) (AllReadyH.nil))
      go_simp
      refine (sum4_at _ _ _ _ _ _ _ (by (try simp only [heap_drew]); repeat (first | (apply laid_at; simp; done) | apply laid_old))).mono ?_
      rintro e w5 ⟨rfl, rfl⟩
      dsimp only
      refine hK.out _ _ (by (refine HD.out _ ?_; repeat (first | exact HT.out | apply TB.drew | apply TB.alloc | (refine TB.go ?_ (by assumption))))) (fun hHeld => ?_)
      clear hK K
      try simp only [Act.put, List.setIfInBounds_toArray, List.set_cons_zero, List.set_cons_succ]
      refine take_at (i := 21) (d := some 40) (v := ?_) rfl rfl (by kernel_rfl) (by kernel_rfl) (by kernel_rfl) (fun _ _ _ h => h) (Or.inl ⟨by rfl, ?_⟩) (by assumption) ?_; rotate_left; · (intro w' hSw; (try dsimp only at hSw); go_simp; (try with_reducible rfl))
      try simp only [Act.put, List.setIfInBounds_toArray, List.set_cons_zero, List.set_cons_succ]
      refine wpAnyH_done (by kernel_rfl) ?_ _
      have hT := hHeld.1
      have c16 := hT.tab.word (k + 16) (by omega)
      have f16 := hT.tab.free (k + 16)
      have hn := TB.next hT hlt _ rfl
      refine behind_go rfl (by rfl) ?_
      clear hHeld HT HD hT
      go_simp
      refine NoPanic.normal ?_
      clear c16 f16
      generalize World.setCell _ ⟨w.heap.size + 1 + 1, k + 16, none⟩ _ = W6 at hn ⊢
      have HN := Lib.hid hn
      clear hn
      go_wp2
      go_roundw
      case rel => exact ⟨k + 1, by omega, by go_num, HN.out.tab, HN.out.res, HN.out.bel⟩
      case measure => simp [intOf]; omega
    · obtain rfl : k = 48 := by omega
      have hr := ht'.setFirst 64 (Nat.le_refl _) ((List.range 64).map fun i => Value.int .u32 (u (tabTo (bw b) 48 i))) (f' := tabTo (bw b) 48) rfl (fun j h1 h2 => by omega)
      have hb9 : Below w.heap.size w (wr.setCells (w.heap.size + 1) 0 ((List.range 64).map fun i => Value.int .u32 (u (tabTo (bw b) 48 i)))) := hbel.grown (gr_setCells (hb := w.heap.size + 1) _ 0 wr) hbel.size (by rintro k ⟨⟩; omega)
      have HR := Lib.hid hr
      have HB9 := Lib.hid hb9
      have HT := Lib.hid ht
      have HT' := Lib.hid ht'
      clear hr hb9 ht ht' hbel
      go_upto_region 8 with (fail)
      refine wp_region_lit ?_
      refine wpList_load_mid rfl 130 _ rfl (w.heap.size + 1 + 1) 0 rfl _ _ HT.out.range Tryz.underlying130 rfl (by simp [info64]) ?_
      refine wpList_store_mid rfl 130 _ _ rfl (w.heap.size + 1) 0 _ rfl rfl (by simpa using HT'.out.there 64 (by simp)) (by simp [info64]) (words64_one _) ?_
      rw [List.toList_toArray]
      generalize wr.setCells (w.heap.size + 1) 0 ((List.range 64).map fun i => Value.int .u32 (u (tabTo (bw b) 48 i))) = W7 at HR HB9 ⊢
      show Exit.then _ _ Exit.normal _ _
      go_wp2
      refine bodyPost_ret (v := .agg ((List.range 64).map fun i => .int .u32 (u (wl (bw b) 48 i))).toArray) ?_ rfl ⟨rfl, HB9.out⟩
      have e : ((List.range 64).map fun i => Value.int .u32 (u (tabTo (bw b) 48 i))) = ((List.range 64).map fun i => Value.int .u32 (u (wl (bw b) 48 i))) := by
        apply List.map_congr_left
        intro i hi
        rw [tabTo_lt _ _ _ (by simpa using hi)]
      rw [← e]
      exact results_cell_mid (p := 2) (ty := 130) rfl _ W7 (w.heap.size + 1) _ _ rfl HR.out.range Tryz.underlying130 rfl (by simp [info64])
end Go.Proofs.YtejknkgbkkdaiaaGreatDoor
