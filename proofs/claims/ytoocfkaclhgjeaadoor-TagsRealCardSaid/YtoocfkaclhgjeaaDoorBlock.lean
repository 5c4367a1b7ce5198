/-
  Contracts: a key's block, and its turnings.
-/
import Derived.Test.YtoocfkaclhgjeaaDoorSame
namespace Go.Proofs.YtoocfkaclhgjeaaDoor
open Go.RowKit
set_option linter.unusedVariables false
set_option linter.unusedSimpArgs false

/-- a block of n bytes -/
structure BT (w : World) (tb n : Nat) (f : Nat → BitVec 8) : Prop where
  lt : tb < w.heap.size
  byte : ∀ i, i < n → w.cell? ⟨tb, i, none⟩ = some (.int .u8 (ub (f i)))
  free : ∀ i, w.frozen? ⟨tb, i, none⟩ = false
section
variable {w w' : World} {tb n : Nat} {f f' : Nat → BitVec 8}
theorem BT.of_block (h : BT w tb n f) (hs : w.heap.size ≤ w'.heap.size) (e : w'.heap[tb]? = w.heap[tb]?) : BT w' tb n f :=
  ⟨Nat.lt_of_lt_of_le h.lt hs, fun i hi => (World.cell?_of_block (a := ⟨tb, i, none⟩) e).trans (h.byte i hi), fun i => (World.frozen?_of_block (a := ⟨tb, i, none⟩) e).trans (h.free i)⟩
theorem BT.below {B : Nat} (h : BT w tb n f) (g : Below B w w') (hB : tb < B) : BT w' tb n f := h.of_block g.size (g.block tb hB)
theorem BT.below' (h : BT w tb n f) (g : Below w.heap.size w w') : BT w' tb n f := h.below g h.lt
theorem BT.gr {hb : Nat} (h : BT w tb n f) (g : w.grownBy w' (some hb)) (hne : tb ≠ hb) : BT w' tb n f := h.of_block g.size (g.block tb h.lt (by simpa using hne))
theorem BT.alloc (h : BT w tb n f) (o : Obj) : BT (w.alloc o) tb n f := h.of_block (by simp) (heap_alloc_old w o h.lt)
theorem BT.drew (h : BT w tb n f) : BT w.drew tb n f := h.of_block (Nat.le_refl _) rfl
theorem BT.congr (h : BT w tb n f) (e : ∀ i, i < n → f i = f' i) : BT w tb n f' := ⟨h.lt, fun i hi => by rw [← e i hi]; exact h.byte i hi, h.free⟩
theorem BT.set (h : BT w tb n f) (i : Nat) (hi : i < n) (x : BitVec 8) (hx : f' i = x) (ho : ∀ j, j < n → j ≠ i → f' j = f j) : BT (w.setCell ⟨tb, i, none⟩ (.int .u8 (ub x))) tb n f' := by
  refine ⟨by simpa [World.setCell] using h.lt, fun j hj => ?_, fun i => fro_eq.trans (h.free i)⟩
  by_cases e : j = i
  · subst e
    rw [World.cell?_setCell_same' _ _ _ (by rw [h.byte j hj]; rfl), hx]
  · rw [cell_ne (Ne.symm e), ho j hj e]; exact h.byte j hj
theorem BT.setFirst (h : BT w tb n f) (m : Nat) (hm : m ≤ n) (vs : List Value) (hv : vs = (List.range m).map fun i => .int .u8 (ub (f' i))) (ho : ∀ j, m ≤ j → j < n → f' j = f j) : BT (w.setCells tb 0 vs) tb n f' := by
  have hl : vs.length = m := by rw [hv]; simp
  refine ⟨by rw [size_setCells]; exact h.lt, fun i hi => ?_, fun i => (World.frozen?_setCells _ _ _ _ _).trans (h.free i)⟩
  by_cases hin : i < m
  · have := World.cell?_setCells_in tb vs 0 w (fun j hj => by rw [Nat.zero_add, h.byte j (by omega)]; rfl) i (by omega)
    rw [Nat.zero_add] at this
    rw [this]
    subst hv
    simp
  · rw [setCells_other (by omega), ho i (by omega) hi]; exact h.byte i hi
theorem BT.range (h : BT w tb n f) : w.rangeAt tb 0 ((List.range n).map fun i => .int .u8 (ub (f i))) := fun j v hv => by
  have hj : j < n := by have := (List.getElem?_eq_some_iff.1 hv).1; simpa using this
  rw [Nat.zero_add, h.byte j hj, ← hv]; simp [hj]
theorem BT.there (h : BT w tb n f) (m : Nat) (hm : m ≤ n) : w.there tb 0 m := fun j hj => by
  rw [Nat.zero_add]
  exact ⟨by rw [h.byte j (by omega)]; rfl, h.free j⟩
theorem BT.of_cells {t : TypeId} {C : Array Value} (h : w.heap[tb]? = some (.cells C t (0, 0))) (hC : ∀ i, i < n → C[i]? = some (.int .u8 (ub (f i)))) : BT w tb n f := by
  refine ⟨(Array.getElem?_eq_some_iff.1 h).1, fun i hi => ?_, fun i => frozen_of_row w tb i _ t h⟩
  rw [cell_of_row w tb i _ t (0, 0) h, hC i hi]
theorem BT.reads (h : BT w tb n f) : Reads w.heap.size w (some ⟨tb, 0, none⟩) n (fun i => .int .u8 (ub (f i))) :=
  .inr ⟨tb, 0, rfl, h.lt, fun i hi => by rw [Nat.zero_add]; exact h.byte i hi⟩
end
/-- the value of an array of 64 bytes -/
def blkC (g : Nat → BitVec 8) : List Value := (List.range 64).map fun i => .int .u8 (ub (g i))
def blkV (g : Nat → BitVec 8) : Value := .agg (blkC g).toArray
theorem blkC_len (g : Nat → BitVec 8) : (blkC g).length = 64 := by simp [blkC]
theorem blkC_get (g : Nat → BitVec 8) (i : Nat) (hi : i < 64) : (blkC g).toArray[i]? = some (.int .u8 (ub (g i))) := by simp [blkC, hi]
theorem blkC_one (g : Nat → BitVec 8) : (blkC g).toArray.all (·.oneCell') = true :=
  all_oneCell_toArray fun v hv => by
    obtain ⟨i, _, rfl⟩ := List.mem_map.1 hv
    rfl
theorem infoBlock : (Tryd.prog.info? 75).map (·.size) = some 64 := by kernel_rfl
/-- a block, turned at some places -/
def xorB (g : Nat → BitVec 8) (x : BitVec 8) : Nat → BitVec 8 := fun i => g i ^^^ x
def xorTo (g : Nat → BitVec 8) (x : BitVec 8) (k : Nat) : Nat → BitVec 8 := fun i => if i < k then g i ^^^ x else g i

set_option maxHeartbeats 1000000 in
set_option maxRecDepth 100000 in
theorem turned_any (g : Nat → BitVec 8) (x : BitVec 8) (w : World) :
    Calls Tryd.prog 68 #[blkV g, .int .u8 (ub x)] w fun e w' => ∃ H, e = .returned (.slice (some ⟨H, 0, none⟩) 64 64) ∧ w.heap.size ≤ H ∧ Below w.heap.size w w' ∧ BT w' H 64 (xorB g x) := by
  obtain ⟨C1, hC1⟩ : ∃ C, C = (blkC g).toArray := ⟨_, rfl⟩
  unfold blkV
  rw [← hC1]
  have HC1 := Lib.hid hC1
  clear hC1
  go_enter Tryd.func68, Tryd.ntmps68
  go_upto_region 1 with (fail)
  refine forget_code (fun W => Below w.heap.size w W ∧ BT W w.heap.size 64 (xorTo g x 0))
    ⟨(Below.refl _ _).alloc (Nat.le_refl _) _, BT.of_cells (laid_at rfl) fun i hi => by rw [HC1.out]; exact blkC_get g i hi⟩ ?_
  rintro W ⟨hbel, hbt⟩
  have HB := Lib.hid hbel
  have HT := Lib.hid hbt
  clear hbel hbt
  go_wp2
  go_loopw [5, 6] (fun _ i wr => ∃ k : Nat, k ≤ 64 ∧ i = .int .i64 k ∧ BT wr w.heap.size 64 (xorTo g x k) ∧ Below w.heap.size w wr) (fun _ i _ => 64 - (intOf i).toNat)
  case atStart => exact ⟨0, Nat.zero_le _, rfl, HT.out, HB.out⟩
  case round =>
    obtain ⟨k, hk, rfl, hbt, hb⟩ := hrel
    by_cases hlt : k < 64
    · have c1 : wr.cell? ⟨w.heap.size, k, none⟩ = some (.int .u8 (ub (g k))) := by have := hbt.byte k hlt; unfold xorTo at this; rw [if_neg (by omega)] at this; exact this
      have f1 := hbt.free k
      have h2 : BT (wr.setCell ⟨w.heap.size, k, none⟩ (.int .u8 (ub (g k ^^^ x)))) w.heap.size 64 (xorTo g x (k + 1)) := hbt.set k hlt _ (by unfold xorTo; rw [if_pos (by omega)]) (fun j h1 h2 => by
        unfold xorTo
        by_cases h3 : j < k
        · rw [if_pos h3, if_pos (by omega)]
        · rw [if_neg h3, if_neg (by omega)])
      have H2 := Lib.hid h2
      have H3 := Lib.hid (hb.setCell (p := ⟨w.heap.size, k, none⟩) (Nat.le_refl _) (.int .u8 (ub (g k ^^^ x))))
      clear h2 hbt hb
      go_wp2
      go_roundw
      case rel => exact ⟨k + 1, by omega, by go_num, H2.out, H3.out⟩
      case measure => simp [intOf]; omega
    · obtain rfl : k = 64 := by omega
      have h2 := Lib.hid (hbt.congr (f' := xorB g x) fun i hi => by unfold xorTo xorB; rw [if_pos hi])
      have h3 := Lib.hid hb
      clear hbt hb
      go_wp2
      go_ret
      exact ⟨_, rfl, Nat.le_refl _, h3.out, h2.out⟩
set_option maxHeartbeats 1000000 in
theorem inner_any (g : Nat → BitVec 8) (w : World) :
    Calls Tryd.prog 60 #[blkV g] w fun e w' => ∃ H, e = .returned (.slice (some ⟨H, 0, none⟩) 64 64) ∧ w.heap.size ≤ H ∧ Below w.heap.size w w' ∧ BT w' H 64 (xorB g 0x36#8) := by
  obtain ⟨C1, hC1⟩ : ∃ C, C = (blkC g).toArray := ⟨_, rfl⟩
  unfold blkV
  rw [← hC1]
  have hload : (w.alloc (.cells C1 75)).rangeAt w.heap.size 0 (blkC g) := (BT.of_cells (t := 75) (C := C1) (tb := w.heap.size) (laid_at rfl) fun i hi => by rw [hC1]; exact blkC_get g i hi).range
  have HL := Lib.hid hload
  have ht : ∀ W, Calls Tryd.prog 68 #[.agg (blkC g).toArray, .int .u8 54] W fun e w' => ∃ H, e = .returned (.slice (some ⟨H, 0, none⟩) 64 64) ∧ W.heap.size ≤ H ∧ Below W.heap.size W w' ∧ BT w' H 64 (xorB g 0x36#8) := fun W => turned_any g 0x36#8 W
  have HT := Lib.hid ht
  clear hload ht hC1
  go_enter Tryd.func60, Tryd.ntmps60
  go_upto_region 1 with (fail)
  refine wp_region_lit ?_
  refine wpList_load_mid rfl 75 _ rfl w.heap.size 0 rfl (blkC g) _ HL.out Tryd.underlying75 rfl (by simp [infoBlock, blkC_len]) ?_
  go_wp2_with fail
  refine (HT.out _).mono ?_
  rintro e w1 ⟨H, rfl, hH, hb1, hbt⟩
  have H1 := Lib.hid hbt
  have H2 := Lib.hid ((((Below.refl _ _).alloc (Nat.le_refl _) _).trans (hb1.mono (by simp))) : Below w.heap.size w w1)
  clear hbt hb1
  go_wp2
  go_ret
  exact ⟨_, rfl, by simp at hH; omega, H2.out, H1.out⟩
set_option maxHeartbeats 1000000 in
theorem outer_any (g : Nat → BitVec 8) (w : World) :
    Calls Tryd.prog 61 #[blkV g] w fun e w' => ∃ H, e = .returned (.slice (some ⟨H, 0, none⟩) 64 64) ∧ w.heap.size ≤ H ∧ Below w.heap.size w w' ∧ BT w' H 64 (xorB g 0x5c#8) := by
  obtain ⟨C1, hC1⟩ : ∃ C, C = (blkC g).toArray := ⟨_, rfl⟩
  unfold blkV
  rw [← hC1]
  have hload : (w.alloc (.cells C1 75)).rangeAt w.heap.size 0 (blkC g) := (BT.of_cells (t := 75) (C := C1) (tb := w.heap.size) (laid_at rfl) fun i hi => by rw [hC1]; exact blkC_get g i hi).range
  have HL := Lib.hid hload
  have ht : ∀ W, Calls Tryd.prog 68 #[.agg (blkC g).toArray, .int .u8 92] W fun e w' => ∃ H, e = .returned (.slice (some ⟨H, 0, none⟩) 64 64) ∧ W.heap.size ≤ H ∧ Below W.heap.size W w' ∧ BT w' H 64 (xorB g 0x5c#8) := fun W => turned_any g 0x5c#8 W
  have HT := Lib.hid ht
  clear hload ht hC1
  go_enter Tryd.func61, Tryd.ntmps61
  go_upto_region 1 with (fail)
  refine wp_region_lit ?_
  refine wpList_load_mid rfl 75 _ rfl w.heap.size 0 rfl (blkC g) _ HL.out Tryd.underlying75 rfl (by simp [infoBlock, blkC_len]) ?_
  go_wp2_with fail
  refine (HT.out _).mono ?_
  rintro e w1 ⟨H, rfl, hH, hb1, hbt⟩
  have H1 := Lib.hid hbt
  have H2 := Lib.hid ((((Below.refl _ _).alloc (Nat.le_refl _) _).trans (hb1.mono (by simp))) : Below w.heap.size w w1)
  clear hbt hb1
  go_wp2
  go_ret
  exact ⟨_, rfl, by simp at hH; omega, H2.out, H1.out⟩
end Go.Proofs.YtoocfkaclhgjeaaDoor
