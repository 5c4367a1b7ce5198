/-
  Merged: Block, Concat, Lent.
-/
import Derived.Test.YtejknkgbkkdaiaaGreatDoorG9
import Derived.Lib.AppendZeros
import Derived.Laws.OwnMore
import Derived.Test.YtejknkgbkkdaiaaGreatDoorG3

namespace Go.Proofs.YtejknkgbkkdaiaaGreatDoor
open Go.RowKit
set_option linter.unusedVariables false
set_option linter.unusedSimpArgs false

/-- a block of n bytes -/
structure BT (w : World) (tb n : Nat) (f : Nat → BitVec 8) : Prop where
  lt : tb < w.heap.size
  byte : ∀ i, i < n → w.cell? ⟨tb, i, none⟩ = some (.int .u8 (ub (f i)))
  free : ∀ i, w.frozen? ⟨tb, i, none⟩ = false
section
variable {w w' : World} {tb n : Nat} {f f' : Nat → BitVec 8}
theorem BT.of_block (h : BT w tb n f) (hs : w.heap.size ≤ w'.heap.size) (e : w'.heap[tb]? = w.heap[tb]?) : BT w' tb n f :=
  ⟨Nat.lt_of_lt_of_le h.lt hs, fun i hi => (World.cell?_of_block (a := ⟨tb, i, none⟩) e).trans (h.byte i hi), fun i => (World.frozen?_of_block (a := ⟨tb, i, none⟩) e).trans (h.free i)⟩
theorem BT.below {B : Nat} (h : BT w tb n f) (g : Below B w w') (hB : tb < B) : BT w' tb n f := h.of_block g.size (g.block tb hB)
theorem BT.below' (h : BT w tb n f) (g : Below w.heap.size w w') : BT w' tb n f := h.below g h.lt
theorem BT.gr {hb : Nat} (h : BT w tb n f) (g : w.grownBy w' (some hb)) (hne : tb ≠ hb) : BT w' tb n f := h.of_block g.size (g.block tb h.lt (by simpa using hne))
theorem BT.alloc (h : BT w tb n f) (o : Obj) : BT (w.alloc o) tb n f := h.of_block (by simp) (heap_alloc_old w o h.lt)
theorem BT.drew (h : BT w tb n f) : BT w.drew tb n f := h.of_block (Nat.le_refl _) rfl
theorem BT.congr (h : BT w tb n f) (e : ∀ i, i < n → f i = f' i) : BT w tb n f' := ⟨h.lt, fun i hi => by rw [← e i hi]; exact h.byte i hi, h.free⟩
theorem BT.set (h : BT w tb n f) (i : Nat) (hi : i < n) (x : BitVec 8) (hx : f' i = x) (ho : ∀ j, j < n → j ≠ i → f' j = f j) : BT (w.setCell ⟨tb, i, none⟩ (.int .u8 (ub x))) tb n f' := by
  refine ⟨by simpa [World.setCell] using h.lt, fun j hj => ?_, fun i => fro_eq.trans (h.free i)⟩
  by_cases e : j = i
  · subst e
    rw [World.cell?_setCell_same' _ _ _ (by rw [h.byte j hj]; rfl), hx]
  · rw [cell_ne (Ne.symm e), ho j hj e]; exact h.byte j hj
theorem BT.setFirst (h : BT w tb n f) (m : Nat) (hm : m ≤ n) (vs : List Value) (hv : vs = (List.range m).map fun i => .int .u8 (ub (f' i))) (ho : ∀ j, m ≤ j → j < n → f' j = f j) : BT (w.setCells tb 0 vs) tb n f' := by
  have hl : vs.length = m := by rw [hv]; simp
  refine ⟨by rw [size_setCells]; exact h.lt, fun i hi => ?_, fun i => (World.frozen?_setCells _ _ _ _ _).trans (h.free i)⟩
  by_cases hin : i < m
  · have := World.cell?_setCells_in tb vs 0 w (fun j hj => by rw [Nat.zero_add, h.byte j (by omega)]; rfl) i (by omega)
    rw [Nat.zero_add] at this
    rw [this]
    subst hv
    simp
  · rw [setCells_other (by omega), ho i (by omega) hi]; exact h.byte i hi
theorem BT.range (h : BT w tb n f) : w.rangeAt tb 0 ((List.range n).map fun i => .int .u8 (ub (f i))) := fun j v hv => by
  have hj : j < n := by have := (List.getElem?_eq_some_iff.1 hv).1; simpa using this
  rw [Nat.zero_add, h.byte j hj, ← hv]; simp [hj]
theorem BT.there (h : BT w tb n f) (m : Nat) (hm : m ≤ n) : w.there tb 0 m := fun j hj => by
  rw [Nat.zero_add]
  exact ⟨by rw [h.byte j (by omega)]; rfl, h.free j⟩
theorem BT.of_cells {t : TypeId} {C : Array Value} (h : w.heap[tb]? = some (.cells C t (0, 0))) (hC : ∀ i, i < n → C[i]? = some (.int .u8 (ub (f i)))) : BT w tb n f := by
  refine ⟨(Array.getElem?_eq_some_iff.1 h).1, fun i hi => ?_, fun i => frozen_of_row w tb i _ t h⟩
  rw [cell_of_row w tb i _ t (0, 0) h, hC i hi]
theorem BT.reads (h : BT w tb n f) : Reads w.heap.size w (some ⟨tb, 0, none⟩) n (fun i => .int .u8 (ub (f i))) :=
  .inr ⟨tb, 0, rfl, h.lt, fun i hi => by rw [Nat.zero_add]; exact h.byte i hi⟩
end
/-- the value of an array of 64 bytes -/
def blkC (g : Nat → BitVec 8) : List Value := (List.range 64).map fun i => .int .u8 (ub (g i))
def blkV (g : Nat → BitVec 8) : Value := .agg (blkC g).toArray
theorem blkC_len (g : Nat → BitVec 8) : (blkC g).length = 64 := by simp [blkC]
theorem blkC_get (g : Nat → BitVec 8) (i : Nat) (hi : i < 64) : (blkC g).toArray[i]? = some (.int .u8 (ub (g i))) := by simp [blkC, hi]
theorem blkC_one (g : Nat → BitVec 8) : (blkC g).toArray.all (·.oneCell') = true :=
  all_oneCell_toArray fun v hv => by
    obtain ⟨i, _, rfl⟩ := List.mem_map.1 hv
    rfl
theorem infoBlock : (Tryz.prog.info? 88).map (·.size) = some 64 := by kernel_rfl
/-- a block, turned at some places -/
def xorB (g : Nat → BitVec 8) (x : BitVec 8) : Nat → BitVec 8 := fun i => g i ^^^ x
def xorTo (g : Nat → BitVec 8) (x : BitVec 8) (k : Nat) : Nat → BitVec 8 := fun i => if i < k then g i ^^^ x else g i

set_option maxHeartbeats 1000000 in
set_option maxRecDepth 100000 in
theorem turned_any (g : Nat → BitVec 8) (x : BitVec 8) (w : World) :
    Calls Tryz.prog 97 #[blkV g, .int .u8 (ub x)] w fun e w' => ∃ H, e = .returned (.slice (some ⟨H, 0, none⟩) 64 64) ∧ w.heap.size ≤ H ∧ Below w.heap.size w w' ∧ BT w' H 64 (xorB g x) := by
  obtain ⟨C1, hC1⟩ : ∃ C, C = (blkC g).toArray := ⟨_, rfl⟩
  unfold blkV
  rw [← hC1]
  have HC1 := Lib.hid hC1
  clear hC1
  go_enter Tryz.func97, Tryz.ntmps97
  go_upto_region 1 with (fail)
  refine forget_code (fun W => Below w.heap.size w W ∧ BT W w.heap.size 64 (xorTo g x 0))
    ⟨(Below.refl _ _).alloc (Nat.le_refl _) _, BT.of_cells (laid_at rfl) fun i hi => by rw [HC1.out]; exact blkC_get g i hi⟩ ?_
  rintro W ⟨hbel, hbt⟩
  have HB := Lib.hid hbel
  have HT := Lib.hid hbt
  clear hbel hbt
  go_wp2
  go_loopw [5, 6] (fun _ i wr => ∃ k : Nat, k ≤ 64 ∧ i = .int .i64 k ∧ BT wr w.heap.size 64 (xorTo g x k) ∧ Below w.heap.size w wr) (fun _ i _ => 64 - (intOf i).toNat)
  case atStart => exact ⟨0, Nat.zero_le _, rfl, HT.out, HB.out⟩
  case round =>
    obtain ⟨k, hk, rfl, hbt, hb⟩ := hrel
    by_cases hlt : k < 64
    · have c1 : wr.cell? ⟨w.heap.size, k, none⟩ = some (.int .u8 (ub (g k))) := by have := hbt.byte k hlt; unfold xorTo at this; rw [if_neg (by omega)] at this; exact this
      have f1 := hbt.free k
      have h2 : BT (wr.setCell ⟨w.heap.size, k, none⟩ (.int .u8 (ub (g k ^^^ x)))) w.heap.size 64 (xorTo g x (k + 1)) := hbt.set k hlt _ (by unfold xorTo; rw [if_pos (by omega)]) (fun j h1 h2 => by
        unfold xorTo
        by_cases h3 : j < k
        · rw [if_pos h3, if_pos (by omega)]
        · rw [if_neg h3, if_neg (by omega)])
      have H2 := Lib.hid h2
      have H3 := Lib.hid (hb.setCell (p := ⟨w.heap.size, k, none⟩) (Nat.le_refl _) (.int .u8 (ub (g k ^^^ x))))
      clear h2 hbt hb
      go_wp2
      go_roundw
      case rel => exact ⟨k + 1, by omega, by go_num, H2.out, H3.out⟩
      case measure => simp [intOf]; omega
    · obtain rfl : k = 64 := by omega
      have h2 := Lib.hid (hbt.congr (f' := xorB g x) fun i hi => by unfold xorTo xorB; rw [if_pos hi])
      have h3 := Lib.hid hb
      clear hbt hb
      go_wp2
      go_ret
      exact ⟨_, rfl, Nat.le_refl _, h3.out, h2.out⟩
set_option maxHeartbeats 1000000 in
theorem inner_any (g : Nat → BitVec 8) (w : World) :
    Calls Tryz.prog 83 #[blkV g] w fun e w' => ∃ H, e = .returned (.slice (some ⟨H, 0, none⟩) 64 64) ∧ w.heap.size ≤ H ∧ Below w.heap.size w w' ∧ BT w' H 64 (xorB g 0x36#8) := by
  obtain ⟨C1, hC1⟩ : ∃ C, C = (blkC g).toArray := ⟨_, rfl⟩
  unfold blkV
  rw [← hC1]
  have hload : (w.alloc (.cells C1 88)).rangeAt w.heap.size 0 (blkC g) := (BT.of_cells (t := 88) (C := C1) (tb := w.heap.size) (laid_at rfl) fun i hi => by rw [hC1]; exact blkC_get g i hi).range
  have HL := Lib.hid hload
  have ht : ∀ W, Calls Tryz.prog 97 #[.agg (blkC g).toArray, .int .u8 54] W fun e w' => ∃ H, e = .returned (.slice (some ⟨H, 0, none⟩) 64 64) ∧ W.heap.size ≤ H ∧ Below W.heap.size W w' ∧ BT w' H 64 (xorB g 0x36#8) := fun W => turned_any g 0x36#8 W
  have HT := Lib.hid ht
  clear hload ht hC1
  go_enter Tryz.func83, Tryz.ntmps83
  go_upto_region 1 with (fail)
  refine wp_region_lit ?_
  refine wpList_load_mid rfl 88 _ rfl w.heap.size 0 rfl (blkC g) _ HL.out Tryz.underlying88 rfl (by simp [infoBlock, blkC_len]) ?_
  go_wp2_with fail
  refine (HT.out _).mono ?_
  rintro e w1 ⟨H, rfl, hH, hb1, hbt⟩
  have H1 := Lib.hid hbt
  have H2 := Lib.hid ((((Below.refl _ _).alloc (Nat.le_refl _) _).trans (hb1.mono (by simp))) : Below w.heap.size w w1)
  clear hbt hb1
  go_wp2
  go_ret
  exact ⟨_, rfl, by simp at hH; omega, H2.out, H1.out⟩
set_option maxHeartbeats 1000000 in
theorem outer_any (g : Nat → BitVec 8) (w : World) :
    Calls Tryz.prog 84 #[blkV g] w fun e w' => ∃ H, e = .returned (.slice (some ⟨H, 0, none⟩) 64 64) ∧ w.heap.size ≤ H ∧ Below w.heap.size w w' ∧ BT w' H 64 (xorB g 0x5c#8) := by
  obtain ⟨C1, hC1⟩ : ∃ C, C = (blkC g).toArray := ⟨_, rfl⟩
  unfold blkV
  rw [← hC1]
  have hload : (w.alloc (.cells C1 88)).rangeAt w.heap.size 0 (blkC g) := (BT.of_cells (t := 88) (C := C1) (tb := w.heap.size) (laid_at rfl) fun i hi => by rw [hC1]; exact blkC_get g i hi).range
  have HL := Lib.hid hload
  have ht : ∀ W, Calls Tryz.prog 97 #[.agg (blkC g).toArray, .int .u8 92] W fun e w' => ∃ H, e = .returned (.slice (some ⟨H, 0, none⟩) 64 64) ∧ W.heap.size ≤ H ∧ Below W.heap.size W w' ∧ BT w' H 64 (xorB g 0x5c#8) := fun W => turned_any g 0x5c#8 W
  have HT := Lib.hid ht
  clear hload ht hC1
  go_enter Tryz.func84, Tryz.ntmps84
  go_upto_region 1 with (fail)
  refine wp_region_lit ?_
  refine wpList_load_mid rfl 88 _ rfl w.heap.size 0 rfl (blkC g) _ HL.out Tryz.underlying88 rfl (by simp [infoBlock, blkC_len]) ?_
  go_wp2_with fail
  refine (HT.out _).mono ?_
  rintro e w1 ⟨H, rfl, hH, hb1, hbt⟩
  have H1 := Lib.hid hbt
  have H2 := Lib.hid ((((Below.refl _ _).alloc (Nat.le_refl _) _).trans (hb1.mono (by simp))) : Below w.heap.size w w1)
  clear hbt hb1
  go_wp2
  go_ret
  exact ⟨_, rfl, by simp at hH; omega, H2.out, H1.out⟩
end Go.Proofs.YtejknkgbkkdaiaaGreatDoor

namespace Go.Proofs.YtejknkgbkkdaiaaGreatDoor
open Go.RowKit
set_option linter.unusedVariables false
set_option linter.unusedSimpArgs false

/-- a row that is read is appended to one that is owned, wherever it lies, nil or not -/
theorem append_reads {P : Program} (w : World) (base B : Nat) (t ty e : TypeId) (i : TypeInfo) (z : Value) (bytes : Nat) (ht : P.underlying t = some (.slice e)) (hi : P.info? e = some i) (hz : i.zero = some z)
    (hsize : i.size = 1) (hby : i.bytes = bytes) (hzs : z.cells.size = 1) (v : Value) (n : Nat) (xs : List Value) (hown : w.ownsRow base e 1 v n xs)
    (p : Option Addr) (m c : Nat) (f : Nat → Value) (hr : Reads B w p m f) (h1 : ∀ i, i < m → (f i).oneCell' = true)
    (h63 : n + m ≤ maxLen) (hbytes : (n + m) * bytes ≤ 140737488355328) (hbase : base ≤ w.heap.size) :
    ∃ v' w', (Builtin.append_ #[t, t] ty #[v, .slice p m c]).run P w = .ok v' w' ∧ w'.ownsRow base e 1 v' (n + m) (xs ++ (List.range m).map f) ∧ w.grownBy w' v.ownBlock := by
  cases p with
  | none =>
    have hm : m = 0 := by
      rcases hr with h | ⟨b, off, h, _⟩
      · exact h
      · cases h
    subst hm
    refine ⟨v, w, ?_, by simpa using hown, World.grownBy.refl _ _⟩
    rcases hown.2 with ⟨rfl, rfl⟩ | ⟨g, cap, cur, rfl, _, _, hnc, _⟩
    · simp [Builtin.append_, run_underlying ht, sizeOf, typeInfo, hi, Builtin.lenOf, Builtin.firstCells]
    · simp [Builtin.append_, run_underlying ht, sizeOf, typeInfo, hi, Builtin.lenOf, Builtin.firstCells, hnc, storeCells]
  | some a =>
    obtain ⟨v', w', h2, h3, h4, _⟩ := run_append_own (P := P) w base t ty e i z 1 bytes ht hi hz hsize hby hzs (by omega) v n xs hown a m c ((List.range m).map f) (by simp) (fun j u hj => by
      have hjm : j < m := by have := (List.getElem?_eq_some_iff.1 hj).1; simpa using this
      rcases hr with h | ⟨b, off, he, hb, hc⟩
      · omega
      · cases he
        rw [List.getElem?_map, List.getElem?_range hjm] at hj
        rw [Go.WideShapes.add_plain, hc j hjm]; simpa using hj) (fun u hu => by
      obtain ⟨j, hj, rfl⟩ := List.mem_map.1 hu
      exact h1 j (List.mem_range.1 hj)) h63 hbytes hbase
    exact ⟨v', w', h2, h3, h4⟩
theorem infoBs : (Tryz.prog.info? 22).map (fun i => (i.zero, i.size, i.bytes)) = some (some (.slice none 0 0), 1, 24) := by kernel_rfl

set_option maxHeartbeats 1000000 in
set_option maxRecDepth 100000 in
theorem grow_any (n : Nat) (w : World) (hn : n ≤ 4294967296) :
    Calls Tryz.prog 96 #[.slice none 0 0, .int .i64 n] w fun e w' => ∃ v, e = .returned v ∧ Below w.heap.size w w' ∧ w'.ownsRow w.heap.size 22 1 v 0 [] := by
  obtain ⟨i0, hi, hz0, hz1, hz2⟩ := info_parts infoBs
  by_cases h0 : n = 0
  · subst h0
    go_enter Tryz.func96, Tryz.ntmps96
    go_wp2
    go_ret
    exact ⟨_, rfl, Below.refl _ _, World.ownsRow_nil _ _ _ _⟩
  · have hpos : 0 < n := by omega
    have hap : ∀ ty, (Builtin.append_ #[36, 3] ty #[.slice none 0 0, .int .i64 n]).run Tryz.prog w = _ := fun ty => Lib.run_append_nil_zeros w 36 3 ty 22 i0 (.slice none 0 0) .i64 .i64 Tryz.underlying36 Tryz.underlying3 hi hz0 n hpos (by omega) (by omega) (by rw [hz2]; omega)
    have hge := grownCap_ge w n 0 22
    have hle := grownCap_le_maxLen w n 0 22 (by unfold maxLen; omega)
    have hsz : (Builtin.zeroCells (Value.slice none 0 0).cells n ++ Builtin.zeroCells (Value.slice none 0 0).cells (grownCap w n 0 22 - n)).size = grownCap w n 0 22 := by
      rw [Array.size_append, size_zeroCells, size_zeroCells, show (Value.slice none 0 0).cells.size = 1 from rfl]; omega
    generalize grownCap w n 0 22 = G at hap hge hle hsz
    generalize (Builtin.zeroCells (Value.slice none 0 0).cells n ++ Builtin.zeroCells (Value.slice none 0 0).cells (G - n)) = C at hap hsz
    have hown := World.ownsRow_made (e := 22) (size := 1) (base := w.heap.size) w.drew C G (Nat.le_refl _) hle (by omega)
    have HO := Lib.hid hown
    have HS := Lib.hid hsz
    clear hown hsz
    unfold maxLen at hle
    have hnn : ¬ ((n : Int) < 0) := by omega
    have hnp : (n : Int) > 0 := by omega
    go_enter Tryz.func96, Tryz.ntmps96
    go_wp2_with (at_builtin; refine Lib.wpList_append_run _ rfl _ _ _ _ rfl _ _ rfl rfl _ _ (hap _) ?_)
    go_wp2
    go_ret
    exact ⟨_, rfl, ((Below.refl _ _).drew).alloc (Nat.le_refl _) _, HO.out⟩

/-- how many there are in the first k lists -/
def totL (L : Nat → Nat) : Nat → Nat
  | 0 => 0
  | k + 1 => totL L k + L k
def flatL (L : Nat → Nat) (f : Nat → Nat → Value) : Nat → List Value
  | 0 => []
  | k + 1 => flatL L f k ++ (List.range (L k)).map (f k)
theorem totL_mono (ln : Nat → Nat) {i j : Nat} (h : i ≤ j) : totL ln i ≤ totL ln j := by
  induction j with
  | zero => rw [show i = 0 by omega]; exact Nat.le_refl _
  | succ j ih =>
    by_cases e : i = j + 1
    · rw [e]; exact Nat.le_refl _
    · have := ih (by omega); simp only [totL]; omega

set_option maxHeartbeats 1000000 in
set_option maxRecDepth 100000 in
theorem concat_any (w : World) (p : Option Addr) (m c : Nat) (Q : Nat → Option Addr) (L C : Nat → Nat) (f : Nat → Nat → Value) (hm : m ≤ 4294967296) (ht : totL L m ≤ 4294967296)
    (hp : Reads w.heap.size w p m (fun i => .slice (Q i) (L i) (C i))) (hc : ∀ i, i < m → L i ≤ C i ∧ C i ≤ maxLen) (hr : ∀ i, i < m → Reads w.heap.size w (Q i) (L i) (f i)) (h1 : ∀ i, i < m → ∀ j, j < L i → (f i j).oneCell' = true) :
    Calls Tryz.prog 82 #[.slice p m c] w fun e w' => ∃ v, e = .returned v ∧ Below w.heap.size w w' ∧ w'.ownsRow w.heap.size 22 1 v (totL L m) (flatL L f m) := by
  obtain ⟨i0, hi, hz0, hz1, hz2⟩ := info_parts infoBs
  have HP := Lib.hid hp
  have HC := Lib.hid hc
  have HR := Lib.hid hr
  have H1 := Lib.hid h1
  clear hp hc hr h1
  go_enter Tryz.func82, Tryz.ntmps82
  go_wp2
  go_loop [3, 5, 11] (fun s _ i => ∃ k : Nat, k ≤ m ∧ i = .int .i64 (k : Int) ∧ s = .int .i64 (totL L k)) (fun _ _ i => m - (intOf i).toNat)
  case atStart => exact ⟨0, Nat.zero_le _, rfl, rfl⟩
  case round =>
    obtain ⟨k, hk, rfl, rfl⟩ := hrel
    by_cases hlt : k < m
    · rcases HP.out with h0 | ⟨b, off, rfl, hb, hcp⟩
      · omega
      have hcell := hcp k hlt
      have hcc := HC.out k hlt
      clear hcp
      unfold maxLen at hcc
      have hmo := totL_mono L (show k + 1 ≤ m by omega)
      simp only [totL] at hmo
      have hnn : ¬ ((totL L k : Int) + (L k : Int) < 0) := by omega
      go_wp2
      go_round
      case rel => exact ⟨k + 1, by omega, by go_num, by simp only [totL]; go_num⟩
      case measure => simp [intOf]; omega
    · obtain rfl : k = m := by omega
      go_wp2_with fail
      refine (grow_any (totL L k) w ht).mono ?_
      rintro e W ⟨v, rfl, hb, hown⟩
      have HB := Lib.hid hb
      have HO := Lib.hid hown
      clear hb hown
      go_wp2
      go_loopw [6, 8, 27] (fun v _ i wr => ∃ j : Nat, j ≤ k ∧ i = .int .i64 (j : Int) ∧ Below w.heap.size w wr ∧ wr.ownsRow w.heap.size 22 1 v (totL L j) (flatL L f j)) (fun _ _ i _ => k - (intOf i).toNat)
      case atStart => exact ⟨0, Nat.zero_le _, rfl, HB.out, HO.out⟩
      case round =>
        clear HB HO
        obtain ⟨j, hj, rfl, hb, hown⟩ := hrel
        by_cases hlt : j < k
        · rcases HP.out with h0 | ⟨b, off, rfl, hbb, hcp⟩
          · omega
          have hcell : wr.cell? ⟨b, off + j, none⟩ = _ := (hb.cell (p := ⟨b, off + j, none⟩) hbb).trans (hcp j hlt)
          have hcc := HC.out j hlt
          have hmo := totL_mono L (show j + 1 ≤ k by omega)
          simp only [totL] at hmo
          have hsz := hb.size
          have hap := fun ty => append_reads (P := Tryz.prog) wr w.heap.size w.heap.size 36 ty 22 i0 (.slice none 0 0) 24 Tryz.underlying36 hi hz0 hz1 hz2 rfl _ _ _ hown (Q j) (L j) (C j) (f j) ((HR.out j hlt).below hb) (H1.out j hlt) (by unfold maxLen; omega) (by omega) hsz
          have HAP := Lib.hid hap
          have HB := Lib.hid hb
          have HO := Lib.hid hown
          clear hcp hap hb hown hmo hcc
          go_wp2_with (at_builtin; (obtain ⟨v', w1, hrun, hown1, hgr1⟩ := HAP.out _; refine Lib.wpList_append_run _ rfl _ _ _ _ rfl _ _ rfl rfl v' w1 hrun ?_))
          have H2 := Lib.hid (HB.out.grown hgr1 hsz (fun q e => (HO.out.lt q e).1))
          have H3 := Lib.hid hown1
          clear hrun hown1 hgr1 hcell
          go_wp2
          go_roundw
          case rel => exact ⟨j + 1, by omega, by go_num, H2.out, H3.out⟩
          case measure => simp [intOf]; omega
        · obtain rfl : j = k := by omega
          have H2 := Lib.hid hb
          have H3 := Lib.hid hown
          clear hb hown
          go_wp2
          go_ret
          exact ⟨_, rfl, H2.out, H3.out⟩
end Go.Proofs.YtejknkgbkkdaiaaGreatDoor

namespace Go.Proofs.YtejknkgbkkdaiaaGreatDoor.LentBytes
open Go.RowKit
set_option linter.unusedSimpArgs false
set_option linter.unusedVariables false

set_option maxHeartbeats 1000000 in
set_option maxRecDepth 100000 in
theorem lent2 (B : Nat) (p : Option Addr) (n cap : Nat) (h : Nat → Int) (w : World) (hn : n ≤ 4294967295) (hp : p = none → n = 0 ∧ cap = 0) (hr : Reads B w p n (fun i => .int .u8 (h i))) (hB : B ≤ w.heap.size) :
    Calls Tryz.prog 7 #[.slice p n cap] w fun e w' => ∃ g, e = .returned (.slice (some ⟨g, 0, none⟩) n (n + 12)) ∧ w.heap.size ≤ g ∧ Below w.heap.size w w' ∧ w'.ownsRow w.heap.size 5 1 (.slice (some ⟨g, 0, none⟩) (n + 12) (n + 12)) (n + 12) ((List.range (n + 12)).map (ext n h)) := by
  obtain ⟨i0, hi, hz0, hz1, hz2⟩ := info_parts info
  have hmk := run_make (P := Tryz.prog) w 22 5 i0 (.int .u8 0) Tryz.underlying22 hi hz0 .i64 .i64 0 (n + 12) (by omega) (by omega) (by rw [hz2]; omega) (by omega)
  have hsC : (madeCells (Value.int .u8 0).cells (((n : Int) + 12).toNat * i0.size)).size = n + 12 := by rw [size_madeCells, hz1]; omega
  rw [show ((n : Int) + 12).toNat = n + 12 by omega, Int.toNat_zero] at hmk
  rw [show ((n : Int) + 12).toNat = n + 12 by omega] at hsC
  generalize madeCells (Value.int .u8 0).cells ((n + 12) * i0.size) = C at hmk hsC
  have hown := World.ownsRow_made (e := 5) (size := 1) w C (n + 12) (Nat.le_refl _) (by unfold maxLen; omega) (by omega)
  have hb0 : Below w.heap.size w (w.alloc (.cells C 5)) := (Below.refl _ _).alloc (Nat.le_refl _) _
  have hr0 := hr.below (hb0.mono hB)
  have HC := Lib.hid hsC
  clear hsC hr
  obtain ⟨xs, hxs⟩ : ∃ xs, xs = (List.range n).map (fun i => Value.int .u8 (h i)) := ⟨_, rfl⟩
  have hxl : xs.length = n * 1 := by rw [hxs]; simp
  have hxc : ∀ ad, p = some ad → ∀ j x, xs[j]? = some x → (w.alloc (.cells C 5)).cell? (ad.add j) = some x := by
    rintro ad rfl j x hj
    rw [hxs] at hj
    obtain ⟨hj2, rfl⟩ := row_at hj
    clear hj
    rcases hr0 with h0 | ⟨b, off, he, hb, hc⟩
    · omega
    · cases he
      rw [← hc j hj2, Go.WideShapes.add_plain]
  have hx1 : ∀ x ∈ xs, x.oneCell' = true := by
    intro x hx; rw [hxs] at hx; simp at hx; obtain ⟨i, _, rfl⟩ := hx; rfl
  have HX := Lib.hid hxs
  clear hxs hr0
  have HXC := Lib.hid hxc
  clear hxc
  go_enter Tryz.func7, Tryz.ntmps7
  go_wp2_with (at_builtin; refine wpList_append_fits_any _ rfl (.tmp 9) (.tmp 10) 22 rfl w.heap.size 5 i0 1 Tryz.underlying22 hi hz1 w.heap.size 0 (n + 12) [] rfl hown p n cap xs rfl hxl hp HXC.out hx1 (by omega) ?_)
  intro w1 hown1 hgrow1
  have hb1 : Below w.heap.size w w1 := hb0.grown hgrow1 (by simp) (fun k e => by cases e; exact Nat.le_refl _)
  have hown1' : w1.ownsRow w.heap.size 5 1 (.slice (some ⟨w.heap.size, 0, none⟩) (n + 0) (n + 12)) (n + 0) ((List.range (n + 0)).map (ext n h)) := by
    rw [Nat.add_zero, ← ext_row n h, ← HX.out]
    simpa using hown1
  clear hown1 hgrow1 hown HXC HC hb0 hmk
  go_wp2
  go_loopw [3, 4] (fun v i wr => ∃ k : Nat, k ≤ 12 ∧ i = .int .i64 k ∧ v = .slice (some ⟨w.heap.size, 0, none⟩) (n + k) (n + 12) ∧ wr.ownsRow w.heap.size 5 1 (.slice (some ⟨w.heap.size, 0, none⟩) (n + k) (n + 12)) (n + k) ((List.range (n + k)).map (ext n h)) ∧ Below w.heap.size w wr) (fun _ i _ => 12 - (intOf i).toNat)
  case atStart => exact ⟨0, Nat.zero_le _, rfl, rfl, hown1', hb1⟩
  case round =>
    obtain ⟨k, hk, rfl, rfl, hown, hbel⟩ := hrel
    clear hown1' hb1
    have hsz := hbel.size
    by_cases hlt : k < 12
    · go_wp2_with (first | (go_at_call 23; refine (markB_any 1 _ _ (by omega) (by omega) (by omega) (by omega)).mono ?_; rintro e w' ⟨rfl, rfl⟩) | (at_builtin; refine wpList_append_fits _ rfl (.tmp 16) (.tmp 19) 22 rfl w.heap.size 5 i0 1 Tryz.underlying22 hi hz1 w.heap.size (n + k) (n + 12) ((List.range (n + k)).map (ext n h)) rfl (hown.alloc _) ⟨wr.heap.size, 0, none⟩ 1 1 [.int .u8 (mk k)] rfl rfl ?c1 ?c2 (by omega) ?next))
      case c1 => exact World.news_of_block (heap_alloc_new _ _)
      case c2 => intro y hy; simp at hy; subst hy; rfl
      case next =>
        intro w2 hown2 hgrow2
        rw [ext_step] at hown2
        have hb2 : Below w.heap.size w w2 := (hbel.alloc hsz _).grown hgrow2 (by simp; omega) (fun k e => by cases e; exact Nat.le_refl _)
        clear hgrow2 hown hbel
        go_wp2
        go_roundw
        case rel => exact ⟨k + 1, by omega, by go_num, rfl, hown2, hb2⟩
        case measure => simp [intOf]; omega
    · obtain rfl : k = 12 := by omega
      go_wp2
      go_ret
      exact ⟨w.heap.size, rfl, Nat.le_refl _, hbel, hown⟩

end Go.Proofs.YtejknkgbkkdaiaaGreatDoor.LentBytes
namespace Go.Proofs.YtejknkgbkkdaiaaGreatDoor
open Go.RowKit
set_option linter.unusedSimpArgs false
set_option linter.unusedVariables false
/-- what size answers: how many rows and bytes there are, or more than are gone through -/
def SizeIs (w w' : World) (m s : Nat) (e : Ending) : Prop := ∃ x : Nat, e = .returned (.int .i64 (x : Int)) ∧ ((s ≤ 700 ∧ x = s) ∨ (700 < s ∧ 700 < x)) ∧ w = w' ∧ x ≤ 281474976710656
end Go.Proofs.YtejknkgbkkdaiaaGreatDoor
namespace Go.Proofs.YtejknkgbkkdaiaaGreatDoor
open Go.RowKit
set_option linter.unusedVariables false
set_option linter.unusedSimpArgs false

theorem owns_below {w w' : World} {base : Nat} {e : TypeId} {k : Nat} {v : Value} {n : Nat} {xs : List Value} (h : w.ownsRow base e k v n xs) (hb : Below w.heap.size w w') : w'.ownsRow base e k v n xs := by
  refine ⟨h.1, ?_⟩
  rcases h.2 with h2 | ⟨g, cap, cur, h1, h2, h3, h4⟩
  · exact .inl h2
  · exact .inr ⟨g, cap, cur, h1, h2, (hb.block g (Array.getElem?_eq_some_iff.1 h3).1).trans h3, h4⟩
/-- a row that is lent -/
def srow (G ln : Nat → Nat) (i : Nat) : Value := .slice (some ⟨G i, 0, none⟩) (ln i) (ln i + 12)
theorem owns_gr {w w' : World} {base : Nat} {e : TypeId} {k : Nat} {v : Value} {n : Nat} {xs : List Value} {row : Option Nat} (h : w.ownsRow base e k v n xs) (hg : w.grownBy w' row) (hne : ∀ q, row = some q → v.ownBlock ≠ some q) : w'.ownsRow base e k v n xs := by
  refine ⟨h.1, ?_⟩
  rcases h.2 with h2 | ⟨g, cap, cur, rfl, h2, h3, h4⟩
  · exact .inl h2
  · refine .inr ⟨g, cap, cur, rfl, h2, (hg.block g (Array.getElem?_eq_some_iff.1 h3).1 ?_).trans h3, h4⟩
    intro e
    exact hne g e.symm rfl
/-- two owned rows of unlike types lie apart -/
theorem owns_apart {w : World} {base base' : Nat} {e e' : TypeId} {k k' n n' : Nat} {v v' : Value} {xs xs' : List Value} (h : w.ownsRow base e k v n xs) (h' : w.ownsRow base' e' k' v' n' xs') (he : e ≠ e') (q : Nat) (hq : v'.ownBlock = some q) : v.ownBlock ≠ some q := by
  intro hv
  rcases h.2 with ⟨rfl, _⟩ | ⟨g, cap, cur, rfl, _, h3, _⟩
  · cases hv
  rcases h'.2 with ⟨rfl, _⟩ | ⟨g', cap', cur', rfl, _, h3', _⟩
  · cases hq
  have e1 : g = q := by simpa [Value.ownBlock] using hv
  have e2 : g' = q := by simpa [Value.ownBlock] using hq
  subst e1
  subst e2
  rw [h3] at h3'
  injection h3' with h4
  injection h4 with _ h5
  exact he h5
/-- v holds the first j rows, each lent -/
structure LR (w0 w : World) (v : Value) (j : Nat) (G ln : Nat → Nat) (h : Nat → Nat → Int) : Prop where
  bel : Below w0.heap.size w0 w
  own : w.ownsRow w0.heap.size 22 1 v j ((List.range j).map (srow G ln))
  row : ∀ i, i < j → w.ownsRow w0.heap.size 5 1 (.slice (some ⟨G i, 0, none⟩) (ln i + 12) (ln i + 12)) (ln i + 12) ((List.range (ln i + 12)).map (LentBytes.ext (ln i) (h i)))
section
variable {w0 w w' : World} {v : Value} {j : Nat} {G ln : Nat → Nat} {h : Nat → Nat → Int}
theorem LR.nil (w : World) (G ln : Nat → Nat) (h : Nat → Nat → Int) : LR w w (.slice none 0 0) 0 G ln h := ⟨Below.refl _ _, World.ownsRow_nil _ _ _ _, fun i hi => by omega⟩
theorem LR.go (H : LR w0 w v j G ln h) (g : Below w.heap.size w w') : LR w0 w' v j G ln h := ⟨H.bel.trans (g.mono H.bel.size), owns_below H.own g, fun i hi => owns_below (H.row i hi) g⟩
theorem LR.alloc (H : LR w0 w v j G ln h) (o : Obj) : LR w0 (w.alloc o) v j G ln h := H.go ((Below.refl _ _).alloc (Nat.le_refl _) _)
theorem LR.drew (H : LR w0 w v j G ln h) : LR w0 w.drew v j G ln h := ⟨H.bel.drew, H.own, H.row⟩
theorem LR.reads (H : LR w0 w v j G ln h) (i : Nat) (hi : i < j) : Reads w.heap.size w (some ⟨G i, 0, none⟩) (ln i + 12) (LentBytes.ext (ln i) (h i)) := by
  obtain ⟨p, c, he, hr, _⟩ := owns_reads (H.row i hi)
  cases he
  exact hr
theorem LR.congr {G' : Nat → Nat} (H : LR w0 w v j G ln h) (e : ∀ i, i < j → G i = G' i) : LR w0 w v j G' ln h :=
  ⟨H.bel, by rw [List.map_congr_left (g := srow G ln) fun i hi => by unfold srow; rw [e i (List.mem_range.1 hi)]]; exact H.own, fun i hi => by rw [← e i hi]; exact H.row i hi⟩
/-- one more -/
theorem LR.append (H : LR w0 w v j G ln h) (g : Nat) (hg : G j = g) (ty : TypeId) (hr : w.ownsRow w0.heap.size 5 1 (.slice (some ⟨g, 0, none⟩) (ln j + 12) (ln j + 12)) (ln j + 12) ((List.range (ln j + 12)).map (LentBytes.ext (ln j) (h j)))) (hj : j + 1 ≤ 4294967296) :
    ∃ v' w', (Builtin.append_ #[36, 36] ty #[v, .slice (some ⟨w.heap.size, 0, none⟩) 1 1]).run Tryz.prog (w.alloc (.cells #[.slice (some ⟨g, 0, none⟩) (ln j) (ln j + 12)] 22)) = .ok v' w' ∧ LR w0 w' v' (j + 1) G ln h := by
  obtain ⟨i0, hi, hz0, hz1, hz2⟩ := info_parts infoBs
  have hsz := H.bel.size
  have Ha := H.alloc (.cells #[.slice (some ⟨g, 0, none⟩) (ln j) (ln j + 12)] 22)
  have hra := owns_below hr ((Below.refl _ _).alloc (Nat.le_refl _) (.cells #[.slice (some ⟨g, 0, none⟩) (ln j) (ln j + 12)] 22))
  obtain ⟨v', w', h1, h2, h3⟩ := append_reads (P := Tryz.prog) (w.alloc (.cells #[.slice (some ⟨g, 0, none⟩) (ln j) (ln j + 12)] 22)) w0.heap.size _ 36 ty 22 i0 (.slice none 0 0) 24 Tryz.underlying36 hi hz0 hz1 hz2 rfl _ _ _ Ha.own (some ⟨w.heap.size, 0, none⟩) 1 1 (fun _ => .slice (some ⟨g, 0, none⟩) (ln j) (ln j + 12))
    (reads_laid (laid_at rfl) (fun i hi => by rw [show i = 0 by omega]; rfl)) (fun _ _ => rfl) (by unfold maxLen; omega) (by omega) (by simp; omega)
  refine ⟨v', w', h1, Ha.bel.grown h3 Ha.bel.size (fun q e => (Ha.own.lt q e).1), ?_, fun i hi => ?_⟩
  · rw [List.range_succ, List.map_append, List.map_singleton, show srow G ln j = .slice (some ⟨g, 0, none⟩) (ln j) (ln j + 12) by unfold srow; rw [hg]]
    simpa using h2
  · by_cases e : i = j
    · subst e
      rw [hg]
      exact owns_gr hra h3 fun q e => owns_apart hra Ha.own (by decide) q e
    · have hro := Ha.row i (by omega)
      exact owns_gr hro h3 fun q e => owns_apart hro Ha.own (by decide) q e
end
end Go.Proofs.YtejknkgbkkdaiaaGreatDoor
namespace Go.Proofs.YtejknkgbkkdaiaaGreatDoor
def upd' {α : Type} (f : Nat → α) (k : Nat) (x : α) : Nat → α := fun i => if i = k then x else f i
theorem upd_at' {α : Type} (f : Nat → α) (k : Nat) (x : α) : upd' f k x k = x := by unfold upd'; rw [if_pos rfl]
theorem upd_lt' {α : Type} (f : Nat → α) (k i : Nat) (x : α) (h : i < k) : upd' f k x i = f i := by unfold upd'; rw [if_neg (by omega)]
end Go.Proofs.YtejknkgbkkdaiaaGreatDoor
namespace Go.Proofs.YtejknkgbkkdaiaaGreatDoor
open Go.RowKit
set_option linter.unusedVariables false
set_option linter.unusedSimpArgs false

theorem owns_base {w : World} {base base' : Nat} {e : TypeId} {k : Nat} {v : Value} {n : Nat} {xs : List Value} (h : w.ownsRow base e k v n xs) (hb : base' ≤ base) : w.ownsRow base' e k v n xs := by
  refine ⟨h.1, ?_⟩
  rcases h.2 with h2 | ⟨g, cap, cur, h1, h2, h3⟩
  · exact .inl h2
  · exact .inr ⟨g, cap, cur, h1, Nat.le_trans hb h2, h3⟩
/-- all rows' bytes, one behind the other -/
theorem joined_ex (ln : Nat → Nat) (f : Nat → Nat → BitVec 8) (m : Nat) : ∃ g : Nat → BitVec 8, ∀ i, i < m → ∀ q, q < ln i → f i q = g (pos ln i + q) := by
  induction m with
  | zero => exact ⟨fun _ => 0#8, fun i hi => by omega⟩
  | succ m ih =>
    obtain ⟨g, hg⟩ := ih
    refine ⟨fun x => if x < pos ln m then g x else f m (x - pos ln m), fun i hi q hq => ?_⟩
    by_cases e : i = m
    · subst e
      simp only [show ¬ (pos ln i + q < pos ln i) by omega, if_false]
      rw [show pos ln i + q - pos ln i = q by omega]
    · have h1 := pos_mono ln (show i + 1 ≤ m by omega)
      have h2 : pos ln (i + 1) = pos ln i + ln i := rfl
      simp only [show pos ln i + q < pos ln m by omega, if_true]
      exact hg i (by omega) q hq
theorem pos_ge (ln : Nat → Nat) (m j : Nat) (h : j < m) : ln j ≤ pos ln m := by
  induction m with
  | zero => omega
  | succ m ih =>
    have e : pos ln (m + 1) = pos ln m + ln m := rfl
    by_cases hj : j = m
    · subst hj; omega
    · have := ih (by omega); omega
theorem zero_atL (n i : Nat) (hi : i < n) : (List.replicate n (Value.int .u8 0)).toArray[i]? = some (.int .u8 (ub 0#8)) := by
  rw [List.getElem?_toArray, List.getElem?_replicate, if_pos hi]; rfl
theorem tag_there (w3 : World) : (w3.alloc (.cells (List.replicate 32 (Value.int .u8 0)).toArray 25)).there w3.heap.size 0 32 := there_block (laid_at rfl) (by simp)
theorem tag_store (w3 : World) (s : Nat → BitVec 8) : BT ((w3.alloc (.cells (List.replicate 32 (Value.int .u8 0)).toArray 25)).setCells w3.heap.size 0 (tagC s)) w3.heap.size 32 s ∧ Below w3.heap.size w3 ((w3.alloc (.cells (List.replicate 32 (Value.int .u8 0)).toArray 25)).setCells w3.heap.size 0 (tagC s)) := by
  have ht0 : BT (w3.alloc (.cells (List.replicate 32 (Value.int .u8 0)).toArray 25)) w3.heap.size 32 (fun _ => 0#8) := BT.of_cells (laid_at rfl) (fun i hi => zero_atL 32 i hi)
  exact ⟨ht0.setFirst 32 (Nat.le_refl _) _ rfl fun j h1 h2 => by omega, ((Below.refl _ _).alloc (Nat.le_refl _) _).grown (gr_setCells (hb := w3.heap.size) (tagC s) 0 _) (by simp) (by rintro q ⟨⟩; exact Nat.le_refl _)⟩
end Go.Proofs.YtejknkgbkkdaiaaGreatDoor
