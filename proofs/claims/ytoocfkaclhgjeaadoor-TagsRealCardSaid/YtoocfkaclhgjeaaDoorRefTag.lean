/-
  Contract: the document's tag of a row.
-/
import Derived.Test.YtoocfkaclhgjeaaDoorG9
import Derived.Test.YtoocfkaclhgjeaaDoorBlock
import Derived.Test.YtoocfkaclhgjeaaDoorG7
namespace Go.Proofs.YtoocfkaclhgjeaaDoor
open Go.RowKit
set_option linter.unusedVariables false
set_option linter.unusedSimpArgs false

theorem zeros_at (n i : Nat) (hi : i < n) : (List.replicate n (Value.int .u8 0)).toArray[i]? = some (.int .u8 (ub 0#8)) := by
  rw [List.getElem?_toArray, List.getElem?_replicate, if_pos hi]; rfl
theorem Reads.goes {w W : World} {p : Option Addr} {n : Nat} {f : Nat → Value} (h : Reads w.heap.size w p n f) (g : Below w.heap.size w W) : Reads W.heap.size W p n f := (h.below g).mono g.size
/-- what stays while blocks are taken: the result's cells, the constants, the filled bytes; VH: where the eight words lie, which turn -/
structure OS (w : World) (VH KH : Nat) (pA : Option Addr) (N : Nat) (fb : Nat → BitVec 8) (W : World) : Prop where
  res : BT W w.heap.size 32 (fun _ => 0#8)
  con : WT W KH 64 kc
  all : RX VH W pA N (fun i => .int .u8 (ub (fb i)))
  bel : Below w.heap.size w W
  vh : w.heap.size < VH ∧ VH ≠ KH
section
variable {w W W' : World} {VH KH N : Nat} {pA : Option Addr} {fb : Nat → BitVec 8}
theorem OS.gr (h : OS w VH KH pA N fb W) (g : W.grownBy W' (some VH)) : OS w VH KH pA N fb W' :=
  ⟨h.res.gr g (by have := h.vh; omega), h.con.gr g (by have := h.vh; omega), h.all.gr g, h.bel.grown g h.bel.size (by rintro q ⟨⟩; have := h.vh; omega), h.vh⟩
theorem OS.go (h : OS w VH KH pA N fb W) (g : Below W.heap.size W W') : OS w VH KH pA N fb W' := h.gr (below_gr g _)
end
/-- eight words that are read -/
structure R8 (G : Nat) (st : Nat → BitVec 32) (W : World) : Prop where
  lt : G < W.heap.size
  word : ∀ i, i < 8 → W.cell? ⟨G, i, none⟩ = some (.int .u32 (u (st i)))
theorem R8.go {G : Nat} {st : Nat → BitVec 32} {W W' : World} (h : R8 G st W) (g : Below W.heap.size W W') : R8 G st W' :=
  ⟨Nat.lt_of_lt_of_le h.lt g.size, fun i hi => by rw [g.cell (p := ⟨G, i, none⟩) h.lt]; exact h.word i hi⟩
theorem R8.gr {G hb : Nat} {st : Nat → BitVec 32} {W W' : World} (h : R8 G st W) (g : W.grownBy W' (some hb)) (hne : G ≠ hb) : R8 G st W' :=
  ⟨Nat.lt_of_lt_of_le h.lt g.size, fun i hi => by rw [World.cell?_of_block (w := W) (a := ⟨G, i, none⟩) (g.block G h.lt (by simpa using hne))]; exact h.word i hi⟩
/-- within a block -/
structure IN (w : World) (VH KH GW G : Nat) (pA : Option Addr) (N : Nat) (fb : Nat → BitVec 8) (v wd st : Nat → BitVec 32) (W : World) : Prop where
  os : OS w VH KH pA N fb W
  v : WT W VH 8 v
  wd : GW < W.heap.size ∧ ∀ i, i < 64 → W.cell? ⟨GW, i, none⟩ = some (.int .u32 (u (wd i)))
  s : R8 G st W
section
variable {w W W' : World} {VH KH N GW G : Nat} {pA : Option Addr} {fb : Nat → BitVec 8} {v wd st : Nat → BitVec 32}
theorem IN.go (h : IN w VH KH GW G pA N fb v wd st W) (g : Below W.heap.size W W') : IN w VH KH GW G pA N fb v wd st W' :=
  ⟨h.os.go g, h.v.below' g, ⟨Nat.lt_of_lt_of_le h.wd.1 g.size, fun i hi => by rw [g.cell (p := ⟨GW, i, none⟩) h.wd.1]; exact h.wd.2 i hi⟩, h.s.go g⟩
theorem IN.drew (h : IN w VH KH GW G pA N fb v wd st W) : IN w VH KH GW G pA N fb v wd st W.drew := h.go (Below.refl _ _).drew
theorem IN.alloc (h : IN w VH KH GW G pA N fb v wd st W) (o : Obj) : IN w VH KH GW G pA N fb v wd st (W.alloc o) := h.go ((Below.refl _ _).alloc (Nat.le_refl _) o)
end
theorem IN.reads3 {w W : World} {VH KH N GW G : Nat} {pA : Option Addr} {fb : Nat → BitVec 8} {v wd st : Nat → BitVec 32} (h : IN w VH KH GW G pA N fb v wd st W) : Reads W.heap.size W (some ⟨G, 0, none⟩) 3 (fun i => .int .u32 (u (st i))) :=
  .inr ⟨G, 0, rfl, h.s.lt, fun i hi => by rw [Nat.zero_add]; exact h.s.word i (by omega)⟩
/-- bytes, of which the first are told -/
def padK0 (s : Nat → BitVec 8) (n : Nat) : Nat → BitVec 8 := fun i => if i < n then s i else 0#8
theorem sliceElemW : Tryd.prog.underlying 99 = some (.slice (Tryd.prog.elem 99)) := by kernel_rfl
theorem sliceSizeW : Tryd.prog.elem 99 = 84 := by kernel_rfl
theorem sizeU32 (w : World) : (sizeOf 84).run Tryd.prog w = .ok 1 w := by
  obtain ⟨i0, hi, hz0, hz1, hz2⟩ := info_parts infoW
  simp [sizeOf, typeInfo, hi, hz1]
theorem first3 (G c : Nat) (hc : 8 ≤ c) (W : World) : (Instr.slice 99 (.slice (some ⟨G, 0, none⟩) 8 c) none (some (.int .i64 3)) none).run Tryd.prog W = .ok (.slice (some ⟨G, 0, none⟩) 3 c) W := by
  rw [run_slice_h W 99 _ 8 c sliceElemW .i64 3 (by omega) (by omega), sliceSizeW, sizeU32]
  simp [sliced, Addr.add_lit]
theorem rx_slice {hb : Nat} {W : World} {p : Option Addr} {N c q m : Nat} {f : Nat → Value} (h : RX hb W p N f) (hq : q + m ≤ N) (hm : 0 < m) (hc : N ≤ c) :
    ∃ b off, p = some ⟨b, off, none⟩ ∧ Reads W.heap.size W (some ⟨b, off + q, none⟩) m (fun i => f (q + i)) := by
  rcases h with h | ⟨b, off, rfl, h2, h3, h4⟩
  · omega
  · exact ⟨b, off, rfl, .inr ⟨b, off + q, rfl, h3, fun i hi => by rw [Nat.add_assoc]; exact h4 (q + i) (by omega)⟩⟩
theorem RX.to_reads {hb : Nat} {W : World} {p : Option Addr} {N : Nat} {f : Nat → Value} (h : RX hb W p N f) : Reads W.heap.size W p N f := by
  rcases h with h | ⟨b, off, h1, h2, h3, h4⟩
  · exact .inl h
  · exact .inr ⟨b, off, h1, h3, h4⟩
/-- a copy of eight words -/
theorem append_eight (W : World) (ty : TypeId) (base VH : Nat) (v : Nat → BitVec 32) (hv : WT W VH 8 v) (hb : base ≤ W.heap.size) :
    ∃ G c W', (Builtin.append_ #[99, 99] ty #[.slice (some ⟨W.heap.size, 0, none⟩) 0 0, .slice (some ⟨VH, 0, none⟩) 8 8]).run Tryd.prog (W.alloc (.cells #[] 84)) = .ok (.slice (some ⟨G, 0, none⟩) 8 c) W' ∧ W.heap.size ≤ G ∧ (8 ≤ c ∧ c ≤ maxLen) ∧ Below W.heap.size W W' ∧ R8 G v W' := by
  obtain ⟨i0, hi, hz0, hz1, hz2⟩ := info_parts infoW
  obtain ⟨v', w', h1, h2, h3⟩ := append_reads (P := Tryd.prog) (W.alloc (.cells #[] 84)) W.heap.size (W.heap.size + 1) 99 ty 84 i0 (.int .u32 0) 4 Tryd.underlying99 hi hz0 hz1 hz2 rfl _ _ _ owns_nil_alloc (some ⟨VH, 0, none⟩) 8 8 (fun i => .int .u32 (u (v i)))
    ((hv.alloc _).reads.mono (by simp)) (fun _ _ => rfl) (by unfold maxLen; omega) (by omega) (by simp)
  rw [Nat.zero_add, List.nil_append] at h2
  obtain ⟨G, c, rfl, hG, hc, hm⟩ := owns_some h2 (by omega)
  have hbel : Below W.heap.size W w' := ((Below.refl _ _).alloc (Nat.le_refl _) _).grown h3 (by simp) (by rintro q ⟨⟩; exact Nat.le_refl _)
  exact ⟨G, c, w', h1, hG, ⟨hc, hm⟩, hbel, (h2.lt G rfl).2, fun i hi => by rw [h2.cellAt i (by omega)]; simp [hi]⟩
end Go.Proofs.YtoocfkaclhgjeaaDoor
