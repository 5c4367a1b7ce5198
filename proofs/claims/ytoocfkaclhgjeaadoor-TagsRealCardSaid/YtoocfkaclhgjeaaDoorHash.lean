/-
  A hasher's cells, and what stays of them.
-/
import Derived.Test.YtoocfkaclhgjeaaDoorSha
import Derived.Deep.MidRow
import Derived.Maps.AppendAt
namespace Go.Proofs.YtoocfkaclhgjeaaDoor
open Go.RowKit
set_option linter.unusedSimpArgs false
set_option linter.unusedVariables false

theorem below_gr {w w' : World} (h : Below w.heap.size w w') (row : Option Nat) : w.grownBy w' row := ⟨h.os, h.tape, h.output, h.size, fun k hk _ => h.block k hk⟩
theorem gr_below {B hb : Nat} {w w' : World} (h : w.grownBy w' (some hb)) (hB : B ≤ hb) (hs : B ≤ w.heap.size) : Below B w w' :=
  ⟨h.os, h.tape, h.output, h.size, fun k hk => h.block k (by omega) (by simp; omega)⟩
theorem gr_alloc {hb : Nat} {w : World} (o : Obj) : w.grownBy (w.alloc o) (some hb) := World.grownBy_alloc w o _
theorem gr_drew {row : Option Nat} {w : World} : w.grownBy w.drew row := ⟨rfl, rfl, rfl, Nat.le_refl _, fun _ _ _ => rfl⟩
theorem gr_setCell {hb i : Nat} {w : World} (v : Value) : w.grownBy (w.setCell ⟨hb, i, none⟩ v) (some hb) :=
  ⟨rfl, rfl, rfl, by simp [World.setCell], fun k _ hk => Below.heap_setCell w _ v k (fun e => hk (by rw [e]))⟩
theorem gr_setCells {hb : Nat} (vs : List Value) : ∀ (o : Nat) (w : World), w.grownBy (w.setCells hb o vs) (some hb) := by
  induction vs with
  | nil => intro o w; exact World.grownBy.refl _ _
  | cons v r ih => intro o w; exact (gr_setCell v).trans (ih (o + 1) _)

theorem cell_ne {w : World} {b i j : Nat} {v : Value} (h : i ≠ j) : (w.setCell ⟨b, i, none⟩ v).cell? ⟨b, j, none⟩ = w.cell? ⟨b, j, none⟩ :=
  World.cell?_setCell_other w _ _ v (by simp [h])
theorem fro_eq {w : World} {b i j : Nat} {v : Value} : (w.setCell ⟨b, i, none⟩ v).frozen? ⟨b, j, none⟩ = w.frozen? ⟨b, j, none⟩ := World.frozen?_setCell w _ _ v
/-- the cells of a hasher at block hb: eight words, the open block, the length, whom it takes for its own -/
structure HS (w : World) (hb : Nat) (st : Nat → BitVec 32) (op : Nat → BitVec 8) (n : Nat) (own : Option Addr) : Prop where
  lt : hb < w.heap.size
  word : ∀ i, i < 8 → w.cell? ⟨hb, i, none⟩ = some (.int .u32 (u (st i)))
  byte : ∀ j, j < 64 → w.cell? ⟨hb, 8 + j, none⟩ = some (.int .u8 (ub (op j)))
  len : w.cell? ⟨hb, 72, none⟩ = some (.int .i64 n)
  own : w.cell? ⟨hb, 73, none⟩ = some (.pointer own)
  free : ∀ i, w.frozen? ⟨hb, i, none⟩ = false
section
variable {w w' : World} {hb n : Nat} {st st' : Nat → BitVec 32} {op op' : Nat → BitVec 8} {own : Option Addr}
theorem HS.of_block (h : HS w hb st op n own) (hs : w.heap.size ≤ w'.heap.size) (e : w'.heap[hb]? = w.heap[hb]?) : HS w' hb st op n own :=
  ⟨Nat.lt_of_lt_of_le h.lt hs, fun i hi => (World.cell?_of_block (a := ⟨hb, i, none⟩) e).trans (h.word i hi), fun i hi => (World.cell?_of_block (a := ⟨hb, 8 + i, none⟩) e).trans (h.byte i hi),
   (World.cell?_of_block (a := ⟨hb, 72, none⟩) e).trans h.len, (World.cell?_of_block (a := ⟨hb, 73, none⟩) e).trans h.own, fun i => (World.frozen?_of_block (a := ⟨hb, i, none⟩) e).trans (h.free i)⟩
theorem HS.gr {row : Option Nat} (h : HS w hb st op n own) (g : w.grownBy w' row) (hne : some hb ≠ row) : HS w' hb st op n own := h.of_block g.size (g.block hb h.lt hne)
theorem HS.below {B : Nat} (h : HS w hb st op n own) (g : Below B w w') (hB : hb < B) : HS w' hb st op n own := h.of_block g.size (g.block hb hB)
theorem HS.below' (h : HS w hb st op n own) (g : Below w.heap.size w w') : HS w' hb st op n own := h.below g h.lt
theorem HS.alloc (h : HS w hb st op n own) (o : Obj) : HS (w.alloc o) hb st op n own := h.gr (World.grownBy_alloc w o none) (by simp)
theorem HS.drew (h : HS w hb st op n own) : HS w.drew hb st op n own := h.of_block (Nat.le_refl _) rfl
theorem HS.congr (h : HS w hb st op n own) (e : ∀ i, i < 8 → st i = st' i) (e' : ∀ i, i < 64 → op i = op' i) : HS w hb st' op' n own :=
  ⟨h.lt, fun i hi => by rw [← e i hi]; exact h.word i hi, fun i hi => by rw [← e' i hi]; exact h.byte i hi, h.len, h.own, h.free⟩
theorem HS.is (h : HS w hb st op n own) (i : Nat) (hi : i < 74) : (w.cell? ⟨hb, i, none⟩).isSome = true := by
  by_cases h1 : i < 8
  · rw [h.word i h1]; rfl
  · by_cases h2 : i < 72
    · have := h.byte (i - 8) (by omega)
      rw [show 8 + (i - 8) = i by omega] at this
      rw [this]; rfl
    · rcases (show i = 72 ∨ i = 73 by omega) with rfl | rfl
      · rw [h.len]; rfl
      · rw [h.own]; rfl
theorem setCells_other {vs : List Value} {o i : Nat} {w : World} (h : i < o ∨ o + vs.length ≤ i) : (w.setCells hb o vs).cell? ⟨hb, i, none⟩ = w.cell? ⟨hb, i, none⟩ :=
  World.cell?_setCells_out hb vs o w _ (fun _ _ => h)
theorem size_setCells (vs : List Value) : ∀ (o : Nat) (w : World), (w.setCells hb o vs).heap.size = w.heap.size := by
  induction vs with
  | nil => intro o w; rfl
  | cons v r ih => intro o w; exact (ih _ _).trans (by simp [World.setCell])
/-- all eight words are laid anew -/
theorem HS.setWords (h : HS w hb st op n own) (vs : List Value) (hv : vs = (List.range 8).map fun i => .int .u32 (u (st' i))) : HS (w.setCells hb 0 vs) hb st' op n own := by
  have hl : vs.length = 8 := by rw [hv]; simp
  refine ⟨by rw [size_setCells]; exact h.lt, fun i hi => ?_, fun j hj => (setCells_other (by omega)).trans (h.byte j hj), (setCells_other (by omega)).trans h.len, (setCells_other (by omega)).trans h.own, fun i => (World.frozen?_setCells _ _ _ _ _).trans (h.free i)⟩
  have := World.cell?_setCells_in hb vs 0 w (fun j hj => by rw [Nat.zero_add]; exact h.is j (by omega)) i (by omega)
  rw [Nat.zero_add] at this
  rw [this]
  subst hv
  simp
/-- one word is laid anew -/
theorem HS.setWord (h : HS w hb st op n own) (i : Nat) (hi : i < 8) (x : BitVec 32) (hx : st' i = x) (ho : ∀ j, j < 8 → j ≠ i → st' j = st j) : HS (w.setCell ⟨hb, i, none⟩ (.int .u32 (u x))) hb st' op n own := by
  refine ⟨by simpa [World.setCell] using h.lt, fun j hj => ?_, fun j hj => (cell_ne (by omega)).trans (h.byte j hj), (cell_ne (by omega)).trans h.len, (cell_ne (by omega)).trans h.own, fun i => fro_eq.trans (h.free i)⟩
  by_cases e : j = i
  · subst e
    rw [World.cell?_setCell_same' _ _ _ (h.is j (by omega)), hx]
  · rw [cell_ne (Ne.symm e), ho j hj e]; exact h.word j hj
theorem HS.setLen (h : HS w hb st op n own) (m : Nat) (v : Value) (hv : v = .int .i64 m) : HS (w.setCell ⟨hb, 72, none⟩ v) hb st op m own := by
  subst hv
  exact ⟨by simpa [World.setCell] using h.lt, fun j hj => (cell_ne (by omega)).trans (h.word j hj), fun j hj => (cell_ne (by omega)).trans (h.byte j hj),
    World.cell?_setCell_same' _ _ _ (h.is 72 (by omega)), (cell_ne (by omega)).trans h.own, fun i => fro_eq.trans (h.free i)⟩
theorem HS.setOwn {own' : Option Addr} (h : HS w hb st op n own) (v : Value) (hv : v = .pointer own') : HS (w.setCell ⟨hb, 73, none⟩ v) hb st op n own' := by
  subst hv
  exact ⟨by simpa [World.setCell] using h.lt, fun j hj => (cell_ne (by omega)).trans (h.word j hj), fun j hj => (cell_ne (by omega)).trans (h.byte j hj),
    (cell_ne (by omega)).trans h.len, World.cell?_setCell_same' _ _ _ (h.is 73 (by omega)), fun i => fro_eq.trans (h.free i)⟩
/-- some bytes of the open block are laid anew -/
theorem HS.setBytes (h : HS w hb st op n own) (o m : Nat) (hm : o + m ≤ 64) (vs : List Value) (hv : vs = (List.range m).map fun i => .int .u8 (ub (op' (o + i)))) (ho : ∀ j, j < o ∨ o + m ≤ j → op' j = op j) : HS (w.setCells hb (8 + o) vs) hb st op' n own := by
  have hl : vs.length = m := by rw [hv]; simp
  refine ⟨by rw [size_setCells]; exact h.lt, fun i hi => (setCells_other (by omega)).trans (h.word i hi), fun j hj => ?_, (setCells_other (by omega)).trans h.len, (setCells_other (by omega)).trans h.own, fun i => (World.frozen?_setCells _ _ _ _ _).trans (h.free i)⟩
  by_cases hin : o ≤ j ∧ j < o + m
  · have := World.cell?_setCells_in hb vs (8 + o) w (fun i hi => h.is _ (by omega)) (j - o) (by omega)
    rw [show 8 + o + (j - o) = 8 + j by omega] at this
    rw [this]
    subst hv
    simp [show o + (j - o) = j by omega]
  · rw [setCells_other (by omega), ho j (by omega)]; exact h.byte j hj
end
/-- the cells as a list -/
def hcells (st : Nat → BitVec 32) (op : Nat → BitVec 8) (n : Nat) (own : Option Addr) : List Value :=
  ((List.range 8).map fun i => Value.int .u32 (u (st i))) ++ ((List.range 64).map fun i => Value.int .u8 (ub (op i))) ++ [.int .i64 n, .pointer own]
theorem hcells_len (st : Nat → BitVec 32) (op : Nat → BitVec 8) (n : Nat) (own : Option Addr) : (hcells st op n own).length = 74 := by simp [hcells]
theorem hcells_word (st : Nat → BitVec 32) (op : Nat → BitVec 8) (n : Nat) (own : Option Addr) (i : Nat) (hi : i < 8) : (hcells st op n own)[i]? = some (.int .u32 (u (st i))) := by
  unfold hcells
  rw [List.append_assoc, List.getElem?_append_left (by simp; omega)]; simp [hi]
theorem hcells_byte (st : Nat → BitVec 32) (op : Nat → BitVec 8) (n : Nat) (own : Option Addr) (j : Nat) (hj : j < 64) : (hcells st op n own)[8 + j]? = some (.int .u8 (ub (op j))) := by
  unfold hcells
  rw [List.append_assoc, List.getElem?_append_right (by simp), List.getElem?_append_left (by simp; omega)]; simp [hj]
theorem hcells_72 (st : Nat → BitVec 32) (op : Nat → BitVec 8) (n : Nat) (own : Option Addr) : (hcells st op n own)[72]? = some (.int .i64 n) := by
  unfold hcells
  rw [List.getElem?_append_right (by simp)]; simp
theorem hcells_73 (st : Nat → BitVec 32) (op : Nat → BitVec 8) (n : Nat) (own : Option Addr) : (hcells st op n own)[73]? = some (.pointer own) := by
  unfold hcells
  rw [List.getElem?_append_right (by simp)]; simp
theorem HS.of_cells {w : World} {hb : Nat} {st : Nat → BitVec 32} {op : Nat → BitVec 8} {n : Nat} {own : Option Addr} {t : TypeId} (h : w.heap[hb]? = some (.cells (hcells st op n own).toArray t (0, 0))) : HS w hb st op n own := by
  have hc : ∀ i, w.cell? ⟨hb, i, none⟩ = (hcells st op n own)[i]? := fun i => by rw [cell_of_row w hb i _ t (0, 0) h]; simp
  exact ⟨(Array.getElem?_eq_some_iff.1 h).1, fun i hi => (hc i).trans (hcells_word _ _ _ _ i hi), fun i hi => (hc _).trans (hcells_byte _ _ _ _ i hi), (hc _).trans (hcells_72 _ _ _ _), (hc _).trans (hcells_73 _ _ _ _),
    fun i => frozen_of_row w hb i _ t h⟩
theorem HS.range {w : World} {hb : Nat} {st : Nat → BitVec 32} {op : Nat → BitVec 8} {n : Nat} {own : Option Addr} (h : HS w hb st op n own) : w.rangeAt hb 0 (hcells st op n own) := fun j v hv => by
  rw [Nat.zero_add]
  have hj : j < 74 := by have := (List.getElem?_eq_some_iff.1 hv).1; rwa [hcells_len] at this
  by_cases h1 : j < 8
  · rw [hcells_word _ _ _ _ j h1] at hv; rw [← hv]; exact h.word j h1
  · by_cases h2 : j < 72
    · have e := hcells_byte st op n own (j - 8) (by omega)
      have c := h.byte (j - 8) (by omega)
      rw [show 8 + (j - 8) = j by omega] at e c
      rw [e] at hv; rw [← hv]; exact c
    · rcases (show j = 72 ∨ j = 73 by omega) with rfl | rfl
      · rw [hcells_72] at hv; rw [← hv]; exact h.len
      · rw [hcells_73] at hv; rw [← hv]; exact h.own
theorem HS.wordsAt {w : World} {hb : Nat} {st : Nat → BitVec 32} {op : Nat → BitVec 8} {n : Nat} {own : Option Addr} (h : HS w hb st op n own) : w.rangeAt hb 0 ((List.range 8).map fun i => .int .u32 (u (st i))) := fun j v hv => by
  have hj : j < 8 := by have := (List.getElem?_eq_some_iff.1 hv).1; simpa using this
  rw [Nat.zero_add, h.word j hj, ← hv]; simp [hj]
theorem HS.bytesAt {w : World} {hb : Nat} {st : Nat → BitVec 32} {op : Nat → BitVec 8} {n : Nat} {own : Option Addr} (h : HS w hb st op n own) : w.rangeAt hb 8 ((List.range 64).map fun i => .int .u8 (ub (op i))) := fun j v hv => by
  have hj : j < 64 := by have := (List.getElem?_eq_some_iff.1 hv).1; simpa using this
  rw [h.byte j hj, ← hv]; simp [hj]
theorem HS.there {w : World} {hb : Nat} {st : Nat → BitVec 32} {op : Nat → BitVec 8} {n : Nat} {own : Option Addr} (h : HS w hb st op n own) (o m : Nat) (hm : o + m ≤ 74) : w.there hb o m := fun j hj => ⟨h.is _ (by omega), h.free _⟩
/-- the constants' cells -/
def Kc (B : Nat) (w : World) : Prop := 1 < B ∧ ∀ i, i < 64 → w.cell? ⟨1, i, none⟩ = some (.int .u32 (u (kc i)))
theorem Kc.below {B : Nat} {w w' : World} (h : Kc B w) (hb : Below B w w') : Kc B w' := ⟨h.1, fun i hi => by rw [hb.cell (p := ⟨_, i, none⟩) h.1]; exact h.2 i hi⟩
theorem Kc.mono {B B' : Nat} {w : World} (h : Kc B w) (hb : B ≤ B') : Kc B' w := ⟨Nat.lt_of_lt_of_le h.1 hb, h.2⟩
/-- a hasher of the first n of some bytes -/
def HH (w : World) (hb : Nat) (g : Nat → BitVec 8) (n : Nat) (own : Option Addr) : Prop :=
  ∃ op, HS w hb (mid g (n / 64)) op n own ∧ ∀ j, j < n % 64 → op j = g (64 * (n / 64) + j)
end Go.Proofs.YtoocfkaclhgjeaaDoor
