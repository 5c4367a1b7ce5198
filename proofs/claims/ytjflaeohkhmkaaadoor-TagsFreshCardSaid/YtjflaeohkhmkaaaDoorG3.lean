/-
  Merged: Eight, Tail, Last, Step, Spread, Take, Fill, Pours, End, Tag, Of, OpenTag, Abc, Same.
-/
import Derived.Test.YtjflaeohkhmkaaaDoorG2
import Derived.LaidEqlPtr
import Derived.Test.YtjflaeohkhmkaaaDoorProg
import Derived.WalkKit
import Derived.WalkSpells
import Derived.Deep.RegionHeld3
import Derived.Deep.MidRow
import Derived.Deep.Cut
import Derived.Lib.SlBytesConst
import Derived.Deep.QuietTactic
import Derived.BigQuiet

namespace Go.Proofs.YtjflaeohkhmkaaaDoor
open Go.RowKit
set_option linter.unusedSimpArgs false
set_option linter.unusedVariables false

theorem laid_at {W : World} {o : Obj} {H : Nat} (e : H = W.heap.size) : (W.alloc o).heap[H]? = some o := by subst e; exact heap_alloc_new _ _
theorem laid_old {W : World} {o o' : Obj} {H : Nat} (h : W.heap[H]? = some o') : (W.alloc o).heap[H]? = some o' :=
  (heap_alloc_old W o (Array.getElem?_eq_some_iff.1 h).1).trans h
/-- a row that stands in a block -/
theorem reads_laid {W : World} {H : Nat} {cs : Array Value} {t : TypeId} {n : Nat} {f : Nat → Value} (hW : W.heap[H]? = some (.cells cs t (0, 0))) (h : ∀ i, i < n → cs[i]? = some (f i)) :
    Reads (H + 1) W (some ⟨H, 0, none⟩) n f :=
  .inr ⟨H, 0, rfl, by omega, fun i hi => by rw [Nat.zero_add, cell_of_row W H i cs t (0, 0) hW]; exact h i hi⟩
end Go.Proofs.YtjflaeohkhmkaaaDoor

namespace Go.Proofs.YtjflaeohkhmkaaaDoor
open Go.RowKit
set_option linter.unusedSimpArgs false
set_option linter.unusedVariables false
section
variable {P : Program} {ops : Array Oper} {Q Q' : Exit → Act → World → Prop} {md : Region.Mode}

theorem results_cell_mid {fn : Func} {p : Tmp} {ty : TypeId} (h : fn.results = #[.cell p ty]) (tmps : Array Value) (w : World) (g : Nat) (cs : List Value) (d : TypeDesc)
    (hp : tmps.getD p undef = .pointer (some ⟨g, 0, none⟩)) (hc : w.rangeAt g 0 cs) (hu : P.underlying ty = some d) (hd : d.isRow = true) (hi : (P.info? ty).map (·.size) = some cs.length) :
    (results fn tmps).run P w = .ok (.agg cs.toArray) w := by
  have hp' : tmps[p]?.getD undef = .pointer (some ⟨g, 0, none⟩) := by simpa using hp
  simp [results, h, hp', asAddr, run_loadVar_mid w g 0 ty cs d hc hu hd hi]
end
end Go.Proofs.YtjflaeohkhmkaaaDoor

namespace Go.Proofs.YtjflaeohkhmkaaaDoor
end Go.Proofs.YtjflaeohkhmkaaaDoor

namespace Go.Proofs.YtjflaeohkhmkaaaDoor
open Go.RowKit
set_option linter.unusedSimpArgs false
set_option linter.unusedVariables false

/-- the eight words' cells -/
abbrev At8 (w : World) (hb : Nat) (st : Nat → BitVec 32) : Prop :=
  w.cell? ⟨hb, 0, none⟩ = some (.int .u32 (u (st 0))) ∧ w.cell? ⟨hb, 1, none⟩ = some (.int .u32 (u (st 1))) ∧ w.cell? ⟨hb, 2, none⟩ = some (.int .u32 (u (st 2))) ∧ w.cell? ⟨hb, 3, none⟩ = some (.int .u32 (u (st 3))) ∧
  w.cell? ⟨hb, 4, none⟩ = some (.int .u32 (u (st 4))) ∧ w.cell? ⟨hb, 5, none⟩ = some (.int .u32 (u (st 5))) ∧ w.cell? ⟨hb, 6, none⟩ = some (.int .u32 (u (st 6))) ∧ w.cell? ⟨hb, 7, none⟩ = some (.int .u32 (u (st 7)))
theorem HS.at8 {w : World} {hb n : Nat} {st : Nat → BitVec 32} {op : Nat → BitVec 8} {own : Option Addr} (h : HS w hb st op n own) : At8 w hb st :=
  ⟨h.word 0 (by omega), h.word 1 (by omega), h.word 2 (by omega), h.word 3 (by omega), h.word 4 (by omega), h.word 5 (by omega), h.word 6 (by omega), h.word 7 (by omega)⟩

/-- what a walk over a hasher's words keeps -/
theorem HS.held {w w' : World} {hb n : Nat} {st : Nat → BitVec 32} {op : Nat → BitVec 8} {own : Option Addr} (h : HS w' hb st op n own) (g : w.grownBy w' (some hb)) : HS w' hb st op n own ∧ w.grownBy w' (some hb) ∧ At8 w' hb st := ⟨h, g, h.at8⟩
theorem forget_code {P : Program} {c : Code} {Q : Exit → Act → World → Prop} {a : Act} {W : World} (S : World → Prop) (hS : S W) (h : ∀ W, S W → c.wp P Q a W) : c.wp P Q a W := h W hS

end Go.Proofs.YtjflaeohkhmkaaaDoor

namespace Go.Proofs.YtjflaeohkhmkaaaDoor
open Go.RowKit
set_option linter.unusedSimpArgs false
set_option linter.unusedVariables false

/-- a table of 64 words -/
structure Tab (w : World) (tb : Nat) (f : Nat → BitVec 32) : Prop where
  lt : tb < w.heap.size
  word : ∀ i, i < 64 → w.cell? ⟨tb, i, none⟩ = some (.int .u32 (u (f i)))
  free : ∀ i, w.frozen? ⟨tb, i, none⟩ = false
section
variable {w w' : World} {tb : Nat} {f f' : Nat → BitVec 32}
theorem Tab.of_block (h : Tab w tb f) (hs : w.heap.size ≤ w'.heap.size) (e : w'.heap[tb]? = w.heap[tb]?) : Tab w' tb f :=
  ⟨Nat.lt_of_lt_of_le h.lt hs, fun i hi => (World.cell?_of_block (a := ⟨tb, i, none⟩) e).trans (h.word i hi), fun i => (World.frozen?_of_block (a := ⟨tb, i, none⟩) e).trans (h.free i)⟩
theorem Tab.below {B : Nat} (h : Tab w tb f) (g : Below B w w') (hB : tb < B) : Tab w' tb f := h.of_block g.size (g.block tb hB)
theorem Tab.alloc (h : Tab w tb f) (o : Obj) : Tab (w.alloc o) tb f := h.of_block (by simp) (heap_alloc_old w o h.lt)
theorem Tab.drew (h : Tab w tb f) : Tab w.drew tb f := h.of_block (Nat.le_refl _) rfl
theorem Tab.set (h : Tab w tb f) (i : Nat) (hi : i < 64) (x : BitVec 32) (hx : f' i = x) (ho : ∀ j, j < 64 → j ≠ i → f' j = f j) : Tab (w.setCell ⟨tb, i, none⟩ (.int .u32 (u x))) tb f' := by
  refine ⟨by simpa [World.setCell] using h.lt, fun j hj => ?_, fun i => fro_eq.trans (h.free i)⟩
  by_cases e : j = i
  · subst e
    rw [World.cell?_setCell_same' _ _ _ (by rw [h.word j hj]; rfl), hx]
  · rw [cell_ne (Ne.symm e), ho j hj e]; exact h.word j hj
theorem Tab.setFirst (h : Tab w tb f) (n : Nat) (hn : n ≤ 64) (vs : List Value) (hv : vs = (List.range n).map fun i => .int .u32 (u (f' i))) (ho : ∀ j, n ≤ j → j < 64 → f' j = f j) : Tab (w.setCells tb 0 vs) tb f' := by
  have hl : vs.length = n := by rw [hv]; simp
  refine ⟨by rw [size_setCells]; exact h.lt, fun i hi => ?_, fun i => (World.frozen?_setCells _ _ _ _ _).trans (h.free i)⟩
  by_cases hin : i < n
  · have := World.cell?_setCells_in tb vs 0 w (fun j hj => by rw [Nat.zero_add, h.word j (by omega)]; rfl) i (by omega)
    rw [Nat.zero_add] at this
    rw [this]
    subst hv
    simp
  · rw [setCells_other (by omega), ho i (by omega) hi]; exact h.word i hi
theorem Tab.range (h : Tab w tb f) : w.rangeAt tb 0 ((List.range 64).map fun i => .int .u32 (u (f i))) := fun j v hv => by
  have hj : j < 64 := by have := (List.getElem?_eq_some_iff.1 hv).1; simpa using this
  rw [Nat.zero_add, h.word j hj, ← hv]; simp [hj]
theorem Tab.there (h : Tab w tb f) (n : Nat) (hn : n ≤ 64) : w.there tb 0 n := fun j hj => by
  rw [Nat.zero_add]
  exact ⟨by rw [h.word j (by omega)]; rfl, h.free j⟩
theorem Tab.of_cells {t : TypeId} (h : w.heap[tb]? = some (.cells ((List.range 64).map fun i => Value.int .u32 (u (f i))).toArray t (0, 0))) : Tab w tb f := by
  refine ⟨(Array.getElem?_eq_some_iff.1 h).1, fun i hi => ?_, fun i => frozen_of_row w tb i _ t h⟩
  rw [cell_of_row w tb i _ t (0, 0) h]
  simp [hi]
end
/-- the table of which k words are told beyond the block's own -/
def tabTo (g : Nat → BitVec 32) (k : Nat) : Nat → BitVec 32 := fun i => if i < 16 + k then wl g k i else 0#32
theorem Tab.below' {w w' : World} {tb : Nat} {f : Nat → BitVec 32} (h : Tab w tb f) (g : Below w.heap.size w w') : Tab w' tb f := h.below g h.lt
theorem below_to {B : Nat} {w W W' : World} (h : Below B w W) (g : Below W.heap.size W W') (hB : B ≤ W.heap.size) : Below B w W' := h.trans (g.mono hB)

/-- what the rounds keep -/
structure TB (w W : World) (g : Nat → BitVec 32) (k : Nat) : Prop where
  tab : Tab W (w.heap.size + 1 + 1) (tabTo g k)
  res : Tab W (w.heap.size + 1) (fun _ => 0#32)
  bel : Below w.heap.size w W
  sz : w.heap.size ≤ W.heap.size
theorem TB.drew {w W : World} {g : Nat → BitVec 32} {k : Nat} (h : TB w W g k) : TB w W.drew g k := ⟨h.tab.drew, h.res.drew, h.bel.drew, h.sz⟩
theorem TB.alloc {w W : World} {g : Nat → BitVec 32} {k : Nat} (h : TB w W g k) (o : Obj) : TB w (W.alloc o) g k := ⟨h.tab.alloc o, h.res.alloc o, h.bel.alloc h.sz o, by simp; have := h.sz; omega⟩
theorem TB.go {w W W' : World} {g : Nat → BitVec 32} {k : Nat} (h : TB w W g k) (b : Below W.heap.size W W') : TB w W' g k := ⟨h.tab.below' b, h.res.below' b, below_to h.bel b h.sz, Nat.le_trans h.sz b.size⟩

end Go.Proofs.YtjflaeohkhmkaaaDoor

namespace Go.Proofs.YtjflaeohkhmkaaaDoor
open Go.RowKit
set_option linter.unusedSimpArgs false
set_option linter.unusedVariables false

end Go.Proofs.YtjflaeohkhmkaaaDoor

namespace Go.Proofs.YtjflaeohkhmkaaaDoor
open Go.RowKit
set_option linter.unusedSimpArgs false
set_option linter.unusedVariables false

end Go.Proofs.YtjflaeohkhmkaaaDoor

namespace Go.Proofs.YtjflaeohkhmkaaaDoor
open Go.RowKit
set_option linter.unusedSimpArgs false
set_option linter.unusedVariables false
set_option maxRecDepth 20000

/-- where the rows begin, one behind the other -/
def pos (ln : Nat → Nat) : Nat → Nat
  | 0 => 0
  | i + 1 => pos ln i + ln i
theorem pos_mono (ln : Nat → Nat) {i j : Nat} (h : i ≤ j) : pos ln i ≤ pos ln j := by
  induction j with
  | zero => rw [show i = 0 by omega]; exact Nat.le_refl _
  | succ j ih =>
    by_cases e : i = j + 1
    · rw [e]; exact Nat.le_refl _
    · have := ih (by omega); simp only [pos]; omega
end Go.Proofs.YtjflaeohkhmkaaaDoor

namespace Go.Proofs.YtjflaeohkhmkaaaDoor
open Go.RowKit
set_option linter.unusedSimpArgs false
set_option linter.unusedVariables false

end Go.Proofs.YtjflaeohkhmkaaaDoor

namespace Go.Proofs.YtjflaeohkhmkaaaDoor
open Go.RowKit
set_option linter.unusedSimpArgs false
set_option linter.unusedVariables false

theorem there_block {W : World} {b n : Nat} {C : Array Value} {t : TypeId} (h : W.heap[b]? = some (.cells C t (0, 0))) (hn : n ≤ C.size) : W.there b 0 n := fun j hj => by
  rw [Nat.zero_add]
  exact ⟨by rw [cell_of_row W b j C t (0, 0) h, Array.getElem?_eq_getElem (by omega)]; rfl, frozen_of_row W b j C t h⟩
theorem HS.reads {w : World} {hb n : Nat} {st : Nat → BitVec 32} {op : Nat → BitVec 8} {own : Option Addr} (h : HS w hb st op n own) : Reads w.heap.size w (some ⟨hb, 0, none⟩) 8 (fun i => .int .u32 (u (st i))) :=
  .inr ⟨hb, 0, rfl, h.lt, fun i hi => by rw [Nat.zero_add]; exact h.word i hi⟩
/-- the value of a tag whose bytes are told -/
def tagC (s : Nat → BitVec 8) : List Value := (List.range 32).map fun i => .int .u8 (ub (s i))
def tagV (s : Nat → BitVec 8) : Value := .agg (tagC s).toArray
theorem tagC_len (s : Nat → BitVec 8) : (tagC s).length = 32 := by simp [tagC]
theorem tagC_one (s : Nat → BitVec 8) : (tagC s).toArray.all (·.oneCell') = true :=
  all_oneCell_toArray fun v hv => by
    obtain ⟨i, _, rfl⟩ := List.mem_map.1 hv
    rfl
theorem infoTag : (Tryd.prog.info? 33).map (·.size) = some 32 := by kernel_rfl
end Go.Proofs.YtjflaeohkhmkaaaDoor

namespace Go.Proofs.YtjflaeohkhmkaaaDoor
open Go.RowKit
set_option linter.unusedSimpArgs false
set_option linter.unusedVariables false

/-- m rows that lie in the world -/
structure RI (w : World) (p : Option Addr) (m : Nat) (P : Nat → Option Addr) (ln C : Nat → Nat) (f : Nat → Nat → BitVec 8) : Prop where
  rows : Reads w.heap.size w p m (fun i => .slice (P i) (ln i) (C i))
  cap : ∀ i, i < m → ln i ≤ C i ∧ C i ≤ maxLen
  row : ∀ i, i < m → Reads w.heap.size w (P i) (ln i) (fun j => .int .u8 (ub (f i j)))
theorem reads_at {W : World} {H : Nat} {cs : Array Value} {t : TypeId} {fr : Nat × Nat} {n : Nat} {f : Nat → Value} (hW : W.heap[H]? = some (.cells cs t fr)) (h : ∀ i, i < n → cs[i]? = some (f i)) : Reads W.heap.size W (some ⟨H, 0, none⟩) n f :=
  .inr ⟨H, 0, rfl, (Array.getElem?_eq_some_iff.1 hW).1, fun i hi => by rw [Nat.zero_add, cell_of_row W H i cs t fr hW]; exact h i hi⟩
/-- one row -/
abbrev one1 {α : Type} (x : α) : Nat → α := fun _ => x
theorem pos_one (n : Nat) : pos (one1 n) 1 = n := by simp [pos]
theorem RI.one {W : World} {H n c : Nat} {p : Option Addr} {t : TypeId} {f : Nat → BitVec 8} (hW : W.heap[H]? = some (.cells #[.slice p n c] t (0, 0))) (hc : n ≤ c) (hm : c ≤ maxLen)
    (hr : Reads W.heap.size W p n (fun j => .int .u8 (ub (f j)))) : RI W (some ⟨H, 0, none⟩) 1 (one1 p) (one1 n) (one1 c) (one1 f) :=
  ⟨reads_at hW (fun i hi => by rw [show i = 0 by omega]; rfl), fun _ _ => ⟨hc, hm⟩, fun _ _ => hr⟩
theorem two_cap {n c n2 c2 : Nat} (hc : n ≤ c) (hm : c ≤ maxLen) (hc2 : n2 ≤ c2) (hm2 : c2 ≤ maxLen) (i : Nat) (hi : i < 2) : fst3 n n2 n2 i ≤ fst3 c c2 c2 i ∧ fst3 c c2 c2 i ≤ maxLen := by
  match i, hi with
  | 0, _ => exact ⟨hc, hm⟩
  | 1, _ => exact ⟨hc2, hm2⟩
theorem RI.two {W : World} {H n c n2 c2 : Nat} {p p2 : Option Addr} {t : TypeId} {f f2 : Nat → BitVec 8} (hW : W.heap[H]? = some (.cells #[.slice p n c, .slice p2 n2 c2] t (0, 0))) (hc : n ≤ c) (hm : c ≤ maxLen) (hc2 : n2 ≤ c2) (hm2 : c2 ≤ maxLen)
    (hr : Reads W.heap.size W p n (fun j => .int .u8 (ub (f j)))) (hr2 : Reads W.heap.size W p2 n2 (fun j => .int .u8 (ub (f2 j)))) : RI W (some ⟨H, 0, none⟩) 2 (fst3 p p2 p2) (fst3 n n2 n2) (fst3 c c2 c2) (fst3 f f2 f2) :=
  ⟨reads_at hW (fun i hi => by
    match i, hi with
    | 0, _ => rfl
    | 1, _ => rfl), two_cap hc hm hc2 hm2, fun i hi => by
    match i, hi with
    | 0, _ => exact hr
    | 1, _ => exact hr2⟩
end Go.Proofs.YtjflaeohkhmkaaaDoor

namespace Go.Proofs.YtjflaeohkhmkaaaDoor
open Go.RowKit Go.ChangeShapes Go.WideShapes
set_option linter.unusedVariables false
set_option linter.unusedSimpArgs false

section
variable {H : Type} {enc : TypeId × Value → H} {w : World} {base : Nat}
theorem vals_at {a : Addr} {n : Nat} {V : Nat → Value} (h : ∀ i, i < n → w.cell? (a.add i) = some (V i)) (hp : 0 < n) :
    ∃ b off, a = ⟨b, off, none⟩ ∧ ∀ j, j < n → w.cell? ⟨b, off + j, none⟩ = some (V j) := by
  obtain ⟨b, off, spot⟩ := a
  have hspot : spot = none := by simpa [Addr.add] using World.cell?_spot (h 0 hp)
  subst hspot
  exact ⟨b, off, rfl, fun j hj => by rw [← Go.WideShapes.add_plain]; exact h j hj⟩
end
end Go.Proofs.YtjflaeohkhmkaaaDoor

namespace Go.Proofs.YtjflaeohkhmkaaaDoor
open Go.RowKit
set_option linter.unusedSimpArgs false
set_option linter.unusedVariables false

theorem infoB1 : ∃ i, Tryd.prog.info? 5 = some i ∧ i.size = 1 := by
  have h : (Tryd.prog.info? 5).map (·.size) = some 1 := by kernel_rfl
  cases hq : Tryd.prog.info? 5 with
  | none => rw [hq] at h; cases h
  | some i => exact ⟨i, rfl, by rw [hq] at h; simpa using h⟩
theorem equal_tag (s : Nat → BitVec 8) (d : Nat) (w : World) : (Op.equalIn (d + 2) 33 (tagV s) (tagV s)).run Tryd.prog w = .ok true w := by
  obtain ⟨i, hi, hs⟩ := infoB1
  unfold tagV
  rw [Op.equalIn]
  simp only [Sem.run_bind, run_underlying Tryd.underlying33, Result.andThen_ok, sizeOf, typeInfo, hi, hs, Std.Legacy.Range.forIn_eq_forIn_range', Std.Legacy.Range.size, Nat.sub_zero, Nat.add_sub_cancel, Nat.div_one]
  simp only [Sem.run_pure, Sem.run_bind, Result.andThen_ok, run_program, hi, hs]
  have hl : ∀ j ∈ List.range' 0 32 1, j < 32 := fun j hj => by simpa using (List.mem_range'_1.1 hj).2
  generalize List.range' 0 32 1 = l at hl ⊢
  induction l with
  | nil => simp
  | cons j l ih =>
    have hj : j < 32 := hl j (by simp)
    have px : (Go.part 5 (tagC s).toArray (j * 1)).run Tryd.prog w = .ok (.int .u8 (ub (s j))) w := by
      simp [Go.part, isAgg, run_underlying Tryd.underlying5, tagC, hj]
    have pe : (Op.equalIn (d + 1) 5 (.int .u8 (ub (s j))) (.int .u8 (ub (s j)))).run Tryd.prog w = .ok true w := by
      rw [run_equalIn_int w d 5 .u8 .u8 _ _ Tryd.underlying5]; simp
    simp only [List.forIn_cons, Sem.run_bind, px, pe, Result.andThen_ok, Bool.not_true, Bool.false_eq_true, if_false, Sem.run_pure]
    exact ih fun k hk => hl k (by simp [hk])
theorem eql_tag (s : Nat → BitVec 8) (w : World) : (binOp .eql 33 (tagV s) (tagV s)).run Tryd.prog w = .ok (.bool true) w := by
  have h := run_eql_struct (P := Tryd.prog) w 33 (tagC s).toArray (tagC s).toArray
  have e := equal_tag s 9998 w
  unfold tagV at e ⊢
  rw [h, e]; rfl
theorem neq_tag (s : Nat → BitVec 8) (w : World) : (binOp .neq 33 (tagV s) (tagV s)).run Tryd.prog w = .ok (.bool false) w := by
  have h := run_neq_struct (P := Tryd.prog) w 33 (tagC s).toArray (tagC s).toArray
  have e := equal_tag s 9998 w
  unfold tagV at e ⊢
  rw [h, e]; rfl
theorem guard_tag (s s' : Nat → BitVec 8) (op : BinOp) (x y : Operand) (w : World) : (eqGuard op 33 x y (tagV s) (tagV s')).run Tryd.prog w = .ok () w :=
  run_eqGuard_agg w op 33 x y _ _ (by kernel_rfl)
end Go.Proofs.YtjflaeohkhmkaaaDoor

namespace Go.Proofs.YtjflaeohkhmkaaaDoor
open Go.RowKit
set_option linter.unusedVariables false
set_option linter.unusedSimpArgs false

theorem ub_inj {x y : BitVec 8} : ub x = ub y ↔ x = y := by
  unfold ub; rw [Int.ofNat_inj]; exact BitVec.toNat_inj
theorem of_ub (x : BitVec 8) : BitVec.ofInt 8 (ub x) = x := by
  unfold ub; rw [BitVec.ofInt_natCast]; simp
theorem ub_wrap (x : BitVec 8) : IntKind.u8.wrap (x.toNat : Int) = ub x := by
  unfold ub; rw [IntKind.wrap_u8]; have := x.isLt; omega
theorem xor_ub (x y : BitVec 8) : bits .xor .u8 (ub x) (ub y) = ub (x ^^^ y) := by
  show IntKind.u8.wrap ((BitVec.ofInt 8 (ub x) ^^^ BitVec.ofInt 8 (ub y)).toNat : Int) = _
  rw [of_ub, of_ub, ub_wrap]
theorem or_ub (x y : BitVec 8) : bits .or .u8 (ub x) (ub y) = ub (x ||| y) := by
  show IntKind.u8.wrap ((BitVec.ofInt 8 (ub x) ||| BitVec.ofInt 8 (ub y)).toNat : Int) = _
  rw [of_ub, of_ub, ub_wrap]
theorem ub_zero (x : BitVec 8) : (ub x == 0) = (x == 0#8) := by
  rw [Bool.eq_iff_iff, beq_iff_eq, beq_iff_eq]; exact (@ub_inj x 0#8)
theorem u8_plain : IntKind.u8.signed = false := rfl
theorem ub_beq (x y : BitVec 8) : (ub x == ub y) = (x == y) := by
  rw [Bool.eq_iff_iff, beq_iff_eq, beq_iff_eq]; exact ub_inj
attribute [go_sem] xor_ub or_ub ub_zero u8_plain ub_beq

/-- are the first k bytes the same -/
def teqTo (s t : Nat → BitVec 8) : Nat → Bool
  | 0 => true
  | k + 1 => teqTo s t k && s k == t k
def teq (s t : Nat → BitVec 8) : Bool := teqTo s t 32
theorem teqTo_iff (s t : Nat → BitVec 8) (k : Nat) : teqTo s t k = true ↔ ∀ i, i < k → s i = t i := by
  induction k with
  | zero => simp [teqTo]
  | succ k ih =>
    simp only [teqTo, Bool.and_eq_true, ih, beq_iff_eq]
    constructor
    · rintro ⟨h1, h2⟩ i hi
      rcases (show i < k ∨ i = k by omega) with h | rfl
      · exact h1 i h
      · exact h2
    · exact fun h => ⟨fun i hi => h i (by omega), h k (by omega)⟩
theorem teq_iff (s t : Nat → BitVec 8) : teq s t = true ↔ ∀ i, i < 32 → s i = t i := teqTo_iff s t 32
theorem teq_self (s : Nat → BitVec 8) : teq s s = true := (teq_iff s s).2 fun _ _ => rfl
theorem tagC_get (s : Nat → BitVec 8) (i : Nat) (hi : i < 32) : (tagC s).toArray[i]? = some (.int .u8 (ub (s i))) := by simp [tagC, hi]

/-! == on tags -/
theorem equal_tags (s t : Nat → BitVec 8) (d : Nat) (w : World) : (Op.equalIn (d + 2) 33 (tagV s) (tagV t)).run Tryd.prog w = .ok (teq s t) w := by
  obtain ⟨i, hi, hs⟩ := infoB1
  unfold tagV
  rw [Op.equalIn]
  simp only [Sem.run_bind, run_underlying Tryd.underlying33, Result.andThen_ok, sizeOf, typeInfo, hi, hs, Std.Legacy.Range.forIn_eq_forIn_range', Std.Legacy.Range.size, Nat.sub_zero, Nat.add_sub_cancel, Nat.div_one]
  simp only [Sem.run_pure, Sem.run_bind, Result.andThen_ok, run_program, hi, hs]
  have hall : teq s t = (List.range' 0 32 1).all fun j => s j == t j := by
    rw [Bool.eq_iff_iff, teq_iff, List.all_eq_true]
    constructor
    · intro h j hj; rw [beq_iff_eq]; exact h j (by simpa using (List.mem_range'_1.1 hj).2)
    · intro h j hj; exact beq_iff_eq.1 (h j (List.mem_range'_1.2 ⟨by omega, by omega⟩))
  rw [hall]
  have hl : ∀ j ∈ List.range' 0 32 1, j < 32 := fun j hj => by simpa using (List.mem_range'_1.1 hj).2
  generalize List.range' 0 32 1 = l at hl ⊢
  induction l with
  | nil => simp
  | cons j l ih =>
    have hj : j < 32 := hl j (by simp)
    have px : ∀ s : Nat → BitVec 8, (Go.part 5 (tagC s).toArray (j * 1)).run Tryd.prog w = .ok (.int .u8 (ub (s j))) w := fun s => by
      simp [Go.part, isAgg, run_underlying Tryd.underlying5, tagC, hj]
    have pe : (Op.equalIn (d + 1) 5 (.int .u8 (ub (s j))) (.int .u8 (ub (t j)))).run Tryd.prog w = .ok (s j == t j) w := by
      rw [run_equalIn_int w d 5 .u8 .u8 _ _ Tryd.underlying5, ub_beq]
    simp only [List.forIn_cons, Sem.run_bind, px, pe, Result.andThen_ok]
    cases he : s j == t j with
    | false => simp [he]
    | true =>
      simp only [Bool.not_true, Bool.false_eq_true, if_false, Sem.run_pure, Result.andThen_ok, List.all_cons, he, Bool.true_and]
      exact ih fun k hk => hl k (by simp [hk])
theorem eql_tags (s t : Nat → BitVec 8) (w : World) : (binOp .eql 33 (tagV s) (tagV t)).run Tryd.prog w = .ok (.bool (teq s t)) w := by
  have h := run_eql_struct (P := Tryd.prog) w 33 (tagC s).toArray (tagC t).toArray
  have e := equal_tags s t 9998 w
  unfold tagV at e ⊢
  rw [h, e]; rfl
theorem neq_tags (s t : Nat → BitVec 8) (w : World) : (binOp .neq 33 (tagV s) (tagV t)).run Tryd.prog w = .ok (.bool (!teq s t)) w := by
  have h := run_neq_struct (P := Tryd.prog) w 33 (tagC s).toArray (tagC t).toArray
  have e := equal_tags s t 9998 w
  unfold tagV at e ⊢
  rw [h, e]; rfl

/-! Same -/
end Go.Proofs.YtjflaeohkhmkaaaDoor
