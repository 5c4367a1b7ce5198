/-
  Merged: RefOf, RefSched, Slices.
-/
import Derived.Test.YtoocfkaclhgjeaaDoorRefSha
import Derived.Test.YtoocfkaclhgjeaaDoorG8
import Derived.Test.YtoocfkaclhgjeaaDoorSpread
import Derived.Test.YtoocfkaclhgjeaaDoorBits

namespace Go.Proofs.YtoocfkaclhgjeaaDoor
open Go.RowKit
set_option linter.unusedVariables false
set_option linter.unusedSimpArgs false

/-- behind an append what was appended to is as it was -/
theorem append_keeps {P : Program} (w : World) (base : Nat) (t ty e : TypeId) (i : TypeInfo) (z : Value) (bytes : Nat) (ht : P.underlying t = some (.slice e)) (hi : P.info? e = some i) (hz : i.zero = some z)
    (hsize : i.size = 1) (hby : i.bytes = bytes) (hzs : z.cells.size = 1) (v : Value) (n : Nat) (xs : List Value) (hown : w.ownsRow base e 1 v n xs)
    (a : Addr) (m c : Nat) (news : List Value) (hl : news.length = m * 1) (hnews : ∀ j u, news[j]? = some u → w.cell? (a.add j) = some u) (h1 : ∀ u ∈ news, u.oneCell' = true)
    (h63 : n + m ≤ maxLen) (hbytes : (n + m) * bytes ≤ 140737488355328) (hbase : base ≤ w.heap.size) :
    ∃ v' w', (Builtin.append_ #[t, t] ty #[v, .slice (some a) m c]).run P w = .ok v' w' ∧ w'.ownsRow base e 1 v' (n + m) (xs ++ news) ∧ w'.ownsRow base e 1 v n xs ∧ w.grownBy w' v.ownBlock := by
  obtain ⟨v', w', hr, h2, h3, _⟩ := run_append_own (P := P) w base t ty e i z 1 bytes ht hi hz hsize hby hzs (by omega) v n xs hown a m c news hl hnews h1 h63 hbytes hbase
  refine ⟨v', w', hr, h2, ?_, h3⟩
  rcases hown.2 with ⟨rfl, rfl⟩ | ⟨g, cap, cur, rfl, hbg, hg, hnc, hcm, hcs, htake⟩
  · have hx : xs = [] := List.eq_nil_of_length_eq_zero (by simpa using hown.1)
    subst hx
    exact World.ownsRow_nil _ _ _ _
  · by_cases hroom : n + m ≤ cap
    · have hr2 := run_append_room (P := P) w t ty e i ht hi g n cap cur hg a m c news (by rw [hsize]; exact hl) hnews h1 hroom (by rw [hsize, hl, hcs]; omega)
      have he := hr.symm.trans hr2
      injection he with e1 e2
      subst e2
      refine ⟨hown.1, .inr ⟨g, cap, _, rfl, hbg, setRow_heap w g cur _ e _ hg, hnc, hcm, ?_, ?_⟩⟩
      · rw [hsize]
        simp only [List.size_toArray, List.length_append, List.length_take, List.length_drop, Array.length_toList]
        omega
      · rw [hsize, htake, List.append_assoc, ← hown.1]
        exact List.take_left
    · have hr2 := run_append_grow (P := P) w t ty e i z ht hi hz ⟨g, 0, none⟩ n cap xs (by rw [hsize]; exact hown.1) (hown.cells (g := g) rfl) a m c news (by rw [hsize]; exact hl) hnews (by omega) (by unfold maxLen at h63; omega) (growslice_fits (by omega) (by rw [hby]; exact hbytes))
      have he := hr.symm.trans hr2
      injection he with e1 e2
      subst e2
      exact (World.ownsRow.drew hown).alloc _

/-! the constants, the beginning -/
/-- a block of n words -/
structure WT (w : World) (tb n : Nat) (f : Nat → BitVec 32) : Prop where
  lt : tb < w.heap.size
  word : ∀ i, i < n → w.cell? ⟨tb, i, none⟩ = some (.int .u32 (u (f i)))
  free : ∀ i, w.frozen? ⟨tb, i, none⟩ = false
section
variable {w w' : World} {tb n : Nat} {f f' : Nat → BitVec 32}
theorem WT.of_block (h : WT w tb n f) (hs : w.heap.size ≤ w'.heap.size) (e : w'.heap[tb]? = w.heap[tb]?) : WT w' tb n f :=
  ⟨Nat.lt_of_lt_of_le h.lt hs, fun i hi => (World.cell?_of_block (a := ⟨tb, i, none⟩) e).trans (h.word i hi), fun i => (World.frozen?_of_block (a := ⟨tb, i, none⟩) e).trans (h.free i)⟩
theorem WT.below' (h : WT w tb n f) (g : Below w.heap.size w w') : WT w' tb n f := h.of_block g.size (g.block tb h.lt)
theorem WT.alloc (h : WT w tb n f) (o : Obj) : WT (w.alloc o) tb n f := h.of_block (by simp) (heap_alloc_old w o h.lt)
theorem WT.drew (h : WT w tb n f) : WT w.drew tb n f := h.of_block (Nat.le_refl _) rfl
theorem WT.gr {hb : Nat} (h : WT w tb n f) (g : w.grownBy w' (some hb)) (hne : tb ≠ hb) : WT w' tb n f := h.of_block g.size (g.block tb h.lt (by simpa using hne))
theorem WT.congr (h : WT w tb n f) (e : ∀ i, i < n → f i = f' i) : WT w tb n f' := ⟨h.lt, fun i hi => by rw [← e i hi]; exact h.word i hi, h.free⟩
theorem WT.set (h : WT w tb n f) (i : Nat) (hi : i < n) (x : BitVec 32) (hx : f' i = x) (ho : ∀ j, j < n → j ≠ i → f' j = f j) : WT (w.setCell ⟨tb, i, none⟩ (.int .u32 (u x))) tb n f' := by
  refine ⟨by simpa [World.setCell] using h.lt, fun j hj => ?_, fun i => fro_eq.trans (h.free i)⟩
  by_cases e : j = i
  · subst e
    rw [World.cell?_setCell_same' _ _ _ (by rw [h.word j hj]; rfl), hx]
  · rw [cell_ne (Ne.symm e), ho j hj e]; exact h.word j hj
theorem WT.of_cells {t : TypeId} {C : Array Value} (h : w.heap[tb]? = some (.cells C t (0, 0))) (hC : ∀ i, i < n → C[i]? = some (.int .u32 (u (f i)))) : WT w tb n f := by
  refine ⟨(Array.getElem?_eq_some_iff.1 h).1, fun i hi => ?_, fun i => frozen_of_row w tb i _ t h⟩
  rw [cell_of_row w tb i _ t (0, 0) h, hC i hi]
theorem WT.reads (h : WT w tb n f) : Reads w.heap.size w (some ⟨tb, 0, none⟩) n (fun i => .int .u32 (u (f i))) :=
  .inr ⟨tb, 0, rfl, h.lt, fun i hi => by rw [Nat.zero_add]; exact h.word i hi⟩
end
def klA : Array Value := (kl.map fun x => Value.int .u32 (u x)).toArray
end Go.Proofs.YtoocfkaclhgjeaaDoor

namespace Go.Proofs.YtoocfkaclhgjeaaDoor
open Go.RowKit
set_option linter.unusedVariables false
set_option linter.unusedSimpArgs false

def wordsOf (f : Nat → BitVec 32) (n : Nat) : List Value := (List.range n).map fun i => .int .u32 (u (f i))
theorem wordsOf_congr {f g : Nat → BitVec 32} {n : Nat} (h : ∀ i, i < n → f i = g i) : wordsOf f n = wordsOf g n := List.map_congr_left fun i hi => by rw [h i (List.mem_range.1 hi)]
theorem wordsOf_succ (f : Nat → BitVec 32) (n : Nat) : wordsOf f n ++ [.int .u32 (u (f n))] = wordsOf f (n + 1) := by unfold wordsOf; rw [List.range_succ, List.map_append]; rfl
theorem wordsOf_at (f : Nat → BitVec 32) (n i : Nat) (h : i < n) : (wordsOf f n)[i]? = some (.int .u32 (u (f i))) := by unfold wordsOf; simp [h]
/-- what stays: the words that are told so far -/
structure SC (w : World) (v : Value) (n : Nat) (f : Nat → BitVec 32) (W : World) : Prop where
  own : W.ownsRow w.heap.size 84 1 v n (wordsOf f n)
  bel : Below w.heap.size w W
theorem SC.go {w W W' : World} {v : Value} {n : Nat} {f : Nat → BitVec 32} (h : SC w v n f W) (g : Below W.heap.size W W') : SC w v n f W' :=
  ⟨own_below h.own g, h.bel.trans (g.mono h.bel.size)⟩
theorem SC.drew {w W : World} {v : Value} {n : Nat} {f : Nat → BitVec 32} (h : SC w v n f W) : SC w v n f W.drew := h.go (Below.refl _ _).drew
theorem SC.alloc {w W : World} {v : Value} {n : Nat} {f : Nat → BitVec 32} (h : SC w v n f W) (o : Obj) : SC w v n f (W.alloc o) := h.go ((Below.refl _ _).alloc (Nat.le_refl _) o)
theorem SC.cell {w W : World} {g c n : Nat} {f : Nat → BitVec 32} (h : SC w (.slice (some ⟨g, 0, none⟩) n c) n f W) (i : Nat) (hi : i < n) : W.cell? ⟨g, i, none⟩ = some (.int .u32 (u (f i))) := by
  rw [h.own.cellAt i (by omega), wordsOf_at f n i hi]
/-- a row that is not empty is not nil -/
theorem owns_some {w : World} {base : Nat} {e : TypeId} {size : Nat} {v : Value} {n : Nat} {xs : List Value} (h : w.ownsRow base e size v n xs) (hn : 0 < n) : ∃ g c, v = .slice (some ⟨g, 0, none⟩) n c ∧ base ≤ g ∧ n ≤ c ∧ c ≤ maxLen := by
  rcases h.2 with ⟨rfl, rfl⟩ | ⟨g, cap, cur, rfl, h1, h2, h3, h4, _⟩
  · omega
  · exact ⟨g, cap, rfl, h1, h3, h4⟩
/-- the next word is appended -/
theorem append_word (w W : World) (ty : TypeId) (v : Value) (n : Nat) (f : Nat → BitVec 32) (h : SC w v n f (W.alloc (.cells #[.int .u32 (u (f n))] 84))) (hn : n + 1 ≤ 4294967296) :
    ∃ v' w', (Builtin.append_ #[99, 99] ty #[v, .slice (some ⟨W.heap.size, 0, none⟩) 1 1]).run Tryd.prog (W.alloc (.cells #[.int .u32 (u (f n))] 84)) = .ok v' w' ∧ SC w v' (n + 1) f w' ∧ SC w v n f w' := by
  obtain ⟨i0, hi, hz0, hz1, hz2⟩ := info_parts infoW
  obtain ⟨v', w', h1, h2, h3, h4⟩ := append_keeps (P := Tryd.prog) (W.alloc (.cells #[.int .u32 (u (f n))] 84)) w.heap.size 99 ty 84 i0 (.int .u32 0) 4 Tryd.underlying99 hi hz0 hz1 hz2 rfl v n _ h.own ⟨W.heap.size, 0, none⟩ 1 1 [.int .u32 (u (f n))] rfl
    (World.news_of_block (heap_alloc_new _ _)) (by intro y hy; simp at hy; subst hy; rfl) (by unfold maxLen; omega) (by omega) h.bel.size
  rw [wordsOf_succ] at h2
  have hb := h.bel.grown h4 h.bel.size (fun q e => (h.own.lt q e).1)
  exact ⟨v', w', h1, ⟨h2, hb⟩, ⟨h3, hb⟩⟩
theorem wp_append_word {o : Oper} {ac : Act} {K : Act → World → Prop} {Q : Exit → Act → World → Prop} {w W : World} {s x : Operand} {v : Value} {n : Nat} {f : Nat → BitVec 32}
    (ho : o.op = .call { callee := .builtin .append, args := #[s, x], argTypes := #[99, 99] }) (hs : ac.eval s = v) {H : Nat} (hx : ac.eval x = .slice (some ⟨H, 0, none⟩) 1 1) (hH : H = W.heap.size)
    (h : SC w v n f (W.alloc (.cells #[.int .u32 (u (f n))] 84))) (hn : n + 1 ≤ 4294967296) (hK : ∀ v' w', SC w v' (n + 1) f w' → SC w v n f w' → K (ac.put o.dst v') w') :
    o.wp Tryd.prog ac (W.alloc (.cells #[.int .u32 (u (f n))] 84)) K Q := by
  subst hH
  obtain ⟨v', w', hrun, h1, h2⟩ := append_word w W o.type v n f h hn
  exact Lib.wp_append_run _ s x _ _ ho _ _ hs hx v' w' hrun (hK v' w' h1 h2)
end Go.Proofs.YtoocfkaclhgjeaaDoor

namespace Go.Proofs.YtoocfkaclhgjeaaDoor
open Go.RowKit
set_option linter.unusedVariables false
set_option linter.unusedSimpArgs false

theorem sliceElem : Tryd.prog.underlying 23 = some (.slice (Tryd.prog.elem 23)) := by kernel_rfl
theorem sliceSize : Tryd.prog.elem 23 = 5 := by kernel_rfl
theorem infoU8 : (Tryd.prog.info? 5).map (·.size) = some 1 := by kernel_rfl
theorem sizeU8 (w : World) : (sizeOf 5).run Tryd.prog w = .ok 1 w := by
  cases hq : Tryd.prog.info? 5 with
  | none => have := infoU8; rw [hq] at this; cases this
  | some i =>
    have h := infoU8
    rw [hq] at h
    have hs : i.size = 1 := by simpa using h
    simp [sizeOf, typeInfo, hq, hs]
theorem piece_addr {B : Nat} {W : World} {p : Option Addr} {n c q : Nat} {f : Nat → Value} (hc : n ≤ c) (m : Nat) (hq : q + m ≤ n) (x : Nat) (hx : x ≤ c) (hxm : q + m ≤ x) (hr : Reads B W p n f) :
    Reads B W (if x = q then p else p.map (·.add (q * 1))) m (fun i => f (q + i)) := by
  by_cases hm : m = 0
  · exact .inl hm
  · rcases hr with h | ⟨b, off, rfl, hb, hcell⟩
    · omega
    · rw [if_neg (by omega)]
      refine .inr ⟨b, off + q, ?_, hb, fun i hi => ?_⟩
      · simp [Addr.add_lit]
      · rw [Nat.add_assoc]; exact hcell (q + i) (by omega)
/-- s[:q] -/
theorem slice_to (p : Option Addr) (n c q : Nat) (hq : q ≤ n) (hc : n ≤ c) :
    ∃ p1, (∀ W, (Instr.slice 23 (.slice p n c) none (some (.int .i64 (q : Int))) none).run Tryd.prog W = .ok (.slice p1 q c) W) ∧ ∀ B W f, Reads B W p n f → Reads B W p1 q f := by
  refine ⟨if c = 0 then p else p.map (·.add (0 * 1)), fun W => ?_, fun B W f hr => ?_⟩
  · rw [run_slice_h W 23 p n c sliceElem .i64 q (by omega) (by omega), sliceSize, sizeU8]
    simp [sliced]
  · have := piece_addr (q := 0) hc q (by omega) c (Nat.le_refl _) (by omega) hr
    simpa using this
/-- s[q:] -/
theorem slice_from (p : Option Addr) (n c q : Nat) (hq : q ≤ n) (hc : n ≤ c) :
    ∃ p1, (∀ W, (Instr.slice 23 (.slice p n c) (some (.int .i64 (q : Int))) none none).run Tryd.prog W = .ok (.slice p1 (n - q) (c - q)) W) ∧ ∀ B W f, Reads B W p n f → Reads B W p1 (n - q) (fun i => f (q + i)) := by
  refine ⟨if c = q then p else p.map (·.add (q * 1)), fun W => ?_, fun B W f hr => piece_addr hc (n - q) (by omega) c (Nat.le_refl _) (by omega) hr⟩
  rw [run_slice_l W 23 p n c sliceElem .i64 q (by omega) (by omega), sliceSize, sizeU8]
  simp [sliced]
/-- s[q:r] -/
theorem slice_mid (p : Option Addr) (n c q r : Nat) (hq : q ≤ r) (hr : r ≤ n) (hc : n ≤ c) :
    ∃ p1, (∀ W, (Instr.slice 23 (.slice p n c) (some (.int .i64 (q : Int))) (some (.int .i64 (r : Int))) none).run Tryd.prog W = .ok (.slice p1 (r - q) (c - q)) W) ∧ ∀ B W f, Reads B W p n f → Reads B W p1 (r - q) (fun i => f (q + i)) := by
  refine ⟨if c = q then p else p.map (·.add (q * 1)), fun W => ?_, fun B W f h => piece_addr hc (r - q) (by omega) c (Nat.le_refl _) (by omega) h⟩
  rw [run_slice_lh W 23 p n c sliceElem .i64 .i64 q r (by omega) (by omega) (by omega), sliceSize, sizeU8]
  simp [sliced]
end Go.Proofs.YtoocfkaclhgjeaaDoor
