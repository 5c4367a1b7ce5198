/-
  Rows and bytes that are lent; the second reckoning of a tag under a key; the walk of MacTells. (One text: a claim has at most 60 files.)
-/
import Derived.Test.YtoocfkaclhgjeaaDoorLent
import Derived.Test.YtoocfkaclhgjeaaDoorMacOf
import Derived.Test.YtoocfkaclhgjeaaDoorRefTag
import Derived.Test.YtoocfkaclhgjeaaDoorG11
namespace Go.Proofs.YtoocfkaclhgjeaaDoor
open Go.RowKit
set_option linter.unusedVariables false
set_option linter.unusedSimpArgs false

/-- a block of bytes that is whole -/
structure OB (w : World) (H n : Nat) (f : Nat → BitVec 8) : Prop where
  bt : BT w H n f
  row : ∃ cur : Array Value, w.heap[H]? = some (.cells cur 5 (0, 0)) ∧ cur.size = n
section
variable {w w' : World} {H n : Nat} {f f' : Nat → BitVec 8}
theorem OB.congr (h : OB w H n f) (e : ∀ i, i < n → f i = f' i) : OB w H n f' := ⟨h.bt.congr e, h.row⟩
theorem OB.set (h : OB w H n f) (i : Nat) (hi : i < n) (x : BitVec 8) (hx : f' i = x) (ho : ∀ j, j < n → j ≠ i → f' j = f j) : OB (w.setCell ⟨H, i, none⟩ (.int .u8 (ub x))) H n f' := by
  obtain ⟨cur, hc, hs⟩ := h.row
  exact ⟨h.bt.set i hi x hx ho, _, heap_setCell_same w H i cur _ _ hc, by simpa using hs⟩
theorem OB.owns {base : Nat} (h : OB w H n f) (hb : base ≤ H) (hm : n ≤ maxLen) : w.ownsRow base 5 1 (.slice (some ⟨H, 0, none⟩) n n) n (cellsOf f n) := by
  obtain ⟨cur, hc, hs⟩ := h.row
  refine ⟨by simp [cellsOf], .inr ⟨H, n, cur, rfl, hb, hc, Nat.le_refl _, hm, by omega, ?_⟩⟩
  refine List.ext_getElem? fun i => ?_
  by_cases hi : i < n
  · have h1 := h.bt.byte i hi
    rw [cell_of_row w H i cur _ (0, 0) hc] at h1
    rw [List.getElem?_take, if_pos (by omega), Array.getElem?_toList, h1, cellsOf_at f n i hi]
  · rw [List.getElem?_eq_none (by simp; omega), List.getElem?_eq_none (by simp [cellsOf]; omega)]
theorem OB.made (w : World) (n : Nat) : OB (w.alloc (.cells (madeCells #[Value.int .u8 0] n) 5)) w.heap.size n (fun _ => 0#8) :=
  ⟨BT.of_cells (laid_at rfl) fun i hi => by simp [madeCells, hi, Nat.mod_one, ub], ⟨_, laid_at rfl, size_madeCells _ _⟩⟩
end
/-- the first j turned -/
def part3 (b : Nat → BitVec 8) (x : BitVec 8) (j : Nat) : Nat → BitVec 8 := fun i => if i < j then b i ^^^ x else 0#8
end Go.Proofs.YtoocfkaclhgjeaaDoor
namespace Go.Proofs.YtoocfkaclhgjeaaDoor
open Go.RowKit
set_option linter.unusedVariables false
set_option linter.unusedSimpArgs false

theorem cells_cat (f g : Nat → BitVec 8) (n m : Nat) : cellsOf f n ++ (List.range m).map (fun j => Value.int .u8 (ub (g j))) = cellsOf (cat f n g) (n + m) := by
  rw [← cellsOf_add (cat f n g) n m, cellsOf_congr (f := cat f n g) (g := f) (fun i hi => cat_lo hi)]
  congr 1
  exact List.map_congr_left fun j _ => by rw [cat_hi]
/-- bytes are appended to an owned row -/
theorem append_cat (w : World) (base B : Nat) (ty : TypeId) (v : Value) (n : Nat) (f : Nat → BitVec 8) (hown : w.ownsRow base 5 1 v n (cellsOf f n)) (p : Option Addr) (m c : Nat) (g : Nat → BitVec 8) (hr : Reads B w p m (fun i => .int .u8 (ub (g i)))) (hn : n + m ≤ 4294967296) (hbase : base ≤ w.heap.size) :
    ∃ v' w', (Builtin.append_ #[23, 23] ty #[v, .slice p m c]).run Tryd.prog w = .ok v' w' ∧ w'.ownsRow base 5 1 v' (n + m) (cellsOf (cat f n g) (n + m)) ∧ w.grownBy w' v.ownBlock := by
  obtain ⟨i0, hi, hz0, hz1, hz2⟩ := info_parts Tryd.infoB
  obtain ⟨v', w', h1, h2, h3⟩ := append_reads (P := Tryd.prog) w base B 23 ty 5 i0 (.int .u8 0) 1 Tryd.underlying23 hi hz0 hz1 hz2 rfl _ _ _ hown p m c _ hr (fun _ _ => rfl) (by unfold maxLen; omega) (by omega) hbase
  rw [cells_cat] at h2
  exact ⟨v', w', h1, h2, h3⟩
/-- what stays while Of asks -/
structure S3 (w : World) (HI : Nat) (s : Nat → BitVec 8) (W : World) : Prop where
  bel : Below w.heap.size w W
  out : W.there w.heap.size 0 32
  tag : BT W HI 32 s
  lo : w.heap.size < HI
theorem S3.drew {w W : World} {HI : Nat} {s : Nat → BitVec 8} (h : S3 w HI s W) : S3 w HI s W.drew := ⟨h.bel.drew, h.out, h.tag.drew, h.lo⟩
theorem S3.go {w W W' : World} {HI : Nat} {s : Nat → BitVec 8} (h : S3 w HI s W) (g : Below W.heap.size W W') : S3 w HI s W' :=
  ⟨h.bel.trans (g.mono h.bel.size), there_below h.out g (by have := h.tag.lt; have := h.lo; omega), h.tag.below' g, h.lo⟩
theorem S3.grown {w W W' : World} {HI : Nat} {s : Nat → BitVec 8} {row : Option Nat} (h : S3 w HI s W) (g : W.grownBy W' row) (hr : ∀ q, row = some q → HI < q) : S3 w HI s W' := by
  have hlo := h.lo
  have hlt := h.tag.lt
  cases row with
  | none => exact ⟨h.bel.grown g h.bel.size (by rintro q ⟨⟩), there_gr h.out g (by omega) (by simp), h.tag.of_block g.size (g.block HI hlt (by simp)), hlo⟩
  | some q =>
    have hq := hr q rfl
    exact ⟨h.bel.grown g h.bel.size (by rintro q ⟨⟩; omega), there_gr h.out g (by omega) (by simp; omega), h.tag.gr g (by omega), hlo⟩
theorem S3.store {w W : World} {HI : Nat} {s : Nat → BitVec 8} (h : S3 w HI s W) (vs : List Value) : S3 w HI s (W.setCells w.heap.size 0 vs) :=
  ⟨h.bel.grown (gr_setCells (hb := w.heap.size) vs 0 W) h.bel.size (by rintro q ⟨⟩; omega), World.there_setCells h.out _ _ _, h.tag.gr (gr_setCells (hb := w.heap.size) vs 0 W) (by have := h.lo; omega), h.lo⟩
end Go.Proofs.YtoocfkaclhgjeaaDoor
namespace Go.Proofs.YtoocfkaclhgjeaaDoor
open Go.RowKit
set_option linter.unusedVariables false
set_option linter.unusedSimpArgs false

end Go.Proofs.YtoocfkaclhgjeaaDoor
namespace Go.Proofs.YtoocfkaclhgjeaaDoor
open Go.RowKit
set_option linter.unusedVariables false
set_option linter.unusedSimpArgs false

/-- what stays behind the first loop -/
structure MT (w W1 : World) (t : Nat → BitVec 8) (gk kn : Nat) (k : Nat → BitVec 8) (v : Value) (m : Nat) (G ln : Nat → Nat) (f : Nat → Nat → BitVec 8) (W : World) : Prop where
  cv : CV w t W
  lr : LR W1 W v m G ln (fun i q => ub (f i q))
  key : W.ownsRow w.heap.size 5 1 (.slice (some ⟨gk, 0, none⟩) (kn + 12) (kn + 12)) (kn + 12) ((List.range (kn + 12)).map (LentBytes.ext kn fun i => ub (k i)))
section
variable {w W1 W W' : World} {t : Nat → BitVec 8} {gk kn : Nat} {k : Nat → BitVec 8} {v : Value} {m : Nat} {G ln : Nat → Nat} {f : Nat → Nat → BitVec 8}
theorem MT.drew (h : MT w W1 t gk kn k v m G ln f W) : MT w W1 t gk kn k v m G ln f W.drew := ⟨h.cv.drew, h.lr.drew, h.key⟩
theorem MT.go (h : MT w W1 t gk kn k v m G ln f W) (g : Below W.heap.size W W') : MT w W1 t gk kn k v m G ln f W' := ⟨h.cv.go g, h.lr.go g, owns_below h.key g⟩
theorem MT.ri {p : Option Addr} {c : Nat} (h : MT w W1 t gk kn k (.slice p m c) m G ln f W) (hl : ∀ i, i < m → ln i ≤ 700) : RI W p m (fun i => some ⟨G i, 0, none⟩) ln (fun i => ln i + 12) f :=
  ⟨owns_reads' h.lr.own, fun i hi => ⟨by omega, by have := hl i hi; unfold maxLen; omega⟩, fun i hi => by
    rcases h.lr.reads i hi with h0 | ⟨b, off, he, hb, hc⟩
    · omega
    · exact .inr ⟨b, off, he, hb, fun q hq => by rw [hc q (by omega), LentBytes.ext_lt hq]⟩⟩
structure MT2 (w W1 : World) (t : Nat → BitVec 8) (gk kn : Nat) (k : Nat → BitVec 8) (v : Value) (m : Nat) (G ln : Nat → Nat) (f : Nat → Nat → BitVec 8) (T1 T2 : Nat) (s : Nat → BitVec 8) (W : World) : Prop where
  mt : MT w W1 t gk kn k v m G ln f W
  want : BT W T1 32 s
  got : BT W T2 32 s
theorem MT2.drew {T1 T2 : Nat} {s : Nat → BitVec 8} (h : MT2 w W1 t gk kn k v m G ln f T1 T2 s W) : MT2 w W1 t gk kn k v m G ln f T1 T2 s W.drew := ⟨h.mt.drew, h.want.drew, h.got.drew⟩
theorem MT2.go {T1 T2 : Nat} {s : Nat → BitVec 8} (h : MT2 w W1 t gk kn k v m G ln f T1 T2 s W) (g : Below W.heap.size W W') : MT2 w W1 t gk kn k v m G ln f T1 T2 s W' := ⟨h.mt.go g, h.want.below' g, h.got.below' g⟩
theorem MT.kr12 (h : MT w W1 t gk kn k v m G ln f W) : Reads W.heap.size W (some ⟨gk, 0, none⟩) (kn + 12) (LentBytes.ext kn fun i => ub (k i)) := by
  obtain ⟨p, c, he, hr, _⟩ := owns_reads h.key
  cases he
  exact hr
theorem MT.kr (h : MT w W1 t gk kn k v m G ln f W) : Reads W.heap.size W (some ⟨gk, 0, none⟩) kn (fun i => .int .u8 (ub (k i))) := by
  obtain ⟨p, c, he, hr, _⟩ := owns_reads h.key
  cases he
  rcases hr with h0 | ⟨b, off, he, hb, hc⟩
  · omega
  · exact .inr ⟨b, off, he, hb, fun q hq => by rw [hc q (by omega), LentBytes.ext_lt hq]⟩
end
end Go.Proofs.YtoocfkaclhgjeaaDoor
