/-
  Merged: Block, Concat, Lent, Regs, Refuse, Mac, Seal, MacOf, RefSha, RefOf, RefSched, Slices, RefTag, Jefe, MacAwake, MacParts, MacSame, MacTells.
-/
import Derived.Test.YtjflaeohkhmkaaaDoorG3
import Derived.Lib.AppendZeros
import Derived.Laws.OwnMore
import Derived.Test.YtjflaeohkhmkaaaDoorG2
import Derived.Test.YtjflaeohkhmkaaaDoorG1

namespace Go.Proofs.YtjflaeohkhmkaaaDoor
open Go.RowKit
set_option linter.unusedVariables false
set_option linter.unusedSimpArgs false

/-- a block of n bytes -/
structure BT (w : World) (tb n : Nat) (f : Nat → BitVec 8) : Prop where
  lt : tb < w.heap.size
  byte : ∀ i, i < n → w.cell? ⟨tb, i, none⟩ = some (.int .u8 (ub (f i)))
  free : ∀ i, w.frozen? ⟨tb, i, none⟩ = false
section
variable {w w' : World} {tb n : Nat} {f f' : Nat → BitVec 8}
theorem BT.of_block (h : BT w tb n f) (hs : w.heap.size ≤ w'.heap.size) (e : w'.heap[tb]? = w.heap[tb]?) : BT w' tb n f :=
  ⟨Nat.lt_of_lt_of_le h.lt hs, fun i hi => (World.cell?_of_block (a := ⟨tb, i, none⟩) e).trans (h.byte i hi), fun i => (World.frozen?_of_block (a := ⟨tb, i, none⟩) e).trans (h.free i)⟩
theorem BT.below {B : Nat} (h : BT w tb n f) (g : Below B w w') (hB : tb < B) : BT w' tb n f := h.of_block g.size (g.block tb hB)
theorem BT.below' (h : BT w tb n f) (g : Below w.heap.size w w') : BT w' tb n f := h.below g h.lt
theorem BT.gr {hb : Nat} (h : BT w tb n f) (g : w.grownBy w' (some hb)) (hne : tb ≠ hb) : BT w' tb n f := h.of_block g.size (g.block tb h.lt (by simpa using hne))
theorem BT.alloc (h : BT w tb n f) (o : Obj) : BT (w.alloc o) tb n f := h.of_block (by simp) (heap_alloc_old w o h.lt)
theorem BT.drew (h : BT w tb n f) : BT w.drew tb n f := h.of_block (Nat.le_refl _) rfl
theorem BT.congr (h : BT w tb n f) (e : ∀ i, i < n → f i = f' i) : BT w tb n f' := ⟨h.lt, fun i hi => by rw [← e i hi]; exact h.byte i hi, h.free⟩
theorem BT.set (h : BT w tb n f) (i : Nat) (hi : i < n) (x : BitVec 8) (hx : f' i = x) (ho : ∀ j, j < n → j ≠ i → f' j = f j) : BT (w.setCell ⟨tb, i, none⟩ (.int .u8 (ub x))) tb n f' := by
  refine ⟨by simpa [World.setCell] using h.lt, fun j hj => ?_, fun i => fro_eq.trans (h.free i)⟩
  by_cases e : j = i
  · subst e
    rw [World.cell?_setCell_same' _ _ _ (by rw [h.byte j hj]; rfl), hx]
  · rw [cell_ne (Ne.symm e), ho j hj e]; exact h.byte j hj
theorem BT.setFirst (h : BT w tb n f) (m : Nat) (hm : m ≤ n) (vs : List Value) (hv : vs = (List.range m).map fun i => .int .u8 (ub (f' i))) (ho : ∀ j, m ≤ j → j < n → f' j = f j) : BT (w.setCells tb 0 vs) tb n f' := by
  have hl : vs.length = m := by rw [hv]; simp
  refine ⟨by rw [size_setCells]; exact h.lt, fun i hi => ?_, fun i => (World.frozen?_setCells _ _ _ _ _).trans (h.free i)⟩
  by_cases hin : i < m
  · have := World.cell?_setCells_in tb vs 0 w (fun j hj => by rw [Nat.zero_add, h.byte j (by omega)]; rfl) i (by omega)
    rw [Nat.zero_add] at this
    rw [this]
    subst hv
    simp
  · rw [setCells_other (by omega), ho i (by omega) hi]; exact h.byte i hi
theorem BT.range (h : BT w tb n f) : w.rangeAt tb 0 ((List.range n).map fun i => .int .u8 (ub (f i))) := fun j v hv => by
  have hj : j < n := by have := (List.getElem?_eq_some_iff.1 hv).1; simpa using this
  rw [Nat.zero_add, h.byte j hj, ← hv]; simp [hj]
theorem BT.there (h : BT w tb n f) (m : Nat) (hm : m ≤ n) : w.there tb 0 m := fun j hj => by
  rw [Nat.zero_add]
  exact ⟨by rw [h.byte j (by omega)]; rfl, h.free j⟩
theorem BT.of_cells {t : TypeId} {C : Array Value} (h : w.heap[tb]? = some (.cells C t (0, 0))) (hC : ∀ i, i < n → C[i]? = some (.int .u8 (ub (f i)))) : BT w tb n f := by
  refine ⟨(Array.getElem?_eq_some_iff.1 h).1, fun i hi => ?_, fun i => frozen_of_row w tb i _ t h⟩
  rw [cell_of_row w tb i _ t (0, 0) h, hC i hi]
theorem BT.reads (h : BT w tb n f) : Reads w.heap.size w (some ⟨tb, 0, none⟩) n (fun i => .int .u8 (ub (f i))) :=
  .inr ⟨tb, 0, rfl, h.lt, fun i hi => by rw [Nat.zero_add]; exact h.byte i hi⟩
end
end Go.Proofs.YtjflaeohkhmkaaaDoor

namespace Go.Proofs.YtjflaeohkhmkaaaDoor
open Go.RowKit
set_option linter.unusedVariables false
set_option linter.unusedSimpArgs false

/-- a row that is read is appended to one that is owned, wherever it lies, nil or not -/
theorem append_reads {P : Program} (w : World) (base B : Nat) (t ty e : TypeId) (i : TypeInfo) (z : Value) (bytes : Nat) (ht : P.underlying t = some (.slice e)) (hi : P.info? e = some i) (hz : i.zero = some z)
    (hsize : i.size = 1) (hby : i.bytes = bytes) (hzs : z.cells.size = 1) (v : Value) (n : Nat) (xs : List Value) (hown : w.ownsRow base e 1 v n xs)
    (p : Option Addr) (m c : Nat) (f : Nat → Value) (hr : Reads B w p m f) (h1 : ∀ i, i < m → (f i).oneCell' = true)
    (h63 : n + m ≤ maxLen) (hbytes : (n + m) * bytes ≤ 140737488355328) (hbase : base ≤ w.heap.size) :
    ∃ v' w', (Builtin.append_ #[t, t] ty #[v, .slice p m c]).run P w = .ok v' w' ∧ w'.ownsRow base e 1 v' (n + m) (xs ++ (List.range m).map f) ∧ w.grownBy w' v.ownBlock := by
  cases p with
  | none =>
    have hm : m = 0 := by
      rcases hr with h | ⟨b, off, h, _⟩
      · exact h
      · cases h
    subst hm
    refine ⟨v, w, ?_, by simpa using hown, World.grownBy.refl _ _⟩
    rcases hown.2 with ⟨rfl, rfl⟩ | ⟨g, cap, cur, rfl, _, _, hnc, _⟩
    · simp [Builtin.append_, run_underlying ht, sizeOf, typeInfo, hi, Builtin.lenOf, Builtin.firstCells]
    · simp [Builtin.append_, run_underlying ht, sizeOf, typeInfo, hi, Builtin.lenOf, Builtin.firstCells, hnc, storeCells]
  | some a =>
    obtain ⟨v', w', h2, h3, h4, _⟩ := run_append_own (P := P) w base t ty e i z 1 bytes ht hi hz hsize hby hzs (by omega) v n xs hown a m c ((List.range m).map f) (by simp) (fun j u hj => by
      have hjm : j < m := by have := (List.getElem?_eq_some_iff.1 hj).1; simpa using this
      rcases hr with h | ⟨b, off, he, hb, hc⟩
      · omega
      · cases he
        rw [List.getElem?_map, List.getElem?_range hjm] at hj
        rw [Go.WideShapes.add_plain, hc j hjm]; simpa using hj) (fun u hu => by
      obtain ⟨j, hj, rfl⟩ := List.mem_map.1 hu
      exact h1 j (List.mem_range.1 hj)) h63 hbytes hbase
    exact ⟨v', w', h2, h3, h4⟩
end Go.Proofs.YtjflaeohkhmkaaaDoor

namespace Go.Proofs.YtjflaeohkhmkaaaDoor.LentBytes
open Go.RowKit
set_option linter.unusedSimpArgs false
set_option linter.unusedVariables false

end Go.Proofs.YtjflaeohkhmkaaaDoor.LentBytes
namespace Go.Proofs.YtjflaeohkhmkaaaDoor
open Go.RowKit
set_option linter.unusedSimpArgs false
set_option linter.unusedVariables false
end Go.Proofs.YtjflaeohkhmkaaaDoor
namespace Go.Proofs.YtjflaeohkhmkaaaDoor
open Go.RowKit
set_option linter.unusedVariables false
set_option linter.unusedSimpArgs false

theorem owns_below {w w' : World} {base : Nat} {e : TypeId} {k : Nat} {v : Value} {n : Nat} {xs : List Value} (h : w.ownsRow base e k v n xs) (hb : Below w.heap.size w w') : w'.ownsRow base e k v n xs := by
  refine ⟨h.1, ?_⟩
  rcases h.2 with h2 | ⟨g, cap, cur, h1, h2, h3, h4⟩
  · exact .inl h2
  · exact .inr ⟨g, cap, cur, h1, h2, (hb.block g (Array.getElem?_eq_some_iff.1 h3).1).trans h3, h4⟩
theorem owns_gr {w w' : World} {base : Nat} {e : TypeId} {k : Nat} {v : Value} {n : Nat} {xs : List Value} {row : Option Nat} (h : w.ownsRow base e k v n xs) (hg : w.grownBy w' row) (hne : ∀ q, row = some q → v.ownBlock ≠ some q) : w'.ownsRow base e k v n xs := by
  refine ⟨h.1, ?_⟩
  rcases h.2 with h2 | ⟨g, cap, cur, rfl, h2, h3, h4⟩
  · exact .inl h2
  · refine .inr ⟨g, cap, cur, rfl, h2, (hg.block g (Array.getElem?_eq_some_iff.1 h3).1 ?_).trans h3, h4⟩
    intro e
    exact hne g e.symm rfl
/-- two owned rows of unlike types lie apart -/
theorem owns_apart {w : World} {base base' : Nat} {e e' : TypeId} {k k' n n' : Nat} {v v' : Value} {xs xs' : List Value} (h : w.ownsRow base e k v n xs) (h' : w.ownsRow base' e' k' v' n' xs') (he : e ≠ e') (q : Nat) (hq : v'.ownBlock = some q) : v.ownBlock ≠ some q := by
  intro hv
  rcases h.2 with ⟨rfl, _⟩ | ⟨g, cap, cur, rfl, _, h3, _⟩
  · cases hv
  rcases h'.2 with ⟨rfl, _⟩ | ⟨g', cap', cur', rfl, _, h3', _⟩
  · cases hq
  have e1 : g = q := by simpa [Value.ownBlock] using hv
  have e2 : g' = q := by simpa [Value.ownBlock] using hq
  subst e1
  subst e2
  rw [h3] at h3'
  injection h3' with h4
  injection h4 with _ h5
  exact he h5
section
variable {w0 w w' : World} {v : Value} {j : Nat} {G ln : Nat → Nat} {h : Nat → Nat → Int}
end
end Go.Proofs.YtjflaeohkhmkaaaDoor
namespace Go.Proofs.YtjflaeohkhmkaaaDoor
end Go.Proofs.YtjflaeohkhmkaaaDoor
namespace Go.Proofs.YtjflaeohkhmkaaaDoor
open Go.RowKit
set_option linter.unusedVariables false
set_option linter.unusedSimpArgs false

/-- all rows' bytes, one behind the other -/
theorem joined_ex (ln : Nat → Nat) (f : Nat → Nat → BitVec 8) (m : Nat) : ∃ g : Nat → BitVec 8, ∀ i, i < m → ∀ q, q < ln i → f i q = g (pos ln i + q) := by
  induction m with
  | zero => exact ⟨fun _ => 0#8, fun i hi => by omega⟩
  | succ m ih =>
    obtain ⟨g, hg⟩ := ih
    refine ⟨fun x => if x < pos ln m then g x else f m (x - pos ln m), fun i hi q hq => ?_⟩
    by_cases e : i = m
    · subst e
      simp only [show ¬ (pos ln i + q < pos ln i) by omega, if_false]
      rw [show pos ln i + q - pos ln i = q by omega]
    · have h1 := pos_mono ln (show i + 1 ≤ m by omega)
      have h2 : pos ln (i + 1) = pos ln i + ln i := rfl
      simp only [show pos ln i + q < pos ln m by omega, if_true]
      exact hg i (by omega) q hq
theorem zero_atL (n i : Nat) (hi : i < n) : (List.replicate n (Value.int .u8 0)).toArray[i]? = some (.int .u8 (ub 0#8)) := by
  rw [List.getElem?_toArray, List.getElem?_replicate, if_pos hi]; rfl
theorem tag_there (w3 : World) : (w3.alloc (.cells (List.replicate 32 (Value.int .u8 0)).toArray 33)).there w3.heap.size 0 32 := there_block (laid_at rfl) (by simp)
theorem tag_store (w3 : World) (s : Nat → BitVec 8) : BT ((w3.alloc (.cells (List.replicate 32 (Value.int .u8 0)).toArray 33)).setCells w3.heap.size 0 (tagC s)) w3.heap.size 32 s ∧ Below w3.heap.size w3 ((w3.alloc (.cells (List.replicate 32 (Value.int .u8 0)).toArray 33)).setCells w3.heap.size 0 (tagC s)) := by
  have ht0 : BT (w3.alloc (.cells (List.replicate 32 (Value.int .u8 0)).toArray 33)) w3.heap.size 32 (fun _ => 0#8) := BT.of_cells (laid_at rfl) (fun i hi => zero_atL 32 i hi)
  exact ⟨ht0.setFirst 32 (Nat.le_refl _) _ rfl fun j h1 h2 => by omega, ((Below.refl _ _).alloc (Nat.le_refl _) _).grown (gr_setCells (hb := w3.heap.size) (tagC s) 0 _) (by simp) (by rintro q ⟨⟩; exact Nat.le_refl _)⟩
end Go.Proofs.YtjflaeohkhmkaaaDoor

namespace Go.Proofs.YtjflaeohkhmkaaaDoor
open Go.RowKit
set_option linter.unusedSimpArgs false
set_option linter.unusedVariables false
section
variable {P : Program} {ops : Array Oper} {Q : Exit → Act → World → Prop} {md : Region.Mode}
/-- the beginning of a region that draws: nothing is listed -/
theorem wp_region_start {S : World → Prop} {id n : Nat} {l : Array Bool} {a : Act} {w : World} (hm : P.follows .mixedOrders = true) (hsz : ops.size = n) (hl : Array.replicate n false = l) (hS : S w.drew)
    (h : S w.drew → wpAnyH P .any ops Q S n l a w.drew) : (Code.region id ops true).wp P Q a w := by
  subst hsz hl
  exact wp_region_held_drew hm hS h
/-- an operation is taken first; its slot, and what is listed behind it, are named -/
theorem take_to {S : World → Prop} {i : Nat} {oi : Oper} {d : Option Tmp} {v : Value} {fuel : Nat} {listed l' : Array Bool} {a : Act} {w : World} (hi : ops[i]? = some oi) (hd : oi.dst = d)
    (hs : Region.noSelect ops = true) (hf : Region.free md ops listed i = true) (hr : (Region.ready md ops listed).contains i = true) (hl : listed.setIfInBounds i true = l')
    (hQ : ∀ c a w, Q (.panic c) (a.put d v) w → Q (.panic c) a w) (hy : YieldsIf P ops S oi v a) (hS : S w)
    (h : wpAnyH P md ops Q S fuel l' (a.put d v) w) : wpAnyH P md ops Q S (fuel + 1) listed a w := by
  subst hd hl
  exact wpAnyH_take hi hs hf hr hQ hy hS h
/-- one operation alone may come up -/
theorem one_to {S : World → Prop} {i : Nat} {o : Oper} {fuel : Nat} {listed l' : Array Bool} {a : Act} {w : World} (ho : ops[i]? = some o) (hr : Region.ready md ops listed = [i]) (hl : listed.setIfInBounds i true = l')
    (h : ∀ K' : Act → World → Prop, Shut (∀ a w, S w → (S w → wpAnyH P md ops Q S fuel l' a w) → K' a w) → if Region.wanted o (yielded ops a.tmps) = true then Oper.wp P o a w K' Q else K' (a.put o.dst undef) w) : wpAnyH P md ops Q S (fuel + 1) listed a w := by
  subst hl
  exact wpAnyH_ready hr (by simp) (AllReadyH.cons ho h AllReadyH.nil)
/-- two may come up -/
theorem two_to {S : World → Prop} {i j : Nat} {o o2 : Oper} {fuel : Nat} {listed l1 l2 : Array Bool} {a : Act} {w : World} (ho : ops[i]? = some o) (ho2 : ops[j]? = some o2) (hr : Region.ready md ops listed = [i, j]) (hl : listed.setIfInBounds i true = l1) (hl2 : listed.setIfInBounds j true = l2)
    (h : ∀ K' : Act → World → Prop, Shut (∀ a w, S w → (S w → wpAnyH P md ops Q S fuel l1 a w) → K' a w) → if Region.wanted o (yielded ops a.tmps) = true then Oper.wp P o a w K' Q else K' (a.put o.dst undef) w)
    (h2 : ∀ K' : Act → World → Prop, Shut (∀ a w, S w → (S w → wpAnyH P md ops Q S fuel l2 a w) → K' a w) → if Region.wanted o2 (yielded ops a.tmps) = true then Oper.wp P o2 a w K' Q else K' (a.put o2.dst undef) w) : wpAnyH P md ops Q S (fuel + 1) listed a w := by
  subst hl hl2
  exact wpAnyH_ready hr (by simp) (AllReadyH.cons ho h (AllReadyH.cons ho2 h2 AllReadyH.nil))
end
end Go.Proofs.YtjflaeohkhmkaaaDoor

namespace Go.Proofs.YtjflaeohkhmkaaaDoor
open Go.RowKit
set_option linter.unusedSimpArgs false
set_option linter.unusedVariables false

theorem tmod_lo (a n : Int) (hn : 0 < n) : -n < a.tmod n ∧ a.tmod n < n ∧ (0 ≤ a.tmod n ∨ a.tmod n < 0) := by
  have h1 := Int.tmod_lt_of_pos a hn
  have h2 : -n < a.tmod n := by
    have := Int.lt_tmod_of_pos a hn
    omega
  omega
theorem laid_go {W W' : World} {H : Nat} {o : Obj} (h : W.heap[H]? = some o) (b : Below W.heap.size W W') : W'.heap[H]? = some o :=
  (b.block H (Array.getElem?_eq_some_iff.1 h).1).trans h
section
variable {B hb n0 : Nat} {w W W' : World} {g : Nat → BitVec 8}
end
end Go.Proofs.YtjflaeohkhmkaaaDoor

namespace Go.Proofs.YtjflaeohkhmkaaaDoor
open Go.RowKit
set_option linter.unusedVariables false
set_option linter.unusedSimpArgs false

end Go.Proofs.YtjflaeohkhmkaaaDoor

namespace Go.Proofs.YtjflaeohkhmkaaaDoor
open Go.RowKit
set_option linter.unusedVariables false
set_option linter.unusedSimpArgs false

end Go.Proofs.YtjflaeohkhmkaaaDoor

namespace Go.Proofs.YtjflaeohkhmkaaaDoor
open Go.RowKit
set_option linter.unusedVariables false
set_option linter.unusedSimpArgs false

theorem RI.to {w W : World} {p : Option Addr} {m : Nat} {P : Nat → Option Addr} {ln C : Nat → Nat} {f : Nat → Nat → BitVec 8} (h : RI w p m P ln C f) (g : Below w.heap.size w W) : RI W p m P ln C f :=
  ⟨(h.rows.below g).mono g.size, h.cap, fun i hi => ((h.row i hi).below g).mono g.size⟩
theorem Reads.to {w W : World} {p : Option Addr} {n : Nat} {f : Nat → Value} (h : Reads w.heap.size w p n f) (g : Below w.heap.size w W) : Reads W.heap.size W p n f := (h.below g).mono g.size

end Go.Proofs.YtjflaeohkhmkaaaDoor

namespace Go.Proofs.YtjflaeohkhmkaaaDoor
open Go.RowKit
set_option linter.unusedVariables false
set_option linter.unusedSimpArgs false

theorem owns_nil_alloc {w : World} {e : TypeId} : (w.alloc (.cells #[] e)).ownsRow w.heap.size e 1 (.slice (some ⟨w.heap.size, 0, none⟩) 0 0) 0 [] := World.ownsRow_lit w #[] 0 (Nat.le_refl _) (by decide) rfl
theorem cellsOf_add (f : Nat → BitVec 8) (n m : Nat) : cellsOf f n ++ (List.range m).map (fun j => .int .u8 (ub (f (n + j)))) = cellsOf f (n + m) := by
  unfold cellsOf
  rw [List.range_add, List.map_append, List.map_map]
  rfl

/-! rows, one behind the other -/
set_option maxHeartbeats 1000000 in
set_option maxRecDepth 100000 in
theorem join_any (B : Nat) (w : World) (p : Option Addr) (m c : Nat) (P : Nat → Option Addr) (ln C : Nat → Nat) (f : Nat → Nat → BitVec 8) (g : Nat → BitVec 8) (hB : B ≤ w.heap.size) (hm : m ≤ 4294967295) (hn : pos ln m ≤ 4294967295)
    (hp : Reads B w p m (fun i => .slice (P i) (ln i) (C i))) (hr : ∀ i, i < m → Reads B w (P i) (ln i) (fun j => .int .u8 (ub (f i j)))) (hg : ∀ i, i < m → ∀ j, j < ln i → f i j = g (pos ln i + j)) :
    Calls Tryd.prog 22 #[.slice p m c] w fun e w' => ∃ v, e = .returned v ∧ Below w.heap.size w w' ∧ w'.ownsRow w.heap.size 5 1 v (pos ln m) (cellsOf g (pos ln m)) := by
  obtain ⟨i0, hi, hz0, hz1, hz2⟩ := info_parts Tryd.infoB
  have HP := Lib.hid hp
  have HR := Lib.hid hr
  have HG := Lib.hid hg
  have HN := Lib.hid hn
  have how := owns_nil_alloc (w := w) (e := 5)
  have HO := Lib.hid how
  clear hp hr hg hn how
  go_enter Tryd.func22, Tryd.ntmps22
  go_wp2
  go_loopw [3, 4] (fun v i wr => ∃ k : Nat, k ≤ m ∧ i = .int .i64 (k : Int) ∧ Below w.heap.size w wr ∧ wr.ownsRow w.heap.size 5 1 v (pos ln k) (cellsOf g (pos ln k))) (fun _ i _ => m - (intOf i).toNat)
  case atStart => exact ⟨0, Nat.zero_le _, rfl, (Below.refl _ _).alloc (Nat.le_refl _) _, HO.out⟩
  case round =>
    clear HO
    obtain ⟨k, hk, rfl, hb, hown⟩ := hrel
    by_cases hlt : k < m
    · rcases HP.out.below (hb.mono hB) with h0 | ⟨b, off, rfl, hbb, hcp⟩
      · omega
      have hcell := hcp k hlt
      have hmo := pos_mono ln (show k + 1 ≤ m by omega)
      simp only [pos] at hmo
      have hsz := hb.size
      have hle := HN.out
      have hap := fun ty => append_reads (P := Tryd.prog) wr w.heap.size B 23 ty 5 i0 (.int .u8 0) 1 Tryd.underlying23 hi hz0 hz1 hz2 rfl _ _ _ hown (P k) (ln k) (C k) _ ((HR.out k hlt).below (hb.mono hB)) (fun _ _ => rfl) (by unfold maxLen; omega) (by omega) hsz
      have HAP := Lib.hid hap
      have HB := Lib.hid hb
      have HO := Lib.hid hown
      clear hcp hap hb hown hmo hle
      go_wp2_with (at_builtin; (obtain ⟨v', w1, hrun, hown1, hgr1⟩ := HAP.out _; refine Lib.wpList_append_run _ rfl _ _ _ _ rfl _ _ rfl rfl v' w1 hrun ?_))
      have H2 := Lib.hid (HB.out.grown hgr1 hsz (fun q e => (HO.out.lt q e).1))
      have H3 := Lib.hid (show w1.ownsRow w.heap.size 5 1 v' (pos ln (k + 1)) (cellsOf g (pos ln (k + 1))) by
        rw [show (List.range (ln k)).map (fun j => Value.int .u8 (ub (f k j))) = (List.range (ln k)).map (fun j => Value.int .u8 (ub (g (pos ln k + j)))) from List.map_congr_left fun j hj => by rw [HG.out k hlt j (List.mem_range.1 hj)], cellsOf_add] at hown1
        exact hown1)
      clear hrun hown1 hgr1 hcell
      go_wp2
      go_roundw
      case rel => exact ⟨k + 1, by omega, by go_num, H2.out, H3.out⟩
      case measure => simp [intOf]; omega
    · obtain rfl : k = m := by omega
      have H2 := Lib.hid hb
      have H3 := Lib.hid hown
      clear hb hown
      go_wp2
      go_ret
      exact ⟨_, rfl, H2.out, H3.out⟩

/-! the filled bytes -/
/-- how many elements a slice has -/
def lenOf : Value → Nat
  | .slice _ n _ => n
  | _ => 0
/-- one byte is appended to an owned row -/
theorem append_byte (w : World) (base : Nat) (ty : TypeId) (v : Value) (n : Nat) (f : Nat → BitVec 8) (hown : w.ownsRow base 5 1 v n (cellsOf f n)) (x : Value) (hx : x = .int .u8 (ub (f n))) (hn : n + 1 ≤ 4294967296) (hbase : base ≤ w.heap.size) :
    ∃ v' w', (Builtin.append_ #[23, 23] ty #[v, .slice (some ⟨w.heap.size, 0, none⟩) 1 1]).run Tryd.prog (w.alloc (.cells #[x] 5)) = .ok v' w' ∧ w'.ownsRow base 5 1 v' (n + 1) (cellsOf f (n + 1)) ∧ w.grownBy w' v.ownBlock := by
  obtain ⟨i0, hi, hz0, hz1, hz2⟩ := info_parts Tryd.infoB
  subst hx
  obtain ⟨v', w', h1, h2, h3⟩ := append_reads (P := Tryd.prog) (w.alloc (.cells #[.int .u8 (ub (f n))] 5)) base _ 23 ty 5 i0 (.int .u8 0) 1 Tryd.underlying23 hi hz0 hz1 hz2 rfl _ _ _ (hown.alloc _) (some ⟨w.heap.size, 0, none⟩) 1 1 (fun _ => .int .u8 (ub (f n)))
    (reads_laid (laid_at rfl) (fun i hi => by rw [show i = 0 by omega]; rfl)) (fun _ _ => rfl) (by unfold maxLen; omega) (by omega) (by simp; omega)
  refine ⟨v', w', h1, ?_, (World.grownBy_alloc w _ _).trans h3⟩
  rw [show (List.range 1).map (fun _ : Nat => Value.int .u8 (ub (f n))) = [Value.int .u8 (ub (f n))] from rfl, cellsOf_succ] at h2
  exact h2
/-! a block's words -/
end Go.Proofs.YtjflaeohkhmkaaaDoor

namespace Go.Proofs.YtjflaeohkhmkaaaDoor
open Go.RowKit
set_option linter.unusedVariables false
set_option linter.unusedSimpArgs false

/-! the constants, the beginning -/
section
variable {w w' : World} {tb n : Nat} {f f' : Nat → BitVec 32}
end
end Go.Proofs.YtjflaeohkhmkaaaDoor

namespace Go.Proofs.YtjflaeohkhmkaaaDoor
open Go.RowKit
set_option linter.unusedVariables false
set_option linter.unusedSimpArgs false

end Go.Proofs.YtjflaeohkhmkaaaDoor

namespace Go.Proofs.YtjflaeohkhmkaaaDoor
open Go.RowKit
set_option linter.unusedVariables false
set_option linter.unusedSimpArgs false

theorem infoU8 : (Tryd.prog.info? 5).map (·.size) = some 1 := by kernel_rfl
theorem sizeU8 (w : World) : (sizeOf 5).run Tryd.prog w = .ok 1 w := by
  cases hq : Tryd.prog.info? 5 with
  | none => have := infoU8; rw [hq] at this; cases this
  | some i =>
    have h := infoU8
    rw [hq] at h
    have hs : i.size = 1 := by simpa using h
    simp [sizeOf, typeInfo, hq, hs]
end Go.Proofs.YtjflaeohkhmkaaaDoor

namespace Go.Proofs.YtjflaeohkhmkaaaDoor
open Go.RowKit
set_option linter.unusedVariables false
set_option linter.unusedSimpArgs false

section
variable {w W W' : World} {VH KH N : Nat} {pA : Option Addr} {fb : Nat → BitVec 8}
end
section
variable {w W W' : World} {VH KH N GW G : Nat} {pA : Option Addr} {fb : Nat → BitVec 8} {v wd st : Nat → BitVec 32}
end
end Go.Proofs.YtjflaeohkhmkaaaDoor

namespace Go.Proofs.YtjflaeohkhmkaaaDoor
open Go.RowKit
set_option linter.unusedSimpArgs false
set_option linter.unusedVariables false

end Go.Proofs.YtjflaeohkhmkaaaDoor

namespace Go.Proofs.YtjflaeohkhmkaaaDoor
open Go.RowKit
set_option linter.unusedVariables false
set_option linter.unusedSimpArgs false

end Go.Proofs.YtjflaeohkhmkaaaDoor

namespace Go.Proofs.YtjflaeohkhmkaaaDoor
open Go.RowKit
set_option linter.unusedVariables false
set_option linter.unusedSimpArgs false

theorem RI.three {W : World} {H n1 c1 n2 c2 n3 c3 : Nat} {p1 p2 p3 : Option Addr} {t : TypeId} {f1 f2 f3 : Nat → BitVec 8} (hW : W.heap[H]? = some (.cells #[.slice p1 n1 c1, .slice p2 n2 c2, .slice p3 n3 c3] t (0, 0)))
    (h1 : n1 ≤ c1 ∧ c1 ≤ maxLen) (h2 : n2 ≤ c2 ∧ c2 ≤ maxLen) (h3 : n3 ≤ c3 ∧ c3 ≤ maxLen)
    (r1 : Reads W.heap.size W p1 n1 (fun j => .int .u8 (ub (f1 j)))) (r2 : Reads W.heap.size W p2 n2 (fun j => .int .u8 (ub (f2 j)))) (r3 : Reads W.heap.size W p3 n3 (fun j => .int .u8 (ub (f3 j)))) :
    RI W (some ⟨H, 0, none⟩) 3 (fst3 p1 p2 p3) (fst3 n1 n2 n3) (fst3 c1 c2 c3) (fst3 f1 f2 f3) :=
  ⟨reads_at hW (fun i hi => by
    match i, hi with
    | 0, _ => rfl
    | 1, _ => rfl
    | 2, _ => rfl), fun i hi => by
    match i, hi with
    | 0, _ => exact h1
    | 1, _ => exact h2
    | 2, _ => exact h3, fun i hi => by
    match i, hi with
    | 0, _ => exact r1
    | 1, _ => exact r2
    | 2, _ => exact r3⟩
section
variable {B T : Nat} {w W W' : World} {s : Nat → BitVec 8}
end
section
variable {B T n : Nat} {w W W' : World} {s f : Nat → BitVec 8} {p : Option Addr}
end
end Go.Proofs.YtjflaeohkhmkaaaDoor

namespace Go.Proofs.YtjflaeohkhmkaaaDoor
open Go.RowKit
set_option linter.unusedVariables false
set_option linter.unusedSimpArgs false

section
variable {B TC TT : Nat} {w W W' : World} {a b c t : Nat → BitVec 8}
theorem tag_load {S : World → Prop} {ops : Array Oper} {o : Oper} {ac : Act} {x : Operand} {T : Nat} {s : Nat → BitVec 8} (hS : ∀ w, S w → BT w T 32 s) (h1 : Region.wanted o (yielded ops ac.tmps) = true) (h2 : o.op = .load 33 x) (h3 : ac.eval x = .pointer (some ⟨T, 0, none⟩)) : YieldsIf Tryd.prog ops S o (tagV s) ac :=
  yieldsIf_load_mid h1 33 x h2 T 0 h3 (tagC s) _ (fun w' hw' => (hS w' hw').range) Tryd.underlying33 rfl (by simp [infoTag, tagC_len])
end
end Go.Proofs.YtjflaeohkhmkaaaDoor

namespace Go.Proofs.YtjflaeohkhmkaaaDoor
open Go.RowKit
set_option linter.unusedVariables false
set_option linter.unusedSimpArgs false

/-- a block of bytes that is whole -/
structure OB (w : World) (H n : Nat) (f : Nat → BitVec 8) : Prop where
  bt : BT w H n f
  row : ∃ cur : Array Value, w.heap[H]? = some (.cells cur 5 (0, 0)) ∧ cur.size = n
section
variable {w w' : World} {H n : Nat} {f f' : Nat → BitVec 8}
theorem OB.congr (h : OB w H n f) (e : ∀ i, i < n → f i = f' i) : OB w H n f' := ⟨h.bt.congr e, h.row⟩
theorem OB.set (h : OB w H n f) (i : Nat) (hi : i < n) (x : BitVec 8) (hx : f' i = x) (ho : ∀ j, j < n → j ≠ i → f' j = f j) : OB (w.setCell ⟨H, i, none⟩ (.int .u8 (ub x))) H n f' := by
  obtain ⟨cur, hc, hs⟩ := h.row
  exact ⟨h.bt.set i hi x hx ho, _, heap_setCell_same w H i cur _ _ hc, by simpa using hs⟩
theorem OB.owns {base : Nat} (h : OB w H n f) (hb : base ≤ H) (hm : n ≤ maxLen) : w.ownsRow base 5 1 (.slice (some ⟨H, 0, none⟩) n n) n (cellsOf f n) := by
  obtain ⟨cur, hc, hs⟩ := h.row
  refine ⟨by simp [cellsOf], .inr ⟨H, n, cur, rfl, hb, hc, Nat.le_refl _, hm, by omega, ?_⟩⟩
  refine List.ext_getElem? fun i => ?_
  by_cases hi : i < n
  · have h1 := h.bt.byte i hi
    rw [cell_of_row w H i cur _ (0, 0) hc] at h1
    rw [List.getElem?_take, if_pos (by omega), Array.getElem?_toList, h1, cellsOf_at f n i hi]
  · rw [List.getElem?_eq_none (by simp; omega), List.getElem?_eq_none (by simp [cellsOf]; omega)]
theorem OB.made (w : World) (n : Nat) : OB (w.alloc (.cells (madeCells #[Value.int .u8 0] n) 5)) w.heap.size n (fun _ => 0#8) :=
  ⟨BT.of_cells (laid_at rfl) fun i hi => by simp [madeCells, hi, Nat.mod_one, ub], ⟨_, laid_at rfl, size_madeCells _ _⟩⟩
end
end Go.Proofs.YtjflaeohkhmkaaaDoor
namespace Go.Proofs.YtjflaeohkhmkaaaDoor
open Go.RowKit
set_option linter.unusedVariables false
set_option linter.unusedSimpArgs false

end Go.Proofs.YtjflaeohkhmkaaaDoor
namespace Go.Proofs.YtjflaeohkhmkaaaDoor
open Go.RowKit
set_option linter.unusedVariables false
set_option linter.unusedSimpArgs false

end Go.Proofs.YtjflaeohkhmkaaaDoor
namespace Go.Proofs.YtjflaeohkhmkaaaDoor
open Go.RowKit
set_option linter.unusedVariables false
set_option linter.unusedSimpArgs false

section
variable {w W1 W W' : World} {t : Nat → BitVec 8} {gk kn : Nat} {k : Nat → BitVec 8} {v : Value} {m : Nat} {G ln : Nat → Nat} {f : Nat → Nat → BitVec 8}
end
end Go.Proofs.YtjflaeohkhmkaaaDoor
