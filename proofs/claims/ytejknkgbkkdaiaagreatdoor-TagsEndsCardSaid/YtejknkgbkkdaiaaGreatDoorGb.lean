/-
  TagsTell: the document's maker: what it holds, what turns when it is asked.
-/
import Derived.Test.YtejknkgbkkdaiaaGreatDoorGa
import Derived.Test.YtejknkgbkkdaiaaGreatDoorG16
import Derived.Test.YtejknkgbkkdaiaaGreatDoorG19
import Derived.Great.BuildSlice
namespace Go.Proofs.YtejknkgbkkdaiaaGreatDoor
open Go.RowKit
set_option linter.unusedVariables false
set_option linter.unusedSimpArgs false

theorem ne_some' {a b : Nat} (h : a ≠ b) : some a ≠ some b := fun e => h (Option.some.inj e)
/-- of the old blocks, one and a row's own may have turned -/
structure Rch (rb : Nat) (o : Option Nat) (w w' : World) : Prop where
  os : w'.os = w.os
  tape : w'.tape = w.tape
  output : w'.output = w.output
  size : w.heap.size ≤ w'.heap.size
  block : ∀ k, k < w.heap.size → k ≠ rb → some k ≠ o → w'.heap[k]? = w.heap[k]?
section
variable {rb : Nat} {o : Option Nat} {w w' w'' : World}
theorem Rch.of (g : Below w.heap.size w w') : Rch rb o w w' := ⟨g.os, g.tape, g.output, g.size, fun k hk _ _ => g.block k hk⟩
theorem Rch.trans (h : Rch rb o w w') (k : Rch rb o w' w'') : Rch rb o w w'' :=
  ⟨k.os.trans h.os, k.tape.trans h.tape, k.output.trans h.output, Nat.le_trans h.size k.size, fun i hi h1 h2 => (k.block i (Nat.lt_of_lt_of_le hi h.size) h1 h2).trans (h.block i hi h1 h2)⟩
theorem Rch.grown (g : w.grownBy w' o) : Rch rb o w w' := ⟨g.os, g.tape, g.output, g.size, fun k hk _ h2 => g.block k hk h2⟩
theorem Rch.one (g : w.grownBy w' (some rb)) : Rch rb o w w' := ⟨g.os, g.tape, g.output, g.size, fun k hk h1 _ => g.block k hk (ne_some' h1)⟩
theorem Rch.new (h : Rch rb o w w') {x : Nat} (g : w'.grownBy w'' (some x)) (hx : w.heap.size ≤ x) : Rch rb o w w'' :=
  ⟨g.os.trans h.os, g.tape.trans h.tape, g.output.trans h.output, Nat.le_trans h.size g.size, fun k hk h1 h2 => (g.block k (Nat.lt_of_lt_of_le hk h.size) (ne_some' (by omega))).trans (h.block k hk h1 h2)⟩
theorem Rch.below {B : Nat} {w0 : World} (h : Rch rb o w w') (h0 : Below B w0 w) (hb : B ≤ rb) (ho : ∀ q, o = some q → B ≤ q) (hs : B ≤ w.heap.size) : Below B w0 w' :=
  h0.trans ⟨h.os, h.tape, h.output, h.size, fun k hk => h.block k (Nat.lt_of_lt_of_le hk hs) (by omega) (fun e => by have := ho k e.symm; omega)⟩
theorem Rch.at {k : Nat} {x : Obj} (h : Rch rb o w w') (hk : w.heap[k]? = some x) (h1 : k ≠ rb) (h2 : some k ≠ o) : w'.heap[k]? = some x :=
  (h.block k (Array.getElem?_eq_some_iff.1 hk).1 h1 h2).trans hk
theorem Rch.bt {tb n : Nat} {f : Nat → BitVec 8} (h : Rch rb o w w') (hb : BT w tb n f) (h1 : tb ≠ rb) (h2 : some tb ≠ o) : BT w' tb n f := hb.of_block h.size (h.block tb hb.lt h1 h2)
theorem Rch.own {base k n : Nat} {e : TypeId} {v : Value} {xs : List Value} (h : Rch rb o w w') (hr : w.ownsRow base e k v n xs) (h1 : v.ownBlock ≠ some rb) (h2 : ∀ q, v.ownBlock = some q → some q ≠ o) : w'.ownsRow base e k v n xs := by
  refine ⟨hr.1, ?_⟩
  rcases hr.2 with hn | ⟨g, cap, cur, rfl, hb, hg, rest⟩
  · exact .inl hn
  · exact .inr ⟨g, cap, cur, rfl, hb, h.at hg (fun e => h1 (by rw [← e]; rfl)) (h2 g rfl), rest⟩
end
/-- a thing's cells -/
def thC (x : Thing) : List Value := [.int .i64 x.1, .string ⟨x.2.1.toArray⟩, .string ⟨x.2.2.1.toArray⟩, .int .i64 x.2.2.2]
theorem thC_len (x : Thing) : (thC x).length = 4 := rfl
def rthL : List Thing → List Value
  | [] => []
  | x :: r => thC x ++ rthL r
theorem rthL_len : ∀ L, (rthL L).length = L.length * 4
  | [] => rfl
  | x :: r => by show (thC x ++ rthL r).length = _; rw [List.length_append, thC_len, rthL_len r, List.length_cons]; omega
theorem rthL_append : ∀ L M, rthL (L ++ M) = rthL L ++ rthL M
  | [], M => rfl
  | x :: r, M => by show thC x ++ rthL (r ++ M) = _; rw [rthL_append r M]; simp [rthL]
theorem rthL_at : ∀ (L : List Thing) (i j : Nat) (h : i < L.length), j < 4 → (rthL L)[i * 4 + j]? = (thC L[i])[j]?
  | x :: r, 0, j, _, hj => by show (thC x ++ rthL r)[0 * 4 + j]? = _; rw [Nat.zero_mul, Nat.zero_add, List.getElem?_append_left (by rw [thC_len]; exact hj)]; rfl
  | x :: r, i + 1, j, h, hj => by
    show (thC x ++ rthL r)[(i + 1) * 4 + j]? = _
    rw [List.getElem?_append_right (by rw [thC_len]; omega), thC_len, show (i + 1) * 4 + j - 4 = i * 4 + j by omega]
    exact rthL_at r i j (by simpa using h) hj
/-- the document's maker -/
structure RMk (W : World) (rb : Nat) (real : Bool) (sv av : Value) (b0 : Nat) (L : List Thing) : Prop where
  box : W.heap[rb]? = some (.cells #[.bool real, sv, av] 34 (0, 0))
  own : W.ownsRow b0 77 4 av L.length (rthL L)
  lo : rb < b0
section
variable {W W' : World} {rb b0 : Nat} {real : Bool} {sv av : Value} {L : List Thing}
theorem RMk.go (h : RMk W rb real sv av b0 L) (g : Below W.heap.size W W') : RMk W' rb real sv av b0 L := ⟨laid_go h.box g, owns_below h.own g, h.lo⟩
theorem RMk.nob (h : RMk W rb real sv av b0 L) : av.ownBlock ≠ some rb := fun e => by have := (h.own.lt rb e).1; have := h.lo; omega
theorem RMk.gr {x : Nat} (h : RMk W rb real sv av b0 L) (g : W.grownBy W' (some x)) (h1 : rb ≠ x) (h2 : av.ownBlock ≠ some x) : RMk W' rb real sv av b0 L :=
  ⟨(g.block rb (Array.getElem?_eq_some_iff.1 h.box).1 (ne_some' h1)).trans h.box, owns_gr h.own g (fun q hq => by cases hq; exact h2), h.lo⟩
theorem RMk.cells (h : RMk W rb real sv av b0 L) : W.cell? ⟨rb, 0, none⟩ = some (.bool real) ∧ W.cell? ⟨rb, 1, none⟩ = some sv ∧ W.cell? ⟨rb, 2, none⟩ = some av ∧ (∀ o, W.frozen? ⟨rb, o, none⟩ = false) ∧ rb < W.heap.size :=
  ⟨by rw [cell_of_row W rb 0 _ _ (0, 0) h.box]; rfl, by rw [cell_of_row W rb 1 _ _ (0, 0) h.box]; rfl, by rw [cell_of_row W rb 2 _ _ (0, 0) h.box]; rfl, fun o => frozen_of_row W rb o _ _ h.box, (Array.getElem?_eq_some_iff.1 h.box).1⟩
/-- the i-th thing's cells -/
theorem RMk.at (h : RMk W rb real sv av b0 L) (i : Nat) (hi : i < L.length) : ∃ y g cap, L[i]? = some y ∧ av = .slice (some ⟨g, 0, none⟩) L.length cap ∧
    W.cell? ⟨g, i * 4, none⟩ = some (.int .i64 y.1) ∧ W.cell? ⟨g, i * 4 + 1, none⟩ = some (.string ⟨y.2.1.toArray⟩) ∧ W.cell? ⟨g, i * 4 + 2, none⟩ = some (.string ⟨y.2.2.1.toArray⟩) ∧ W.cell? ⟨g, i * 4 + 3, none⟩ = some (.int .i64 y.2.2.2) := by
  have ho := h.own
  rcases ho.2 with ⟨_, h0⟩ | ⟨g, cap, cur, hv, _⟩
  · omega
  · have hc : ∀ j v, j < 4 → (thC L[i])[j]? = some v → W.cell? ⟨g, i * 4 + j, none⟩ = some v := fun j v hj hv' => by
      have := ho.cells (g := g) (by rw [hv]; rfl) (i * 4 + j) v (by rw [rthL_at L i j hi hj]; exact hv')
      rwa [Go.WideShapes.add_plain, Nat.zero_add] at this
    exact ⟨L[i], g, cap, List.getElem?_eq_getElem hi, hv, hc 0 _ (by omega) rfl, hc 1 _ (by omega) rfl, hc 2 _ (by omega) rfl, hc 3 _ (by omega) rfl⟩
theorem RMk.form (h : RMk W rb real sv av b0 L) : ∃ p cap, av = .slice p L.length cap := by
  rcases h.own.2 with ⟨h1, h2⟩ | ⟨g, cap, cur, hv, _⟩
  · exact ⟨none, 0, by rw [h1, h2]⟩
  · exact ⟨_, cap, hv⟩
end
theorem RMk.off_bt {W : World} {rb b0 tb : Nat} {real : Bool} {sv av : Value} {L : List Thing} {f : Nat → BitVec 8} (h : RMk W rb real sv av b0 L) (h0 : 0 < L.length) (hb : BT W tb 32 f) : av.ownBlock ≠ some tb := fun e => by
  obtain ⟨y, g, cap, _, hv, q0, _⟩ := h.at 0 h0
  rw [hv] at e
  cases e
  have h1 := hb.byte 0 (by omega)
  rw [Nat.zero_mul] at q0
  rw [q0] at h1
  cases h1
theorem infoThRZ : ((Tryz.prog.info? 77).bind (·.zero)).map (·.cells.size) = some 4 := by kernel_rfl
theorem infoThRB : (Tryz.prog.info? 77).map (·.bytes) = some 48 := by kernel_rfl
theorem infoThR : (Tryz.prog.info? 77).map (·.size) = some 4 := by kernel_rfl
theorem infoThRAll : ∃ ie, Tryz.prog.info? 77 = some ie ∧ (∃ z, ie.zero = some z ∧ z.cells.size = 4) ∧ ie.size = 4 ∧ ie.bytes = 48 := by
  cases hie : Tryz.prog.info? 77 with
  | none => have := infoThR; rw [hie] at this; cases this
  | some ie =>
    have h1 := infoThR
    have h2 := infoThRZ
    have h3 := infoThRB
    simp only [hie, Option.map_some, Option.some.injEq, Option.bind_some] at h1 h2 h3
    obtain ⟨z, hz, hs⟩ := Option.map_eq_some_iff.1 h2
    exact ⟨ie, rfl, ⟨z, hz, hs⟩, h1, h3⟩
/-- a row of one thing is laid -/
theorem wp_sliceR {o : Oper} {a : Act} {w : World} {K : Act → World → Prop} {Q : Exit → Act → World → Prop} (v : Operand) (ho : o.op = .buildSlice 32 1 #[(0, v)])
    (X : Array Value) (hX : X.size = 4) (hv : a.eval v = .agg X)
    (h : K (a.put o.dst (.slice (some ⟨w.heap.size, 0, none⟩) 1 1)) (w.alloc (.cells X 77))) : o.wp Tryz.prog a w K Q := by
  obtain ⟨ie, hie, ⟨z, hzz, hzs⟩, hsz, _⟩ := infoThRAll
  refine wp_buildSlice 32 77 1 #[(0, v)] ho _ ie z Tryz.underlying32 hie hzz (by rw [hsz]; omega) (by rw [hsz]; omega) ?_ h
  have hf := Great.fill_whole (s := 4) (by omega) ([X].map Value.agg) ((Array.range (1 * 4)).map (z.cells[· % z.cells.size]!)) (fun v hv => by obtain ⟨Y, hy, rfl⟩ := List.mem_map.1 hv; rw [List.mem_singleton.1 hy]; exact hX) (by simp)
  rw [Array.toList_map, hsz]
  simp only [List.map_cons, List.map_nil, hv]
  rw [show ([(0, Value.agg X)] : List (Nat × Value)) = (([X].map Value.agg).zipIdx 0).map fun x => (x.2, x.1) from rfl, hf]
  simp
  rfl
theorem idx_first : ∀ (L : List Thing) (x : Thing) (i : Nat), L[i]? = some x → (∀ j y, j < i → L[j]? = some y → y ≠ x) → idx L x = i
  | [], x, i, h, _ => by simp at h
  | y :: L, x, 0, h, _ => by
    have : y = x := by simpa using h
    subst this
    simp [idx]
  | y :: L, x, i + 1, h, hn => by
    have h1 : y ≠ x := hn 0 y (by omega) rfl
    have h2 := idx_first L x i (by simpa using h) (fun j z hj hz => hn (j + 1) z (by omega) (by simpa using hz))
    simp [idx, h1, h2]
theorem own_form {W : World} {base n : Nat} {v : Value} {xs : List Value} (h : W.ownsRow base 77 4 v n xs) : ∃ p c, v = .slice p n c := by
  rcases h.2 with ⟨h1, h2⟩ | ⟨g, cap, cur, hv, _⟩
  · exact ⟨none, 0, by rw [h1, h2]⟩
  · exact ⟨_, cap, hv⟩
theorem own_lo {W : World} {base k n q : Nat} {e : TypeId} {v : Value} {xs : List Value} (h : W.ownsRow base e k v n xs) (hq : q < base) : v.ownBlock ≠ some q := fun e => by have := (h.lt q e).1; omega
theorem bx_of {W : World} {H : Nat} {kd nm : Int} {K T : ByteArray} (h : W.heap[H]? = some (.cells #[.int .i64 kd, .string K, .string T, .int .i64 nm] 77 (0, 0))) : W.cell? ⟨H, 0, none⟩ = some (.int .i64 kd) ∧ W.cell? ⟨H, 1, none⟩ = some (.string K) ∧ W.cell? ⟨H, 2, none⟩ = some (.string T) ∧ W.cell? ⟨H, 3, none⟩ = some (.int .i64 nm) :=
  ⟨by rw [cell_of_row W _ 0 _ _ (0, 0) h]; rfl, by rw [cell_of_row W _ 1 _ _ (0, 0) h]; rfl, by rw [cell_of_row W _ 2 _ _ (0, 0) h]; rfl, by rw [cell_of_row W _ 3 _ _ (0, 0) h]; rfl⟩
end Go.Proofs.YtejknkgbkkdaiaaGreatDoor
