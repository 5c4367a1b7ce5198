/-
  A row of five positions.
-/
import Derived.Test.YteahikjnlhlmmaaDoorBy
namespace Go.Proofs.YteahikjnlhlmmaaDoor
open Go.RowKit Go.Sort
set_option linter.unusedSimpArgs false
set_option linter.unusedVariables false

theorem fold_off (off : Nat) : ∀ (L : List Value) (k : Nat) (cs : Array Value), off + k + L.length ≤ cs.size → ∀ i, (List.foldl (fun (cs : Array Value) (x : Value × Nat) => cs.setIfInBounds (off + x.2) x.1) cs (L.zipIdx k))[i]? = if off + k ≤ i ∧ i < off + k + L.length then L[i - (off + k)]? else cs[i]?
  | [], k, cs, _, i => by simp; omega
  | v :: L, k, cs, h, i => by
    simp only [List.length_cons] at h
    rw [List.zipIdx_cons, List.foldl_cons, fold_off off L (k + 1) _ (by simp; omega) i]
    by_cases h1 : off + (k + 1) ≤ i ∧ i < off + (k + 1) + L.length
    · rw [if_pos h1, if_pos (by simp only [List.length_cons]; omega), show i - (off + k) = (i - (off + (k + 1))) + 1 by omega, List.getElem?_cons_succ]
    · rw [if_neg h1]
      by_cases h2 : i = off + k
      · subst h2
        rw [if_pos (by simp), Nat.sub_self, List.getElem?_cons_zero, Array.getElem?_setIfInBounds_self_of_lt (by omega)]
      · rw [if_neg (by simp only [List.length_cons]; omega), Array.getElem?_setIfInBounds_ne (by omega)]
/-- a part of a row is another -/
def setAt (off : Nat) (X cs : Array Value) : Array Value := X.zipIdx.foldl (fun (cs : Array Value) (x : Value × Nat) => cs.setIfInBounds (off + x.2) x.1) cs
theorem setAt_get (off : Nat) (X cs : Array Value) (h : off + X.size ≤ cs.size) (i : Nat) : (setAt off X cs)[i]? = if off ≤ i ∧ i < off + X.size then X[i - off]? else cs[i]? := by
  unfold setAt
  rw [← Array.foldl_toList, Array.toList_zipIdx, fold_off off X.toList 0 cs (by simpa using h) i]
  simp
theorem setAt_size (off : Nat) (X cs : Array Value) : (setAt off X cs).size = cs.size := by
  unfold setAt
  rw [← Array.foldl_toList]
  generalize X.zipIdx.toList = l
  induction l generalizing cs with
  | nil => rfl
  | cons x l ih => rw [List.foldl_cons, ih]; simp
theorem fill_step (place : Nat → Option (Nat × Nat)) (cs X : Array Value) (k off : Nat) (rest : List (Nat × Value)) (hp : place k = some (off, X.size)) (h : off + X.size ≤ cs.size) : Instr.fill place cs ((k, .agg X) :: rest) = Instr.fill place (setAt off X cs) rest := by
  have e : Instr.fill place cs ((k, .agg X) :: rest) = if (decide (X.size ≠ X.size) || decide (off + X.size > cs.size)) = true then none else Instr.fill place (setAt off X cs) rest := by
    rw [Instr.fill, hp]; rfl
  rw [e, if_neg (by simp; omega)]
theorem five_fill (X cs : Array Value) (hX : X.size = 133) (hc : cs.size = 665) : ∃ C : Array Value, (∀ k, k < 5 → ∀ i, i < 133 → C[k * 133 + i]? = X[i]?) ∧
    Instr.fill (fun i => some (i * 133, 133)) cs [(0, .agg X), (1, .agg X), (2, .agg X), (3, .agg X), (4, .agg X)] = some C := by
  refine ⟨setAt (4 * 133) X (setAt (3 * 133) X (setAt (2 * 133) X (setAt (1 * 133) X (setAt (0 * 133) X cs)))), ?_, ?_⟩
  · intro k hk i hi
    rw [setAt_get _ _ _ (by simp only [setAt_size]; omega), setAt_get _ _ _ (by simp only [setAt_size]; omega), setAt_get _ _ _ (by simp only [setAt_size]; omega), setAt_get _ _ _ (by simp only [setAt_size]; omega), setAt_get _ _ _ (by omega), hX]
    rcases (show k = 0 ∨ k = 1 ∨ k = 2 ∨ k = 3 ∨ k = 4 by omega) with rfl | rfl | rfl | rfl | rfl
    · rw [if_neg (by omega), if_neg (by omega), if_neg (by omega), if_neg (by omega), if_pos (by omega)]; exact congrArg (fun j => X[j]?) (by omega)
    · rw [if_neg (by omega), if_neg (by omega), if_neg (by omega), if_pos (by omega)]; exact congrArg (fun j => X[j]?) (by omega)
    · rw [if_neg (by omega), if_neg (by omega), if_pos (by omega)]; exact congrArg (fun j => X[j]?) (by omega)
    · rw [if_neg (by omega), if_pos (by omega)]; exact congrArg (fun j => X[j]?) (by omega)
    · rw [if_pos (by omega)]; exact congrArg (fun j => X[j]?) (by omega)
  · rw [fill_step _ _ _ _ (0 * 133) _ (by rw [hX]) (by omega), fill_step _ _ _ _ (1 * 133) _ (by rw [hX]) (by simp only [setAt_size]; omega), fill_step _ _ _ _ (2 * 133) _ (by rw [hX]) (by simp only [setAt_size]; omega),
      fill_step _ _ _ _ (3 * 133) _ (by rw [hX]) (by simp only [setAt_size]; omega), fill_step _ _ _ _ (4 * 133) _ (by rw [hX]) (by simp only [setAt_size]; omega)]
    rfl
theorem run_five (W : World) (X : Array Value) (hX : X.size = 133) : ∃ C : Array Value, (∀ k, k < 5 → ∀ i, i < 133 → C[k * 133 + i]? = X[i]?) ∧
    (Instr.buildSlice 45 5 #[(0, .agg X), (1, .agg X), (2, .agg X), (3, .agg X), (4, .agg X)]).run Tryd.prog W = .ok (.slice (some ⟨W.heap.size, 0, none⟩) 5 5) (W.alloc (.cells C 29)) := by
  have hz : ∃ z : Value, (zeroValue 29).run Tryd.prog W = .ok z W := by
    have hs : Tryd.t29.zero.isSome = true := by kernel_rfl
    simp [zeroValue, go_sem]
    cases h : Tryd.t29.zero with
    | none => rw [h] at hs; cases hs
    | some v => exact ⟨v, by simp⟩
  obtain ⟨z, hz⟩ := hz
  obtain ⟨C, h1, h2⟩ := five_fill X ((Array.range (5 * 133)).map (fun i => z.cells[i % z.cells.size]!)) hX (by simp)
  refine ⟨C, h1, ?_⟩
  simp only [Instr.buildSlice, Sem.run_bind, run_underlying Tryd.underlying45, Result.andThen_ok, size_of_info infoPos]
  simp [hz, h2, newRow, newObj]
  rfl
/-- a row of five positions, in a block of its own -/
structure R5 (W : World) (blk : Nat) (f : Nat → Int) : Prop where
  lt : blk < W.heap.size
  cell : ∀ i, i < 665 → W.cell? ⟨blk, i, none⟩ = some (.int .i64 (f i))
  fr : ∀ i, W.frozen? ⟨blk, i, none⟩ = false
theorem R5.go {W W' : World} {b : Nat} {f : Nat → Int} (h : R5 W b f) (g : Below W.heap.size W W') : R5 W' b f :=
  ⟨Nat.lt_of_lt_of_le h.lt g.size, fun i hi => by rw [g.cell (p := ⟨b, i, none⟩) h.lt]; exact h.cell i hi, fun i => by rw [g.frozen (p := ⟨b, i, none⟩) h.lt]; exact h.fr i⟩
theorem R5.set {w : World} {b : Nat} {f : Nat → Int} (h : R5 w b f) (i : Nat) (x : Int) (hi : i < 665) : R5 (w.setCell ⟨b, i, none⟩ (.int .i64 x)) b (setN f i x) :=
  ⟨by rw [World.size_setCell]; exact h.lt, fun j hj => by
    unfold setN
    by_cases e : j = i
    · subst e; rw [if_pos rfl, World.cell?_setCell_same _ _ _ (h.cell j hj)]
    · rw [if_neg e, World.cell?_setCell_other _ _ _ _ (by intro hh; injection hh with _ h2; omega)]; exact h.cell j hj, fun j => by rw [World.frozen?_setCell]; exact h.fr j⟩
theorem R5.range {W : World} {b : Nat} {f : Nat → Int} (h : R5 W b f) (k : Nat) (hk : k < 5) : W.rangeAt b (k * 133) (pc fun i => f (k * 133 + i)) := fun j v hv => by
  have hj : j < 133 := by have := (List.getElem?_eq_some_iff.1 hv).1; rwa [pc_len] at this
  rw [pc_get _ _ hj] at hv
  rw [h.cell _ (by omega), hv]
theorem R5.new {W : World} {P : Nat → Int} {X C : Array Value} (hX : X = (pc P).toArray) (hC : ∀ k, k < 5 → ∀ i, i < 133 → C[k * 133 + i]? = X[i]?) : R5 (W.alloc (.cells C 29)) W.heap.size (fun j => P (j % 133)) :=
  ⟨by simp, fun i hi => by
    rw [cell_of_row _ _ i _ _ (0, 0) (sl_at rfl)]
    have := hC (i / 133) (by omega) (i % 133) (Nat.mod_lt _ (by omega))
    rw [show i / 133 * 133 + i % 133 = i by omega] at this
    rw [this, hX, List.getElem?_toArray, pc_get _ _ (Nat.mod_lt _ (by omega))], fun i => frozen_of_row _ _ i _ _ (sl_at rfl)⟩
theorem wpList_posO {ops : Array Oper} {rest : List Oper} {op : Oper} {a : Act} {w : World} {Q : Exit → Act → World → Prop} (hw : Region.wanted op (yielded ops a.tmps) = true) (x : Operand) (ho : op.op = .load 29 x)
    (b o : Nat) (P : Nat → Int) (X : Array Value) (hX : X = (pc P).toArray) (hx : a.eval x = .pointer (some ⟨b, o, none⟩)) (hc : w.rangeAt b o (pc P)) (h : wpList Tryd.prog ops Q rest (a.put op.dst (.agg X)) w) : wpList Tryd.prog ops Q (op :: rest) a w := by
  subst hX
  exact BigFrame.wpList_want hw fun _ hK => wp_load_mid 29 x ho b o hx (pc P) _ hc Tryd.underlying29 rfl (by rw [infoPos, pc_len]) (hK _ _ h)
theorem wpList_five {ops : Array Oper} {rest : List Oper} {d p0 p1 p2 p3 p4 : Tmp} {ty : TypeId} {pos : String} {e : Array Edge} {a : Act} {w : World} {Q : Exit → Act → World → Prop} (P : Nat → Int) (X : Array Value) (hX : X = (pc P).toArray)
    (h0 : a.eval (.tmp p0) = .agg X) (h1 : a.eval (.tmp p1) = .agg X) (h2 : a.eval (.tmp p2) = .agg X) (h3 : a.eval (.tmp p3) = .agg X) (h4 : a.eval (.tmp p4) = .agg X)
    (k : ∀ W, Below w.heap.size w W → R5 W w.heap.size (fun j => P (j % 133)) → wpList Tryd.prog ops Q rest (a.put (some d) (.slice (some ⟨w.heap.size, 0, none⟩) 5 5)) W) :
    wpList Tryd.prog ops Q ({ dst := some d, op := .buildSlice 45 5 #[(0, .tmp p0), (1, .tmp p1), (2, .tmp p2), (3, .tmp p3), (4, .tmp p4)], type := ty, pos := pos, after := e, guard := none } :: rest) a w := by
  obtain ⟨C, hC, hr⟩ := run_five w X (by rw [hX, pc_size])
  refine wpList_plain rfl (fun K hK => ?_)
  unfold Oper.wp execOp
  simp only [h0, h1, h2, h3, h4, List.map_toArray, List.map_cons, List.map_nil, Array.map, Sem.run_bind, hr, Result.andThen_ok, Sem.run_pure]
  simp [h0, h1, h2, h3, h4, hr]
  exact hK _ _ (k _ (below_new _) (R5.new hX hC))
end Go.Proofs.YteahikjnlhlmmaaDoor
