/-
  Merged: Bj, Bk, Bl.
-/
import Derived.Test.YtldepimkbnodpaaDoorBi

namespace Go.Proofs.YtldepimkbnodpaaDoor
open Go.RowKit Go.Sort
set_option linter.unusedSimpArgs false
set_option linter.unusedVariables false

theorem setN_self (Q : Nat → Int) (i : Nat) (x : Int) (h : Q i = x) : setN Q i x = Q := by
  funext j; unfold setN; split
  · rename_i e; rw [e, h]
  · rfl
theorem mir_parts (j : Nat) (hj : j < 64) : (j : Int).tdiv 8 = ((j / 8 : Nat) : Int) ∧ (j : Int).tmod 8 = ((j % 8 : Nat) : Int) ∧ 8 * (7 - ((j / 8 : Nat) : Int)) + ((j % 8 : Nat) : Int) = ((mir j : Nat) : Int) ∧ j / 8 < 8 ∧ j % 8 < 8 := by
  refine ⟨?_, ?_, ?_, by omega, by omega⟩
  · rw [Int.tdiv_eq_ediv_of_nonneg (by omega)]; omega
  · rw [Int.tmod_eq_emod_of_nonneg (by omega)]; omega
  · unfold mir; omega
end Go.Proofs.YtldepimkbnodpaaDoor

namespace Go.Proofs.YtldepimkbnodpaaDoor
open Go.RowKit Go.Sort
set_option linter.unusedSimpArgs false
set_option linter.unusedVariables false

/-- a piece put on the first m of some squares -/
def putN (P : Nat → Int) (k d : Int) (g : Nat → Int) : Nat → Nat → Int
  | 0 => P
  | m + 1 => setN (setN (putN P k d g m) (2 * (g m).toNat) k) (2 * (g m).toNat + 1) d
/-- are the first m numbers squares -/
def okN (g : Nat → Int) : Nat → Bool
  | 0 => true
  | m + 1 => okN g m && sq (g m)
theorem okN_iff (g : Nat → Int) (n : Nat) : okN g n = true ↔ ∀ i, i < n → sq (g i) = true := by
  induction n with
  | zero => simp [okN]
  | succ n ih =>
    simp only [okN, Bool.and_eq_true, ih]
    constructor
    · rintro ⟨h1, h2⟩ i hi
      rcases Nat.lt_succ_iff_lt_or_eq.1 hi with h | rfl
      · exact h1 i h
      · exact h2
    · intro h; exact ⟨fun i hi => h i (by omega), h n (by omega)⟩
theorem okN_false (g : Nat → Int) {n m : Nat} (h : m < n) (hs : sq (g m) = false) : okN g n = false := by
  cases e : okN g n
  · rfl
  · rw [(okN_iff g n).1 e m h] at hs; cases hs
/-- may be put -/
def canP (k d : Int) : Bool := pe k d 0 0 || mayB k d
/-- what Put answers -/
def putQ (P : Nat → Int) (k d : Int) (g : Nat → Int) (n : Nat) : Nat → Int := if canP k d && okN g n then putN P k d g n else fun _ => 0
def putE (k d : Int) (g : Nat → Int) (n : Nat) : Int := if canP k d then (if okN g n then 0 else 6) else 2
theorem infoErrno : (Tryd.prog.info? 32).map (·.size) = some 1 := by kernel_rfl
theorem three_at (w : World) (o1 o2 o3 : Obj) : (((w.alloc o1).alloc o2).alloc o3).heap[w.heap.size]? = some o1 ∧ (((w.alloc o1).alloc o2).alloc o3).heap[w.heap.size + 1]? = some o2 ∧ (((w.alloc o1).alloc o2).alloc o3).heap[w.heap.size + 2]? = some o3 ∧
    Below w.heap.size w (((w.alloc o1).alloc o2).alloc o3) ∧ (((w.alloc o1).alloc o2).alloc o3).heap.size = w.heap.size + 3 :=
  ⟨sl_go (two_at w o1 o2).1 (below_new _), sl_go (two_at w o1 o2).2.1 (below_new _), sl_at (by simp), (two_at w o1 o2).2.2.1.alloc (by simp; omega) _, by simp⟩

/-- what stands while a piece is put: the position, the piece, the answer's place -/
structure PT (w W : World) (P : Nat → Int) (k d : Int) : Prop where
  p : PB W w.heap.size P
  x : W.heap[w.heap.size + 1]? = some (.cells #[.int .i64 k, .int .i64 d] 25 (0, 0))
  z : PB W (w.heap.size + 2) (fun _ => 0)
  b : Below w.heap.size w W
  s : w.heap.size + 3 ≤ W.heap.size
theorem PT.go {w W W' : World} {P : Nat → Int} {k d : Int} (h : PT w W P k d) (g : Below W.heap.size W W') : PT w W' P k d :=
  ⟨h.p.go g, sl_go h.x g, h.z.go g, h.b.trans (g.mono h.b.size), Nat.le_trans h.s g.size⟩
theorem PT.set {w W : World} {P : Nat → Int} {k d : Int} (h : PT w W P k d) (i : Nat) (v : Int) (hi : i < 133) : PT w (W.setCell ⟨w.heap.size, i, none⟩ (.int .i64 v)) (setN P i v) k d :=
  ⟨h.p.set i v hi, (Go.heap_setCell_other _ _ _ _ (by simp)).trans h.x, h.z.other (by omega) _ _, h.b.setCell (p := ⟨w.heap.size, i, none⟩) (Nat.le_refl _) _, by rw [World.size_setCell]; exact h.s⟩
theorem PT.begin (w : World) (P : Nat → Int) (k d : Int) (X : Array Value) (hX : X = (pc P).toArray) :
    PT w (((w.alloc (.cells X 29)).alloc (.cells #[.int .i64 k, .int .i64 d] 25)).alloc (.cells Tryd.zeroCells29 29)) P k d := by
  obtain ⟨a1, a2, a3, a4, a5⟩ := three_at w (.cells X 29) (.cells #[.int .i64 k, .int .i64 d] 25) (.cells Tryd.zeroCells29 29)
  rw [zeroPos] at *
  exact ⟨PB.of_block (by rw [hX] at a1 ⊢; exact a1), a2, PB.of_block a3, a4, by rw [a5]; exact Nat.le_refl _⟩

theorem results_mid2 {P : Program} {fn : Func} {p u : Tmp} {ty : TypeId} (h : fn.results = #[.cell p ty, .tmp u]) (tmps : Array Value) (w : World) (g : Nat) (cs : List Value) (d : TypeDesc) (v : Value)
    (hp : tmps.getD p undef = .pointer (some ⟨g, 0, none⟩)) (hv : tmps.getD u undef = v) (hc : w.rangeAt g 0 cs) (hu : P.underlying ty = some d) (hd : d.isRow = true) (hi : (P.info? ty).map (·.size) = some cs.length) :
    (results fn tmps).run P w = .ok (.tuple #[.agg cs.toArray, v]) w := by
  rw [results_cell_tmp h, hp, hv]
  simp [asAddr, run_loadVar_mid w g 0 ty cs d hc hu hd hi]
theorem PT.stored {w W : World} {P Q : Nat → Int} {k d : Int} (h : PT w W P k d) : (W.setCells (w.heap.size + 2) 0 (pc Q)).rangeAt (w.heap.size + 2) 0 (pc Q) ∧ Below w.heap.size w (W.setCells (w.heap.size + 2) 0 (pc Q)) :=
  ⟨(h.z.store (Q := Q)).range, below_store (b := w.heap.size + 2) Q h.b (by omega) h.b.size⟩

end Go.Proofs.YtldepimkbnodpaaDoor

namespace Go.Proofs.YtldepimkbnodpaaDoor
open Go.RowKit Go.Sort
set_option linter.unusedSimpArgs false
set_option linter.unusedVariables false

end Go.Proofs.YtldepimkbnodpaaDoor
