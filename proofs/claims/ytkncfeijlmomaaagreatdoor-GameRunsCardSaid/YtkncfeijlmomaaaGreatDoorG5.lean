/-
  Merged: Bj, Bk, Bl, Bm, Bn.
-/
import Derived.Test.YtkncfeijlmomaaaGreatDoorG3

namespace Go.Proofs.YtkncfeijlmomaaaGreatDoor
open Go.RowKit Go.Sort
set_option linter.unusedSimpArgs false
set_option linter.unusedVariables false

end Go.Proofs.YtkncfeijlmomaaaGreatDoor

namespace Go.Proofs.YtkncfeijlmomaaaGreatDoor
open Go.RowKit Go.Sort
set_option linter.unusedSimpArgs false
set_option linter.unusedVariables false

theorem three_at (w : World) (o1 o2 o3 : Obj) : (((w.alloc o1).alloc o2).alloc o3).heap[w.heap.size]? = some o1 ∧ (((w.alloc o1).alloc o2).alloc o3).heap[w.heap.size + 1]? = some o2 ∧ (((w.alloc o1).alloc o2).alloc o3).heap[w.heap.size + 2]? = some o3 ∧
    Below w.heap.size w (((w.alloc o1).alloc o2).alloc o3) ∧ (((w.alloc o1).alloc o2).alloc o3).heap.size = w.heap.size + 3 :=
  ⟨sl_go (two_at w o1 o2).1 (below_new _), sl_go (two_at w o1 o2).2.1 (below_new _), sl_at (by simp), (two_at w o1 o2).2.2.1.alloc (by simp; omega) _, by simp⟩

/-- what stands while a piece is put: the position, the piece, the answer's place -/
structure PT (w W : World) (P : Nat → Int) (k d : Int) : Prop where
  p : PB W w.heap.size P
  x : W.heap[w.heap.size + 1]? = some (.cells #[.int .i64 k, .int .i64 d] 25 (0, 0))
  z : PB W (w.heap.size + 2) (fun _ => 0)
  b : Below w.heap.size w W
  s : w.heap.size + 3 ≤ W.heap.size
theorem PT.go {w W W' : World} {P : Nat → Int} {k d : Int} (h : PT w W P k d) (g : Below W.heap.size W W') : PT w W' P k d :=
  ⟨h.p.go g, sl_go h.x g, h.z.go g, h.b.trans (g.mono h.b.size), Nat.le_trans h.s g.size⟩
theorem PT.set {w W : World} {P : Nat → Int} {k d : Int} (h : PT w W P k d) (i : Nat) (v : Int) (hi : i < 133) : PT w (W.setCell ⟨w.heap.size, i, none⟩ (.int .i64 v)) (setN P i v) k d :=
  ⟨h.p.set i v hi, (Go.heap_setCell_other _ _ _ _ (by simp)).trans h.x, h.z.other (by omega) _ _, h.b.setCell (p := ⟨w.heap.size, i, none⟩) (Nat.le_refl _) _, by rw [World.size_setCell]; exact h.s⟩
theorem PT.begin (w : World) (P : Nat → Int) (k d : Int) (X : Array Value) (hX : X = (pc P).toArray) :
    PT w (((w.alloc (.cells X 29)).alloc (.cells #[.int .i64 k, .int .i64 d] 25)).alloc (.cells Tryz.zeroCells29 29)) P k d := by
  obtain ⟨a1, a2, a3, a4, a5⟩ := three_at w (.cells X 29) (.cells #[.int .i64 k, .int .i64 d] 25) (.cells Tryz.zeroCells29 29)
  rw [zeroPos] at *
  exact ⟨PB.of_block (by rw [hX] at a1 ⊢; exact a1), a2, PB.of_block a3, a4, by rw [a5]; exact Nat.le_refl _⟩

theorem results_mid2 {P : Program} {fn : Func} {p u : Tmp} {ty : TypeId} (h : fn.results = #[.cell p ty, .tmp u]) (tmps : Array Value) (w : World) (g : Nat) (cs : List Value) (d : TypeDesc) (v : Value)
    (hp : tmps.getD p undef = .pointer (some ⟨g, 0, none⟩)) (hv : tmps.getD u undef = v) (hc : w.rangeAt g 0 cs) (hu : P.underlying ty = some d) (hd : d.isRow = true) (hi : (P.info? ty).map (·.size) = some cs.length) :
    (results fn tmps).run P w = .ok (.tuple #[.agg cs.toArray, v]) w := by
  rw [results_cell_tmp h, hp, hv]
  simp [asAddr, run_loadVar_mid w g 0 ty cs d hc hu hd hi]
theorem PT.stored {w W : World} {P Q : Nat → Int} {k d : Int} (h : PT w W P k d) : (W.setCells (w.heap.size + 2) 0 (pc Q)).rangeAt (w.heap.size + 2) 0 (pc Q) ∧ Below w.heap.size w (W.setCells (w.heap.size + 2) 0 (pc Q)) :=
  ⟨(h.z.store (Q := Q)).range, below_store (b := w.heap.size + 2) Q h.b (by omega) h.b.size⟩

end Go.Proofs.YtkncfeijlmomaaaGreatDoor

namespace Go.Proofs.YtkncfeijlmomaaaGreatDoor
open Go.RowKit Go.Sort
set_option linter.unusedSimpArgs false
set_option linter.unusedVariables false

end Go.Proofs.YtkncfeijlmomaaaGreatDoor

namespace Go.Proofs.YtkncfeijlmomaaaGreatDoor
open Go.RowKit Go.Sort
set_option linter.unusedSimpArgs false
set_option linter.unusedVariables false

/-- a thing on a square that may not be there -/
def badP (P : Nat → Int) (s : Nat) : Bool := !(pe (P (2 * s)) (P (2 * s + 1)) 0 0) && (!(mayB (P (2 * s)) (P (2 * s + 1))) || (P (2 * s) == 1 && (decide (s < 8) || decide (56 ≤ s))))
def okS (P : Nat → Int) : Nat → Bool
  | 0 => true
  | n + 1 => okS P n && !(badP P n)
/-- how many kings of a side stand on the squares below n -/
def cnt (P : Nat → Int) (d : Int) : Nat → Nat
  | 0 => 0
  | n + 1 => cnt P d n + if pe (P (2 * n)) (P (2 * n + 1)) 6 d then 1 else 0
theorem cnt_le (P : Nat → Int) (d : Int) (n : Nat) : cnt P d n ≤ n := by
  induction n with
  | zero => exact Nat.le_refl _
  | succ n ih => simp only [cnt]; split <;> omega
theorem okS_iff (P : Nat → Int) (n : Nat) : okS P n = true ↔ ∀ s, s < n → badP P s = false := by
  induction n with
  | zero => simp [okS]
  | succ n ih =>
    simp only [okS, Bool.and_eq_true, ih, Bool.not_eq_true']
    constructor
    · rintro ⟨h1, h2⟩ i hi
      rcases Nat.lt_succ_iff_lt_or_eq.1 hi with h | rfl
      · exact h1 i h
      · exact h2
    · intro h; exact ⟨fun i hi => h i (by omega), h n (by omega)⟩
theorem okS_false (P : Nat → Int) {n m : Nat} (h : m < n) (hs : badP P m = true) : okS P n = false := by
  cases e : okS P n
  · rfl
  · rw [(okS_iff P n).1 e m h] at hs; cases hs
def piecesB (P : Nat → Int) : Bool := okS P 64 && (cnt P 0 64 == 1) && (cnt P 1 64 == 1) && sideB (P 128)
def homeB (P : Nat → Int) (d : Int) (k r : Nat) : Bool := pe (P (2 * k)) (P (2 * k + 1)) 6 d && pe (P (2 * r)) (P (2 * r + 1)) 4 d
/-- what stands in a walk over the squares: the position, the count of kings -/
structure PK (w W : World) (P : Nat → Int) (j : Nat) : Prop where
  p : PB W w.heap.size P
  x : W.heap[w.heap.size + 1]? = some (.cells #[.int .i64 (cnt P 0 j : Nat), .int .i64 (cnt P 1 j : Nat)] 160 (0, 0))
  b : Below w.heap.size w W
  s : w.heap.size + 2 ≤ W.heap.size
theorem PK.go {w W W' : World} {P : Nat → Int} {j : Nat} (h : PK w W P j) (g : Below W.heap.size W W') : PK w W' P j :=
  ⟨h.p.go g, sl_go h.x g, h.b.trans (g.mono h.b.size), Nat.le_trans h.s g.size⟩
theorem PK.alloc {w W : World} {P : Nat → Int} {j : Nat} (h : PK w W P j) (o : Obj) : PK w (W.alloc o) P j := h.go (below_new _)
theorem PK.same {w W : World} {P : Nat → Int} {j : Nat} (h : PK w W P j) (h0 : cnt P 0 (j + 1) = cnt P 0 j) (h1 : cnt P 1 (j + 1) = cnt P 1 j) : PK w W P (j + 1) :=
  ⟨h.p, by rw [h0, h1]; exact h.x, h.b, h.s⟩
theorem PK.up0 {w W : World} {P : Nat → Int} {j : Nat} (h : PK w W P j) (h0 : cnt P 0 (j + 1) = cnt P 0 j + 1) (h1 : cnt P 1 (j + 1) = cnt P 1 j) : PK w (W.setCell ⟨w.heap.size + 1, 0, none⟩ (.int .i64 ((cnt P 0 j : Nat) + 1))) P (j + 1) :=
  ⟨h.p.other (by omega) _ _, by have := Go.heap_setCell_same W (w.heap.size + 1) 0 _ _ (.int .i64 ((cnt P 0 j : Nat) + 1)) h.x; rw [h0, h1]; exact this, h.b.setCell (p := ⟨w.heap.size + 1, 0, none⟩) (by simp) _, by rw [World.size_setCell]; exact h.s⟩
theorem PK.up1 {w W : World} {P : Nat → Int} {j : Nat} (h : PK w W P j) (h0 : cnt P 0 (j + 1) = cnt P 0 j) (h1 : cnt P 1 (j + 1) = cnt P 1 j + 1) : PK w (W.setCell ⟨w.heap.size + 1, 1, none⟩ (.int .i64 ((cnt P 1 j : Nat) + 1))) P (j + 1) :=
  ⟨h.p.other (by omega) _ _, by have := Go.heap_setCell_same W (w.heap.size + 1) 1 _ _ (.int .i64 ((cnt P 1 j : Nat) + 1)) h.x; rw [h0, h1]; exact this, h.b.setCell (p := ⟨w.heap.size + 1, 1, none⟩) (by simp) _, by rw [World.size_setCell]; exact h.s⟩
/-- what a square adds -/
theorem sq_parts (k d : Int) (j : Nat) : (k = 0 ∧ d = 0) ∨ (pe k d 0 0 = false ∧ mayB k d = false) ∨ (pe k d 0 0 = false ∧ mayB k d = true ∧
    ((k = 1 ∧ (j < 8 ∨ (8 ≤ j ∧ 56 ≤ j) ∨ (8 ≤ j ∧ j < 56))) ∨ (k = 6 ∧ (d = 0 ∨ d = 1)) ∨ ((k == 1) = false ∧ (k == 6) = false))) := by
  by_cases h0 : k = 0 ∧ d = 0
  · exact .inl h0
  · have hp : pe k d 0 0 = false := by cases h : pe k d 0 0 with
      | false => rfl
      | true => exact absurd ((pe_iff _ _ _ _).1 h) h0
    cases hm : mayB k d with
    | false => exact .inr (.inl ⟨hp, rfl⟩)
    | true =>
      refine .inr (.inr ⟨hp, rfl, ?_⟩)
      by_cases h1 : k = 1
      · exact .inl ⟨h1, by omega⟩
      · by_cases h6 : k = 6
        · refine .inr (.inl ⟨h6, ?_⟩)
          unfold mayB sideB at hm
          simp only [Bool.and_eq_true, Bool.or_eq_true, beq_iff_eq] at hm
          exact hm.2
        · exact .inr (.inr ⟨by simp [h1], by simp [h6]⟩)
end Go.Proofs.YtkncfeijlmomaaaGreatDoor

namespace Go.Proofs.YtkncfeijlmomaaaGreatDoor
open Go.RowKit Go.Sort
set_option linter.unusedSimpArgs false
set_option linter.unusedVariables false

/-- a whole position is loaded, in a region that does not draw -/
theorem wpList_pos {ops : Array Oper} {rest : List Oper} {op : Oper} {a : Act} {w : World} {Q : Exit → Act → World → Prop} (hw : Region.wanted op (yielded ops a.tmps) = true) (x : Operand) (ho : op.op = .load 29 x)
    (b : Nat) (P : Nat → Int) (X : Array Value) (hX : X = (pc P).toArray) (hx : a.eval x = .pointer (some ⟨b, 0, none⟩)) (hc : PB w b P) (h : wpList Tryz.prog ops Q rest (a.put op.dst (.agg X)) w) : wpList Tryz.prog ops Q (op :: rest) a w := by
  subst hX
  exact BigFrame.wpList_want hw fun _ hK => wp_load_mid 29 x ho b 0 hx (pc P) _ hc.range Tryz.underlying29 rfl (by rw [infoPos, pc_len]) (hK _ _ h)
def castB (P : Nat → Int) : Bool := casB (P 129) && (P 129 % 2 == 0 || homeB P 0 4 7) && (P 129 / 2 % 2 == 0 || homeB P 0 4 0) && (P 129 / 4 % 2 == 0 || homeB P 1 60 63) && (P 129 / 8 == 0 || homeB P 1 60 56)
end Go.Proofs.YtkncfeijlmomaaaGreatDoor
