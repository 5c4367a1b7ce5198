/-
  Merged: Bj, Bk, Bl, Bm, Bn, Bo, Bp.
-/
import Derived.Test.YtlfapakllhhadaaDoorBi

namespace Go.Proofs.YtlfapakllhhadaaDoor
open Go.RowKit Go.Sort
set_option linter.unusedSimpArgs false
set_option linter.unusedVariables false

theorem setN_self (Q : Nat → Int) (i : Nat) (x : Int) (h : Q i = x) : setN Q i x = Q := by
  funext j; unfold setN; split
  · rename_i e; rw [e, h]
  · rfl
theorem mir_parts (j : Nat) (hj : j < 64) : (j : Int).tdiv 8 = ((j / 8 : Nat) : Int) ∧ (j : Int).tmod 8 = ((j % 8 : Nat) : Int) ∧ 8 * (7 - ((j / 8 : Nat) : Int)) + ((j % 8 : Nat) : Int) = ((mir j : Nat) : Int) ∧ j / 8 < 8 ∧ j % 8 < 8 := by
  refine ⟨?_, ?_, ?_, by omega, by omega⟩
  · rw [Int.tdiv_eq_ediv_of_nonneg (by omega)]; omega
  · rw [Int.tmod_eq_emod_of_nonneg (by omega)]; omega
  · unfold mir; omega
end Go.Proofs.YtlfapakllhhadaaDoor

namespace Go.Proofs.YtlfapakllhhadaaDoor
open Go.RowKit Go.Sort
set_option linter.unusedSimpArgs false
set_option linter.unusedVariables false

/-- a piece put on the first m of some squares -/
def putN (P : Nat → Int) (k d : Int) (g : Nat → Int) : Nat → Nat → Int
  | 0 => P
  | m + 1 => setN (setN (putN P k d g m) (2 * (g m).toNat) k) (2 * (g m).toNat + 1) d
/-- are the first m numbers squares -/
def okN (g : Nat → Int) : Nat → Bool
  | 0 => true
  | m + 1 => okN g m && sq (g m)
theorem okN_iff (g : Nat → Int) (n : Nat) : okN g n = true ↔ ∀ i, i < n → sq (g i) = true := by
  induction n with
  | zero => simp [okN]
  | succ n ih =>
    simp only [okN, Bool.and_eq_true, ih]
    constructor
    · rintro ⟨h1, h2⟩ i hi
      rcases Nat.lt_succ_iff_lt_or_eq.1 hi with h | rfl
      · exact h1 i h
      · exact h2
    · intro h; exact ⟨fun i hi => h i (by omega), h n (by omega)⟩
theorem okN_false (g : Nat → Int) {n m : Nat} (h : m < n) (hs : sq (g m) = false) : okN g n = false := by
  cases e : okN g n
  · rfl
  · rw [(okN_iff g n).1 e m h] at hs; cases hs
/-- may be put -/
def canP (k d : Int) : Bool := pe k d 0 0 || mayB k d
/-- what Put answers -/
def putQ (P : Nat → Int) (k d : Int) (g : Nat → Int) (n : Nat) : Nat → Int := if canP k d && okN g n then putN P k d g n else fun _ => 0
def putE (k d : Int) (g : Nat → Int) (n : Nat) : Int := if canP k d then (if okN g n then 0 else 6) else 2
theorem infoErrno : (Tryd.prog.info? 35).map (·.size) = some 1 := by kernel_rfl
theorem three_at (w : World) (o1 o2 o3 : Obj) : (((w.alloc o1).alloc o2).alloc o3).heap[w.heap.size]? = some o1 ∧ (((w.alloc o1).alloc o2).alloc o3).heap[w.heap.size + 1]? = some o2 ∧ (((w.alloc o1).alloc o2).alloc o3).heap[w.heap.size + 2]? = some o3 ∧
    Below w.heap.size w (((w.alloc o1).alloc o2).alloc o3) ∧ (((w.alloc o1).alloc o2).alloc o3).heap.size = w.heap.size + 3 :=
  ⟨sl_go (two_at w o1 o2).1 (below_new _), sl_go (two_at w o1 o2).2.1 (below_new _), sl_at (by simp), (two_at w o1 o2).2.2.1.alloc (by simp; omega) _, by simp⟩

/-- what stands while a piece is put: the position, the piece, the answer's place -/
structure PT (w W : World) (P : Nat → Int) (k d : Int) : Prop where
  p : PB W w.heap.size P
  x : W.heap[w.heap.size + 1]? = some (.cells #[.int .i64 k, .int .i64 d] 25 (0, 0))
  z : PB W (w.heap.size + 2) (fun _ => 0)
  b : Below w.heap.size w W
  s : w.heap.size + 3 ≤ W.heap.size
theorem PT.go {w W W' : World} {P : Nat → Int} {k d : Int} (h : PT w W P k d) (g : Below W.heap.size W W') : PT w W' P k d :=
  ⟨h.p.go g, sl_go h.x g, h.z.go g, h.b.trans (g.mono h.b.size), Nat.le_trans h.s g.size⟩
theorem PT.set {w W : World} {P : Nat → Int} {k d : Int} (h : PT w W P k d) (i : Nat) (v : Int) (hi : i < 133) : PT w (W.setCell ⟨w.heap.size, i, none⟩ (.int .i64 v)) (setN P i v) k d :=
  ⟨h.p.set i v hi, (Go.heap_setCell_other _ _ _ _ (by simp)).trans h.x, h.z.other (by omega) _ _, h.b.setCell (p := ⟨w.heap.size, i, none⟩) (Nat.le_refl _) _, by rw [World.size_setCell]; exact h.s⟩
theorem PT.begin (w : World) (P : Nat → Int) (k d : Int) (X : Array Value) (hX : X = (pc P).toArray) :
    PT w (((w.alloc (.cells X 29)).alloc (.cells #[.int .i64 k, .int .i64 d] 25)).alloc (.cells Tryd.zeroCells29 29)) P k d := by
  obtain ⟨a1, a2, a3, a4, a5⟩ := three_at w (.cells X 29) (.cells #[.int .i64 k, .int .i64 d] 25) (.cells Tryd.zeroCells29 29)
  rw [zeroPos] at *
  exact ⟨PB.of_block (by rw [hX] at a1 ⊢; exact a1), a2, PB.of_block a3, a4, by rw [a5]; exact Nat.le_refl _⟩

theorem results_mid2 {P : Program} {fn : Func} {p u : Tmp} {ty : TypeId} (h : fn.results = #[.cell p ty, .tmp u]) (tmps : Array Value) (w : World) (g : Nat) (cs : List Value) (d : TypeDesc) (v : Value)
    (hp : tmps.getD p undef = .pointer (some ⟨g, 0, none⟩)) (hv : tmps.getD u undef = v) (hc : w.rangeAt g 0 cs) (hu : P.underlying ty = some d) (hd : d.isRow = true) (hi : (P.info? ty).map (·.size) = some cs.length) :
    (results fn tmps).run P w = .ok (.tuple #[.agg cs.toArray, v]) w := by
  rw [results_cell_tmp h, hp, hv]
  simp [asAddr, run_loadVar_mid w g 0 ty cs d hc hu hd hi]
theorem PT.stored {w W : World} {P Q : Nat → Int} {k d : Int} (h : PT w W P k d) : (W.setCells (w.heap.size + 2) 0 (pc Q)).rangeAt (w.heap.size + 2) 0 (pc Q) ∧ Below w.heap.size w (W.setCells (w.heap.size + 2) 0 (pc Q)) :=
  ⟨(h.z.store (Q := Q)).range, below_store (b := w.heap.size + 2) Q h.b (by omega) h.b.size⟩

end Go.Proofs.YtlfapakllhhadaaDoor

namespace Go.Proofs.YtlfapakllhhadaaDoor
open Go.RowKit Go.Sort
set_option linter.unusedSimpArgs false
set_option linter.unusedVariables false

end Go.Proofs.YtlfapakllhhadaaDoor

namespace Go.Proofs.YtlfapakllhhadaaDoor
open Go.RowKit Go.Sort
set_option linter.unusedSimpArgs false
set_option linter.unusedVariables false

/-- a thing on a square that may not be there -/
def badP (P : Nat → Int) (s : Nat) : Bool := !(pe (P (2 * s)) (P (2 * s + 1)) 0 0) && (!(mayB (P (2 * s)) (P (2 * s + 1))) || (P (2 * s) == 1 && (decide (s < 8) || decide (56 ≤ s))))
def okS (P : Nat → Int) : Nat → Bool
  | 0 => true
  | n + 1 => okS P n && !(badP P n)
/-- how many kings of a side stand on the squares below n -/
def cnt (P : Nat → Int) (d : Int) : Nat → Nat
  | 0 => 0
  | n + 1 => cnt P d n + if pe (P (2 * n)) (P (2 * n + 1)) 6 d then 1 else 0
theorem cnt_le (P : Nat → Int) (d : Int) (n : Nat) : cnt P d n ≤ n := by
  induction n with
  | zero => exact Nat.le_refl _
  | succ n ih => simp only [cnt]; split <;> omega
theorem okS_iff (P : Nat → Int) (n : Nat) : okS P n = true ↔ ∀ s, s < n → badP P s = false := by
  induction n with
  | zero => simp [okS]
  | succ n ih =>
    simp only [okS, Bool.and_eq_true, ih, Bool.not_eq_true']
    constructor
    · rintro ⟨h1, h2⟩ i hi
      rcases Nat.lt_succ_iff_lt_or_eq.1 hi with h | rfl
      · exact h1 i h
      · exact h2
    · intro h; exact ⟨fun i hi => h i (by omega), h n (by omega)⟩
theorem okS_false (P : Nat → Int) {n m : Nat} (h : m < n) (hs : badP P m = true) : okS P n = false := by
  cases e : okS P n
  · rfl
  · rw [(okS_iff P n).1 e m h] at hs; cases hs
def piecesB (P : Nat → Int) : Bool := okS P 64 && (cnt P 0 64 == 1) && (cnt P 1 64 == 1) && sideB (P 128)
def homeB (P : Nat → Int) (d : Int) (k r : Nat) : Bool := pe (P (2 * k)) (P (2 * k + 1)) 6 d && pe (P (2 * r)) (P (2 * r + 1)) 4 d
theorem infoTwo : (Tryd.prog.info? 113).map (·.size) = some 2 := by kernel_rfl
/-- what stands in a walk over the squares: the position, the count of kings -/
structure PK (w W : World) (P : Nat → Int) (j : Nat) : Prop where
  p : PB W w.heap.size P
  x : W.heap[w.heap.size + 1]? = some (.cells #[.int .i64 (cnt P 0 j : Nat), .int .i64 (cnt P 1 j : Nat)] 113 (0, 0))
  b : Below w.heap.size w W
  s : w.heap.size + 2 ≤ W.heap.size
theorem PK.go {w W W' : World} {P : Nat → Int} {j : Nat} (h : PK w W P j) (g : Below W.heap.size W W') : PK w W' P j :=
  ⟨h.p.go g, sl_go h.x g, h.b.trans (g.mono h.b.size), Nat.le_trans h.s g.size⟩
theorem PK.alloc {w W : World} {P : Nat → Int} {j : Nat} (h : PK w W P j) (o : Obj) : PK w (W.alloc o) P j := h.go (below_new _)
theorem PK.same {w W : World} {P : Nat → Int} {j : Nat} (h : PK w W P j) (h0 : cnt P 0 (j + 1) = cnt P 0 j) (h1 : cnt P 1 (j + 1) = cnt P 1 j) : PK w W P (j + 1) :=
  ⟨h.p, by rw [h0, h1]; exact h.x, h.b, h.s⟩
theorem PK.up0 {w W : World} {P : Nat → Int} {j : Nat} (h : PK w W P j) (h0 : cnt P 0 (j + 1) = cnt P 0 j + 1) (h1 : cnt P 1 (j + 1) = cnt P 1 j) : PK w (W.setCell ⟨w.heap.size + 1, 0, none⟩ (.int .i64 ((cnt P 0 j : Nat) + 1))) P (j + 1) :=
  ⟨h.p.other (by omega) _ _, by have := Go.heap_setCell_same W (w.heap.size + 1) 0 _ _ (.int .i64 ((cnt P 0 j : Nat) + 1)) h.x; rw [h0, h1]; exact this, h.b.setCell (p := ⟨w.heap.size + 1, 0, none⟩) (by simp) _, by rw [World.size_setCell]; exact h.s⟩
theorem PK.up1 {w W : World} {P : Nat → Int} {j : Nat} (h : PK w W P j) (h0 : cnt P 0 (j + 1) = cnt P 0 j) (h1 : cnt P 1 (j + 1) = cnt P 1 j + 1) : PK w (W.setCell ⟨w.heap.size + 1, 1, none⟩ (.int .i64 ((cnt P 1 j : Nat) + 1))) P (j + 1) :=
  ⟨h.p.other (by omega) _ _, by have := Go.heap_setCell_same W (w.heap.size + 1) 1 _ _ (.int .i64 ((cnt P 1 j : Nat) + 1)) h.x; rw [h0, h1]; exact this, h.b.setCell (p := ⟨w.heap.size + 1, 1, none⟩) (by simp) _, by rw [World.size_setCell]; exact h.s⟩
/-- what a square adds -/
theorem sq_parts (k d : Int) (j : Nat) : (k = 0 ∧ d = 0) ∨ (pe k d 0 0 = false ∧ mayB k d = false) ∨ (pe k d 0 0 = false ∧ mayB k d = true ∧
    ((k = 1 ∧ (j < 8 ∨ (8 ≤ j ∧ 56 ≤ j) ∨ (8 ≤ j ∧ j < 56))) ∨ (k = 6 ∧ (d = 0 ∨ d = 1)) ∨ ((k == 1) = false ∧ (k == 6) = false))) := by
  by_cases h0 : k = 0 ∧ d = 0
  · exact .inl h0
  · have hp : pe k d 0 0 = false := by cases h : pe k d 0 0 with
      | false => rfl
      | true => exact absurd ((pe_iff _ _ _ _).1 h) h0
    cases hm : mayB k d with
    | false => exact .inr (.inl ⟨hp, rfl⟩)
    | true =>
      refine .inr (.inr ⟨hp, rfl, ?_⟩)
      by_cases h1 : k = 1
      · exact .inl ⟨h1, by omega⟩
      · by_cases h6 : k = 6
        · refine .inr (.inl ⟨h6, ?_⟩)
          unfold mayB sideB at hm
          simp only [Bool.and_eq_true, Bool.or_eq_true, beq_iff_eq] at hm
          exact hm.2
        · exact .inr (.inr ⟨by simp [h1], by simp [h6]⟩)
end Go.Proofs.YtlfapakllhhadaaDoor

namespace Go.Proofs.YtlfapakllhhadaaDoor
open Go.RowKit Go.Sort
set_option linter.unusedSimpArgs false
set_option linter.unusedVariables false

/-- a whole position is loaded, in a region that does not draw -/
theorem wpList_pos {ops : Array Oper} {rest : List Oper} {op : Oper} {a : Act} {w : World} {Q : Exit → Act → World → Prop} (hw : Region.wanted op (yielded ops a.tmps) = true) (x : Operand) (ho : op.op = .load 29 x)
    (b : Nat) (P : Nat → Int) (X : Array Value) (hX : X = (pc P).toArray) (hx : a.eval x = .pointer (some ⟨b, 0, none⟩)) (hc : PB w b P) (h : wpList Tryd.prog ops Q rest (a.put op.dst (.agg X)) w) : wpList Tryd.prog ops Q (op :: rest) a w := by
  subst hX
  exact BigFrame.wpList_want hw fun _ hK => wp_load_mid 29 x ho b 0 hx (pc P) _ hc.range Tryd.underlying29 rfl (by rw [infoPos, pc_len]) (hK _ _ h)
def castB (P : Nat → Int) : Bool := casB (P 129) && (P 129 % 2 == 0 || homeB P 0 4 7) && (P 129 / 2 % 2 == 0 || homeB P 0 4 0) && (P 129 / 4 % 2 == 0 || homeB P 1 60 63) && (P 129 / 8 == 0 || homeB P 1 60 56)
theorem tdm (c : Int) (h : 0 ≤ c) : c.tmod 2 = c % 2 ∧ (c.tdiv 2).tmod 2 = c / 2 % 2 ∧ (c.tdiv 4).tmod 2 = c / 4 % 2 ∧ c.tdiv 8 = c / 8 := by
  have h2 : c.tdiv 2 = c / 2 := Int.tdiv_eq_ediv_of_nonneg h
  have h4 : c.tdiv 4 = c / 4 := Int.tdiv_eq_ediv_of_nonneg h
  have h8 : c.tdiv 8 = c / 8 := Int.tdiv_eq_ediv_of_nonneg h
  refine ⟨Int.tmod_eq_emod_of_nonneg h, ?_, ?_, h8⟩
  · rw [h2]; exact Int.tmod_eq_emod_of_nonneg (by omega)
  · rw [h4]; exact Int.tmod_eq_emod_of_nonneg (by omega)
end Go.Proofs.YtlfapakllhhadaaDoor

namespace Go.Proofs.YtlfapakllhhadaaDoor
open Go.RowKit Go.Sort
set_option linter.unusedSimpArgs false
set_option linter.unusedVariables false

/-- a pawn of a side went from square a over square o to square b -/
def overC (P : Nat → Int) (o rank a b : Nat) (pd : Int) : Bool := (o / 8 == rank) && pe (P (2 * o)) (P (2 * o + 1)) 0 0 && pe (P (2 * a)) (P (2 * a + 1)) 0 0 && pe (P (2 * b)) (P (2 * b + 1)) 1 pd
theorem wrap_sq (n : Nat) (h : n < 64) : IntKind.i64.wrap (n : Int) = (n : Int) := IntWalk.i64_in _ (by omega)
def overB (P : Nat → Int) : Bool := P 130 == -1 || (sq (P 130) && P 131 == 0 && if P 128 == 1 then overC P (P 130).toNat 2 ((P 130).toNat - 8) ((P 130).toNat + 8) 0 else overC P (P 130).toNat 5 ((P 130).toNat + 8) ((P 130).toNat - 8) 1)
def rightB (P : Nat → Int) : Bool := piecesB P && castB P && overB P && decide (0 ≤ P 131) && decide (P 131 ≤ 1024) && decide (1 ≤ P 132) && decide (P 132 ≤ 16384)
end Go.Proofs.YtlfapakllhhadaaDoor

namespace Go.Proofs.YtlfapakllhhadaaDoor
open Go.RowKit Go.Sort
set_option linter.unusedSimpArgs false
set_option linter.unusedVariables false

def cntB (h f : Int) : Bool := decide (0 ≤ h) && decide (h ≤ 1024) && decide (1 ≤ f) && decide (f ≤ 16384)
theorem rightB_eq (P : Nat → Int) : rightB P = (piecesB P && castB P && overB P && cntB (P 131) (P 132)) := by
  unfold rightB cntB; simp only [Bool.and_assoc]
theorem cnt_cases (h f : Int) : (h < 0 ∧ cntB h f = false) ∨ (0 ≤ h ∧ 1024 < h ∧ cntB h f = false) ∨ (0 ≤ h ∧ h ≤ 1024 ∧ f < 1 ∧ cntB h f = false) ∨ (0 ≤ h ∧ h ≤ 1024 ∧ 1 ≤ f ∧ 16384 < f ∧ cntB h f = false) ∨ (0 ≤ h ∧ h ≤ 1024 ∧ 1 ≤ f ∧ f ≤ 16384 ∧ cntB h f = true) := by
  unfold cntB
  by_cases h1 : 0 ≤ h <;> by_cases h2 : h ≤ 1024 <;> by_cases h3 : 1 ≤ f <;> by_cases h4 : f ≤ 16384 <;> simp [h1, h2, h3, h4] <;> omega
end Go.Proofs.YtlfapakllhhadaaDoor
