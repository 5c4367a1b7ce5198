/-
  Merged: Bj, Bk, Bl, Bm, Bn, Db.
-/
import Derived.Test.YtjhlombbkodpaaaDoorBi
import Derived.Test.YtjhlombbkodpaaaDoorDa
import Derived.Test.YtjhlombbkodpaaaDoorG5

namespace Go.Proofs.YtjhlombbkodpaaaDoor
open Go.RowKit Go.Sort
set_option linter.unusedSimpArgs false
set_option linter.unusedVariables false

theorem setN_self (Q : Nat → Int) (i : Nat) (x : Int) (h : Q i = x) : setN Q i x = Q := by
  funext j; unfold setN; split
  · rename_i e; rw [e, h]
  · rfl
theorem mir_parts (j : Nat) (hj : j < 64) : (j : Int).tdiv 8 = ((j / 8 : Nat) : Int) ∧ (j : Int).tmod 8 = ((j % 8 : Nat) : Int) ∧ 8 * (7 - ((j / 8 : Nat) : Int)) + ((j % 8 : Nat) : Int) = ((mir j : Nat) : Int) ∧ j / 8 < 8 ∧ j % 8 < 8 := by
  refine ⟨?_, ?_, ?_, by omega, by omega⟩
  · rw [Int.tdiv_eq_ediv_of_nonneg (by omega)]; omega
  · rw [Int.tmod_eq_emod_of_nonneg (by omega)]; omega
  · unfold mir; omega
end Go.Proofs.YtjhlombbkodpaaaDoor

namespace Go.Proofs.YtjhlombbkodpaaaDoor
open Go.RowKit Go.Sort
set_option linter.unusedSimpArgs false
set_option linter.unusedVariables false

/-- a piece put on the first m of some squares -/
def putN (P : Nat → Int) (k d : Int) (g : Nat → Int) : Nat → Nat → Int
  | 0 => P
  | m + 1 => setN (setN (putN P k d g m) (2 * (g m).toNat) k) (2 * (g m).toNat + 1) d
/-- are the first m numbers squares -/
def okN (g : Nat → Int) : Nat → Bool
  | 0 => true
  | m + 1 => okN g m && sq (g m)
theorem okN_iff (g : Nat → Int) (n : Nat) : okN g n = true ↔ ∀ i, i < n → sq (g i) = true := by
  induction n with
  | zero => simp [okN]
  | succ n ih =>
    simp only [okN, Bool.and_eq_true, ih]
    constructor
    · rintro ⟨h1, h2⟩ i hi
      rcases Nat.lt_succ_iff_lt_or_eq.1 hi with h | rfl
      · exact h1 i h
      · exact h2
    · intro h; exact ⟨fun i hi => h i (by omega), h n (by omega)⟩
theorem okN_false (g : Nat → Int) {n m : Nat} (h : m < n) (hs : sq (g m) = false) : okN g n = false := by
  cases e : okN g n
  · rfl
  · rw [(okN_iff g n).1 e m h] at hs; cases hs
/-- may be put -/
def canP (k d : Int) : Bool := pe k d 0 0 || mayB k d
/-- what Put answers -/
def putQ (P : Nat → Int) (k d : Int) (g : Nat → Int) (n : Nat) : Nat → Int := if canP k d && okN g n then putN P k d g n else fun _ => 0
def putE (k d : Int) (g : Nat → Int) (n : Nat) : Int := if canP k d then (if okN g n then 0 else 6) else 2
theorem infoErrno : (Tryd.prog.info? 41).map (·.size) = some 1 := by kernel_rfl
theorem three_at (w : World) (o1 o2 o3 : Obj) : (((w.alloc o1).alloc o2).alloc o3).heap[w.heap.size]? = some o1 ∧ (((w.alloc o1).alloc o2).alloc o3).heap[w.heap.size + 1]? = some o2 ∧ (((w.alloc o1).alloc o2).alloc o3).heap[w.heap.size + 2]? = some o3 ∧
    Below w.heap.size w (((w.alloc o1).alloc o2).alloc o3) ∧ (((w.alloc o1).alloc o2).alloc o3).heap.size = w.heap.size + 3 :=
  ⟨sl_go (two_at w o1 o2).1 (below_new _), sl_go (two_at w o1 o2).2.1 (below_new _), sl_at (by simp), (two_at w o1 o2).2.2.1.alloc (by simp; omega) _, by simp⟩

/-- what stands while a piece is put: the position, the piece, the answer's place -/
structure PT (w W : World) (P : Nat → Int) (k d : Int) : Prop where
  p : PB W w.heap.size P
  x : W.heap[w.heap.size + 1]? = some (.cells #[.int .i64 k, .int .i64 d] 25 (0, 0))
  z : PB W (w.heap.size + 2) (fun _ => 0)
  b : Below w.heap.size w W
  s : w.heap.size + 3 ≤ W.heap.size
theorem PT.go {w W W' : World} {P : Nat → Int} {k d : Int} (h : PT w W P k d) (g : Below W.heap.size W W') : PT w W' P k d :=
  ⟨h.p.go g, sl_go h.x g, h.z.go g, h.b.trans (g.mono h.b.size), Nat.le_trans h.s g.size⟩
theorem PT.set {w W : World} {P : Nat → Int} {k d : Int} (h : PT w W P k d) (i : Nat) (v : Int) (hi : i < 133) : PT w (W.setCell ⟨w.heap.size, i, none⟩ (.int .i64 v)) (setN P i v) k d :=
  ⟨h.p.set i v hi, (Go.heap_setCell_other _ _ _ _ (by simp)).trans h.x, h.z.other (by omega) _ _, h.b.setCell (p := ⟨w.heap.size, i, none⟩) (Nat.le_refl _) _, by rw [World.size_setCell]; exact h.s⟩
theorem PT.begin (w : World) (P : Nat → Int) (k d : Int) (X : Array Value) (hX : X = (pc P).toArray) :
    PT w (((w.alloc (.cells X 29)).alloc (.cells #[.int .i64 k, .int .i64 d] 25)).alloc (.cells Tryd.zeroCells29 29)) P k d := by
  obtain ⟨a1, a2, a3, a4, a5⟩ := three_at w (.cells X 29) (.cells #[.int .i64 k, .int .i64 d] 25) (.cells Tryd.zeroCells29 29)
  rw [zeroPos] at *
  exact ⟨PB.of_block (by rw [hX] at a1 ⊢; exact a1), a2, PB.of_block a3, a4, by rw [a5]; exact Nat.le_refl _⟩

theorem results_mid2 {P : Program} {fn : Func} {p u : Tmp} {ty : TypeId} (h : fn.results = #[.cell p ty, .tmp u]) (tmps : Array Value) (w : World) (g : Nat) (cs : List Value) (d : TypeDesc) (v : Value)
    (hp : tmps.getD p undef = .pointer (some ⟨g, 0, none⟩)) (hv : tmps.getD u undef = v) (hc : w.rangeAt g 0 cs) (hu : P.underlying ty = some d) (hd : d.isRow = true) (hi : (P.info? ty).map (·.size) = some cs.length) :
    (results fn tmps).run P w = .ok (.tuple #[.agg cs.toArray, v]) w := by
  rw [results_cell_tmp h, hp, hv]
  simp [asAddr, run_loadVar_mid w g 0 ty cs d hc hu hd hi]
theorem PT.stored {w W : World} {P Q : Nat → Int} {k d : Int} (h : PT w W P k d) : (W.setCells (w.heap.size + 2) 0 (pc Q)).rangeAt (w.heap.size + 2) 0 (pc Q) ∧ Below w.heap.size w (W.setCells (w.heap.size + 2) 0 (pc Q)) :=
  ⟨(h.z.store (Q := Q)).range, below_store (b := w.heap.size + 2) Q h.b (by omega) h.b.size⟩

end Go.Proofs.YtjhlombbkodpaaaDoor

namespace Go.Proofs.YtjhlombbkodpaaaDoor
open Go.RowKit Go.Sort
set_option linter.unusedSimpArgs false
set_option linter.unusedVariables false

end Go.Proofs.YtjhlombbkodpaaaDoor

namespace Go.Proofs.YtjhlombbkodpaaaDoor
open Go.RowKit Go.Sort
set_option linter.unusedSimpArgs false
set_option linter.unusedVariables false

/-- a thing on a square that may not be there -/
def badP (P : Nat → Int) (s : Nat) : Bool := !(pe (P (2 * s)) (P (2 * s + 1)) 0 0) && (!(mayB (P (2 * s)) (P (2 * s + 1))) || (P (2 * s) == 1 && (decide (s < 8) || decide (56 ≤ s))))
def okS (P : Nat → Int) : Nat → Bool
  | 0 => true
  | n + 1 => okS P n && !(badP P n)
/-- how many kings of a side stand on the squares below n -/
def cnt (P : Nat → Int) (d : Int) : Nat → Nat
  | 0 => 0
  | n + 1 => cnt P d n + if pe (P (2 * n)) (P (2 * n + 1)) 6 d then 1 else 0
theorem cnt_le (P : Nat → Int) (d : Int) (n : Nat) : cnt P d n ≤ n := by
  induction n with
  | zero => exact Nat.le_refl _
  | succ n ih => simp only [cnt]; split <;> omega
theorem okS_iff (P : Nat → Int) (n : Nat) : okS P n = true ↔ ∀ s, s < n → badP P s = false := by
  induction n with
  | zero => simp [okS]
  | succ n ih =>
    simp only [okS, Bool.and_eq_true, ih, Bool.not_eq_true']
    constructor
    · rintro ⟨h1, h2⟩ i hi
      rcases Nat.lt_succ_iff_lt_or_eq.1 hi with h | rfl
      · exact h1 i h
      · exact h2
    · intro h; exact ⟨fun i hi => h i (by omega), h n (by omega)⟩
theorem okS_false (P : Nat → Int) {n m : Nat} (h : m < n) (hs : badP P m = true) : okS P n = false := by
  cases e : okS P n
  · rfl
  · rw [(okS_iff P n).1 e m h] at hs; cases hs
def piecesB (P : Nat → Int) : Bool := okS P 64 && (cnt P 0 64 == 1) && (cnt P 1 64 == 1) && sideB (P 128)
def homeB (P : Nat → Int) (d : Int) (k r : Nat) : Bool := pe (P (2 * k)) (P (2 * k + 1)) 6 d && pe (P (2 * r)) (P (2 * r + 1)) 4 d
theorem infoTwo : (Tryd.prog.info? 115).map (·.size) = some 2 := by kernel_rfl
/-- what stands in a walk over the squares: the position, the count of kings -/
structure PK (w W : World) (P : Nat → Int) (j : Nat) : Prop where
  p : PB W w.heap.size P
  x : W.heap[w.heap.size + 1]? = some (.cells #[.int .i64 (cnt P 0 j : Nat), .int .i64 (cnt P 1 j : Nat)] 115 (0, 0))
  b : Below w.heap.size w W
  s : w.heap.size + 2 ≤ W.heap.size
theorem PK.go {w W W' : World} {P : Nat → Int} {j : Nat} (h : PK w W P j) (g : Below W.heap.size W W') : PK w W' P j :=
  ⟨h.p.go g, sl_go h.x g, h.b.trans (g.mono h.b.size), Nat.le_trans h.s g.size⟩
theorem PK.alloc {w W : World} {P : Nat → Int} {j : Nat} (h : PK w W P j) (o : Obj) : PK w (W.alloc o) P j := h.go (below_new _)
theorem PK.same {w W : World} {P : Nat → Int} {j : Nat} (h : PK w W P j) (h0 : cnt P 0 (j + 1) = cnt P 0 j) (h1 : cnt P 1 (j + 1) = cnt P 1 j) : PK w W P (j + 1) :=
  ⟨h.p, by rw [h0, h1]; exact h.x, h.b, h.s⟩
theorem PK.up0 {w W : World} {P : Nat → Int} {j : Nat} (h : PK w W P j) (h0 : cnt P 0 (j + 1) = cnt P 0 j + 1) (h1 : cnt P 1 (j + 1) = cnt P 1 j) : PK w (W.setCell ⟨w.heap.size + 1, 0, none⟩ (.int .i64 ((cnt P 0 j : Nat) + 1))) P (j + 1) :=
  ⟨h.p.other (by omega) _ _, by have := Go.heap_setCell_same W (w.heap.size + 1) 0 _ _ (.int .i64 ((cnt P 0 j : Nat) + 1)) h.x; rw [h0, h1]; exact this, h.b.setCell (p := ⟨w.heap.size + 1, 0, none⟩) (by simp) _, by rw [World.size_setCell]; exact h.s⟩
theorem PK.up1 {w W : World} {P : Nat → Int} {j : Nat} (h : PK w W P j) (h0 : cnt P 0 (j + 1) = cnt P 0 j) (h1 : cnt P 1 (j + 1) = cnt P 1 j + 1) : PK w (W.setCell ⟨w.heap.size + 1, 1, none⟩ (.int .i64 ((cnt P 1 j : Nat) + 1))) P (j + 1) :=
  ⟨h.p.other (by omega) _ _, by have := Go.heap_setCell_same W (w.heap.size + 1) 1 _ _ (.int .i64 ((cnt P 1 j : Nat) + 1)) h.x; rw [h0, h1]; exact this, h.b.setCell (p := ⟨w.heap.size + 1, 1, none⟩) (by simp) _, by rw [World.size_setCell]; exact h.s⟩
/-- what a square adds -/
theorem sq_parts (k d : Int) (j : Nat) : (k = 0 ∧ d = 0) ∨ (pe k d 0 0 = false ∧ mayB k d = false) ∨ (pe k d 0 0 = false ∧ mayB k d = true ∧
    ((k = 1 ∧ (j < 8 ∨ (8 ≤ j ∧ 56 ≤ j) ∨ (8 ≤ j ∧ j < 56))) ∨ (k = 6 ∧ (d = 0 ∨ d = 1)) ∨ ((k == 1) = false ∧ (k == 6) = false))) := by
  by_cases h0 : k = 0 ∧ d = 0
  · exact .inl h0
  · have hp : pe k d 0 0 = false := by cases h : pe k d 0 0 with
      | false => rfl
      | true => exact absurd ((pe_iff _ _ _ _).1 h) h0
    cases hm : mayB k d with
    | false => exact .inr (.inl ⟨hp, rfl⟩)
    | true =>
      refine .inr (.inr ⟨hp, rfl, ?_⟩)
      by_cases h1 : k = 1
      · exact .inl ⟨h1, by omega⟩
      · by_cases h6 : k = 6
        · refine .inr (.inl ⟨h6, ?_⟩)
          unfold mayB sideB at hm
          simp only [Bool.and_eq_true, Bool.or_eq_true, beq_iff_eq] at hm
          exact hm.2
        · exact .inr (.inr ⟨by simp [h1], by simp [h6]⟩)
end Go.Proofs.YtjhlombbkodpaaaDoor

namespace Go.Proofs.YtjhlombbkodpaaaDoor
open Go.RowKit Go.Sort
set_option linter.unusedSimpArgs false
set_option linter.unusedVariables false

/-- a whole position is loaded, in a region that does not draw -/
theorem wpList_pos {ops : Array Oper} {rest : List Oper} {op : Oper} {a : Act} {w : World} {Q : Exit → Act → World → Prop} (hw : Region.wanted op (yielded ops a.tmps) = true) (x : Operand) (ho : op.op = .load 29 x)
    (b : Nat) (P : Nat → Int) (X : Array Value) (hX : X = (pc P).toArray) (hx : a.eval x = .pointer (some ⟨b, 0, none⟩)) (hc : PB w b P) (h : wpList Tryd.prog ops Q rest (a.put op.dst (.agg X)) w) : wpList Tryd.prog ops Q (op :: rest) a w := by
  subst hX
  exact BigFrame.wpList_want hw fun _ hK => wp_load_mid 29 x ho b 0 hx (pc P) _ hc.range Tryd.underlying29 rfl (by rw [infoPos, pc_len]) (hK _ _ h)
def castB (P : Nat → Int) : Bool := casB (P 129) && (P 129 % 2 == 0 || homeB P 0 4 7) && (P 129 / 2 % 2 == 0 || homeB P 0 4 0) && (P 129 / 4 % 2 == 0 || homeB P 1 60 63) && (P 129 / 8 == 0 || homeB P 1 60 56)
theorem tdm (c : Int) (h : 0 ≤ c) : c.tmod 2 = c % 2 ∧ (c.tdiv 2).tmod 2 = c / 2 % 2 ∧ (c.tdiv 4).tmod 2 = c / 4 % 2 ∧ c.tdiv 8 = c / 8 := by
  have h2 : c.tdiv 2 = c / 2 := Int.tdiv_eq_ediv_of_nonneg h
  have h4 : c.tdiv 4 = c / 4 := Int.tdiv_eq_ediv_of_nonneg h
  have h8 : c.tdiv 8 = c / 8 := Int.tdiv_eq_ediv_of_nonneg h
  refine ⟨Int.tmod_eq_emod_of_nonneg h, ?_, ?_, h8⟩
  · rw [h2]; exact Int.tmod_eq_emod_of_nonneg (by omega)
  · rw [h4]; exact Int.tmod_eq_emod_of_nonneg (by omega)
end Go.Proofs.YtjhlombbkodpaaaDoor

namespace Go.Proofs.YtjhlombbkodpaaaDoor
open Go.RowKit Go.Sort
set_option linter.unusedSimpArgs false
set_option linter.unusedVariables false
set_option maxRecDepth 20000

def gFrom (k d : Int) : Nat := if sideB d then (if k = 1 then (if d = 0 then 4 else 6) else if k = 2 then 8 else if k = 3 then 4 else 0) else 0
def gTo (k d : Int) : Nat := if sideB d then (if k = 1 then (if d = 0 then 6 else 8) else if k = 2 then 16 else if k = 3 then 8 else if k = 4 then 4 else if k = 5 then 8 else if k = 6 then 8 else 0) else 0
def gFar (k d : Int) : Bool := sideB d && (k == 3 || k == 4 || k == 5)
def gaiV (a b : Int) (c : Bool) : Value := .agg #[.int .i64 a, .int .i64 b, .bool c]
theorem kind_cases (k : Int) : k = 1 ∨ k = 2 ∨ k = 3 ∨ k = 4 ∨ k = 5 ∨ k = 6 ∨ ((k == 1) = false ∧ (k == 2) = false ∧ (k == 3) = false ∧ (k == 4) = false ∧ (k == 5) = false ∧ (k == 6) = false) := by
  by_cases h1 : k = 1
  · exact .inl h1
  by_cases h2 : k = 2
  · exact .inr (.inl h2)
  by_cases h3 : k = 3
  · exact .inr (.inr (.inl h3))
  by_cases h4 : k = 4
  · exact .inr (.inr (.inr (.inl h4)))
  by_cases h5 : k = 5
  · exact .inr (.inr (.inr (.inr (.inl h5))))
  by_cases h6 : k = 6
  · exact .inr (.inr (.inr (.inr (.inr (.inl h6)))))
  · exact .inr (.inr (.inr (.inr (.inr (.inr ⟨by simp [h1], by simp [h2], by simp [h3], by simp [h4], by simp [h5], by simp [h6]⟩)))))
theorem aSide_any (d : Int) (w : World) :
    Calls Tryd.prog 93 #[.int .i64 d] w fun e w' => e = .returned (.bool (sideB d)) ∧ w = w' := by
  rcases side_cases d with ⟨rfl, hb⟩ | ⟨rfl, hb⟩ | ⟨h0, h1, hb⟩
  all_goals rw [hb]
  all_goals clear hb
  all_goals
    go_enter Tryd.func93, Tryd.ntmps93
    go_wp2
    go_ret
    exact ⟨rfl, rfl⟩
theorem infoGait : (Tryd.prog.info? 91).map (·.size) = some 3 := by kernel_rfl
theorem infoStep : (Tryd.prog.info? 94).map (·.size) = some 2 := by kernel_rfl
set_option maxHeartbeats 1000000 in
theorem pawnGait_any (d : Int) (w : World) (hs : sideB d = true) :
    Calls Tryd.prog 94 #[.int .i64 d] w fun e w' => e = .returned (.agg #[.int .i64 (gFrom 1 d), .int .i64 (gTo 1 d), .bool (gFar 1 d)]) ∧ Below w.heap.size w w' := by
  rcases side_cases d with ⟨rfl, hb⟩ | ⟨rfl, hb⟩ | ⟨h0, h1, hb⟩
  · go_enter Tryd.func94, Tryd.ntmps94
    go_wp2
    refine bodyPost_ret (v := .agg #[.int .i64 4, .int .i64 6, .bool false]) ?_ rfl ⟨rfl, below_new _⟩
    exact results_cell_row (p := 2) (ty := 91) rfl _ _ w.heap.size 91 _ (0, 0) _ rfl (sl_at rfl) Tryd.underlying91 rfl infoGait
  · go_enter Tryd.func94, Tryd.ntmps94
    go_wp2
    refine bodyPost_ret (v := .agg #[.int .i64 6, .int .i64 8, .bool false]) ?_ rfl ⟨rfl, below_new _⟩
    exact results_cell_row (p := 2) (ty := 91) rfl _ _ w.heap.size 91 _ (0, 0) _ rfl (sl_at rfl) Tryd.underlying91 rfl infoGait
  · rw [hb] at hs; cases hs
set_option maxHeartbeats 4000000 in
set_option maxRecDepth 100000 in
theorem gaitOf_any (k d : Int) (w : World) :
    Calls Tryd.prog 60 #[.agg #[.int .i64 k, .int .i64 d]] w fun e w' => e = .returned (.agg #[.int .i64 (gFrom k d), .int .i64 (gTo k d), .bool (gFar k d)]) ∧ Below w.heap.size w w' := by
  obtain ⟨a, ha⟩ : ∃ a, gFrom k d = a := ⟨_, rfl⟩
  obtain ⟨b, hb⟩ : ∃ b, gTo k d = b := ⟨_, rfl⟩
  obtain ⟨c, hc⟩ : ∃ c, gFar k d = c := ⟨_, rfl⟩
  rw [ha, hb, hc]
  cases hs : sideB d
  · have ea : a = 0 := by rw [← ha]; simp [gFrom, hs]
    have eb : b = 0 := by rw [← hb]; simp [gTo, hs]
    have ec : c = false := by rw [← hc]; simp [gFar, hs]
    subst ea eb ec
    clear ha hb hc
    have HS := Lib.hid hs
    clear hs
    go_enter Tryd.func60, Tryd.ntmps60
    go_wp2_with fail
    refine (aSide_any d _).mono ?_
    rw [HS.out]
    rintro e w1 ⟨rfl, rfl⟩
    go_wp2
    refine bodyPost_ret (v := .agg #[.int .i64 0, .int .i64 0, .bool false]) ?_ rfl ⟨rfl, (below_new _).alloc (by simp) _⟩
    exact results_cell_row (p := 2) (ty := 91) rfl _ _ (w.heap.size + 1) 91 _ (0, 0) _ rfl (sl_at (by simp)) Tryd.underlying91 rfl infoGait
  · by_cases hk1 : k = 1
    · subst hk1
      have HP := Lib.hid (fun W => pawnGait_any d W hs)
      rw [ha, hb, hc] at HP
      have HS := Lib.hid hs
      clear hs ha hb hc
      go_enter Tryd.func60, Tryd.ntmps60
      go_wp2_with fail
      refine (aSide_any d _).mono ?_
      rw [HS.out]
      rintro e w1 ⟨rfl, rfl⟩
      go_wp2_with fail
      refine (HP.out _).mono ?_
      rintro e w1 ⟨rfl, hb1⟩
      have hz := hb1.size
      simp only [World.size_alloc] at hz
      have hl := sl_go (sl_at (W := w.alloc (.cells #[.int .i64 1, .int .i64 d] 25)) (o := .cells #[.int .i64 0, .int .i64 0, .bool false] 91) (H := w.heap.size + 1) (by simp)) hb1
      obtain ⟨c0, c1, c2, fr, _⟩ := row3 hl
      have HB := Lib.hid (((below_new (w := w) _).alloc (by simp) _).trans (hb1.mono (by simp; omega)))
      have HL := Lib.hid hl
      clear hl hb1
      go_wp2
      refine bodyPost_ret (v := .agg #[.int .i64 a, .int .i64 b, .bool c]) ?_ rfl ⟨rfl, below_put3 _ _ _ HB.out (Nat.le_succ _)⟩
      exact results_cell_row (p := 2) (ty := 91) rfl _ _ (w.heap.size + 1) 91 _ (0, 0) _ rfl (put3 _ _ _ HL.out) Tryd.underlying91 rfl infoGait
    · have hk := kind_cases k
      rcases hk with rfl | rfl | rfl | rfl | rfl | rfl | ⟨e1, e2, e3, e4, e5, e6⟩
      · exact absurd rfl hk1
      all_goals
        have ea : a = gFrom _ d := ha.symm
        have eb : b = gTo _ d := hb.symm
        have ec : c = gFar _ d := hc.symm
        simp [gFrom, gTo, gFar, hs] at ea eb ec
      rotate_right
      · simp at e1 e2 e3 e4 e5 e6
        clear ea eb ec
        have ea : a = 0 := by rw [← ha]; unfold gFrom; rw [if_pos hs, if_neg e1, if_neg e2, if_neg e3]
        have eb : b = 0 := by rw [← hb]; unfold gTo; rw [if_pos hs, if_neg e1, if_neg e2, if_neg e3, if_neg e4, if_neg e5, if_neg e6]
        have ec : c = false := by rw [← hc]; simp [gFar, e3, e4, e5]
        have f1 : (k == 1) = false := by simp [e1]
        have f2 : (k == 2) = false := by simp [e2]
        have f3 : (k == 3) = false := by simp [e3]
        have f4 : (k == 4) = false := by simp [e4]
        have f5 : (k == 5) = false := by simp [e5]
        have f6 : (k == 6) = false := by simp [e6]
        subst ea eb ec
        clear ha hb hc e1 e2 e3 e4 e5 e6 hk1
        have HS := Lib.hid hs
        clear hs
        go_enter Tryd.func60, Tryd.ntmps60
        go_wp2_with fail
        refine (aSide_any d _).mono ?_
        rw [HS.out]
        rintro e w1 ⟨rfl, rfl⟩
        go_wp2
        refine bodyPost_ret (v := .agg #[.int .i64 0, .int .i64 0, .bool false]) ?_ rfl ⟨rfl, (below_new _).alloc (by simp) _⟩
        exact results_cell_row (p := 2) (ty := 91) rfl _ _ (w.heap.size + 1) 91 _ (0, 0) _ rfl (sl_at (by simp)) Tryd.underlying91 rfl infoGait
      all_goals
        subst ea eb ec
        clear ha hb hc hk1
        have HS := Lib.hid hs
        clear hs
        go_enter Tryd.func60, Tryd.ntmps60
        go_wp2_with fail
        refine (aSide_any d _).mono ?_
        rw [HS.out]
        rintro e w1 ⟨rfl, rfl⟩
        go_wp2
        first
          | (refine bodyPost_ret (v := .agg #[.int .i64 8, .int .i64 16, .bool false]) ?_ rfl ⟨rfl, (below_new _).alloc (by simp) _⟩
             exact results_cell_row (p := 2) (ty := 91) rfl _ _ (w.heap.size + 1) 91 _ (0, 0) _ rfl (sl_at (by simp)) Tryd.underlying91 rfl infoGait)
          | (refine bodyPost_ret (v := .agg #[.int .i64 4, .int .i64 8, .bool true]) ?_ rfl ⟨rfl, (below_new _).alloc (by simp) _⟩
             exact results_cell_row (p := 2) (ty := 91) rfl _ _ (w.heap.size + 1) 91 _ (0, 0) _ rfl (sl_at (by simp)) Tryd.underlying91 rfl infoGait)
          | (refine bodyPost_ret (v := .agg #[.int .i64 0, .int .i64 4, .bool true]) ?_ rfl ⟨rfl, (below_new _).alloc (by simp) _⟩
             exact results_cell_row (p := 2) (ty := 91) rfl _ _ (w.heap.size + 1) 91 _ (0, 0) _ rfl (sl_at (by simp)) Tryd.underlying91 rfl infoGait)
          | (refine bodyPost_ret (v := .agg #[.int .i64 0, .int .i64 8, .bool true]) ?_ rfl ⟨rfl, (below_new _).alloc (by simp) _⟩
             exact results_cell_row (p := 2) (ty := 91) rfl _ _ (w.heap.size + 1) 91 _ (0, 0) _ rfl (sl_at (by simp)) Tryd.underlying91 rfl infoGait)
          | (refine bodyPost_ret (v := .agg #[.int .i64 0, .int .i64 8, .bool false]) ?_ rfl ⟨rfl, (below_new _).alloc (by simp) _⟩
             exact results_cell_row (p := 2) (ty := 91) rfl _ _ (w.heap.size + 1) 91 _ (0, 0) _ rfl (sl_at (by simp)) Tryd.underlying91 rfl infoGait)
/-- does something stand there -/
def occB (P : Nat → Int) (s : Nat) : Bool := !pe (P (2 * s)) (P (2 * s + 1)) 0 0
theorem aStands_any (b : Nat) (P : Nat → Int) (s : Nat) (hs : s < 64) (w : World) (hp : PB w b P) :
    Calls Tryd.prog 62 #[.pointer (some ⟨b, 0, none⟩), .int .i64 (s : Int)] w fun e w' => e = .returned (.bool (occB P s)) ∧ w = w' := by
  have e1 := hp.cell (s * 2) (by omega)
  have e2 := hp.cell (s * 2 + 1) (by omega)
  have h0 : (0 : Int) ≤ s := by omega
  have h1 : (s : Int) < 64 := by omega
  unfold occB
  rw [Nat.mul_comm 2 s]
  generalize P (s * 2) = k at e1
  generalize P (s * 2 + 1) = d at e2
  clear hp
  go_enter Tryd.func62, Tryd.ntmps62
  go_wp2
  go_ret
  exact ⟨rfl, rfl⟩
end Go.Proofs.YtjhlombbkodpaaaDoor
