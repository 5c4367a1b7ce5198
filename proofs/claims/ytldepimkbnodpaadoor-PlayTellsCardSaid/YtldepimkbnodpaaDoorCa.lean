/-
  The walk of BoardPuts.
-/
import Derived.Test.YtldepimkbnodpaaDoorG9
import Derived.Test.YtldepimkbnodpaaDoorG8
namespace Go.Proofs.YtldepimkbnodpaaDoor
open Go.RowKit Go.Sort
set_option linter.unusedSimpArgs false
set_option linter.unusedVariables false

theorem cnt_fnd (P : Nat → Int) (d : Int) (n : Nat) : (fnd P 6 d n).length = cnt P d n := by
  induction n with
  | zero => rfl
  | succ n ih => simp only [fnd, cnt, List.length_append, ih]; split <;> rfl
/-- a right position has its kings -/
theorem king_right (P : Nat → Int) (d : Int) (h : cnt P d 64 = 1) : ∃ j : Nat, j < 64 ∧ kingN P d = (j : Int) ∧ P (2 * j) = 6 ∧ P (2 * j + 1) = d := by
  have hl : (fnd P 6 d 64).length = 1 := by rw [cnt_fnd, h]
  obtain ⟨x, hx⟩ := List.length_eq_one_iff.1 hl
  have hk : kingN P d = x := by rw [kingN_eq, hx]; rfl
  obtain ⟨j, hj, e, h1, h2⟩ := (fnd_mem P 6 d 64 x).1 (by rw [hx]; simp)
  exact ⟨j, hj, by rw [hk, e], h1, h2⟩
theorem right_parts (P : Nat → Int) (h : rightB P = true) : okS P 64 = true ∧ cnt P 0 64 = 1 ∧ cnt P 1 64 = 1 := by
  rw [rightB_eq] at h
  unfold piecesB at h
  simp only [Bool.and_eq_true, beq_iff_eq] at h
  exact ⟨h.1.1.1.1.1.1, h.1.1.1.1.1.2, h.1.1.1.1.2⟩
theorem can_right (P : Nat → Int) (h : okS P 64 = true) (m : Nat) (hm : m < 64) : canP (P (2 * m)) (P (2 * m + 1)) = true := by
  have hb := (okS_iff P 64).1 h m hm
  unfold badP at hb
  unfold canP
  cases h1 : pe (P (2 * m)) (P (2 * m + 1)) 0 0 <;> cases h2 : mayB (P (2 * m)) (P (2 * m + 1)) <;> simp_all
/-- one piece put -/
def put1 (P : Nat → Int) (m : Nat) (k d : Int) : Nat → Int := setN (setN P (2 * m) k) (2 * m + 1) d
theorem put1_other (P : Nat → Int) (m : Nat) (k d : Int) (s : Nat) (h : s ≠ m) : put1 P m k d (2 * s) = P (2 * s) ∧ put1 P m k d (2 * s + 1) = P (2 * s + 1) := by
  unfold put1 setN
  exact ⟨by rw [if_neg (by omega), if_neg (by omega)], by rw [if_neg (by omega), if_neg (by omega)]⟩
theorem put1_same (P : Nat → Int) (m : Nat) (k d : Int) : put1 P m k d (2 * m) = k ∧ put1 P m k d (2 * m + 1) = d := by
  unfold put1 setN
  exact ⟨by rw [if_neg (by omega), if_pos rfl], by rw [if_pos rfl]⟩
theorem put1_back (P : Nat → Int) (m : Nat) (k d : Int) : put1 (put1 P m k d) m (P (2 * m)) (P (2 * m + 1)) = P := by
  funext i
  unfold put1 setN
  by_cases h1 : i = 2 * m + 1
  · rw [if_pos h1, h1]
  · by_cases h2 : i = 2 * m
    · rw [if_neg h1, if_pos h2, h2]
    · rw [if_neg h1, if_neg h2, if_neg h1, if_neg h2]
theorem fnd_put1 (P : Nat → Int) (m : Nat) (k d a b : Int) (n : Nat) : (n ≤ m → fnd (put1 P m k d) a b n = fnd P a b n) ∧ (fnd (put1 P m k d) a b n).length ≤ (fnd P a b n).length + 1 ∧ (n ≤ m → (fnd (put1 P m k d) a b n).length ≤ (fnd P a b n).length) := by
  induction n with
  | zero => exact ⟨fun _ => rfl, Nat.zero_le _, fun _ => Nat.le_refl _⟩
  | succ n ih =>
    obtain ⟨h1, h2, h3⟩ := ih
    by_cases hn : n = m
    · subst hn
      refine ⟨fun h => by omega, ?_, fun h => by omega⟩
      have := h3 (Nat.le_refl _)
      simp only [fnd, List.length_append]
      split <;> split <;> simp <;> omega
    · obtain ⟨e1, e2⟩ := put1_other P m k d n hn
      refine ⟨fun h => ?_, ?_, fun h => ?_⟩
      · simp only [fnd]; rw [h1 (by omega), e1, e2]
      · simp only [fnd, List.length_append]; rw [e1, e2]; omega
      · simp only [fnd, List.length_append]; rw [e1, e2]; have := h3 (by omega); omega
theorem putQ_one (P : Nat → Int) (k d : Int) (m : Nat) (hm : m < 64) (hc : canP k d = true) (g : Nat → Int) (hg : g 0 = (m : Int)) : putQ P k d g 1 = put1 P m k d ∧ putE k d g 1 = 0 := by
  have ho : okN g 1 = true := by show (true && sq (g 0)) = true; rw [hg, Bool.true_and]; exact (sq_iff _).2 (by omega)
  unfold putQ putE
  rw [hc, ho]
  refine ⟨?_, rfl⟩
  show putN P k d g 1 = _
  show setN (setN P (2 * (g 0).toNat) k) (2 * (g 0).toNat + 1) d = _
  rw [hg, Int.toNat_natCast]; rfl
/-- is a number among the first j of a row -/
def among (L : List Int) (x : Int) : Nat → Bool
  | 0 => false
  | j + 1 => among L x j || (L.getD j 0 == x)
theorem among_mem (L : List Int) (x : Int) (h : x ∈ L) : among L x L.length = true := by
  obtain ⟨i, hi, rfl⟩ := List.mem_iff_getElem.1 h
  have : ∀ n, i < n → among L L[i] n = true := by
    intro n hn
    induction n with
    | zero => omega
    | succ n ih =>
      unfold among
      rcases Nat.lt_succ_iff_lt_or_eq.1 hn with h | rfl
      · rw [ih h]; rfl
      · simp [List.getD, hi]
  exact this _ hi
/-- two values are compared, in a region that does not draw -/
theorem wpList_bin {ops : Array Oper} {rest : List Oper} {op : Oper} {a : Act} {w : World} {Q : Exit → Act → World → Prop} (hw : Region.wanted op (yielded ops a.tmps) = true) (bop : BinOp) (x y : Operand) (t r : TypeId) (ho : op.op = .binOp bop t x y r)
    (v1 v2 v : Value) (hx : a.eval x = v1) (hy : a.eval y = v2) (hg : ∀ W, (eqGuard bop t x y v1 v2).run Tryd.prog W = .ok () W) (h : ∀ W, (binOp bop t v1 v2).run Tryd.prog W = .ok v W) (k : wpList Tryd.prog ops Q rest (a.put op.dst v) w) : wpList Tryd.prog ops Q (op :: rest) a w :=
  BigFrame.wpList_want hw fun _ hK => by
    unfold Oper.wp execOp
    simp [ho, hx, hy, hg, h]
    exact hK _ _ k
/-- what stands in BoardPuts -/
structure TP (B : Nat) (w W : World) (b9 b11 b13 : Nat) (P Q : Nat → Int) (k d u v : Int) : Prop where
  p : PB W w.heap.size P
  x : W.heap[b9]? = some (.cells #[.int .i64 k, .int .i64 d] 25 (0, 0))
  q : PB W b11 Q
  y : W.heap[b13]? = some (.cells #[.int .i64 u, .int .i64 v] 25 (0, 0))
  b : Below w.heap.size w W
  g : GB B W
theorem TP.go {B : Nat} {w W W' : World} {b9 b11 b13 : Nat} {P Q : Nat → Int} {k d u v : Int} (hB : B ≤ w.heap.size) (h : TP B w W b9 b11 b13 P Q k d u v) (g : Below W.heap.size W W') : TP B w W' b9 b11 b13 P Q k d u v :=
  ⟨h.p.go g, sl_go h.x g, h.q.go g, sl_go h.y g, h.b.trans (g.mono h.b.size), h.g.below (g.mono (Nat.le_trans hB h.b.size))⟩
theorem TP.other {B : Nat} {w W0 W : World} {b9 b11 b13 : Nat} {P Q : Nat → Int} {k d u v : Int} (hB : B ≤ w.heap.size) (h0 : TP B w W0 b9 b11 b13 P Q k d u v) (h : TP B w W b9 b11 b13 P Q k d u v) (c i : Nat) (hc : W0.heap.size ≤ c) (x : Value) : TP B w (W.setCell ⟨c, i, none⟩ x) b9 b11 b13 P Q k d u v := by
  have l1 := h0.p.lt
  have l2 := h0.q.lt
  have l3 := (Array.getElem?_eq_some_iff.1 h0.x).1
  have l4 := (Array.getElem?_eq_some_iff.1 h0.y).1
  exact ⟨h.p.other (by omega) _ _, (Go.heap_setCell_other _ _ _ _ (by simp; omega)).trans h.x, h.q.other (by omega) _ _, (Go.heap_setCell_other _ _ _ _ (by simp; omega)).trans h.y,
    h.b.setCell (p := ⟨c, i, none⟩) (by simp; omega) _, h.g.below ((Below.refl B W).setCell (p := ⟨c, i, none⟩) (by simp; omega) x)⟩
end Go.Proofs.YtldepimkbnodpaaDoor
