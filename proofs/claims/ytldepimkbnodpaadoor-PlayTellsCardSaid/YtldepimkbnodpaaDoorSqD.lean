/-
  Contracts: the squares on a way.
-/
import Derived.Test.YtldepimkbnodpaaDoorSqC
namespace Go.Proofs.YtldepimkbnodpaaDoor
open Go.RowKit
set_option linter.unusedSimpArgs false
set_option linter.unusedVariables false

/-- the squares on a way: the i-th step's -/
def rq (s a b : Int) : Nat → Int
  | 0 => stp s a b
  | i + 1 => stp (rq s a b i) a b
/-- there are n of them -/
def RayN (s a b : Int) (n : Nat) : Prop := (∀ i, i < n → sq (rq s a b i) = true) ∧ sq (rq s a b n) = false
theorem stp_sq {s a b : Int} (h : sq (stp s a b) = true) : sq s = true ∧ stp s a b % 8 = s % 8 + a ∧ stp s a b / 8 = s / 8 + b := by
  unfold stp at h ⊢
  split at h
  · rename_i hc
    rw [if_pos hc]
    rw [Bool.and_eq_true] at hc
    obtain ⟨s0, s1⟩ := (sq_iff s).1 hc.1
    obtain ⟨u0, u1, u2, u3⟩ := (onB_iff _ _).1 hc.2
    exact ⟨hc.1, by omega, by omega⟩
  · cases h
theorem rq_at {s a b : Int} (i : Nat) (h : sq (rq s a b i) = true) : sq s = true ∧ rq s a b i % 8 = s % 8 + ((i : Int) + 1) * a ∧ rq s a b i / 8 = s / 8 + ((i : Int) + 1) * b := by
  induction i with
  | zero =>
    obtain ⟨h1, h2, h3⟩ := stp_sq h
    exact ⟨h1, by rw [show rq s a b 0 = stp s a b from rfl, h2]; simp, by rw [show rq s a b 0 = stp s a b from rfl, h3]; simp⟩
  | succ i ih =>
    obtain ⟨h1, h2, h3⟩ := stp_sq (s := rq s a b i) h
    obtain ⟨k1, k2, k3⟩ := ih h1
    refine ⟨k1, ?_, ?_⟩
    · have e : (((i + 1 : Nat) : Int) + 1) * a = ((i : Int) + 1) * a + a := by rw [show ((i + 1 : Nat) : Int) + 1 = ((i : Int) + 1) + 1 by omega, Int.add_mul ((i : Int) + 1) 1 a, Int.one_mul]
      rw [show rq s a b (i + 1) = stp (rq s a b i) a b from rfl, h2, k2, e]; omega
    · have e : (((i + 1 : Nat) : Int) + 1) * b = ((i : Int) + 1) * b + b := by rw [show ((i + 1 : Nat) : Int) + 1 = ((i : Int) + 1) + 1 by omega, Int.add_mul ((i : Int) + 1) 1 b, Int.one_mul]
      rw [show rq s a b (i + 1) = stp (rq s a b i) a b from rfl, h3, k3, e]; omega
theorem far_mul {x y a : Int} {i : Nat} (h : y = x + ((i : Int) + 1) * a) (x0 : 0 ≤ x) (x1 : x < 8) (y0 : 0 ≤ y) (y1 : y < 8) (ha : a ≠ 0) : i < 7 := by
  rcases Int.lt_or_gt_of_ne ha with h1 | h1
  · have := Int.mul_le_mul_of_nonneg_left (show a ≤ -1 by omega) (show (0 : Int) ≤ (i : Int) + 1 by omega)
    omega
  · have := Int.mul_le_mul_of_nonneg_left (show 1 ≤ a by omega) (show (0 : Int) ≤ (i : Int) + 1 by omega)
    omega
theorem rq_few {s a b : Int} (hab : ¬ (a = 0 ∧ b = 0)) {i : Nat} (h : sq (rq s a b i) = true) : i < 7 := by
  obtain ⟨h1, h2, h3⟩ := rq_at i h
  obtain ⟨s0, s1⟩ := (sq_iff s).1 h1
  obtain ⟨t0, t1⟩ := (sq_iff _).1 h
  by_cases ha : a = 0
  · exact far_mul h3 (by omega) (by omega) (by omega) (by omega) (fun hb => hab ⟨ha, hb⟩)
  · exact far_mul h2 (by omega) (by omega) (by omega) (by omega) ha
theorem rayN_ex (s a b : Int) (hab : ¬ (a = 0 ∧ b = 0)) : ∃ n, n ≤ 7 ∧ RayN s a b n := by
  have h7 : ∀ m, (∀ i, i < m → sq (rq s a b i) = true) → (∃ n, n ≤ 7 ∧ RayN s a b n) ∨ sq (rq s a b m) = true := by
    intro m hm
    cases h : sq (rq s a b m)
    · left
      refine ⟨m, ?_, hm, h⟩
      cases m with
      | zero => omega
      | succ m => have := rq_few hab (hm m (by omega)); omega
    · exact .inr rfl
  have hall : ∀ m, (∃ n, n ≤ 7 ∧ RayN s a b n) ∨ ∀ i, i < m → sq (rq s a b i) = true := by
    intro m
    induction m with
    | zero => exact .inr fun i hi => by omega
    | succ m ih =>
      rcases ih with h | h
      · exact .inl h
      · rcases h7 m h with h2 | h2
        · exact .inl h2
        · exact .inr fun i hi => by
            rcases Nat.lt_or_ge i m with h3 | h3
            · exact h i h3
            · obtain rfl : i = m := by omega
              exact h2
  rcases hall 8 with h | h
  · exact h
  · exact absurd (rq_few hab (h 7 (by omega))) (by omega)
theorem infoInt : (Tryd.prog.info? 3).map (fun i => (i.zero, i.size, i.bytes)) = some (some (.int .i64 0), 1, 8) := by kernel_rfl
/-- the row of the first n -/
def rqC (s a b : Int) (n : Nat) : List Value := (List.range n).map fun i => .int .i64 (rq s a b i)
theorem rqC_succ (s a b : Int) (n : Nat) : rqC s a b n ++ [.int .i64 (rq s a b n)] = rqC s a b (n + 1) := by
  unfold rqC; rw [List.range_succ, List.map_append]; rfl

theorem infoI : ∃ i, Tryd.prog.info? 3 = some i ∧ i.size = 1 := by
  have h := infoInt
  cases hi : Tryd.prog.info? 3 with
  | none => rw [hi] at h; cases h
  | some i => rw [hi] at h; exact ⟨i, rfl, by simpa using congrArg (fun x => x.map fun y => y.2.1) h⟩
theorem equal_step (T : TypeId) (hu : Tryd.prog.underlying T = some (.array 2 3)) (x y x' y' : Int) (d : Nat) (w : World) : (Op.equalIn (d + 2) T (.agg #[.int .i64 x, .int .i64 y]) (.agg #[.int .i64 x', .int .i64 y'])).run Tryd.prog w = .ok (x == x' && y == y') w := by
  obtain ⟨i, hi, hs⟩ := infoI
  rw [Op.equalIn]
  simp only [Sem.run_bind, run_underlying hu, Result.andThen_ok, sizeOf, typeInfo, hi, hs, Std.Legacy.Range.forIn_eq_forIn_range', Std.Legacy.Range.size, Nat.sub_zero, Nat.add_sub_cancel, Nat.div_one]
  simp only [Sem.run_pure, Sem.run_bind, Result.andThen_ok, run_program, hi, hs]
  have px : ∀ u v : Int, (Go.part 3 #[.int .i64 u, .int .i64 v] (0 * 1)).run Tryd.prog w = .ok (.int .i64 u) w := fun u v => by
    simp [Go.part, isAgg, run_underlying Tryd.underlying3]
  have py : ∀ u v : Int, (Go.part 3 #[.int .i64 u, .int .i64 v] (1 * 1)).run Tryd.prog w = .ok (.int .i64 v) w := fun u v => by
    simp [Go.part, isAgg, run_underlying Tryd.underlying3]
  have pe : ∀ u v : Int, (Op.equalIn (d + 1) 3 (.int .i64 u) (.int .i64 v)).run Tryd.prog w = .ok (u == v) w := fun u v => run_equalIn_int w d 3 .i64 .i64 _ _ Tryd.underlying3
  have hl : List.range' 0 2 1 = [0, 1] := rfl
  rw [hl]
  simp only [List.forIn_cons, Sem.run_bind, px, py, pe, Result.andThen_ok]
  cases h1 : x == x' <;> simp [px, py, pe]
  cases h2 : y == y' <;> simp
  all_goals simpa using h2
theorem eql_step (x y x' y' : Int) (w : World) : (binOp .eql 97 (.agg #[.int .i64 x, .int .i64 y]) (.agg #[.int .i64 x', .int .i64 y'])).run Tryd.prog w = .ok (.bool (x == x' && y == y')) w := by
  rw [run_eql_struct, equal_step 97 Tryd.underlying97 x y x' y' 9998 w]; rfl
theorem neq_pair (x y x' y' : Int) (w : World) : (binOp .neq 86 (.agg #[.int .i64 x, .int .i64 y]) (.agg #[.int .i64 x', .int .i64 y'])).run Tryd.prog w = .ok (.bool (!(x == x' && y == y'))) w := by
  rw [run_neq_struct, equal_step 86 Tryd.underlying86 x y x' y' 9998 w]; rfl
/-- how long a row is -/
def vlen : Value → Nat
  | .slice _ n _ => n
  | _ => 0
theorem owns_go {w w' : World} {base : Nat} {e : TypeId} {k : Nat} {v : Value} {n : Nat} {xs : List Value} (h : w.ownsRow base e k v n xs) (hb : Below w.heap.size w w') : w'.ownsRow base e k v n xs := by
  refine ⟨h.1, ?_⟩
  rcases h.2 with h0 | ⟨g, cap, cur, h1, h2, h3, h4⟩
  · exact .inl h0
  · exact .inr ⟨g, cap, cur, h1, h2, sl_go h3 hb, h4⟩
theorem owns_off {w : World} {base : Nat} {e t : TypeId} {k n H : Nat} {v : Value} {xs : List Value} {cs : Array Value} {fr : Nat × Nat} (h : w.ownsRow base e k v n xs) (hl : w.heap[H]? = some (.cells cs t fr)) (hne : e ≠ t) : v.ownBlock ≠ some H := by
  rcases h.2 with ⟨rfl, _⟩ | ⟨g, cap, cur, rfl, _, hc, _⟩
  · simp [Value.ownBlock]
  · intro hq
    have hg : g = H := by simpa [Value.ownBlock] using hq
    subst hg
    rw [hl] at hc
    simp only [Option.some.injEq, Obj.cells.injEq] at hc
    exact hne hc.2.1.symm
theorem sl_grown {w w' : World} {row : Option Nat} {H : Nat} {o : Obj} (h : w.heap[H]? = some o) (hg : w.grownBy w' row) (hne : row ≠ some H) : w'.heap[H]? = some o :=
  (hg.block H (Array.getElem?_eq_some_iff.1 h).1 (fun e => hne e.symm)).trans h
theorem put3_far {W : World} {H G : Nat} {o : Obj} (x y z : Value) (h : W.heap[G]? = some o) (hne : G ≠ H) :
    (((W.setCell ⟨H, 0, none⟩ x).setCell ⟨H, 1, none⟩ y).setCell ⟨H, 2, none⟩ z).heap[G]? = some o := by
  rw [Below.heap_setCell _ _ _ _ hne, Below.heap_setCell _ _ _ _ hne, Below.heap_setCell _ _ _ _ hne]; exact h
theorem own_len {w : World} {base : Nat} {e : TypeId} {k n : Nat} {v : Value} {xs : List Value} (h : w.ownsRow base e k v n xs) : vlen v = n := by
  rcases h.2 with ⟨rfl, h0⟩ | ⟨g, cap, cur, rfl, _⟩
  · exact h0.symm
  · rfl
theorem owns_put3 {W : World} {H : Nat} {base : Nat} {e t : TypeId} {k n : Nat} {v : Value} {xs : List Value} {cs : Array Value} {fr : Nat × Nat} (x y z : Value) (h : W.ownsRow base e k v n xs) (hl : W.heap[H]? = some (.cells cs t fr)) (hne : e ≠ t) :
    (((W.setCell ⟨H, 0, none⟩ x).setCell ⟨H, 1, none⟩ y).setCell ⟨H, 2, none⟩ z).ownsRow base e k v n xs := by
  have hoff := owns_off h hl hne
  refine ⟨h.1, ?_⟩
  rcases h.2 with h0 | ⟨g, cap, cur, rfl, h2, h3, h4⟩
  · exact .inl h0
  · exact .inr ⟨g, cap, cur, rfl, h2, put3_far x y z h3 (fun e => hoff (by rw [e]; rfl)), h4⟩
theorem row2' {W : World} {H : Nat} {a b : Value} {t : TypeId} (h : W.heap[H]? = some (.cells #[a, b] t (0, 0))) : W.cell? ⟨H, 0, none⟩ = some a ∧ W.cell? ⟨H, 1, none⟩ = some b := ⟨(row2 h).1, (row2 h).2.1⟩
theorem al_new {B : Nat} {w W : World} (_ : Below B w W) (o : Obj) : (W.alloc o).heap[W.heap.size]? = some o := sl_at rfl
theorem al_old {W : World} {H : Nat} {o : Obj} (h : W.heap[H]? = some o) (o' : Obj) : (W.alloc o').heap[H]? = some o := (heap_alloc_old W o' (Array.getElem?_eq_some_iff.1 h).1).trans h
theorem al_lt {W : World} {H : Nat} {o : Obj} (h : W.heap[H]? = some o) : H < W.heap.size := (Array.getElem?_eq_some_iff.1 h).1
end Go.Proofs.YtldepimkbnodpaaDoor
