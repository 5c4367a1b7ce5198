/-
  Merged: SqD, SqE, SqG, SqH, Bf, Bg, Bh.
-/
import Derived.Test.YthinkiljhkanhaaGreatDoorG2
import Derived.WideShapes

namespace Go.Proofs.YthinkiljhkanhaaGreatDoor
open Go.RowKit
set_option linter.unusedSimpArgs false
set_option linter.unusedVariables false
set_option maxRecDepth 20000

/-- the squares on a way: the i-th step's -/
def rq (s a b : Int) : Nat → Int
  | 0 => stp s a b
  | i + 1 => stp (rq s a b i) a b
/-- there are n of them -/
def RayN (s a b : Int) (n : Nat) : Prop := (∀ i, i < n → sq (rq s a b i) = true) ∧ sq (rq s a b n) = false
theorem stp_sq {s a b : Int} (h : sq (stp s a b) = true) : sq s = true ∧ stp s a b % 8 = s % 8 + a ∧ stp s a b / 8 = s / 8 + b := by
  unfold stp at h ⊢
  split at h
  · rename_i hc
    rw [if_pos hc]
    rw [Bool.and_eq_true] at hc
    obtain ⟨s0, s1⟩ := (sq_iff s).1 hc.1
    obtain ⟨u0, u1, u2, u3⟩ := (onB_iff _ _).1 hc.2
    exact ⟨hc.1, by omega, by omega⟩
  · cases h
theorem rq_at {s a b : Int} (i : Nat) (h : sq (rq s a b i) = true) : sq s = true ∧ rq s a b i % 8 = s % 8 + ((i : Int) + 1) * a ∧ rq s a b i / 8 = s / 8 + ((i : Int) + 1) * b := by
  induction i with
  | zero =>
    obtain ⟨h1, h2, h3⟩ := stp_sq h
    exact ⟨h1, by rw [show rq s a b 0 = stp s a b from rfl, h2]; simp, by rw [show rq s a b 0 = stp s a b from rfl, h3]; simp⟩
  | succ i ih =>
    obtain ⟨h1, h2, h3⟩ := stp_sq (s := rq s a b i) h
    obtain ⟨k1, k2, k3⟩ := ih h1
    refine ⟨k1, ?_, ?_⟩
    · have e : (((i + 1 : Nat) : Int) + 1) * a = ((i : Int) + 1) * a + a := by rw [show ((i + 1 : Nat) : Int) + 1 = ((i : Int) + 1) + 1 by omega, Int.add_mul ((i : Int) + 1) 1 a, Int.one_mul]
      rw [show rq s a b (i + 1) = stp (rq s a b i) a b from rfl, h2, k2, e]; omega
    · have e : (((i + 1 : Nat) : Int) + 1) * b = ((i : Int) + 1) * b + b := by rw [show ((i + 1 : Nat) : Int) + 1 = ((i : Int) + 1) + 1 by omega, Int.add_mul ((i : Int) + 1) 1 b, Int.one_mul]
      rw [show rq s a b (i + 1) = stp (rq s a b i) a b from rfl, h3, k3, e]; omega
theorem far_mul {x y a : Int} {i : Nat} (h : y = x + ((i : Int) + 1) * a) (x0 : 0 ≤ x) (x1 : x < 8) (y0 : 0 ≤ y) (y1 : y < 8) (ha : a ≠ 0) : i < 7 := by
  rcases Int.lt_or_gt_of_ne ha with h1 | h1
  · have := Int.mul_le_mul_of_nonneg_left (show a ≤ -1 by omega) (show (0 : Int) ≤ (i : Int) + 1 by omega)
    omega
  · have := Int.mul_le_mul_of_nonneg_left (show 1 ≤ a by omega) (show (0 : Int) ≤ (i : Int) + 1 by omega)
    omega
theorem rq_few {s a b : Int} (hab : ¬ (a = 0 ∧ b = 0)) {i : Nat} (h : sq (rq s a b i) = true) : i < 7 := by
  obtain ⟨h1, h2, h3⟩ := rq_at i h
  obtain ⟨s0, s1⟩ := (sq_iff s).1 h1
  obtain ⟨t0, t1⟩ := (sq_iff _).1 h
  by_cases ha : a = 0
  · exact far_mul h3 (by omega) (by omega) (by omega) (by omega) (fun hb => hab ⟨ha, hb⟩)
  · exact far_mul h2 (by omega) (by omega) (by omega) (by omega) ha
theorem rayN_ex (s a b : Int) (hab : ¬ (a = 0 ∧ b = 0)) : ∃ n, n ≤ 7 ∧ RayN s a b n := by
  have h7 : ∀ m, (∀ i, i < m → sq (rq s a b i) = true) → (∃ n, n ≤ 7 ∧ RayN s a b n) ∨ sq (rq s a b m) = true := by
    intro m hm
    cases h : sq (rq s a b m)
    · left
      refine ⟨m, ?_, hm, h⟩
      cases m with
      | zero => omega
      | succ m => have := rq_few hab (hm m (by omega)); omega
    · exact .inr rfl
  have hall : ∀ m, (∃ n, n ≤ 7 ∧ RayN s a b n) ∨ ∀ i, i < m → sq (rq s a b i) = true := by
    intro m
    induction m with
    | zero => exact .inr fun i hi => by omega
    | succ m ih =>
      rcases ih with h | h
      · exact .inl h
      · rcases h7 m h with h2 | h2
        · exact .inl h2
        · exact .inr fun i hi => by
            rcases Nat.lt_or_ge i m with h3 | h3
            · exact h i h3
            · obtain rfl : i = m := by omega
              exact h2
  rcases hall 8 with h | h
  · exact h
  · exact absurd (rq_few hab (h 7 (by omega))) (by omega)
theorem infoInt : (Tryz.prog.info? 3).map (fun i => (i.zero, i.size, i.bytes)) = some (some (.int .i64 0), 1, 8) := by kernel_rfl
/-- the row of the first n -/
def rqC (s a b : Int) (n : Nat) : List Value := (List.range n).map fun i => .int .i64 (rq s a b i)
theorem rqC_succ (s a b : Int) (n : Nat) : rqC s a b n ++ [.int .i64 (rq s a b n)] = rqC s a b (n + 1) := by
  unfold rqC; rw [List.range_succ, List.map_append]; rfl

theorem infoI : ∃ i, Tryz.prog.info? 3 = some i ∧ i.size = 1 := by
  have h := infoInt
  cases hi : Tryz.prog.info? 3 with
  | none => rw [hi] at h; cases h
  | some i => rw [hi] at h; exact ⟨i, rfl, by simpa using congrArg (fun x => x.map fun y => y.2.1) h⟩
theorem equal_step (T : TypeId) (hu : Tryz.prog.underlying T = some (.array 2 3)) (x y x' y' : Int) (d : Nat) (w : World) : (Op.equalIn (d + 2) T (.agg #[.int .i64 x, .int .i64 y]) (.agg #[.int .i64 x', .int .i64 y'])).run Tryz.prog w = .ok (x == x' && y == y') w := by
  obtain ⟨i, hi, hs⟩ := infoI
  rw [Op.equalIn]
  simp only [Sem.run_bind, run_underlying hu, Result.andThen_ok, sizeOf, typeInfo, hi, hs, Std.Legacy.Range.forIn_eq_forIn_range', Std.Legacy.Range.size, Nat.sub_zero, Nat.add_sub_cancel, Nat.div_one]
  simp only [Sem.run_pure, Sem.run_bind, Result.andThen_ok, run_program, hi, hs]
  have px : ∀ u v : Int, (Go.part 3 #[.int .i64 u, .int .i64 v] (0 * 1)).run Tryz.prog w = .ok (.int .i64 u) w := fun u v => by
    simp [Go.part, isAgg, run_underlying Tryz.underlying3]
  have py : ∀ u v : Int, (Go.part 3 #[.int .i64 u, .int .i64 v] (1 * 1)).run Tryz.prog w = .ok (.int .i64 v) w := fun u v => by
    simp [Go.part, isAgg, run_underlying Tryz.underlying3]
  have pe : ∀ u v : Int, (Op.equalIn (d + 1) 3 (.int .i64 u) (.int .i64 v)).run Tryz.prog w = .ok (u == v) w := fun u v => run_equalIn_int w d 3 .i64 .i64 _ _ Tryz.underlying3
  have hl : List.range' 0 2 1 = [0, 1] := rfl
  rw [hl]
  simp only [List.forIn_cons, Sem.run_bind, px, py, pe, Result.andThen_ok]
  cases h1 : x == x' <;> simp [px, py, pe]
  cases h2 : y == y' <;> simp
  all_goals simpa using h2
theorem eql_step (x y x' y' : Int) (w : World) : (binOp .eql 172 (.agg #[.int .i64 x, .int .i64 y]) (.agg #[.int .i64 x', .int .i64 y'])).run Tryz.prog w = .ok (.bool (x == x' && y == y')) w := by
  rw [run_eql_struct, equal_step 172 Tryz.underlying172 x y x' y' 9998 w]; rfl
theorem neq_pair (x y x' y' : Int) (w : World) : (binOp .neq 117 (.agg #[.int .i64 x, .int .i64 y]) (.agg #[.int .i64 x', .int .i64 y'])).run Tryz.prog w = .ok (.bool (!(x == x' && y == y'))) w := by
  rw [run_neq_struct, equal_step 117 Tryz.underlying117 x y x' y' 9998 w]; rfl
/-- how long a row is -/
def vlen : Value → Nat
  | .slice _ n _ => n
  | _ => 0
theorem owns_go {w w' : World} {base : Nat} {e : TypeId} {k : Nat} {v : Value} {n : Nat} {xs : List Value} (h : w.ownsRow base e k v n xs) (hb : Below w.heap.size w w') : w'.ownsRow base e k v n xs := by
  refine ⟨h.1, ?_⟩
  rcases h.2 with h0 | ⟨g, cap, cur, h1, h2, h3, h4⟩
  · exact .inl h0
  · exact .inr ⟨g, cap, cur, h1, h2, sl_go h3 hb, h4⟩
theorem owns_off {w : World} {base : Nat} {e t : TypeId} {k n H : Nat} {v : Value} {xs : List Value} {cs : Array Value} {fr : Nat × Nat} (h : w.ownsRow base e k v n xs) (hl : w.heap[H]? = some (.cells cs t fr)) (hne : e ≠ t) : v.ownBlock ≠ some H := by
  rcases h.2 with ⟨rfl, _⟩ | ⟨g, cap, cur, rfl, _, hc, _⟩
  · simp [Value.ownBlock]
  · intro hq
    have hg : g = H := by simpa [Value.ownBlock] using hq
    subst hg
    rw [hl] at hc
    simp only [Option.some.injEq, Obj.cells.injEq] at hc
    exact hne hc.2.1.symm
theorem sl_grown {w w' : World} {row : Option Nat} {H : Nat} {o : Obj} (h : w.heap[H]? = some o) (hg : w.grownBy w' row) (hne : row ≠ some H) : w'.heap[H]? = some o :=
  (hg.block H (Array.getElem?_eq_some_iff.1 h).1 (fun e => hne e.symm)).trans h
theorem put3_far {W : World} {H G : Nat} {o : Obj} (x y z : Value) (h : W.heap[G]? = some o) (hne : G ≠ H) :
    (((W.setCell ⟨H, 0, none⟩ x).setCell ⟨H, 1, none⟩ y).setCell ⟨H, 2, none⟩ z).heap[G]? = some o := by
  rw [Below.heap_setCell _ _ _ _ hne, Below.heap_setCell _ _ _ _ hne, Below.heap_setCell _ _ _ _ hne]; exact h
theorem own_len {w : World} {base : Nat} {e : TypeId} {k n : Nat} {v : Value} {xs : List Value} (h : w.ownsRow base e k v n xs) : vlen v = n := by
  rcases h.2 with ⟨rfl, h0⟩ | ⟨g, cap, cur, rfl, _⟩
  · exact h0.symm
  · rfl
theorem owns_put3 {W : World} {H : Nat} {base : Nat} {e t : TypeId} {k n : Nat} {v : Value} {xs : List Value} {cs : Array Value} {fr : Nat × Nat} (x y z : Value) (h : W.ownsRow base e k v n xs) (hl : W.heap[H]? = some (.cells cs t fr)) (hne : e ≠ t) :
    (((W.setCell ⟨H, 0, none⟩ x).setCell ⟨H, 1, none⟩ y).setCell ⟨H, 2, none⟩ z).ownsRow base e k v n xs := by
  have hoff := owns_off h hl hne
  refine ⟨h.1, ?_⟩
  rcases h.2 with h0 | ⟨g, cap, cur, rfl, h2, h3, h4⟩
  · exact .inl h0
  · exact .inr ⟨g, cap, cur, rfl, h2, put3_far x y z h3 (fun e => hoff (by rw [e]; rfl)), h4⟩
theorem row2' {W : World} {H : Nat} {a b : Value} {t : TypeId} (h : W.heap[H]? = some (.cells #[a, b] t (0, 0))) : W.cell? ⟨H, 0, none⟩ = some a ∧ W.cell? ⟨H, 1, none⟩ = some b := ⟨(row2 h).1, (row2 h).2.1⟩
theorem al_new {B : Nat} {w W : World} (_ : Below B w W) (o : Obj) : (W.alloc o).heap[W.heap.size]? = some o := sl_at rfl
theorem al_old {W : World} {H : Nat} {o : Obj} (h : W.heap[H]? = some o) (o' : Obj) : (W.alloc o').heap[H]? = some o := (heap_alloc_old W o' (Array.getElem?_eq_some_iff.1 h).1).trans h
theorem al_lt {W : World} {H : Nat} {o : Obj} (h : W.heap[H]? = some o) : H < W.heap.size := (Array.getElem?_eq_some_iff.1 h).1
set_option maxHeartbeats 1000000 in
theorem ray_none (s : Int) (w : World) :
    Calls Tryz.prog 183 #[.int .i64 s, .int .i64 0, .int .i64 0] w fun e w' => e = .returned (.slice none 0 0) ∧ Below w.heap.size w w' := by
  have he := eql_step 0 0 0 0
  go_enter Tryz.func183, Tryz.ntmps183
  go_wp2
  go_ret
  exact ⟨rfl, below_new _⟩
set_option maxHeartbeats 1000000 in
theorem ray_any (s a b : Int) (n : Nat) (w : World) (ha : I64 a) (hb : I64 b) (hab : ¬ (a = 0 ∧ b = 0)) (hn : RayN s a b n) (h7 : n ≤ 7) :
    Calls Tryz.prog 183 #[.int .i64 s, .int .i64 a, .int .i64 b] w fun e w' => ∃ v, e = .returned v ∧ Below w.heap.size w w' ∧ w'.ownsRow w.heap.size 3 1 v n (rqC s a b n) := by
  obtain ⟨i0, hi, hz0, hz1, hz2⟩ := info_parts infoInt
  have he : ∀ w : World, (binOp .eql 172 (.agg #[.int .i64 a, .int .i64 b]) (.agg #[.int .i64 0, .int .i64 0])).run Tryz.prog w = .ok (.bool false) w := fun w => by
    rw [eql_step]
    have : (a == 0 && b == 0) = false := by
      cases h1 : a == 0 <;> cases h2 : b == 0 <;> simp at h1 h2 ⊢
      exact hab ⟨h1, h2⟩
    rw [this]
  go_enter Tryz.func183, Tryz.ntmps183
  go_upto_region 5 with (fail)
  have HT := Lib.hid (show (w.alloc (.cells #[.int .i64 a, .int .i64 b] 172)).heap[w.heap.size]? = some (.cells #[.int .i64 a, .int .i64 b] 172 (0, 0)) from sl_at rfl)
  have HBel := Lib.hid (below_new (w := w) (.cells #[.int .i64 a, .int .i64 b] 172))
  generalize w.alloc (.cells #[.int .i64 a, .int .i64 b] 172) = V at HT HBel ⊢
  go_cut [9] from 16 to 19 (fun v wx => ∃ H, v = .pointer (some ⟨H, 0, none⟩) ∧ Below w.heap.size w wx ∧ wx.heap[w.heap.size]? = some (.cells #[.int .i64 a, .int .i64 b] 172 (0, 0)) ∧ wx.heap[H]? = some (.cells #[.int .i64 (sF (stp s a b)), .int .i64 (sR (stp s a b)), .int .i64 (sN (stp s a b))] 129 (0, 0)) ∧ w.heap.size < H)
  case first =>
    refine wp_region_noPanic ?_
    refine wp_region_start (n := 6) (l := #[false, false, false, false, false, false]) (S := (fun W => W.cell? ⟨w.heap.size, 0, none⟩ = some (.int .i64 a) ∧ W.cell? ⟨w.heap.size, 1, none⟩ = some (.int .i64 b))) (by kernel_rfl) rfl (by kernel_rfl) (by exact row2' HT.out) (fun hHeld => ?_)
    replace HT := Lib.hid (show V.drew.heap[w.heap.size]? = some (.cells #[.int .i64 a, .int .i64 b] 172 (0, 0)) from HT.out)
    replace HBel := Lib.hid HBel.out.drew
    generalize V.drew = V' at hHeld HT HBel ⊢
    refine take_to (i := 0) (d := some 16) (v := ?_) (l' := #[true, false, false, false, false, false]) rfl rfl (by kernel_rfl) (by kernel_rfl) (by kernel_rfl) (by kernel_rfl) (fun _ _ _ h => h) (Or.inl ⟨by rfl, ?_⟩) (by assumption) ?_; rotate_left; · (intro w' hSw; (try dsimp only at hSw); go_simp; (try with_reducible rfl))
    try simp only [Act.put, List.setIfInBounds_toArray, List.set_cons_zero, List.set_cons_succ]
    refine take_to (i := 2) (d := some 18) (v := ?_) (l' := #[true, false, true, false, false, false]) rfl rfl (by kernel_rfl) (by kernel_rfl) (by kernel_rfl) (by kernel_rfl) (fun _ _ _ h => h) (Or.inl ⟨by rfl, ?_⟩) (by assumption) ?_; rotate_left; · (intro w' hSw; (try dsimp only at hSw); go_simp; (try with_reducible rfl))
    try simp only [Act.put, List.setIfInBounds_toArray, List.set_cons_zero, List.set_cons_succ]
    refine two_to (i := 1) (j := 4) (l1 := #[true, true, true, false, false, false]) (l2 := #[true, false, true, false, true, false]) rfl rfl (by kernel_rfl) (by kernel_rfl) (by kernel_rfl) (fun K hK => ?_) (fun K hK => ?_)
    · skip
      go_simp
      refine (spotOf_any s _).mono ?_
      rintro e w1 ⟨rfl, hb1⟩
      replace HT := Lib.hid (sl_go HT.out hb1)
      try replace HL := Lib.hid (sl_go HL.out hb1)
      replace HBel := Lib.hid (HBel.out.trans (hb1.mono HBel.out.size))
      clear hb1
      dsimp only
      refine hK.out _ _ (by exact row2' HT.out) (fun hHeld => ?_)
      clear hK K
      try simp only [Act.put, List.setIfInBounds_toArray, List.set_cons_zero, List.set_cons_succ]
      refine two_to (i := 3) (j := 4) (l1 := #[true, true, true, true, false, false]) (l2 := #[true, true, true, false, true, false]) rfl rfl (by kernel_rfl) (by kernel_rfl) (by kernel_rfl) (fun K hK => ?_) (fun K hK => ?_)
      · skip
        go_simp
        refine (next_any s a b _ ha hb).mono ?_
        rintro e w2 ⟨rfl, hb1⟩
        replace HT := Lib.hid (sl_go HT.out hb1)
        try replace HL := Lib.hid (sl_go HL.out hb1)
        replace HBel := Lib.hid (HBel.out.trans (hb1.mono HBel.out.size))
        clear hb1
        dsimp only
        refine hK.out _ _ (by exact row2' HT.out) (fun hHeld => ?_)
        clear hK K
        try simp only [Act.put, List.setIfInBounds_toArray, List.set_cons_zero, List.set_cons_succ]
        refine one_to (i := 4) (l' := #[true, true, true, true, true, false]) rfl (by kernel_rfl) (by kernel_rfl) (fun K hK => ?_)
        go_simp
        have HL := Lib.hid (al_new HBel.out (.cells #[.int .i64 0, .int .i64 0, .int .i64 0] 129))
        have HLT := Lib.hid (al_lt HT.out)
        replace HT := Lib.hid (al_old HT.out (.cells #[.int .i64 0, .int .i64 0, .int .i64 0] 129))
        replace HBel := Lib.hid (HBel.out.alloc HBel.out.size (.cells #[.int .i64 0, .int .i64 0, .int .i64 0] 129))
        first
          | generalize w2.alloc (.cells #[.int .i64 0, .int .i64 0, .int .i64 0] 129) = WA at HT HL HBel ⊢
          | generalize w1.alloc (.cells #[.int .i64 0, .int .i64 0, .int .i64 0] 129) = WA at HT HL HBel ⊢
          | generalize V'.alloc (.cells #[.int .i64 0, .int .i64 0, .int .i64 0] 129) = WA at HT HL HBel ⊢
        refine hK.out _ _ (by exact row2' HT.out) (fun hHeld => ?_)
        clear hK K
        try simp only [Act.put, List.setIfInBounds_toArray, List.set_cons_zero, List.set_cons_succ]
        refine one_to (i := 5) (l' := #[true, true, true, true, true, true]) rfl (by kernel_rfl) (by kernel_rfl) (fun K hK => ?_)
        obtain ⟨c0, c1, c2, fr, hz1⟩ := row3 HL.out
        replace HT := Lib.hid (put3_far (.int .i64 (sF (stp s a b))) (.int .i64 (sR (stp s a b))) (.int .i64 (sN (stp s a b))) HT.out (Nat.ne_of_lt HLT.out))
        replace HBel := Lib.hid (below_put3 (.int .i64 (sF (stp s a b))) (.int .i64 (sR (stp s a b))) (.int .i64 (sN (stp s a b))) HBel.out (Nat.le_of_lt HLT.out))
        replace HL := Lib.hid (put3 (.int .i64 (sF (stp s a b))) (.int .i64 (sR (stp s a b))) (.int .i64 (sN (stp s a b))) HL.out)
        go_simp
        clear c0 c1 c2 fr hz1
        refine hK.out _ _ (by exact row2' HT.out) (fun hHeld => ?_)
        clear hK K
        try simp only [Act.put, List.setIfInBounds_toArray, List.set_cons_zero, List.set_cons_succ]
        refine wpAnyH_done (by kernel_rfl) ?_ _
        refine NoPanic.normal ?_
        clear hHeld
        go_wp2_with fail
        go_meet
        exact ⟨_, rfl, HBel.out, HT.out, HL.out, HLT.out⟩
      · skip
        go_simp
        have HL := Lib.hid (al_new HBel.out (.cells #[.int .i64 0, .int .i64 0, .int .i64 0] 129))
        have HLT := Lib.hid (al_lt HT.out)
        replace HT := Lib.hid (al_old HT.out (.cells #[.int .i64 0, .int .i64 0, .int .i64 0] 129))
        replace HBel := Lib.hid (HBel.out.alloc HBel.out.size (.cells #[.int .i64 0, .int .i64 0, .int .i64 0] 129))
        first
          | generalize w2.alloc (.cells #[.int .i64 0, .int .i64 0, .int .i64 0] 129) = WA at HT HL HBel ⊢
          | generalize w1.alloc (.cells #[.int .i64 0, .int .i64 0, .int .i64 0] 129) = WA at HT HL HBel ⊢
          | generalize V'.alloc (.cells #[.int .i64 0, .int .i64 0, .int .i64 0] 129) = WA at HT HL HBel ⊢
        refine hK.out _ _ (by exact row2' HT.out) (fun hHeld => ?_)
        clear hK K
        try simp only [Act.put, List.setIfInBounds_toArray, List.set_cons_zero, List.set_cons_succ]
        refine one_to (i := 3) (l' := #[true, true, true, true, true, false]) rfl (by kernel_rfl) (by kernel_rfl) (fun K hK => ?_)
        go_simp
        refine (next_any s a b _ ha hb).mono ?_
        rintro e w2 ⟨rfl, hb1⟩
        replace HT := Lib.hid (sl_go HT.out hb1)
        try replace HL := Lib.hid (sl_go HL.out hb1)
        replace HBel := Lib.hid (HBel.out.trans (hb1.mono HBel.out.size))
        clear hb1
        dsimp only
        refine hK.out _ _ (by exact row2' HT.out) (fun hHeld => ?_)
        clear hK K
        try simp only [Act.put, List.setIfInBounds_toArray, List.set_cons_zero, List.set_cons_succ]
        refine one_to (i := 5) (l' := #[true, true, true, true, true, true]) rfl (by kernel_rfl) (by kernel_rfl) (fun K hK => ?_)
        obtain ⟨c0, c1, c2, fr, hz1⟩ := row3 HL.out
        replace HT := Lib.hid (put3_far (.int .i64 (sF (stp s a b))) (.int .i64 (sR (stp s a b))) (.int .i64 (sN (stp s a b))) HT.out (Nat.ne_of_lt HLT.out))
        replace HBel := Lib.hid (below_put3 (.int .i64 (sF (stp s a b))) (.int .i64 (sR (stp s a b))) (.int .i64 (sN (stp s a b))) HBel.out (Nat.le_of_lt HLT.out))
        replace HL := Lib.hid (put3 (.int .i64 (sF (stp s a b))) (.int .i64 (sR (stp s a b))) (.int .i64 (sN (stp s a b))) HL.out)
        go_simp
        clear c0 c1 c2 fr hz1
        refine hK.out _ _ (by exact row2' HT.out) (fun hHeld => ?_)
        clear hK K
        try simp only [Act.put, List.setIfInBounds_toArray, List.set_cons_zero, List.set_cons_succ]
        refine wpAnyH_done (by kernel_rfl) ?_ _
        refine NoPanic.normal ?_
        clear hHeld
        go_wp2_with fail
        go_meet
        exact ⟨_, rfl, HBel.out, HT.out, HL.out, HLT.out⟩
    · skip
      go_simp
      have HL := Lib.hid (al_new HBel.out (.cells #[.int .i64 0, .int .i64 0, .int .i64 0] 129))
      have HLT := Lib.hid (al_lt HT.out)
      replace HT := Lib.hid (al_old HT.out (.cells #[.int .i64 0, .int .i64 0, .int .i64 0] 129))
      replace HBel := Lib.hid (HBel.out.alloc HBel.out.size (.cells #[.int .i64 0, .int .i64 0, .int .i64 0] 129))
      first
        | generalize w2.alloc (.cells #[.int .i64 0, .int .i64 0, .int .i64 0] 129) = WA at HT HL HBel ⊢
        | generalize w1.alloc (.cells #[.int .i64 0, .int .i64 0, .int .i64 0] 129) = WA at HT HL HBel ⊢
        | generalize V'.alloc (.cells #[.int .i64 0, .int .i64 0, .int .i64 0] 129) = WA at HT HL HBel ⊢
      refine hK.out _ _ (by exact row2' HT.out) (fun hHeld => ?_)
      clear hK K
      try simp only [Act.put, List.setIfInBounds_toArray, List.set_cons_zero, List.set_cons_succ]
      refine one_to (i := 1) (l' := #[true, true, true, false, true, false]) rfl (by kernel_rfl) (by kernel_rfl) (fun K hK => ?_)
      go_simp
      refine (spotOf_any s _).mono ?_
      rintro e w1 ⟨rfl, hb1⟩
      replace HT := Lib.hid (sl_go HT.out hb1)
      try replace HL := Lib.hid (sl_go HL.out hb1)
      replace HBel := Lib.hid (HBel.out.trans (hb1.mono HBel.out.size))
      clear hb1
      dsimp only
      refine hK.out _ _ (by exact row2' HT.out) (fun hHeld => ?_)
      clear hK K
      try simp only [Act.put, List.setIfInBounds_toArray, List.set_cons_zero, List.set_cons_succ]
      refine one_to (i := 3) (l' := #[true, true, true, true, true, false]) rfl (by kernel_rfl) (by kernel_rfl) (fun K hK => ?_)
      go_simp
      refine (next_any s a b _ ha hb).mono ?_
      rintro e w2 ⟨rfl, hb1⟩
      replace HT := Lib.hid (sl_go HT.out hb1)
      try replace HL := Lib.hid (sl_go HL.out hb1)
      replace HBel := Lib.hid (HBel.out.trans (hb1.mono HBel.out.size))
      clear hb1
      dsimp only
      refine hK.out _ _ (by exact row2' HT.out) (fun hHeld => ?_)
      clear hK K
      try simp only [Act.put, List.setIfInBounds_toArray, List.set_cons_zero, List.set_cons_succ]
      refine one_to (i := 5) (l' := #[true, true, true, true, true, true]) rfl (by kernel_rfl) (by kernel_rfl) (fun K hK => ?_)
      obtain ⟨c0, c1, c2, fr, hz1⟩ := row3 HL.out
      replace HT := Lib.hid (put3_far (.int .i64 (sF (stp s a b))) (.int .i64 (sR (stp s a b))) (.int .i64 (sN (stp s a b))) HT.out (Nat.ne_of_lt HLT.out))
      replace HBel := Lib.hid (below_put3 (.int .i64 (sF (stp s a b))) (.int .i64 (sR (stp s a b))) (.int .i64 (sN (stp s a b))) HBel.out (Nat.le_of_lt HLT.out))
      replace HL := Lib.hid (put3 (.int .i64 (sF (stp s a b))) (.int .i64 (sR (stp s a b))) (.int .i64 (sN (stp s a b))) HL.out)
      go_simp
      clear c0 c1 c2 fr hz1
      refine hK.out _ _ (by exact row2' HT.out) (fun hHeld => ?_)
      clear hK K
      try simp only [Act.put, List.setIfInBounds_toArray, List.set_cons_zero, List.set_cons_succ]
      refine wpAnyH_done (by kernel_rfl) ?_ _
      refine NoPanic.normal ?_
      clear hHeld
      go_wp2_with fail
      go_meet
      exact ⟨_, rfl, HBel.out, HT.out, HL.out, HLT.out⟩
  case rest =>
    obtain ⟨H, rfl, hB1, hT1, hL1, hlt1⟩ := hcut
    clear HT HBel
    go_wp2
    go_loopw [8, 9] (fun v p wr => ∃ k H : Nat, k ≤ n ∧ p = .pointer (some ⟨H, 0, none⟩) ∧ Below w.heap.size w wr ∧ wr.heap[w.heap.size]? = some (.cells #[.int .i64 a, .int .i64 b] 172 (0, 0)) ∧ wr.heap[H]? = some (.cells #[.int .i64 (sF (rq s a b k)), .int .i64 (sR (rq s a b k)), .int .i64 (sN (rq s a b k))] 129 (0, 0)) ∧ w.heap.size < H ∧ wr.ownsRow w.heap.size 3 1 v k (rqC s a b k)) (fun v _ _ => n - vlen v)
    case atStart => exact ⟨0, H, Nat.zero_le _, rfl, hB1, hT1, hL1, hlt1, World.ownsRow_nil _ _ _ _⟩
    case round =>
      obtain ⟨k, H, hk, rfl, hB1, hT1, hL1, hlt1, hown⟩ := hrel
      have hsn : sN (rq s a b k) = rq s a b k := by cases k with
        | zero => exact stp_sN a b
        | succ k => exact stp_sN a b
      by_cases hlt : k < n
      · have hsq := hn.1 k hlt
        have hrs := rqC_succ s a b k
        have hnx : stp (rq s a b k) a b = rq s a b (k + 1) := rfl
        obtain ⟨x, hx⟩ : ∃ x, rq s a b k = x := ⟨_, rfl⟩
        obtain ⟨y, hy⟩ : ∃ y, rq s a b (k + 1) = y := ⟨_, rfl⟩
        rw [hx] at hsq hrs hnx hsn hL1
        rw [hy] at hnx
        have HY := Lib.hid hy
        have HSQ := Lib.hid hsq
        have HRS := Lib.hid hrs
        have HNX := Lib.hid hnx
        clear hx hsq hrs hnx hy
        have HVL := Lib.hid (own_len hown)
        have HOW := Lib.hid hown
        have HB := Lib.hid hB1
        have HT := Lib.hid hT1
        have HL := Lib.hid hL1
        clear hown hB1 hT1
        obtain ⟨p0, p1, p2, pfr, pz⟩ := row3 hL1
        clear hL1
        go_wp2_with fail
        refine (onBsq_any x _).mono ?_
        rw [HSQ.out]
        rintro e w2 ⟨rfl, hb2⟩
        clear p0 p1 p2 pfr pz
        replace HB := Lib.hid (HB.out.trans (hb2.mono HB.out.size))
        replace HT := Lib.hid (sl_go HT.out hb2)
        replace HL := Lib.hid (sl_go HL.out hb2)
        replace HOW := Lib.hid (owns_go HOW.out hb2)
        clear hb2
        obtain ⟨p0, p1, p2, pfr, pz⟩ := row3 HL.out
        rw [hsn] at p2
        have hm1 : k + 1 ≤ maxLen := by unfold maxLen; omega
        go_wp2_with (at_builtin; refine wpList_append_lies _ rfl (.tmp 26) (.tmp 29) 47 rfl w.heap.size 3 i0 (.int .i64 0) 1 8 Tryz.underlying47 hi hz0 hz1 hz2 rfl (by decide) _ k (rqC s a b k) rfl (HOW.out.alloc _) ⟨w2.heap.size, 0, none⟩ 1 1 [.int .i64 x] rfl rfl (World.news_of_block (heap_alloc_new _ _)) ?c2 (by decide) hm1 (by omega) (by simp; have := HB.out.size; omega) (w2.heap.size + 1) (by simp) ?next)
        case c2 => intro y hy; simp at hy; subst hy; rfl
        case next =>
          intro g1 cap1 w3 hown1 hgrow1 hat1 hlt3
          rw [HRS.out] at hown1
          have hoff := owns_off HOW.out HL.out (by decide)
          have hofT := owns_off HOW.out HT.out (by decide)
          have hb3 : Below w.heap.size w w3 := (HB.out.alloc HB.out.size _).grown hgrow1 (by simp; have := HB.out.size; omega) (fun b e => (HOW.out.lt b e).1)
          have ht3 := sl_grown (al_old HT.out _) hgrow1 hofT
          have hl3 := sl_grown (al_old HL.out _) hgrow1 hoff
          have HOW3 := Lib.hid hown1
          have HB3 := Lib.hid hb3
          have HT3 := Lib.hid ht3
          clear HOW HB HT HL p0 p1 p2 pfr pz hgrow1 hown1 hat1 hb3
          obtain ⟨p0, p1, p2, pfr, pz⟩ := row3 hl3
          rw [hsn] at p2
          obtain ⟨t0, t1, tfr, tz⟩ := row2 ht3
          clear hl3 ht3
          have hc5 := next_any x a b (w3.alloc (.cells #[.int .i64 (sF x), .int .i64 (sR x), .int .i64 x] 129)) ha hb
          rw [hsn, HNX.out] at hc5
          have HC5 := Lib.hid hc5
          clear hc5
          go_wp2_with fail
          refine HC5.out.mono ?_
          rintro e w5 ⟨rfl, hb5⟩
          have hl5 := sl_go (sl_at (W := w3) (o := .cells #[.int .i64 (sF x), .int .i64 (sR x), .int .i64 x] 129) rfl) hb5
          have hz3 := al_lt HT3.out
          have HT5 := Lib.hid (put3_far (.int .i64 (sF y)) (.int .i64 (sR y)) (.int .i64 (sN y)) (sl_go (al_old HT3.out _) hb5) (Nat.ne_of_lt hz3))
          have HL5 := Lib.hid (put3 (.int .i64 (sF y)) (.int .i64 (sR y)) (.int .i64 (sN y)) hl5)
          have HB5 := Lib.hid (below_put3 (.int .i64 (sF y)) (.int .i64 (sR y)) (.int .i64 (sN y)) ((HB3.out.alloc HB3.out.size _).trans (hb5.mono (by simp; have := HB3.out.size; omega))) (Nat.le_of_lt hz3))
          have HO5 := Lib.hid (owns_put3 (.int .i64 (sF y)) (.int .i64 (sR y)) (.int .i64 (sN y)) (owns_go (HOW3.out.alloc _) hb5) hl5 (by decide))
          obtain ⟨c0, c1, c2, fr, hz5⟩ := row3 hl5
          clear hl5 hb5 p0 p1 p2 pfr pz t0 t1 tfr tz HOW3 HB3 HT3 HC5 HRS HNX
          go_wp2
          go_roundw
          case rel => exact ⟨k + 1, w3.heap.size, by omega, rfl, HB5.out, HT5.out, by rw [HY.out]; exact HL5.out, hz3, HO5.out⟩
          case measure => rw [HVL.out]; show n - (k + 1) < n - k; omega
      · obtain rfl : k = n := by omega
        have HSQ := Lib.hid hn.2
        obtain ⟨p0, p1, p2, pfr, pz⟩ := row3 hL1
        go_wp2_with fail
        refine (onBsq_any (rq s a b k) _).mono ?_
        rw [HSQ.out]
        rintro e w2 ⟨rfl, hb2⟩
        have HB := Lib.hid (hB1.trans (hb2.mono hB1.size))
        have HO := Lib.hid (owns_go hown hb2)
        clear p0 p1 p2 pfr pz hb2 hB1 hown hT1 hL1
        go_wp2
        go_ret
        exact ⟨_, rfl, HB.out, HO.out⟩
end Go.Proofs.YthinkiljhkanhaaGreatDoor

namespace Go.Proofs.YthinkiljhkanhaaGreatDoor
open Go.RowKit
set_option linter.unusedSimpArgs false
set_option linter.unusedVariables false

theorem i64_of {n : Int} (h0 : -1000000 ≤ n) (h1 : n ≤ 1000000) : I64 n := ⟨by omega, by omega⟩
theorem ex_row (i : Nat) (hi : i < 5) : (#[Value.int .i64 11, Value.int .i64 20, Value.int .i64 29, Value.int .i64 38, Value.int .i64 47] : Array Value)[i]? = some (.int .i64 (rq 2 1 1 i)) := by
  match i, hi with
  | 0, _ => rfl
  | 1, _ => rfl
  | 2, _ => rfl
  | 3, _ => rfl
  | 4, _ => rfl
theorem ex_ray : RayN 2 1 1 5 := ⟨by decide, by decide⟩
theorem name_back {x : Int} (h : sq x = true) : isN (nmV x) = true ∧ nN (nmV x) = x := by
  obtain ⟨h0, h1⟩ := (sq_iff x).1 h
  have e : nmV x = nm x := by unfold nmV; rw [if_pos h]
  have e0 : nb (nm x) 0 = 97 + x % 8 := ch_nat (n := 97 + x % 8) (by omega) (by omega)
  have e1 : nb (nm x) 1 = 49 + x / 8 := ch_nat (n := 49 + x / 8) (by omega) (by omega)
  have hi : isN (nmV x) = true := by
    rw [e]; unfold isN; rw [e0, e1]
    rw [show decide ((nm x).size = 2) = true from rfl, Bool.true_and]
    exact (onB_iff _ _).2 (by omega)
  refine ⟨hi, ?_⟩
  unfold nN
  rw [if_pos hi, e, e0, e1]
  omega
theorem at_back {x : Int} (h : sq x = true) : sAt (sF x) (sR x) = x := by
  obtain ⟨h0, h1⟩ := (sq_iff x).1 h
  unfold sF sR sAt
  rw [if_pos h, if_pos h, if_pos ((onB_iff _ _).2 (by omega))]
  omega
theorem stp_or (x f r : Int) : stp x f r = -1 ∨ sq (stp x f r) = true := by
  cases h : sq (stp x f r)
  · left
    unfold stp at h ⊢
    split
    · rename_i hc
      rw [if_pos hc] at h
      rw [Bool.and_eq_true] at hc
      obtain ⟨s0, s1⟩ := (sq_iff _).1 hc.1
      obtain ⟨u0, u1, u2, u3⟩ := (onB_iff _ _).1 hc.2
      rw [(sq_iff _).2 (by omega)] at h; cases h
    · rfl
  · exact .inr rfl
theorem step_back {x f r : Int} (h : sq (stp x f r) = true) : stp (stp x f r) (-f) (-r) = x := by
  obtain ⟨h1, h2, h3⟩ := stp_sq h
  obtain ⟨s0, s1⟩ := (sq_iff x).1 h1
  exact stp_hit h s0 s1 (by omega) (by omega)
theorem step_dark {x f r : Int} (h : sq (stp x f r) = true) : dark (stp x f r) = (dark x == decide ((f + r + 14) % 2 = 0)) := by
  obtain ⟨h1, h2, h3⟩ := stp_sq h
  unfold dark
  rw [h, h1, h2, h3]
  by_cases p : (x % 8 + x / 8) % 2 = 0 <;> by_cases q : (f + r + 14) % 2 = 0
  all_goals simp only [p, q, decide_true, decide_false, Bool.true_and, Bool.false_and, decide_eq_true_eq]
  all_goals simp
  all_goals omega
theorem step_two {x f r k : Int} (h : sq (stp x f r) = true) (h2 : sq (stp (stp x f r) k 0) = true) : stp x (f + k) r = stp (stp x f r) k 0 := by
  obtain ⟨a1, a2, a3⟩ := stp_sq h
  obtain ⟨b1, b2, b3⟩ := stp_sq h2
  obtain ⟨t0, t1⟩ := (sq_iff _).1 h2
  exact stp_hit a1 t0 t1 (by omega) (by omega)
end Go.Proofs.YthinkiljhkanhaaGreatDoor

namespace Go.Proofs.YthinkiljhkanhaaGreatDoor
open Go.RowKit
set_option linter.unusedSimpArgs false
set_option linter.unusedVariables false

/-- a string is a square's name just if it is some square's name -/
theorem isN_some {S : ByteArray} (h : isN S = true) : sq (nN S) = true ∧ nmV (nN S) = S := by
  unfold isN at h
  rw [Bool.and_eq_true, decide_eq_true_eq] at h
  obtain ⟨hz, hb⟩ := h
  obtain ⟨u0, u1, u2, u3⟩ := (onB_iff _ _).1 hb
  have hn : nN S = 8 * (nb S 1 - 49) + (nb S 0 - 97) := by
    unfold nN isN; rw [if_pos (by rw [Bool.and_eq_true, decide_eq_true_eq]; exact ⟨hz, hb⟩)]
  have hsq : sq (nN S) = true := (sq_iff _).2 (by omega)
  refine ⟨hsq, ?_⟩
  unfold nmV
  rw [if_pos hsq]
  unfold nm
  rw [show 97 + nN S % 8 = nb S 0 by omega, show 49 + nN S / 8 = nb S 1 by omega]
  clear hn hsq u0 u1 u2 u3 hb
  obtain ⟨⟨l⟩⟩ := S
  match l, hz with
  | [x, y], _ =>
    have e0 : ch (nb ⟨⟨[x, y]⟩⟩ 0) = x := by unfold ch nb; simp
    have e1 : ch (nb ⟨⟨[x, y]⟩⟩ 1) = y := by unfold ch nb; simp
    rw [e0, e1]
theorem isN_hit {S : ByteArray} {t : Int} (ht : sq t = true) (h : nmV t = S) : isN S = true ∧ nN S = t := by
  subst h; exact name_back ht
theorem isN_miss {S : ByteArray} (h : ∀ t : Nat, t < 64 → ¬ nmV (t : Int) = S) : isN S = false ∧ nN S = 0 := by
  have hf : isN S = false := by
    cases hi : isN S
    · rfl
    · obtain ⟨h1, h2⟩ := isN_some hi
      obtain ⟨t0, t1⟩ := (sq_iff _).1 h1
      exact absurd (by rw [show (((nN S).toNat : Nat) : Int) = nN S by omega]; exact h2) (h (nN S).toNat (by omega))
  exact ⟨hf, by unfold nN; rw [hf]; rfl⟩
theorem rq_neg {s a b : Int} {n : Nat} (h : sq (rq s a b n) = false) : rq s a b n = -1 := by
  cases n with
  | zero => rcases stp_or s a b with h3 | h3
            · exact h3
            · rw [show rq s a b 0 = stp s a b from rfl, h3] at h; cases h
  | succ n => rcases stp_or (rq s a b n) a b with h3 | h3
              · exact h3
              · rw [show rq s a b (n + 1) = stp (rq s a b n) a b from rfl, h3] at h; cases h
end Go.Proofs.YthinkiljhkanhaaGreatDoor

namespace Go.Proofs.YthinkiljhkanhaaGreatDoor
open Go.RowKit
set_option linter.unusedSimpArgs false
set_option linter.unusedVariables false

/-- a row of steps: each a file's and a rank's -/
def Reads2 (B : Nat) (w : World) (p : Option Addr) (n : Nat) (f g : Nat → Int) : Prop :=
  n = 0 ∨ ∃ b off, p = some ⟨b, off, none⟩ ∧ b < B ∧ ∀ i, i < n → w.cell? ⟨b, off + i * 2, none⟩ = some (.int .i64 (f i)) ∧ w.cell? ⟨b, off + i * 2 + 1, none⟩ = some (.int .i64 (g i))
theorem Reads2.below {B : Nat} {w w' : World} {p : Option Addr} {n : Nat} {f g : Nat → Int} (h : Reads2 B w p n f g) (hb : Below B w w') : Reads2 B w' p n f g := by
  rcases h with h | ⟨b, off, h1, h2, h3⟩
  · exact .inl h
  · exact .inr ⟨b, off, h1, h2, fun i hi => ⟨(hb.cell (p := ⟨b, off + i * 2, none⟩) h2).trans (h3 i hi).1, (hb.cell (p := ⟨b, off + i * 2 + 1, none⟩) h2).trans (h3 i hi).2⟩⟩
theorem Reads2.mono {B B' : Nat} {w : World} {p : Option Addr} {n : Nat} {f g : Nat → Int} (h : Reads2 B w p n f g) (hB : B ≤ B') : Reads2 B' w p n f g := by
  rcases h with h | ⟨b, off, h1, h2, h3⟩
  · exact .inl h
  · exact .inr ⟨b, off, h1, Nat.lt_of_lt_of_le h2 hB, h3⟩
/-- the squares at the first steps -/
def rg (s : Int) (f g : Nat → Int) : Nat → List Int
  | 0 => []
  | k + 1 => rg s f g k ++ if sq (stp s (f k) (g k)) then [stp s (f k) (g k)] else []
theorem rg_len (s : Int) (f g : Nat → Int) (k : Nat) : (rg s f g k).length ≤ k := by
  induction k with
  | zero => exact Nat.le_refl _
  | succ k ih =>
    simp only [rg, List.length_append]
    split <;> simp <;> omega
def ivals (l : List Int) : List Value := l.map fun x => .int .i64 x
theorem ivals_range (l : List Int) : ivals l = (List.range l.length).map fun i => .int .i64 (l.getD i 0) := by
  apply List.ext_getElem?
  intro i
  unfold ivals
  by_cases h : i < l.length
  · simp [h, List.getElem?_eq_getElem h]
  · rw [List.getElem?_eq_none (by simp; omega), List.getElem?_eq_none (by simp; omega)]
theorem ivals_snoc (l : List Int) (x : Int) : ivals l ++ [.int .i64 x] = ivals (l ++ [x]) := by unfold ivals; rw [List.map_append]; rfl

end Go.Proofs.YthinkiljhkanhaaGreatDoor

namespace Go.Proofs.YthinkiljhkanhaaGreatDoor
open Go.RowKit
set_option linter.unusedSimpArgs false
set_option linter.unusedVariables false

theorem forget_B {P : Program} {c : Code} {Q : Exit → Act → World → Prop} {a : Act} {W : World} (S : World → Prop) (hS : S W) (h : ∀ W, S W → c.wp P Q a W) : c.wp P Q a W := h W hS
theorem forgetL_B {P : Program} {ops : Array Oper} {Q : Exit → Act → World → Prop} {rest : List Oper} {a : Act} {w : World} (S : World → Prop) (h : S w) (H : ∀ W, S W → wpList P ops Q rest a W) : wpList P ops Q rest a w := H w h
/-- the squares below n on which a piece stands -/
def fnd (P : Nat → Int) (k d : Int) : Nat → List Int
  | 0 => []
  | n + 1 => fnd P k d n ++ if pe (P (2 * n)) (P (2 * n + 1)) k d then [(n : Int)] else []
theorem fnd_len (P : Nat → Int) (k d : Int) (n : Nat) : (fnd P k d n).length ≤ n := by
  induction n with
  | zero => exact Nat.le_refl _
  | succ n ih => simp only [fnd, List.length_append]; split <;> simp <;> omega
theorem fnd_mem (P : Nat → Int) (k d : Int) (n : Nat) (x : Int) : x ∈ fnd P k d n ↔ ∃ j : Nat, j < n ∧ x = j ∧ P (2 * j) = k ∧ P (2 * j + 1) = d := by
  induction n with
  | zero => simp [fnd]
  | succ n ih =>
    simp only [fnd, List.mem_append, ih]
    constructor
    · rintro (⟨j, h1, h2⟩ | h)
      · exact ⟨j, by omega, h2⟩
      · split at h
        · rename_i hp
          simp at h
          exact ⟨n, by omega, h, (pe_iff _ _ _ _).1 hp⟩
        · cases h
    · rintro ⟨j, h1, h2, h3⟩
      rcases (show j < n ∨ j = n by omega) with h | rfl
      · exact .inl ⟨j, h, h2, h3⟩
      · right; rw [if_pos ((pe_iff _ _ _ _).2 h3)]; simp [h2]
theorem PB.gr {w w' : World} {b : Nat} {P : Nat → Int} {row : Option Nat} (h : PB w b P) (g : w.grownBy w' row) (hne : some b ≠ row) : PB w' b P :=
  ⟨Nat.lt_of_lt_of_le h.lt g.size, fun i hi => by rw [World.cell?_of_block (a := ⟨b, i, none⟩) (g.block b h.lt hne)]; exact h.cell i hi, fun i => by rw [World.frozen?_of_block (a := ⟨b, i, none⟩) (g.block b h.lt hne)]; exact h.fr i⟩
theorem owns_base {w : World} {B B' : Nat} {e : TypeId} {z : Nat} {v : Value} {n : Nat} {xs : List Value} (h : w.ownsRow B e z v n xs) (hB : B' ≤ B) : w.ownsRow B' e z v n xs := by
  refine ⟨h.1, ?_⟩
  rcases h.2 with h2 | ⟨g, cap, cur, h1, h2, h3⟩
  · exact .inl h2
  · exact .inr ⟨g, cap, cur, h1, Nat.le_trans hB h2, h3⟩
/-- what a function that has a position and a piece begins with -/
theorem two_boxes (P : Nat → Int) (k d : Int) (w : World) (X : Array Value) (hX : X = (pc P).toArray) (t u : TypeId) :
    PB ((w.alloc (.cells X t)).alloc (.cells #[.int .i64 k, .int .i64 d] u)) w.heap.size P ∧ ((w.alloc (.cells X t)).alloc (.cells #[.int .i64 k, .int .i64 d] u)).heap[w.heap.size + 1]? = some (.cells #[.int .i64 k, .int .i64 d] u (0, 0)) ∧
    Below w.heap.size w ((w.alloc (.cells X t)).alloc (.cells #[.int .i64 k, .int .i64 d] u)) ∧ ((w.alloc (.cells X t)).alloc (.cells #[.int .i64 k, .int .i64 d] u)).heap.size = w.heap.size + 2 := by
  subst hX
  exact ⟨(PB.new rfl).alloc _, sl_at (by simp), (below_new _).alloc (by simp) _, by simp⟩

set_option maxHeartbeats 2000000 in
set_option maxRecDepth 100000 in
theorem rFind_any (P : Nat → Int) (k d : Int) (w : World) :
    Calls Tryz.prog 84 #[.agg (pc P).toArray, .agg #[.int .i64 k, .int .i64 d]] w fun e w' => ∃ v, e = .returned v ∧ Below w.heap.size w w' ∧ w'.ownsRow w.heap.size 3 1 v (fnd P k d 64).length (ivals (fnd P k d 64)) := by
  obtain ⟨i0, hi, hz0, hz1, hz2⟩ := info_parts infoInt
  obtain ⟨X, hX⟩ : ∃ X, X = (pc P).toArray := ⟨_, rfl⟩
  have HX := Lib.hid (two_boxes P k d w X hX 29 25)
  rw [← hX]
  clear hX
  go_enter Tryz.func84, Tryz.ntmps84
  go_upto_region 2 with (fail)
  refine forget_B (fun W => PB W w.heap.size P ∧ W.heap[w.heap.size + 1]? = some (.cells #[.int .i64 k, .int .i64 d] 25 (0, 0)) ∧ Below w.heap.size w W ∧ W.heap.size = w.heap.size + 2) HX.out ?_
  clear HX
  rintro W ⟨hp, hq, hbw, hz⟩
  have HP := Lib.hid hp
  have HQ := Lib.hid hq
  have HB := Lib.hid hbw
  have HZ := Lib.hid hz
  clear hp hq hbw hz
  go_wp2
  go_loopw [5, 6] (fun v i wr => ∃ j : Nat, j ≤ 64 ∧ i = .int .i64 (j : Int) ∧ Below W.heap.size W wr ∧ wr.ownsRow W.heap.size 3 1 v (fnd P k d j).length (ivals (fnd P k d j))) (fun _ i _ => 64 - (intOf i).toNat)
  case atStart => exact ⟨0, Nat.zero_le _, rfl, Below.refl _ _, World.ownsRow_nil _ _ _ _⟩
  case round =>
    obtain ⟨j, hj, rfl, hb, hown⟩ := hrel
    by_cases hlt : j < 64
    · have hp := HP.out.go hb
      have e1 := hp.cell (j * 2) (by omega)
      have e2 := hp.cell (j * 2 + 1) (by omega)
      obtain ⟨q1, q2, qf, qz⟩ := row2 (sl_go HQ.out hb)
      obtain ⟨b, hpe⟩ : ∃ b, pe (P (2 * j)) (P (2 * j + 1)) k d = b := ⟨_, rfl⟩
      rw [Nat.mul_comm 2 j] at hpe
      have HOW := Lib.hid hown
      have HB1 := Lib.hid hb
      clear hown hb hp
      have hfl := fnd_len P k d j
      have hsx : fnd P k d (j + 1) = fnd P k d j ++ if b then [(j : Int)] else [] := by rw [← hpe, Nat.mul_comm j 2]; rfl
      obtain ⟨L, hL⟩ : ∃ L, fnd P k d j = L := ⟨_, rfl⟩
      rw [hL] at HOW hfl hsx
      have HS := Lib.hid hsx
      clear hL hsx
      cases b
      · have HS2 := Lib.hid (show fnd P k d (j + 1) = L by rw [HS.out]; simp)
        go_wp2
        go_region
        go_wp2
        go_roundw
        case rel => exact ⟨j + 1, by omega, by go_num, HB1.out.drew, by rw [HS2.out]; exact owns_go HOW.out (Below.refl _ _).drew⟩
        case measure => simp [intOf]; omega
      · have HS2 := Lib.hid (show fnd P k d (j + 1) = L ++ [(j : Int)] by rw [HS.out]; simp)
        have hm1 : L.length + 1 ≤ maxLen := by unfold maxLen; omega
        have HOD := Lib.hid (owns_go HOW.out (Below.refl _ _).drew)
        have HBD := Lib.hid HB1.out.drew
        clear HOW HB1
        go_wp2
        go_region
        go_wp2_with (at_builtin; refine wpList_append_lies _ rfl (.tmp 17) (.tmp 19) 47 rfl W.heap.size 3 i0 (.int .i64 0) 1 8 Tryz.underlying47 hi hz0 hz1 hz2 rfl (by decide) _ L.length (ivals L) rfl (owns_go HOD.out ((Below.refl _ _).alloc (Nat.le_refl _) _)) ⟨wr.heap.size, 0, none⟩ 1 1 [.int .i64 (j : Int)] rfl rfl (World.news_of_block (heap_alloc_new _ _)) ?c2 (by decide) hm1 (by omega) (by have h : W.heap.size ≤ wr.heap.size := HBD.out.size; simp; omega) (wr.heap.size + 1) (by simp) ?next)
        case c2 => intro y hy; simp at hy; subst hy; rfl
        case next =>
          intro g1 cap1 w4 hown1 hgrow1 hat1 hlt3
          rw [ivals_snoc] at hown1
          have HB4 := Lib.hid ((HBD.out.alloc HBD.out.size _).grown hgrow1 (by have h : W.heap.size ≤ wr.heap.size := HBD.out.size; simp; omega) (fun b e => (HOD.out.lt b e).1))
          have HO4 := Lib.hid hown1
          clear hgrow1 hown1 hat1 HBD HOD
          go_wp2
          go_roundw
          case rel => exact ⟨j + 1, by omega, by go_num, HB4.out, by rw [HS2.out, show (L ++ [(j : Int)]).length = L.length + 1 by simp]; exact HO4.out⟩
          case measure => simp [intOf]; omega
    · obtain rfl : j = 64 := by omega
      have HO := Lib.hid hown
      have HBK := Lib.hid hb
      clear hown hb
      go_wp2
      go_ret
      exact ⟨_, rfl, HB.out.trans (HBK.out.mono (by have := HZ.out; omega)), owns_base HO.out (by have := HZ.out; omega)⟩
end Go.Proofs.YthinkiljhkanhaaGreatDoor

namespace Go.Proofs.YthinkiljhkanhaaGreatDoor
open Go.RowKit
set_option linter.unusedSimpArgs false
set_option linter.unusedVariables false

def sideB (d : Int) : Bool := d == 0 || d == 1
def mayB (k d : Int) : Bool := decide (1 ≤ k) && decide (k ≤ 6) && sideB d
def oth (d : Int) : Int := if d = 0 then 1 else 0
def casB (c : Int) : Bool := decide (0 ≤ c) && decide (c ≤ 15)
def tCas (c : Int) : Int := if casB c then c % 4 * 4 + c / 4 else c
def tSq (s : Int) : Int := if sq s then 8 * (7 - s / 8) + s % 8 else s
/-- a piece, turned: its side -/
def tSide (k d : Int) : Int := if mayB k d then oth d else d
theorem side_cases (d : Int) : (d = 0 ∧ sideB d = true) ∨ (d = 1 ∧ sideB d = true) ∨ ((d == 0) = false ∧ (d == 1) = false ∧ sideB d = false) := by
  by_cases h : d = 0
  · subst h; exact .inl ⟨rfl, rfl⟩
  · by_cases h1 : d = 1
    · subst h1; exact .inr (.inl ⟨rfl, rfl⟩)
    · exact .inr (.inr ⟨by simp [h], by simp [h1], by simp [sideB, h, h1]⟩)
theorem may_cases (k d : Int) : (k < 1 ∧ mayB k d = false) ∨ (6 < k ∧ mayB k d = false) ∨ (1 ≤ k ∧ k ≤ 6 ∧ mayB k d = sideB d) := by
  unfold mayB
  by_cases h1 : 1 ≤ k <;> by_cases h2 : k ≤ 6 <;> simp [h1, h2] <;> omega
theorem cas_cases (c : Int) : (c < 0 ∧ casB c = false) ∨ (15 < c ∧ casB c = false) ∨ (0 ≤ c ∧ c ≤ 15 ∧ casB c = true) := by
  unfold casB
  by_cases h1 : 0 ≤ c <;> by_cases h2 : c ≤ 15 <;> simp [h1, h2] <;> omega
theorem none_any (k d : Int) (w : World) :
    Calls Tryz.prog 143 #[.agg #[.int .i64 k, .int .i64 d]] w fun e w' => e = .returned (.bool (pe k d 0 0)) ∧ Below w.heap.size w w' := by
  go_enter Tryz.func143, Tryz.ntmps143
  go_wp2
  go_ret
  exact ⟨rfl, below_new _⟩
theorem rNone_any (k d : Int) (w : World) :
    Calls Tryz.prog 120 #[.agg #[.int .i64 k, .int .i64 d]] w fun e w' => e = .returned (.bool (pe k d 0 0)) ∧ Below w.heap.size w w' := by
  go_enter Tryz.func120, Tryz.ntmps120
  go_wp2
  go_ret
  exact ⟨rfl, below_new _⟩
theorem isSide_any (d : Int) (w : World) :
    Calls Tryz.prog 145 #[.int .i64 d] w fun e w' => e = .returned (.bool (sideB d)) ∧ w = w' := by
  rcases side_cases d with ⟨rfl, hb⟩ | ⟨rfl, hb⟩ | ⟨h0, h1, hb⟩
  all_goals rw [hb]
  all_goals clear hb
  all_goals
    go_enter Tryz.func145, Tryz.ntmps145
    go_wp2
    go_ret
    exact ⟨rfl, rfl⟩
set_option maxHeartbeats 1000000 in
theorem mayBe_any (k d : Int) (w : World) :
    Calls Tryz.prog 110 #[.agg #[.int .i64 k, .int .i64 d]] w fun e w' => e = .returned (.bool (mayB k d)) ∧ Below w.heap.size w w' := by
  rcases may_cases k d with ⟨h1, hb⟩ | ⟨h1, hb⟩ | ⟨h1, h2, hb⟩
  · rw [hb]
    clear hb
    go_enter Tryz.func110, Tryz.ntmps110
    go_wp2
    go_ret
    exact ⟨q_b (by first | rfl | (simp; omega)), below_new _⟩
  · rw [hb]
    clear hb
    go_enter Tryz.func110, Tryz.ntmps110
    go_wp2
    go_ret
    exact ⟨q_b (by first | rfl | (simp; omega)), below_new _⟩
  · rw [hb]
    clear hb
    obtain ⟨b, hbb⟩ : ∃ b, sideB d = b := ⟨_, rfl⟩
    rw [hbb]
    have HBB := Lib.hid hbb
    clear hbb
    go_enter Tryz.func110, Tryz.ntmps110
    go_wp2_with fail
    refine (isSide_any d _).mono ?_
    rw [HBB.out]
    rintro e w1 ⟨rfl, rfl⟩
    go_wp2
    go_ret
    exact ⟨rfl, below_new _⟩
set_option maxHeartbeats 1000000 in
theorem rMay_any (k d : Int) (w : World) :
    Calls Tryz.prog 118 #[.agg #[.int .i64 k, .int .i64 d]] w fun e w' => e = .returned (.bool (mayB k d)) ∧ Below w.heap.size w w' := by
  rcases may_cases k d with ⟨h1, hb⟩ | ⟨h1, hb⟩ | ⟨h1, h2, hb⟩
  · rw [hb]
    clear hb
    go_enter Tryz.func118, Tryz.ntmps118
    go_wp2
    go_ret
    exact ⟨q_b (by first | rfl | (simp; omega)), below_new _⟩
  · rw [hb]
    clear hb
    go_enter Tryz.func118, Tryz.ntmps118
    go_wp2
    go_ret
    exact ⟨q_b (by first | rfl | (simp; omega)), below_new _⟩
  · rw [hb]
    clear hb
    rcases side_cases d with ⟨rfl, hb⟩ | ⟨rfl, hb⟩ | ⟨h3, h4, hb⟩
    all_goals rw [hb]
    all_goals clear hb
    all_goals
      go_enter Tryz.func118, Tryz.ntmps118
      go_wp2
      go_ret
      exact ⟨q_b (by first | rfl | (simp; done) | (simp; omega)), below_new _⟩
theorem other_any (d : Int) (w : World) :
    Calls Tryz.prog 30 #[.int .i64 d] w fun e w' => e = .returned (.int .i64 (oth d)) ∧ w = w' := by
  unfold oth
  by_cases h : d = 0
  · subst h
    rw [if_pos rfl]
    go_enter Tryz.func30, Tryz.ntmps30
    go_wp2
    go_ret
    exact ⟨rfl, rfl⟩
  · rw [if_neg h]
    have h0 : (d == 0) = false := by simp [h]
    clear h
    go_enter Tryz.func30, Tryz.ntmps30
    go_wp2
    go_ret
    exact ⟨rfl, rfl⟩
theorem rOther_any (d : Int) (w : World) :
    Calls Tryz.prog 49 #[.int .i64 d] w fun e w' => e = .returned (.int .i64 (oth d)) ∧ w = w' := by
  unfold oth
  by_cases h : d = 0
  · subst h
    rw [if_pos rfl]
    go_enter Tryz.func49, Tryz.ntmps49
    go_wp2
    go_ret
    exact ⟨rfl, rfl⟩
  · rw [if_neg h]
    have h0 : (d == 0) = false := by simp [h]
    clear h
    go_enter Tryz.func49, Tryz.ntmps49
    go_wp2
    go_ret
    exact ⟨rfl, rfl⟩
theorem isCastle_any (c : Int) (w : World) :
    Calls Tryz.prog 114 #[.int .i64 c] w fun e w' => e = .returned (.bool (casB c)) ∧ w = w' := by
  rcases cas_cases c with ⟨h1, hb⟩ | ⟨h1, hb⟩ | ⟨h1, h2, hb⟩
  all_goals rw [hb]
  all_goals clear hb
  all_goals
    go_enter Tryz.func114, Tryz.ntmps114
    go_wp2
    go_ret
    exact ⟨q_b (by first | rfl | (simp; omega)), rfl⟩
theorem tm4 {s : Int} (h : 0 ≤ s) : s.tmod 4 = s % 4 := Int.tmod_eq_emod_of_nonneg h
theorem td4 {s : Int} (h : 0 ≤ s) : s.tdiv 4 = s / 4 := Int.tdiv_eq_ediv_of_nonneg h
theorem turnCastle_any (c : Int) (w : World) :
    Calls Tryz.prog 64 #[.int .i64 c] w fun e w' => e = .returned (.int .i64 (tCas c)) ∧ w = w' := by
  unfold tCas
  cases hc : casB c
  · simp only [Bool.false_eq_true, if_false]
    have HC := Lib.hid hc
    clear hc
    go_enter Tryz.func64, Tryz.ntmps64
    go_wp2_with fail
    refine (isCastle_any c _).mono ?_
    rw [HC.out]
    rintro e w1 ⟨rfl, rfl⟩
    go_wp2
    go_ret
    exact ⟨rfl, rfl⟩
  · simp only [if_true]
    have HC := Lib.hid hc
    have h0 : 0 ≤ c ∧ c ≤ 15 := by unfold casB at hc; simpa using hc
    obtain ⟨h0, h1⟩ := h0
    have h2 := tm4 h0
    have h3 := td4 h0
    clear hc
    go_enter Tryz.func64, Tryz.ntmps64
    go_wp2_with fail
    refine (isCastle_any c _).mono ?_
    rw [HC.out]
    rintro e w1 ⟨rfl, rfl⟩
    go_wp2
    go_ret
    exact ⟨rfl, rfl⟩
theorem onEnd_any (s : Int) (w : World) :
    Calls Tryz.prog 144 #[.int .i64 s] w fun e w' => e = .returned (.bool (sR s == 0 || sR s == 7)) ∧ Below w.heap.size w w' := by
  obtain ⟨r, hr⟩ : ∃ r, sR s = r := ⟨_, rfl⟩
  have HR := Lib.hid hr
  rw [hr]
  clear hr
  by_cases h0 : r = 0
  · subst h0
    go_enter Tryz.func144, Tryz.ntmps144
    go_wp2_with fail
    refine (rank_any s _).mono ?_
    rw [HR.out]
    rintro e w1 ⟨rfl, hb1⟩
    have HB := Lib.hid hb1
    clear hb1
    go_wp2
    go_ret
    exact ⟨rfl, HB.out⟩
  · have h1 : (r == 0) = false := by simp [h0]
    have h2 : (r == 0 || r == 7) = (r == 7) := by rw [h1]; rfl
    rw [h2]
    clear h0 h2
    go_enter Tryz.func144, Tryz.ntmps144
    go_wp2_with fail
    refine (rank_any s _).mono ?_
    rw [HR.out]
    rintro e w1 ⟨rfl, hb1⟩
    have HB := Lib.hid hb1
    clear hb1
    go_wp2
    go_ret
    exact ⟨rfl, HB.out⟩
theorem turnSquare_any (s : Int) (w : World) :
    Calls Tryz.prog 63 #[.int .i64 s] w fun e w' => e = .returned (.int .i64 (tSq s)) ∧ Below w.heap.size w w' := by
  unfold tSq
  cases hs : sq s
  · simp only [Bool.false_eq_true, if_false]
    have HS := Lib.hid hs
    clear hs
    go_enter Tryz.func63, Tryz.ntmps63
    go_wp2_with fail
    refine (is_any s _).mono ?_
    rw [HS.out]
    rintro e w1 ⟨rfl, hb1⟩
    go_wp2
    go_ret
    exact ⟨rfl, hb1⟩
  · obtain ⟨h0, h1⟩ := (sq_iff s).1 hs
    simp only [if_true]
    have hF : sF s = s % 8 := by unfold sF; rw [if_pos hs]
    have hR : sR s = s / 8 := by unfold sR; rw [if_pos hs]
    have hA : sAt (s % 8) (7 - s / 8) = 8 * (7 - s / 8) + s % 8 := by
      unfold sAt
      rw [if_pos ((onB_iff _ _).2 (by omega))]
    have h2 : 0 ≤ s / 8 ∧ s / 8 ≤ 7 := by omega
    obtain ⟨r, hr⟩ : ∃ r, s / 8 = r := ⟨_, rfl⟩
    obtain ⟨f, hf⟩ : ∃ f, s % 8 = f := ⟨_, rfl⟩
    rw [hr] at hR hA h2 ⊢
    rw [hf] at hF hA ⊢
    obtain ⟨h3, h4⟩ := h2
    have HS := Lib.hid hs
    have HF := Lib.hid hF
    have HR := Lib.hid hR
    have HA := Lib.hid hA
    clear hs hF hR hA hr hf
    go_enter Tryz.func63, Tryz.ntmps63
    go_wp2_with fail
    refine (is_any s _).mono ?_
    rw [HS.out]
    rintro e w1 ⟨rfl, hb1⟩
    go_wp2_with fail
    refine (file_any s _).mono ?_
    rw [HF.out]
    rintro e w2 ⟨rfl, hb2⟩
    go_wp2_with fail
    refine (rank_any s _).mono ?_
    rw [HR.out]
    rintro e w3 ⟨rfl, hb3⟩
    go_wp2_with fail
    refine (at_any f (7 - r) _).mono ?_
    rw [HA.out]
    rintro e w4 ⟨rfl, hb4⟩
    go_wp2
    go_ret
    exact ⟨rfl, ((hb1.trans (hb2.mono hb1.size)).trans (hb3.mono (Nat.le_trans hb1.size hb2.size))).trans (hb4.mono (Nat.le_trans hb1.size (Nat.le_trans hb2.size hb3.size)))⟩
end Go.Proofs.YthinkiljhkanhaaGreatDoor

namespace Go.Proofs.YthinkiljhkanhaaGreatDoor
open Go.RowKit
set_option linter.unusedSimpArgs false
set_option linter.unusedVariables false

set_option maxHeartbeats 2000000 in
set_option maxRecDepth 100000 in
theorem find_any (P : Nat → Int) (k d : Int) (w : World) :
    Calls Tryz.prog 33 #[.agg (pc P).toArray, .agg #[.int .i64 k, .int .i64 d]] w fun e w' => ∃ v, e = .returned v ∧ Below w.heap.size w w' ∧ w'.ownsRow w.heap.size 3 1 v (fnd P k d 64).length (ivals (fnd P k d 64)) := by
  obtain ⟨i0, hi, hz0, hz1, hz2⟩ := info_parts infoInt
  obtain ⟨X, hX⟩ : ∃ X, X = (pc P).toArray := ⟨_, rfl⟩
  have HX := Lib.hid (two_boxes P k d w X hX 29 25)
  rw [← hX]
  clear hX
  go_enter Tryz.func33, Tryz.ntmps33
  go_upto_region 2 with (fail)
  refine forget_B (fun W => PB W w.heap.size P ∧ W.heap[w.heap.size + 1]? = some (.cells #[.int .i64 k, .int .i64 d] 25 (0, 0)) ∧ Below w.heap.size w W ∧ W.heap.size = w.heap.size + 2) HX.out ?_
  clear HX
  rintro W ⟨hp, hq, hbw, hz⟩
  have HP := Lib.hid hp
  have HQ := Lib.hid hq
  have HB := Lib.hid hbw
  have HZ := Lib.hid hz
  clear hp hq hbw hz
  have hix : ∀ (j : Nat) (hj : j < 64) (W : World), (Instr.index 26 (.agg (nums P 0 128).toArray) (.int .i64 (j : Int))).run Tryz.prog W = .ok (.agg #[.int .i64 (P (j * 2)), .int .i64 (P (j * 2 + 1))]) W := fun j hj W => by
    rw [Nat.mul_comm]; exact index_sqs P j hj W
  refine wp_region_lit ?_
  refine wpList_plain rfl (fun K hK => ?_)
  go_simp
  refine hK _ _ ?_
  clear hK K
  refine wpList_load_mid rfl 26 _ rfl w.heap.size 0 rfl (nums P 0 128) _ HP.out.squares Tryz.underlying26 rfl (by rw [infoSqs, nums_len]) ?_
  generalize (nums P 0 128).toArray = Y at hix ⊢
  have HIX := Lib.hid hix
  clear hix
  go_wp2
  go_loopw [5, 10] (fun v i wr => ∃ j : Nat, j ≤ 64 ∧ i = .int .i64 (j : Int) ∧ Below W.heap.size W wr ∧ wr.ownsRow W.heap.size 3 1 v (fnd P k d j).length (ivals (fnd P k d j))) (fun _ i _ => 64 - (intOf i).toNat)
  case atStart => exact ⟨0, Nat.zero_le _, rfl, Below.refl _ _, World.ownsRow_nil _ _ _ _⟩
  case round =>
    obtain ⟨j, hj, rfl, hb, hown⟩ := hrel
    by_cases hlt : j < 64
    · have hix := HIX.out j hlt
      obtain ⟨q1, q2, qf, qz⟩ := row2 (sl_go HQ.out hb)
      obtain ⟨b, hpe⟩ : ∃ b, pe (P (2 * j)) (P (2 * j + 1)) k d = b := ⟨_, rfl⟩
      rw [Nat.mul_comm 2 j] at hpe
      have HOW := Lib.hid hown
      have HB1 := Lib.hid hb
      clear hown hb
      have hfl := fnd_len P k d j
      have hsx : fnd P k d (j + 1) = fnd P k d j ++ if b then [(j : Int)] else [] := by rw [← hpe, Nat.mul_comm j 2]; rfl
      obtain ⟨L, hL⟩ : ∃ L, fnd P k d j = L := ⟨_, rfl⟩
      rw [hL] at HOW hfl hsx
      have HS := Lib.hid hsx
      clear hL hsx
      have hal := fun (o : Obj) => HB1.out.alloc HB1.out.size o
      have hoal := fun (o : Obj) => owns_go HOW.out ((Below.refl _ _).alloc (Nat.le_refl _) o)
      have HAL := Lib.hid hal
      have HOA := Lib.hid hoal
      clear hal hoal HB1 HOW
      cases b
      · have HS2 := Lib.hid (show fnd P k d (j + 1) = L by rw [HS.out]; simp)
        go_wp2
        go_roundw
        case rel => exact ⟨j + 1, by omega, by go_num, HAL.out _, by rw [HS2.out]; exact HOA.out _⟩
        case measure => simp [intOf]; omega
      · have HS2 := Lib.hid (show fnd P k d (j + 1) = L ++ [(j : Int)] by rw [HS.out]; simp)
        have hm1 : L.length + 1 ≤ maxLen := by unfold maxLen; omega
        go_upto_region 6 with (fail)
        refine forget_B (fun W' => Below W.heap.size W W' ∧ W'.ownsRow W.heap.size 3 1 u5 L.length (ivals L)) ⟨HAL.out _, HOA.out _⟩ ?_
        clear HAL HOA q1 q2 qf qz hix hpe
        rintro wr ⟨hbd, hod⟩
        have HBD := Lib.hid hbd
        have HOD := Lib.hid hod
        clear hbd hod
        go_wp2_with (at_builtin; refine wpList_append_lies _ rfl (.tmp 17) (.tmp 19) 47 rfl W.heap.size 3 i0 (.int .i64 0) 1 8 Tryz.underlying47 hi hz0 hz1 hz2 rfl (by decide) _ L.length (ivals L) rfl (owns_go HOD.out ((Below.refl _ _).alloc (Nat.le_refl _) _)) ⟨wr.heap.size, 0, none⟩ 1 1 [.int .i64 (j : Int)] rfl rfl (World.news_of_block (heap_alloc_new _ _)) ?c2 (by decide) hm1 (by omega) (by have h : W.heap.size ≤ wr.heap.size := HBD.out.size; simp; omega) (wr.heap.size + 1) (by simp) ?next)
        case c2 => first | rfl | (intro y hy; simp at hy; subst hy; rfl)
        case next =>
          intro g1 cap1 w4 hown1 hgrow1 hat1 hlt3
          rw [ivals_snoc] at hown1
          have HB4 := Lib.hid ((HBD.out.alloc HBD.out.size _).grown hgrow1 (by have h : W.heap.size ≤ wr.heap.size := HBD.out.size; simp; omega) (fun b e => (HOD.out.lt b e).1))
          have HO4 := Lib.hid hown1
          clear hgrow1 hown1 hat1 HBD HOD
          go_wp2
          go_roundw
          case rel => exact ⟨j + 1, by omega, by go_num, HB4.out, by rw [HS2.out, show (L ++ [(j : Int)]).length = L.length + 1 by simp]; exact HO4.out⟩
          case measure => simp [intOf]; omega
    · obtain rfl : j = 64 := by omega
      have HO := Lib.hid hown
      have HBK := Lib.hid hb
      clear hown hb
      go_wp2
      go_ret
      exact ⟨_, rfl, HB.out.trans (HBK.out.mono (by have := HZ.out; omega)), owns_base HO.out (by have := HZ.out; omega)⟩
/-- the square of a side's king -/
def kingN (P : Nat → Int) (d : Int) : Int := (fnd P 6 d 64).headD (-1)
theorem kingN_eq (P : Nat → Int) (d : Int) : kingN P d = (fnd P 6 d 64).headD (-1) := by unfold kingN; rfl
theorem fnd_headD (P : Nat → Int) (k d : Int) (j : Nat) (h : fnd P k d j = []) (hp : pe (P (2 * j)) (P (2 * j + 1)) k d = true) (n : Nat) (hn : j < n) : (fnd P k d n).headD (-1) = j := by
  obtain ⟨m, rfl⟩ : ∃ m, n = j + 1 + m := ⟨n - (j + 1), by omega⟩
  clear hn
  have : ∃ r, fnd P k d (j + 1 + m) = (j : Int) :: r := by
    induction m with
    | zero => exact ⟨[], by show fnd P k d j ++ _ = _; rw [h, if_pos hp]; rfl⟩
    | succ m ih =>
      obtain ⟨r, hr⟩ := ih
      exact ⟨_, by show fnd P k d (j + 1 + m) ++ _ = _; rw [hr, List.cons_append]⟩
  obtain ⟨r, hr⟩ := this
  rw [hr]; rfl
end Go.Proofs.YthinkiljhkanhaaGreatDoor
