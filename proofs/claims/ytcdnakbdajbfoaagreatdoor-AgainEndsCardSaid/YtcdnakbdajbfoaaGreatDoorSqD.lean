/-
  Contracts: the squares on a way.
-/
import Derived.Test.YtcdnakbdajbfoaaGreatDoorG2
namespace Go.Proofs.YtcdnakbdajbfoaaGreatDoor
open Go.RowKit
set_option linter.unusedSimpArgs false
set_option linter.unusedVariables false
set_option maxRecDepth 20000

def rq (s a b : Int) : Nat → Int
  | 0 => stp s a b
  | i + 1 => stp (rq s a b i) a b
def RayN (s a b : Int) (n : Nat) : Prop := (∀ i, i < n → sq (rq s a b i) = true) ∧ sq (rq s a b n) = false
theorem infoInt : (Tryz.prog.info? 3).map (fun i => (i.zero, i.size, i.bytes)) = some (some (.int .i64 0), 1, 8) := by kernel_rfl
def rqC (s a b : Int) (n : Nat) : List Value := (List.range n).map fun i => .int .i64 (rq s a b i)
theorem rqC_succ (s a b : Int) (n : Nat) : rqC s a b n ++ [.int .i64 (rq s a b n)] = rqC s a b (n + 1) := by
  unfold rqC; rw [List.range_succ, List.map_append]; rfl

theorem infoI : ∃ i, Tryz.prog.info? 3 = some i ∧ i.size = 1 := by
  have h := infoInt
  cases hi : Tryz.prog.info? 3 with
  | none => rw [hi] at h; cases h
  | some i => rw [hi] at h; exact ⟨i, rfl, by simpa using congrArg (fun x => x.map fun y => y.2.1) h⟩
theorem equal_step (T : TypeId) (hu : Tryz.prog.underlying T = some (.array 2 3)) (x y x' y' : Int) (d : Nat) (w : World) : (Op.equalIn (d + 2) T (.agg #[.int .i64 x, .int .i64 y]) (.agg #[.int .i64 x', .int .i64 y'])).run Tryz.prog w = .ok (x == x' && y == y') w := by
  obtain ⟨i, hi, hs⟩ := infoI
  rw [Op.equalIn]
  simp only [Sem.run_bind, run_underlying hu, Result.andThen_ok, sizeOf, typeInfo, hi, hs, Std.Legacy.Range.forIn_eq_forIn_range', Std.Legacy.Range.size, Nat.sub_zero, Nat.add_sub_cancel, Nat.div_one]
  simp only [Sem.run_pure, Sem.run_bind, Result.andThen_ok, run_program, hi, hs]
  have px : ∀ u v : Int, (Go.part 3 #[.int .i64 u, .int .i64 v] (0 * 1)).run Tryz.prog w = .ok (.int .i64 u) w := fun u v => by
    simp [Go.part, isAgg, run_underlying Tryz.underlying3]
  have py : ∀ u v : Int, (Go.part 3 #[.int .i64 u, .int .i64 v] (1 * 1)).run Tryz.prog w = .ok (.int .i64 v) w := fun u v => by
    simp [Go.part, isAgg, run_underlying Tryz.underlying3]
  have pe : ∀ u v : Int, (Op.equalIn (d + 1) 3 (.int .i64 u) (.int .i64 v)).run Tryz.prog w = .ok (u == v) w := fun u v => run_equalIn_int w d 3 .i64 .i64 _ _ Tryz.underlying3
  have hl : List.range' 0 2 1 = [0, 1] := rfl
  rw [hl]
  simp only [List.forIn_cons, Sem.run_bind, px, py, pe, Result.andThen_ok]
  cases h1 : x == x' <;> simp [px, py, pe]
  cases h2 : y == y' <;> simp
  all_goals simpa using h2
theorem eql_step (x y x' y' : Int) (w : World) : (binOp .eql 168 (.agg #[.int .i64 x, .int .i64 y]) (.agg #[.int .i64 x', .int .i64 y'])).run Tryz.prog w = .ok (.bool (x == x' && y == y')) w := by
  rw [run_eql_struct, equal_step 168 Tryz.underlying168 x y x' y' 9998 w]; rfl
def vlen : Value → Nat
  | .slice _ n _ => n
  | _ => 0
theorem owns_go {w w' : World} {base : Nat} {e : TypeId} {k : Nat} {v : Value} {n : Nat} {xs : List Value} (h : w.ownsRow base e k v n xs) (hb : Below w.heap.size w w') : w'.ownsRow base e k v n xs := by
  refine ⟨h.1, ?_⟩
  rcases h.2 with h0 | ⟨g, cap, cur, h1, h2, h3, h4⟩
  · exact .inl h0
  · exact .inr ⟨g, cap, cur, h1, h2, sl_go h3 hb, h4⟩
theorem owns_off {w : World} {base : Nat} {e t : TypeId} {k n H : Nat} {v : Value} {xs : List Value} {cs : Array Value} {fr : Nat × Nat} (h : w.ownsRow base e k v n xs) (hl : w.heap[H]? = some (.cells cs t fr)) (hne : e ≠ t) : v.ownBlock ≠ some H := by
  rcases h.2 with ⟨rfl, _⟩ | ⟨g, cap, cur, rfl, _, hc, _⟩
  · simp [Value.ownBlock]
  · intro hq
    have hg : g = H := by simpa [Value.ownBlock] using hq
    subst hg
    rw [hl] at hc
    simp only [Option.some.injEq, Obj.cells.injEq] at hc
    exact hne hc.2.1.symm
theorem sl_grown {w w' : World} {row : Option Nat} {H : Nat} {o : Obj} (h : w.heap[H]? = some o) (hg : w.grownBy w' row) (hne : row ≠ some H) : w'.heap[H]? = some o :=
  (hg.block H (Array.getElem?_eq_some_iff.1 h).1 (fun e => hne e.symm)).trans h
theorem put3_far {W : World} {H G : Nat} {o : Obj} (x y z : Value) (h : W.heap[G]? = some o) (hne : G ≠ H) :
    (((W.setCell ⟨H, 0, none⟩ x).setCell ⟨H, 1, none⟩ y).setCell ⟨H, 2, none⟩ z).heap[G]? = some o := by
  rw [Below.heap_setCell _ _ _ _ hne, Below.heap_setCell _ _ _ _ hne, Below.heap_setCell _ _ _ _ hne]; exact h
theorem own_len {w : World} {base : Nat} {e : TypeId} {k n : Nat} {v : Value} {xs : List Value} (h : w.ownsRow base e k v n xs) : vlen v = n := by
  rcases h.2 with ⟨rfl, h0⟩ | ⟨g, cap, cur, rfl, _⟩
  · exact h0.symm
  · rfl
theorem owns_put3 {W : World} {H : Nat} {base : Nat} {e t : TypeId} {k n : Nat} {v : Value} {xs : List Value} {cs : Array Value} {fr : Nat × Nat} (x y z : Value) (h : W.ownsRow base e k v n xs) (hl : W.heap[H]? = some (.cells cs t fr)) (hne : e ≠ t) :
    (((W.setCell ⟨H, 0, none⟩ x).setCell ⟨H, 1, none⟩ y).setCell ⟨H, 2, none⟩ z).ownsRow base e k v n xs := by
  have hoff := owns_off h hl hne
  refine ⟨h.1, ?_⟩
  rcases h.2 with h0 | ⟨g, cap, cur, rfl, h2, h3, h4⟩
  · exact .inl h0
  · exact .inr ⟨g, cap, cur, rfl, h2, put3_far x y z h3 (fun e => hoff (by rw [e]; rfl)), h4⟩
theorem row2' {W : World} {H : Nat} {a b : Value} {t : TypeId} (h : W.heap[H]? = some (.cells #[a, b] t (0, 0))) : W.cell? ⟨H, 0, none⟩ = some a ∧ W.cell? ⟨H, 1, none⟩ = some b := ⟨(row2 h).1, (row2 h).2.1⟩
theorem al_new {B : Nat} {w W : World} (_ : Below B w W) (o : Obj) : (W.alloc o).heap[W.heap.size]? = some o := sl_at rfl
theorem al_old {W : World} {H : Nat} {o : Obj} (h : W.heap[H]? = some o) (o' : Obj) : (W.alloc o').heap[H]? = some o := (heap_alloc_old W o' (Array.getElem?_eq_some_iff.1 h).1).trans h
theorem al_lt {W : World} {H : Nat} {o : Obj} (h : W.heap[H]? = some o) : H < W.heap.size := (Array.getElem?_eq_some_iff.1 h).1
set_option maxHeartbeats 1000000 in
theorem ray_any (s a b : Int) (n : Nat) (w : World) (ha : I64 a) (hb : I64 b) (hab : ¬ (a = 0 ∧ b = 0)) (hn : RayN s a b n) (h7 : n ≤ 7) :
    Calls Tryz.prog 197 #[.int .i64 s, .int .i64 a, .int .i64 b] w fun e w' => ∃ v, e = .returned v ∧ Below w.heap.size w w' ∧ w'.ownsRow w.heap.size 3 1 v n (rqC s a b n) := by
  obtain ⟨i0, hi, hz0, hz1, hz2⟩ := info_parts infoInt
  have he : ∀ w : World, (binOp .eql 168 (.agg #[.int .i64 a, .int .i64 b]) (.agg #[.int .i64 0, .int .i64 0])).run Tryz.prog w = .ok (.bool false) w := fun w => by
    rw [eql_step]
    have : (a == 0 && b == 0) = false := by
      cases h1 : a == 0 <;> cases h2 : b == 0 <;> simp at h1 h2 ⊢
      exact hab ⟨h1, h2⟩
    rw [this]
  go_enter Tryz.func197, Tryz.ntmps197
  go_upto_region 5 with (fail)
  have HT := Lib.hid (show (w.alloc (.cells #[.int .i64 a, .int .i64 b] 168)).heap[w.heap.size]? = some (.cells #[.int .i64 a, .int .i64 b] 168 (0, 0)) from sl_at rfl)
  have HBel := Lib.hid (below_new (w := w) (.cells #[.int .i64 a, .int .i64 b] 168))
  generalize w.alloc (.cells #[.int .i64 a, .int .i64 b] 168) = V at HT HBel ⊢
  go_cut [9] from 16 to 19 (fun v wx => ∃ H, v = .pointer (some ⟨H, 0, none⟩) ∧ Below w.heap.size w wx ∧ wx.heap[w.heap.size]? = some (.cells #[.int .i64 a, .int .i64 b] 168 (0, 0)) ∧ wx.heap[H]? = some (.cells #[.int .i64 (sF (stp s a b)), .int .i64 (sR (stp s a b)), .int .i64 (sN (stp s a b))] 125 (0, 0)) ∧ w.heap.size < H)
  case first =>
    refine wp_region_noPanic ?_
    refine wp_region_start (n := 6) (l := #[false, false, false, false, false, false]) (S := (fun W => W.cell? ⟨w.heap.size, 0, none⟩ = some (.int .i64 a) ∧ W.cell? ⟨w.heap.size, 1, none⟩ = some (.int .i64 b))) (by kernel_rfl) rfl (by kernel_rfl) (by exact row2' HT.out) (fun hHeld => ?_)
    replace HT := Lib.hid (show V.drew.heap[w.heap.size]? = some (.cells #[.int .i64 a, .int .i64 b] 168 (0, 0)) from HT.out)
    replace HBel := Lib.hid HBel.out.drew
    generalize V.drew = V' at hHeld HT HBel ⊢
    refine tq (i := 0) (d := some 16) rfl rfl ?_
    try simp only [aP, sA, sZ, sS]
    refine tq (i := 2) (d := some 18) rfl rfl ?_
    try simp only [aP, sA, sZ, sS]
    refine wg (i := 1) (j := 4) rfl rfl (by kernel_rfl) (fun K hK => ?_) (fun K hK => ?_)
    · skip
      go_simp
      refine (spotOf_any s _).mono ?_
      rintro e w1 ⟨rfl, hb1⟩
      replace HT := Lib.hid (sl_go HT.out hb1)
      try replace HL := Lib.hid (sl_go HL.out hb1)
      replace HBel := Lib.hid (HBel.out.trans (hb1.mono HBel.out.size))
      clear hb1
      dsimp only
      refine hK.out _ _ (by exact row2' HT.out) (fun hHeld => ?_)
      clear hK K
      try simp only [aP, sA, sZ, sS]
      refine wg (i := 3) (j := 4) rfl rfl (by kernel_rfl) (fun K hK => ?_) (fun K hK => ?_)
      · skip
        go_simp
        refine (next_any s a b _ ha hb).mono ?_
        rintro e w2 ⟨rfl, hb1⟩
        replace HT := Lib.hid (sl_go HT.out hb1)
        try replace HL := Lib.hid (sl_go HL.out hb1)
        replace HBel := Lib.hid (HBel.out.trans (hb1.mono HBel.out.size))
        clear hb1
        dsimp only
        refine hK.out _ _ (by exact row2' HT.out) (fun hHeld => ?_)
        clear hK K
        try simp only [aP, sA, sZ, sS]
        refine og (i := 4) rfl (by kernel_rfl) (fun K hK => ?_)
        go_simp
        have HL := Lib.hid (al_new HBel.out (.cells #[.int .i64 0, .int .i64 0, .int .i64 0] 125))
        have HLT := Lib.hid (al_lt HT.out)
        replace HT := Lib.hid (al_old HT.out (.cells #[.int .i64 0, .int .i64 0, .int .i64 0] 125))
        replace HBel := Lib.hid (HBel.out.alloc HBel.out.size (.cells #[.int .i64 0, .int .i64 0, .int .i64 0] 125))
        first
          | generalize w2.alloc (.cells #[.int .i64 0, .int .i64 0, .int .i64 0] 125) = WA at HT HL HBel ⊢
          | generalize w1.alloc (.cells #[.int .i64 0, .int .i64 0, .int .i64 0] 125) = WA at HT HL HBel ⊢
          | generalize V'.alloc (.cells #[.int .i64 0, .int .i64 0, .int .i64 0] 125) = WA at HT HL HBel ⊢
        refine hK.out _ _ (by exact row2' HT.out) (fun hHeld => ?_)
        clear hK K
        try simp only [aP, sA, sZ, sS]
        refine og (i := 5) rfl (by kernel_rfl) (fun K hK => ?_)
        obtain ⟨c0, c1, c2, fr, hz1⟩ := row3 HL.out
        replace HT := Lib.hid (put3_far (.int .i64 (sF (stp s a b))) (.int .i64 (sR (stp s a b))) (.int .i64 (sN (stp s a b))) HT.out (Nat.ne_of_lt HLT.out))
        replace HBel := Lib.hid (below_put3 (.int .i64 (sF (stp s a b))) (.int .i64 (sR (stp s a b))) (.int .i64 (sN (stp s a b))) HBel.out (Nat.le_of_lt HLT.out))
        replace HL := Lib.hid (put3 (.int .i64 (sF (stp s a b))) (.int .i64 (sR (stp s a b))) (.int .i64 (sN (stp s a b))) HL.out)
        go_simp
        clear c0 c1 c2 fr hz1
        refine hK.out _ _ (by exact row2' HT.out) (fun hHeld => ?_)
        clear hK K
        try simp only [aP, sA, sZ, sS]
        refine wpAnyH_done (by kernel_rfl) ?_ _
        refine NoPanic.normal ?_
        clear hHeld
        go_wp2_with fail
        go_meet
        exact ⟨_, rfl, HBel.out, HT.out, HL.out, HLT.out⟩
      · skip
        go_simp
        have HL := Lib.hid (al_new HBel.out (.cells #[.int .i64 0, .int .i64 0, .int .i64 0] 125))
        have HLT := Lib.hid (al_lt HT.out)
        replace HT := Lib.hid (al_old HT.out (.cells #[.int .i64 0, .int .i64 0, .int .i64 0] 125))
        replace HBel := Lib.hid (HBel.out.alloc HBel.out.size (.cells #[.int .i64 0, .int .i64 0, .int .i64 0] 125))
        first
          | generalize w2.alloc (.cells #[.int .i64 0, .int .i64 0, .int .i64 0] 125) = WA at HT HL HBel ⊢
          | generalize w1.alloc (.cells #[.int .i64 0, .int .i64 0, .int .i64 0] 125) = WA at HT HL HBel ⊢
          | generalize V'.alloc (.cells #[.int .i64 0, .int .i64 0, .int .i64 0] 125) = WA at HT HL HBel ⊢
        refine hK.out _ _ (by exact row2' HT.out) (fun hHeld => ?_)
        clear hK K
        try simp only [aP, sA, sZ, sS]
        refine og (i := 3) rfl (by kernel_rfl) (fun K hK => ?_)
        go_simp
        refine (next_any s a b _ ha hb).mono ?_
        rintro e w2 ⟨rfl, hb1⟩
        replace HT := Lib.hid (sl_go HT.out hb1)
        try replace HL := Lib.hid (sl_go HL.out hb1)
        replace HBel := Lib.hid (HBel.out.trans (hb1.mono HBel.out.size))
        clear hb1
        dsimp only
        refine hK.out _ _ (by exact row2' HT.out) (fun hHeld => ?_)
        clear hK K
        try simp only [aP, sA, sZ, sS]
        refine og (i := 5) rfl (by kernel_rfl) (fun K hK => ?_)
        obtain ⟨c0, c1, c2, fr, hz1⟩ := row3 HL.out
        replace HT := Lib.hid (put3_far (.int .i64 (sF (stp s a b))) (.int .i64 (sR (stp s a b))) (.int .i64 (sN (stp s a b))) HT.out (Nat.ne_of_lt HLT.out))
        replace HBel := Lib.hid (below_put3 (.int .i64 (sF (stp s a b))) (.int .i64 (sR (stp s a b))) (.int .i64 (sN (stp s a b))) HBel.out (Nat.le_of_lt HLT.out))
        replace HL := Lib.hid (put3 (.int .i64 (sF (stp s a b))) (.int .i64 (sR (stp s a b))) (.int .i64 (sN (stp s a b))) HL.out)
        go_simp
        clear c0 c1 c2 fr hz1
        refine hK.out _ _ (by exact row2' HT.out) (fun hHeld => ?_)
        clear hK K
        try simp only [aP, sA, sZ, sS]
        refine wpAnyH_done (by kernel_rfl) ?_ _
        refine NoPanic.normal ?_
        clear hHeld
        go_wp2_with fail
        go_meet
        exact ⟨_, rfl, HBel.out, HT.out, HL.out, HLT.out⟩
    · skip
      go_simp
      have HL := Lib.hid (al_new HBel.out (.cells #[.int .i64 0, .int .i64 0, .int .i64 0] 125))
      have HLT := Lib.hid (al_lt HT.out)
      replace HT := Lib.hid (al_old HT.out (.cells #[.int .i64 0, .int .i64 0, .int .i64 0] 125))
      replace HBel := Lib.hid (HBel.out.alloc HBel.out.size (.cells #[.int .i64 0, .int .i64 0, .int .i64 0] 125))
      first
        | generalize w2.alloc (.cells #[.int .i64 0, .int .i64 0, .int .i64 0] 125) = WA at HT HL HBel ⊢
        | generalize w1.alloc (.cells #[.int .i64 0, .int .i64 0, .int .i64 0] 125) = WA at HT HL HBel ⊢
        | generalize V'.alloc (.cells #[.int .i64 0, .int .i64 0, .int .i64 0] 125) = WA at HT HL HBel ⊢
      refine hK.out _ _ (by exact row2' HT.out) (fun hHeld => ?_)
      clear hK K
      try simp only [aP, sA, sZ, sS]
      refine og (i := 1) rfl (by kernel_rfl) (fun K hK => ?_)
      go_simp
      refine (spotOf_any s _).mono ?_
      rintro e w1 ⟨rfl, hb1⟩
      replace HT := Lib.hid (sl_go HT.out hb1)
      try replace HL := Lib.hid (sl_go HL.out hb1)
      replace HBel := Lib.hid (HBel.out.trans (hb1.mono HBel.out.size))
      clear hb1
      dsimp only
      refine hK.out _ _ (by exact row2' HT.out) (fun hHeld => ?_)
      clear hK K
      try simp only [aP, sA, sZ, sS]
      refine og (i := 3) rfl (by kernel_rfl) (fun K hK => ?_)
      go_simp
      refine (next_any s a b _ ha hb).mono ?_
      rintro e w2 ⟨rfl, hb1⟩
      replace HT := Lib.hid (sl_go HT.out hb1)
      try replace HL := Lib.hid (sl_go HL.out hb1)
      replace HBel := Lib.hid (HBel.out.trans (hb1.mono HBel.out.size))
      clear hb1
      dsimp only
      refine hK.out _ _ (by exact row2' HT.out) (fun hHeld => ?_)
      clear hK K
      try simp only [aP, sA, sZ, sS]
      refine og (i := 5) rfl (by kernel_rfl) (fun K hK => ?_)
      obtain ⟨c0, c1, c2, fr, hz1⟩ := row3 HL.out
      replace HT := Lib.hid (put3_far (.int .i64 (sF (stp s a b))) (.int .i64 (sR (stp s a b))) (.int .i64 (sN (stp s a b))) HT.out (Nat.ne_of_lt HLT.out))
      replace HBel := Lib.hid (below_put3 (.int .i64 (sF (stp s a b))) (.int .i64 (sR (stp s a b))) (.int .i64 (sN (stp s a b))) HBel.out (Nat.le_of_lt HLT.out))
      replace HL := Lib.hid (put3 (.int .i64 (sF (stp s a b))) (.int .i64 (sR (stp s a b))) (.int .i64 (sN (stp s a b))) HL.out)
      go_simp
      clear c0 c1 c2 fr hz1
      refine hK.out _ _ (by exact row2' HT.out) (fun hHeld => ?_)
      clear hK K
      try simp only [aP, sA, sZ, sS]
      refine wpAnyH_done (by kernel_rfl) ?_ _
      refine NoPanic.normal ?_
      clear hHeld
      go_wp2_with fail
      go_meet
      exact ⟨_, rfl, HBel.out, HT.out, HL.out, HLT.out⟩
  case rest =>
    obtain ⟨H, rfl, hB1, hT1, hL1, hlt1⟩ := hcut
    clear HT HBel
    go_wp2
    go_loopw [8, 9] (fun v p wr => ∃ k H : Nat, k ≤ n ∧ p = .pointer (some ⟨H, 0, none⟩) ∧ Below w.heap.size w wr ∧ wr.heap[w.heap.size]? = some (.cells #[.int .i64 a, .int .i64 b] 168 (0, 0)) ∧ wr.heap[H]? = some (.cells #[.int .i64 (sF (rq s a b k)), .int .i64 (sR (rq s a b k)), .int .i64 (sN (rq s a b k))] 125 (0, 0)) ∧ w.heap.size < H ∧ wr.ownsRow w.heap.size 3 1 v k (rqC s a b k)) (fun v _ _ => n - vlen v)
    case atStart => exact ⟨0, H, Nat.zero_le _, rfl, hB1, hT1, hL1, hlt1, World.ownsRow_nil _ _ _ _⟩
    case round =>
      obtain ⟨k, H, hk, rfl, hB1, hT1, hL1, hlt1, hown⟩ := hrel
      have hsn : sN (rq s a b k) = rq s a b k := by cases k with
        | zero => exact stp_sN a b
        | succ k => exact stp_sN a b
      by_cases hlt : k < n
      · have hsq := hn.1 k hlt
        have hrs := rqC_succ s a b k
        have hnx : stp (rq s a b k) a b = rq s a b (k + 1) := rfl
        obtain ⟨x, hx⟩ : ∃ x, rq s a b k = x := ⟨_, rfl⟩
        obtain ⟨y, hy⟩ : ∃ y, rq s a b (k + 1) = y := ⟨_, rfl⟩
        rw [hx] at hsq hrs hnx hsn hL1
        rw [hy] at hnx
        have HY := Lib.hid hy
        have HSQ := Lib.hid hsq
        have HRS := Lib.hid hrs
        have HNX := Lib.hid hnx
        clear hx hsq hrs hnx hy
        have HVL := Lib.hid (own_len hown)
        have HOW := Lib.hid hown
        have HB := Lib.hid hB1
        have HT := Lib.hid hT1
        have HL := Lib.hid hL1
        clear hown hB1 hT1
        obtain ⟨p0, p1, p2, pfr, pz⟩ := row3 hL1
        clear hL1
        go_wp2_with fail
        refine (onBsq_any x _).mono ?_
        rw [HSQ.out]
        rintro e w2 ⟨rfl, hb2⟩
        clear p0 p1 p2 pfr pz
        replace HB := Lib.hid (HB.out.trans (hb2.mono HB.out.size))
        replace HT := Lib.hid (sl_go HT.out hb2)
        replace HL := Lib.hid (sl_go HL.out hb2)
        replace HOW := Lib.hid (owns_go HOW.out hb2)
        clear hb2
        obtain ⟨p0, p1, p2, pfr, pz⟩ := row3 HL.out
        rw [hsn] at p2
        have hm1 : k + 1 ≤ maxLen := by unfold maxLen; omega
        go_wp2_with (at_builtin; refine wpList_append_lies _ rfl (.tmp 26) (.tmp 29) 43 rfl w.heap.size 3 i0 (.int .i64 0) 1 8 Tryz.underlying43 hi hz0 hz1 hz2 rfl (by decide) _ k (rqC s a b k) rfl (HOW.out.alloc _) ⟨w2.heap.size, 0, none⟩ 1 1 [.int .i64 x] rfl rfl (World.news_of_block (heap_alloc_new _ _)) ?c2 (by decide) hm1 (by omega) (by simp; have := HB.out.size; omega) (w2.heap.size + 1) (by simp) ?next)
        case c2 => intro y hy; simp at hy; subst hy; rfl
        case next =>
          intro g1 cap1 w3 hown1 hgrow1 hat1 hlt3
          rw [HRS.out] at hown1
          have hoff := owns_off HOW.out HL.out (by decide)
          have hofT := owns_off HOW.out HT.out (by decide)
          have hb3 : Below w.heap.size w w3 := (HB.out.alloc HB.out.size _).grown hgrow1 (by simp; have := HB.out.size; omega) (fun b e => (HOW.out.lt b e).1)
          have ht3 := sl_grown (al_old HT.out _) hgrow1 hofT
          have hl3 := sl_grown (al_old HL.out _) hgrow1 hoff
          have HOW3 := Lib.hid hown1
          have HB3 := Lib.hid hb3
          have HT3 := Lib.hid ht3
          clear HOW HB HT HL p0 p1 p2 pfr pz hgrow1 hown1 hat1 hb3
          obtain ⟨p0, p1, p2, pfr, pz⟩ := row3 hl3
          rw [hsn] at p2
          obtain ⟨t0, t1, tfr, tz⟩ := row2 ht3
          clear hl3 ht3
          have hc5 := next_any x a b (w3.alloc (.cells #[.int .i64 (sF x), .int .i64 (sR x), .int .i64 x] 125)) ha hb
          rw [hsn, HNX.out] at hc5
          have HC5 := Lib.hid hc5
          clear hc5
          go_wp2_with fail
          refine HC5.out.mono ?_
          rintro e w5 ⟨rfl, hb5⟩
          have hl5 := sl_go (sl_at (W := w3) (o := .cells #[.int .i64 (sF x), .int .i64 (sR x), .int .i64 x] 125) rfl) hb5
          have hz3 := al_lt HT3.out
          have HT5 := Lib.hid (put3_far (.int .i64 (sF y)) (.int .i64 (sR y)) (.int .i64 (sN y)) (sl_go (al_old HT3.out _) hb5) (Nat.ne_of_lt hz3))
          have HL5 := Lib.hid (put3 (.int .i64 (sF y)) (.int .i64 (sR y)) (.int .i64 (sN y)) hl5)
          have HB5 := Lib.hid (below_put3 (.int .i64 (sF y)) (.int .i64 (sR y)) (.int .i64 (sN y)) ((HB3.out.alloc HB3.out.size _).trans (hb5.mono (by simp; have := HB3.out.size; omega))) (Nat.le_of_lt hz3))
          have HO5 := Lib.hid (owns_put3 (.int .i64 (sF y)) (.int .i64 (sR y)) (.int .i64 (sN y)) (owns_go (HOW3.out.alloc _) hb5) hl5 (by decide))
          obtain ⟨c0, c1, c2, fr, hz5⟩ := row3 hl5
          clear hl5 hb5 p0 p1 p2 pfr pz t0 t1 tfr tz HOW3 HB3 HT3 HC5 HRS HNX
          go_wp2
          go_roundw
          case rel => exact ⟨k + 1, w3.heap.size, by omega, rfl, HB5.out, HT5.out, by rw [HY.out]; exact HL5.out, hz3, HO5.out⟩
          case measure => rw [HVL.out]; show n - (k + 1) < n - k; omega
      · obtain rfl : k = n := by omega
        have HSQ := Lib.hid hn.2
        obtain ⟨p0, p1, p2, pfr, pz⟩ := row3 hL1
        go_wp2_with fail
        refine (onBsq_any (rq s a b k) _).mono ?_
        rw [HSQ.out]
        rintro e w2 ⟨rfl, hb2⟩
        have HB := Lib.hid (hB1.trans (hb2.mono hB1.size))
        have HO := Lib.hid (owns_go hown hb2)
        clear p0 p1 p2 pfr pz hb2 hB1 hown hT1 hL1
        go_wp2
        go_ret
        exact ⟨_, rfl, HB.out, HO.out⟩
end Go.Proofs.YtcdnakbdajbfoaaGreatDoor
