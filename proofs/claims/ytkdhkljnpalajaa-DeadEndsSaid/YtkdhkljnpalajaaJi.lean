/-
  DeadTells.
-/
import Derived.Test.YtkdhkljnpalajaaJg
import Derived.Laws.OwnMore
import Derived.Lib.AppendZeros
namespace Go.Proofs.Ytkdhkljnpalajaa
open Go.RowKit Go.Sort
set_option linter.unusedSimpArgs false
set_option linter.unusedVariables false
set_option maxRecDepth 20000

@[go_sem high] theorem run_max4 {P : Program} (w : World) (ts : Array TypeId) (t : TypeId) (a b c d : Int) :
    (Builtin.max_ ts t #[.int .i64 a, .int .i64 b, .int .i64 c, .int .i64 d]).run P w = .ok (.int .i64 (max a (max b (max c d)))) w := by
  have e : ∀ x y : Int, (if y > x then y else x) = max x y := fun x y => by
    rw [Int.max_def]
    split <;> split <;> omega
  simp [Builtin.max_, Builtin.max2, e, Int.max_assoc]
@[go_sem high] theorem run_min4 {P : Program} (w : World) (ts : Array TypeId) (t : TypeId) (a b c d : Int) :
    (Builtin.min_ ts t #[.int .i64 a, .int .i64 b, .int .i64 c, .int .i64 d]).run P w = .ok (.int .i64 (min a (min b (min c d)))) w := by
  have e : ∀ x y : Int, (if y < x then y else x) = min x y := fun x y => by
    rw [Int.min_def]
    split <;> split <;> omega
  simp [Builtin.min_, Builtin.min2, e, Int.min_assoc]
theorem append_kinds {P : Program} (w : World) (base B : Nat) (t ty e : TypeId) (i : TypeInfo) (z : Value) (bytes : Nat) (ht : P.underlying t = some (.slice e)) (hi : P.info? e = some i) (hz : i.zero = some z)
    (hsize : i.size = 1) (hby : i.bytes = bytes) (hzs : z.cells.size = 1) (v : Value) (hown : w.ownsRow base e 1 v 0 [])
    (p : Option Addr) (m c : Nat) (f : Nat → Int) (hr : Reads B w p m (fun i => .int .i64 (f i)))
    (h63 : 0 + m ≤ maxLen) (hbytes : (0 + m) * bytes ≤ 140737488355328) (hbase : base ≤ w.heap.size) :
    ∃ v' w', (Builtin.append_ #[t, t] ty #[v, .slice p m c]).run P w = .ok v' w' ∧ w'.ownsRow base e 1 v' m ((List.range m).map fun i => .int .i64 (f i)) ∧ w.grownBy w' v.ownBlock := by
  cases p with
  | none =>
    have hm : m = 0 := by
      rcases hr with h | ⟨b, off, h, _⟩
      · exact h
      · cases h
    subst hm
    refine ⟨v, w, ?_, by simpa using hown, World.grownBy.refl _ _⟩
    rcases hown.2 with ⟨rfl, _⟩ | ⟨g, cap, cur, rfl, _, _, hnc, _⟩
    · simp [Builtin.append_, run_underlying ht, sizeOf, typeInfo, hi, Builtin.lenOf, Builtin.firstCells]
    · simp [Builtin.append_, run_underlying ht, sizeOf, typeInfo, hi, Builtin.lenOf, Builtin.firstCells, hnc, storeCells]
  | some a =>
    obtain ⟨v', w', h2, h3, h4, _⟩ := run_append_own (P := P) w base t ty e i z 1 bytes ht hi hz hsize hby hzs (by omega) v 0 [] hown a m c ((List.range m).map fun i => .int .i64 (f i)) (by simp) (fun j u hj => by
      have hjm : j < m := by have := (List.getElem?_eq_some_iff.1 hj).1; simpa using this
      rcases hr with h | ⟨b, off, he, hb, hc⟩
      · omega
      · cases he
        rw [List.getElem?_map, List.getElem?_range hjm] at hj
        rw [Go.WideShapes.add_plain, hc j hjm]; simpa using hj) (fun u hu => by
      obtain ⟨j, hj, rfl⟩ := List.mem_map.1 hu
      rfl) h63 hbytes hbase
    exact ⟨v', w', h2, by simpa using h3, h4⟩
theorem owns1_reads {w : World} {base : Nat} {e : TypeId} {v : Value} {n : Nat} {f : Nat → Int} (h : w.ownsRow base e 1 v n ((List.range n).map fun i => .int .i64 (f i))) :
    ∃ p c, v = .slice p n c ∧ Reads w.heap.size w p n (fun i => .int .i64 (f i)) := by
  rcases h.2 with ⟨rfl, rfl⟩ | ⟨q, cap, cur, rfl, h1, h2, h3, h4, h5, h6⟩
  · exact ⟨none, 0, rfl, .inl rfl⟩
  · refine ⟨_, cap, rfl, .inr ⟨q, 0, rfl, (Array.getElem?_eq_some_iff.1 h2).1, fun i hi => ?_⟩⟩
    rw [Nat.zero_add, cell_of_row w q i cur e (0, 0) h2]
    have h7 := congrArg (·[i]?) h6
    simp only [List.getElem?_take, List.getElem?_map] at h7
    rw [if_pos (by omega), List.getElem?_range hi, Array.getElem?_toList] at h7
    exact h7
theorem infoKd : (Try.prog.info? 22).map (fun i => (i.zero, i.size, i.bytes)) = some (some (.int .i64 0), 1, 8) := by kernel_rfl
/-- what stands in DeadTells -/
structure LT (w W : World) (P : Nat → Int) (x : LF) : Prop where
  pos : PB W w.heap.size P
  lft : TB 31 W (w.heap.size + 1) x
  bel : Below w.heap.size w W
theorem LT.go {w W W' : World} {P : Nat → Int} {x : LF} (h : LT w W P x) (g : Below W.heap.size W W') : LT w W' P x := ⟨h.pos.go g, h.lft.go g, h.bel.trans (g.mono h.bel.size)⟩
set_option maxHeartbeats 4000000 in
set_option maxRecDepth 100000 in
theorem deadTells_any (P : Nat → Int) (x : LF) (p : Option Addr) (n c : Nat) (f : Nat → Int) (w : World) (hp : Reads w.heap.size w p n (fun i => .int .i64 (f i))) (hc : n ≤ c) (hm : c ≤ maxLen) :
    Calls Try.prog 3 #[.agg (pc P).toArray, .agg (lfA x), .slice p n c] w fun e w' => e = .returned (.bool true) ∧ Below w.heap.size w w' := by
  obtain ⟨X, hX⟩ : ∃ X, X = (pc P).toArray := ⟨_, rfl⟩
  have AW := Lib.hid (fun W => awake13_any W)
  have hw1 : Below w.heap.size w (w.alloc (.cells X 29)) := below_new _
  have H0 := Lib.hid (show LT w ((w.alloc (.cells X 29)).alloc (.cells (lfA x) 31)) P x from
    ⟨(pos_box P w X hX 29).alloc _, sl_at (by simp), hw1.alloc (by simp) _⟩)
  rw [← hX]
  have HX := Lib.hid hX
  clear hX hw1
  go_enter Try.func3, Try.ntmps3
  go_upto_region 1 with (fail)
  generalize (w.alloc (.cells X 29)).alloc (.cells (lfA x) 31) = W at *
  by_cases hn : 500 < n
  · go_wp2_with fail
    refine (AW.out _).mono ?_
    rintro e w1 ⟨rfl, hb⟩
    replace H0 := Lib.hid (H0.out.go hb)
    go_wp2
    go_ret
    exact ⟨rfl, H0.out.bel⟩
  · obtain ⟨e0, e1, e2, e3, ef, ez⟩ := row4c H0.out.lft
    clear ef ez
    have hn5 : ¬ (500 : Int) < (n : Int) := by omega
    by_cases hb1 : 1099511627776 < max x.h (max x.k (max x.d x.l))
    · go_wp2_with fail
      refine (AW.out _).mono ?_
      rintro e w1 ⟨rfl, hb⟩
      replace H0 := Lib.hid (H0.out.go hb)
      clear hb e0 e1 e2 e3
      go_wp2
      go_ret
      exact ⟨rfl, H0.out.bel⟩
    by_cases hb2 : min x.h (min x.k (min x.d x.l)) < -1099511627776
    · go_wp2_with fail
      refine (AW.out _).mono ?_
      rintro e w1 ⟨rfl, hb⟩
      replace H0 := Lib.hid (H0.out.go hb)
      clear hb e0 e1 e2 e3
      go_wp2
      go_ret
      exact ⟨rfl, H0.out.bel⟩
    have hx : LB x 1099511627776 := by unfold LB; omega
    have HL := Lib.hid hx
    clear hx
    go_upto_region 4 with (fail)
    clear hb1 hb2
    obtain ⟨rb, hrb⟩ : ∃ r, W.heap.size = r := ⟨_, rfl⟩
    refine forget_B (fun V => LT w V P x ∧ TB 34 V rb x ∧ w.heap.size + 2 ≤ V.heap.size) ⟨H0.out.go (below_new _), sl_at hrb.symm, by have := H0.out.lft.lt; simp; omega⟩ ?_
    rw [hrb]
    clear H0 hrb e0 e1 e2 e3
    rintro V ⟨h1, h2, h3⟩
    have H0 := Lib.hid h1
    have HR := Lib.hid h2
    have HZ := Lib.hid h3
    clear h1 h2 h3
    obtain ⟨i2, hi, hz0, hz1, hz2⟩ : ∃ i, Try.prog.info? 22 = some i ∧ i.zero = some (.int .i64 0) ∧ i.size = 1 ∧ i.bytes = 8 := by
      have h := infoKd
      cases hi : Try.prog.info? 22 with
      | none => rw [hi] at h; cases h
      | some i =>
        rw [hi] at h
        have := Option.some.inj h
        simp only [Prod.mk.injEq] at this
        exact ⟨i, rfl, this.1, this.2.1, this.2.2⟩
    have hown0 : (V.alloc (.cells #[] 22)).ownsRow V.heap.size 22 1 (.slice (some ⟨V.heap.size, 0, none⟩) 0 0) 0 [] :=
      ⟨rfl, .inr ⟨V.heap.size, 0, #[], rfl, Nat.le_refl _, sl_at rfl, Nat.le_refl _, Nat.zero_le _, rfl, rfl⟩⟩
    obtain ⟨v, w10, hap, hown10, hg10⟩ := append_kinds (P := Try.prog) (V.alloc (.cells #[] 22)) V.heap.size w.heap.size 32 32 22 i2 _ 8 Try.underlying32 hi hz0 hz1 hz2 rfl _ hown0 p n c f (hp.below ((H0.out.bel).alloc H0.out.bel.size _)) (by unfold maxLen; omega) (by omega) (by simp)
    obtain ⟨p2, c2, rfl, ho⟩ := owns1_reads hown10
    have hb2 : Below V.heap.size V w10 := (below_new (w := V) (.cells #[] 22)).grown hg10 (by simp) (fun k hk => by
        have : k = V.heap.size := by simpa [Value.ownBlock] using hk.symm
        omega)
    have hp2 := hp.below (H0.out.bel.trans (hb2.mono H0.out.bel.size))
    have HA := Lib.hid hp2
    have HO := Lib.hid ho
    replace H0 := Lib.hid (H0.out.go hb2)
    replace HR := Lib.hid (HR.out.go hb2)
    clear hown0 hown10 hg10 hb2 ho hp hp2 HZ
    go_upto_region 5 with (at_builtin; refine Lib.wpList_append_run _ rfl _ _ _ _ rfl _ _ rfl rfl _ _ hap ?_)
    clear hap hi hz0 hz1 hz2
    obtain ⟨e0, e1, e2, e3, ef, ez⟩ := row4c H0.out.lft
    obtain ⟨g0, g1, g2, g3, gf, gz⟩ := row4c HR.out
    replace e0 := cell_regrown e0
    replace e1 := cell_regrown e1
    replace e2 := cell_regrown e2
    replace e3 := cell_regrown e3
    replace g0 := cell_regrown g0
    replace g1 := cell_regrown g1
    replace g2 := cell_regrown g2
    replace g3 := cell_regrown g3
    clear ef ez gf gz
    have HCP := Lib.hid H0.out.pos.regrown
    obtain ⟨y, hy⟩ : ∃ y, cntD P 64 = y := ⟨_, rfl⟩
    have k1 := regrown_call (w := w10) (fun W => of13_any P W)
    have k2 := regrown_call (w := w10) (fun W => rOf13_any P W)
    have k3 := regrown_call (w := w10) (fun W => same13_any y W)
    have k4 := regrown_call (w := w10) (fun W => is13_any P W)
    have k5 := regrown_call (w := w10) (fun W => rDead_any y W)
    have k6 := regrown_call (w := w10) (fun W => deadL_any x W)
    have k7 := regrown_call (w := w10) (fun W => rDead_any x W)
    have k8 := fun dd os => Calls.regrown_of (add13_any x w10.heap.size p2 n c2 f (grow (redrawn w10 dd) os) (HL.out.mono (by omega)) (by omega) (HO.out.below (below_regrown w10 dd os)) (below_regrown w10 dd os).size)
    have k9 := fun dd os => Calls.regrown_of (rAdd13_any x w.heap.size p n c f (grow (redrawn w10 dd) os) (HL.out.mono (by omega)) (by omega) (HA.out.below ((below_regrown w10 dd os).mono H0.out.bel.size)) (Nat.le_trans H0.out.bel.size (below_regrown w10 dd os).size))
    obtain ⟨z, hz⟩ : ∃ z, addL f n x = z := ⟨_, rfl⟩
    have k10 := regrown_call (w := w10) (fun W => same13_any z W)
    obtain ⟨b1, hb1⟩ : ∃ b, deadB y = b := ⟨_, rfl⟩
    obtain ⟨b2, hb2⟩ : ∃ b, deadB x = b := ⟨_, rfl⟩
    rw [← HX.out, hy] at k1 k2 k4
    rw [hb1] at k4 k5
    rw [hb2] at k6 k7
    rw [hz] at k8 k9
    clear hy hz hb1 hb2
    have h11 : (b1 == b1) = true := by simp
    have h22 : (b2 == b2) = true := by simp
    refine wp_region_quiet_below (by kernel_rfl) (by kernel_rfl) ?_
    refine wpQuiet_pos (by rfl) _ (by rfl) w.heap.size P X HX.out (by rfl) HCP.out ?_
    try simp only [Act.put, List.setIfInBounds_toArray, List.set_cons_zero, List.set_cons_succ]
    go_big_quiet_step (exact k1 _ _)
    refine wpQuiet_pos (by rfl) _ (by rfl) w.heap.size P X HX.out (by rfl) HCP.out ?_
    try simp only [Act.put, List.setIfInBounds_toArray, List.set_cons_zero, List.set_cons_succ]
    go_big_quiet_step (exact k2 _ _)
    go_big_quiet_step (exact k3 _ _)
    iterate 1 (go_big_quiet_step (fail))
    refine wpQuiet_pos (by rfl) _ (by rfl) w.heap.size P X HX.out (by rfl) HCP.out ?_
    try simp only [Act.put, List.setIfInBounds_toArray, List.set_cons_zero, List.set_cons_succ]
    go_big_quiet_step (exact k4 _ _)
    refine wpQuiet_pos (by rfl) _ (by rfl) w.heap.size P X HX.out (by rfl) HCP.out ?_
    try simp only [Act.put, List.setIfInBounds_toArray, List.set_cons_zero, List.set_cons_succ]
    go_big_quiet_step (exact k2 _ _)
    go_big_quiet_step (exact k5 _ _)
    iterate 4 (go_big_quiet_step (fail))
    go_big_quiet_step (exact k6 _ _)
    iterate 1 (go_big_quiet_step (fail))
    go_big_quiet_step (exact k7 _ _)
    iterate 5 (go_big_quiet_step (fail))
    go_big_quiet_step (exact k8 _ _)
    iterate 2 (go_big_quiet_step (fail))
    go_big_quiet_step (exact k9 _ _)
    go_big_quiet_step (exact k10 _ _)
    repeat (go_big_quiet_step (fail))
    refine wpQuiet_nil ?_
    rintro W9 ⟨pq, rfl⟩
    have HBW := Lib.hid (below_regrown w10 pq.d pq.os)
    clear k1 k2 k3 k4 k5 k6 k7 k8 k9 k10 HCP e0 e1 e2 e3 g0 g1 g2 g3 h11 h22 HR
    generalize grow (redrawn w10 pq.d) pq.os = W9 at HBW ⊢
    go_wp2
    go_loopw [9, 10] (fun ok i wr => ∃ j : Nat, j ≤ n ∧ ok = .bool true ∧ i = .int .i64 (j : Int) ∧ Below w10.heap.size w10 wr) (fun _ i _ => n - (intOf i).toNat)
    case atStart => exact ⟨0, Nat.zero_le _, rfl, rfl, HBW.out⟩
    case round =>
      clear HBW
      obtain ⟨j, hj, rfl, rfl, h1⟩ := hrel
      have HB := Lib.hid h1
      by_cases hlt : j < n
      · rcases HA.out.below (h1.mono H0.out.bel.size) with h0 | ⟨ab, ao, rfl, _, hcell⟩
        · omega
        rcases HO.out.below h1 with h0 | ⟨ob, oo, rfl, _, hcell2⟩
        · omega
        have r1 : wr.cell? ⟨ab, ao + j, none⟩ = some (.int .i64 (f j)) := hcell j hlt
        have r2 : wr.cell? ⟨ob, oo + j, none⟩ = some (.int .i64 (f j)) := hcell2 j hlt
        clear hcell hcell2 h1
        have hff : (f j == f j) = true := by simp
        go_upto_region 9 with (fail)
        replace r1 := cell_regrown r1
        replace r2 := cell_regrown r2
        refine wp_region_quiet_below (by kernel_rfl) (by kernel_rfl) ?_
        repeat (go_big_quiet_step (fail))
        refine wpQuiet_nil ?_
        rintro W9 ⟨pq, rfl⟩
        replace HB := Lib.hid (HB.out.trans ((below_regrown wr pq.d pq.os).mono HB.out.size))
        clear r1 r2
        generalize grow (redrawn wr pq.d) pq.os = W9 at HB ⊢
        go_wp2
        go_roundw
        case rel => exact ⟨j + 1, by omega, rfl, by go_num, HB.out⟩
        case measure => simp [intOf]; omega
      · obtain rfl : j = n := by omega
        clear h1
        go_wp2_with fail
        refine (AW.out _).mono ?_
        rintro e w11 ⟨rfl, hb⟩
        have HZ := Lib.hid ((H0.out.bel.trans (HB.out.mono H0.out.bel.size)).trans (hb.mono (Nat.le_trans H0.out.bel.size HB.out.size)))
        clear hb
        go_wp2
        go_ret
        exact ⟨rfl, HZ.out⟩
end Go.Proofs.Ytkdhkljnpalajaa
