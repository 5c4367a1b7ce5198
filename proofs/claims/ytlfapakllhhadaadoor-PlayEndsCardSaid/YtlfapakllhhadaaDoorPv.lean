/-
  The law PlayTells: its walk.
-/
import Derived.Test.YtlfapakllhhadaaDoorG19
import Derived.Test.YtlfapakllhhadaaDoorG1
import Derived.Test.YtlfapakllhhadaaDoorG13
import Derived.Deep.CutRange
import Derived.Laws.OwnMore
import Derived.Lib.AppendZeros
namespace Go.Proofs.YtlfapakllhhadaaDoor
open Go.RowKit Go.Sort
set_option linter.unusedSimpArgs false
set_option linter.unusedVariables false
set_option maxRecDepth 20000

/-- the cells of a row of moves -/
def mc3 (F T G : Nat → Int) (j : Nat) : Value := .int .i64 (if j % 3 = 0 then F (j / 3) else if j % 3 = 1 then T (j / 3) else G (j / 3))
theorem mc3_0 (F T G : Nat → Int) (i : Nat) : mc3 F T G (i * 3) = .int .i64 (F i) := by
  unfold mc3; rw [if_pos (by omega), show i * 3 / 3 = i by omega]
theorem mc3_1 (F T G : Nat → Int) (i : Nat) : mc3 F T G (i * 3 + 1) = .int .i64 (T i) := by
  unfold mc3; rw [if_neg (by omega), if_pos (by omega), show (i * 3 + 1) / 3 = i by omega]
theorem mc3_2 (F T G : Nat → Int) (i : Nat) : mc3 F T G (i * 3 + 2) = .int .i64 (G i) := by
  unfold mc3; rw [if_neg (by omega), if_neg (by omega), show (i * 3 + 2) / 3 = i by omega]
theorem reads3_at {B : Nat} {w : World} {b off n : Nat} {F T G : Nat → Int} (h : ∀ i, i < n → w.cell? ⟨b, off + i * 3, none⟩ = some (.int .i64 (F i)) ∧ w.cell? ⟨b, off + i * 3 + 1, none⟩ = some (.int .i64 (T i)) ∧ w.cell? ⟨b, off + i * 3 + 2, none⟩ = some (.int .i64 (G i))) (j : Nat) (hj : j < n * 3) :
    w.cell? ⟨b, off + j, none⟩ = some (mc3 F T G j) := by
  obtain ⟨h0, h1, h2⟩ := h (j / 3) (by omega)
  unfold mc3
  by_cases hp : j % 3 = 0
  · rw [if_pos hp]; rw [show off + j / 3 * 3 = off + j by omega] at h0; exact h0
  · rw [if_neg hp]
    by_cases hq : j % 3 = 1
    · rw [if_pos hq]; rw [show off + j / 3 * 3 + 1 = off + j by omega] at h1; exact h1
    · rw [if_neg hq]; rw [show off + j / 3 * 3 + 2 = off + j by omega] at h2; exact h2
theorem append_moves {P : Program} (w : World) (base B : Nat) (t ty e : TypeId) (i : TypeInfo) (z : Value) (bytes : Nat) (ht : P.underlying t = some (.slice e)) (hi : P.info? e = some i) (hz : i.zero = some z)
    (hsize : i.size = 3) (hby : i.bytes = bytes) (hzs : z.cells.size = 3) (v : Value) (hown : w.ownsRow base e 3 v 0 [])
    (p : Option Addr) (m c : Nat) (F T G : Nat → Int) (hr : Reads3 B w p m F T G)
    (h63 : 0 + m ≤ maxLen) (hbytes : (0 + m) * bytes ≤ 140737488355328) (hbase : base ≤ w.heap.size) :
    ∃ v' w', (Builtin.append_ #[t, t] ty #[v, .slice p m c]).run P w = .ok v' w' ∧ w'.ownsRow base e 3 v' m ((List.range (m * 3)).map (mc3 F T G)) ∧ w.grownBy w' v.ownBlock := by
  cases p with
  | none =>
    have hm : m = 0 := by
      rcases hr with h | ⟨b, off, h, _⟩
      · exact h
      · cases h
    subst hm
    refine ⟨v, w, ?_, by simpa using hown, World.grownBy.refl _ _⟩
    rcases hown.2 with ⟨rfl, _⟩ | ⟨g, cap, cur, rfl, _, _, hnc, _⟩
    · simp [Builtin.append_, run_underlying ht, sizeOf, typeInfo, hi, Builtin.lenOf, Builtin.firstCells]
    · simp [Builtin.append_, run_underlying ht, sizeOf, typeInfo, hi, Builtin.lenOf, Builtin.firstCells, hnc, storeCells]
  | some a =>
    obtain ⟨v', w', h2, h3, h4, _⟩ := run_append_own (P := P) w base t ty e i z 3 bytes ht hi hz hsize hby hzs (by omega) v 0 [] hown a m c ((List.range (m * 3)).map (mc3 F T G)) (by simp) (fun j u hj => by
      have hjm : j < m * 3 := by have := (List.getElem?_eq_some_iff.1 hj).1; simpa using this
      rcases hr with h | ⟨b, off, he, hb, hc⟩
      · omega
      · cases he
        rw [List.getElem?_map, List.getElem?_range hjm] at hj
        rw [Go.WideShapes.add_plain, reads3_at (B := B) hc j hjm]; simpa using hj) (fun u hu => by
      obtain ⟨j, hj, rfl⟩ := List.mem_map.1 hu
      rfl) h63 hbytes hbase
    exact ⟨v', w', h2, by simpa using h3, h4⟩
theorem owns3_reads {w : World} {base : Nat} {e : TypeId} {v : Value} {n : Nat} {F T G : Nat → Int} (h : w.ownsRow base e 3 v n ((List.range (n * 3)).map (mc3 F T G))) :
    ∃ p c, v = .slice p n c ∧ Reads3 w.heap.size w p n F T G := by
  rcases h.2 with ⟨rfl, rfl⟩ | ⟨q, cap, cur, rfl, h1, h2, h3, h4, h5, h6⟩
  · exact ⟨none, 0, rfl, .inl rfl⟩
  · refine ⟨_, cap, rfl, .inr ⟨q, 0, rfl, (Array.getElem?_eq_some_iff.1 h2).1, fun i hi => ?_⟩⟩
    have hc : ∀ j, j < n * 3 → w.cell? ⟨q, 0 + j, none⟩ = some (mc3 F T G j) := fun j hj => by
      rw [Nat.zero_add, cell_of_row w q j cur e (0, 0) h2]
      have h7 := congrArg (·[j]?) h6
      simp only [List.getElem?_take, List.getElem?_map] at h7
      rw [if_pos hj, List.getElem?_range hj, Array.getElem?_toList] at h7
      exact h7
    exact ⟨by rw [hc (i * 3) (by omega), mc3_0], by rw [show 0 + i * 3 + 1 = 0 + (i * 3 + 1) by omega, hc (i * 3 + 1) (by omega), mc3_1], by rw [show 0 + i * 3 + 2 = 0 + (i * 3 + 2) by omega, hc (i * 3 + 2) (by omega), mc3_2]⟩
/-- == on moves -/
theorem equal_mv (a b c a' b' c' : Int) (n : Nat) (w : World) : (Op.equalIn (n + 2) 34 (mvV a b c) (mvV a' b' c')).run Tryd.prog w = .ok (a == a' && b == b' && c == c') w := by
  unfold mvV
  rw [run_equalIn_agg w (n + 1) 34 _ _ (by kernel_rfl) (by kernel_rfl)]
  have hf : (Tryd.prog.fieldsOf 34).toList.map (fun f => (f.name, f.type, f.offset)) = [("From", 3, 0), ("To", 3, 1), ("Becomes", 22, 2)] := by kernel_rfl
  generalize (Tryd.prog.fieldsOf 34).toList = fs at hf ⊢
  · obtain ⟨f, fs, rfl, hf1, hf⟩ := List.map_eq_cons_iff.1 hf
    obtain ⟨g, fs, rfl, hf2, hf⟩ := List.map_eq_cons_iff.1 hf
    obtain ⟨h, fs, rfl, hf3, hf⟩ := List.map_eq_cons_iff.1 hf
    obtain rfl := List.map_eq_nil_iff.1 hf
    simp only [Prod.mk.injEq] at hf1 hf2 hf3
    obtain ⟨n1, t1, o1⟩ := hf1
    obtain ⟨n2, t2, o2⟩ := hf2
    obtain ⟨n3, t3, o3⟩ := hf3
    have p1 : ∀ a b c : Int, (part 3 #[.int .i64 a, .int .i64 b, .int .i64 c] 0).run Tryd.prog w = .ok (.int .i64 a) w := fun a b c => by
      simp [part, isAgg, run_underlying Tryd.underlying3]
    have p2 : ∀ a b c : Int, (part 3 #[.int .i64 a, .int .i64 b, .int .i64 c] 1).run Tryd.prog w = .ok (.int .i64 b) w := fun a b c => by
      simp [part, isAgg, run_underlying Tryd.underlying3]
    have p3 : ∀ a b c : Int, (part 22 #[.int .i64 a, .int .i64 b, .int .i64 c] 2).run Tryd.prog w = .ok (.int .i64 c) w := fun a b c => by
      simp [part, isAgg, run_underlying Tryd.underlying22]
    have e1 : ∀ a b : Int, (Op.equalIn (n + 1) 3 (.int .i64 a) (.int .i64 b)).run Tryd.prog w = .ok (a == b) w := fun a b => run_equalIn_int w n 3 .i64 .i64 a b Tryd.underlying3
    have e3 : ∀ a b : Int, (Op.equalIn (n + 1) 22 (.int .i64 a) (.int .i64 b)).run Tryd.prog w = .ok (a == b) w := fun a b => run_equalIn_int w n 22 .i64 .i64 a b Tryd.underlying22
    have n1' : f.name ≠ "_" := by rw [n1]; decide
    have n2' : g.name ≠ "_" := by rw [n2]; decide
    have n3' : h.name ≠ "_" := by rw [n3]; decide
    simp only [Op.eqFields, Sem.run_bind, Sem.run_ite, n1', n2', n3', ne_eq, not_false_eq_true, if_true, t1, t2, t3, o1, o2, o3, p1, p2, p3, e1, e3, Result.andThen_ok]
    cases a == a' <;> cases b == b' <;> cases c == c' <;> simp
theorem neq_mv (a b c : Int) (w : World) : (binOp .neq 34 (.agg #[.int .i64 a, .int .i64 b, .int .i64 c]) (.agg #[.int .i64 a, .int .i64 b, .int .i64 c])).run Tryd.prog w = .ok (.bool false) w := by
  have e := equal_mv a b c a b c 9998 w
  unfold mvV at e
  rw [run_neq_struct, e]; simp
theorem infoMove : (Tryd.prog.info? 34).map (fun i => (i.zero, i.size, i.bytes)) = some (some (.agg #[.int .i64 0, .int .i64 0, .int .i64 0]), 3, 24) := by kernel_rfl
/-- a row of moves in a block between two numbers -/
def O3 (lo hi : Nat) (w : World) (p : Option Addr) (n : Nat) (F T G : Nat → Int) : Prop :=
  n = 0 ∨ ∃ b off, p = some ⟨b, off, none⟩ ∧ lo ≤ b ∧ b < hi ∧ ∀ i, i < n → w.cell? ⟨b, off + i * 3, none⟩ = some (.int .i64 (F i)) ∧ w.cell? ⟨b, off + i * 3 + 1, none⟩ = some (.int .i64 (T i)) ∧ w.cell? ⟨b, off + i * 3 + 2, none⟩ = some (.int .i64 (G i))
theorem O3.reads {lo hi : Nat} {w : World} {p : Option Addr} {n : Nat} {F T G : Nat → Int} (h : O3 lo hi w p n F T G) : Reads3 hi w p n F T G := by
  rcases h with h | ⟨b, off, h1, _, h2, h3⟩
  · exact .inl h
  · exact .inr ⟨b, off, h1, h2, h3⟩
theorem O3.below {lo hi : Nat} {w w' : World} {p : Option Addr} {n : Nat} {F T G : Nat → Int} (h : O3 lo hi w p n F T G) (hb : Below hi w w') : O3 lo hi w' p n F T G := by
  rcases h with h | ⟨b, off, h1, h0, h2, h3⟩
  · exact .inl h
  · exact .inr ⟨b, off, h1, h0, h2, fun i hi => ⟨(hb.cell (p := ⟨b, off + i * 3, none⟩) h2).trans (h3 i hi).1, (hb.cell (p := ⟨b, off + i * 3 + 1, none⟩) h2).trans (h3 i hi).2.1, (hb.cell (p := ⟨b, off + i * 3 + 2, none⟩) h2).trans (h3 i hi).2.2⟩⟩
theorem O3.gr {lo hi : Nat} {w w' : World} {p : Option Addr} {n : Nat} {F T G : Nat → Int} {c : Nat} (h : O3 lo hi w p n F T G) (hg : w.grownBy w' (some c)) (hc : c < lo ∨ hi ≤ c) (hs : hi ≤ w.heap.size) : O3 lo hi w' p n F T G := by
  rcases h with h | ⟨b, off, h1, h0, h2, h3⟩
  · exact .inl h
  · have hb : w'.heap[b]? = w.heap[b]? := hg.block b (by omega) (by intro e; injection e; omega)
    exact .inr ⟨b, off, h1, h0, h2, fun i hi => by
      rw [World.cell?_of_block (a := ⟨b, off + i * 3, none⟩) hb, World.cell?_of_block (a := ⟨b, off + i * 3 + 1, none⟩) hb, World.cell?_of_block (a := ⟨b, off + i * 3 + 2, none⟩) hb]; exact h3 i hi⟩
theorem owns3_lies {w : World} {base : Nat} {e : TypeId} {v : Value} {n : Nat} {F T G : Nat → Int} (h : w.ownsRow base e 3 v n ((List.range (n * 3)).map (mc3 F T G))) :
    ∃ p c, v = .slice p n c ∧ O3 base w.heap.size w p n F T G := by
  have h' := h
  rcases h.2 with ⟨rfl, rfl⟩ | ⟨q, cap, cur, rfl, h1, h2, h3, h4, h5, h6⟩
  · exact ⟨none, 0, rfl, .inl rfl⟩
  · obtain ⟨p, c, he, hr⟩ := owns3_reads h'
    injection he with e1 e2 e3
    subst e1
    rcases hr with h0 | ⟨b, off, hb, hlt, hc⟩
    · exact ⟨_, _, rfl, .inl h0⟩
    · injection hb with hb
      exact ⟨_, _, rfl, .inr ⟨b, off, by rw [hb], by injection hb with hb1; omega, hlt, hc⟩⟩
/-- what stands in PlayTells -/
structure TL (w W : World) (Q : Nat → Int) (B : Nat) (p : Option Addr) (n : Nat) (F T G : Nat → Int) (D : Nat) (p2 : Option Addr) : Prop where
  q : PB W w.heap.size Q
  b : Below w.heap.size w W
  r : Reads3 B W p n F T G
  g : GP B W
  o : O3 (w.heap.size + 1) D W p2 n F T G
  d : D ≤ W.heap.size
  bb : B ≤ W.heap.size
  ds : w.heap.size + 1 ≤ D
theorem TL.go {w W W' : World} {Q : Nat → Int} {B : Nat} {p : Option Addr} {n : Nat} {F T G : Nat → Int} {D : Nat} {p2 : Option Addr} (hB : B ≤ w.heap.size) (h : TL w W Q B p n F T G D p2) (g : Below W.heap.size W W') : TL w W' Q B p n F T G D p2 :=
  ⟨h.q.go g, h.b.trans (g.mono h.b.size), h.r.below (g.mono h.bb), h.g.below (g.mono h.bb), h.o.below (g.mono h.d), Nat.le_trans h.d g.size, Nat.le_trans h.bb g.size, h.ds⟩
theorem TL.other {w W : World} {Q : Nat → Int} {B : Nat} {p : Option Addr} {n : Nat} {F T G : Nat → Int} {D : Nat} {p2 : Option Addr} (h : TL w W Q B p n F T G D p2) (hB : B ≤ w.heap.size) {H : Nat} (hH : D ≤ H) (R : Nat → Int) : TL w (W.setCells H 0 (pc R)) Q B p n F T G D p2 := by
  have hd := h.ds
  have hl : Below B W (W.setCells H 0 (pc R)) := below_store (b := H) R (Below.refl B W) (by omega) h.bb
  exact ⟨h.q.others (by omega) 0 _, below_store (b := H) R h.b (by omega) h.b.size, h.r.below hl, h.g.below hl, h.o.gr (grs_B (hb := H) _ 0 W) (.inr hH) h.d, by rw [sizes_B]; exact h.d, by rw [sizes_B]; exact h.bb, hd⟩
theorem TL.store {w W : World} {Q : Nat → Int} {B : Nat} {p : Option Addr} {n : Nat} {F T G : Nat → Int} {D : Nat} {p2 : Option Addr} (h : TL w W Q B p n F T G D p2) (hB : B ≤ w.heap.size) (R : Nat → Int) : TL w (W.setCells w.heap.size 0 (pc R)) R B p n F T G D p2 := by
  have hl : Below B W (W.setCells w.heap.size 0 (pc R)) := below_store (b := w.heap.size) R (Below.refl B W) hB h.bb
  exact ⟨h.q.store, below_store (b := w.heap.size) R h.b (Nat.le_refl _) h.b.size, h.r.below hl, h.g.below hl, h.o.gr (grs_B (hb := w.heap.size) _ 0 W) (.inl (by omega)) h.d, by rw [sizes_B]; exact h.d, by rw [sizes_B]; exact h.bb, h.ds⟩
structure TLA (w W : World) (Q : Nat → Int) (B : Nat) (p : Option Addr) (n : Nat) (F T G : Nat → Int) (D : Nat) (p2 : Option Addr) (HA : Nat) (R : Nat → Int) : Prop where
  t : TL w W Q B p n F T G D p2
  a : PB W HA R
theorem TLA.go {w W W' : World} {Q : Nat → Int} {B : Nat} {p : Option Addr} {n : Nat} {F T G : Nat → Int} {D : Nat} {p2 : Option Addr} {HA : Nat} {R : Nat → Int} (hB : B ≤ w.heap.size) (h : TLA w W Q B p n F T G D p2 HA R) (g : Below W.heap.size W W') : TLA w W' Q B p n F T G D p2 HA R := ⟨h.t.go hB g, h.a.go g⟩
theorem TLA.other {w W : World} {Q : Nat → Int} {B : Nat} {p : Option Addr} {n : Nat} {F T G : Nat → Int} {D : Nat} {p2 : Option Addr} {HA : Nat} {R : Nat → Int} (h : TLA w W Q B p n F T G D p2 HA R) (hB : B ≤ w.heap.size) {H : Nat} (hH : D ≤ H) (hne : HA ≠ H) (R' : Nat → Int) : TLA w (W.setCells H 0 (pc R')) Q B p n F T G D p2 HA R :=
  ⟨h.t.other hB hH R', h.a.others hne 0 _⟩
set_option maxHeartbeats 8000000 in
set_option maxRecDepth 100000 in
theorem tells_play (P : Nat → Int) (p : Option Addr) (n c : Nat) (F T G : Nat → Int) (w : World) (B : Nat) (hn : n ≤ maxLen) (hr : Reads3 B w p n F T G) (hg : GP B w) (hB : B ≤ w.heap.size) :
    Calls Tryd.prog 15 #[.agg (pc P).toArray, .slice p n c] w fun e w' => e = .returned (.bool true) ∧ Below w.heap.size w w' := by
  unfold maxLen at hn
  obtain ⟨X, hX⟩ : ∃ X, X = (pc P).toArray := ⟨_, rfl⟩
  rw [← hX]
  have HP0 := Lib.hid (show PB (w.alloc (.cells X 29)) w.heap.size P by rw [hX]; exact PB.new rfl)
  have HX := Lib.hid hX
  have HG := Lib.hid hg
  have HRR := Lib.hid hr
  have HB := Lib.hid hB
  clear hX hg hr hB
  by_cases hn2 : 200 < n
  · go_enter Tryd.func15, Tryd.ntmps15
    go_upto_region 1 with (fail)
    refine forget_B (fun W => Below w.heap.size w W) (below_new _) ?_
    clear HP0
    intro W hb
    have H1 := Lib.hid hb
    clear hb
    go_wp2_with fail
    refine (awakeP_any _ B (HG.out.below (H1.out.mono HB.out)) (Nat.le_trans HB.out H1.out.size)).mono ?_
    rintro e w1 ⟨rfl, hb⟩
    go_wp2
    go_ret
    exact ⟨rfl, H1.out.trans (hb.mono H1.out.size)⟩
  obtain ⟨i2, hi, hz0, hz1, hz2⟩ := info_parts infoMove
  obtain ⟨Y1, hY1⟩ : ∃ Y, Y = (pc (mvsR P F T G n)).toArray := ⟨_, rfl⟩
  obtain ⟨E1, hE1⟩ : ∃ E, mvsE P F T G n = E := ⟨_, rfl⟩
  have MM := Lib.hid (fun D W q c h1 h2 h3 => moves_any P q n c F T G W D (by omega) h1 h2 h3)
  have MR := Lib.hid (fun W h1 h2 => rMoves_any P p n c F T G W B (by omega) h1 h2)
  rw [← HX.out, ← hY1, hE1] at MM MR
  have HY1 := Lib.hid hY1
  clear hY1 hE1
  go_enter Tryd.func15, Tryd.ntmps15
  go_upto_region 1 with (fail)
  refine forget_B (fun W => PB W w.heap.size P ∧ Below w.heap.size w W ∧ w.heap.size + 1 ≤ W.heap.size) ⟨HP0.out, below_new _, by simp⟩ ?_
  clear HP0
  rintro W ⟨hp, hb, hs⟩
  have HP := Lib.hid hp
  have HBW := Lib.hid hb
  clear hp hb
  go_upto_region 3 with (fail)
  have hown0 : (W.alloc (.cells #[] 34)).ownsRow (w.heap.size + 1) 34 3 (.slice (some ⟨W.heap.size, 0, none⟩) 0 0) 0 [] :=
    ⟨rfl, .inr ⟨W.heap.size, 0, #[], rfl, hs, sl_at rfl, Nat.le_refl _, Nat.zero_le _, rfl, rfl⟩⟩
  obtain ⟨v, w10, hap, hown10, hg10⟩ := append_moves (P := Tryd.prog) (W.alloc (.cells #[] 34)) (w.heap.size + 1) B 40 40 34 i2 _ 24 Tryd.underlying40 hi hz0 hz1 hz2 rfl _ hown0 p n c F T G (HRR.out.below ((HBW.out.alloc HBW.out.size _).mono HB.out)) (by unfold maxLen; omega) (by omega) (by simp; omega)
  obtain ⟨p2, c2, rfl, ho⟩ := owns3_lies hown10
  have hTL : TL w w10 P B p n F T G w10.heap.size p2 := by
    have hb2 : Below (w.heap.size + 1) W w10 := (((below_new (w := W) (.cells #[] 34)).mono hs)).grown hg10 (by simp; omega) (fun k hk => by
        have : k = W.heap.size := by simpa [Value.ownBlock] using hk.symm
        omega)
    have hb3 := HBW.out.trans (hb2.mono (by omega))
    exact ⟨HP.out.below hb2 (by omega), hb3, HRR.out.below (hb3.mono HB.out), HG.out.below (hb3.mono HB.out), ho, Nat.le_refl _, Nat.le_trans HB.out hb3.size, Nat.le_trans hs hb2.size⟩
  have HI := Lib.hid hTL
  clear hown0 hown10 hg10 ho hTL hs HP HBW
  obtain ⟨D, hD⟩ : ∃ D, w10.heap.size = D := ⟨_, rfl⟩
  rw [hD] at HI
  clear hD
  go_upto_region 4 with (at_builtin; refine Lib.wpList_append_run _ rfl _ _ _ _ rfl _ _ rfl rfl _ _ hap ?_)
  clear hap hi hz0 hz1 hz2
  have HNX := Lib.hid (show ∀ W, (binOp .neq 29 (.agg Y1) (.agg Y1)).run Tryd.prog W = .ok (.bool false) W from fun W => by rw [HY1.out, neq_pos, posEq_self]; rfl)
  go_wp2_with (refine wpList_pos (by rfl) _ (by rfl) w.heap.size P X HX.out (by rfl) HI.out.q ?_)
  refine (MM.out D _ p2 c2 HI.out.o.reads (HI.out.g.mono (by have := HI.out.ds; have := HB.out; omega)) HI.out.d).mono ?_
  rintro e w11 ⟨rfl, hb⟩
  replace HI := Lib.hid (HI.out.go HB.out hb)
  clear hb
  go_wp2_with (first | refine wpList_new Y1 (mvsR P F T G n) HY1.out (by rfl) (by rfl) ?_ | fail)
  intro w12 hq hb hz
  replace HI := Lib.hid (HI.out.go HB.out hb)
  have H6 := Lib.hid hq
  clear hb hq hz
  generalize w11.heap.size = b6 at H6 ⊢
  go_wp2_with (refine wpList_pos (by rfl) _ (by rfl) w.heap.size P X HX.out (by rfl) HI.out.q ?_)
  refine (MR.out _ HI.out.r HI.out.bb).mono ?_
  rintro e w13 ⟨rfl, hb⟩
  replace HI := Lib.hid (HI.out.go HB.out hb)
  replace H6 := Lib.hid (H6.out.go hb)
  clear hb
  go_wp2_with (first | refine wpList_new Y1 (mvsR P F T G n) HY1.out (by rfl) (by rfl) ?_ | fail)
  intro w14 hq hb hz
  replace HI := Lib.hid (HI.out.go HB.out hb)
  replace H6 := Lib.hid (H6.out.go hb)
  have H8 := Lib.hid hq
  clear hb hq hz
  generalize w13.heap.size = b8 at H8 ⊢
  have hee : (E1 != E1) = false := by simp
  go_upto_region 8 with (first | refine wpList_pos (by rfl) _ (by rfl) b6 (mvsR P F T G n) Y1 HY1.out (by rfl) H6.out ?_ | refine wpList_pos (by rfl) _ (by rfl) b8 (mvsR P F T G n) Y1 HY1.out (by rfl) H8.out ?_ | refine wpList_bin (by rfl) _ _ _ _ _ (by rfl) (.agg Y1) (.agg Y1) (.bool false) (by rfl) (by rfl) (fun W => by go_simp) HNX.out ?_)
  clear H6 H8 hee HNX MM MR
  refine forget_B (fun W => TL w W P B p n F T G D p2) HI.out ?_
  clear HI
  intro W20 hi
  have HI := Lib.hid hi
  clear hi
  have HN := Lib.hid hn2
  clear hn2
  go_wp2
  go_loopw [10] (fun v wr => ∃ (j : Nat) (Q : Nat → Int), j ≤ n ∧ v = .int .i64 (j : Int) ∧ TL w wr Q B p n F T G D p2) (fun v _ => n - (intOf v).toNat)
  case atStart => exact ⟨0, P, Nat.zero_le _, rfl, HI.out⟩
  case round =>
    clear HI
    obtain ⟨j, Q, hj, rfl, h1⟩ := hrel
    have HI := Lib.hid h1
    clear h1
    by_cases hlt : j < n
    · obtain ⟨pb, po, rfl⟩ := HI.out.r.addr hlt
      obtain ⟨qb, qo, rfl⟩ := HI.out.o.reads.addr hlt
      obtain ⟨fj, hfj⟩ : ∃ x, F j = x := ⟨_, rfl⟩
      obtain ⟨tj, htj⟩ : ∃ x, T j = x := ⟨_, rfl⟩
      obtain ⟨kj, hkj⟩ : ∃ x, G j = x := ⟨_, rfl⟩
      have HFJ := Lib.hid (show F j = fj ∧ T j = tj ∧ G j = kj from ⟨hfj, htj, hkj⟩)
      have HLT := Lib.hid hlt
      obtain ⟨Y, hY⟩ : ∃ Y, Y = (pc Q).toArray := ⟨_, rfl⟩
      obtain ⟨VV, hV⟩ : ∃ V, V = (pc (mvP Q fj tj kj)).toArray := ⟨_, rfl⟩
      obtain ⟨E, hE⟩ : ∃ E, fltN (handP Q) fj tj kj = E := ⟨_, rfl⟩
      obtain ⟨tk, htk⟩ : ∃ E, tkP Q fj tj kj = E := ⟨_, rfl⟩
      have HM1 := Lib.hid (fun W h1 h2 => move_any Q fj tj kj W B h1 h2)
      have HM2 := Lib.hid (fun W => rMove_any Q fj tj kj W)
      have HT1 := Lib.hid (fun W => takesP_any Q fj tj kj W)
      have HT2 := Lib.hid (fun W => rTakes_any Q fj tj kj W)
      rw [← hY, ← hV, hE] at HM1 HM2
      rw [← hY, htk] at HT1 HT2
      have HVV := Lib.hid hV
      have HVL := Lib.hid (show VV.toList = pc (mvP Q fj tj kj) by rw [hV])
      have HY := Lib.hid hY
      clear hY hV hE hfj htj hkj htk
      go_upto_region 11 with (fail)
      go_cut [11, 12] from 42 to 102 (fun v ev wx => ∃ H : Nat, v = .pointer (some ⟨H, 0, none⟩) ∧ ev = .int .i64 E ∧ PB wx H (mvP Q fj tj kj) ∧ TL w wx Q B (some ⟨pb, po, none⟩) n F T G D (some ⟨qb, qo, none⟩))
      case first =>
        refine wp_region_noPanic ?_
        refine wp_region_start (n := 12) (l := #[false, false, false, false, false, false, false, false, false, false, false, false]) (S := (fun W => TL w W Q B (some ⟨pb, po, none⟩) n F T G D (some ⟨qb, qo, none⟩))) (by kernel_rfl) rfl (by kernel_rfl) (by first | exact HI.out | exact TL.go HB.out HI.out (Below.refl _ _).drew) (fun hHeld => ?_)
        replace HI := Lib.hid (TL.go HB.out HI.out (Below.refl wr.heap.size wr).drew)
        generalize wr.drew = V at hHeld HI ⊢
        refine take_to (i := 0) (d := some 49) (v := (.agg Y)) (l' := #[true, false, false, false, false, false, false, false, false, false, false, false]) rfl rfl (by kernel_rfl) (by kernel_rfl) (by kernel_rfl) (by kernel_rfl) (fun _ _ _ h => h) ?_ (by assumption) ?_
        · exact yields_posC (by rfl) _ (by rfl) w.heap.size Q Y HY.out (by rfl) (fun W h => h.q)
        try simp only [Act.put, List.setIfInBounds_toArray, List.set_cons_zero, List.set_cons_succ]
        refine take_to (i := 1) (d := some 50) (v := ?_) (l' := #[true, true, false, false, false, false, false, false, false, false, false, false]) rfl rfl (by kernel_rfl) (by kernel_rfl) (by kernel_rfl) (by kernel_rfl) (fun _ _ _ h => h) (Or.inl ⟨by rfl, ?_⟩) (by assumption) ?_; rotate_left; · (intro w' hSw; (try dsimp only at hSw); go_simp; (try with_reducible rfl))
        try simp only [Act.put, List.setIfInBounds_toArray, List.set_cons_zero, List.set_cons_succ]
        refine take_to (i := 2) (d := some 51) (v := ?_) (l' := #[true, true, true, false, false, false, false, false, false, false, false, false]) rfl rfl (by kernel_rfl) (by kernel_rfl) (by kernel_rfl) (by kernel_rfl) (fun _ _ _ h => h) (Or.inl ⟨by rfl, ?_⟩) (by assumption) ?_; rotate_left; · (intro w' hSw; (try dsimp only at hSw); go_simp; (try with_reducible rfl))
        try simp only [Act.put, List.setIfInBounds_toArray, List.set_cons_zero, List.set_cons_succ]
        refine take_to (i := 3) (d := some 52) (v := ?_) (l' := #[true, true, true, true, false, false, false, false, false, false, false, false]) rfl rfl (by kernel_rfl) (by kernel_rfl) (by kernel_rfl) (by kernel_rfl) (fun _ _ _ h => h) (Or.inl ⟨by rfl, ?_⟩) (by assumption) ?_; rotate_left; · (intro w' hSw; (try dsimp only at hSw); go_simp; (try with_reducible rfl))
        try simp only [Act.put, List.setIfInBounds_toArray, List.set_cons_zero, List.set_cons_succ]
        refine take_to (i := 4) (d := some 53) (v := (.agg #[.int .i64 fj, .int .i64 tj, .int .i64 kj])) (l' := #[true, true, true, true, true, false, false, false, false, false, false, false]) rfl rfl (by kernel_rfl) (by kernel_rfl) (by kernel_rfl) (by kernel_rfl) (fun _ _ _ h => h) ?_ (by assumption) ?_
        · refine Or.inl ⟨by rfl, ?_⟩; intro w' hSw; obtain ⟨c0, c1, c2⟩ := hSw.r.cells HLT.out; rw [HFJ.out.1] at c0; rw [HFJ.out.2.1] at c1; rw [HFJ.out.2.2] at c2; go_simp
        try simp only [Act.put, List.setIfInBounds_toArray, List.set_cons_zero, List.set_cons_succ]
        refine two_to (i := 5) (j := 9) (l1 := #[true, true, true, true, true, true, false, false, false, false, false, false]) (l2 := #[true, true, true, true, true, false, false, false, false, true, false, false]) rfl rfl (by kernel_rfl) (by kernel_rfl) (by kernel_rfl) (fun K hK => ?_) (fun K hK => ?_)
        · skip
          go_simp
          refine (HM1.out _ HI.out.g HI.out.bb).mono ?_
          rintro e V ⟨rfl, hb⟩
          replace HI := Lib.hid (TL.go HB.out HI.out hb)
          try replace HZB := Lib.hid (HZB.out.go hb)
          clear hb
          dsimp only
          refine hK.out _ _ (by first | exact HI.out | exact TL.go HB.out HI.out (Below.refl _ _).drew) (fun hHeld => ?_)
          clear hK K
          try simp only [Act.put, List.setIfInBounds_toArray, List.set_cons_zero, List.set_cons_succ]
          refine take_to (i := 6) (d := some 48) (v := ?_) (l' := #[true, true, true, true, true, true, true, false, false, false, false, false]) rfl rfl (by kernel_rfl) (by kernel_rfl) (by kernel_rfl) (by kernel_rfl) (fun _ _ _ h => h) (Or.inl ⟨by rfl, ?_⟩) (by assumption) ?_; rotate_left; · (intro w' hSw; (try dsimp only at hSw); go_simp; (try with_reducible rfl))
          try simp only [Act.put, List.setIfInBounds_toArray, List.set_cons_zero, List.set_cons_succ]
          refine take_to (i := 7) (d := some 55) (v := ?_) (l' := #[true, true, true, true, true, true, true, true, false, false, false, false]) rfl rfl (by kernel_rfl) (by kernel_rfl) (by kernel_rfl) (by kernel_rfl) (fun _ _ _ h => h) (Or.inl ⟨by rfl, ?_⟩) (by assumption) ?_; rotate_left; · (intro w' hSw; (try dsimp only at hSw); go_simp; (try with_reducible rfl))
          try simp only [Act.put, List.setIfInBounds_toArray, List.set_cons_zero, List.set_cons_succ]
          refine take_to (i := 8) (d := some 56) (v := ?_) (l' := #[true, true, true, true, true, true, true, true, true, false, false, false]) rfl rfl (by kernel_rfl) (by kernel_rfl) (by kernel_rfl) (by kernel_rfl) (fun _ _ _ h => h) (Or.inl ⟨by rfl, ?_⟩) (by assumption) ?_; rotate_left; · (intro w' hSw; (try dsimp only at hSw); go_simp; (try with_reducible rfl))
          try simp only [Act.put, List.setIfInBounds_toArray, List.set_cons_zero, List.set_cons_succ]
          refine one_to (i := 9) (l' := #[true, true, true, true, true, true, true, true, true, true, false, false]) rfl (by kernel_rfl) (by kernel_rfl) (fun K hK => ?_)
          go_simp
          have HZB := Lib.hid (show PB (V.alloc (.cells Tryd.zeroCells29 29)) V.heap.size (fun _ => 0) by rw [zeroPos]; exact PB.new rfl)
          have HHL := Lib.hid (show D ≤ V.heap.size from HI.out.d)
          replace HI := Lib.hid (TL.go HB.out HI.out (below_new (.cells Tryd.zeroCells29 29)))
          generalize V.heap.size = H at HZB HHL ⊢
          generalize V.alloc (.cells Tryd.zeroCells29 29) = V at HZB HI ⊢
          refine hK.out _ _ (by first | exact HI.out | exact TL.go HB.out HI.out (Below.refl _ _).drew) (fun hHeld => ?_)
          clear hK K
          try simp only [Act.put, List.setIfInBounds_toArray, List.set_cons_zero, List.set_cons_succ]
          refine one_to (i := 10) (l' := #[true, true, true, true, true, true, true, true, true, true, true, false]) rfl (by kernel_rfl) (by kernel_rfl) (fun K hK => ?_)
          rw [if_pos (by rfl)]
          refine wp_store_mid 29 _ _ rfl H 0 VV rfl rfl (by rw [HVV.out, pc_size]; exact HZB.out.there) (by rw [infoPos, HVV.out, pc_size]) (by rw [HVV.out]; exact pc_one _) ?_
          rw [HVL.out]
          have HNB := Lib.hid (HZB.out.store (Q := mvP Q fj tj kj))
          replace HI := Lib.hid (HI.out.other HB.out HHL.out (mvP Q fj tj kj))
          generalize V.setCells H 0 (pc (mvP Q fj tj kj)) = V at HNB HI ⊢
          refine hK.out _ _ (by first | exact HI.out | exact TL.go HB.out HI.out (Below.refl _ _).drew) (fun hHeld => ?_)
          clear hK K
          try simp only [Act.put, List.setIfInBounds_toArray, List.set_cons_zero, List.set_cons_succ]
          refine take_to (i := 11) (d := some 12) (v := ?_) (l' := #[true, true, true, true, true, true, true, true, true, true, true, true]) rfl rfl (by kernel_rfl) (by kernel_rfl) (by kernel_rfl) (by kernel_rfl) (fun _ _ _ h => h) (Or.inl ⟨by rfl, ?_⟩) (by assumption) ?_; rotate_left; · (intro w' hSw; (try dsimp only at hSw); go_simp; (try with_reducible rfl))
          try simp only [Act.put, List.setIfInBounds_toArray, List.set_cons_zero, List.set_cons_succ]
          refine wpAnyH_done (by kernel_rfl) ?_ _
          refine NoPanic.normal ?_
          clear hHeld
          go_wp2_with fail
          go_meet
          exact ⟨H, rfl, rfl, HNB.out, HI.out⟩
        · skip
          go_simp
          have HZB := Lib.hid (show PB (V.alloc (.cells Tryd.zeroCells29 29)) V.heap.size (fun _ => 0) by rw [zeroPos]; exact PB.new rfl)
          have HHL := Lib.hid (show D ≤ V.heap.size from HI.out.d)
          replace HI := Lib.hid (TL.go HB.out HI.out (below_new (.cells Tryd.zeroCells29 29)))
          generalize V.heap.size = H at HZB HHL ⊢
          generalize V.alloc (.cells Tryd.zeroCells29 29) = V at HZB HI ⊢
          refine hK.out _ _ (by first | exact HI.out | exact TL.go HB.out HI.out (Below.refl _ _).drew) (fun hHeld => ?_)
          clear hK K
          try simp only [Act.put, List.setIfInBounds_toArray, List.set_cons_zero, List.set_cons_succ]
          refine one_to (i := 5) (l' := #[true, true, true, true, true, true, false, false, false, true, false, false]) rfl (by kernel_rfl) (by kernel_rfl) (fun K hK => ?_)
          go_simp
          refine (HM1.out _ HI.out.g HI.out.bb).mono ?_
          rintro e V ⟨rfl, hb⟩
          replace HI := Lib.hid (TL.go HB.out HI.out hb)
          try replace HZB := Lib.hid (HZB.out.go hb)
          clear hb
          dsimp only
          refine hK.out _ _ (by first | exact HI.out | exact TL.go HB.out HI.out (Below.refl _ _).drew) (fun hHeld => ?_)
          clear hK K
          try simp only [Act.put, List.setIfInBounds_toArray, List.set_cons_zero, List.set_cons_succ]
          refine take_to (i := 6) (d := some 48) (v := ?_) (l' := #[true, true, true, true, true, true, true, false, false, true, false, false]) rfl rfl (by kernel_rfl) (by kernel_rfl) (by kernel_rfl) (by kernel_rfl) (fun _ _ _ h => h) (Or.inl ⟨by rfl, ?_⟩) (by assumption) ?_; rotate_left; · (intro w' hSw; (try dsimp only at hSw); go_simp; (try with_reducible rfl))
          try simp only [Act.put, List.setIfInBounds_toArray, List.set_cons_zero, List.set_cons_succ]
          refine take_to (i := 7) (d := some 55) (v := ?_) (l' := #[true, true, true, true, true, true, true, true, false, true, false, false]) rfl rfl (by kernel_rfl) (by kernel_rfl) (by kernel_rfl) (by kernel_rfl) (fun _ _ _ h => h) (Or.inl ⟨by rfl, ?_⟩) (by assumption) ?_; rotate_left; · (intro w' hSw; (try dsimp only at hSw); go_simp; (try with_reducible rfl))
          try simp only [Act.put, List.setIfInBounds_toArray, List.set_cons_zero, List.set_cons_succ]
          refine take_to (i := 8) (d := some 56) (v := ?_) (l' := #[true, true, true, true, true, true, true, true, true, true, false, false]) rfl rfl (by kernel_rfl) (by kernel_rfl) (by kernel_rfl) (by kernel_rfl) (fun _ _ _ h => h) (Or.inl ⟨by rfl, ?_⟩) (by assumption) ?_; rotate_left; · (intro w' hSw; (try dsimp only at hSw); go_simp; (try with_reducible rfl))
          try simp only [Act.put, List.setIfInBounds_toArray, List.set_cons_zero, List.set_cons_succ]
          refine one_to (i := 10) (l' := #[true, true, true, true, true, true, true, true, true, true, true, false]) rfl (by kernel_rfl) (by kernel_rfl) (fun K hK => ?_)
          rw [if_pos (by rfl)]
          refine wp_store_mid 29 _ _ rfl H 0 VV rfl rfl (by rw [HVV.out, pc_size]; exact HZB.out.there) (by rw [infoPos, HVV.out, pc_size]) (by rw [HVV.out]; exact pc_one _) ?_
          rw [HVL.out]
          have HNB := Lib.hid (HZB.out.store (Q := mvP Q fj tj kj))
          replace HI := Lib.hid (HI.out.other HB.out HHL.out (mvP Q fj tj kj))
          generalize V.setCells H 0 (pc (mvP Q fj tj kj)) = V at HNB HI ⊢
          refine hK.out _ _ (by first | exact HI.out | exact TL.go HB.out HI.out (Below.refl _ _).drew) (fun hHeld => ?_)
          clear hK K
          try simp only [Act.put, List.setIfInBounds_toArray, List.set_cons_zero, List.set_cons_succ]
          refine take_to (i := 11) (d := some 12) (v := ?_) (l' := #[true, true, true, true, true, true, true, true, true, true, true, true]) rfl rfl (by kernel_rfl) (by kernel_rfl) (by kernel_rfl) (by kernel_rfl) (fun _ _ _ h => h) (Or.inl ⟨by rfl, ?_⟩) (by assumption) ?_; rotate_left; · (intro w' hSw; (try dsimp only at hSw); go_simp; (try with_reducible rfl))
          try simp only [Act.put, List.setIfInBounds_toArray, List.set_cons_zero, List.set_cons_succ]
          refine wpAnyH_done (by kernel_rfl) ?_ _
          refine NoPanic.normal ?_
          clear hHeld
          go_wp2_with fail
          go_meet
          exact ⟨H, rfl, rfl, HNB.out, HI.out⟩
      case rest =>
      obtain ⟨HA, rfl, rfl, hna, hi⟩ := hcut
      have HI := Lib.hid (TLA.mk hi hna)
      clear hi hna
      go_upto_region 12 with (fail)
      go_cut [13, 14] from 42 to 102 (fun v ev wx => ∃ H : Nat, v = .pointer (some ⟨H, 0, none⟩) ∧ ev = .int .i64 E ∧ PB wx H (mvP Q fj tj kj) ∧ TLA w wx Q B (some ⟨pb, po, none⟩) n F T G D (some ⟨qb, qo, none⟩) HA (mvP Q fj tj kj))
      case first =>
        refine wp_region_noPanic ?_
        refine wp_region_start (n := 12) (l := #[false, false, false, false, false, false, false, false, false, false, false, false]) (S := (fun W => TLA w W Q B (some ⟨pb, po, none⟩) n F T G D (some ⟨qb, qo, none⟩) HA (mvP Q fj tj kj))) (by kernel_rfl) rfl (by kernel_rfl) (by first | exact HI.out | exact TLA.go HB.out HI.out (Below.refl _ _).drew) (fun hHeld => ?_)
        replace HI := Lib.hid (TLA.go HB.out HI.out (Below.refl wc.heap.size wc).drew)
        generalize wc.drew = V at hHeld HI ⊢
        refine take_to (i := 0) (d := some 58) (v := (.agg Y)) (l' := #[true, false, false, false, false, false, false, false, false, false, false, false]) rfl rfl (by kernel_rfl) (by kernel_rfl) (by kernel_rfl) (by kernel_rfl) (fun _ _ _ h => h) ?_ (by assumption) ?_
        · exact yields_posC (by rfl) _ (by rfl) w.heap.size Q Y HY.out (by rfl) (fun W h => h.t.q)
        try simp only [Act.put, List.setIfInBounds_toArray, List.set_cons_zero, List.set_cons_succ]
        refine take_to (i := 1) (d := some 59) (v := ?_) (l' := #[true, true, false, false, false, false, false, false, false, false, false, false]) rfl rfl (by kernel_rfl) (by kernel_rfl) (by kernel_rfl) (by kernel_rfl) (fun _ _ _ h => h) (Or.inl ⟨by rfl, ?_⟩) (by assumption) ?_; rotate_left; · (intro w' hSw; (try dsimp only at hSw); go_simp; (try with_reducible rfl))
        try simp only [Act.put, List.setIfInBounds_toArray, List.set_cons_zero, List.set_cons_succ]
        refine take_to (i := 2) (d := some 60) (v := ?_) (l' := #[true, true, true, false, false, false, false, false, false, false, false, false]) rfl rfl (by kernel_rfl) (by kernel_rfl) (by kernel_rfl) (by kernel_rfl) (fun _ _ _ h => h) (Or.inl ⟨by rfl, ?_⟩) (by assumption) ?_; rotate_left; · (intro w' hSw; (try dsimp only at hSw); go_simp; (try with_reducible rfl))
        try simp only [Act.put, List.setIfInBounds_toArray, List.set_cons_zero, List.set_cons_succ]
        refine take_to (i := 3) (d := some 61) (v := ?_) (l' := #[true, true, true, true, false, false, false, false, false, false, false, false]) rfl rfl (by kernel_rfl) (by kernel_rfl) (by kernel_rfl) (by kernel_rfl) (fun _ _ _ h => h) (Or.inl ⟨by rfl, ?_⟩) (by assumption) ?_; rotate_left; · (intro w' hSw; (try dsimp only at hSw); go_simp; (try with_reducible rfl))
        try simp only [Act.put, List.setIfInBounds_toArray, List.set_cons_zero, List.set_cons_succ]
        refine take_to (i := 4) (d := some 62) (v := (.agg #[.int .i64 fj, .int .i64 tj, .int .i64 kj])) (l' := #[true, true, true, true, true, false, false, false, false, false, false, false]) rfl rfl (by kernel_rfl) (by kernel_rfl) (by kernel_rfl) (by kernel_rfl) (fun _ _ _ h => h) ?_ (by assumption) ?_
        · refine Or.inl ⟨by rfl, ?_⟩; intro w' hSw; obtain ⟨c0, c1, c2⟩ := hSw.t.r.cells HLT.out; rw [HFJ.out.1] at c0; rw [HFJ.out.2.1] at c1; rw [HFJ.out.2.2] at c2; go_simp
        try simp only [Act.put, List.setIfInBounds_toArray, List.set_cons_zero, List.set_cons_succ]
        refine two_to (i := 5) (j := 9) (l1 := #[true, true, true, true, true, true, false, false, false, false, false, false]) (l2 := #[true, true, true, true, true, false, false, false, false, true, false, false]) rfl rfl (by kernel_rfl) (by kernel_rfl) (by kernel_rfl) (fun K hK => ?_) (fun K hK => ?_)
        · skip
          go_simp
          refine (HM2.out _).mono ?_
          rintro e V ⟨rfl, hb⟩
          replace HI := Lib.hid (TLA.go HB.out HI.out hb)
          try replace HZB := Lib.hid (HZB.out.go hb)
          clear hb
          dsimp only
          refine hK.out _ _ (by first | exact HI.out | exact TLA.go HB.out HI.out (Below.refl _ _).drew) (fun hHeld => ?_)
          clear hK K
          try simp only [Act.put, List.setIfInBounds_toArray, List.set_cons_zero, List.set_cons_succ]
          refine take_to (i := 6) (d := some 57) (v := ?_) (l' := #[true, true, true, true, true, true, true, false, false, false, false, false]) rfl rfl (by kernel_rfl) (by kernel_rfl) (by kernel_rfl) (by kernel_rfl) (fun _ _ _ h => h) (Or.inl ⟨by rfl, ?_⟩) (by assumption) ?_; rotate_left; · (intro w' hSw; (try dsimp only at hSw); go_simp; (try with_reducible rfl))
          try simp only [Act.put, List.setIfInBounds_toArray, List.set_cons_zero, List.set_cons_succ]
          refine take_to (i := 7) (d := some 64) (v := ?_) (l' := #[true, true, true, true, true, true, true, true, false, false, false, false]) rfl rfl (by kernel_rfl) (by kernel_rfl) (by kernel_rfl) (by kernel_rfl) (fun _ _ _ h => h) (Or.inl ⟨by rfl, ?_⟩) (by assumption) ?_; rotate_left; · (intro w' hSw; (try dsimp only at hSw); go_simp; (try with_reducible rfl))
          try simp only [Act.put, List.setIfInBounds_toArray, List.set_cons_zero, List.set_cons_succ]
          refine take_to (i := 8) (d := some 65) (v := ?_) (l' := #[true, true, true, true, true, true, true, true, true, false, false, false]) rfl rfl (by kernel_rfl) (by kernel_rfl) (by kernel_rfl) (by kernel_rfl) (fun _ _ _ h => h) (Or.inl ⟨by rfl, ?_⟩) (by assumption) ?_; rotate_left; · (intro w' hSw; (try dsimp only at hSw); go_simp; (try with_reducible rfl))
          try simp only [Act.put, List.setIfInBounds_toArray, List.set_cons_zero, List.set_cons_succ]
          refine one_to (i := 9) (l' := #[true, true, true, true, true, true, true, true, true, true, false, false]) rfl (by kernel_rfl) (by kernel_rfl) (fun K hK => ?_)
          go_simp
          have HZB := Lib.hid (show PB (V.alloc (.cells Tryd.zeroCells29 29)) V.heap.size (fun _ => 0) by rw [zeroPos]; exact PB.new rfl)
          have HHL := Lib.hid (show D ≤ V.heap.size ∧ HA < V.heap.size from ⟨HI.out.t.d, HI.out.a.lt⟩)
          replace HI := Lib.hid (TLA.go HB.out HI.out (below_new (.cells Tryd.zeroCells29 29)))
          generalize V.heap.size = H at HZB HHL ⊢
          generalize V.alloc (.cells Tryd.zeroCells29 29) = V at HZB HI ⊢
          refine hK.out _ _ (by first | exact HI.out | exact TLA.go HB.out HI.out (Below.refl _ _).drew) (fun hHeld => ?_)
          clear hK K
          try simp only [Act.put, List.setIfInBounds_toArray, List.set_cons_zero, List.set_cons_succ]
          refine one_to (i := 10) (l' := #[true, true, true, true, true, true, true, true, true, true, true, false]) rfl (by kernel_rfl) (by kernel_rfl) (fun K hK => ?_)
          rw [if_pos (by rfl)]
          refine wp_store_mid 29 _ _ rfl H 0 VV rfl rfl (by rw [HVV.out, pc_size]; exact HZB.out.there) (by rw [infoPos, HVV.out, pc_size]) (by rw [HVV.out]; exact pc_one _) ?_
          rw [HVL.out]
          have HNB := Lib.hid (HZB.out.store (Q := mvP Q fj tj kj))
          replace HI := Lib.hid (HI.out.other HB.out HHL.out.1 (by have := HHL.out.2; omega) (mvP Q fj tj kj))
          generalize V.setCells H 0 (pc (mvP Q fj tj kj)) = V at HNB HI ⊢
          refine hK.out _ _ (by first | exact HI.out | exact TLA.go HB.out HI.out (Below.refl _ _).drew) (fun hHeld => ?_)
          clear hK K
          try simp only [Act.put, List.setIfInBounds_toArray, List.set_cons_zero, List.set_cons_succ]
          refine take_to (i := 11) (d := some 14) (v := ?_) (l' := #[true, true, true, true, true, true, true, true, true, true, true, true]) rfl rfl (by kernel_rfl) (by kernel_rfl) (by kernel_rfl) (by kernel_rfl) (fun _ _ _ h => h) (Or.inl ⟨by rfl, ?_⟩) (by assumption) ?_; rotate_left; · (intro w' hSw; (try dsimp only at hSw); go_simp; (try with_reducible rfl))
          try simp only [Act.put, List.setIfInBounds_toArray, List.set_cons_zero, List.set_cons_succ]
          refine wpAnyH_done (by kernel_rfl) ?_ _
          refine NoPanic.normal ?_
          clear hHeld
          go_wp2_with fail
          go_meet
          exact ⟨H, rfl, rfl, HNB.out, HI.out⟩
        · skip
          go_simp
          have HZB := Lib.hid (show PB (V.alloc (.cells Tryd.zeroCells29 29)) V.heap.size (fun _ => 0) by rw [zeroPos]; exact PB.new rfl)
          have HHL := Lib.hid (show D ≤ V.heap.size ∧ HA < V.heap.size from ⟨HI.out.t.d, HI.out.a.lt⟩)
          replace HI := Lib.hid (TLA.go HB.out HI.out (below_new (.cells Tryd.zeroCells29 29)))
          generalize V.heap.size = H at HZB HHL ⊢
          generalize V.alloc (.cells Tryd.zeroCells29 29) = V at HZB HI ⊢
          refine hK.out _ _ (by first | exact HI.out | exact TLA.go HB.out HI.out (Below.refl _ _).drew) (fun hHeld => ?_)
          clear hK K
          try simp only [Act.put, List.setIfInBounds_toArray, List.set_cons_zero, List.set_cons_succ]
          refine one_to (i := 5) (l' := #[true, true, true, true, true, true, false, false, false, true, false, false]) rfl (by kernel_rfl) (by kernel_rfl) (fun K hK => ?_)
          go_simp
          refine (HM2.out _).mono ?_
          rintro e V ⟨rfl, hb⟩
          replace HI := Lib.hid (TLA.go HB.out HI.out hb)
          try replace HZB := Lib.hid (HZB.out.go hb)
          clear hb
          dsimp only
          refine hK.out _ _ (by first | exact HI.out | exact TLA.go HB.out HI.out (Below.refl _ _).drew) (fun hHeld => ?_)
          clear hK K
          try simp only [Act.put, List.setIfInBounds_toArray, List.set_cons_zero, List.set_cons_succ]
          refine take_to (i := 6) (d := some 57) (v := ?_) (l' := #[true, true, true, true, true, true, true, false, false, true, false, false]) rfl rfl (by kernel_rfl) (by kernel_rfl) (by kernel_rfl) (by kernel_rfl) (fun _ _ _ h => h) (Or.inl ⟨by rfl, ?_⟩) (by assumption) ?_; rotate_left; · (intro w' hSw; (try dsimp only at hSw); go_simp; (try with_reducible rfl))
          try simp only [Act.put, List.setIfInBounds_toArray, List.set_cons_zero, List.set_cons_succ]
          refine take_to (i := 7) (d := some 64) (v := ?_) (l' := #[true, true, true, true, true, true, true, true, false, true, false, false]) rfl rfl (by kernel_rfl) (by kernel_rfl) (by kernel_rfl) (by kernel_rfl) (fun _ _ _ h => h) (Or.inl ⟨by rfl, ?_⟩) (by assumption) ?_; rotate_left; · (intro w' hSw; (try dsimp only at hSw); go_simp; (try with_reducible rfl))
          try simp only [Act.put, List.setIfInBounds_toArray, List.set_cons_zero, List.set_cons_succ]
          refine take_to (i := 8) (d := some 65) (v := ?_) (l' := #[true, true, true, true, true, true, true, true, true, true, false, false]) rfl rfl (by kernel_rfl) (by kernel_rfl) (by kernel_rfl) (by kernel_rfl) (fun _ _ _ h => h) (Or.inl ⟨by rfl, ?_⟩) (by assumption) ?_; rotate_left; · (intro w' hSw; (try dsimp only at hSw); go_simp; (try with_reducible rfl))
          try simp only [Act.put, List.setIfInBounds_toArray, List.set_cons_zero, List.set_cons_succ]
          refine one_to (i := 10) (l' := #[true, true, true, true, true, true, true, true, true, true, true, false]) rfl (by kernel_rfl) (by kernel_rfl) (fun K hK => ?_)
          rw [if_pos (by rfl)]
          refine wp_store_mid 29 _ _ rfl H 0 VV rfl rfl (by rw [HVV.out, pc_size]; exact HZB.out.there) (by rw [infoPos, HVV.out, pc_size]) (by rw [HVV.out]; exact pc_one _) ?_
          rw [HVL.out]
          have HNB := Lib.hid (HZB.out.store (Q := mvP Q fj tj kj))
          replace HI := Lib.hid (HI.out.other HB.out HHL.out.1 (by have := HHL.out.2; omega) (mvP Q fj tj kj))
          generalize V.setCells H 0 (pc (mvP Q fj tj kj)) = V at HNB HI ⊢
          refine hK.out _ _ (by first | exact HI.out | exact TLA.go HB.out HI.out (Below.refl _ _).drew) (fun hHeld => ?_)
          clear hK K
          try simp only [Act.put, List.setIfInBounds_toArray, List.set_cons_zero, List.set_cons_succ]
          refine take_to (i := 11) (d := some 14) (v := ?_) (l' := #[true, true, true, true, true, true, true, true, true, true, true, true]) rfl rfl (by kernel_rfl) (by kernel_rfl) (by kernel_rfl) (by kernel_rfl) (fun _ _ _ h => h) (Or.inl ⟨by rfl, ?_⟩) (by assumption) ?_; rotate_left; · (intro w' hSw; (try dsimp only at hSw); go_simp; (try with_reducible rfl))
          try simp only [Act.put, List.setIfInBounds_toArray, List.set_cons_zero, List.set_cons_succ]
          refine wpAnyH_done (by kernel_rfl) ?_ _
          refine NoPanic.normal ?_
          clear hHeld
          go_wp2_with fail
          go_meet
          exact ⟨H, rfl, rfl, HNB.out, HI.out⟩
      case rest =>
      obtain ⟨HC, rfl, rfl, hnc, hi⟩ := hcut
      have HI := Lib.hid hi
      have HNC := Lib.hid hnc
      clear hi hnc
      have HNX := Lib.hid (show ∀ W, (binOp .neq 29 (.agg VV) (.agg VV)).run Tryd.prog W = .ok (.bool false) W from fun W => by rw [HVV.out, neq_pos, posEq_self]; rfl)
      have HNM := Lib.hid (neq_mv fj tj kj)
      have hee : (E != E) = false := by simp
      have htt : (tk != tk) = false := by simp
      obtain ⟨c0, c1, c2⟩ := HI.out.t.r.cells HLT.out
      obtain ⟨d0, d1, d2⟩ := HI.out.t.o.reads.cells HLT.out
      rw [HFJ.out.1] at c0 d0
      rw [HFJ.out.2.1] at c1 d1
      rw [HFJ.out.2.2] at c2 d2
      have hlt0 : (j : Int) < (n : Int) := by have := HLT.out; omega
      have hj0 : (0 : Int) ≤ (j : Int) := by omega
      go_upto_region 13 with (fail)
      replace c0 := cell_regrown c0
      replace c1 := cell_regrown c1
      replace c2 := cell_regrown c2
      replace d0 := cell_regrown d0
      replace d1 := cell_regrown d1
      replace d2 := cell_regrown d2
      have k1 := regrown_call (w := wc) HT1.out
      have k2 := regrown_call (w := wc) HT2.out
      have HPQ := Lib.hid (HI.out.t.q.regrown)
      have HPA := Lib.hid (HI.out.a.regrown)
      have HPC := Lib.hid (HNC.out.regrown)
      refine wp_region_quiet_below (by kernel_rfl) (by kernel_rfl) ?_
      refine wpQuiet_pos (by rfl) _ (by rfl) HA (mvP Q fj tj kj) VV HVV.out (by rfl) HPA.out ?_
      try simp only [Act.put, List.setIfInBounds_toArray, List.set_cons_zero, List.set_cons_succ]
      refine wpQuiet_pos (by rfl) _ (by rfl) HC (mvP Q fj tj kj) VV HVV.out (by rfl) HPC.out ?_
      try simp only [Act.put, List.setIfInBounds_toArray, List.set_cons_zero, List.set_cons_succ]
      refine wpQuiet_bin (by rfl) _ _ _ _ _ (by rfl) (.agg VV) (.agg VV) (.bool false) (by rfl) (by rfl) (fun W => by go_simp) HNX.out ?_
      try simp only [Act.put, List.setIfInBounds_toArray, List.set_cons_zero, List.set_cons_succ]
      repeat (quiet_step (fail))
      refine wpQuiet_pos (by rfl) _ (by rfl) w.heap.size Q Y HY.out (by rfl) HPQ.out ?_
      try simp only [Act.put, List.setIfInBounds_toArray, List.set_cons_zero, List.set_cons_succ]
      repeat (quiet_step (fail))
      go_big_quiet_step (exact k1 _ _)
      refine wpQuiet_pos (by rfl) _ (by rfl) w.heap.size Q Y HY.out (by rfl) HPQ.out ?_
      try simp only [Act.put, List.setIfInBounds_toArray, List.set_cons_zero, List.set_cons_succ]
      repeat (quiet_step (fail))
      go_big_quiet_step (exact k2 _ _)
      repeat (quiet_step (fail))
      refine wpQuiet_nil ?_
      rintro W30 ⟨q, rfl⟩
      replace HI := Lib.hid (HI.out.go HB.out (below_regrown wc q.d q.os))
      clear c0 c1 c2 d0 d1 d2 k1 k2 HPQ HPA HPC HNC HNM HNX
      generalize grow (redrawn wc q.d) q.os = W30 at HI ⊢
      by_cases hE0 : E = 0
      · have hE1 : (E == 0) = true := by simp [hE0]
        go_upto_region 16 with (fail)
        refine wp_region_lit ?_
        refine wpList_pos (by rfl) _ (by rfl) HA (mvP Q fj tj kj) VV HVV.out (by rfl) HI.out.a ?_
        refine wpList_store_mid rfl 29 _ _ rfl w.heap.size 0 VV rfl rfl (by rw [HVV.out, pc_size]; exact HI.out.t.q.there) (by rw [infoPos, HVV.out, pc_size]) (by rw [HVV.out]; exact pc_one _) ?_
        refine forgetL_B (fun W => TL w W (mvP Q fj tj kj) B (some ⟨pb, po, none⟩) n F T G D (some ⟨qb, qo, none⟩)) (by rw [HVL.out]; exact HI.out.t.store HB.out _) ?_
        clear HI
        intro W2 hi
        have HI := Lib.hid hi
        clear hi
        go_wp2
        go_roundw
        case rel => exact ⟨j + 1, _, by omega, by go_num, HI.out⟩
        case measure => simp [intOf]; omega
      · have hE1 : (E == 0) = false := by simp [hE0]
        go_wp2
        go_roundw
        case rel => exact ⟨j + 1, _, by omega, by go_num, HI.out.t⟩
        case measure => simp [intOf]; omega
    · obtain rfl : j = n := by omega
      go_wp2_with fail
      refine (awakeP_any _ B HI.out.g HI.out.bb).mono ?_
      rintro e w1 ⟨rfl, hb⟩
      go_wp2
      go_ret
      exact ⟨rfl, HI.out.b.trans (hb.mono HI.out.b.size)⟩
end Go.Proofs.YtlfapakllhhadaaDoor
