/-
  The walk of BoardPuts.
-/
import Derived.Test.YteahikjnlhlmmaaDoorBy
namespace Go.Proofs.YteahikjnlhlmmaaDoor
open Go.RowKit Go.Sort
set_option linter.unusedSimpArgs false
set_option linter.unusedVariables false

theorem cnt_fnd (P : Nat → Int) (d : Int) (n : Nat) : (fnd P 6 d n).length = cnt P d n := by
  induction n with
  | zero => rfl
  | succ n ih => simp only [fnd, cnt, List.length_append, ih]; split <;> rfl
/-- a right position has its kings -/
theorem king_right (P : Nat → Int) (d : Int) (h : cnt P d 64 = 1) : ∃ j : Nat, j < 64 ∧ kingN P d = (j : Int) ∧ P (2 * j) = 6 ∧ P (2 * j + 1) = d := by
  have hl : (fnd P 6 d 64).length = 1 := by rw [cnt_fnd, h]
  obtain ⟨x, hx⟩ := List.length_eq_one_iff.1 hl
  have hk : kingN P d = x := by rw [kingN_eq, hx]; rfl
  obtain ⟨j, hj, e, h1, h2⟩ := (fnd_mem P 6 d 64 x).1 (by rw [hx]; simp)
  exact ⟨j, hj, by rw [hk, e], h1, h2⟩
theorem right_parts (P : Nat → Int) (h : rightB P = true) : okS P 64 = true ∧ cnt P 0 64 = 1 ∧ cnt P 1 64 = 1 := by
  rw [rightB_eq] at h
  unfold piecesB at h
  simp only [Bool.and_eq_true, beq_iff_eq] at h
  exact ⟨h.1.1.1.1.1.1, h.1.1.1.1.1.2, h.1.1.1.1.2⟩
theorem can_right (P : Nat → Int) (h : okS P 64 = true) (m : Nat) (hm : m < 64) : canP (P (2 * m)) (P (2 * m + 1)) = true := by
  have hb := (okS_iff P 64).1 h m hm
  unfold badP at hb
  unfold canP
  cases h1 : pe (P (2 * m)) (P (2 * m + 1)) 0 0 <;> cases h2 : mayB (P (2 * m)) (P (2 * m + 1)) <;> simp_all
/-- one piece put -/
def put1 (P : Nat → Int) (m : Nat) (k d : Int) : Nat → Int := setN (setN P (2 * m) k) (2 * m + 1) d
theorem put1_other (P : Nat → Int) (m : Nat) (k d : Int) (s : Nat) (h : s ≠ m) : put1 P m k d (2 * s) = P (2 * s) ∧ put1 P m k d (2 * s + 1) = P (2 * s + 1) := by
  unfold put1 setN
  exact ⟨by rw [if_neg (by omega), if_neg (by omega)], by rw [if_neg (by omega), if_neg (by omega)]⟩
theorem put1_same (P : Nat → Int) (m : Nat) (k d : Int) : put1 P m k d (2 * m) = k ∧ put1 P m k d (2 * m + 1) = d := by
  unfold put1 setN
  exact ⟨by rw [if_neg (by omega), if_pos rfl], by rw [if_pos rfl]⟩
theorem put1_back (P : Nat → Int) (m : Nat) (k d : Int) : put1 (put1 P m k d) m (P (2 * m)) (P (2 * m + 1)) = P := by
  funext i
  unfold put1 setN
  by_cases h1 : i = 2 * m + 1
  · rw [if_pos h1, h1]
  · by_cases h2 : i = 2 * m
    · rw [if_neg h1, if_pos h2, h2]
    · rw [if_neg h1, if_neg h2, if_neg h1, if_neg h2]
theorem fnd_put1 (P : Nat → Int) (m : Nat) (k d a b : Int) (n : Nat) : (n ≤ m → fnd (put1 P m k d) a b n = fnd P a b n) ∧ (fnd (put1 P m k d) a b n).length ≤ (fnd P a b n).length + 1 ∧ (n ≤ m → (fnd (put1 P m k d) a b n).length ≤ (fnd P a b n).length) := by
  induction n with
  | zero => exact ⟨fun _ => rfl, Nat.zero_le _, fun _ => Nat.le_refl _⟩
  | succ n ih =>
    obtain ⟨h1, h2, h3⟩ := ih
    by_cases hn : n = m
    · subst hn
      refine ⟨fun h => by omega, ?_, fun h => by omega⟩
      have := h3 (Nat.le_refl _)
      simp only [fnd, List.length_append]
      split <;> split <;> simp <;> omega
    · obtain ⟨e1, e2⟩ := put1_other P m k d n hn
      refine ⟨fun h => ?_, ?_, fun h => ?_⟩
      · simp only [fnd]; rw [h1 (by omega), e1, e2]
      · simp only [fnd, List.length_append]; rw [e1, e2]; omega
      · simp only [fnd, List.length_append]; rw [e1, e2]; have := h3 (by omega); omega
theorem putQ_one (P : Nat → Int) (k d : Int) (m : Nat) (hm : m < 64) (hc : canP k d = true) (g : Nat → Int) (hg : g 0 = (m : Int)) : putQ P k d g 1 = put1 P m k d ∧ putE k d g 1 = 0 := by
  have ho : okN g 1 = true := by show (true && sq (g 0)) = true; rw [hg, Bool.true_and]; exact (sq_iff _).2 (by omega)
  unfold putQ putE
  rw [hc, ho]
  refine ⟨?_, rfl⟩
  show putN P k d g 1 = _
  show setN (setN P (2 * (g 0).toNat) k) (2 * (g 0).toNat + 1) d = _
  rw [hg, Int.toNat_natCast]; rfl
/-- is a number among the first j of a row -/
def among (L : List Int) (x : Int) : Nat → Bool
  | 0 => false
  | j + 1 => among L x j || (L.getD j 0 == x)
theorem among_mem (L : List Int) (x : Int) (h : x ∈ L) : among L x L.length = true := by
  obtain ⟨i, hi, rfl⟩ := List.mem_iff_getElem.1 h
  have : ∀ n, i < n → among L L[i] n = true := by
    intro n hn
    induction n with
    | zero => omega
    | succ n ih =>
      unfold among
      rcases Nat.lt_succ_iff_lt_or_eq.1 hn with h | rfl
      · rw [ih h]; rfl
      · simp [List.getD, hi]
  exact this _ hi
/-- two values are compared, in a region that does not draw -/
theorem wpList_bin {ops : Array Oper} {rest : List Oper} {op : Oper} {a : Act} {w : World} {Q : Exit → Act → World → Prop} (hw : Region.wanted op (yielded ops a.tmps) = true) (bop : BinOp) (x y : Operand) (t r : TypeId) (ho : op.op = .binOp bop t x y r)
    (v1 v2 v : Value) (hx : a.eval x = v1) (hy : a.eval y = v2) (hg : ∀ W, (eqGuard bop t x y v1 v2).run Tryd.prog W = .ok () W) (h : ∀ W, (binOp bop t v1 v2).run Tryd.prog W = .ok v W) (k : wpList Tryd.prog ops Q rest (a.put op.dst v) w) : wpList Tryd.prog ops Q (op :: rest) a w :=
  BigFrame.wpList_want hw fun _ hK => by
    unfold Oper.wp execOp
    simp [ho, hx, hy, hg, h]
    exact hK _ _ k
/-- a position is loaded, in a walk of the text's order -/
theorem wpQuiet_pos {ops : Array Oper} {C : World → Prop} {Q : Act → Prop} {rest : List Oper} {o : Oper} {a : Act} (hw : Region.wanted o (yielded ops a.tmps) = true) (x : Operand) (ho : o.op = .load 29 x)
    (b : Nat) (P : Nat → Int) (X : Array Value) (hX : X = (pc P).toArray) (hx : a.eval x = .pointer (some ⟨b, 0, none⟩)) (hc : ∀ W, C W → PB W b P) (h : wpQuiet Tryd.prog ops C Q rest (a.put o.dst (.agg X))) : wpQuiet Tryd.prog ops C Q (o :: rest) a := by
  subst hX
  exact wpQuiet_rows (b := b) (ty := 29) (x := x) (cs := pc P) (fun W hW => (hc W hW).range) Tryd.underlying29 rfl (by rw [infoPos, pc_len]) hw ho hx h
/-- what stands in BoardPuts -/
structure TP (B : Nat) (w W : World) (b9 b11 b13 : Nat) (P Q : Nat → Int) (k d u v : Int) : Prop where
  p : PB W w.heap.size P
  x : W.heap[b9]? = some (.cells #[.int .i64 k, .int .i64 d] 25 (0, 0))
  q : PB W b11 Q
  y : W.heap[b13]? = some (.cells #[.int .i64 u, .int .i64 v] 25 (0, 0))
  b : Below w.heap.size w W
  g : GB B W
theorem TP.go {B : Nat} {w W W' : World} {b9 b11 b13 : Nat} {P Q : Nat → Int} {k d u v : Int} (hB : B ≤ w.heap.size) (h : TP B w W b9 b11 b13 P Q k d u v) (g : Below W.heap.size W W') : TP B w W' b9 b11 b13 P Q k d u v :=
  ⟨h.p.go g, sl_go h.x g, h.q.go g, sl_go h.y g, h.b.trans (g.mono h.b.size), h.g.below (g.mono (Nat.le_trans hB h.b.size))⟩
theorem TP.other {B : Nat} {w W0 W : World} {b9 b11 b13 : Nat} {P Q : Nat → Int} {k d u v : Int} (hB : B ≤ w.heap.size) (h0 : TP B w W0 b9 b11 b13 P Q k d u v) (h : TP B w W b9 b11 b13 P Q k d u v) (c i : Nat) (hc : W0.heap.size ≤ c) (x : Value) : TP B w (W.setCell ⟨c, i, none⟩ x) b9 b11 b13 P Q k d u v := by
  have l1 := h0.p.lt
  have l2 := h0.q.lt
  have l3 := (Array.getElem?_eq_some_iff.1 h0.x).1
  have l4 := (Array.getElem?_eq_some_iff.1 h0.y).1
  exact ⟨h.p.other (by omega) _ _, (Go.heap_setCell_other _ _ _ _ (by simp; omega)).trans h.x, h.q.other (by omega) _ _, (Go.heap_setCell_other _ _ _ _ (by simp; omega)).trans h.y,
    h.b.setCell (p := ⟨c, i, none⟩) (by simp; omega) _, h.g.below ((Below.refl B W).setCell (p := ⟨c, i, none⟩) (by simp; omega) x)⟩
set_option maxHeartbeats 8000000 in
set_option maxRecDepth 100000 in
theorem puts_walk (P : Nat → Int) (a1 a2 a3 : Int) (w : World) (B : Nat) (hg : GB B w) (hB : B ≤ w.heap.size) :
    Calls Tryd.prog 6 #[.agg (pc P).toArray, .int .i64 a1, .int .i64 a2, .int .i64 a3] w fun e w' => e = .returned (.bool true) ∧ Below w.heap.size w w' := by
  obtain ⟨kk, hkk⟩ : ∃ k, 1 + a1 % 6 = k := ⟨_, rfl⟩
  obtain ⟨dd, hdd⟩ : ∃ d, a2 % 2 = d := ⟨_, rfl⟩
  obtain ⟨m, hm⟩ : ∃ m : Nat, a3 % 64 = (m : Int) := ⟨(a3 % 64).toNat, by omega⟩
  have hm64 : m < 64 := by omega
  have hmay : mayB kk dd = true := by
    unfold mayB sideB
    have h1 : 1 ≤ kk ∧ kk ≤ 6 := by omega
    have h2 : dd = 0 ∨ dd = 1 := by omega
    rcases h2 with h | h <;> simp [h1, h]
  have hcan : canP kk dd = true := by unfold canP; rw [hmay, Bool.or_true]
  have PK1 := Lib.hid (pick6_any a1)
  have PK2 := Lib.hid (pick2_any a2)
  have PK3 := Lib.hid (pick64_any a3)
  rw [hdd] at PK2
  rw [hm] at PK3
  have h6 : 0 ≤ a1 % 6 ∧ a1 % 6 < 6 := by omega
  obtain ⟨k6, hk6⟩ : ∃ k, a1 % 6 = k := ⟨_, rfl⟩
  rw [hk6] at PK1 hkk h6
  obtain ⟨h60, h61⟩ := h6
  obtain ⟨Q, hQ⟩ : ∃ Q, Q = put1 P m kk dd := ⟨_, rfl⟩
  obtain ⟨X, hX⟩ : ∃ X, X = (pc P).toArray := ⟨_, rfl⟩
  obtain ⟨Y, hY⟩ : ∃ Y, Y = (pc Q).toArray := ⟨_, rfl⟩
  have MP := Lib.hid (show ∀ (D : Nat) (p : Option Addr) (c : Nat) (g : Nat → Int) (W : World), g 0 = (m : Int) → Reads D W p 1 (fun i => .int .i64 (g i)) → D ≤ W.heap.size →
      Calls Tryd.prog 9 #[.agg X, .agg #[.int .i64 kk, .int .i64 dd], .slice p 1 c] W fun e w' => e = .returned (.tuple #[.agg Y, .int .i64 0]) ∧ Below W.heap.size W w' from fun D p c g W h0 h2 h3 => by
    have := put_any P kk dd D p 1 c g W (by omega) h2 h3
    obtain ⟨e1, e2⟩ := putQ_one P kk dd m hm64 hcan g h0
    rw [e1, e2, ← hQ, ← hX, ← hY] at this
    exact this)
  obtain ⟨u, hu⟩ : ∃ u, P (2 * m) = u := ⟨_, rfl⟩
  obtain ⟨v, hv⟩ : ∃ v, P (2 * m + 1) = v := ⟨_, rfl⟩
  have hback : put1 Q m u v = P := by rw [hQ, ← hu, ← hv]; exact put1_back P m kk dd
  have MB := Lib.hid (show rightB P = true → ∀ (D : Nat) (p : Option Addr) (c : Nat) (g : Nat → Int) (W : World), g 0 = (m : Int) → Reads D W p 1 (fun i => .int .i64 (g i)) → D ≤ W.heap.size →
      Calls Tryd.prog 9 #[.agg Y, .agg #[.int .i64 u, .int .i64 v], .slice p 1 c] W fun e w' => e = .returned (.tuple #[.agg X, .int .i64 0]) ∧ Below W.heap.size W w' from fun hr D p c g W h0 h2 h3 => by
    have := put_any Q u v D p 1 c g W (by omega) h2 h3
    have hcu : canP u v = true := by rw [← hu, ← hv]; exact can_right P (right_parts P hr).1 m hm64
    obtain ⟨e1, e2⟩ := putQ_one Q u v m hm64 hcu g h0
    rw [e1, e2, hback, ← hX, ← hY] at this
    exact this)
  have MF := Lib.hid (find_any Q kk dd)
  have MG := Lib.hid (find_any P kk dd)
  have MR := Lib.hid (fun W h1 h2 => right_any P W B h1 h2)
  have MK := Lib.hid (fun s => king_any P s)
  rw [← hX] at MG MR MK ⊢
  rw [← hY] at MF
  have hin : among (fnd Q kk dd 64) (m : Int) (fnd Q kk dd 64).length = true := by
    refine among_mem _ _ ((fnd_mem Q kk dd 64 m).2 ⟨m, hm64, rfl, ?_, ?_⟩)
    · rw [hQ]; exact (put1_same P m kk dd).1
    · rw [hQ]; exact (put1_same P m kk dd).2
  have hlen : (fnd Q kk dd 64).length ≤ (fnd P kk dd 64).length + 1 := by rw [hQ]; exact (fnd_put1 P m kk dd kk dd 64).2.1
  have hql := fnd_len Q kk dd 64
  have hpl := fnd_len P kk dd 64
  have hQk : Q (m * 2) = kk ∧ Q (m * 2 + 1) = dd := by rw [Nat.mul_comm m 2, hQ]; exact put1_same P m kk dd
  obtain ⟨L, hL⟩ : ∃ L, fnd Q kk dd 64 = L := ⟨_, rfl⟩
  obtain ⟨L2, hL2⟩ : ∃ L, fnd P kk dd 64 = L := ⟨_, rfl⟩
  rw [hL] at MF hin hlen hql
  rw [hL2] at MG hlen hpl
  have HX := Lib.hid hX
  have HY := Lib.hid hY
  have HQ := Lib.hid hQ
  have HBK := Lib.hid hback
  have HIN := Lib.hid hin
  have HG := Lib.hid hg
  have HU := Lib.hid hu
  have HVV := Lib.hid hv
  have HQK := Lib.hid hQk
  have HP0 := Lib.hid (show PB (w.alloc (.cells X 29)) w.heap.size P by rw [hX]; exact PB.new rfl)
  have HB0 := Lib.hid (below_new (w := w) (.cells X 29))
  clear hX hY hQ hback hin hg hu hv hL hL2 hmay hcan hm hdd hk6 hQk
  go_enter Tryd.func6, Tryd.ntmps6
  go_upto_region 1 with (fail)
  refine forget_B (fun W => PB W w.heap.size P ∧ Below w.heap.size w W) ⟨HP0.out, HB0.out⟩ ?_
  clear HP0 HB0
  rintro W ⟨hp, hb⟩
  have H1 := Lib.hid hp
  have H2 := Lib.hid hb
  clear hp hb
  go_wp2_with fail
  refine (awakeB_any _ B (HG.out.below (H2.out.mono hB)) (Nat.le_trans hB H2.out.size)).mono ?_
  rintro e w1 ⟨rfl, hb⟩
  replace H1 := Lib.hid (H1.out.go hb)
  replace H2 := Lib.hid (H2.out.trans (hb.mono H2.out.size))
  clear hb
  go_wp2_with fail
  refine (PK1.out _).mono ?_
  rintro e w2 ⟨rfl, rfl⟩
  go_wp2_with fail
  refine (PK2.out _).mono ?_
  rintro e w2 ⟨rfl, rfl⟩
  go_wp2_with fail
  refine (PK3.out _).mono ?_
  rintro e w2 ⟨rfl, rfl⟩
  go_upto_region 5 with (fail)
  refine forget_B (fun W => PB W w.heap.size P ∧ Below w.heap.size w W ∧ W.heap[w1.heap.size]? = some (.cells #[.int .i64 kk, .int .i64 dd] 25 (0, 0))) ⟨H1.out.alloc _, H2.out.alloc H2.out.size _, sl_at rfl⟩ ?_
  generalize w1.heap.size = b9
  clear H1 H2
  rintro w3 ⟨hp, hb, hx⟩
  have H1 := Lib.hid hp
  have H2 := Lib.hid hb
  have H3 := Lib.hid hx
  clear hp hb
  obtain ⟨q1, q2, qf, qz⟩ := row2 hx
  clear hx
  go_wp2_with (refine wpList_pos (by rfl) _ (by rfl) w.heap.size P X HX.out (by rfl) H1.out ?_)
  have HRD := Lib.hid (show Reads (w3.heap.size + 1) (w3.alloc (.cells #[.int .i64 (m : Int)] 3)) (some ⟨w3.heap.size, 0, none⟩) 1 (fun i => .int .i64 ((fun _ => (m : Int)) i)) from
    .inr ⟨w3.heap.size, 0, rfl, by omega, fun i hi => by rw [Nat.zero_add, cell_of_row _ _ i _ _ (0, 0) (sl_at rfl)]; obtain rfl : i = 0 := by omega
                                                         rfl⟩)
  refine (MP.out _ _ 1 _ _ rfl HRD.out (by simp)).mono ?_
  rintro e w4 ⟨rfl, hb⟩
  clear q1 q2 qf qz HRD
  replace H1 := Lib.hid ((H1.out.alloc _).go hb)
  replace H3 := Lib.hid (sl_go (sl_go H3.out (below_new _)) hb)
  replace H2 := Lib.hid ((H2.out.alloc H2.out.size _).trans (hb.mono (H2.out.alloc H2.out.size _).size))
  clear hb
  go_wp2_with (first | refine wpList_new Y Q HY.out (by rfl) (by rfl) ?_ | fail)
  intro w5 hq hb hz
  replace H1 := Lib.hid (H1.out.go hb)
  replace H3 := Lib.hid (sl_go H3.out hb)
  replace H2 := Lib.hid (H2.out.trans (hb.mono H2.out.size))
  have H4 := Lib.hid hq
  clear hb hq hz
  generalize w4.heap.size = b11 at H4 ⊢
  have e1 := H1.out.cell (m * 2) (by omega)
  have e2 := H1.out.cell (m * 2 + 1) (by omega)
  rw [Nat.mul_comm m 2] at e1 e2
  rw [HU.out] at e1
  rw [HVV.out] at e2
  rw [Nat.mul_comm 2 m] at e1 e2
  have hm0 : (0 : Int) ≤ m := by omega
  have hm1 : (m : Int) < 64 := by omega
  go_upto_region 7 with (fail)
  refine forget_B (fun W => TP B w W b9 b11 w5.heap.size P Q kk dd u v) ⟨H1.out.alloc _, sl_go H3.out (below_new _), H4.out.alloc _, sl_at rfl, H2.out.alloc H2.out.size _, HG.out.below ((H2.out.alloc H2.out.size _).mono hB)⟩ ?_
  have hgo := fun W W' => TP.go (W := W) (W' := W') (b9 := b9) (b11 := b11) (b13 := w5.heap.size) (P := P) (Q := Q) (k := kk) (d := dd) (u := u) (v := v) hB
  generalize w5.heap.size = b13 at hgo ⊢
  have HGO := Lib.hid hgo
  clear hgo H1 H2 H3 H4 e1 e2 HG
  intro w6 ht
  have y1 := cell_regrown (ht.q.cell (m * 2) (by omega))
  have y2 := cell_regrown (ht.q.cell (m * 2 + 1) (by omega))
  rw [HQK.out.1] at y1
  rw [HQK.out.2] at y2
  have v1 := cell_regrown (row2 ht.x).1
  have v2 := cell_regrown (row2 ht.x).2.1
  have hpe : pe kk dd kk dd = true := (pe_iff _ _ _ _).2 ⟨rfl, rfl⟩
  have HT := Lib.hid ht
  clear ht
  refine wp_region_quiet_below (by kernel_rfl) (by kernel_rfl) ?_
  repeat (first | go_big_quiet_step (fail) | quiet_step (fail))
  refine wpQuiet_nil ?_
  rintro w7 ⟨q, rfl⟩
  replace HT := Lib.hid (HGO.out _ _ HT.out (below_regrown w6 q.d q.os))
  clear y1 y2 v1 v2 hpe
  generalize grow (redrawn w6 q.d) q.os = w7 at HT ⊢
  obtain ⟨q1, q2, qf, qz⟩ := row2 HT.out.x
  go_wp2_with (refine wpList_pos (by rfl) _ (by rfl) b11 Q Y HY.out (by rfl) HT.out.q ?_)
  refine (MF.out _).mono ?_
  rintro e w8 ⟨vL, rfl, hb, hown⟩
  rw [ivals_range] at hown
  obtain ⟨pL, cL, rfl, hr, hcl, hcm⟩ := sq_reads hown
  have HR := Lib.hid (show Reads w8.heap.size w8 pL L.length (fun i => .int .i64 (L.getD i 0)) from hr)
  replace HT := Lib.hid (HGO.out _ _ HT.out hb)
  clear hb hown hr q1 q2 qf qz
  go_wp2
  go_loopw [15, 16] (fun t i wr => ∃ j : Nat, j ≤ L.length ∧ i = .int .i64 (j : Int) ∧ t = .bool (among L (m : Int) j) ∧ TP B w wr b9 b11 b13 P Q kk dd u v ∧ Reads wr.heap.size wr pL L.length (fun i => .int .i64 (L.getD i 0))) (fun _ i _ => L.length - (intOf i).toNat)
  case atStart => exact ⟨0, Nat.zero_le _, rfl, rfl, HT.out, HR.out⟩
  case round =>
    clear HT HR
    obtain ⟨j, hj, rfl, rfl, h1, h2⟩ := hrel
    have HT := Lib.hid h1
    have HR := Lib.hid h2
    clear h1 h2
    by_cases hlt : j < L.length
    · rcases HR.out with h0 | ⟨b, off, rfl, hbb, hc⟩
      · omega
      have e0 : wr.cell? ⟨b, off + j, none⟩ = some (.int .i64 (L.getD j 0)) := hc j hlt
      have hst : among L (m : Int) (j + 1) = (among L (m : Int) j || (L.getD j 0 == (m : Int))) := rfl
      have HST := Lib.hid hst
      clear hc hst
      generalize L.getD j 0 = x at e0 HST
      obtain ⟨am, ham⟩ : ∃ a, among L (m : Int) j = a := ⟨_, rfl⟩
      rw [ham] at HST ⊢
      clear ham
      cases am
      all_goals
        go_wp2
        go_roundw
        case rel => exact ⟨j + 1, by omega, by go_num, by rw [HST.out]; first | rfl | simp, HT.out, HR.out⟩
        case measure => simp [intOf]; omega
    · obtain rfl : j = L.length := by omega
      rw [HIN.out]
      have NX := Lib.hid (show ∀ W, (binOp .neq 29 (.agg X) (.agg X)).run Tryd.prog W = .ok (.bool false) W from fun W => by rw [HX.out, neq_pos, posEq_self]; rfl)
      have EX := Lib.hid (show ∀ W, (binOp .eql 29 (.agg X) (.agg X)).run Tryd.prog W = .ok (.bool true) W from fun W => by rw [HX.out, eql_pos, posEq_self])
      go_wp2_with (first | refine wpList_new Y Q HY.out (by rfl) (by rfl) ?_ | refine wpList_pos (by rfl) _ (by rfl) b11 Q Y HY.out (by rfl) HT.out.q ?_)
      intro w9 hq hb hz
      have HT0 := Lib.hid HT.out
      replace HT := Lib.hid (HGO.out _ _ HT.out hb)
      have H17 := Lib.hid hq
      clear hb hq hz
      obtain ⟨b17, hb17⟩ : ∃ b, wr.heap.size = b := ⟨_, rfl⟩
      rw [hb17] at H17 ⊢
      have HB17 := Lib.hid (show wr.heap.size ≤ b17 by omega)
      clear hb17
      have e1 := H17.out.cell (m * 2) (by omega)
      have e2 := H17.out.cell (m * 2 + 1) (by omega)
      have e3 := H17.out.fr (m * 2)
      have e4 := H17.out.fr (m * 2 + 1)
      rw [HQK.out.1] at e1
      rw [HQK.out.2] at e2
      obtain ⟨q1, q2, qf, qz⟩ := row2 HT.out.y
      go_upto_region 17 with (fail)
      refine forget_B (fun W => TP B w W b9 b11 b13 P Q kk dd u v ∧ PB W b17 P) ⟨TP.other hB HT0.out (TP.other hB HT0.out HT.out b17 (m * 2) HB17.out _) b17 (m * 2 + 1) HB17.out _, by
        have := (H17.out.set (m * 2) u (by omega)).set (m * 2 + 1) v (by omega)
        rw [Nat.mul_comm m 2] at this
        rw [show setN (setN Q (2 * m) u) (2 * m + 1) v = P from HBK.out] at this
        rw [Nat.mul_comm m 2]; exact this⟩ ?_
      clear e1 e2 e3 e4 HT H17 HT0 q1 q2 qf qz
      rintro W10 ⟨ht, h17⟩
      have HT := Lib.hid ht
      have H17 := Lib.hid h17
      clear ht h17
      obtain ⟨q1, q2, qf, qz⟩ := row2 HT.out.x
      have hl2 : ¬ ((L2.length : Int) + 1 < (L.length : Int)) := by omega
      go_wp2_with (first | refine wpList_pos (by rfl) _ (by rfl) b17 P X HX.out (by rfl) H17.out ?_ | refine wpList_pos (by rfl) _ (by rfl) w.heap.size P X HX.out (by rfl) HT.out.p ?_ | refine wpList_bin (by rfl) _ _ _ _ _ (by rfl) (.agg X) (.agg X) (.bool false) (by rfl) (by rfl) (fun W => by go_simp) NX.out ?_)
      refine (MG.out _).mono ?_
      rintro e w11 ⟨vM, rfl, hb, hown⟩
      rw [ivals_range] at hown
      obtain ⟨pM, cM, rfl, _, _, _⟩ := sq_reads hown
      replace HT := Lib.hid (HGO.out _ _ HT.out hb)
      clear hb hown q1 q2 qf qz H17
      obtain ⟨rb, hrb⟩ : ∃ b, rightB P = b := ⟨_, rfl⟩
      have HRB := Lib.hid hrb
      clear hrb
      go_wp2_with (refine wpList_pos (by rfl) _ (by rfl) w.heap.size P X HX.out (by rfl) HT.out.p ?_)
      refine (MR.out _ HT.out.g (Nat.le_trans hB HT.out.b.size)).mono ?_
      rw [HRB.out]
      rintro e w12 ⟨rfl, hb⟩
      replace HT := Lib.hid (HGO.out _ _ HT.out hb)
      clear hb
      cases rb
      · go_wp2
        go_ret
        exact ⟨rfl, HT.out.b⟩
      obtain ⟨hok, hc0, hc1⟩ := right_parts P HRB.out
      obtain ⟨j0, hj0, hk0, hj0a, hj0b⟩ := king_right P 0 hc0
      obtain ⟨j1, hj1, hk1, hj1a, hj1b⟩ := king_right P 1 hc1
      have hj01 : j0 ≠ j1 := by intro e; rw [e, hj1b] at hj0b; cases hj0b
      have M0 := Lib.hid (MK.out 0)
      have M1 := Lib.hid (MK.out 1)
      rw [hk0] at M0
      rw [hk1] at M1
      have MBB := Lib.hid (MB.out HRB.out)
      have J0 := Lib.hid (show P (j0 * 2) = 6 ∧ P (j0 * 2 + 1) = 0 by rw [Nat.mul_comm j0 2]; exact ⟨hj0a, hj0b⟩)
      have J1 := Lib.hid (show P (j1 * 2) = 6 ∧ P (j1 * 2 + 1) = 1 by rw [Nat.mul_comm j1 2]; exact ⟨hj1a, hj1b⟩)
      have hne : ((j0 : Int) != (j1 : Int)) = true := by simp; omega
      have hne2 : ¬ ((j0 : Int) = (j1 : Int)) := by omega
      clear hok hc0 hc1 hk0 hk1 hj0a hj0b hj1a hj1b MK MB
      obtain ⟨q1, q2, qf, qz⟩ := row2 HT.out.y
      go_wp2_with (refine wpList_pos (by rfl) _ (by rfl) b11 Q Y HY.out (by rfl) HT.out.q ?_)
      have HRD := Lib.hid (show Reads (w12.heap.size + 1) (w12.alloc (.cells #[.int .i64 (m : Int)] 3)) (some ⟨w12.heap.size, 0, none⟩) 1 (fun i => .int .i64 ((fun _ => (m : Int)) i)) from
        .inr ⟨w12.heap.size, 0, rfl, by omega, fun i hi => by rw [Nat.zero_add, cell_of_row _ _ i _ _ (0, 0) (sl_at rfl)]; obtain rfl : i = 0 := by omega
                                                              rfl⟩)
      refine (MBB.out _ _ 1 _ _ rfl HRD.out (by simp)).mono ?_
      rintro e w13 ⟨rfl, hb⟩
      replace HT := Lib.hid (HGO.out _ _ (HGO.out _ _ HT.out (below_new _)) hb)
      clear hb HRD q1 q2 qf qz
      go_wp2_with (first | refine wpList_new X P HX.out (by rfl) (by rfl) ?_ | fail)
      intro w14 hq hb hz
      replace HT := Lib.hid (HGO.out _ _ HT.out hb)
      have H18 := Lib.hid hq
      generalize w13.heap.size = b18 at H18 ⊢
      clear hb hq hz
      go_upto_region 22 with (fail)
      have c0 := regrown_call (w := w14) M0.out
      have c1 := regrown_call (w := w14) M1.out
      have hcp : ∀ W, (∃ p : Regrown, W = grow (redrawn w14 p.d) p.os) → PB W w.heap.size P := HT.out.p.regrown
      have HCP := Lib.hid hcp
      clear hcp
      refine wp_region_quiet_below (by kernel_rfl) (by kernel_rfl) ?_
      refine wpQuiet_pos (by rfl) _ (by rfl) w.heap.size P X HX.out (by rfl) HCP.out ?_
      try simp only [Act.put, List.setIfInBounds_toArray, List.set_cons_zero, List.set_cons_succ]
      go_big_quiet_step (exact c0 _ _)
      refine wpQuiet_pos (by rfl) _ (by rfl) w.heap.size P X HX.out (by rfl) HCP.out ?_
      try simp only [Act.put, List.setIfInBounds_toArray, List.set_cons_zero, List.set_cons_succ]
      go_big_quiet_step (exact c1 _ _)
      repeat (first | go_big_quiet_step (fail) | quiet_step (fail))
      refine wpQuiet_nil ?_
      rintro w15 ⟨q, rfl⟩
      have b4 := below_regrown w14 q.d q.os
      replace HT := Lib.hid (HGO.out _ _ HT.out b4)
      replace H18 := Lib.hid (H18.out.go b4)
      clear b4 c0 c1 HCP
      generalize grow (redrawn w14 q.d) q.os = w15 at HT H18 ⊢
      have e1 := HT.out.p.cell (j0 * 2) (by omega)
      have e2 := HT.out.p.cell (j0 * 2 + 1) (by omega)
      have e3 := HT.out.p.cell (j1 * 2) (by omega)
      have e4 := HT.out.p.cell (j1 * 2 + 1) (by omega)
      rw [J0.out.1] at e1
      rw [J0.out.2] at e2
      rw [J1.out.1] at e3
      rw [J1.out.2] at e4
      have g0 : (0 : Int) ≤ j0 := by omega
      have g1 : (j0 : Int) < 64 := by omega
      have g2 : (0 : Int) ≤ j1 := by omega
      have g3 : (j1 : Int) < 64 := by omega
      have p0 : pe 6 0 6 0 = true := rfl
      have p1 : pe 6 1 6 1 = true := rfl
      go_wp2_with (first | refine wpList_pos (by rfl) _ (by rfl) b18 P X HX.out (by rfl) H18.out ?_ | refine wpList_pos (by rfl) _ (by rfl) w.heap.size P X HX.out (by rfl) HT.out.p ?_ | refine wpList_bin (by rfl) _ _ _ _ _ (by rfl) (.agg X) (.agg X) (.bool true) (by rfl) (by rfl) (fun W => by go_simp) EX.out ?_)
      go_ret
      exact ⟨rfl, HT.out.b⟩
end Go.Proofs.YteahikjnlhlmmaaDoor
