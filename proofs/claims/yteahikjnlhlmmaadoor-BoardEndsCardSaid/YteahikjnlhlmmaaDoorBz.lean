/-
  The walk of BoardTells.
-/
import Derived.Test.YteahikjnlhlmmaaDoorBy
namespace Go.Proofs.YteahikjnlhlmmaaDoor
open Go.RowKit Go.Sort
set_option linter.unusedSimpArgs false
set_option linter.unusedVariables false

theorem yields_pos {ops : Array Oper} {S : World → Prop} {op : Oper} {a : Act} (hw : Region.wanted op (yielded ops a.tmps) = true) (x : Operand) (ho : op.op = .load 29 x)
    (b : Nat) (P : Nat → Int) (X : Array Value) (hX : X = (pc P).toArray) (hx : a.eval x = .pointer (some ⟨b, 0, none⟩)) (hS : ∀ w, S w → PB w b P) : YieldsIf Tryd.prog ops S op (.agg X) a := by
  subst hX
  exact yieldsIf_load_mid hw 29 x ho b 0 hx (pc P) _ (fun w h => (hS w h).range) Tryd.underlying29 rfl (by rw [infoPos, pc_len])
theorem yields_pie {ops : Array Oper} {S : World → Prop} {op : Oper} {a : Act} (hw : Region.wanted op (yielded ops a.tmps) = true) (x : Operand) (ho : op.op = .load 25 x)
    (b : Nat) (k d : Int) (hx : a.eval x = .pointer (some ⟨b, 0, none⟩)) (hS : ∀ w, S w → w.heap[b]? = some (.cells #[.int .i64 k, .int .i64 d] 25 (0, 0))) : YieldsIf Tryd.prog ops S op (.agg #[.int .i64 k, .int .i64 d]) a :=
  yieldsIf_load_mid hw 25 x ho b 0 hx [.int .i64 k, .int .i64 d] _ (fun w h j v hv => by
    obtain ⟨q1, q2, _, _⟩ := row2 (hS w h)
    rcases j with _ | _ | j
    · simpa using q1.trans (by simpa using hv)
    · simpa using q2.trans (by simpa using hv)
    · simp at hv) Tryd.underlying25 rfl (by rw [infoPieB]; rfl)
theorem yields_bin {ops : Array Oper} {S : World → Prop} {op : Oper} {a : Act} (hw : Region.wanted op (yielded ops a.tmps) = true) (x y : Operand) (t r : TypeId) (ho : op.op = .binOp .eql t x y r)
    (v1 v2 v : Value) (hx : a.eval x = v1) (hy : a.eval y = v2) (hg : ∀ W, (eqGuard .eql t x y v1 v2).run Tryd.prog W = .ok () W) (h : ∀ W, (binOp .eql t v1 v2).run Tryd.prog W = .ok v W) : YieldsIf Tryd.prog ops S op v a :=
  .inl ⟨hw, fun w _ => by unfold execOp; simp [ho, hx, hy, h, hg]⟩
/-- what stands in BoardTells behind the pieces put -/
structure TL (B : Nat) (w W : World) (b8 b10 : Nat) (P Q : Nat → Int) (k d : Int) : Prop where
  p : PB W w.heap.size P
  x : W.heap[w.heap.size + 1]? = some (.cells #[.int .i64 k, .int .i64 d] 25 (0, 0))
  q : PB W b8 Q
  r : PB W b10 Q
  b : Below w.heap.size w W
  g : GB B W
theorem TL.go {B : Nat} {w W W' : World} {b8 b10 : Nat} {P Q : Nat → Int} {k d : Int} (hB : B ≤ w.heap.size) (h : TL B w W b8 b10 P Q k d) (g : Below W.heap.size W W') : TL B w W' b8 b10 P Q k d :=
  ⟨h.p.go g, sl_go h.x g, h.q.go g, h.r.go g, h.b.trans (g.mono h.b.size), h.g.below (g.mono (Nat.le_trans hB h.b.size))⟩
set_option maxHeartbeats 8000000 in
set_option maxRecDepth 100000 in
theorem tellsB_any (P : Nat → Int) (k d : Int) (D : Nat) (p : Option Addr) (n c : Nat) (g : Nat → Int) (w : World) (B : Nat) (hg : GB B w) (hB : B ≤ w.heap.size) (hc0 : p = none → n = 0 ∧ c = 0) (hr : Reads D w p n (fun i => .int .i64 (g i))) (hD : D ≤ w.heap.size) :
    Calls Tryd.prog 3 #[.agg (pc P).toArray, .agg #[.int .i64 k, .int .i64 d], .slice p n c] w fun e w' => e = .returned (.bool true) ∧ Below w.heap.size w w' := by
  obtain ⟨X, hX⟩ : ∃ X, X = (pc P).toArray := ⟨_, rfl⟩
  obtain ⟨Y, hY⟩ : ∃ Y, Y = (pc (putQ P k d g n)).toArray := ⟨_, rfl⟩
  obtain ⟨T, hT⟩ : ∃ T, T = (pc (turnN P)).toArray := ⟨_, rfl⟩
  have HX0 := Lib.hid (two_boxes P k d w X hX 29 25)
  obtain ⟨pE, hpE⟩ : ∃ z, putE k d g n = z := ⟨_, rfl⟩
  have MP := Lib.hid (fun (hn : n ≤ 4294967295) D p c W h2 h3 => put_any P k d D p n c g W hn h2 h3)
  have MQ := Lib.hid (fun (hn : n ≤ 4294967295) D p c W h2 h3 => rPut_any P k d D p n c g W hn h2 h3)
  rw [← hY, hpE] at MP MQ
  clear hpE
  have MR := Lib.hid (fun W h1 h2 => right_any P W B h1 h2)
  have MS := Lib.hid (rRight_any P)
  have MT := Lib.hid (turn_any P)
  have MU := Lib.hid (rTurn_any P)
  have MF := Lib.hid (find_any P k d)
  have MG := Lib.hid (rFind_any P k d)
  have MK := Lib.hid (fun s => king_any P s)
  have ML := Lib.hid (fun s => rKing_any P s)
  have EY := Lib.hid (show ∀ W, (binOp .eql 29 (.agg Y) (.agg Y)).run Tryd.prog W = .ok (.bool true) W from fun W => by rw [hY, eql_pos, posEq_self])
  have ET := Lib.hid (show ∀ W, (binOp .eql 29 (.agg T) (.agg T)).run Tryd.prog W = .ok (.bool true) W from fun W => by rw [hT, eql_pos, posEq_self])
  rw [← hX] at MP MQ MR MS MT MU MF MG MK ML ⊢
  rw [← hT] at MT MU
  have HX := Lib.hid hX
  have HY := Lib.hid hY
  have HT := Lib.hid hT
  have HG := Lib.hid hg
  have HRD := Lib.hid hr
  have HN := Lib.hid hc0
  clear hX hY hT hg hr hc0
  go_enter Tryd.func3, Tryd.ntmps3
  go_upto_region 1 with (fail)
  refine forget_B (fun W => PB W w.heap.size P ∧ W.heap[w.heap.size + 1]? = some (.cells #[.int .i64 k, .int .i64 d] 25 (0, 0)) ∧ Below w.heap.size w W ∧ W.heap.size = w.heap.size + 2) HX0.out ?_
  clear HX0
  rintro W ⟨hp, hx, hb, hz⟩
  have HP := Lib.hid hp
  have HXX := Lib.hid hx
  have HB := Lib.hid hb
  have HZ := Lib.hid hz
  clear hp hx hb hz
  by_cases hmost : 300 < n
  · go_wp2_with fail
    refine (awakeB_any _ B (HG.out.below (HB.out.mono hB)) (Nat.le_trans hB HB.out.size)).mono ?_
    rintro e w1 ⟨rfl, hb1⟩
    go_wp2
    go_ret
    exact ⟨rfl, HB.out.trans (hb1.mono HB.out.size)⟩
  go_wp2_with fail
  have hn : n ≤ 4294967295 := by omega
  refine (LentInts.lent D p n c g _ hn HN.out (HRD.out.below (HB.out.mono hD)) (Nat.le_trans hD HB.out.size)).mono ?_
  rintro e w1 ⟨gb, rfl, hb1, hr1⟩
  have HRI := Lib.hid ((hr1.take (Nat.le_add_right n 12)).mono' (Nat.le_refl _) (fun i hi => LentInts.ext_lt hi))
  have HRX := Lib.hid hr1
  have H1 := Lib.hid (HP.out.go hb1)
  have H2 := Lib.hid (sl_go HXX.out hb1)
  have H3 := Lib.hid (HB.out.trans (hb1.mono HB.out.size))
  clear hb1 hr1 HP HXX HB HZ
  obtain ⟨q1, q2, qf, qz⟩ := row2 H2.out
  go_wp2_with (refine wpList_pos (by rfl) _ (by rfl) w.heap.size P X HX.out (by rfl) H1.out ?_)
  refine (MP.out hn _ _ (n + 12) _ HRI.out (Nat.le_refl _)).mono ?_
  rintro e w2 ⟨rfl, hb⟩
  clear q1 q2 qf qz
  replace H1 := Lib.hid (H1.out.go hb)
  replace H2 := Lib.hid (sl_go H2.out hb)
  replace H3 := Lib.hid (H3.out.trans (hb.mono H3.out.size))
  replace HRX := Lib.hid ((HRX.out.below hb).mono hb.size)
  clear hb HRI
  go_wp2_with (first | refine wpList_new Y (putQ P k d g n) HY.out (by rfl) (by rfl) ?_ | refine wpList_pos (by rfl) _ (by rfl) w.heap.size P X HX.out (by rfl) H1.out ?_)
  intro w3 hq hb hz
  replace H1 := Lib.hid (H1.out.go hb)
  replace H2 := Lib.hid (sl_go H2.out hb)
  replace H3 := Lib.hid (H3.out.trans (hb.mono H3.out.size))
  replace HRX := Lib.hid ((HRX.out.below hb).mono hb.size)
  have H4 := Lib.hid hq
  clear hb hq hz
  obtain ⟨q1, q2, qf, qz⟩ := row2 H2.out
  go_wp2_with (refine wpList_pos (by rfl) _ (by rfl) w.heap.size P X HX.out (by rfl) H1.out ?_)
  refine (MQ.out hn D p c _ (HRD.out.below (H3.out.mono hD)) (Nat.le_trans hD H3.out.size)).mono ?_
  rintro e w4 ⟨rfl, hb⟩
  clear q1 q2 qf qz
  replace H1 := Lib.hid (H1.out.go hb)
  replace H2 := Lib.hid (sl_go H2.out hb)
  replace H3 := Lib.hid (H3.out.trans (hb.mono H3.out.size))
  replace HRX := Lib.hid ((HRX.out.below hb).mono hb.size)
  replace H4 := Lib.hid (H4.out.go hb)
  clear hb
  go_wp2_with (first | refine wpList_new Y (putQ P k d g n) HY.out (by rfl) (by rfl) ?_ | refine wpList_pos (by rfl) _ (by rfl) w.heap.size P X HX.out (by rfl) H1.out ?_)
  intro w5 hq hb hz
  have HL := Lib.hid (show TL B w w5 w2.heap.size w4.heap.size P (putQ P k d g n) k d from ⟨H1.out.go hb, sl_go H2.out hb, H4.out.go hb, hq, H3.out.trans (hb.mono H3.out.size), HG.out.below ((H3.out.trans (hb.mono H3.out.size)).mono hB)⟩)
  replace HRX := Lib.hid ((HRX.out.below hb).mono hb.size)
  have HRQ := Lib.hid ((HRD.out.below ((H3.out.trans (hb.mono H3.out.size)).mono hD)).mono (Nat.le_trans hD (Nat.le_trans H3.out.size hb.size)))
  clear hb hq hz H1 H2 H3 H4 HRD HG MP MQ HN
  have hgo := fun W W' => TL.go (W := W) (W' := W') (b8 := w2.heap.size) (b10 := w4.heap.size) (P := P) (Q := putQ P k d g n) (k := k) (d := d) hB
  generalize w2.heap.size = b8 at HL hgo ⊢
  generalize w4.heap.size = b10 at HL hgo ⊢
  have HGO := Lib.hid hgo
  clear hgo
  obtain ⟨rb, hrb⟩ : ∃ b, rightB P = b := ⟨_, rfl⟩
  rw [hrb] at MR MS
  clear hrb
  have hfl := fnd_len P k d 64
  obtain ⟨L, hL⟩ : ∃ L, fnd P k d 64 = L := ⟨_, rfl⟩
  rw [hL] at MF MG hfl
  clear hL
  go_upto_region 6 with (fail)
  refine wp_region_noPanic ?_
  refine wp_region_start (n := 37) (l := #[false, false, false, false, false, false, false, false, false, false, false, false, false, false, false, false, false, false, false, false, false, false, false, false, false, false, false, false, false, false, false, false, false, false, false, false, false]) (S := (fun W => TL B w W b8 b10 P (putQ P k d g n) k d)) (by kernel_rfl) rfl (by kernel_rfl) (by first | exact HL.out | exact HGO.out _ _ HL.out (Below.refl _ _).drew) (fun hHeld => ?_)
  replace HL := Lib.hid (HGO.out _ _ HL.out (Below.refl w5.heap.size w5).drew)
  replace HRX := Lib.hid (show Reads w5.drew.heap.size w5.drew _ _ _ from HRX.out.below (Below.refl _ _).drew)
  replace HRQ := Lib.hid (show Reads w5.drew.heap.size w5.drew _ _ _ from HRQ.out.below (Below.refl _ _).drew)
  generalize w5.drew = V0 at hHeld HL HRX HRQ ⊢
  refine take_to (i := 0) (d := some 33) (v := (.agg Y)) (l' := #[true, false, false, false, false, false, false, false, false, false, false, false, false, false, false, false, false, false, false, false, false, false, false, false, false, false, false, false, false, false, false, false, false, false, false, false, false]) rfl rfl (by kernel_rfl) (by kernel_rfl) (by kernel_rfl) (by kernel_rfl) (fun _ _ _ h => h) ?_ (by assumption) ?_
  · exact yields_pos (by rfl) _ (by rfl) b8 _ Y HY.out (by rfl) (fun W h => h.q)
  try simp only [Act.put, List.setIfInBounds_toArray, List.set_cons_zero, List.set_cons_succ]
  refine take_to (i := 1) (d := some 34) (v := (.agg Y)) (l' := #[true, true, false, false, false, false, false, false, false, false, false, false, false, false, false, false, false, false, false, false, false, false, false, false, false, false, false, false, false, false, false, false, false, false, false, false, false]) rfl rfl (by kernel_rfl) (by kernel_rfl) (by kernel_rfl) (by kernel_rfl) (fun _ _ _ h => h) ?_ (by assumption) ?_
  · exact yields_pos (by rfl) _ (by rfl) b10 _ Y HY.out (by rfl) (fun W h => h.r)
  try simp only [Act.put, List.setIfInBounds_toArray, List.set_cons_zero, List.set_cons_succ]
  refine take_to (i := 2) (d := some 35) (v := (.bool true)) (l' := #[true, true, true, false, false, false, false, false, false, false, false, false, false, false, false, false, false, false, false, false, false, false, false, false, false, false, false, false, false, false, false, false, false, false, false, false, false]) rfl rfl (by kernel_rfl) (by kernel_rfl) (by kernel_rfl) (by kernel_rfl) (fun _ _ _ h => h) ?_ (by assumption) ?_
  · exact yields_bin (by rfl) _ _ _ _ (by rfl) (.agg Y) (.agg Y) _ (by rfl) (by rfl) (fun W => by go_simp) EY.out
  try simp only [Act.put, List.setIfInBounds_toArray, List.set_cons_zero, List.set_cons_succ]
  refine take_to (i := 3) (d := some 36) (v := ?_) (l' := #[true, true, true, true, false, false, false, false, false, false, false, false, false, false, false, false, false, false, false, false, false, false, false, false, false, false, false, false, false, false, false, false, false, false, false, false, false]) rfl rfl (by kernel_rfl) (by kernel_rfl) (by kernel_rfl) (by kernel_rfl) (fun _ _ _ h => h) (Or.inl ⟨by rfl, ?_⟩) (by assumption) ?_; rotate_left; · (intro w' hSw; (try dsimp only at hSw); go_simp; (try with_reducible rfl))
  try simp only [Act.put, List.setIfInBounds_toArray, List.set_cons_zero, List.set_cons_succ]
  refine take_to (i := 4) (d := some 37) (v := ?_) (l' := #[true, true, true, true, true, false, false, false, false, false, false, false, false, false, false, false, false, false, false, false, false, false, false, false, false, false, false, false, false, false, false, false, false, false, false, false, false]) rfl rfl (by kernel_rfl) (by kernel_rfl) (by kernel_rfl) (by kernel_rfl) (fun _ _ _ h => h) (Or.inl ⟨by rfl, ?_⟩) (by assumption) ?_; rotate_left; · (intro w' hSw; (try dsimp only at hSw); go_simp; (try with_reducible rfl))
  try simp only [Act.put, List.setIfInBounds_toArray, List.set_cons_zero, List.set_cons_succ]
  refine take_to (i := 5) (d := some 38) (v := ?_) (l' := #[true, true, true, true, true, true, false, false, false, false, false, false, false, false, false, false, false, false, false, false, false, false, false, false, false, false, false, false, false, false, false, false, false, false, false, false, false]) rfl rfl (by kernel_rfl) (by kernel_rfl) (by kernel_rfl) (by kernel_rfl) (fun _ _ _ h => h) (Or.inl ⟨by rfl, ?_⟩) (by assumption) ?_; rotate_left; · (intro w' hSw; (try dsimp only at hSw); go_simp; (try with_reducible rfl))
  try simp only [Act.put, List.setIfInBounds_toArray, List.set_cons_zero, List.set_cons_succ]
  refine take_to (i := 6) (d := some 39) (v := ?_) (l' := #[true, true, true, true, true, true, true, false, false, false, false, false, false, false, false, false, false, false, false, false, false, false, false, false, false, false, false, false, false, false, false, false, false, false, false, false, false]) rfl rfl (by kernel_rfl) (by kernel_rfl) (by kernel_rfl) (by kernel_rfl) (fun _ _ _ h => h) (Or.inl ⟨by rfl, ?_⟩) (by assumption) ?_; rotate_left; · (intro w' hSw; (try dsimp only at hSw); go_simp; (try with_reducible rfl))
  try simp only [Act.put, List.setIfInBounds_toArray, List.set_cons_zero, List.set_cons_succ]
  refine take_to (i := 7) (d := some 40) (v := ?_) (l' := #[true, true, true, true, true, true, true, true, false, false, false, false, false, false, false, false, false, false, false, false, false, false, false, false, false, false, false, false, false, false, false, false, false, false, false, false, false]) rfl rfl (by kernel_rfl) (by kernel_rfl) (by kernel_rfl) (by kernel_rfl) (fun _ _ _ h => h) (Or.inl ⟨by rfl, ?_⟩) (by assumption) ?_; rotate_left; · (intro w' hSw; (try dsimp only at hSw); go_simp; (try with_reducible rfl))
  try simp only [Act.put, List.setIfInBounds_toArray, List.set_cons_zero, List.set_cons_succ]
  refine take_to (i := 8) (d := some 41) (v := ?_) (l' := #[true, true, true, true, true, true, true, true, true, false, false, false, false, false, false, false, false, false, false, false, false, false, false, false, false, false, false, false, false, false, false, false, false, false, false, false, false]) rfl rfl (by kernel_rfl) (by kernel_rfl) (by kernel_rfl) (by kernel_rfl) (fun _ _ _ h => h) (Or.inl ⟨by rfl, ?_⟩) (by assumption) ?_; rotate_left; · (intro w' hSw; (try dsimp only at hSw); go_simp; (try with_reducible rfl))
  try simp only [Act.put, List.setIfInBounds_toArray, List.set_cons_zero, List.set_cons_succ]
  refine take_to (i := 9) (d := some 42) (v := ?_) (l' := #[true, true, true, true, true, true, true, true, true, true, false, false, false, false, false, false, false, false, false, false, false, false, false, false, false, false, false, false, false, false, false, false, false, false, false, false, false]) rfl rfl (by kernel_rfl) (by kernel_rfl) (by kernel_rfl) (by kernel_rfl) (fun _ _ _ h => h) (Or.inl ⟨by rfl, ?_⟩) (by assumption) ?_; rotate_left; · (intro w' hSw; (try dsimp only at hSw); go_simp; (try with_reducible rfl))
  try simp only [Act.put, List.setIfInBounds_toArray, List.set_cons_zero, List.set_cons_succ]
  refine take_to (i := 10) (d := some 43) (v := ?_) (l' := #[true, true, true, true, true, true, true, true, true, true, true, false, false, false, false, false, false, false, false, false, false, false, false, false, false, false, false, false, false, false, false, false, false, false, false, false, false]) rfl rfl (by kernel_rfl) (by kernel_rfl) (by kernel_rfl) (by kernel_rfl) (fun _ _ _ h => h) (Or.inl ⟨by rfl, ?_⟩) (by assumption) ?_; rotate_left; · (intro w' hSw; (try dsimp only at hSw); go_simp; (try with_reducible rfl))
  try simp only [Act.put, List.setIfInBounds_toArray, List.set_cons_zero, List.set_cons_succ]
  refine one_to (i := 11) (l' := #[true, true, true, true, true, true, true, true, true, true, true, true, false, false, false, false, false, false, false, false, false, false, false, false, false, false, false, false, false, false, false, false, false, false, false, false, false]) rfl (by kernel_rfl) (by kernel_rfl) (fun K hK => ?_)
  go_simp
  refine (LentInts.kept _ _ p n (n + 12) c g _ hn (Nat.le_refl _) HRQ.out HRX.out).mono ?_
  rintro e V1 ⟨rfl, hb⟩
  replace HL := Lib.hid (HGO.out _ _ HL.out hb)
  clear hb HRX HRQ
  dsimp only
  refine hK.out _ _ (by first | exact HL.out | exact HGO.out _ _ HL.out (Below.refl _ _).drew) (fun hHeld => ?_)
  clear hK K
  try simp only [Act.put, List.setIfInBounds_toArray, List.set_cons_zero, List.set_cons_succ]
  refine take_to (i := 12) (d := some 45) (v := ?_) (l' := #[true, true, true, true, true, true, true, true, true, true, true, true, true, false, false, false, false, false, false, false, false, false, false, false, false, false, false, false, false, false, false, false, false, false, false, false, false]) rfl rfl (by kernel_rfl) (by kernel_rfl) (by kernel_rfl) (by kernel_rfl) (fun _ _ _ h => h) (Or.inl ⟨by rfl, ?_⟩) (by assumption) ?_; rotate_left; · (intro w' hSw; (try dsimp only at hSw); go_simp; (try with_reducible rfl))
  try simp only [Act.put, List.setIfInBounds_toArray, List.set_cons_zero, List.set_cons_succ]
  refine take_to (i := 13) (d := some 46) (v := ?_) (l' := #[true, true, true, true, true, true, true, true, true, true, true, true, true, true, false, false, false, false, false, false, false, false, false, false, false, false, false, false, false, false, false, false, false, false, false, false, false]) rfl rfl (by kernel_rfl) (by kernel_rfl) (by kernel_rfl) (by kernel_rfl) (fun _ _ _ h => h) (Or.inl ⟨by rfl, ?_⟩) (by assumption) ?_; rotate_left; · (intro w' hSw; (try dsimp only at hSw); go_simp; (try with_reducible rfl))
  try simp only [Act.put, List.setIfInBounds_toArray, List.set_cons_zero, List.set_cons_succ]
  refine take_to (i := 14) (d := some 47) (v := (.agg X)) (l' := #[true, true, true, true, true, true, true, true, true, true, true, true, true, true, true, false, false, false, false, false, false, false, false, false, false, false, false, false, false, false, false, false, false, false, false, false, false]) rfl rfl (by kernel_rfl) (by kernel_rfl) (by kernel_rfl) (by kernel_rfl) (fun _ _ _ h => h) ?_ (by assumption) ?_
  · exact yields_pos (by rfl) _ (by rfl) w.heap.size P X HX.out (by rfl) (fun W h => h.p)
  try simp only [Act.put, List.setIfInBounds_toArray, List.set_cons_zero, List.set_cons_succ]
  refine take_to (i := 16) (d := some 49) (v := (.agg X)) (l' := #[true, true, true, true, true, true, true, true, true, true, true, true, true, true, true, false, true, false, false, false, false, false, false, false, false, false, false, false, false, false, false, false, false, false, false, false, false]) rfl rfl (by kernel_rfl) (by kernel_rfl) (by kernel_rfl) (by kernel_rfl) (fun _ _ _ h => h) ?_ (by assumption) ?_
  · exact yields_pos (by rfl) _ (by rfl) w.heap.size P X HX.out (by rfl) (fun W h => h.p)
  try simp only [Act.put, List.setIfInBounds_toArray, List.set_cons_zero, List.set_cons_succ]
  refine one_to (i := 15) (l' := #[true, true, true, true, true, true, true, true, true, true, true, true, true, true, true, true, true, false, false, false, false, false, false, false, false, false, false, false, false, false, false, false, false, false, false, false, false]) rfl (by kernel_rfl) (by kernel_rfl) (fun K hK => ?_)
  go_simp
  refine (MR.out _ HL.out.g (Nat.le_trans hB HL.out.b.size)).mono ?_
  rintro e V2 ⟨rfl, hb⟩
  replace HL := Lib.hid (HGO.out _ _ HL.out hb)
  clear hb
  dsimp only
  refine hK.out _ _ (by first | exact HL.out | exact HGO.out _ _ HL.out (Below.refl _ _).drew) (fun hHeld => ?_)
  clear hK K
  try simp only [Act.put, List.setIfInBounds_toArray, List.set_cons_zero, List.set_cons_succ]
  refine one_to (i := 17) (l' := #[true, true, true, true, true, true, true, true, true, true, true, true, true, true, true, true, true, true, false, false, false, false, false, false, false, false, false, false, false, false, false, false, false, false, false, false, false]) rfl (by kernel_rfl) (by kernel_rfl) (fun K hK => ?_)
  go_simp
  refine (MS.out _).mono ?_
  rintro e V3 ⟨rfl, hb⟩
  replace HL := Lib.hid (HGO.out _ _ HL.out hb)
  clear hb
  dsimp only
  refine hK.out _ _ (by first | exact HL.out | exact HGO.out _ _ HL.out (Below.refl _ _).drew) (fun hHeld => ?_)
  clear hK K
  try simp only [Act.put, List.setIfInBounds_toArray, List.set_cons_zero, List.set_cons_succ]
  refine take_to (i := 18) (d := some 51) (v := ?_) (l' := #[true, true, true, true, true, true, true, true, true, true, true, true, true, true, true, true, true, true, true, false, false, false, false, false, false, false, false, false, false, false, false, false, false, false, false, false, false]) rfl rfl (by kernel_rfl) (by kernel_rfl) (by kernel_rfl) (by kernel_rfl) (fun _ _ _ h => h) (Or.inl ⟨by rfl, ?_⟩) (by assumption) ?_; rotate_left; · (intro w' hSw; (try dsimp only at hSw); go_simp; (try with_reducible rfl))
  try simp only [Act.put, List.setIfInBounds_toArray, List.set_cons_zero, List.set_cons_succ]
  refine take_to (i := 19) (d := some 52) (v := ?_) (l' := #[true, true, true, true, true, true, true, true, true, true, true, true, true, true, true, true, true, true, true, true, false, false, false, false, false, false, false, false, false, false, false, false, false, false, false, false, false]) rfl rfl (by kernel_rfl) (by kernel_rfl) (by kernel_rfl) (by kernel_rfl) (fun _ _ _ h => h) (Or.inl ⟨by rfl, ?_⟩) (by assumption) ?_; rotate_left; · (intro w' hSw; (try dsimp only at hSw); go_simp; (try with_reducible rfl))
  try simp only [Act.put, List.setIfInBounds_toArray, List.set_cons_zero, List.set_cons_succ]
  refine take_to (i := 20) (d := some 53) (v := ?_) (l' := #[true, true, true, true, true, true, true, true, true, true, true, true, true, true, true, true, true, true, true, true, true, false, false, false, false, false, false, false, false, false, false, false, false, false, false, false, false]) rfl rfl (by kernel_rfl) (by kernel_rfl) (by kernel_rfl) (by kernel_rfl) (fun _ _ _ h => h) (Or.inl ⟨by rfl, ?_⟩) (by assumption) ?_; rotate_left; · (intro w' hSw; (try dsimp only at hSw); go_simp; (try with_reducible rfl))
  try simp only [Act.put, List.setIfInBounds_toArray, List.set_cons_zero, List.set_cons_succ]
  refine take_to (i := 21) (d := some 54) (v := (.agg X)) (l' := #[true, true, true, true, true, true, true, true, true, true, true, true, true, true, true, true, true, true, true, true, true, true, false, false, false, false, false, false, false, false, false, false, false, false, false, false, false]) rfl rfl (by kernel_rfl) (by kernel_rfl) (by kernel_rfl) (by kernel_rfl) (fun _ _ _ h => h) ?_ (by assumption) ?_
  · exact yields_pos (by rfl) _ (by rfl) w.heap.size P X HX.out (by rfl) (fun W h => h.p)
  try simp only [Act.put, List.setIfInBounds_toArray, List.set_cons_zero, List.set_cons_succ]
  refine take_to (i := 23) (d := some 56) (v := (.agg X)) (l' := #[true, true, true, true, true, true, true, true, true, true, true, true, true, true, true, true, true, true, true, true, true, true, false, true, false, false, false, false, false, false, false, false, false, false, false, false, false]) rfl rfl (by kernel_rfl) (by kernel_rfl) (by kernel_rfl) (by kernel_rfl) (fun _ _ _ h => h) ?_ (by assumption) ?_
  · exact yields_pos (by rfl) _ (by rfl) w.heap.size P X HX.out (by rfl) (fun W h => h.p)
  try simp only [Act.put, List.setIfInBounds_toArray, List.set_cons_zero, List.set_cons_succ]
  refine one_to (i := 22) (l' := #[true, true, true, true, true, true, true, true, true, true, true, true, true, true, true, true, true, true, true, true, true, true, true, true, false, false, false, false, false, false, false, false, false, false, false, false, false]) rfl (by kernel_rfl) (by kernel_rfl) (fun K hK => ?_)
  go_simp
  refine (MT.out _).mono ?_
  rintro e V4 ⟨rfl, hb⟩
  replace HL := Lib.hid (HGO.out _ _ HL.out hb)
  clear hb
  dsimp only
  refine hK.out _ _ (by first | exact HL.out | exact HGO.out _ _ HL.out (Below.refl _ _).drew) (fun hHeld => ?_)
  clear hK K
  try simp only [Act.put, List.setIfInBounds_toArray, List.set_cons_zero, List.set_cons_succ]
  refine one_to (i := 24) (l' := #[true, true, true, true, true, true, true, true, true, true, true, true, true, true, true, true, true, true, true, true, true, true, true, true, true, false, false, false, false, false, false, false, false, false, false, false, false]) rfl (by kernel_rfl) (by kernel_rfl) (fun K hK => ?_)
  go_simp
  refine (MU.out _).mono ?_
  rintro e V5 ⟨rfl, hb⟩
  replace HL := Lib.hid (HGO.out _ _ HL.out hb)
  clear hb
  dsimp only
  refine hK.out _ _ (by first | exact HL.out | exact HGO.out _ _ HL.out (Below.refl _ _).drew) (fun hHeld => ?_)
  clear hK K
  try simp only [Act.put, List.setIfInBounds_toArray, List.set_cons_zero, List.set_cons_succ]
  refine take_to (i := 25) (d := some 58) (v := (.bool true)) (l' := #[true, true, true, true, true, true, true, true, true, true, true, true, true, true, true, true, true, true, true, true, true, true, true, true, true, true, false, false, false, false, false, false, false, false, false, false, false]) rfl rfl (by kernel_rfl) (by kernel_rfl) (by kernel_rfl) (by kernel_rfl) (fun _ _ _ h => h) ?_ (by assumption) ?_
  · exact yields_bin (by rfl) _ _ _ _ (by rfl) (.agg T) (.agg T) _ (by rfl) (by rfl) (fun W => by go_simp) ET.out
  try simp only [Act.put, List.setIfInBounds_toArray, List.set_cons_zero, List.set_cons_succ]
  refine take_to (i := 26) (d := some 59) (v := ?_) (l' := #[true, true, true, true, true, true, true, true, true, true, true, true, true, true, true, true, true, true, true, true, true, true, true, true, true, true, true, false, false, false, false, false, false, false, false, false, false]) rfl rfl (by kernel_rfl) (by kernel_rfl) (by kernel_rfl) (by kernel_rfl) (fun _ _ _ h => h) (Or.inl ⟨by rfl, ?_⟩) (by assumption) ?_; rotate_left; · (intro w' hSw; (try dsimp only at hSw); go_simp; (try with_reducible rfl))
  try simp only [Act.put, List.setIfInBounds_toArray, List.set_cons_zero, List.set_cons_succ]
  refine take_to (i := 27) (d := some 60) (v := ?_) (l' := #[true, true, true, true, true, true, true, true, true, true, true, true, true, true, true, true, true, true, true, true, true, true, true, true, true, true, true, true, false, false, false, false, false, false, false, false, false]) rfl rfl (by kernel_rfl) (by kernel_rfl) (by kernel_rfl) (by kernel_rfl) (fun _ _ _ h => h) (Or.inl ⟨by rfl, ?_⟩) (by assumption) ?_; rotate_left; · (intro w' hSw; (try dsimp only at hSw); go_simp; (try with_reducible rfl))
  try simp only [Act.put, List.setIfInBounds_toArray, List.set_cons_zero, List.set_cons_succ]
  refine take_to (i := 28) (d := some 61) (v := (.agg X)) (l' := #[true, true, true, true, true, true, true, true, true, true, true, true, true, true, true, true, true, true, true, true, true, true, true, true, true, true, true, true, true, false, false, false, false, false, false, false, false]) rfl rfl (by kernel_rfl) (by kernel_rfl) (by kernel_rfl) (by kernel_rfl) (fun _ _ _ h => h) ?_ (by assumption) ?_
  · exact yields_pos (by rfl) _ (by rfl) w.heap.size P X HX.out (by rfl) (fun W h => h.p)
  try simp only [Act.put, List.setIfInBounds_toArray, List.set_cons_zero, List.set_cons_succ]
  refine take_to (i := 29) (d := some 62) (v := (.agg #[.int .i64 k, .int .i64 d])) (l' := #[true, true, true, true, true, true, true, true, true, true, true, true, true, true, true, true, true, true, true, true, true, true, true, true, true, true, true, true, true, true, false, false, false, false, false, false, false]) rfl rfl (by kernel_rfl) (by kernel_rfl) (by kernel_rfl) (by kernel_rfl) (fun _ _ _ h => h) ?_ (by assumption) ?_
  · exact yields_pie (by rfl) _ (by rfl) (w.heap.size + 1) k d (by rfl) (fun W h => h.x)
  try simp only [Act.put, List.setIfInBounds_toArray, List.set_cons_zero, List.set_cons_succ]
  refine take_to (i := 31) (d := some 64) (v := (.agg X)) (l' := #[true, true, true, true, true, true, true, true, true, true, true, true, true, true, true, true, true, true, true, true, true, true, true, true, true, true, true, true, true, true, false, true, false, false, false, false, false]) rfl rfl (by kernel_rfl) (by kernel_rfl) (by kernel_rfl) (by kernel_rfl) (fun _ _ _ h => h) ?_ (by assumption) ?_
  · exact yields_pos (by rfl) _ (by rfl) w.heap.size P X HX.out (by rfl) (fun W h => h.p)
  try simp only [Act.put, List.setIfInBounds_toArray, List.set_cons_zero, List.set_cons_succ]
  refine take_to (i := 32) (d := some 65) (v := (.agg #[.int .i64 k, .int .i64 d])) (l' := #[true, true, true, true, true, true, true, true, true, true, true, true, true, true, true, true, true, true, true, true, true, true, true, true, true, true, true, true, true, true, false, true, true, false, false, false, false]) rfl rfl (by kernel_rfl) (by kernel_rfl) (by kernel_rfl) (by kernel_rfl) (fun _ _ _ h => h) ?_ (by assumption) ?_
  · exact yields_pie (by rfl) _ (by rfl) (w.heap.size + 1) k d (by rfl) (fun W h => h.x)
  try simp only [Act.put, List.setIfInBounds_toArray, List.set_cons_zero, List.set_cons_succ]
  refine one_to (i := 30) (l' := #[true, true, true, true, true, true, true, true, true, true, true, true, true, true, true, true, true, true, true, true, true, true, true, true, true, true, true, true, true, true, true, true, true, false, false, false, false]) rfl (by kernel_rfl) (by kernel_rfl) (fun K hK => ?_)
  go_simp
  refine (MF.out _).mono ?_
  rintro e V6 ⟨v1, rfl, hb, hown⟩
  rw [ivals_range] at hown
  obtain ⟨pa, ca, rfl, hra, _⟩ := sq_reads hown
  have HRA := Lib.hid hra
  replace HL := Lib.hid (HGO.out _ _ HL.out hb)
  clear hb hown hra
  dsimp only
  refine hK.out _ _ (by first | exact HL.out | exact HGO.out _ _ HL.out (Below.refl _ _).drew) (fun hHeld => ?_)
  clear hK K
  try simp only [Act.put, List.setIfInBounds_toArray, List.set_cons_zero, List.set_cons_succ]
  refine one_to (i := 33) (l' := #[true, true, true, true, true, true, true, true, true, true, true, true, true, true, true, true, true, true, true, true, true, true, true, true, true, true, true, true, true, true, true, true, true, true, false, false, false]) rfl (by kernel_rfl) (by kernel_rfl) (fun K hK => ?_)
  go_simp
  refine (MG.out _).mono ?_
  rintro e V7 ⟨v2, rfl, hb, hown⟩
  rw [ivals_range] at hown
  obtain ⟨pb, cb, rfl, hrb, _⟩ := sq_reads hown
  have HRB := Lib.hid hrb
  replace HRA := Lib.hid ((HRA.out.below hb).mono hb.size)
  replace HL := Lib.hid (HGO.out _ _ HL.out hb)
  clear hb hown hrb
  dsimp only
  refine hK.out _ _ (by first | exact HL.out | exact HGO.out _ _ HL.out (Below.refl _ _).drew) (fun hHeld => ?_)
  clear hK K
  try simp only [Act.put, List.setIfInBounds_toArray, List.set_cons_zero, List.set_cons_succ]
  refine one_to (i := 34) (l' := #[true, true, true, true, true, true, true, true, true, true, true, true, true, true, true, true, true, true, true, true, true, true, true, true, true, true, true, true, true, true, true, true, true, true, true, false, false]) rfl (by kernel_rfl) (by kernel_rfl) (fun K hK => ?_)
  go_simp
  refine (sameInts_any _ pa pb L.length ca cb (fun i => L.getD i 0) _ (by omega) HRA.out HRB.out).mono ?_
  rintro e V8 ⟨rfl, hb⟩
  replace HL := Lib.hid (HGO.out _ _ HL.out hb)
  clear hb HRA HRB
  dsimp only
  refine hK.out _ _ (by first | exact HL.out | exact HGO.out _ _ HL.out (Below.refl _ _).drew) (fun hHeld => ?_)
  clear hK K
  try simp only [Act.put, List.setIfInBounds_toArray, List.set_cons_zero, List.set_cons_succ]
  refine take_to (i := 35) (d := some 68) (v := ?_) (l' := #[true, true, true, true, true, true, true, true, true, true, true, true, true, true, true, true, true, true, true, true, true, true, true, true, true, true, true, true, true, true, true, true, true, true, true, true, false]) rfl rfl (by kernel_rfl) (by kernel_rfl) (by kernel_rfl) (by kernel_rfl) (fun _ _ _ h => h) (Or.inl ⟨by rfl, ?_⟩) (by assumption) ?_; rotate_left; · (intro w' hSw; (try dsimp only at hSw); go_simp; (try with_reducible rfl))
  try simp only [Act.put, List.setIfInBounds_toArray, List.set_cons_zero, List.set_cons_succ]
  refine take_to (i := 36) (d := some 12) (v := ?_) (l' := #[true, true, true, true, true, true, true, true, true, true, true, true, true, true, true, true, true, true, true, true, true, true, true, true, true, true, true, true, true, true, true, true, true, true, true, true, true]) rfl rfl (by kernel_rfl) (by kernel_rfl) (by kernel_rfl) (by kernel_rfl) (fun _ _ _ h => h) (Or.inl ⟨by rfl, ?_⟩) (by assumption) ?_; rotate_left; · (intro w' hSw; (try dsimp only at hSw); go_simp; (try with_reducible rfl))
  try simp only [Act.put, List.setIfInBounds_toArray, List.set_cons_zero, List.set_cons_succ]
  refine wpAnyH_done (by kernel_rfl) ?_ _
  refine NoPanic.normal ?_
  clear hHeld
  obtain ⟨sd, hsd⟩ : ∃ s, P 128 = s := ⟨_, rfl⟩
  have HSD := Lib.hid hsd
  clear hsd
  have M1 := Lib.hid (MK.out sd)
  have M2 := Lib.hid (ML.out sd)
  have M3 := Lib.hid (MK.out (oth sd))
  have M4 := Lib.hid (ML.out (oth sd))
  generalize kingN P sd = k1 at M1 M2
  generalize kingN P (oth sd) = k2 at M3 M4
  clear MK ML
  go_upto_region 7 with (fail)
  refine wp_region_noPanic ?_
  refine wp_region_start (n := 29) (l := #[false, false, false, false, false, false, false, false, false, false, false, false, false, false, false, false, false, false, false, false, false, false, false, false, false, false, false, false, false]) (S := (fun W => TL B w W b8 b10 P (putQ P k d g n) k d)) (by kernel_rfl) rfl (by kernel_rfl) (by first | exact HL.out | exact HGO.out _ _ HL.out (Below.refl _ _).drew) (fun hHeld => ?_)
  replace HL := Lib.hid (HGO.out _ _ HL.out (Below.refl V8.heap.size V8).drew)
  generalize V8.drew = U0 at hHeld HL ⊢
  refine take_to (i := 0) (d := some 69) (v := ?_) (l' := #[true, false, false, false, false, false, false, false, false, false, false, false, false, false, false, false, false, false, false, false, false, false, false, false, false, false, false, false, false]) rfl rfl (by kernel_rfl) (by kernel_rfl) (by kernel_rfl) (by kernel_rfl) (fun _ _ _ h => h) (Or.inl ⟨by rfl, ?_⟩) (by assumption) ?_; rotate_left; · (intro w' hSw; (try dsimp only at hSw); go_simp; (try with_reducible rfl))
  try simp only [Act.put, List.setIfInBounds_toArray, List.set_cons_zero, List.set_cons_succ]
  refine take_to (i := 1) (d := some 70) (v := ?_) (l' := #[true, true, false, false, false, false, false, false, false, false, false, false, false, false, false, false, false, false, false, false, false, false, false, false, false, false, false, false, false]) rfl rfl (by kernel_rfl) (by kernel_rfl) (by kernel_rfl) (by kernel_rfl) (fun _ _ _ h => h) (Or.inl ⟨by rfl, ?_⟩) (by assumption) ?_; rotate_left; · (intro w' hSw; (try dsimp only at hSw); go_simp; (try with_reducible rfl))
  try simp only [Act.put, List.setIfInBounds_toArray, List.set_cons_zero, List.set_cons_succ]
  refine take_to (i := 2) (d := some 71) (v := (.agg X)) (l' := #[true, true, true, false, false, false, false, false, false, false, false, false, false, false, false, false, false, false, false, false, false, false, false, false, false, false, false, false, false]) rfl rfl (by kernel_rfl) (by kernel_rfl) (by kernel_rfl) (by kernel_rfl) (fun _ _ _ h => h) ?_ (by assumption) ?_
  · exact yields_pos (by rfl) _ (by rfl) w.heap.size P X HX.out (by rfl) (fun W h => h.p)
  try simp only [Act.put, List.setIfInBounds_toArray, List.set_cons_zero, List.set_cons_succ]
  refine take_to (i := 3) (d := some 72) (v := ?_) (l' := #[true, true, true, true, false, false, false, false, false, false, false, false, false, false, false, false, false, false, false, false, false, false, false, false, false, false, false, false, false]) rfl rfl (by kernel_rfl) (by kernel_rfl) (by kernel_rfl) (by kernel_rfl) (fun _ _ _ h => h) (Or.inl ⟨by rfl, ?_⟩) (by assumption) ?_; rotate_left; · (intro w' hSw; (try dsimp only at hSw); go_simp; (try with_reducible rfl))
  try simp only [Act.put, List.setIfInBounds_toArray, List.set_cons_zero, List.set_cons_succ]
  refine take_to (i := 4) (d := some 73) (v := (.int .i64 sd)) (l' := #[true, true, true, true, true, false, false, false, false, false, false, false, false, false, false, false, false, false, false, false, false, false, false, false, false, false, false, false, false]) rfl rfl (by kernel_rfl) (by kernel_rfl) (by kernel_rfl) (by kernel_rfl) (fun _ _ _ h => h) ?_ (by assumption) ?_
  · refine Or.inl ⟨by rfl, ?_⟩; intro w' hSw; have e := hSw.p.cell 128 (by omega); rw [HSD.out] at e; go_simp
  try simp only [Act.put, List.setIfInBounds_toArray, List.set_cons_zero, List.set_cons_succ]
  refine take_to (i := 6) (d := some 75) (v := (.agg X)) (l' := #[true, true, true, true, true, false, true, false, false, false, false, false, false, false, false, false, false, false, false, false, false, false, false, false, false, false, false, false, false]) rfl rfl (by kernel_rfl) (by kernel_rfl) (by kernel_rfl) (by kernel_rfl) (fun _ _ _ h => h) ?_ (by assumption) ?_
  · exact yields_pos (by rfl) _ (by rfl) w.heap.size P X HX.out (by rfl) (fun W h => h.p)
  try simp only [Act.put, List.setIfInBounds_toArray, List.set_cons_zero, List.set_cons_succ]
  refine take_to (i := 7) (d := some 76) (v := ?_) (l' := #[true, true, true, true, true, false, true, true, false, false, false, false, false, false, false, false, false, false, false, false, false, false, false, false, false, false, false, false, false]) rfl rfl (by kernel_rfl) (by kernel_rfl) (by kernel_rfl) (by kernel_rfl) (fun _ _ _ h => h) (Or.inl ⟨by rfl, ?_⟩) (by assumption) ?_; rotate_left; · (intro w' hSw; (try dsimp only at hSw); go_simp; (try with_reducible rfl))
  try simp only [Act.put, List.setIfInBounds_toArray, List.set_cons_zero, List.set_cons_succ]
  refine take_to (i := 8) (d := some 77) (v := (.int .i64 sd)) (l' := #[true, true, true, true, true, false, true, true, true, false, false, false, false, false, false, false, false, false, false, false, false, false, false, false, false, false, false, false, false]) rfl rfl (by kernel_rfl) (by kernel_rfl) (by kernel_rfl) (by kernel_rfl) (fun _ _ _ h => h) ?_ (by assumption) ?_
  · refine Or.inl ⟨by rfl, ?_⟩; intro w' hSw; have e := hSw.p.cell 128 (by omega); rw [HSD.out] at e; go_simp
  try simp only [Act.put, List.setIfInBounds_toArray, List.set_cons_zero, List.set_cons_succ]
  refine one_to (i := 5) (l' := #[true, true, true, true, true, true, true, true, true, false, false, false, false, false, false, false, false, false, false, false, false, false, false, false, false, false, false, false, false]) rfl (by kernel_rfl) (by kernel_rfl) (fun K hK => ?_)
  go_simp
  refine (M1.out _).mono ?_
  rintro e U1 ⟨rfl, hb⟩
  replace HL := Lib.hid (HGO.out _ _ HL.out hb)
  clear hb
  dsimp only
  refine hK.out _ _ (by first | exact HL.out | exact HGO.out _ _ HL.out (Below.refl _ _).drew) (fun hHeld => ?_)
  clear hK K
  try simp only [Act.put, List.setIfInBounds_toArray, List.set_cons_zero, List.set_cons_succ]
  refine one_to (i := 9) (l' := #[true, true, true, true, true, true, true, true, true, true, false, false, false, false, false, false, false, false, false, false, false, false, false, false, false, false, false, false, false]) rfl (by kernel_rfl) (by kernel_rfl) (fun K hK => ?_)
  go_simp
  refine (M2.out _).mono ?_
  rintro e U2 ⟨rfl, hb⟩
  replace HL := Lib.hid (HGO.out _ _ HL.out hb)
  clear hb
  dsimp only
  refine hK.out _ _ (by first | exact HL.out | exact HGO.out _ _ HL.out (Below.refl _ _).drew) (fun hHeld => ?_)
  clear hK K
  try simp only [Act.put, List.setIfInBounds_toArray, List.set_cons_zero, List.set_cons_succ]
  refine take_to (i := 10) (d := some 79) (v := ?_) (l' := #[true, true, true, true, true, true, true, true, true, true, true, false, false, false, false, false, false, false, false, false, false, false, false, false, false, false, false, false, false]) rfl rfl (by kernel_rfl) (by kernel_rfl) (by kernel_rfl) (by kernel_rfl) (fun _ _ _ h => h) (Or.inl ⟨by rfl, ?_⟩) (by assumption) ?_; rotate_left; · (intro w' hSw; (try dsimp only at hSw); go_simp; (try with_reducible rfl))
  try simp only [Act.put, List.setIfInBounds_toArray, List.set_cons_zero, List.set_cons_succ]
  refine take_to (i := 11) (d := some 80) (v := ?_) (l' := #[true, true, true, true, true, true, true, true, true, true, true, true, false, false, false, false, false, false, false, false, false, false, false, false, false, false, false, false, false]) rfl rfl (by kernel_rfl) (by kernel_rfl) (by kernel_rfl) (by kernel_rfl) (fun _ _ _ h => h) (Or.inl ⟨by rfl, ?_⟩) (by assumption) ?_; rotate_left; · (intro w' hSw; (try dsimp only at hSw); go_simp; (try with_reducible rfl))
  try simp only [Act.put, List.setIfInBounds_toArray, List.set_cons_zero, List.set_cons_succ]
  refine take_to (i := 12) (d := some 81) (v := ?_) (l' := #[true, true, true, true, true, true, true, true, true, true, true, true, true, false, false, false, false, false, false, false, false, false, false, false, false, false, false, false, false]) rfl rfl (by kernel_rfl) (by kernel_rfl) (by kernel_rfl) (by kernel_rfl) (fun _ _ _ h => h) (Or.inl ⟨by rfl, ?_⟩) (by assumption) ?_; rotate_left; · (intro w' hSw; (try dsimp only at hSw); go_simp; (try with_reducible rfl))
  try simp only [Act.put, List.setIfInBounds_toArray, List.set_cons_zero, List.set_cons_succ]
  refine take_to (i := 13) (d := some 82) (v := (.agg X)) (l' := #[true, true, true, true, true, true, true, true, true, true, true, true, true, true, false, false, false, false, false, false, false, false, false, false, false, false, false, false, false]) rfl rfl (by kernel_rfl) (by kernel_rfl) (by kernel_rfl) (by kernel_rfl) (fun _ _ _ h => h) ?_ (by assumption) ?_
  · exact yields_pos (by rfl) _ (by rfl) w.heap.size P X HX.out (by rfl) (fun W h => h.p)
  try simp only [Act.put, List.setIfInBounds_toArray, List.set_cons_zero, List.set_cons_succ]
  refine take_to (i := 14) (d := some 83) (v := ?_) (l' := #[true, true, true, true, true, true, true, true, true, true, true, true, true, true, true, false, false, false, false, false, false, false, false, false, false, false, false, false, false]) rfl rfl (by kernel_rfl) (by kernel_rfl) (by kernel_rfl) (by kernel_rfl) (fun _ _ _ h => h) (Or.inl ⟨by rfl, ?_⟩) (by assumption) ?_; rotate_left; · (intro w' hSw; (try dsimp only at hSw); go_simp; (try with_reducible rfl))
  try simp only [Act.put, List.setIfInBounds_toArray, List.set_cons_zero, List.set_cons_succ]
  refine take_to (i := 15) (d := some 84) (v := (.int .i64 sd)) (l' := #[true, true, true, true, true, true, true, true, true, true, true, true, true, true, true, true, false, false, false, false, false, false, false, false, false, false, false, false, false]) rfl rfl (by kernel_rfl) (by kernel_rfl) (by kernel_rfl) (by kernel_rfl) (fun _ _ _ h => h) ?_ (by assumption) ?_
  · refine Or.inl ⟨by rfl, ?_⟩; intro w' hSw; have e := hSw.p.cell 128 (by omega); rw [HSD.out] at e; go_simp
  try simp only [Act.put, List.setIfInBounds_toArray, List.set_cons_zero, List.set_cons_succ]
  refine take_to (i := 18) (d := some 87) (v := (.agg X)) (l' := #[true, true, true, true, true, true, true, true, true, true, true, true, true, true, true, true, false, false, true, false, false, false, false, false, false, false, false, false, false]) rfl rfl (by kernel_rfl) (by kernel_rfl) (by kernel_rfl) (by kernel_rfl) (fun _ _ _ h => h) ?_ (by assumption) ?_
  · exact yields_pos (by rfl) _ (by rfl) w.heap.size P X HX.out (by rfl) (fun W h => h.p)
  try simp only [Act.put, List.setIfInBounds_toArray, List.set_cons_zero, List.set_cons_succ]
  refine take_to (i := 19) (d := some 88) (v := ?_) (l' := #[true, true, true, true, true, true, true, true, true, true, true, true, true, true, true, true, false, false, true, true, false, false, false, false, false, false, false, false, false]) rfl rfl (by kernel_rfl) (by kernel_rfl) (by kernel_rfl) (by kernel_rfl) (fun _ _ _ h => h) (Or.inl ⟨by rfl, ?_⟩) (by assumption) ?_; rotate_left; · (intro w' hSw; (try dsimp only at hSw); go_simp; (try with_reducible rfl))
  try simp only [Act.put, List.setIfInBounds_toArray, List.set_cons_zero, List.set_cons_succ]
  refine take_to (i := 20) (d := some 89) (v := (.int .i64 sd)) (l' := #[true, true, true, true, true, true, true, true, true, true, true, true, true, true, true, true, false, false, true, true, true, false, false, false, false, false, false, false, false]) rfl rfl (by kernel_rfl) (by kernel_rfl) (by kernel_rfl) (by kernel_rfl) (fun _ _ _ h => h) ?_ (by assumption) ?_
  · refine Or.inl ⟨by rfl, ?_⟩; intro w' hSw; have e := hSw.p.cell 128 (by omega); rw [HSD.out] at e; go_simp
  try simp only [Act.put, List.setIfInBounds_toArray, List.set_cons_zero, List.set_cons_succ]
  refine one_to (i := 16) (l' := #[true, true, true, true, true, true, true, true, true, true, true, true, true, true, true, true, true, false, true, true, true, false, false, false, false, false, false, false, false]) rfl (by kernel_rfl) (by kernel_rfl) (fun K hK => ?_)
  go_simp
  refine (other_any sd _).mono ?_
  rintro e U3 ⟨rfl, rfl⟩
  dsimp only
  refine hK.out _ _ (by first | exact HL.out | exact HGO.out _ _ HL.out (Below.refl _ _).drew) (fun hHeld => ?_)
  clear hK K
  try simp only [Act.put, List.setIfInBounds_toArray, List.set_cons_zero, List.set_cons_succ]
  refine one_to (i := 17) (l' := #[true, true, true, true, true, true, true, true, true, true, true, true, true, true, true, true, true, true, true, true, true, false, false, false, false, false, false, false, false]) rfl (by kernel_rfl) (by kernel_rfl) (fun K hK => ?_)
  go_simp
  refine (M3.out _).mono ?_
  rintro e U4 ⟨rfl, hb⟩
  replace HL := Lib.hid (HGO.out _ _ HL.out hb)
  clear hb
  dsimp only
  refine hK.out _ _ (by first | exact HL.out | exact HGO.out _ _ HL.out (Below.refl _ _).drew) (fun hHeld => ?_)
  clear hK K
  try simp only [Act.put, List.setIfInBounds_toArray, List.set_cons_zero, List.set_cons_succ]
  refine one_to (i := 21) (l' := #[true, true, true, true, true, true, true, true, true, true, true, true, true, true, true, true, true, true, true, true, true, true, false, false, false, false, false, false, false]) rfl (by kernel_rfl) (by kernel_rfl) (fun K hK => ?_)
  go_simp
  refine (rOther_any sd _).mono ?_
  rintro e U5 ⟨rfl, rfl⟩
  dsimp only
  refine hK.out _ _ (by first | exact HL.out | exact HGO.out _ _ HL.out (Below.refl _ _).drew) (fun hHeld => ?_)
  clear hK K
  try simp only [Act.put, List.setIfInBounds_toArray, List.set_cons_zero, List.set_cons_succ]
  refine one_to (i := 22) (l' := #[true, true, true, true, true, true, true, true, true, true, true, true, true, true, true, true, true, true, true, true, true, true, true, false, false, false, false, false, false]) rfl (by kernel_rfl) (by kernel_rfl) (fun K hK => ?_)
  go_simp
  refine (M4.out _).mono ?_
  rintro e U6 ⟨rfl, hb⟩
  replace HL := Lib.hid (HGO.out _ _ HL.out hb)
  clear hb
  dsimp only
  refine hK.out _ _ (by first | exact HL.out | exact HGO.out _ _ HL.out (Below.refl _ _).drew) (fun hHeld => ?_)
  clear hK K
  try simp only [Act.put, List.setIfInBounds_toArray, List.set_cons_zero, List.set_cons_succ]
  refine take_to (i := 23) (d := some 92) (v := ?_) (l' := #[true, true, true, true, true, true, true, true, true, true, true, true, true, true, true, true, true, true, true, true, true, true, true, true, false, false, false, false, false]) rfl rfl (by kernel_rfl) (by kernel_rfl) (by kernel_rfl) (by kernel_rfl) (fun _ _ _ h => h) (Or.inl ⟨by rfl, ?_⟩) (by assumption) ?_; rotate_left; · (intro w' hSw; (try dsimp only at hSw); go_simp; (try with_reducible rfl))
  try simp only [Act.put, List.setIfInBounds_toArray, List.set_cons_zero, List.set_cons_succ]
  refine take_to (i := 24) (d := some 93) (v := ?_) (l' := #[true, true, true, true, true, true, true, true, true, true, true, true, true, true, true, true, true, true, true, true, true, true, true, true, true, false, false, false, false]) rfl rfl (by kernel_rfl) (by kernel_rfl) (by kernel_rfl) (by kernel_rfl) (fun _ _ _ h => h) (Or.inl ⟨by rfl, ?_⟩) (by assumption) ?_; rotate_left; · (intro w' hSw; (try dsimp only at hSw); go_simp; (try with_reducible rfl))
  try simp only [Act.put, List.setIfInBounds_toArray, List.set_cons_zero, List.set_cons_succ]
  refine take_to (i := 25) (d := some 94) (v := ?_) (l' := #[true, true, true, true, true, true, true, true, true, true, true, true, true, true, true, true, true, true, true, true, true, true, true, true, true, true, false, false, false]) rfl rfl (by kernel_rfl) (by kernel_rfl) (by kernel_rfl) (by kernel_rfl) (fun _ _ _ h => h) (Or.inl ⟨by rfl, ?_⟩) (by assumption) ?_; rotate_left; · (intro w' hSw; (try dsimp only at hSw); go_simp; (try with_reducible rfl))
  try simp only [Act.put, List.setIfInBounds_toArray, List.set_cons_zero, List.set_cons_succ]
  refine one_to (i := 26) (l' := #[true, true, true, true, true, true, true, true, true, true, true, true, true, true, true, true, true, true, true, true, true, true, true, true, true, true, true, false, false]) rfl (by kernel_rfl) (by kernel_rfl) (fun K hK => ?_)
  go_simp
  refine (awakeB_any _ B HL.out.g (Nat.le_trans hB HL.out.b.size)).mono ?_
  rintro e U7 ⟨rfl, hb⟩
  replace HL := Lib.hid (HGO.out _ _ HL.out hb)
  clear hb
  dsimp only
  refine hK.out _ _ (by first | exact HL.out | exact HGO.out _ _ HL.out (Below.refl _ _).drew) (fun hHeld => ?_)
  clear hK K
  try simp only [Act.put, List.setIfInBounds_toArray, List.set_cons_zero, List.set_cons_succ]
  refine take_to (i := 27) (d := some 96) (v := ?_) (l' := #[true, true, true, true, true, true, true, true, true, true, true, true, true, true, true, true, true, true, true, true, true, true, true, true, true, true, true, true, false]) rfl rfl (by kernel_rfl) (by kernel_rfl) (by kernel_rfl) (by kernel_rfl) (fun _ _ _ h => h) (Or.inl ⟨by rfl, ?_⟩) (by assumption) ?_; rotate_left; · (intro w' hSw; (try dsimp only at hSw); go_simp; (try with_reducible rfl))
  try simp only [Act.put, List.setIfInBounds_toArray, List.set_cons_zero, List.set_cons_succ]
  refine take_to (i := 28) (d := some 6) (v := ?_) (l' := #[true, true, true, true, true, true, true, true, true, true, true, true, true, true, true, true, true, true, true, true, true, true, true, true, true, true, true, true, true]) rfl rfl (by kernel_rfl) (by kernel_rfl) (by kernel_rfl) (by kernel_rfl) (fun _ _ _ h => h) (Or.inl ⟨by rfl, ?_⟩) (by assumption) ?_; rotate_left; · (intro w' hSw; (try dsimp only at hSw); go_simp; (try with_reducible rfl))
  try simp only [Act.put, List.setIfInBounds_toArray, List.set_cons_zero, List.set_cons_succ]
  refine wpAnyH_done (by kernel_rfl) ?_ _
  refine NoPanic.normal ?_
  clear hHeld
  go_wp2
  go_ret
  exact ⟨rfl, HL.out.b⟩
end Go.Proofs.YteahikjnlhlmmaaDoor
