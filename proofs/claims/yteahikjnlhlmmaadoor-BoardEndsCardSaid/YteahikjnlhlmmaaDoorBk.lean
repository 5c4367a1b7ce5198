/-
  Contracts: pieces put.
-/
import Derived.Test.YteahikjnlhlmmaaDoorBj
namespace Go.Proofs.YteahikjnlhlmmaaDoor
open Go.RowKit Go.Sort
set_option linter.unusedSimpArgs false
set_option linter.unusedVariables false

/-- a piece put on the first m of some squares -/
def putN (P : Nat → Int) (k d : Int) (g : Nat → Int) : Nat → Nat → Int
  | 0 => P
  | m + 1 => setN (setN (putN P k d g m) (2 * (g m).toNat) k) (2 * (g m).toNat + 1) d
/-- are the first m numbers squares -/
def okN (g : Nat → Int) : Nat → Bool
  | 0 => true
  | m + 1 => okN g m && sq (g m)
theorem okN_iff (g : Nat → Int) (n : Nat) : okN g n = true ↔ ∀ i, i < n → sq (g i) = true := by
  induction n with
  | zero => simp [okN]
  | succ n ih =>
    simp only [okN, Bool.and_eq_true, ih]
    constructor
    · rintro ⟨h1, h2⟩ i hi
      rcases Nat.lt_succ_iff_lt_or_eq.1 hi with h | rfl
      · exact h1 i h
      · exact h2
    · intro h; exact ⟨fun i hi => h i (by omega), h n (by omega)⟩
theorem okN_false (g : Nat → Int) {n m : Nat} (h : m < n) (hs : sq (g m) = false) : okN g n = false := by
  cases e : okN g n
  · rfl
  · rw [(okN_iff g n).1 e m h] at hs; cases hs
/-- may be put -/
def canP (k d : Int) : Bool := pe k d 0 0 || mayB k d
/-- what Put answers -/
def putQ (P : Nat → Int) (k d : Int) (g : Nat → Int) (n : Nat) : Nat → Int := if canP k d && okN g n then putN P k d g n else fun _ => 0
def putE (k d : Int) (g : Nat → Int) (n : Nat) : Int := if canP k d then (if okN g n then 0 else 6) else 2
theorem infoErrno : (Tryd.prog.info? 33).map (·.size) = some 1 := by kernel_rfl
theorem three_at (w : World) (o1 o2 o3 : Obj) : (((w.alloc o1).alloc o2).alloc o3).heap[w.heap.size]? = some o1 ∧ (((w.alloc o1).alloc o2).alloc o3).heap[w.heap.size + 1]? = some o2 ∧ (((w.alloc o1).alloc o2).alloc o3).heap[w.heap.size + 2]? = some o3 ∧
    Below w.heap.size w (((w.alloc o1).alloc o2).alloc o3) ∧ (((w.alloc o1).alloc o2).alloc o3).heap.size = w.heap.size + 3 :=
  ⟨sl_go (two_at w o1 o2).1 (below_new _), sl_go (two_at w o1 o2).2.1 (below_new _), sl_at (by simp), (two_at w o1 o2).2.2.1.alloc (by simp; omega) _, by simp⟩

/-- what stands while a piece is put: the position, the piece, the answer's place -/
structure PT (w W : World) (P : Nat → Int) (k d : Int) : Prop where
  p : PB W w.heap.size P
  x : W.heap[w.heap.size + 1]? = some (.cells #[.int .i64 k, .int .i64 d] 25 (0, 0))
  z : PB W (w.heap.size + 2) (fun _ => 0)
  b : Below w.heap.size w W
  s : w.heap.size + 3 ≤ W.heap.size
theorem PT.go {w W W' : World} {P : Nat → Int} {k d : Int} (h : PT w W P k d) (g : Below W.heap.size W W') : PT w W' P k d :=
  ⟨h.p.go g, sl_go h.x g, h.z.go g, h.b.trans (g.mono h.b.size), Nat.le_trans h.s g.size⟩
theorem PT.set {w W : World} {P : Nat → Int} {k d : Int} (h : PT w W P k d) (i : Nat) (v : Int) (hi : i < 133) : PT w (W.setCell ⟨w.heap.size, i, none⟩ (.int .i64 v)) (setN P i v) k d :=
  ⟨h.p.set i v hi, (Go.heap_setCell_other _ _ _ _ (by simp)).trans h.x, h.z.other (by omega) _ _, h.b.setCell (p := ⟨w.heap.size, i, none⟩) (Nat.le_refl _) _, by rw [World.size_setCell]; exact h.s⟩
theorem PT.begin (w : World) (P : Nat → Int) (k d : Int) (X : Array Value) (hX : X = (pc P).toArray) :
    PT w (((w.alloc (.cells X 29)).alloc (.cells #[.int .i64 k, .int .i64 d] 25)).alloc (.cells Tryd.zeroCells29 29)) P k d := by
  obtain ⟨a1, a2, a3, a4, a5⟩ := three_at w (.cells X 29) (.cells #[.int .i64 k, .int .i64 d] 25) (.cells Tryd.zeroCells29 29)
  rw [zeroPos] at *
  exact ⟨PB.of_block (by rw [hX] at a1 ⊢; exact a1), a2, PB.of_block a3, a4, by rw [a5]; exact Nat.le_refl _⟩

theorem results_mid2 {P : Program} {fn : Func} {p u : Tmp} {ty : TypeId} (h : fn.results = #[.cell p ty, .tmp u]) (tmps : Array Value) (w : World) (g : Nat) (cs : List Value) (d : TypeDesc) (v : Value)
    (hp : tmps.getD p undef = .pointer (some ⟨g, 0, none⟩)) (hv : tmps.getD u undef = v) (hc : w.rangeAt g 0 cs) (hu : P.underlying ty = some d) (hd : d.isRow = true) (hi : (P.info? ty).map (·.size) = some cs.length) :
    (results fn tmps).run P w = .ok (.tuple #[.agg cs.toArray, v]) w := by
  rw [results_cell_tmp h, hp, hv]
  simp [asAddr, run_loadVar_mid w g 0 ty cs d hc hu hd hi]
theorem PT.stored {w W : World} {P Q : Nat → Int} {k d : Int} (h : PT w W P k d) : (W.setCells (w.heap.size + 2) 0 (pc Q)).rangeAt (w.heap.size + 2) 0 (pc Q) ∧ Below w.heap.size w (W.setCells (w.heap.size + 2) 0 (pc Q)) :=
  ⟨(h.z.store (Q := Q)).range, below_store (b := w.heap.size + 2) Q h.b (by omega) h.b.size⟩

set_option maxHeartbeats 2000000 in
set_option maxRecDepth 100000 in
theorem put_any (P : Nat → Int) (k d : Int) (B : Nat) (p : Option Addr) (n c : Nat) (g : Nat → Int) (w : World) (hn : n ≤ 4294967295) (hr : Reads B w p n (fun i => .int .i64 (g i))) (hB : B ≤ w.heap.size) :
    Calls Tryd.prog 9 #[.agg (pc P).toArray, .agg #[.int .i64 k, .int .i64 d], .slice p n c] w fun e w' => e = .returned (.tuple #[.agg (pc (putQ P k d g n)).toArray, .int .i64 (putE k d g n)]) ∧ Below w.heap.size w w' := by
  obtain ⟨X, hX⟩ : ∃ X, X = (pc P).toArray := ⟨_, rfl⟩
  obtain ⟨Y, hY⟩ : ∃ Y, Y = (pc (putQ P k d g n)).toArray := ⟨_, rfl⟩
  rw [← hX, ← hY]
  have HX := Lib.hid hX
  have HY := Lib.hid hY
  have hp0 := PT.begin w P k d X hX
  have HP0 := Lib.hid hp0
  obtain ⟨a, ha⟩ : ∃ a, pe k d 0 0 = a := ⟨_, rfl⟩
  obtain ⟨b, hb⟩ : ∃ b, mayB k d = b := ⟨_, rfl⟩
  have HA := Lib.hid ha
  have HBB := Lib.hid hb
  have HRD := Lib.hid hr
  clear hX hY hp0 ha hb hr
  go_enter Tryd.func9, Tryd.ntmps9
  go_upto_region 1 with (fail)
  refine forget_B (fun W => PT w W P k d) HP0.out ?_
  clear HP0
  intro W h1
  obtain ⟨q1, q2, qf, qz⟩ := row2 h1.x
  have H1 := Lib.hid h1
  clear h1
  go_wp2_with fail
  refine (none_any k d _).mono ?_
  rw [HA.out]
  rintro e w1 ⟨rfl, hb1⟩
  clear q1 q2 qf qz
  have h1 := H1.out.go hb1
  clear H1 hb1
  obtain ⟨q1, q2, qf, qz⟩ := row2 h1.x
  have H1 := Lib.hid h1
  clear h1
  cases a
  · go_wp2_with fail
    refine (mayBe_any k d _).mono ?_
    rw [HBB.out]
    rintro e w2 ⟨rfl, hb2⟩
    clear q1 q2 qf qz
    have h1 := H1.out.go hb2
    clear H1 hb2
    have H1 := Lib.hid h1
    clear h1
    cases b
    · go_upto_region 2 with (fail)
      refine wp_region_lit ?_
      refine wpList_plain rfl (fun K hK => ?_)
      go_simp
      refine hK _ _ ?_
      clear hK K
      refine wpList_store_mid rfl 29 _ _ rfl (w.heap.size + 2) 0 (pc fun _ => 0).toArray rfl (congrArg Value.agg zeroPos) (by rw [pc_size]; exact H1.out.z.there) (by rw [infoPos, pc_size]) (pc_one _) ?_
      rw [List.toList_toArray]
      obtain ⟨hr1, hb1⟩ := H1.out.stored (Q := fun _ => 0)
      have HR := Lib.hid hr1
      have HB := Lib.hid hb1
      clear hr1 hb1 H1
      generalize w2.setCells (w.heap.size + 2) 0 (pc fun _ => 0) = W8 at HR HB ⊢
      refine wpList_plain rfl (fun K hK => ?_)
      go_simp
      refine hK _ _ ?_
      clear hK K
      show Exit.then _ _ Exit.normal _ _
      refine ret_go (by assumption) ?_
      repeat (first | refine then_ret ?_ | refine block_ret ?_)
      have hqq : putQ P k d g n = fun _ => 0 := by unfold putQ canP; rw [HA.out, HBB.out]; rfl
      have hqe : putE k d g n = 2 := by unfold putE canP; rw [HA.out, HBB.out]; rfl
      refine bodyPost_ret (v := .tuple #[.agg (pc fun _ => 0).toArray, .int .i64 2]) ?_ rfl ⟨by rw [HY.out, hqq, hqe], HB.out⟩
      exact results_mid2 (p := 6) (u := 7) (ty := 29) rfl _ W8 (w.heap.size + 2) _ _ _ rfl rfl HR.out Tryd.underlying29 rfl (by rw [infoPos, pc_len])
    · have HCP := Lib.hid (show canP k d = true by unfold canP; rw [HA.out, HBB.out]; rfl)
      clear HA HBB
      go_upto_region 3 with (fail)
      have HQQ := Lib.hid (show putQ P k d g n = if okN g n then putN P k d g n else fun _ => 0 by unfold putQ; rw [HCP.out]; rfl)
      have HQE := Lib.hid (show putE k d g n = if okN g n then 0 else 6 by unfold putE; rw [HCP.out]; rfl)
      clear HCP
      go_wp2
      go_loopw [21] (fun i wr => ∃ j : Nat, j ≤ n ∧ i = .int .i64 (j : Int) ∧ PT w wr (putN P k d g j) k d ∧ okN g j = true) (fun i _ => n - (intOf i).toNat)
      case atStart => exact ⟨0, Nat.zero_le _, rfl, H1.out, rfl⟩
      case round =>
        obtain ⟨j, hj, rfl, h1, h2⟩ := hrel
        clear H1
        have H1 := Lib.hid h1
        have H2 := Lib.hid h2
        clear h1 h2
        by_cases hlt : j < n
        · have hrd := HRD.out.below (H1.out.b.mono hB)
          rcases hrd with h0 | ⟨b, off, rfl, hbb, hc⟩
          · omega
          have e0 : wr.cell? ⟨b, off + j, none⟩ = some (.int .i64 (g j)) := hc j hlt
          obtain ⟨s, hs⟩ : ∃ s, g j = s := ⟨_, rfl⟩
          rw [hs] at e0
          have HS := Lib.hid hs
          clear hs hc
          go_wp2_with fail
          refine (is_any s _).mono ?_
          obtain ⟨v, hv⟩ : ∃ v, sq s = v := ⟨_, rfl⟩
          rw [hv]
          have HV := Lib.hid hv
          clear hv e0
          rintro e w3 ⟨rfl, hb3⟩
          have h1 := H1.out.go hb3
          clear H1 hb3
          have H1 := Lib.hid h1
          clear h1
          cases v
          · have HQ0 := Lib.hid (okN_false g hlt (by rw [HS.out]; exact HV.out))
            go_upto_region 7 with (fail)
            refine wp_region_lit ?_
            refine wpList_plain rfl (fun K hK => ?_)
            go_simp
            refine hK _ _ ?_
            clear hK K
            refine wpList_store_mid rfl 29 _ _ rfl (w.heap.size + 2) 0 (pc fun _ => 0).toArray rfl (congrArg Value.agg zeroPos) (by rw [pc_size]; exact H1.out.z.there) (by rw [infoPos, pc_size]) (pc_one _) ?_
            rw [List.toList_toArray]
            obtain ⟨hr1, hb1⟩ := H1.out.stored (Q := fun _ => 0)
            have HR := Lib.hid hr1
            have HB := Lib.hid hb1
            clear hr1 hb1 H1
            generalize w3.setCells (w.heap.size + 2) 0 (pc fun _ => 0) = W8 at HR HB ⊢
            refine wpList_plain rfl (fun K hK => ?_)
            go_simp
            refine hK _ _ ?_
            clear hK K
            show Exit.then _ _ Exit.normal _ _
            refine ret_go (by assumption) ?_
            repeat (first | refine then_ret ?_ | refine block_ret ?_)
            have hqq : putQ P k d g n = fun _ => 0 := by rw [HQQ.out, HQ0.out]; rfl
            have hqe : putE k d g n = 6 := by rw [HQE.out, HQ0.out]; rfl
            refine bodyPost_ret (v := .tuple #[.agg (pc fun _ => 0).toArray, .int .i64 6]) ?_ rfl ⟨by rw [HY.out, hqq, hqe], HB.out⟩
            exact results_mid2 (p := 6) (u := 7) (ty := 29) rfl _ W8 (w.heap.size + 2) _ _ _ rfl rfl HR.out Tryd.underlying29 rfl (by rw [infoPos, pc_len])
          · obtain ⟨s0, s1⟩ := (sq_iff s).1 HV.out
            obtain ⟨m, rfl⟩ : ∃ m : Nat, s = (m : Int) := ⟨s.toNat, by omega⟩
            have hm : m < 64 := by omega
            have e1 := H1.out.p.cell (m * 2) (by omega)
            have e2 := H1.out.p.cell (m * 2 + 1) (by omega)
            have e3 := H1.out.p.fr (m * 2)
            have e4 := H1.out.p.fr (m * 2 + 1)
            obtain ⟨q1, q2, qf, qz⟩ := row2 H1.out.x
            have hst := (H1.out.set (m * 2) k (by omega)).set (m * 2 + 1) d (by omega)
            have hpu : setN (setN (putN P k d g j) (m * 2) k) (m * 2 + 1) d = putN P k d g (j + 1) := by
              show _ = setN (setN (putN P k d g j) (2 * (g j).toNat) k) (2 * (g j).toNat + 1) d
              rw [HS.out, Int.toNat_natCast, Nat.mul_comm m 2]
            rw [hpu] at hst
            have HST := Lib.hid hst
            have HOK := Lib.hid (show okN g (j + 1) = true by show (okN g j && sq (g j)) = true; rw [H2.out, HS.out, HV.out]; rfl)
            clear hst hpu H1 H2
            go_wp2
            go_roundw
            case rel => exact ⟨j + 1, by omega, by go_num, HST.out, HOK.out⟩
            case measure => simp [intOf]; omega
        · obtain rfl : j = n := by omega
          have hqq : putQ P k d g j = putN P k d g j := by rw [HQQ.out, H2.out]; rfl
          have hqe : putE k d g j = 0 := by rw [HQE.out, H2.out]; rfl
          rw [hqq] at HY
          have HE := Lib.hid hqe
          clear hqq hqe
          go_upto_region 10 with (fail)
          refine wp_region_lit ?_
          refine wpList_load_mid rfl 29 _ rfl w.heap.size 0 rfl (pc (putN P k d g j)) _ H1.out.p.range Tryd.underlying29 rfl (by rw [infoPos, pc_len]) ?_
          refine wpList_store_mid rfl 29 _ _ rfl (w.heap.size + 2) 0 (pc (putN P k d g j)).toArray rfl rfl (by rw [pc_size]; exact H1.out.z.there) (by rw [infoPos, pc_size]) (pc_one _) ?_
          rw [List.toList_toArray]
          obtain ⟨hr1, hb1⟩ := H1.out.stored (Q := putN P k d g j)
          have HR := Lib.hid hr1
          have HB := Lib.hid hb1
          clear hr1 hb1 H1
          generalize wr.setCells (w.heap.size + 2) 0 (pc (putN P k d g j)) = W8 at HR HB ⊢
          rw [← HY.out]
          refine wpList_plain rfl (fun K hK => ?_)
          go_simp
          refine hK _ _ ?_
          clear hK K
          show Exit.then _ _ Exit.normal _ _
          refine ret_go (by assumption) ?_
          repeat (first | refine then_ret ?_ | refine block_ret ?_)
          refine bodyPost_ret (v := .tuple #[.agg (pc (putN P k d g j)).toArray, .int .i64 0]) ?_ rfl ⟨by rw [HY.out, HE.out], HB.out⟩
          exact results_mid2 (p := 6) (u := 7) (ty := 29) rfl _ W8 (w.heap.size + 2) _ _ _ rfl rfl HR.out Tryd.underlying29 rfl (by rw [infoPos, pc_len])
  · have HCP := Lib.hid (show canP k d = true by unfold canP; rw [HA.out]; rfl)
    clear HA HBB
    go_upto_region 3 with (fail)
    have HQQ := Lib.hid (show putQ P k d g n = if okN g n then putN P k d g n else fun _ => 0 by unfold putQ; rw [HCP.out]; rfl)
    have HQE := Lib.hid (show putE k d g n = if okN g n then 0 else 6 by unfold putE; rw [HCP.out]; rfl)
    clear HCP
    go_wp2
    go_loopw [21] (fun i wr => ∃ j : Nat, j ≤ n ∧ i = .int .i64 (j : Int) ∧ PT w wr (putN P k d g j) k d ∧ okN g j = true) (fun i _ => n - (intOf i).toNat)
    case atStart => exact ⟨0, Nat.zero_le _, rfl, H1.out, rfl⟩
    case round =>
      obtain ⟨j, hj, rfl, h1, h2⟩ := hrel
      clear H1
      have H1 := Lib.hid h1
      have H2 := Lib.hid h2
      clear h1 h2
      by_cases hlt : j < n
      · have hrd := HRD.out.below (H1.out.b.mono hB)
        rcases hrd with h0 | ⟨b, off, rfl, hbb, hc⟩
        · omega
        have e0 : wr.cell? ⟨b, off + j, none⟩ = some (.int .i64 (g j)) := hc j hlt
        obtain ⟨s, hs⟩ : ∃ s, g j = s := ⟨_, rfl⟩
        rw [hs] at e0
        have HS := Lib.hid hs
        clear hs hc
        go_wp2_with fail
        refine (is_any s _).mono ?_
        obtain ⟨v, hv⟩ : ∃ v, sq s = v := ⟨_, rfl⟩
        rw [hv]
        have HV := Lib.hid hv
        clear hv e0
        rintro e w3 ⟨rfl, hb3⟩
        have h1 := H1.out.go hb3
        clear H1 hb3
        have H1 := Lib.hid h1
        clear h1
        cases v
        · have HQ0 := Lib.hid (okN_false g hlt (by rw [HS.out]; exact HV.out))
          go_upto_region 7 with (fail)
          refine wp_region_lit ?_
          refine wpList_plain rfl (fun K hK => ?_)
          go_simp
          refine hK _ _ ?_
          clear hK K
          refine wpList_store_mid rfl 29 _ _ rfl (w.heap.size + 2) 0 (pc fun _ => 0).toArray rfl (congrArg Value.agg zeroPos) (by rw [pc_size]; exact H1.out.z.there) (by rw [infoPos, pc_size]) (pc_one _) ?_
          rw [List.toList_toArray]
          obtain ⟨hr1, hb1⟩ := H1.out.stored (Q := fun _ => 0)
          have HR := Lib.hid hr1
          have HB := Lib.hid hb1
          clear hr1 hb1 H1
          generalize w3.setCells (w.heap.size + 2) 0 (pc fun _ => 0) = W8 at HR HB ⊢
          refine wpList_plain rfl (fun K hK => ?_)
          go_simp
          refine hK _ _ ?_
          clear hK K
          show Exit.then _ _ Exit.normal _ _
          refine ret_go (by assumption) ?_
          repeat (first | refine then_ret ?_ | refine block_ret ?_)
          have hqq : putQ P k d g n = fun _ => 0 := by rw [HQQ.out, HQ0.out]; rfl
          have hqe : putE k d g n = 6 := by rw [HQE.out, HQ0.out]; rfl
          refine bodyPost_ret (v := .tuple #[.agg (pc fun _ => 0).toArray, .int .i64 6]) ?_ rfl ⟨by rw [HY.out, hqq, hqe], HB.out⟩
          exact results_mid2 (p := 6) (u := 7) (ty := 29) rfl _ W8 (w.heap.size + 2) _ _ _ rfl rfl HR.out Tryd.underlying29 rfl (by rw [infoPos, pc_len])
        · obtain ⟨s0, s1⟩ := (sq_iff s).1 HV.out
          obtain ⟨m, rfl⟩ : ∃ m : Nat, s = (m : Int) := ⟨s.toNat, by omega⟩
          have hm : m < 64 := by omega
          have e1 := H1.out.p.cell (m * 2) (by omega)
          have e2 := H1.out.p.cell (m * 2 + 1) (by omega)
          have e3 := H1.out.p.fr (m * 2)
          have e4 := H1.out.p.fr (m * 2 + 1)
          obtain ⟨q1, q2, qf, qz⟩ := row2 H1.out.x
          have hst := (H1.out.set (m * 2) k (by omega)).set (m * 2 + 1) d (by omega)
          have hpu : setN (setN (putN P k d g j) (m * 2) k) (m * 2 + 1) d = putN P k d g (j + 1) := by
            show _ = setN (setN (putN P k d g j) (2 * (g j).toNat) k) (2 * (g j).toNat + 1) d
            rw [HS.out, Int.toNat_natCast, Nat.mul_comm m 2]
          rw [hpu] at hst
          have HST := Lib.hid hst
          have HOK := Lib.hid (show okN g (j + 1) = true by show (okN g j && sq (g j)) = true; rw [H2.out, HS.out, HV.out]; rfl)
          clear hst hpu H1 H2
          go_wp2
          go_roundw
          case rel => exact ⟨j + 1, by omega, by go_num, HST.out, HOK.out⟩
          case measure => simp [intOf]; omega
      · obtain rfl : j = n := by omega
        have hqq : putQ P k d g j = putN P k d g j := by rw [HQQ.out, H2.out]; rfl
        have hqe : putE k d g j = 0 := by rw [HQE.out, H2.out]; rfl
        rw [hqq] at HY
        have HE := Lib.hid hqe
        clear hqq hqe
        go_upto_region 10 with (fail)
        refine wp_region_lit ?_
        refine wpList_load_mid rfl 29 _ rfl w.heap.size 0 rfl (pc (putN P k d g j)) _ H1.out.p.range Tryd.underlying29 rfl (by rw [infoPos, pc_len]) ?_
        refine wpList_store_mid rfl 29 _ _ rfl (w.heap.size + 2) 0 (pc (putN P k d g j)).toArray rfl rfl (by rw [pc_size]; exact H1.out.z.there) (by rw [infoPos, pc_size]) (pc_one _) ?_
        rw [List.toList_toArray]
        obtain ⟨hr1, hb1⟩ := H1.out.stored (Q := putN P k d g j)
        have HR := Lib.hid hr1
        have HB := Lib.hid hb1
        clear hr1 hb1 H1
        generalize wr.setCells (w.heap.size + 2) 0 (pc (putN P k d g j)) = W8 at HR HB ⊢
        rw [← HY.out]
        refine wpList_plain rfl (fun K hK => ?_)
        go_simp
        refine hK _ _ ?_
        clear hK K
        show Exit.then _ _ Exit.normal _ _
        refine ret_go (by assumption) ?_
        repeat (first | refine then_ret ?_ | refine block_ret ?_)
        refine bodyPost_ret (v := .tuple #[.agg (pc (putN P k d g j)).toArray, .int .i64 0]) ?_ rfl ⟨by rw [HY.out, HE.out], HB.out⟩
        exact results_mid2 (p := 6) (u := 7) (ty := 29) rfl _ W8 (w.heap.size + 2) _ _ _ rfl rfl HR.out Tryd.underlying29 rfl (by rw [infoPos, pc_len])
end Go.Proofs.YteahikjnlhlmmaaDoor
