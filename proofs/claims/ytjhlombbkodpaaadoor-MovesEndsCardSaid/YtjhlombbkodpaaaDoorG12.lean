/-
  Merged: Mf, Mg.
-/
import Derived.Test.YtjhlombbkodpaaaDoorG11
import Derived.Laws.AppendOwnNone

namespace Go.Proofs.YtjhlombbkodpaaaDoor
open Go.RowKit Go.Sort
set_option linter.unusedSimpArgs false
set_option linter.unusedVariables false
set_option maxRecDepth 20000

/-- the way from a king to a corner -/
def wayJ (j : Nat) : List Int := [[5, 6, 7], [3, 2, 1, 0], [61, 62, 63], [59, 58, 57, 56]].getD j []
def cornJ (j : Nat) : Nat := [7, 0, 63, 56].getD j 0
def cstB (P : Nat → Int) (s : Int) (j : Nat) : Bool := (s == mcsN (j * 4 + 2)) && (P 128 == mcsN (j * 4 + 1)) && hasB P (mcsN (j * 4)) && clrB P (wayJ j) (cornJ j) (mcsN (j * 4 + 1))
def castlesL (P : Nat → Int) (s : Int) : Nat → List Int
  | 0 => []
  | n + 1 => castlesL P s n ++ if cstB P s n then [stp s (2 * mcsN (n * 4 + 3)) 0] else []
theorem castlesL_len (P : Nat → Int) (s : Int) (n : Nat) : (castlesL P s n).length ≤ n := by
  induction n with
  | zero => exact Nat.le_refl _
  | succ n ih => simp only [castlesL, List.length_append]; split <;> simp <;> omega
theorem clearJ_any (B b : Nat) (P : Nat → Int) (j : Nat) (hj : j < 4) (w : World) (hp : PB w b P) (hg : GS B w) (hm : GM B w) (hB : B ≤ w.heap.size) :
    Calls Tryd.prog 108 #[.pointer (some ⟨b, 0, none⟩), .agg #[.int .i64 (mcsN (j * 4)), .int .i64 (mcsN (j * 4 + 1)), .int .i64 (mcsN (j * 4 + 2)), .int .i64 (mcsN (j * 4 + 3))]] w fun e w' => e = .returned (.bool (clrB P (wayJ j) (cornJ j) (mcsN (j * 4 + 1)))) ∧ Below w.heap.size w w' := by
  rcases (show j = 0 ∨ j = 1 ∨ j = 2 ∨ j = 3 by omega) with rfl | rfl | rfl | rfl
  · exact isClear_any B b P 1 0 4 1 3 [5, 6, 7] 7 (by unfold I64; omega) (by omega) ⟨by decide +kernel, by decide +kernel⟩ (by omega) (by kernel_rfl) rfl (by omega) rfl (by omega) (by decide) w hp hg hm hB
  · exact isClear_any B b P 2 0 4 (-1) 4 [3, 2, 1, 0] 0 (by unfold I64; omega) (by omega) ⟨by decide +kernel, by decide +kernel⟩ (by omega) (by kernel_rfl) rfl (by omega) rfl (by omega) (by decide) w hp hg hm hB
  · exact isClear_any B b P 4 1 60 1 3 [61, 62, 63] 63 (by unfold I64; omega) (by omega) ⟨by decide +kernel, by decide +kernel⟩ (by omega) (by kernel_rfl) rfl (by omega) rfl (by omega) (by decide) w hp hg hm hB
  · exact isClear_any B b P 8 1 60 (-1) 4 [59, 58, 57, 56] 56 (by unfold I64; omega) (by omega) ⟨by decide +kernel, by decide +kernel⟩ (by omega) (by kernel_rfl) rfl (by omega) rfl (by omega) (by decide) w hp hg hm hB
set_option maxHeartbeats 4000000 in
theorem castles_any (B b : Nat) (P : Nat → Int) (s : Int) (w : World) (hp : PB w b P) (hg : GS B w) (hm : GM B w) (hB : B ≤ w.heap.size) :
    Calls Tryd.prog 75 #[.pointer (some ⟨b, 0, none⟩), .int .i64 s] w fun e w' => ∃ v, e = .returned v ∧ Below w.heap.size w w' ∧ w'.ownsRow w.heap.size 3 1 v (castlesL P s 4).length (ivals (castlesL P s 4)) := by
  obtain ⟨i0, hi, hz0, hz1, hz2⟩ := info_parts infoInt
  obtain ⟨Z, hZ⟩ : ∃ Z, Z = (nums mcsN 0 16).toArray := ⟨_, rfl⟩
  have HIX := Lib.hid (show ∀ (j : Nat) (hj : j < 4) (W : World), (Instr.index 128 (.agg Z) (.int .i64 (j : Int))).run Tryd.prog W = .ok (.agg #[.int .i64 (mcsN (j * 4)), .int .i64 (mcsN (j * 4 + 1)), .int .i64 (mcsN (j * 4 + 2)), .int .i64 (mcsN (j * 4 + 3))]) W from fun j hj W => by
    rw [hZ]; exact index_mcs mcsN j hj W)
  have HZ := Lib.hid hZ
  have HI := Lib.hid (MV.begin hp hg hm hB)
  have HLL := Lib.hid (castlesL_len P s)
  have HCS := Lib.hid (show ∀ j, castlesL P s (j + 1) = castlesL P s j ++ if cstB P s j then [stp s (2 * mcsN (j * 4 + 3)) 0] else [] from fun _ => rfl)
  have HCB := Lib.hid (show ∀ j, cstB P s j = ((s == mcsN (j * 4 + 2)) && (P 128 == mcsN (j * 4 + 1)) && hasB P (mcsN (j * 4)) && clrB P (wayJ j) (cornJ j) (mcsN (j * 4 + 1))) from fun _ => rfl)
  have HHS := Lib.hid (fun c d f y W h => has_c_any b P c d f y W h)
  have HCL := Lib.hid (fun j hj W h1 h2 h3 h4 => clearJ_any B b P j hj W h1 h2 h3 h4)
  have HBY := Lib.hid (show ∀ j, j < 4 → mcsN (j * 4 + 3) = 1 ∨ mcsN (j * 4 + 3) = -1 from fun j hj => by
    rcases (show j = 0 ∨ j = 1 ∨ j = 2 ∨ j = 3 by omega) with rfl | rfl | rfl | rfl <;> simp [mcsN])
  have HC := Lib.hid (show ∀ W, PB W b P → W.cell? ⟨b, 128, none⟩ = some (.int .i64 (P 128)) from fun W h => h.cell 128 (by omega))
  generalize P 128 = sd at *
  clear hZ hp hg hm hB
  go_enter Tryd.func75, Tryd.ntmps75
  go_wp2_with (refine wpList_mcs (by rfl) _ (by rfl) Z HZ.out (by rfl) B HI.out.m ?_)
  go_loopw [5, 9] (fun ts i wr => ∃ (j : Nat) (v : Value), j ≤ 4 ∧ i = .int .i64 (j : Int) ∧ ts = v ∧ MV B b P w wr ∧ wr.ownsRow w.heap.size 3 1 v (castlesL P s j).length (ivals (castlesL P s j))) (fun _ i _ => 4 - (intOf i).toNat)
  case atStart => exact ⟨0, _, Nat.zero_le _, rfl, rfl, HI.out, by simpa [ivals, castlesL] using World.ownsRow_nil w w.heap.size 3 1⟩
  case round =>
    clear HI
    obtain ⟨j, v, hj, rfl, rfl, h1, hown⟩ := hrel
    have HI := Lib.hid h1
    clear h1
    by_cases hlt : j < 4
    · have hix := HIX.out j hlt
      have hcs := HCS.out j
      have hcb := HCB.out j
      have hcl := HCL.out j hlt
      have hby := HBY.out j hlt
      have hll := HLL.out j
      obtain ⟨L, hL⟩ : ∃ L, castlesL P s j = L := ⟨_, rfl⟩
      rw [hL] at hcs hown hll
      have HOW := Lib.hid hown
      obtain ⟨cb, hcbe⟩ : ∃ x, cstB P s j = x := ⟨_, rfl⟩
      rw [hcbe] at hcs hcb
      generalize clrB P (wayJ j) (cornJ j) (mcsN (j * 4 + 1)) = cl at *
      generalize mcsN (j * 4) = y1 at *
      generalize mcsN (j * 4 + 1) = y2 at *
      generalize mcsN (j * 4 + 2) = y3 at *
      generalize mcsN (j * 4 + 3) = y4 at *
      obtain ⟨hs, hhs⟩ : ∃ x, hasB P y1 = x := ⟨_, rfl⟩
      rw [hhs] at hcb
      have HH := Lib.hid (show ∀ W, PB W b P → Calls Tryd.prog 107 #[.pointer (some ⟨b, 0, none⟩), .agg #[.int .i64 y1, .int .i64 y2, .int .i64 y3, .int .i64 y4]] W fun e w' => e = .returned (.bool hs) ∧ Below W.heap.size W w' from fun W h => by rw [← hhs]; exact HHS.out y1 y2 y3 y4 W h)
      have HC2 := Lib.hid hcl
      have HCB2 := Lib.hid hcb
      have HCS2 := Lib.hid hcs
      have HBY2 := Lib.hid hby
      clear hcl hcb hcs hby hL hcbe hhs hown
      go_upto_region 5 with (fail)
      refine forget_B (fun W => MV B b P w W ∧ W.heap[wr.heap.size]? = some (.cells #[.int .i64 y1, .int .i64 y2, .int .i64 y3, .int .i64 y4] 127 (0, 0)) ∧ W.ownsRow w.heap.size 3 1 u5 L.length (ivals L) ∧ wr.heap.size < W.heap.size)
        ⟨HI.out.go (below_new _), sl_at rfl, owns_go HOW.out (below_new _), by simp⟩ ?_
      clear hix HI HOW
      rintro W3 ⟨h1, h2, h3, h4⟩
      have HI := Lib.hid h1
      have HK := Lib.hid h2
      have HOW := Lib.hid h3
      clear h1 h2 h3
      generalize wr.heap.size = kb at *
      have e1 := cell_regrown (HC.out _ HI.out.p)
      obtain ⟨k0, k1, k2, k3, _⟩ := row4m HK.out
      replace k0 := cell_regrown k0
      replace k1 := cell_regrown k1
      replace k2 := cell_regrown k2
      replace k3 := cell_regrown k3
      have c1 := fun (d : Nat) (os : Array Obj) => Calls.regrown_of (HH.out _ (HI.out.go (below_regrown W3 d os)).p)
      have c2 := fun (d : Nat) (os : Array Obj) => Calls.regrown_of (HC2.out _ (HI.out.go (below_regrown W3 d os)).p (HI.out.go (below_regrown W3 d os)).g (HI.out.go (below_regrown W3 d os)).m (HI.out.go (below_regrown W3 d os)).s)
      have fin : cb = false → ∀ q : Regrown, MV B b P w (grow (redrawn W3 q.d) q.os) ∧ (grow (redrawn W3 q.d) q.os).ownsRow w.heap.size 3 1 u5 (castlesL P s (j + 1)).length (ivals (castlesL P s (j + 1))) := fun h q => by
        have e := HCS2.out
        rw [h] at e
        simp only [Bool.false_eq_true, if_false, List.append_nil] at e
        rw [e]
        exact ⟨HI.out.go (below_regrown W3 q.d q.os), owns_go HOW.out (below_regrown W3 q.d q.os)⟩
      have FIN := Lib.hid fin
      clear fin
      by_cases h3 : s = y3
      case neg =>
        have h3b : (s == y3) = false := by simp [h3]
        have HSX := Lib.hid (FIN.out (by rw [HCB2.out, h3b]; rfl))
        clear h3
        refine wp_region_quiet_below (by kernel_rfl) (by kernel_rfl) ?_
        repeat (first | go_big_quiet_step (fail) | quiet_step (fail))
        refine wpQuiet_nil ?_
        rintro W4 ⟨q, rfl⟩
        go_wp2
        go_roundw
        case rel => exact ⟨j + 1, _, by omega, by go_num, rfl, HSX.out q⟩
        case measure => simp [intOf]; omega
      case pos =>
        subst h3
        have h3b : (s == s) = true := by simp
        by_cases h2 : sd = y2
        case neg =>
          have h2b : (sd == y2) = false := by simp [h2]
          have HSX := Lib.hid (FIN.out (by rw [HCB2.out, h2b, h3b]; rfl))
          clear h2 h3b
          refine wp_region_quiet_below (by kernel_rfl) (by kernel_rfl) ?_
          repeat (first | go_big_quiet_step (fail) | quiet_step (fail))
          refine wpQuiet_nil ?_
          rintro W4 ⟨q, rfl⟩
          go_wp2
          go_roundw
          case rel => exact ⟨j + 1, _, by omega, by go_num, rfl, HSX.out q⟩
          case measure => simp [intOf]; omega
        case pos =>
          subst h2
          have h2b : (sd == sd) = true := by simp
          rw [h3b, h2b] at HCB2
          clear h3b h2b
          cases hs
          case false =>
            have HSX := Lib.hid (FIN.out (by rw [HCB2.out]; rfl))
            refine wp_region_quiet_below (by kernel_rfl) (by kernel_rfl) ?_
            repeat (first | go_big_quiet_step (exact c1 _ _) | go_big_quiet_step (fail) | quiet_step (fail))
            refine wpQuiet_nil ?_
            rintro W4 ⟨q, rfl⟩
            go_wp2
            go_roundw
            case rel => exact ⟨j + 1, _, by omega, by go_num, rfl, HSX.out q⟩
            case measure => simp [intOf]; omega
          case true =>
            cases cl
            case false =>
              have HSX := Lib.hid (FIN.out (by rw [HCB2.out]; rfl))
              refine wp_region_quiet_below (by kernel_rfl) (by kernel_rfl) ?_
              repeat (first | go_big_quiet_step (exact c1 _ _) | go_big_quiet_step (exact c2 _ _) | go_big_quiet_step (fail) | quiet_step (fail))
              refine wpQuiet_nil ?_
              rintro W4 ⟨q, rfl⟩
              go_wp2
              go_roundw
              case rel => exact ⟨j + 1, _, by omega, by go_num, rfl, HSX.out q⟩
              case measure => simp [intOf]; omega
            case true =>
              have HS2 := Lib.hid (show castlesL P s (j + 1) = L ++ [stp s (2 * y4) 0] by rw [HCS2.out, HCB2.out]; rfl)
              refine wp_region_quiet_below (by kernel_rfl) (by kernel_rfl) ?_
              repeat (first | go_big_quiet_step (exact c1 _ _) | go_big_quiet_step (exact c2 _ _) | go_big_quiet_step (fail) | quiet_step (fail))
              refine wpQuiet_nil ?_
              rintro W4 ⟨q, rfl⟩
              clear e1 k0 k1 k2 k3 c1 c2
              have hb := below_regrown W3 q.d q.os
              replace HI := Lib.hid (HI.out.go hb)
              replace HOW := Lib.hid (owns_go HOW.out hb)
              replace HK := Lib.hid (sl_go HK.out hb)
              clear hb FIN
              generalize grow (redrawn W3 q.d) q.os = W4 at *
              obtain ⟨k0, k1, k2, k3, _⟩ := row4m HK.out
              have hm2 : IntKind.i64.wrap (2 * y4) = 2 * y4 := IntWalk.i64_in _ (by have := HBY2.out; omega)
              go_wp2_with fail
              refine (step_any s (2 * y4) 0 _ (by have := HBY2.out; unfold I64; omega) (by unfold I64; omega)).mono ?_
              rintro e W4 ⟨rfl, hb⟩
              replace HI := Lib.hid (HI.out.go hb)
              replace HOW := Lib.hid (owns_go HOW.out hb)
              generalize stp s (2 * y4) 0 = x at *
              clear hb k0 k1 k2 k3 HK
              have hm1 : L.length + 1 ≤ maxLen := by unfold maxLen; omega
              go_wp2_with (at_builtin; refine wpList_append_lies _ rfl (.tmp 36) (.tmp 42) 39 rfl w.heap.size 3 i0 (.int .i64 0) 1 8 Tryd.underlying39 hi hz0 hz1 hz2 rfl (by decide) _ L.length (ivals L) rfl (owns_go HOW.out ((Below.refl _ _).alloc (Nat.le_refl _) _)) ⟨W4.heap.size, 0, none⟩ 1 1 [.int .i64 x] rfl rfl (World.news_of_block (heap_alloc_new _ _)) ?c2 (by decide) hm1 (by omega) (by have := HI.out.bel.size; simp; omega) (W4.heap.size + 1) (by simp) ?next)
              case c2 => first | rfl | (intro y hy; simp at hy; subst hy; rfl)
              case next =>
                intro g1 cap1 w4 hown1 hgrow1 hat1 hlt3
                rw [ivals_snoc] at hown1
                have HB4 := Lib.hid (((below_new (w := W4) (.cells #[.int .i64 x] 3)).mono HI.out.bel.size).grown hgrow1 (by have := HI.out.bel.size; simp; omega) (fun b e => (HOW.out.lt b e).1))
                replace HI := Lib.hid (HI.out.go2 HB4.out)
                have HO4 := Lib.hid hown1
                clear hgrow1 hown1 hat1 HOW HB4
                go_wp2
                go_roundw
                case rel => exact ⟨j + 1, _, by omega, by go_num, rfl, HI.out, by rw [HS2.out, show (L ++ [x]).length = L.length + 1 by simp]; exact HO4.out⟩
                case measure => simp [intOf]; omega
    · obtain rfl : j = 4 := by omega
      have HO := Lib.hid hown
      clear hown
      go_wp2
      go_ret
      exact ⟨_, rfl, HI.out.bel, HO.out⟩
end Go.Proofs.YtjhlombbkodpaaaDoor

namespace Go.Proofs.YtjhlombbkodpaaaDoor
open Go.RowKit Go.Sort
set_option linter.unusedSimpArgs false
set_option linter.unusedVariables false
set_option maxRecDepth 20000

theorem wpList_append_rows {P : Program} {w : World} {ops : Array Oper} {rest : List Oper} {o : Oper} {a : Act} {Q : Exit → Act → World → Prop} (hgd : o.guard = none) (s x : Operand) (t : TypeId)
    (ho : o.op = .call { callee := .builtin .append, args := #[s, x], argTypes := #[t, t] })
    (base base2 : Nat) (e : TypeId) (i : TypeInfo) (z : Value) (size bytes : Nat) (ht : P.underlying t = some (.slice e)) (hi : P.info? e = some i) (hz : i.zero = some z)
    (hsize : i.size = size) (hby : i.bytes = bytes) (hzs : z.cells.size = size) (hsz : 0 < size)
    (v : Value) (n : Nat) (xs : List Value) (hs : a.eval s = v) (hown : w.ownsRow base e size v n xs) (v2 : Value) (m : Nat) (ys : List Value) (hx : a.eval x = v2) (hown2 : w.ownsRow base2 e size v2 m ys) (h1 : ∀ u ∈ ys, u.oneCell' = true)
    (h63 : n + m ≤ maxLen) (hbytes : (n + m) * bytes ≤ 140737488355328) (hbase : base ≤ w.heap.size)
    (h : ∀ v' w', w'.ownsRow base e size v' (n + m) (xs ++ ys) → w.grownBy w' v.ownBlock → wpList P ops Q rest (a.put o.dst v') w') : wpList P ops Q (o :: rest) a w := by
  rcases hown2.2 with ⟨rfl, rfl⟩ | ⟨g, cap, cur, rfl, _⟩
  · have hy : ys = [] := List.eq_nil_of_length_eq_zero (by simpa using hown2.1)
    subst hy
    refine Go.wpList_append_own_none hgd s x t ho base e i size ht hi v n xs hs hown hx ?_
    have h2 := h v w (by simpa using hown) (World.grownBy.refl _ _)
    exact h2
  · exact wpList_append_own w hgd s x t ho base e i z size bytes ht hi hz hsize hby hzs hsz v n xs hs hown ⟨g, 0, none⟩ m cap ys hx hown2.1 (hown2.cells rfl) h1 h63 hbytes hbase fun v' w' h2 h3 _ => h v' w' h2 h3
theorem ivals_len (l : List Int) : (ivals l).length = l.length := by unfold ivals; simp
theorem ivals_app (l m : List Int) : ivals l ++ ivals m = ivals (l ++ m) := by unfold ivals; rw [List.map_append]
theorem ivals_one (l : List Int) : ∀ u ∈ ivals l, u.oneCell' = true := fun u hu => by
  unfold ivals at hu
  obtain ⟨x, _, rfl⟩ := List.mem_map.1 hu
  rfl
theorem upW_len (P : Nat → Int) (on : Int) (n : Nat) : ∀ a, (upW P on n a).length ≤ n := by
  induction n with
  | zero => intro a; exact Nat.le_refl _
  | succ n ih =>
    intro a
    unfold upW
    split
    · have := ih (stp a 0 on); simp; omega
    · simp
theorem aheadL_len (P : Nat → Int) (s : Nat) : (aheadL P s).length ≤ 2 := Nat.le_trans (upW_len _ _ _ _) (by unfold farN; split <;> omega)
theorem slantL_len (P : Nat → Int) (s : Int) : (slantL P s).length ≤ 64 := Nat.le_trans (List.length_filter_le _ _) (fromL_len P s)
theorem freeL_len (P : Nat → Int) (s : Int) : (freeL P s).length ≤ 64 := Nat.le_trans (List.length_filter_le _ _) (fromL_len P s)
/-- the squares to which a piece goes, as they are found -/
def goalsL (P : Nat → Int) (s : Nat) : List Int :=
  if P (2 * s) = 1 then aheadL P s ++ slantL P s else if P (2 * s) = 6 then freeL P s ++ castlesL P s 4 else freeL P s
theorem goalsL_len (P : Nat → Int) (s : Nat) : (goalsL P s).length ≤ 70 := by
  have h1 := aheadL_len P s
  have h2 := slantL_len P s
  have h3 := freeL_len P s
  have h4 := castlesL_len P s 4
  unfold goalsL
  split
  · simp; omega
  · split
    · simp; omega
    · omega
set_option maxHeartbeats 2000000 in
theorem goals_any (B b : Nat) (P : Nat → Int) (s : Nat) (hs : s < 64) (w : World) (hp : PB w b P) (hg : GS B w) (hm : GM B w) (hB : B ≤ w.heap.size) :
    Calls Tryd.prog 36 #[.pointer (some ⟨b, 0, none⟩), .int .i64 (s : Int)] w fun e w' => ∃ v, e = .returned v ∧ Below w.heap.size w w' ∧ w'.ownsRow w.heap.size 3 1 v (goalsL P s).length (ivals (goalsL P s)) := by
  obtain ⟨i0, hi, hz0, hz1, hz2⟩ := info_parts infoInt
  have HI := Lib.hid (MV.begin hp hg hm hB)
  have e1 := hp.cell (s * 2) (by omega)
  have s0 : (0 : Int) ≤ s := by omega
  have s1 : (s : Int) < 64 := by omega
  have hgl : goalsL P s = if P (s * 2) = 1 then aheadL P s ++ slantL P s else if P (s * 2) = 6 then freeL P s ++ castlesL P s 4 else freeL P s := by unfold goalsL; rw [Nat.mul_comm 2 s]
  have M1 := Lib.hid (fun W h1 h2 h3 h4 => ahead_any B b P s hs W h1 h2 h3 h4)
  have M2 := Lib.hid (fun W h1 h2 h3 h4 => slanting_any B b P s W h1 h2 h3 h4)
  have M3 := Lib.hid (fun W h1 h2 h3 h4 => free_any B b P s W h1 h2 h3 h4)
  have M4 := Lib.hid (fun W h1 h2 h3 h4 => castles_any B b P s W h1 h2 h3 h4)
  have L1 := aheadL_len P s
  have L2 := slantL_len P s
  have L3 := freeL_len P s
  have L4 := castlesL_len P s 4
  generalize aheadL P s = A1 at *
  generalize slantL P (s : Int) = A2 at *
  generalize freeL P (s : Int) = A3 at *
  generalize castlesL P (s : Int) 4 = A4 at *
  obtain ⟨R, hR⟩ : ∃ R, goalsL P s = R := ⟨_, rfl⟩
  rw [hR] at hgl ⊢
  generalize P (s * 2) = k at *
  have HL := Lib.hid (And.intro L1 (And.intro L2 (And.intro L3 L4)))
  clear hR hp hg hm hB L1 L2 L3 L4
  by_cases h1 : k = 1
  · subst h1
    rw [if_pos rfl] at hgl
    subst hgl
    go_enter Tryd.func36, Tryd.ntmps36
    go_wp2_with fail
    refine (M1.out _ HI.out.p HI.out.g HI.out.m HI.out.s).mono ?_
    rintro e w1 ⟨v1, rfl, hb, hown⟩
    replace HI := Lib.hid (HI.out.go hb)
    have HO1 := Lib.hid hown
    clear hb hown e1
    go_wp2_with fail
    refine (M2.out _ HI.out.p HI.out.g HI.out.m HI.out.s).mono ?_
    rintro e w2 ⟨v2, rfl, hb, hown⟩
    replace HI := Lib.hid (HI.out.go hb)
    replace HO1 := Lib.hid (owns_go HO1.out hb)
    have HO2 := Lib.hid hown
    clear hb hown
    go_wp2_with (at_builtin; refine wpList_append_rows rfl (.tmp 17) (.tmp 20) 39 rfl w.heap.size w1.heap.size 3 i0 (.int .i64 0) 1 8 Tryd.underlying39 hi hz0 hz1 hz2 rfl (by decide) v1 A1.length (ivals A1) rfl HO1.out v2 A2.length (ivals A2) rfl HO2.out (ivals_one _) (by have := HL.out; unfold maxLen; omega) (by have := HL.out; omega) HI.out.bel.size ?_)
    intro v3 w3 hown hgr
    have HB := Lib.hid (show Below w.heap.size w2 w3 from (Below.refl _ _).grown hgr HI.out.bel.size (fun k e => (HO1.out.lt k e).1))
    replace HI := Lib.hid (HI.out.go2 HB.out)
    rw [ivals_app] at hown
    have HO3 := Lib.hid hown
    clear hown hgr
    go_wp2
    go_ret
    exact ⟨v3, rfl, HI.out.bel, by rw [List.length_append]; exact HO3.out⟩
  · have h1' : (k == 1) = false := by simp [h1]
    rw [if_neg h1] at hgl
    by_cases h6 : k = 6
    · subst h6
      rw [if_pos rfl] at hgl
      subst hgl
      clear h1
      go_enter Tryd.func36, Tryd.ntmps36
      go_wp2_with fail
      refine (M3.out _ HI.out.p HI.out.g HI.out.m HI.out.s).mono ?_
      rintro e w1 ⟨v1, rfl, hb, hown⟩
      replace HI := Lib.hid (HI.out.go hb)
      have HO1 := Lib.hid hown
      clear hb hown e1
      go_wp2_with fail
      refine (M4.out _ HI.out.p HI.out.g HI.out.m HI.out.s).mono ?_
      rintro e w2 ⟨v2, rfl, hb, hown⟩
      replace HI := Lib.hid (HI.out.go hb)
      replace HO1 := Lib.hid (owns_go HO1.out hb)
      have HO2 := Lib.hid hown
      clear hb hown
      go_wp2_with (at_builtin; refine wpList_append_rows rfl (.tmp 26) (.tmp 29) 39 rfl w.heap.size w1.heap.size 3 i0 (.int .i64 0) 1 8 Tryd.underlying39 hi hz0 hz1 hz2 rfl (by decide) v1 A3.length (ivals A3) rfl HO1.out v2 A4.length (ivals A4) rfl HO2.out (ivals_one _) (by have := HL.out; unfold maxLen; omega) (by have := HL.out; omega) HI.out.bel.size ?_)
      intro v3 w3 hown hgr
      have HB := Lib.hid (show Below w.heap.size w2 w3 from (Below.refl _ _).grown hgr HI.out.bel.size (fun k e => (HO1.out.lt k e).1))
      replace HI := Lib.hid (HI.out.go2 HB.out)
      rw [ivals_app] at hown
      have HO3 := Lib.hid hown
      clear hown hgr
      go_wp2
      go_ret
      exact ⟨v3, rfl, HI.out.bel, by rw [List.length_append]; exact HO3.out⟩
    · have h6' : (k == 6) = false := by simp [h6]
      rw [if_neg h6] at hgl
      subst hgl
      clear h1 h6
      go_enter Tryd.func36, Tryd.ntmps36
      go_wp2_with fail
      refine (M3.out _ HI.out.p HI.out.g HI.out.m HI.out.s).mono ?_
      rintro e w1 ⟨v1, rfl, hb, hown⟩
      replace HI := Lib.hid (HI.out.go hb)
      have HO1 := Lib.hid hown
      clear hb hown e1
      go_wp2
      go_ret
      exact ⟨v1, rfl, HI.out.bel, HO1.out⟩
/-- an owned row, sorted -/
theorem sort_own (xs : List Int) (hlen : xs.length ≤ 1000) (base : Nat) (v : Value) (w : World) (hb : base ≤ w.heap.size) (hown : w.ownsRow base 3 1 v xs.length (ivals xs)) :
    Calls Tryd.prog 37 #[v] w fun e w' => e = .returned (.tuple #[]) ∧ Below base w w' ∧ w'.ownsRow base 3 1 v (risen xs).length (ivals (risen xs)) := by
  rcases hown.2 with ⟨rfl, hz⟩ | ⟨gb, cap, cur, rfl, hbase, hgb, r1, r2, r3, r4⟩
  · obtain rfl : xs = [] := List.eq_nil_of_length_eq_zero hz
    have cS : Calls Tryd.prog 37 #[.slice none 0 0] w fun e w' => e = .returned (.tuple #[]) ∧ w' = w := AnyM.slices_Sort_int_none sort_lays none 0 w
    refine cS.mono ?_
    rintro e w' ⟨rfl, rfl⟩
    exact ⟨rfl, Below.refl _ _, by rw [show risen [] = [] by simp [risen]]; exact hown⟩
  · have hH : Holds (Value.int .i64) w gb 0 xs.toArray := holds_of_blockI hgb (by simpa [ivals] using r4)
    have cS : Calls Tryd.prog 37 #[.slice (some ⟨gb, 0, none⟩) xs.length cap] w fun e w' => e = .returned (.tuple #[]) ∧ ∃ n os, w' = grow (putRow (Value.int .i64) (Sort.ahead w n) gb 0 (risen xs).toArray) os :=
      AnyM.slices_Sort_int sort_lays gb 0 cap xs w hH (Array.getElem?_eq_some_iff.1 hgb).1 (by omega)
    refine cS.mono ?_
    rintro e w' ⟨rfl, n, os, rfl⟩
    refine ⟨rfl, (Below.refl base w).grown (grownBy_sortedI (w := w) (g := gb) (n := n) (os := os) (risen xs).toArray) hb (fun j hj => by cases hj; exact hbase), ?_⟩
    rw [risen_len]
    exact ownsRow_sortedI (n := n) (os := os) (risen_len xs) hbase hgb r1 r2 r3
end Go.Proofs.YtjhlombbkodpaaaDoor
