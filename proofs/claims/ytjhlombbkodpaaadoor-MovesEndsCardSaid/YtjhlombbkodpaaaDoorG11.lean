/-
  Merged: Md, Bo, Bp, Br, Me.
-/
import Derived.Test.YtjhlombbkodpaaaDoorMc
import Derived.Deep.CutRange
import Derived.Test.YtjhlombbkodpaaaDoorG7
import Derived.Test.YtjhlombbkodpaaaDoorBi
import Derived.Test.YtjhlombbkodpaaaDoorSqD

namespace Go.Proofs.YtjhlombbkodpaaaDoor
open Go.RowKit Go.Sort
set_option linter.unusedSimpArgs false
set_option linter.unusedVariables false
set_option maxRecDepth 20000

/-- the squares on a pawn's way, up to a number of them, as long as nothing stands there -/
def upW (P : Nat → Int) (on : Int) : Nat → Int → List Int
  | 0, _ => []
  | n + 1, a => if sq a && emB P a.toNat then a :: upW P on n (stp a 0 on) else []
def onN (P : Nat → Int) : Int := if P 128 = 1 then -1 else 1
def farN (P : Nat → Int) (s : Nat) : Nat := if rkN P s = 1 then 2 else 1
def aheadL (P : Nat → Int) (s : Nat) : List Int := upW P (onN P) (farN P s) (stp (s : Int) 0 (onN P))
def lenV : Value → Nat
  | .slice _ n _ => n
  | _ => 0
set_option maxHeartbeats 2000000 in
theorem ahead_any (B b : Nat) (P : Nat → Int) (s : Nat) (hs : s < 64) (w : World) (hp : PB w b P) (hg : GS B w) (hm : GM B w) (hB : B ≤ w.heap.size) :
    Calls Tryd.prog 72 #[.pointer (some ⟨b, 0, none⟩), .int .i64 (s : Int)] w fun e w' => ∃ v, e = .returned v ∧ Below w.heap.size w w' ∧ w'.ownsRow w.heap.size 3 1 v (aheadL P s).length (ivals (aheadL P s)) := by
  obtain ⟨i0, hi, hz0, hz1, hz2⟩ := info_parts infoInt
  have HI := Lib.hid (MV.begin hp hg hm hB)
  have MK := Lib.hid (fun W h => mRank_any b P s hs W h)
  have HON := Lib.hid (show onN P = if P 128 = 1 then -1 else 1 from rfl)
  have HFR := Lib.hid (show farN P s = if rkN P s = 1 then 2 else 1 from rfl)
  have HAL := Lib.hid (show aheadL P s = upW P (onN P) (farN P s) (stp (s : Int) 0 (onN P)) from rfl)
  have HO64 := Lib.hid (show I64 (onN P) by unfold onN I64; split <;> omega)
  have HST := Lib.hid (fun (x : Nat) (hx : x < 64) W h => mStands_any b P x hx W h)
  obtain ⟨on, hon⟩ : ∃ o, onN P = o := ⟨_, rfl⟩
  obtain ⟨fr, hfr⟩ : ∃ o, farN P s = o := ⟨_, rfl⟩
  obtain ⟨rk, hrk⟩ : ∃ o, rkN P s = o := ⟨_, rfl⟩
  obtain ⟨R, hR⟩ : ∃ o, aheadL P s = o := ⟨_, rfl⟩
  rw [hrk] at MK HFR
  rw [hfr] at HFR HAL
  rw [hon] at HON HAL HO64
  rw [hR] at HAL ⊢
  have HF2 := Lib.hid (show fr ≤ 2 by rw [HFR.out]; split <;> omega)
  have e1 := hp.cell 128 (by omega)
  obtain ⟨sd, hsd⟩ : ∃ o, P 128 = o := ⟨_, rfl⟩
  rw [hsd] at HON e1
  clear hon hfr hrk hR hsd hp hg hm hB hs
  go_enter Tryd.func72, Tryd.ntmps72
  go_upto_if 14 with (fail)
  go_cut [5] from 15 to 43 (fun v wx => v = .int .i64 on ∧ MV B b P w wx)
  case first =>
    have hon := HON.out
    by_cases h1 : sd = 1
    · subst h1
      rw [if_pos rfl] at hon
      subst hon
      go_wp2_with fail
      go_meet
      exact ⟨rfl, HI.out⟩
    · have h1' : (sd == 1) = false := by simp [h1]
      rw [if_neg h1] at hon
      subst hon
      go_wp2_with fail
      go_meet
      exact ⟨rfl, HI.out⟩
  case rest =>
  obtain ⟨rfl, h⟩ := hcut
  replace HI := Lib.hid h
  clear h e1 HON
  go_wp2_with fail
  refine (MK.out _ HI.out.p).mono ?_
  rintro e w4 ⟨rfl, hb⟩
  replace HI := Lib.hid (HI.out.go hb)
  clear hb MK
  go_upto_if 18 with (fail)
  go_cut [6] from 19 to 43 (fun v wx => v = .int .i64 (fr : Int) ∧ MV B b P w wx)
  case first =>
    have hfr := HFR.out
    by_cases h1 : rk = 1
    · subst h1
      rw [if_pos rfl] at hfr
      subst hfr
      go_wp2_with fail
      go_meet
      exact ⟨rfl, HI.out⟩
    · have h1' : (rk == 1) = false := by simp [h1]
      rw [if_neg h1] at hfr
      subst hfr
      go_wp2_with fail
      go_meet
      exact ⟨rfl, HI.out⟩
  case rest =>
  obtain ⟨rfl, h⟩ := hcut
  replace HI := Lib.hid h
  clear h HFR
  go_wp2_with fail
  refine (step_any (s : Int) 0 on _ (by unfold I64; omega) HO64.out).mono ?_
  rintro e w7 ⟨rfl, hb⟩
  replace HI := Lib.hid (HI.out.go hb)
  clear hb
  go_wp2
  go_loopw [7, 8] (fun ts at' wr => ∃ (v : Value) (a : Int) (L : List Int), ts = v ∧ at' = .int .i64 a ∧ L.length ≤ fr ∧ R = L ++ upW P on (fr - L.length) a ∧ MV B b P w wr ∧ wr.ownsRow w.heap.size 3 1 v L.length (ivals L)) (fun ts _ _ => 2 - lenV ts)
  case atStart => exact ⟨_, _, [], rfl, rfl, Nat.zero_le _, by rw [HAL.out]; rfl, HI.out, by simpa [ivals] using World.ownsRow_nil w7 w.heap.size 3 1⟩
  case round =>
    clear HI
    obtain ⟨v, a, L, rfl, rfl, hk, hR, h1, hown⟩ := hrel
    have HI := Lib.hid h1
    have HOW := Lib.hid hown
    have hf2 := HF2.out
    rw [ivals_range] at hown
    obtain ⟨pv, cv, rfl, _, _⟩ := sq_reads hown
    have hll : (L.length : Int) ≤ 2 := by omega
    clear h1 hown
    by_cases hlt : L.length < fr
    · have hz : (L.length : Int) < (fr : Int) := by omega
      obtain ⟨m, hm⟩ : ∃ m, fr - L.length = m + 1 := ⟨fr - L.length - 1, by omega⟩
      rw [hm] at hR
      unfold upW at hR
      obtain ⟨sa, hsa⟩ : ∃ b, sq a = b := ⟨_, rfl⟩
      rw [hsa] at hR
      cases sa
      · have HRR := Lib.hid (show R = L by rw [hR]; simp)
        have HSA := Lib.hid hsa
        clear hR hm hsa
        go_wp2_with fail
        refine (is_any a _).mono ?_
        rw [HSA.out]
        rintro e w9 ⟨rfl, hb⟩
        replace HI := Lib.hid (HI.out.go hb)
        replace HOW := Lib.hid (owns_go HOW.out hb)
        clear hb
        go_wp2
        go_ret
        exact ⟨_, rfl, HI.out.bel, by rw [HRR.out]; exact HOW.out⟩
      · obtain ⟨a0, a1⟩ := (sq_iff a).1 hsa
        obtain ⟨n, rfl⟩ := Int.eq_ofNat_of_zero_le a0
        have hn64 : n < 64 := by omega
        have HC := Lib.hid (HST.out n hn64)
        obtain ⟨em, hem⟩ : ∃ b, emB P n = b := ⟨_, rfl⟩
        rw [hem] at HC
        rw [Int.toNat_natCast, hem] at hR
        have HSA := Lib.hid hsa
        have n0 : (0 : Int) ≤ (n : Int) := a0
        have n1 : (n : Int) < 64 := by omega
        have HM := Lib.hid hm
        clear hsa hem a0 a1 hm
        cases em
        · have HRR := Lib.hid (show R = L by rw [hR]; simp)
          clear hR
          go_wp2_with fail
          refine (is_any (n : Int) _).mono ?_
          rw [HSA.out]
          rintro e w9 ⟨rfl, hb⟩
          replace HI := Lib.hid (HI.out.go hb)
          replace HOW := Lib.hid (owns_go HOW.out hb)
          clear hb
          go_wp2_with fail
          refine (HC.out _ HI.out.p).mono ?_
          rintro e w10 ⟨rfl, hb⟩
          replace HI := Lib.hid (HI.out.go hb)
          replace HOW := Lib.hid (owns_go HOW.out hb)
          clear hb
          go_wp2
          go_ret
          exact ⟨_, rfl, HI.out.bel, by rw [HRR.out]; exact HOW.out⟩
        · have HRR := Lib.hid (show R = (L ++ [(n : Int)]) ++ upW P on (fr - (L ++ [(n : Int)]).length) (stp (n : Int) 0 on) by
            rw [hR, show fr - (L ++ [(n : Int)]).length = m by have := HM.out; simp; omega]; simp)
          clear hR
          go_wp2_with fail
          refine (is_any (n : Int) _).mono ?_
          rw [HSA.out]
          rintro e w9 ⟨rfl, hb⟩
          replace HI := Lib.hid (HI.out.go hb)
          replace HOW := Lib.hid (owns_go HOW.out hb)
          clear hb
          go_wp2_with fail
          refine (HC.out _ HI.out.p).mono ?_
          rintro e W4 ⟨rfl, hb⟩
          replace HI := Lib.hid (HI.out.go hb)
          replace HOW := Lib.hid (owns_go HOW.out hb)
          clear hb
          have hm1 : L.length + 1 ≤ maxLen := by unfold maxLen; omega
          go_wp2_with (at_builtin; refine wpList_append_lies _ rfl (.tmp 39) (.tmp 41) 39 rfl w.heap.size 3 i0 (.int .i64 0) 1 8 Tryd.underlying39 hi hz0 hz1 hz2 rfl (by decide) _ L.length (ivals L) rfl (owns_go HOW.out ((Below.refl _ _).alloc (Nat.le_refl _) _)) ⟨W4.heap.size, 0, none⟩ 1 1 [.int .i64 (n : Int)] rfl rfl (World.news_of_block (heap_alloc_new _ _)) ?c2 (by decide) hm1 (by omega) (by have := HI.out.bel.size; simp; omega) (W4.heap.size + 1) (by simp) ?next)
          case c2 => first | rfl | (intro y hy; simp at hy; subst hy; rfl)
          case next =>
            intro g1 cap1 w4' hown1 hgrow1 hat1 hlt3
            rw [ivals_snoc] at hown1
            have HB4 := Lib.hid (((below_new (w := W4) (.cells #[.int .i64 (n : Int)] 3)).mono HI.out.bel.size).grown hgrow1 (by have := HI.out.bel.size; simp; omega) (fun b e => (HOW.out.lt b e).1))
            replace HI := Lib.hid (HI.out.go2 HB4.out)
            have HO4 := Lib.hid hown1
            clear hgrow1 hown1 hat1 HOW HB4
            go_wp2_with fail
            refine (step_any (n : Int) 0 on _ (by unfold I64; omega) HO64.out).mono ?_
            rintro e w12 ⟨rfl, hb⟩
            replace HI := Lib.hid (HI.out.go hb)
            replace HO4 := Lib.hid (owns_go HO4.out hb)
            clear hb
            go_wp2
            go_roundw
            case rel => exact ⟨_, _, L ++ [(n : Int)], rfl, rfl, by simp; omega, HRR.out, HI.out, by rw [show (L ++ [(n : Int)]).length = L.length + 1 by simp]; exact HO4.out⟩
            case measure => simp [lenV]; omega
    · have HRR := Lib.hid (show R = L by rw [hR, show fr - L.length = 0 by omega]; simp [upW])
      have hz : ¬ (L.length : Int) < (fr : Int) := by omega
      clear hR
      go_wp2
      go_ret
      exact ⟨_, rfl, HI.out.bel, by rw [HRR.out]; exact HOW.out⟩
end Go.Proofs.YtjhlombbkodpaaaDoor

namespace Go.Proofs.YtjhlombbkodpaaaDoor
open Go.RowKit Go.Sort
set_option linter.unusedSimpArgs false
set_option linter.unusedVariables false

/-- a pawn of a side went from square a over square o to square b -/
def overC (P : Nat → Int) (o rank a b : Nat) (pd : Int) : Bool := (o / 8 == rank) && pe (P (2 * o)) (P (2 * o + 1)) 0 0 && pe (P (2 * a)) (P (2 * a + 1)) 0 0 && pe (P (2 * b)) (P (2 * b + 1)) 1 pd
theorem wrap_sq (n : Nat) (h : n < 64) : IntKind.i64.wrap (n : Int) = (n : Int) := IntWalk.i64_in _ (by omega)
def overB (P : Nat → Int) : Bool := P 130 == -1 || (sq (P 130) && P 131 == 0 && if P 128 == 1 then overC P (P 130).toNat 2 ((P 130).toNat - 8) ((P 130).toNat + 8) 0 else overC P (P 130).toNat 5 ((P 130).toNat + 8) ((P 130).toNat - 8) 1)
def rightB (P : Nat → Int) : Bool := piecesB P && castB P && overB P && decide (0 ≤ P 131) && decide (P 131 ≤ 1024) && decide (1 ≤ P 132) && decide (P 132 ≤ 16384)
end Go.Proofs.YtjhlombbkodpaaaDoor

namespace Go.Proofs.YtjhlombbkodpaaaDoor
open Go.RowKit Go.Sort
set_option linter.unusedSimpArgs false
set_option linter.unusedVariables false

def cntB (h f : Int) : Bool := decide (0 ≤ h) && decide (h ≤ 1024) && decide (1 ≤ f) && decide (f ≤ 16384)
theorem rightB_eq (P : Nat → Int) : rightB P = (piecesB P && castB P && overB P && cntB (P 131) (P 132)) := by
  unfold rightB cntB; simp only [Bool.and_assoc]
theorem cnt_cases (h f : Int) : (h < 0 ∧ cntB h f = false) ∨ (0 ≤ h ∧ 1024 < h ∧ cntB h f = false) ∨ (0 ≤ h ∧ h ≤ 1024 ∧ f < 1 ∧ cntB h f = false) ∨ (0 ≤ h ∧ h ≤ 1024 ∧ 1 ≤ f ∧ 16384 < f ∧ cntB h f = false) ∨ (0 ≤ h ∧ h ≤ 1024 ∧ 1 ≤ f ∧ f ≤ 16384 ∧ cntB h f = true) := by
  unfold cntB
  by_cases h1 : 0 ≤ h <;> by_cases h2 : h ≤ 1024 <;> by_cases h3 : 1 ≤ f <;> by_cases h4 : f ≤ 16384 <;> simp [h1, h2, h3, h4] <;> omega
end Go.Proofs.YtjhlombbkodpaaaDoor

namespace Go.Proofs.YtjhlombbkodpaaaDoor
open Go.RowKit Go.Sort
set_option linter.unusedSimpArgs false
set_option linter.unusedVariables false

set_option maxHeartbeats 1000000 in
theorem counts_any (b : Nat) (P : Nat → Int) (w : World) (hp : PB w b P) :
    Calls Tryd.prog 66 #[.pointer (some ⟨b, 0, none⟩)] w fun e w' => e = .returned (.bool (cntB (P 131) (P 132))) ∧ w = w' := by
  have e1 := hp.cell 131 (by omega)
  have e2 := hp.cell 132 (by omega)
  clear hp
  generalize P 131 = hf at *
  generalize P 132 = fu at *
  rcases cnt_cases hf fu with ⟨h1, hc⟩ | ⟨h1, h2, hc⟩ | ⟨h1, h2, h3, hc⟩ | ⟨h1, h2, h3, h4, hc⟩ | ⟨h1, h2, h3, h4, hc⟩
  all_goals
    rw [hc]
    clear hc
    go_enter Tryd.func66, Tryd.ntmps66
    go_wp2
    go_ret
    exact ⟨q_b (by first | rfl | (simp; done) | (simp; omega)), rfl⟩
theorem row4 {W : World} {H : Nat} {a b c d : Value} {t : TypeId} (h : W.heap[H]? = some (.cells #[a, b, c, d] t (0, 0))) :
    W.cell? ⟨H, 1, none⟩ = some b ∧ W.cell? ⟨H, 2, none⟩ = some c ∧ W.cell? ⟨H, 3, none⟩ = some d :=
  ⟨by rw [cell_of_row W H 1 _ _ (0, 0) h]; rfl, by rw [cell_of_row W H 2 _ _ (0, 0) h]; rfl, by rw [cell_of_row W H 3 _ _ (0, 0) h]; rfl⟩
theorem three_drew {w : World} {b : Nat} {P : Nat → Int} (h : PB w b P) (o1 o2 o3 : Obj) :
    PB (((w.alloc o1).alloc o2).alloc o3).drew b P ∧ (((w.alloc o1).alloc o2).alloc o3).drew.heap[w.heap.size]? = some o1 ∧ (((w.alloc o1).alloc o2).alloc o3).drew.heap[w.heap.size + 1]? = some o2 ∧
      (((w.alloc o1).alloc o2).alloc o3).drew.heap[w.heap.size + 1 + 1]? = some o3 ∧ Below w.heap.size w (((w.alloc o1).alloc o2).alloc o3).drew :=
  ⟨(((h.alloc _).alloc _).alloc _).drew, (three_at w o1 o2 o3).1, (three_at w o1 o2 o3).2.1, (three_at w o1 o2 o3).2.2.1, (three_at w o1 o2 o3).2.2.2.1.drew⟩
set_option maxHeartbeats 1000000 in
theorem waits_any (b : Nat) (P : Nat → Int) (c d : Int) (k r : Nat) (hk : k < 64) (hr : r < 64) (w : World) (hp : PB w b P) :
    Calls Tryd.prog 99 #[.pointer (some ⟨b, 0, none⟩), .agg #[.int .i64 c, .int .i64 d, .int .i64 (k : Int), .int .i64 (r : Int)]] w fun e w' => e = .returned (.bool (homeB P d k r)) ∧ Below w.heap.size w w' := by
  have HP := Lib.hid hp
  obtain ⟨a, ha⟩ : ∃ a, pe (P (k * 2)) (P (k * 2 + 1)) 6 d = a := ⟨_, rfl⟩
  obtain ⟨e, he⟩ : ∃ e, pe (P (r * 2)) (P (r * 2 + 1)) 4 d = e := ⟨_, rfl⟩
  have HV := Lib.hid (show homeB P d k r = (a && e) by unfold homeB; rw [Nat.mul_comm 2 k, Nat.mul_comm 2 r, ha, he])
  have k0 : (0 : Int) ≤ k := by omega
  have k1 : (k : Int) < 64 := by omega
  have r0 : (0 : Int) ≤ r := by omega
  have r1 : (r : Int) < 64 := by omega
  clear hp
  go_enter Tryd.func99, Tryd.ntmps99
  go_upto_region 1 with (fail)
  go_region
  · go_upto_region 2 with (fail)
    refine forget_B (fun W => PB W b P ∧ W.heap[w.heap.size]? = some (.cells #[.int .i64 c, .int .i64 d, .int .i64 (k : Int), .int .i64 (r : Int)] 118 (0, 0)) ∧ W.heap[w.heap.size + 1]? = some (.cells #[.int .i64 6, .int .i64 d] 25 (0, 0)) ∧ W.heap[w.heap.size + 1 + 1]? = some (.cells #[.int .i64 4, .int .i64 d] 25 (0, 0)) ∧ Below w.heap.size w W)
      (let h := three_drew HP.out _ _ _; ⟨h.1, h.2.1, h.2.2.1, h.2.2.2.1, h.2.2.2.2⟩) ?_
    rintro W ⟨hp, hc, hkb, hrb, hbw⟩
    have HB := Lib.hid hbw
    have u1 := cell_regrown (row4 hc).1
    have u2 := cell_regrown (row4 hc).2.1
    have u3 := cell_regrown (row4 hc).2.2
    have v1 := cell_regrown (row2 hkb).1
    have v2 := cell_regrown (row2 hkb).2.1
    have v3 := cell_regrown (row2 hrb).1
    have v4 := cell_regrown (row2 hrb).2.1
    have y1 := cell_regrown (hp.cell (k * 2) (by omega))
    have y2 := cell_regrown (hp.cell (k * 2 + 1) (by omega))
    have y3 := cell_regrown (hp.cell (r * 2) (by omega))
    have y4 := cell_regrown (hp.cell (r * 2 + 1) (by omega))
    clear hp hc hkb hrb hbw HP
    generalize P (k * 2) = x1 at *
    generalize P (k * 2 + 1) = x2 at *
    generalize P (r * 2) = x3 at *
    generalize P (r * 2 + 1) = x4 at *
    cases a
    all_goals
      refine wp_region_quiet_below (by kernel_rfl) (by kernel_rfl) ?_
      repeat (first | go_big_quiet_step (fail) | quiet_step (fail))
      refine wpQuiet_nil ?_
      rintro W4 ⟨q, rfl⟩
      go_wp2
      go_ret
      exact ⟨q_b (by rw [HV.out]; first | rfl | simp), HB.out.trans ((below_regrown W q.d q.os).mono HB.out.size)⟩
  · go_upto_region 2 with (fail)
    refine forget_B (fun W => PB W b P ∧ W.heap[w.heap.size]? = some (.cells #[.int .i64 c, .int .i64 d, .int .i64 (k : Int), .int .i64 (r : Int)] 118 (0, 0)) ∧ W.heap[w.heap.size + 1 + 1]? = some (.cells #[.int .i64 6, .int .i64 d] 25 (0, 0)) ∧ W.heap[w.heap.size + 1]? = some (.cells #[.int .i64 4, .int .i64 d] 25 (0, 0)) ∧ Below w.heap.size w W)
      (let h := three_drew HP.out _ _ _; ⟨h.1, h.2.1, h.2.2.2.1, h.2.2.1, h.2.2.2.2⟩) ?_
    rintro W ⟨hp, hc, hkb, hrb, hbw⟩
    have HB := Lib.hid hbw
    have u1 := cell_regrown (row4 hc).1
    have u2 := cell_regrown (row4 hc).2.1
    have u3 := cell_regrown (row4 hc).2.2
    have v1 := cell_regrown (row2 hkb).1
    have v2 := cell_regrown (row2 hkb).2.1
    have v3 := cell_regrown (row2 hrb).1
    have v4 := cell_regrown (row2 hrb).2.1
    have y1 := cell_regrown (hp.cell (k * 2) (by omega))
    have y2 := cell_regrown (hp.cell (k * 2 + 1) (by omega))
    have y3 := cell_regrown (hp.cell (r * 2) (by omega))
    have y4 := cell_regrown (hp.cell (r * 2 + 1) (by omega))
    clear hp hc hkb hrb hbw HP
    generalize P (k * 2) = x1 at *
    generalize P (k * 2 + 1) = x2 at *
    generalize P (r * 2) = x3 at *
    generalize P (r * 2 + 1) = x4 at *
    cases a
    all_goals
      refine wp_region_quiet_below (by kernel_rfl) (by kernel_rfl) ?_
      repeat (first | go_big_quiet_step (fail) | quiet_step (fail))
      refine wpQuiet_nil ?_
      rintro W4 ⟨q, rfl⟩
      go_wp2
      go_ret
      exact ⟨q_b (by rw [HV.out]; first | rfl | simp), HB.out.trans ((below_regrown W q.d q.os).mono HB.out.size)⟩
end Go.Proofs.YtjhlombbkodpaaaDoor

namespace Go.Proofs.YtjhlombbkodpaaaDoor
open Go.RowKit Go.Sort
set_option linter.unusedSimpArgs false
set_option linter.unusedVariables false
set_option maxRecDepth 20000

theorem GM.casR {B : Nat} {w : World} (h : GM B w) : w.rangeAt 3 0 (nums mcsN 0 16) := fun j v hv => by
  have hj : j < 16 := by have := (List.getElem?_eq_some_iff.1 hv).1; rwa [nums_len] at this
  rw [nums_get _ _ _ _ hj, Nat.zero_add] at hv
  rw [Nat.zero_add, h.cell j hj, hv]
theorem infoMcs : (Tryd.prog.info? 127).map (·.size) = some 4 := by kernel_rfl
theorem infoMcs4 : (Tryd.prog.info? 128).map (·.size) = some 16 := by kernel_rfl
theorem numsM4 (P : Nat → Int) (a : Nat) : (nums P a 4).toArray = #[.int .i64 (P a), .int .i64 (P (a + 1)), .int .i64 (P (a + 2)), .int .i64 (P (a + 3))] := rfl
theorem index_mcs (P : Nat → Int) (j : Nat) (hj : j < 4) (w : World) : (Instr.index 128 (.agg (nums P 0 16).toArray) (.int .i64 (j : Int))).run Tryd.prog w = .ok (.agg #[.int .i64 (P (j * 4)), .int .i64 (P (j * 4 + 1)), .int .i64 (P (j * 4 + 2)), .int .i64 (P (j * 4 + 3))]) w := by
  have px : (Go.part 127 (nums P 0 16).toArray (j * 4)).run Tryd.prog w = .ok (.agg #[.int .i64 (P (j * 4)), .int .i64 (P (j * 4 + 1)), .int .i64 (P (j * 4 + 2)), .int .i64 (P (j * 4 + 3))]) w := by
    simp only [Go.part, isAgg, Sem.run_bind, run_underlying Tryd.underlying127, Result.andThen_ok, Sem.run_pure, if_true, size_of_info infoMcs, nums_cut P 0 16 (j * 4) (j * 4 + 4) (by omega) (by omega)]
    rw [show j * 4 + 4 - j * 4 = 4 by omega, numsM4, Nat.zero_add]
  have hr : 0 ≤ (j : Int) ∧ (j : Int) < (4 : Nat) := by omega
  simp only [Instr.index, asIntOf, Sem.run_bind, Sem.run_pure, Result.andThen_ok, run_underlying Tryd.underlying128, hr, and_self, if_true, size_of_info infoMcs, Int.toNat_natCast, px]
theorem wpList_mcs {ops : Array Oper} {rest : List Oper} {op : Oper} {a : Act} {w : World} {Q : Exit → Act → World → Prop} (hw : Region.wanted op (yielded ops a.tmps) = true) (x : Operand) (ho : op.op = .load 128 x)
    (Z : Array Value) (hZ : Z = (nums mcsN 0 16).toArray) (hx : a.eval x = .pointer (some ⟨3, 0, none⟩)) (B : Nat) (hc : GM B w) (h : wpList Tryd.prog ops Q rest (a.put op.dst (.agg Z)) w) : wpList Tryd.prog ops Q (op :: rest) a w := by
  subst hZ
  exact BigFrame.wpList_want hw fun _ hK => wp_load_mid 128 x ho _ 0 hx (nums mcsN 0 16) _ hc.casR Tryd.underlying128 rfl (by rw [infoMcs4, nums_len]) (hK _ _ h)
theorem row4m {W : World} {H : Nat} {a b c d : Value} {t : TypeId} (h : W.heap[H]? = some (.cells #[a, b, c, d] t (0, 0))) :
    W.cell? ⟨H, 0, none⟩ = some a ∧ W.cell? ⟨H, 1, none⟩ = some b ∧ W.cell? ⟨H, 2, none⟩ = some c ∧ W.cell? ⟨H, 3, none⟩ = some d ∧ ∀ o, W.frozen? ⟨H, o, none⟩ = false :=
  ⟨by rw [cell_of_row W H 0 _ _ (0, 0) h]; rfl, by rw [cell_of_row W H 1 _ _ (0, 0) h]; rfl, by rw [cell_of_row W H 2 _ _ (0, 0) h]; rfl, by rw [cell_of_row W H 3 _ _ (0, 0) h]; rfl, fun o => frozen_of_row W H o _ _ h⟩
/-- Castle has a castling -/
def hasB (P : Nat → Int) (c : Int) : Bool := decide (0 ≤ P 129) && decide (P 129 ≤ 15) && (bits .and .i64 (P 129) c != 0)
set_option maxHeartbeats 1000000 in
theorem has_c_any (b : Nat) (P : Nat → Int) (c d f y : Int) (w : World) (hp : PB w b P) :
    Calls Tryd.prog 107 #[.pointer (some ⟨b, 0, none⟩), .agg #[.int .i64 c, .int .i64 d, .int .i64 f, .int .i64 y]] w fun e w' => e = .returned (.bool (hasB P c)) ∧ Below w.heap.size w w' := by
  have HI := Lib.hid (show PB (w.alloc (.cells #[.int .i64 c, .int .i64 d, .int .i64 f, .int .i64 y] 127)) b P from hp.alloc _)
  have HV := Lib.hid (show hasB P c = (decide (0 ≤ P 129) && decide (P 129 ≤ 15) && (bits .and .i64 (P 129) c != 0)) from rfl)
  have HC := Lib.hid (show ∀ W, PB W b P → W.cell? ⟨b, 129, none⟩ = some (.int .i64 (P 129)) from fun W h => h.cell 129 (by omega))
  obtain ⟨x, hx⟩ : ∃ x, bits .and .i64 (P 129) c = x := ⟨_, rfl⟩
  rw [hx] at HV
  have HX := Lib.hid hx
  obtain ⟨r, hr⟩ : ∃ r, hasB P c = r := ⟨_, rfl⟩
  rw [hr] at HV ⊢
  obtain ⟨ca, hca⟩ : ∃ x, P 129 = x := ⟨_, rfl⟩
  rw [hca] at HV HC HX
  clear hx hr hca hp
  go_enter Tryd.func107, Tryd.ntmps107
  go_upto_region 1 with (fail)
  refine forget_B (fun W => PB W b P ∧ W.heap[w.heap.size]? = some (.cells #[.int .i64 c, .int .i64 d, .int .i64 f, .int .i64 y] 127 (0, 0)) ∧ Below w.heap.size w W) ⟨HI.out, sl_at rfl, below_new _⟩ ?_
  clear HI
  rintro W ⟨h1, h2, h3⟩
  have e1 := cell_regrown (HC.out W h1)
  have y0 := cell_regrown (row4m h2).1
  have HB := Lib.hid h3
  clear h1 h2 h3 HC
  by_cases g1 : 0 ≤ ca
  · by_cases g2 : ca ≤ 15
    · have hx := HX.out
      by_cases g3 : x = 0
      · have g3' : (x != 0) = false := by simp [g3]
        clear g3
        refine wp_region_quiet_below (by kernel_rfl) (by kernel_rfl) ?_
        repeat (first | go_big_quiet_step (fail) | quiet_step (fail))
        refine wpQuiet_nil ?_
        rintro W4 ⟨q, rfl⟩
        go_wp2
        go_ret
        exact ⟨q_b (by rw [HV.out]; simp [g1, g2, g3']), HB.out.trans ((below_regrown W q.d q.os).mono HB.out.size)⟩
      · have g3' : (x != 0) = true := by simp [g3]
        clear g3
        refine wp_region_quiet_below (by kernel_rfl) (by kernel_rfl) ?_
        repeat (first | go_big_quiet_step (fail) | quiet_step (fail))
        refine wpQuiet_nil ?_
        rintro W4 ⟨q, rfl⟩
        go_wp2
        go_ret
        exact ⟨q_b (by rw [HV.out]; simp [g1, g2, g3']), HB.out.trans ((below_regrown W q.d q.os).mono HB.out.size)⟩
    · clear HX
      refine wp_region_quiet_below (by kernel_rfl) (by kernel_rfl) ?_
      repeat (first | go_big_quiet_step (fail) | quiet_step (fail))
      refine wpQuiet_nil ?_
      rintro W4 ⟨q, rfl⟩
      go_wp2
      go_ret
      exact ⟨q_b (by have h : ¬ ca ≤ 15 := by omega
                     rw [HV.out, decide_eq_false h]; simp), HB.out.trans ((below_regrown W q.d q.os).mono HB.out.size)⟩
  · clear HX
    refine wp_region_quiet_below (by kernel_rfl) (by kernel_rfl) ?_
    repeat (first | go_big_quiet_step (fail) | quiet_step (fail))
    refine wpQuiet_nil ?_
    rintro W4 ⟨q, rfl⟩
    go_wp2
    go_ret
    exact ⟨q_b (by have h : ¬ 0 ≤ ca := by omega
                   rw [HV.out, decide_eq_false h]; simp), HB.out.trans ((below_regrown W q.d q.os).mono HB.out.size)⟩
/-- the way to the corner is free, and the rook stands there -/
def clrB (P : Nat → Int) (xs : List Int) (c : Nat) (d : Int) : Bool := ((List.range (xs.length - 1)).all fun k => emB P (xs.getD k 0).toNat) && pe (P (2 * c)) (P (2 * c + 1)) 4 d
theorem clr_first (P : Nat → Int) (xs : List Int) (c : Nat) (d : Int) (r : Int) (h0 : 0 < xs.length) (hc : xs.getD (xs.length - 1) 0 = c) (h : FI (fun x => !emB P x.toNat) xs r) :
    clrB P xs c d = ((r == (xs.length : Int) - 1) && pe (P (2 * c)) (P (2 * c + 1)) 4 d) := by
  unfold clrB
  cases hp : pe (P (2 * c)) (P (2 * c + 1)) 4 d
  · simp
  · rw [Bool.and_true, Bool.and_true]
    have hne : emB P c = false := by
      unfold emB
      have := (pe_iff _ _ _ _).1 hp
      rw [this.1]; rfl
    rcases h with ⟨rfl, h⟩ | ⟨k, hk, rfl, h1, h2⟩
    · exfalso
      have := h (xs.length - 1) (by omega)
      rw [hc] at this
      simp [hne] at this
    · by_cases e : k = xs.length - 1
      · have e2 : ((k : Int) == (xs.length : Int) - 1) = true := by simp; omega
        rw [e2, List.all_eq_true]
        intro j hj
        have := h2 j (by have := List.mem_range.1 hj; omega)
        simpa using this
      · have e2 : ((k : Int) == (xs.length : Int) - 1) = false := by simp; omega
        rw [e2]
        cases ha : (List.range (xs.length - 1)).all fun k => emB P (xs.getD k 0).toNat
        · rfl
        · exfalso
          rw [List.all_eq_true] at ha
          have := ha k (List.mem_range.2 (by omega))
          simp only [this] at h1
          cases h1
set_option maxHeartbeats 2000000 in
theorem isClear_any (B b : Nat) (P : Nat → Int) (y d f a : Int) (n : Nat) (xs : List Int) (c : Nat) (hA : I64 a) (ha0 : a ≠ 0) (hr : RayN f a 0 n) (h7 : n ≤ 7) (hq : rqC f a 0 n = ivals xs) (hn : xs.length = n) (h0 : 0 < n) (hc : xs.getD (n - 1) 0 = c) (hc64 : c < 64) (hxr : ∀ x ∈ xs, 0 ≤ x ∧ x < 64)
    (w : World) (hp : PB w b P) (hg : GS B w) (hm : GM B w) (hB : B ≤ w.heap.size) :
    Calls Tryd.prog 108 #[.pointer (some ⟨b, 0, none⟩), .agg #[.int .i64 y, .int .i64 d, .int .i64 f, .int .i64 a]] w fun e w' => e = .returned (.bool (clrB P xs c d)) ∧ Below w.heap.size w w' := by
  have HI := Lib.hid ((MV.begin hp hg hm hB).go (below_new (w := w) (.cells #[.int .i64 y, .int .i64 d, .int .i64 f, .int .i64 a] 127)))
  have MR := Lib.hid (fun W => ray_any f a 0 n W hA (by unfold I64; omega) (fun h => ha0 h.1) hr h7)
  have HQ := Lib.hid hq
  have HN := Lib.hid hn
  have HCL := Lib.hid (fun r h => clr_first P xs c d r (by omega) (by rw [hn]; exact hc) h)
  have HIF := Lib.hid (fun (base : Nat) (v : Value) (W : World) (h1 : PB W b P) (h2 : W.ownsRow base 3 1 v xs.length (ivals xs)) =>
    indexFunc_any 103 b (enters_of Tryd.func103 (by kernel_rfl) rfl) (fun x => !emB P x.toNat) (fun W => PB W b P) (fun W W' h g => h.go g)
      (fun W x h x0 x1 => by
        obtain ⟨n, rfl⟩ := Int.eq_ofNat_of_zero_le x0
        rw [Int.toNat_natCast]
        exact mStands_any b P n (by omega) W h) base xs hxr v W h1 (by omega) h2)
  have HCO := Lib.hid hc
  have HC1 := Lib.hid (show ∀ W, PB W b P → W.cell? ⟨b, c * 2, none⟩ = some (.int .i64 (P (c * 2))) ∧ W.cell? ⟨b, c * 2 + 1, none⟩ = some (.int .i64 (P (c * 2 + 1))) from fun W h => ⟨h.cell _ (by omega), h.cell _ (by omega)⟩)
  have HC64 := Lib.hid hc64
  rw [Nat.mul_comm 2 c] at HCL
  obtain ⟨R, hR⟩ : ∃ R, clrB P xs c d = R := ⟨_, rfl⟩
  rw [hR] at HCL ⊢
  generalize P (c * 2) = ck at *
  generalize P (c * 2 + 1) = cd at *
  clear hR hp hg hm hB hr hq hc hxr hA ha0 hc64
  go_enter Tryd.func108, Tryd.ntmps108
  go_upto_region 1 with (fail)
  refine forget_B (fun W => MV B b P w W ∧ W.heap[w.heap.size]? = some (.cells #[.int .i64 y, .int .i64 d, .int .i64 f, .int .i64 a] 127 (0, 0))) ⟨HI.out, sl_at rfl⟩ ?_
  clear HI
  rintro W ⟨h1, h2⟩
  have HI := Lib.hid h1
  have HK := Lib.hid h2
  clear h1 h2
  obtain ⟨k0, k1, k2, k3, _⟩ := row4m HK.out
  go_wp2_with fail
  refine (MR.out _).mono ?_
  rintro e w1 ⟨v, rfl, hb, hown⟩
  replace HI := Lib.hid (HI.out.go hb)
  replace HK := Lib.hid (sl_go HK.out hb)
  rw [HQ.out, ← HN.out] at hown
  have HO := Lib.hid hown
  clear hb hown MR k0 k1 k2 k3
  go_wp2_with fail
  refine (HIF.out _ v _ HI.out.p HO.out).mono ?_
  rintro e w2 ⟨⟨r, rfl, hr⟩, hb⟩
  replace HI := Lib.hid (HI.out.go hb)
  replace HK := Lib.hid (sl_go HK.out hb)
  have hown := owns_go HO.out hb
  have hcl := HCL.out r hr
  rw [ivals_range] at hown
  obtain ⟨pa, ca, rfl, hrd, _⟩ := sq_reads hown
  rw [HN.out] at hcl hrd ⊢
  have HRD := Lib.hid hrd
  have HCV := Lib.hid hcl
  clear hb hown hcl hrd hr HIF HCL HO
  obtain ⟨k0, k1, k2, k3, _⟩ := row4m HK.out
  replace k1 := cell_regrown k1
  obtain ⟨c1, c2⟩ := HC1.out _ HI.out.p
  replace c1 := cell_regrown c1
  replace c2 := cell_regrown c2
  have hw1 : IntKind.i64.wrap ((n : Int) - 1) = (n : Int) - 1 := IntWalk.i64_in _ (by omega)
  go_upto_region 3 with (fail)
  by_cases e : r = (n : Int) - 1
  · have hnn : n - 1 < n := by omega
    obtain ⟨ab, ao, rfl⟩ := readsAddr HRD.out hnn
    have e0 := cell_regrown (readsAt HRD.out hnn)
    rw [HCO.out] at e0
    obtain ⟨m, hm⟩ : ∃ m : Nat, n - 1 = m := ⟨_, rfl⟩
    have hnm : (n : Int) - 1 = (m : Int) := by omega
    rw [hm] at e0
    rw [hnm] at e hw1 HCV
    subst e
    have hw2 : wrap64 ((n : Int) - 1) = (m : Int) := by unfold wrap64; omega
    have hw3 : (n : Int) - 1 = (m : Int) := hnm
    have m0 : (0 : Int) ≤ (m : Int) := by omega
    have m1 : (m : Int) < (n : Int) := by omega
    have q0 : (0 : Int) ≤ (c : Int) := by omega
    have q1 : (c : Int) < 64 := by have := HC64.out; omega
    have qq : ((m : Int) == (m : Int)) = true := by simp
    rw [qq] at HCV
    clear hnm hm qq hnn
    refine wp_region_quiet_below (by kernel_rfl) (by kernel_rfl) ?_
    repeat (first | go_big_quiet_step (fail) | quiet_step (fail))
    refine wpQuiet_nil ?_
    rintro W4 ⟨q, rfl⟩
    go_wp2
    go_ret
    exact ⟨q_b (by rw [HCV.out]; first | rfl | simp), HI.out.bel.trans ((below_regrown w2 q.d q.os).mono HI.out.bel.size)⟩
  · have e' : (r == (n : Int) - 1) = false := by simp [e]
    rw [e'] at HCV
    clear e
    refine wp_region_quiet_below (by kernel_rfl) (by kernel_rfl) ?_
    repeat (first | go_big_quiet_step (fail) | quiet_step (fail))
    refine wpQuiet_nil ?_
    rintro W4 ⟨q, rfl⟩
    go_wp2
    go_ret
    exact ⟨q_b (by rw [HCV.out]; first | rfl | simp), HI.out.bel.trans ((below_regrown w2 q.d q.os).mono HI.out.bel.size)⟩
end Go.Proofs.YtjhlombbkodpaaaDoor
