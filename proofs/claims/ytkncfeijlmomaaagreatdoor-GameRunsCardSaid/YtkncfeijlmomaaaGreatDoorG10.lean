/-
  Merged: Md, Bo.
-/
import Derived.Test.YtkncfeijlmomaaaGreatDoorG9
import Derived.Deep.CutRange
import Derived.Test.YtkncfeijlmomaaaGreatDoorG5

namespace Go.Proofs.YtkncfeijlmomaaaGreatDoor
open Go.RowKit Go.Sort
set_option linter.unusedSimpArgs false
set_option linter.unusedVariables false
set_option maxRecDepth 20000

/-- the squares on a pawn's way, up to a number of them, as long as nothing stands there -/
def upW (P : Nat → Int) (on : Int) : Nat → Int → List Int
  | 0, _ => []
  | n + 1, a => if sq a && emB P a.toNat then a :: upW P on n (stp a 0 on) else []
def onN (P : Nat → Int) : Int := if P 128 = 1 then -1 else 1
def farN (P : Nat → Int) (s : Nat) : Nat := if rkN P s = 1 then 2 else 1
def aheadL (P : Nat → Int) (s : Nat) : List Int := upW P (onN P) (farN P s) (stp (s : Int) 0 (onN P))
def lenV : Value → Nat
  | .slice _ n _ => n
  | _ => 0
set_option maxHeartbeats 2000000 in
theorem ahead_any (B b : Nat) (P : Nat → Int) (s : Nat) (hs : s < 64) (w : World) (hp : PB w b P) (hg : GS B w) (hm : GM B w) (hB : B ≤ w.heap.size) :
    Calls Tryz.prog 180 #[.pointer (some ⟨b, 0, none⟩), .int .i64 (s : Int)] w fun e w' => ∃ v, e = .returned v ∧ Below w.heap.size w w' ∧ w'.ownsRow w.heap.size 3 1 v (aheadL P s).length (ivals (aheadL P s)) := by
  obtain ⟨i0, hi, hz0, hz1, hz2⟩ := info_parts infoInt
  have HI := Lib.hid (MV.begin hp hg hm hB)
  have MK := Lib.hid (fun W h => mRank_any b P s hs W h)
  have HON := Lib.hid (show onN P = if P 128 = 1 then -1 else 1 from rfl)
  have HFR := Lib.hid (show farN P s = if rkN P s = 1 then 2 else 1 from rfl)
  have HAL := Lib.hid (show aheadL P s = upW P (onN P) (farN P s) (stp (s : Int) 0 (onN P)) from rfl)
  have HO64 := Lib.hid (show I64 (onN P) by unfold onN I64; split <;> omega)
  have HST := Lib.hid (fun (x : Nat) (hx : x < 64) W h => mStands_any b P x hx W h)
  obtain ⟨on, hon⟩ : ∃ o, onN P = o := ⟨_, rfl⟩
  obtain ⟨fr, hfr⟩ : ∃ o, farN P s = o := ⟨_, rfl⟩
  obtain ⟨rk, hrk⟩ : ∃ o, rkN P s = o := ⟨_, rfl⟩
  obtain ⟨R, hR⟩ : ∃ o, aheadL P s = o := ⟨_, rfl⟩
  rw [hrk] at MK HFR
  rw [hfr] at HFR HAL
  rw [hon] at HON HAL HO64
  rw [hR] at HAL ⊢
  have HF2 := Lib.hid (show fr ≤ 2 by rw [HFR.out]; split <;> omega)
  have e1 := hp.cell 128 (by omega)
  obtain ⟨sd, hsd⟩ : ∃ o, P 128 = o := ⟨_, rfl⟩
  rw [hsd] at HON e1
  clear hon hfr hrk hR hsd hp hg hm hB hs
  go_enter Tryz.func180, Tryz.ntmps180
  go_upto_if 14 with (fail)
  go_cut [5] from 15 to 43 (fun v wx => v = .int .i64 on ∧ MV B b P w wx)
  case first =>
    have hon := HON.out
    by_cases h1 : sd = 1
    · subst h1
      rw [if_pos rfl] at hon
      subst hon
      go_wp2_with fail
      go_meet
      exact ⟨rfl, HI.out⟩
    · have h1' : (sd == 1) = false := by simp [h1]
      rw [if_neg h1] at hon
      subst hon
      go_wp2_with fail
      go_meet
      exact ⟨rfl, HI.out⟩
  case rest =>
  obtain ⟨rfl, h⟩ := hcut
  replace HI := Lib.hid h
  clear h e1 HON
  go_wp2_with fail
  refine (MK.out _ HI.out.p).mono ?_
  rintro e w4 ⟨rfl, hb⟩
  replace HI := Lib.hid (HI.out.go hb)
  clear hb MK
  go_upto_if 18 with (fail)
  go_cut [6] from 19 to 43 (fun v wx => v = .int .i64 (fr : Int) ∧ MV B b P w wx)
  case first =>
    have hfr := HFR.out
    by_cases h1 : rk = 1
    · subst h1
      rw [if_pos rfl] at hfr
      subst hfr
      go_wp2_with fail
      go_meet
      exact ⟨rfl, HI.out⟩
    · have h1' : (rk == 1) = false := by simp [h1]
      rw [if_neg h1] at hfr
      subst hfr
      go_wp2_with fail
      go_meet
      exact ⟨rfl, HI.out⟩
  case rest =>
  obtain ⟨rfl, h⟩ := hcut
  replace HI := Lib.hid h
  clear h HFR
  go_wp2_with fail
  refine (step_any (s : Int) 0 on _ (by unfold I64; omega) HO64.out).mono ?_
  rintro e w7 ⟨rfl, hb⟩
  replace HI := Lib.hid (HI.out.go hb)
  clear hb
  go_wp2
  go_loopw [7, 8] (fun ts at' wr => ∃ (v : Value) (a : Int) (L : List Int), ts = v ∧ at' = .int .i64 a ∧ L.length ≤ fr ∧ R = L ++ upW P on (fr - L.length) a ∧ MV B b P w wr ∧ wr.ownsRow w.heap.size 3 1 v L.length (ivals L)) (fun ts _ _ => 2 - lenV ts)
  case atStart => exact ⟨_, _, [], rfl, rfl, Nat.zero_le _, by rw [HAL.out]; rfl, HI.out, by simpa [ivals] using World.ownsRow_nil w7 w.heap.size 3 1⟩
  case round =>
    clear HI
    obtain ⟨v, a, L, rfl, rfl, hk, hR, h1, hown⟩ := hrel
    have HI := Lib.hid h1
    have HOW := Lib.hid hown
    have hf2 := HF2.out
    rw [ivals_range] at hown
    obtain ⟨pv, cv, rfl, _, _⟩ := sq_reads hown
    have hll : (L.length : Int) ≤ 2 := by omega
    clear h1 hown
    by_cases hlt : L.length < fr
    · have hz : (L.length : Int) < (fr : Int) := by omega
      obtain ⟨m, hm⟩ : ∃ m, fr - L.length = m + 1 := ⟨fr - L.length - 1, by omega⟩
      rw [hm] at hR
      unfold upW at hR
      obtain ⟨sa, hsa⟩ : ∃ b, sq a = b := ⟨_, rfl⟩
      rw [hsa] at hR
      cases sa
      · have HRR := Lib.hid (show R = L by rw [hR]; simp)
        have HSA := Lib.hid hsa
        clear hR hm hsa
        go_wp2_with fail
        refine (is_any a _).mono ?_
        rw [HSA.out]
        rintro e w9 ⟨rfl, hb⟩
        replace HI := Lib.hid (HI.out.go hb)
        replace HOW := Lib.hid (owns_go HOW.out hb)
        clear hb
        go_wp2
        go_ret
        exact ⟨_, rfl, HI.out.bel, by rw [HRR.out]; exact HOW.out⟩
      · obtain ⟨a0, a1⟩ := (sq_iff a).1 hsa
        obtain ⟨n, rfl⟩ := Int.eq_ofNat_of_zero_le a0
        have hn64 : n < 64 := by omega
        have HC := Lib.hid (HST.out n hn64)
        obtain ⟨em, hem⟩ : ∃ b, emB P n = b := ⟨_, rfl⟩
        rw [hem] at HC
        rw [Int.toNat_natCast, hem] at hR
        have HSA := Lib.hid hsa
        have n0 : (0 : Int) ≤ (n : Int) := a0
        have n1 : (n : Int) < 64 := by omega
        have HM := Lib.hid hm
        clear hsa hem a0 a1 hm
        cases em
        · have HRR := Lib.hid (show R = L by rw [hR]; simp)
          clear hR
          go_wp2_with fail
          refine (is_any (n : Int) _).mono ?_
          rw [HSA.out]
          rintro e w9 ⟨rfl, hb⟩
          replace HI := Lib.hid (HI.out.go hb)
          replace HOW := Lib.hid (owns_go HOW.out hb)
          clear hb
          go_wp2_with fail
          refine (HC.out _ HI.out.p).mono ?_
          rintro e w10 ⟨rfl, hb⟩
          replace HI := Lib.hid (HI.out.go hb)
          replace HOW := Lib.hid (owns_go HOW.out hb)
          clear hb
          go_wp2
          go_ret
          exact ⟨_, rfl, HI.out.bel, by rw [HRR.out]; exact HOW.out⟩
        · have HRR := Lib.hid (show R = (L ++ [(n : Int)]) ++ upW P on (fr - (L ++ [(n : Int)]).length) (stp (n : Int) 0 on) by
            rw [hR, show fr - (L ++ [(n : Int)]).length = m by have := HM.out; simp; omega]; simp)
          clear hR
          go_wp2_with fail
          refine (is_any (n : Int) _).mono ?_
          rw [HSA.out]
          rintro e w9 ⟨rfl, hb⟩
          replace HI := Lib.hid (HI.out.go hb)
          replace HOW := Lib.hid (owns_go HOW.out hb)
          clear hb
          go_wp2_with fail
          refine (HC.out _ HI.out.p).mono ?_
          rintro e W4 ⟨rfl, hb⟩
          replace HI := Lib.hid (HI.out.go hb)
          replace HOW := Lib.hid (owns_go HOW.out hb)
          clear hb
          have hm1 : L.length + 1 ≤ maxLen := by unfold maxLen; omega
          go_wp2_with (at_builtin; refine wpList_append_lies _ rfl (.tmp 39) (.tmp 41) 63 rfl w.heap.size 3 i0 (.int .i64 0) 1 8 Tryz.underlying63 hi hz0 hz1 hz2 rfl (by decide) _ L.length (ivals L) rfl (owns_go HOW.out ((Below.refl _ _).alloc (Nat.le_refl _) _)) ⟨W4.heap.size, 0, none⟩ 1 1 [.int .i64 (n : Int)] rfl rfl (World.news_of_block (heap_alloc_new _ _)) ?c2 (by decide) hm1 (by omega) (by have := HI.out.bel.size; simp; omega) (W4.heap.size + 1) (by simp) ?next)
          case c2 => first | rfl | (intro y hy; simp at hy; subst hy; rfl)
          case next =>
            intro g1 cap1 w4' hown1 hgrow1 hat1 hlt3
            rw [ivals_snoc] at hown1
            have HB4 := Lib.hid (((below_new (w := W4) (.cells #[.int .i64 (n : Int)] 3)).mono HI.out.bel.size).grown hgrow1 (by have := HI.out.bel.size; simp; omega) (fun b e => (HOW.out.lt b e).1))
            replace HI := Lib.hid (HI.out.go2 HB4.out)
            have HO4 := Lib.hid hown1
            clear hgrow1 hown1 hat1 HOW HB4
            go_wp2_with fail
            refine (step_any (n : Int) 0 on _ (by unfold I64; omega) HO64.out).mono ?_
            rintro e w12 ⟨rfl, hb⟩
            replace HI := Lib.hid (HI.out.go hb)
            replace HO4 := Lib.hid (owns_go HO4.out hb)
            clear hb
            go_wp2
            go_roundw
            case rel => exact ⟨_, _, L ++ [(n : Int)], rfl, rfl, by simp; omega, HRR.out, HI.out, by rw [show (L ++ [(n : Int)]).length = L.length + 1 by simp]; exact HO4.out⟩
            case measure => simp [lenV]; omega
    · have HRR := Lib.hid (show R = L by rw [hR, show fr - L.length = 0 by omega]; simp [upW])
      have hz : ¬ (L.length : Int) < (fr : Int) := by omega
      clear hR
      go_wp2
      go_ret
      exact ⟨_, rfl, HI.out.bel, by rw [HRR.out]; exact HOW.out⟩
end Go.Proofs.YtkncfeijlmomaaaGreatDoor

namespace Go.Proofs.YtkncfeijlmomaaaGreatDoor
open Go.RowKit Go.Sort
set_option linter.unusedSimpArgs false
set_option linter.unusedVariables false

/-- a pawn of a side went from square a over square o to square b -/
def overC (P : Nat → Int) (o rank a b : Nat) (pd : Int) : Bool := (o / 8 == rank) && pe (P (2 * o)) (P (2 * o + 1)) 0 0 && pe (P (2 * a)) (P (2 * a + 1)) 0 0 && pe (P (2 * b)) (P (2 * b + 1)) 1 pd
def overB (P : Nat → Int) : Bool := P 130 == -1 || (sq (P 130) && P 131 == 0 && if P 128 == 1 then overC P (P 130).toNat 2 ((P 130).toNat - 8) ((P 130).toNat + 8) 0 else overC P (P 130).toNat 5 ((P 130).toNat + 8) ((P 130).toNat - 8) 1)
def rightB (P : Nat → Int) : Bool := piecesB P && castB P && overB P && decide (0 ≤ P 131) && decide (P 131 ≤ 1024) && decide (1 ≤ P 132) && decide (P 132 ≤ 16384)
end Go.Proofs.YtkncfeijlmomaaaGreatDoor
