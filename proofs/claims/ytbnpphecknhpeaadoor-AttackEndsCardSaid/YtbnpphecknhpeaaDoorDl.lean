/-
  Contract: the document's Attacks.
-/
import Derived.Test.YtbnpphecknhpeaaDoorDk
namespace Go.Proofs.YtbnpphecknhpeaaDoor
open Go.RowKit Go.Sort
set_option linter.unusedSimpArgs false
set_option linter.unusedVariables false

theorem kinds6 (k : Int) (h0 : 1 ≤ k) (h1 : k ≤ 6) : k = 1 ∨ k = 2 ∨ k = 6 ∨ k = 4 ∨ k = 3 ∨ k = 5 := by omega
set_option maxHeartbeats 8000000 in
set_option maxRecDepth 100000 in
theorem rAtt_any (P : Nat → Int) (a b : Nat) (ha : a < 64) (hb : b < 64) (w : World) :
    Calls Tryd.prog 29 #[.agg (pc P).toArray, .int .i64 (a : Int), .int .i64 (b : Int)] w fun e w' => e = .returned (.bool (attR P a b)) ∧ Below w.heap.size w w' := by
  obtain ⟨X, hX⟩ : ∃ X, X = (pc P).toArray := ⟨_, rfl⟩
  have HOP := Lib.hid (fun hg W => open_any P a b ha hb hg W)
  rw [← hX] at HOP ⊢
  have HX := Lib.hid hX
  have HP := Lib.hid (show PB (w.alloc (.cells X 29)) w.heap.size P by subst hX; exact PB.new rfl)
  have HB := Lib.hid (below_new (w := w) (.cells X 29))
  have hd := D_small a ha b hb
  clear hX
  go_enter Tryd.func29, Tryd.ntmps29
  go_upto_region 1 with (fail)
  generalize w.alloc (.cells X 29) = W0 at *
  have e1 := HP.out.cell (a * 2) (by omega)
  have e2 := HP.out.cell (a * 2 + 1) (by omega)
  have HAT := Lib.hid (show attR P a b = attK P (P (a * 2)) (P (a * 2 + 1)) a b by unfold attR; rw [Nat.mul_comm 2 a])
  generalize P (a * 2) = k at e1 HAT
  generalize P (a * 2 + 1) = d at e2 HAT
  have h0 : (0 : Int) ≤ a := by omega
  have h1 : (a : Int) < 64 := by omega
  have hl : (W0.alloc (.cells #[.int .i64 k, .int .i64 d] 25)).heap[W0.heap.size]? = some (.cells #[.int .i64 k, .int .i64 d] 25 (0, 0)) := sl_at rfl
  have HL := Lib.hid hl
  clear hl
  go_wp2_with fail
  refine (rMay_any k d _).mono ?_
  cases hm : mayB k d
  · have HF := Lib.hid (show attR P a b = false by rw [HAT.out]; unfold attK; rw [hm]; rfl)
    clear hm
    rintro e w2 ⟨rfl, hb2⟩
    have HB2 := Lib.hid ((HB.out.alloc HB.out.size _).trans (hb2.mono (Nat.le_trans HB.out.size (by simp))))
    clear hb2
    go_wp2
    go_ret
    exact ⟨q_b HF.out.symm, HB2.out⟩
  rintro e w2 ⟨rfl, hb2⟩
  have HB2 := Lib.hid ((HB.out.alloc HB.out.size (.cells #[.int .i64 k, .int .i64 d] 25)).trans (hb2.mono (Nat.le_trans HB.out.size (by simp))))
  have HL2 := Lib.hid (sl_go HL.out hb2)
  have HP2 := Lib.hid ((HP.out.alloc (.cells #[.int .i64 k, .int .i64 d] 25)).go hb2)
  obtain ⟨pb, hpb⟩ : ∃ p, W0.heap.size = p := ⟨_, rfl⟩
  rw [hpb] at HL2 ⊢
  have hk6 : 1 ≤ k ∧ k ≤ 6 := by
    rcases may_cases k d with ⟨h, hh⟩ | ⟨h, hh⟩ | ⟨h, h', _⟩
    · rw [hh] at hm; cases hm
    · rw [hh] at hm; cases hm
    · exact ⟨h, h'⟩
  have hsd : d = 0 ∨ d = 1 := by
    rcases may_cases k d with ⟨h, hh⟩ | ⟨h, hh⟩ | ⟨h, h', h3⟩
    · rw [hh] at hm; cases hm
    · rw [hh] at hm; cases hm
    · rw [h3] at hm
      rcases side_cases d with ⟨h, _⟩ | ⟨h, _⟩ | ⟨_, _, h⟩
      · exact .inl h
      · exact .inr h
      · rw [h] at hm; cases hm
  have HM := Lib.hid hm
  have HK6 := Lib.hid hk6
  have HSD := Lib.hid hsd
  clear hm hb2 HL HP HB e1 e2 hk6 hsd hpb
  by_cases hab : a = b
  · have HF := Lib.hid (show attR P a b = false by rw [HAT.out]; unfold attK; subst hab; simp)
    have hne : ((a : Int) == (b : Int)) = true := by simp [hab]
    clear hab
    go_wp2
    go_ret
    exact ⟨q_b HF.out.symm, HB2.out⟩
  have hkb : attR P a b = kindB P k d a b := by rw [HAT.out]; unfold attK; rw [HM.out]; simp [hab]
  unfold kindB at hkb
  have HKB := Lib.hid hkb
  clear hkb
  have HGD := Lib.hid (show good a b = (fD a b == 0 || rD a b == 0 || absI (fD a b) == absI (rD a b)) by unfold good; simp [hab])
  have hne : ((a : Int) == (b : Int)) = false := by simp; omega
  clear hab HAT HM
  go_wp2_with fail
  refine (apart_any a b ha hb _).mono ?_
  rintro e w3 ⟨rfl, rfl⟩
  generalize hf : fD a b = f at *
  generalize hr : rD a b = r at *
  clear hf hr
  go_upto_region 5 with (fail)
  rename_i K5 hK5
  have HK : ∀ (st sl : Bool) (u30 u31 u32 u33 u34 u35 u36 u37 u38 u39 u40 : Value), st = (f == 0 || r == 0) → sl = (absI f == absI r) → K5 { tmps := #[.agg X, .int .i64 a, .int .i64 b, .pointer (some ⟨w.heap.size, 0, none⟩), undef, undef, .bool false, .pointer (some ⟨pb, 0, none⟩), .int .i64 f, .int .i64 r, .bool st, .bool sl, .int .i64 a, .pointer (some ⟨w.heap.size, 0, none⟩), .pointer (some ⟨w.heap.size, a * 2, none⟩), .agg #[.int .i64 k, .int .i64 d], .agg #[.int .i64 k, .int .i64 d], .bool true, .bool false, .bool false, .int .i64 a, .int .i64 b, .bool false, .bool false, .tuple #[.int .i64 f, .int .i64 r], .int .i64 a, .int .i64 b, .tuple #[.int .i64 f, .int .i64 r], .int .i64 f, .int .i64 r, u30, u31, u32, u33, u34, u35, u36, u37, u38, u39, u40, undef, undef, undef, undef, undef, undef, undef, undef, undef, undef, undef, undef, undef, undef, undef, undef, undef, undef, undef, undef, undef, undef, undef, undef, undef, undef, undef, undef, undef, undef, undef, undef, undef, undef, undef, undef, undef, undef, undef, undef, undef, undef, undef, undef, undef, undef, undef, undef, undef, undef, undef, undef, undef, undef, undef, undef, undef, undef, undef, undef, undef, undef, undef, undef, undef, undef, undef, undef, undef, undef, undef], defers := [] } w2 := by
    intro st sl u30 u31 u32 u33 u34 u35 u36 u37 u38 u39 u40 hst hsl
    rw [← hst, ← hsl] at HKB HGD
    have HST := Lib.hid hst
    have HSL := Lib.hid hsl
    refine hK5 _ _ ?_
    clear hK5 hst hsl
    obtain ⟨c0, c1, cf, _⟩ := row2 HL2.out
    have hk6 := HK6.out
    have h2 : 0 ≤ absI f ∧ absI f ≤ 7 := by unfold absI; split <;> omega
    have h3 : 0 ≤ absI r ∧ absI r ≤ 7 := by unfold absI; split <;> omega
    rcases kinds6 k hk6.1 hk6.2 with rfl | rfl | rfl | rfl | rfl | rfl
    · clear hk6 h2 h3 HOP
      have HKB2 := Lib.hid (show attR P a b = (absI f == 1 && (d == 0 && r == 1 || d == 1 && r == -1)) from HKB.out)
      clear HKB
      cases h1f : (absI f == 1)
      · have HF := Lib.hid (show attR P a b = false by rw [HKB2.out, h1f]; rfl)
        clear HKB2
        go_wp2_with fail
        refine (abs_any f (by omega) (by omega) _).mono ?_
        generalize absI f = af at *
        rintro e w4 ⟨rfl, rfl⟩
        go_wp2
        go_ret
        exact ⟨q_b HF.out.symm, HB2.out⟩
      · rcases HSD.out with rfl | rfl
        · cases hr1 : (r == 1)
          · have HF := Lib.hid (show attR P a b = false by rw [HKB2.out, h1f, hr1]; rfl)
            clear HKB2
            go_wp2_with fail
            refine (abs_any f (by omega) (by omega) _).mono ?_
            generalize absI f = af at *
            rintro e w4 ⟨rfl, rfl⟩
            go_wp2
            go_ret
            exact ⟨q_b HF.out.symm, HB2.out⟩
          · have HF := Lib.hid (show attR P a b = true by rw [HKB2.out, h1f, hr1]; rfl)
            clear HKB2
            go_wp2_with fail
            refine (abs_any f (by omega) (by omega) _).mono ?_
            generalize absI f = af at *
            rintro e w4 ⟨rfl, rfl⟩
            go_wp2
            go_ret
            exact ⟨q_b HF.out.symm, HB2.out⟩
        · have HF := Lib.hid (show attR P a b = (r == -1) by rw [HKB2.out, h1f]; rfl)
          clear HKB2
          go_wp2_with fail
          refine (abs_any f (by omega) (by omega) _).mono ?_
          generalize absI f = af at *
          rintro e w4 ⟨rfl, rfl⟩
          go_wp2
          go_ret
          exact ⟨q_b HF.out.symm, HB2.out⟩
    · have HF := Lib.hid (show attR P a b = (absI f * absI r == 2) from HKB.out)
      have p0 := Int.mul_nonneg h2.1 h3.1
      have p1 : absI f * absI r ≤ 7 * 7 := Int.mul_le_mul h2.2 h3.2 h3.1 (by omega)
      clear HKB HOP hk6 h2 h3
      go_wp2_with fail
      refine (abs_any f (by omega) (by omega) _).mono ?_
      rintro e w4 ⟨rfl, rfl⟩
      go_wp2_with fail
      refine (abs_any r (by omega) (by omega) _).mono ?_
      generalize absI f = af at *
      generalize absI r = ar at *
      rintro e w4 ⟨rfl, rfl⟩
      obtain ⟨pp, hpp⟩ : ∃ p, af * ar = p := ⟨_, rfl⟩
      rw [hpp] at p0 p1 HF
      have p2 : wrap64 pp = pp := by unfold wrap64; omega
      go_wp2
      go_ret
      exact ⟨q_b HF.out.symm, HB2.out⟩
    · have HF := Lib.hid (show attR P a b = (decide (absI f ≤ 1) && decide (absI r ≤ 1)) from HKB.out)
      clear HKB HOP hk6
      by_cases h1f : absI f ≤ 1
      · have HF2 := Lib.hid (show attR P a b = decide (absI r ≤ 1) by rw [HF.out, decide_eq_true h1f, Bool.true_and])
        clear HF
        go_wp2_with fail
        refine (abs_any f (by omega) (by omega) _).mono ?_
        generalize absI f = af at *
        rintro e w4 ⟨rfl, rfl⟩
        go_wp2_with fail
        refine (abs_any r (by omega) (by omega) _).mono ?_
        generalize absI r = ar at *
        rintro e w4 ⟨rfl, rfl⟩
        go_wp2
        go_ret
        exact ⟨q_b HF2.out.symm, HB2.out⟩
      · have HF2 := Lib.hid (show attR P a b = false by rw [HF.out, decide_eq_false h1f, Bool.false_and])
        clear HF
        go_wp2_with fail
        refine (abs_any f (by omega) (by omega) _).mono ?_
        generalize absI f = af at *
        rintro e w4 ⟨rfl, rfl⟩
        go_wp2
        go_ret
        exact ⟨q_b HF2.out.symm, HB2.out⟩
    · have HF := Lib.hid (show attR P a b = (st && openB P a b) from HKB.out)
      clear HKB hk6 h2 h3
      cases st
      · have HF2 := Lib.hid (show attR P a b = false by rw [HF.out, Bool.false_and])
        clear HF HOP
        go_wp2
        go_ret
        exact ⟨q_b HF2.out.symm, HB2.out⟩
      · have HF2 := Lib.hid (show attR P a b = openB P a b by rw [HF.out, Bool.true_and])
        have HO := Lib.hid (HOP.out (by rw [HGD.out, Bool.true_or]))
        clear HF HOP
        go_wp2_with fail
        refine wp_load_mid 29 (.tmp 3) rfl _ 0 rfl (pc P) _ HP2.out.range Tryd.underlying29 rfl (by rw [infoPos, pc_len]) ?_
        rw [← HX.out]
        go_wp2_with fail
        refine (HO.out _).mono ?_
        rintro e w4 ⟨rfl, hb4⟩
        have HB4 := Lib.hid (HB2.out.trans (hb4.mono HB2.out.size))
        clear hb4
        go_wp2
        go_ret
        exact ⟨q_b HF2.out.symm, HB4.out⟩
    · have HF := Lib.hid (show attR P a b = (sl && openB P a b) from HKB.out)
      clear HKB hk6 h2 h3
      cases sl
      · have HF2 := Lib.hid (show attR P a b = false by rw [HF.out, Bool.false_and])
        clear HF HOP
        go_wp2
        go_ret
        exact ⟨q_b HF2.out.symm, HB2.out⟩
      · have HF2 := Lib.hid (show attR P a b = openB P a b by rw [HF.out, Bool.true_and])
        have HO := Lib.hid (HOP.out (by rw [HGD.out, Bool.or_true]))
        clear HF HOP
        go_wp2_with fail
        refine wp_load_mid 29 (.tmp 3) rfl _ 0 rfl (pc P) _ HP2.out.range Tryd.underlying29 rfl (by rw [infoPos, pc_len]) ?_
        rw [← HX.out]
        go_wp2_with fail
        refine (HO.out _).mono ?_
        rintro e w4 ⟨rfl, hb4⟩
        have HB4 := Lib.hid (HB2.out.trans (hb4.mono HB2.out.size))
        clear hb4
        go_wp2
        go_ret
        exact ⟨q_b HF2.out.symm, HB4.out⟩
    · have HF := Lib.hid (show attR P a b = ((st || sl) && openB P a b) from HKB.out)
      clear HKB hk6 h2 h3
      cases st
      · cases sl
        · have HF2 := Lib.hid (show attR P a b = false by rw [HF.out]; rfl)
          clear HF HOP
          go_wp2
          go_ret
          exact ⟨q_b HF2.out.symm, HB2.out⟩
        · have HF2 := Lib.hid (show attR P a b = openB P a b by rw [HF.out]; simp)
          have HO := Lib.hid (HOP.out (by rw [HGD.out, Bool.or_true]))
          clear HF HOP
          go_wp2_with fail
          refine wp_load_mid 29 (.tmp 3) rfl _ 0 rfl (pc P) _ HP2.out.range Tryd.underlying29 rfl (by rw [infoPos, pc_len]) ?_
          rw [← HX.out]
          go_wp2_with fail
          refine (HO.out _).mono ?_
          rintro e w4 ⟨rfl, hb4⟩
          have HB4 := Lib.hid (HB2.out.trans (hb4.mono HB2.out.size))
          clear hb4
          go_wp2
          go_ret
          exact ⟨q_b HF2.out.symm, HB4.out⟩
      · have HF2 := Lib.hid (show attR P a b = openB P a b by rw [HF.out]; simp)
        have HO := Lib.hid (HOP.out (by rw [HGD.out, Bool.true_or]))
        clear HF HOP
        go_wp2_with fail
        refine wp_load_mid 29 (.tmp 3) rfl _ 0 rfl (pc P) _ HP2.out.range Tryd.underlying29 rfl (by rw [infoPos, pc_len]) ?_
        rw [← HX.out]
        go_wp2_with fail
        refine (HO.out _).mono ?_
        rintro e w4 ⟨rfl, hb4⟩
        have HB4 := Lib.hid (HB2.out.trans (hb4.mono HB2.out.size))
        clear hb4
        go_wp2
        go_ret
        exact ⟨q_b HF2.out.symm, HB4.out⟩
  clear hK5 HKB HGD HOP HP2 HL2 HB2 HX
  have HK2 := Lib.hid HK
  clear HK
  cases hf0 : (f == 0)
  · cases hr0 : (r == 0)
    · go_wp2_with fail
      refine (abs_any f (by omega) (by omega) _).mono ?_
      rintro e w4 ⟨rfl, rfl⟩
      go_wp2_with fail
      refine (abs_any r (by omega) (by omega) _).mono ?_
      rintro e w4 ⟨rfl, rfl⟩
      go_wp2
      exact HK2.out _ _ _ _ _ _ _ _ _ _ _ _ _ (by rw [hf0, hr0]; rfl) rfl
    · go_wp2_with fail
      refine (abs_any f (by omega) (by omega) _).mono ?_
      rintro e w4 ⟨rfl, rfl⟩
      go_wp2_with fail
      refine (abs_any r (by omega) (by omega) _).mono ?_
      rintro e w4 ⟨rfl, rfl⟩
      go_wp2
      exact HK2.out _ _ _ _ _ _ _ _ _ _ _ _ _ (by rw [hf0, hr0]; rfl) rfl
  · go_wp2_with fail
    refine (abs_any f (by omega) (by omega) _).mono ?_
    rintro e w4 ⟨rfl, rfl⟩
    go_wp2_with fail
    refine (abs_any r (by omega) (by omega) _).mono ?_
    rintro e w4 ⟨rfl, rfl⟩
    go_wp2
    exact HK2.out _ _ _ _ _ _ _ _ _ _ _ _ _ (by rw [hf0]; rfl) rfl
end Go.Proofs.YtbnpphecknhpeaaDoor
