/-
  Contracts: the document's answer, where a piece goes; its moves from a square.
-/
import Derived.Test.YtjhlombbkodpaaaDoorMu
namespace Go.Proofs.YtjhlombbkodpaaaDoor
open Go.RowKit Go.Sort
set_option linter.unusedSimpArgs false
set_option linter.unusedVariables false
set_option maxRecDepth 20000

theorem goesR_1 (P : Nat → Int) (s t : Nat) (h : mayB (P (2 * s)) (P (2 * s + 1)) = false) : goesR P s t = false := by unfold goesR; rw [h]; simp
theorem goesR_2 (P : Nat → Int) (s t : Nat) (h : P (2 * s + 1) ≠ P 128) : goesR P s t = false := by unfold goesR; rw [show (P (2 * s + 1) == P 128) = false by simpa using h]; simp
theorem goesR_3 (P : Nat → Int) (s t : Nat) (h : s = t) : goesR P s t = false := by unfold goesR; rw [show (s == t) = true by simpa using h]; simp
theorem goesR_4 (P : Nat → Int) (s t : Nat) (h1 : mayB (P (2 * s)) (P (2 * s + 1)) = true) (h2 : P (2 * s + 1) = P 128) (h3 : s ≠ t) (h4 : P (2 * s) = 1) : goesR P s t = pawnR P s t := by
  unfold goesR; rw [h1, show (P (2 * s + 1) == P 128) = true by simpa using h2, show (s == t) = false by simpa using h3, if_pos (show (true && true && !false) = true from rfl), if_pos h4]
theorem goesR_5 (P : Nat → Int) (s t : Nat) (h1 : mayB (P (2 * s)) (P (2 * s + 1)) = true) (h2 : P (2 * s + 1) = P 128) (h3 : s ≠ t) (h4 : P (2 * s) ≠ 1) : goesR P s t = ((attR P s t && (emB P t || !(P (2 * t + 1) == P (2 * s + 1)))) || ((P (2 * s) == 6) && castleR P s t)) := by
  unfold goesR; rw [h1, show (P (2 * s + 1) == P 128) = true by simpa using h2, show (s == t) = false by simpa using h3, if_pos (show (true && true && !false) = true from rfl), if_neg h4]
set_option maxHeartbeats 8000000 in
set_option maxRecDepth 100000 in
theorem rGoes_any (P : Nat → Int) (s t : Nat) (hs : s < 64) (ht : t < 64) (w : World) :
    Calls Tryd.prog 24 #[.agg (pc P).toArray, .int .i64 (s : Int), .int .i64 (t : Int)] w fun e w' => e = .returned (.bool (goesR P s t)) ∧ Below w.heap.size w w' := by
  obtain ⟨X, hX⟩ : ∃ X, X = (pc P).toArray := ⟨_, rfl⟩
  have MP := Lib.hid (fun W => rPawn_any P s t hs ht W)
  have MC' := Lib.hid (fun W => rCastle_any P s t hs ht W)
  rw [← hX] at MP MC' ⊢
  have HP := Lib.hid (show PB (w.alloc (.cells X 29)) w.heap.size P by subst hX; exact PB.new rfl)
  have HB := Lib.hid (below_new (w := w) (.cells X 29))
  have HX := Lib.hid hX
  have s0 : (0 : Int) ≤ s := by omega
  have s1 : (s : Int) < 64 := by omega
  have t0 : (0 : Int) ≤ t := by omega
  have t1 : (t : Int) < 64 := by omega
  have e1 := HP.out.cell (s * 2) (by omega)
  have e2 := HP.out.cell (s * 2 + 1) (by omega)
  have H1 := Lib.hid (goesR_1 P s t)
  have H2 := Lib.hid (goesR_2 P s t)
  have H3 := Lib.hid (goesR_3 P s t)
  have H4 := Lib.hid (goesR_4 P s t)
  have h5' := goesR_5 P s t
  rw [Nat.mul_comm 2 s] at H1 H2 H4 h5'
  rw [emB_at, Nat.mul_comm 2 t] at h5'
  have H5 := Lib.hid h5'
  obtain ⟨av, hav⟩ : ∃ b, attR P s t = b := ⟨_, rfl⟩
  have MA := Lib.hid (att_reg P X HX.out s t hs ht av hav)
  obtain ⟨cv, hcv⟩ : ∃ b, castleR P s t = b := ⟨_, rfl⟩
  obtain ⟨kk, hkk⟩ : ∃ x, P (s * 2) = x := ⟨_, rfl⟩
  obtain ⟨dd, hdd⟩ : ∃ x, P (s * 2 + 1) = x := ⟨_, rfl⟩
  obtain ⟨sd, hsd⟩ : ∃ x, P 128 = x := ⟨_, rfl⟩
  rw [hkk] at e1 H1 H4
  rw [hdd] at e2 H1 H2 H4
  rw [hsd] at H2 H4
  replace H5 := Lib.hid H5.out
  rw [hkk, hdd, hsd, hav, hcv] at H5
  rw [hcv] at MC'
  obtain ⟨V, hV⟩ : ∃ V, goesR P s t = V := ⟨_, rfl⟩
  rw [hV] at H1 H2 H3 H4 H5 ⊢
  have HT := Lib.hid (And.intro hs ht)
  have HSD := Lib.hid hsd
  clear hX hV hav hcv hkk hdd hsd h5' hs ht
  go_enter Tryd.func24, Tryd.ntmps24
  go_upto_region 1 with (fail)
  generalize w.alloc (.cells X 29) = W at *
  go_upto_region 2 with (fail)
  have HI := Lib.hid (show MX w w.heap.size W.heap.size P kk dd (W.alloc (.cells #[.int .i64 kk, .int .i64 dd] 25)) from ⟨HP.out.go (below_new _), sl_at rfl, HB.out.trans ((below_new _).mono HB.out.size)⟩)
  generalize W.alloc (.cells #[.int .i64 kk, .int .i64 dd] 25) = W2 at *
  generalize W.heap.size = xb at *
  clear HP HB e1 e2
  obtain ⟨x1, x2, xf, xz⟩ := row2 HI.out.x
  obtain ⟨mb, hmb⟩ : ∃ m, mayB kk dd = m := ⟨_, rfl⟩
  have MM := Lib.hid (fun W => rMay_any kk dd W)
  rw [hmb] at H1 H4 H5 MM
  clear hmb
  go_wp2_with fail
  refine (MM.out _).mono ?_
  rintro e w1 ⟨rfl, hb1⟩
  replace HI := Lib.hid (HI.out.go hb1)
  clear x1 x2 xf xz hb1 MM
  obtain ⟨x1, x2, xf, xz⟩ := row2 HI.out.x
  have e8 := HI.out.p.cell 128 (by omega)
  rw [HSD.out] at e8
  cases mb
  case false =>
    have HV := Lib.hid (H1.out rfl)
    clear H1 H2 H3 H4 H5
    go_wp2
    go_ret
    exact ⟨q_b HV.out.symm, HI.out.b⟩
  by_cases hd : dd = sd
  case neg =>
    have hd2 : (dd == sd) = false := by simp [hd]
    have hd3 : (dd != sd) = true := by simp [hd]
    have HV := Lib.hid (H2.out hd)
    go_wp2
    go_ret
    exact ⟨q_b HV.out.symm, HI.out.b⟩
  subst hd
  by_cases hst : s = t
  case pos =>
    have hst2 : ((s : Int) == (t : Int)) = true := by simp [hst]
    have HV := Lib.hid (H3.out hst)
    clear H1 H2 H3 H4 H5 hst
    go_wp2
    go_ret
    exact ⟨q_b HV.out.symm, HI.out.b⟩
  have hst2 : ((s : Int) == (t : Int)) = false := by simp; omega
  replace H4 := Lib.hid (H4.out rfl rfl hst)
  replace H5 := Lib.hid (H5.out rfl rfl hst)
  clear H1 H2 H3 hst
  by_cases hk : kk = 1
  case pos =>
    have HV := Lib.hid (H4.out hk)
    subst hk
    clear H4 H5
    go_wp2_with (refine wpList_pos (by rfl) _ (by rfl) w.heap.size P X HX.out (by rfl) HI.out.p ?_)
    refine (MP.out _).mono ?_
    rw [← HV.out]
    rintro e w2 ⟨rfl, hbb⟩
    replace HI := Lib.hid (HI.out.go hbb)
    clear hbb
    go_wp2
    go_ret
    exact ⟨rfl, HI.out.b⟩
  have hk2 : (kk == 1) = false := by simp [hk]
  replace H5 := Lib.hid (H5.out hk)
  clear H4 hk
  have e1 := HI.out.p.cell (t * 2) (by have := HT.out; omega)
  have e2 := HI.out.p.cell (t * 2 + 1) (by have := HT.out; omega)
  obtain ⟨tk, htk⟩ : ∃ x, P (t * 2) = x := ⟨_, rfl⟩
  obtain ⟨td', htd⟩ : ∃ x, P (t * 2 + 1) = x := ⟨_, rfl⟩
  rw [htk] at e1 H5
  rw [htd] at e2 H5
  obtain ⟨em, hem⟩ : ∃ b, pe tk td' 0 0 = b := ⟨_, rfl⟩
  rw [hem] at H5
  go_upto_region 7 with (fail)
  have HI2 := Lib.hid (HI.out.go (below_new (w := w1) (.cells #[.int .i64 tk, .int .i64 td'] 25)))
  have HY := Lib.hid (show (w1.alloc (.cells #[.int .i64 tk, .int .i64 td'] 25)).heap[w1.heap.size]? = some (.cells #[.int .i64 tk, .int .i64 td'] 25 (0, 0)) from sl_at rfl)
  generalize w1.alloc (.cells #[.int .i64 tk, .int .i64 td'] 25) = W3 at *
  generalize w1.heap.size = yb at *
  clear e1 e2 HI e8 htk htd x1 x2 xf xz
  obtain ⟨c7, hc7⟩ : ∃ b : Bool, (av && (em || !(td' == dd))) = b := ⟨_, rfl⟩
  rw [hc7] at H5
  go_cut [54] from 39 to 54 (fun v wx => v = .bool c7 ∧ MX w w.heap.size xb P kk dd wx)
  case first =>
    go_wp2_with (refine wpList_pos (by rfl) _ (by rfl) w.heap.size P X HX.out (by rfl) HI2.out.p ?_)
    refine (MA.out _).mono ?_
    rintro e w2 ⟨rfl, hbb⟩
    replace HI2 := Lib.hid (HI2.out.go hbb)
    replace HY := Lib.hid (sl_go HY.out hbb)
    clear hbb MA
    obtain ⟨y1, y2, _, _⟩ := row2 HY.out
    obtain ⟨x1, x2, _, _⟩ := row2 HI2.out.x
    have HC := Lib.hid hc7
    clear hc7
    cases av
    · go_wp2_with fail
      go_meet
      exact ⟨by rw [← HC.out]; rfl, HI2.out⟩
    cases em
    · have hne : (td' != dd) = !(td' == dd) := rfl
      go_wp2_with fail
      go_meet
      exact ⟨by rw [← HC.out]; rfl, HI2.out⟩
    · go_wp2_with fail
      go_meet
      exact ⟨by rw [← HC.out]; rfl, HI2.out⟩
  case rest =>
  obtain ⟨rfl, h1⟩ := hcut
  have HI := Lib.hid h1
  clear h1 HI2 HY hc7 hem
  obtain ⟨x1, x2, _, _⟩ := row2 HI.out.x
  cases c7
  case true =>
    go_wp2
    go_ret
    exact ⟨q_b (by rw [H5.out]; rfl), HI.out.b⟩
  by_cases h6 : kk = 6
  · subst h6
    go_wp2_with (refine wpList_pos (by rfl) _ (by rfl) w.heap.size P X HX.out (by rfl) HI.out.p ?_)
    refine (MC'.out _).mono ?_
    rintro e w2 ⟨rfl, hbb⟩
    replace HI := Lib.hid (HI.out.go hbb)
    clear hbb
    go_wp2
    go_ret
    exact ⟨q_b (by rw [H5.out]; simp), HI.out.b⟩
  · have h62 : (kk == 6) = false := by simp [h6]
    go_wp2
    go_ret
    exact ⟨q_b (by rw [H5.out, h62]; simp), HI.out.b⟩
set_option maxHeartbeats 1000000 in
theorem rLess_any (f t k f' t' k' : Int) (w : World) :
    Calls Tryd.prog 13 #[.agg #[.int .i64 f, .int .i64 t, .int .i64 k], .agg #[.int .i64 f', .int .i64 t', .int .i64 k']] w fun e w' => e = .returned (.bool (lessV f t k f' t' k')) ∧ Below w.heap.size w w' := by
  go_enter Tryd.func13, Tryd.ntmps13
  by_cases h1 : f = f'
  · subst h1
    by_cases h2 : t = t'
    · subst h2
      go_wp2
      go_ret
      exact ⟨q_b (by unfold lessV; rw [if_pos rfl, if_pos rfl]), ((Below.refl _ _).alloc (Nat.le_refl _) _).alloc (by simp) _⟩
    · have e1 : (t == t') = false := by simp [h2]
      go_wp2
      go_ret
      exact ⟨q_b (by unfold lessV; rw [if_pos rfl, if_neg h2]), ((Below.refl _ _).alloc (Nat.le_refl _) _).alloc (by simp) _⟩
  · have e1 : (f == f') = false := by simp [h1]
    go_wp2
    go_ret
    exact ⟨q_b (by unfold lessV; rw [if_neg h1]), ((Below.refl _ _).alloc (Nat.le_refl _) _).alloc (by simp) _⟩
end Go.Proofs.YtjhlombbkodpaaaDoor
