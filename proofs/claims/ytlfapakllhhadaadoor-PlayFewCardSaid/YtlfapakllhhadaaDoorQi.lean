/-
  The law PlayFew: its walk.
-/
import Derived.Test.YtlfapakllhhadaaDoorQh
import Derived.Deep.CutRange
import Derived.Deep.CutBlock
namespace Go.Proofs.YtlfapakllhhadaaDoor
open Go.RowKit Go.Sort
set_option linter.unusedSimpArgs false
set_option linter.unusedVariables false
set_option maxRecDepth 20000

theorem TQ.two {B : Nat} {w W : World} {bs : List (Nat × (Nat → Int))} {os : List (Nat × Obj)} (h : TQ B w W bs os) (c1 c2 : Array Value) (t1 t2 : TypeId) :
    TQ B w ((W.alloc (.cells c1 t1)).alloc (.cells c2 t2)).drew bs ((W.heap.size, .cells c1 t1 (0, 0)) :: (W.heap.size + 1, .cells c2 t2 (0, 0)) :: os) := by
  obtain ⟨a1, a2, a3, a4⟩ := two_at W (.cells c1 t1) (.cells c2 t2)
  have h2 := h.go a3.drew
  exact (h2.addO (H := W.heap.size + 1) (O := .cells c2 t2 (0, 0)) (by rw [heap_drew]; exact a2)).addO (by rw [heap_drew]; exact a1)
theorem TQ.swap {B : Nat} {w W : World} {bs : List (Nat × (Nat → Int))} {os : List (Nat × Obj)} {x y : Nat × Obj} (h : TQ B w W bs (x :: y :: os)) : TQ B w W bs (y :: x :: os) :=
  ⟨h.p, fun z hz => h.o z (by
    rcases List.mem_cons.1 hz with rfl | hz
    · simp
    · rcases List.mem_cons.1 hz with rfl | hz
      · simp
      · exact List.mem_cons_of_mem _ (List.mem_cons_of_mem _ hz)), h.g, h.c, h.b, h.s⟩
theorem flt_pawn (P : Nat → Int) (f t : Nat) (k : Int) (h : fltN P f t k = 0) (hk : k ≠ 0) : P (2 * f) = 1 ∧ 2 ≤ k := by
  unfold fltN at h
  split at h
  · cases h
  · split at h
    · rename_i hx
      simp only [Int.toNat_natCast, Bool.and_eq_true] at hx
      obtain ⟨h1, h2⟩ := hx
      unfold becB at h2
      split at h2
      · rename_i h3
        simp only [Bool.and_eq_true, decide_eq_true_eq] at h2 h3
        unfold pwnB at h3
        exact ⟨by simpa using h3.1, h2.1⟩
      · exact absurd (by simpa using h2) hk
    · cases h
theorem wr_nat (c : Nat) (h : c < 64) : wrap64 ((c : Int) + 1) = ((c + 1 : Nat) : Int) := by unfold wrap64; omega
set_option maxHeartbeats 8000000 in
set_option maxRecDepth 100000 in
theorem few_play (P : Nat → Int) (a1 a2 a3 : Int) (w : World) (B : Nat) (hg : GB B w) (hc : GP B w) (hB : B ≤ w.heap.size) :
    Calls Tryd.prog 5 #[.agg (pc P).toArray, .int .i64 a1, .int .i64 a2, .int .i64 a3] w fun e w' => e = .returned (.bool true) ∧ Below w.heap.size w w' := by
  obtain ⟨X, hX⟩ : ∃ X, X = (pc P).toArray := ⟨_, rfl⟩
  have HI := Lib.hid (TQ.begin P X hX hg hc hB)
  have MR := Lib.hid (fun W h1 h2 => right_any P W B h1 h2)
  have MM := Lib.hid (made_any P a1 a2 a3)
  rw [← hX] at MR MM ⊢
  obtain ⟨fn, hf, ef⟩ := mdF_sq P a1
  obtain ⟨tn, ht, et⟩ := mdT_sq P a2
  obtain ⟨kb, hkb⟩ : ∃ k, mdB P (mdF P a1) (mdT P a2) a3 = k := ⟨_, rfl⟩
  rw [hkb, ef, et] at MM
  have hkb2 : mdB P (fn : Int) (tn : Int) a3 = kb := by rw [← hkb, ef, et]
  have MV := Lib.hid (fun W h1 h2 => move_any P (fn : Int) (tn : Int) kb W B h1 h2)
  have MK := Lib.hid (takesP_any P (fn : Int) (tn : Int) kb)
  have HRH := Lib.hid (show rightB P = true → handP P = P from right_hand P)
  have HERR := Lib.hid (show rightB P = true → fltN P (fn : Int) (tn : Int) kb ≠ 0 → (fltN P (fn : Int) (tn : Int) kb = 6 ∧ fn = tn) ∨ (fltN P (fn : Int) (tn : Int) kb = 8 ∧ P (2 * fn) = 1) from fun h h0 => by rw [← hkb2] at h0 ⊢; exact md_flt P h a1 a2 a3 fn tn hf ht ef et h0)
  have HFEW := Lib.hid (fun h h0 hn => mv_few P h fn tn kb hf ht h0 hn)
  have HQK := Lib.hid (fun h h0 hn => mv_k P h fn tn kb hf ht h0 hn)
  have HQD := Lib.hid (fun h h0 hn => mv_d P h fn tn kb hf ht h0 hn)
  have HRE := Lib.hid (fun h h0 => mv_rest P h fn tn kb hf ht h0)
  have HOF := Lib.hid (flt_of P fn tn kb)
  have HPW := Lib.hid (flt_pawn P fn tn kb)
  have HNE := Lib.hid (flt_ne P fn tn kb)
  have HTC := Lib.hid (tks_cases P fn tn hf ht)
  have HBC := Lib.hid (right_cnt P)
  clear hkb2 hkb
  obtain ⟨q, hq⟩ : ∃ q, mvP P (fn : Int) (tn : Int) kb = q := ⟨_, rfl⟩
  obtain ⟨Z, hZ⟩ : ∃ Z, Z = (pc q).toArray := ⟨_, rfl⟩
  rw [← hX] at MV MK
  rw [hq, ← hZ] at MV
  rw [hq] at HFEW HQK HQD HRE
  have HX := Lib.hid hX
  have HZ := Lib.hid hZ
  have HF := Lib.hid hf
  have HTN := Lib.hid ht
  clear hX hZ hq ef et hg hc hB
  go_enter Tryd.func5, Tryd.ntmps5
  go_upto_region 1 with (fail)
  refine forget_B (fun W => TQ B w W [(w.heap.size, P)] []) HI.out ?_
  clear HI
  intro W hi
  have HI := Lib.hid hi
  clear hi
  go_wp2_with fail
  refine (awakeP_any _ B HI.out.c HI.out.s).mono ?_
  rintro e w1 ⟨rfl, hb⟩
  replace HI := Lib.hid (HI.out.go hb)
  clear hb
  go_wp2_with (refine wpList_pos (by rfl) _ (by rfl) w.heap.size P X HX.out (by rfl) HI.out.at0 ?_)
  refine (MR.out _ HI.out.g HI.out.s).mono ?_
  obtain ⟨rb, hrb⟩ : ∃ b, rightB P = b := ⟨_, rfl⟩
  rw [hrb]
  rintro e w3 ⟨rfl, hb⟩
  replace HI := Lib.hid (HI.out.go hb)
  clear hb
  cases rb
  · go_wp2
    go_ret
    exact ⟨rfl, HI.out.b⟩
  replace HRH := Lib.hid (HRH.out hrb)
  rw [HRH.out] at MV
  have htk0 : fltN P (fn : Int) (tn : Int) kb = 0 → tkP P (fn : Int) (tn : Int) kb = tksN P fn tn := fun h => by unfold tkP; rw [HRH.out, if_pos h]; rfl
  have HTK0 := Lib.hid htk0
  replace HERR := Lib.hid (HERR.out hrb)
  replace HFEW := Lib.hid (HFEW.out hrb)
  replace HQK := Lib.hid (HQK.out hrb)
  replace HQD := Lib.hid (HQD.out hrb)
  replace HRE := Lib.hid (HRE.out hrb)
  replace HBC := Lib.hid (HBC.out hrb)
  clear hrb HRH htk0
  obtain ⟨er, her⟩ : ∃ e, fltN P (fn : Int) (tn : Int) kb = e := ⟨_, rfl⟩
  rw [her] at MV HTK0 HERR HFEW HQK HQD HRE HOF HNE HPW
  clear her
  go_wp2_with (refine wpList_pos (by rfl) _ (by rfl) w.heap.size P X HX.out (by rfl) HI.out.at0 ?_)
  refine (MM.out _).mono ?_
  unfold mvV
  rintro e w5 ⟨rfl, hb⟩
  replace HI := Lib.hid (HI.out.go hb)
  clear hb
  go_upto_region 6 with (fail)
  replace HI := Lib.hid ((HI.out.go (below_new (w := w5) (.cells #[.int .i64 (fn : Int), .int .i64 (tn : Int), .int .i64 kb] 34))).addO (H := w5.heap.size) (O := .cells #[.int .i64 (fn : Int), .int .i64 (tn : Int), .int .i64 kb] 34 (0, 0)) (sl_at rfl))
  generalize w5.heap.size = mb at HI ⊢
  generalize w5.alloc (.cells #[.int .i64 (fn : Int), .int .i64 (tn : Int), .int .i64 kb] 34) = w6 at HI ⊢
  obtain ⟨m0, m1, m2, mf, _⟩ := row3 HI.out.ob0
  go_wp2_with (refine wpList_pos (by rfl) _ (by rfl) w.heap.size P X HX.out (by rfl) HI.out.at0 ?_)
  refine (MV.out _ HI.out.c HI.out.s).mono ?_
  rintro e w7 ⟨rfl, hb⟩
  replace HI := Lib.hid (HI.out.go hb)
  clear hb m0 m1 m2 mf
  go_wp2_with (refine wpList_new Z q HZ.out (by rfl) (by rfl) ?_)
  intro W8 hp8 hb hz
  replace HI := Lib.hid ((HI.out.go hb).addP hp8)
  clear hb hz hp8
  generalize w7.heap.size = qb at HI ⊢
  obtain ⟨m0, m1, m2, mf, _⟩ := row3 HI.out.ob0
  have f0 : (0 : Int) ≤ (fn : Int) := by omega
  have f1 : (fn : Int) < 64 := by omega
  have t0 : (0 : Int) ≤ (tn : Int) := by omega
  have t1 : (tn : Int) < 64 := by omega
  have x0 := HI.out.at1.cell (fn * 2) (by have := HF.out; omega)
  dsimp only at x0
  obtain ⟨kx, hkx⟩ : ∃ k, P (fn * 2) = k := ⟨_, rfl⟩
  have hkx2 : P (2 * fn) = kx := by rw [Nat.mul_comm]; exact hkx
  rw [hkx] at x0
  by_cases h0 : er = 0
  · subst h0
    have HOF2 := Lib.hid (HOF.out rfl)
    have HRE2 := Lib.hid (HRE.out rfl)
    have HTK := Lib.hid (HTK0.out rfl)
    rw [HTK.out] at MK
    have HNE2 := Lib.hid (HNE.out rfl)
    have HPW2 := Lib.hid (HPW.out rfl)
    rw [hkx2] at HOF2 HRE2 HPW2
    by_cases hn : P (2 * fn) = 6 ∧ ((tn : Int) - fn = 2 ∨ (fn : Int) - tn = 2)
    · rw [hkx2] at hn
      obtain ⟨rfl, hn⟩ := hn
      clear HFEW HQK HQD HRE HERR HOF HTK0 HNE HRE2 HOF2 HNE2 HPW HPW2
      rcases hn with hn | hn
      · have hw : IntKind.i64.wrap ((tn : Int) - fn) = 2 := by rw [hn]; exact IntWalk.i64_in _ (by omega)
        go_wp2
        go_ret
        exact ⟨rfl, HI.out.b⟩
      · have hw : IntKind.i64.wrap ((tn : Int) - fn) = -2 := by rw [show (tn : Int) - fn = -2 by omega]; exact IntWalk.i64_in _ (by omega)
        have hw2 : IntKind.i64.wrap ((fn : Int) - tn) = 2 := by rw [hn]; exact IntWalk.i64_in _ (by omega)
        go_wp2
        go_ret
        exact ⟨rfl, HI.out.b⟩
    · have HFE := Lib.hid (HFEW.out rfl hn)
      have HK2 := Lib.hid (HQK.out rfl hn)
      have HD2 := Lib.hid (HQD.out rfl hn)
      rw [hkx2] at hn HFE HK2
      clear HFEW HQK HQD HRE HERR HOF HTK0 HNE HPW
      go_upto_region 9 with (fail)
      go_cut [82] from 60 to 222 (fun v wx => v = .bool false ∧ TQ B w wx [(qb, q), (w.heap.size, P)] [(mb, .cells #[.int .i64 (fn : Int), .int .i64 (tn : Int), .int .i64 kb] 34 (0, 0))])
      case first =>
        by_cases h6 : kx = 6
        · subst h6
          have hn2 : ¬ (tn : Int) - fn = 2 ∧ ¬ (fn : Int) - tn = 2 := ⟨fun h => hn ⟨rfl, .inl h⟩, fun h => hn ⟨rfl, .inr h⟩⟩
          have g1 : IntKind.i64.wrap ((tn : Int) - fn) = (tn : Int) - fn := IntWalk.i64_in _ (by omega)
          have g2 : IntKind.i64.wrap ((fn : Int) - tn) = (fn : Int) - tn := IntWalk.i64_in _ (by omega)
          have g3 : ((tn : Int) - fn == 2) = false := by simp; omega
          have g4 : ((fn : Int) - tn == 2) = false := by simp; omega
          go_wp2
          go_meet
          exact ⟨rfl, HI.out⟩
        · have h6' : (kx == 6) = false := by simp [h6]
          go_wp2
          go_meet
          exact ⟨rfl, HI.out⟩
      case rest =>
      obtain ⟨rfl, hi⟩ := hcut
      have HI := Lib.hid hi
      clear hi m0 m1 m2 mf x0
      obtain ⟨cd, hcd⟩ : ∃ c, c = cf (diB P q) := ⟨_, rfl⟩
      obtain ⟨ck, hck⟩ : ∃ c, c = cf (knB P) := ⟨_, rfl⟩
      obtain ⟨cl, hcl⟩ : ∃ c, c = cf (knB q) := ⟨_, rfl⟩
      rw [← hcd, ← hck, ← hcl] at HFE
      have HCD := Lib.hid (show ∀ j, cd (j + 1) = cd j + (if !pe (P (j * 2)) (P (j * 2 + 1)) (q (j * 2)) (q (j * 2 + 1)) then 1 else 0) from fun j => by rw [hcd]; simp only [cf, diB, Nat.mul_comm 2 j])
      have HCK := Lib.hid (show ∀ j, ck (j + 1) = ck j + (if P (j * 2) != 0 then 1 else 0) from fun j => by rw [hck]; simp only [cf, knB, Nat.mul_comm 2 j])
      have HCL := Lib.hid (show ∀ j, cl (j + 1) = cl j + (if q (j * 2) != 0 then 1 else 0) from fun j => by rw [hcl]; simp only [cf, knB, Nat.mul_comm 2 j])
      have HLE := Lib.hid (show ∀ j, cd j ≤ j ∧ ck j ≤ j ∧ cl j ≤ j from fun j => by rw [hcd, hck, hcl]; exact ⟨cf_le _ _, cf_le _ _, cf_le _ _⟩)
      have HC0 := Lib.hid (show cd 0 = 0 ∧ ck 0 = 0 ∧ cl 0 = 0 by rw [hcd, hck, hcl]; exact ⟨rfl, rfl, rfl⟩)
      clear hcd hck hcl
      go_wp2
      go_loopw [12, 13, 14, 15] (fun o m l i wr => ∃ j : Nat, j ≤ 64 ∧ o = .int .i64 (cd j : Nat) ∧ m = .int .i64 (ck j : Nat) ∧ l = .int .i64 (cl j : Nat) ∧ i = .int .i64 (j : Int) ∧ TQ B w wr [(qb, q), (w.heap.size, P)] [(mb, .cells #[.int .i64 (fn : Int), .int .i64 (tn : Int), .int .i64 kb] 34 (0, 0))]) (fun o m l i _ => 64 - (intOf i).toNat)
      case atStart => exact ⟨0, Nat.zero_le _, by rw [HC0.out.1]; rfl, by rw [HC0.out.2.1]; rfl, by rw [HC0.out.2.2]; rfl, rfl, HI.out⟩
      case round =>
        clear HI
        obtain ⟨j, hj, rfl, rfl, rfl, rfl, h1⟩ := hrel
        have HI := Lib.hid h1
        clear h1
        by_cases hlt : j < 64
        · have e1 := cell_regrown (HI.out.at1.cell (j * 2) (by omega))
          have e2 := cell_regrown (HI.out.at1.cell (j * 2 + 1) (by omega))
          have e3 := cell_regrown (HI.out.at0.cell (j * 2) (by omega))
          have e4 := cell_regrown (HI.out.at0.cell (j * 2 + 1) (by omega))
          dsimp only at e1 e2 e3 e4
          have i0 : (0 : Int) ≤ (j : Int) := by omega
          have i1 : (j : Int) < 64 := by omega
          have n1 := HCD.out j
          have n2 := HCK.out j
          have n3 := HCL.out j
          obtain ⟨l1, l2, l3⟩ := HLE.out j
          have y1 := HI.out.at1.cell (j * 2) (by omega)
          have y2 := HI.out.at0.cell (j * 2) (by omega)
          clear y1 y2
          generalize P (j * 2) = k1 at *
          generalize P (j * 2 + 1) = d1 at *
          generalize q (j * 2) = k2 at *
          generalize q (j * 2 + 1) = d2 at *
          have E1 := Lib.hid e1
          have E3 := Lib.hid e3
          have HL1 := Lib.hid l1
          have HL2 := Lib.hid l2
          have HL3 := Lib.hid l3
          have HLT := Lib.hid hlt
          obtain ⟨b0, hb0⟩ : ∃ b, (k1 == k2 && d1 == d2) = b := ⟨_, rfl⟩
          obtain ⟨b1, hb1⟩ : ∃ b, (k1 == 0) = b := ⟨_, rfl⟩
          obtain ⟨b2, hb2⟩ : ∃ b, (k2 == 0) = b := ⟨_, rfl⟩
          have hb1' : (k1 != 0) = !b1 := by rw [← hb1]; rfl
          have hb2' : (k2 != 0) = !b2 := by rw [← hb2]; rfl
          have hpe : pe k1 d1 k2 d2 = b0 := hb0
          rw [hpe] at n1
          rw [hb1'] at n2
          rw [hb2'] at n3
          clear hb0
          have N1 := Lib.hid n1
          have N2 := Lib.hid n2
          have N3 := Lib.hid n3
          clear n1 n2 n3 l1 l2 l3 hlt hj
          go_upto_region 15 with (fail)
          refine wp_region_quiet_below (by kernel_rfl) (by kernel_rfl) ?_
          repeat (first | go_big_quiet_step (fail) | quiet_step (fail))
          refine wpQuiet_nil ?_
          rintro W4 ⟨p, rfl⟩
          replace HI := Lib.hid (HI.out.go (below_regrown wr p.d p.os))
          replace e1 := E1.out p.d p.os
          replace e3 := E3.out p.d p.os
          clear e2 e4 E1 E3
          generalize grow (redrawn wr p.d) p.os = W4 at HI e1 e3 ⊢
          have HB1 := Lib.hid (show cd j < 64 ∧ ck j < 64 ∧ cl j < 64 by have := HL1.out; have := HL2.out; have := HL3.out; have := HLT.out; omega)
          clear HL1 HL2 HL3
          cases b0 <;> cases b1 <;> cases b2
          all_goals simp only [Bool.not_true, Bool.not_false, if_true, if_false, Bool.false_eq_true, Nat.add_zero] at N1 N2 N3
          all_goals
            go_wp2
            go_roundw
            case rel => exact ⟨j + 1, by have := HLT.out; omega, by first | (rw [N1.out]; done) | (rw [N1.out]; rw [wr_nat _ (by have := HB1.out; omega)]), by first | (rw [N2.out]; done) | (rw [N2.out]; rw [wr_nat _ (by have := HB1.out; omega)]), by first | (rw [N3.out]; done) | (rw [N3.out]; rw [wr_nat _ (by have := HB1.out; omega)]), by have := HLT.out; go_num, HI.out⟩
            case measure => have := HLT.out; simp [intOf]; omega
        · obtain rfl : j = 64 := by omega
          rw [show ((64 : Nat) : Int) = 64 from rfl]
          obtain ⟨F1, F2, F3, F4⟩ := HFE.out
          obtain ⟨o, ho⟩ : ∃ o, cd 64 = o := ⟨_, rfl⟩
          obtain ⟨m, hm⟩ : ∃ o, ck 64 = o := ⟨_, rfl⟩
          obtain ⟨l, hl⟩ : ∃ o, cl 64 = o := ⟨_, rfl⟩
          have hl64 := (HLE.out 64)
          rw [ho] at F1 F2 F3 hl64 ⊢
          rw [hm, hl] at F4 hl64 ⊢
          obtain ⟨tk, htk⟩ : ∃ x, tksN P fn tn = x := ⟨_, rfl⟩
          have HRR := Lib.hid HRE2.out
          have HTC2 := Lib.hid HTC.out
          have HKK := Lib.hid HK2.out
          have HDD := Lib.hid HD2.out
          rw [htk] at MK F4 HRR HTC2 HKK HDD
          have HFF := Lib.hid (And.intro F1 (And.intro F2 (And.intro F3 (And.intro F4 hl64))))
          clear F1 F2 F3 F4 hl64 ho hm hl HFE HCD HCK HCL HLE HC0 htk HTK HRE2 HTC HK2 HD2 hj hlt
          obtain ⟨m0, m1, m2, mf, _⟩ := row3 HI.out.ob0
          go_wp2_with (refine wpList_pos (by rfl) _ (by rfl) w.heap.size P X HX.out (by rfl) HI.out.at1 ?_)
          refine (MK.out _).mono ?_
          rintro e w22 ⟨rfl, hb⟩
          replace HI := Lib.hid (HI.out.go hb)
          clear hb m0 m1 m2 mf
          go_upto_if 117 with (fail)
          go_cut [16] from 118 to 222 (fun v wx => v = .int .i64 (if tk = -1 then 0 else 1) ∧ TQ B w wx [(qb, q), (w.heap.size, P)] [(mb, .cells #[.int .i64 (fn : Int), .int .i64 (tn : Int), .int .i64 kb] 34 (0, 0))])
          case first =>
            rcases HTC2.out with rfl | ⟨nn, rfl, hnn⟩
            · go_wp2
              go_meet
              exact ⟨rfl, HI.out⟩
            · have nn0 : (0 : Int) ≤ (nn : Int) := by omega
              have nn1 : ¬ (nn : Int) = -1 := by omega
              go_wp2
              go_meet
              exact ⟨by rw [if_neg nn1], HI.out⟩
          case rest =>
          obtain ⟨rfl, hi⟩ := hcut
          have HI := Lib.hid hi
          clear hi
          obtain ⟨tv, htv⟩ : ∃ v : Int, (if tk = -1 then 0 else 1) = v := ⟨_, rfl⟩
          have HTV := Lib.hid (show (tk = -1 ∧ tv = 0) ∨ (tk ≠ -1 ∧ tv = 1) by
            rw [← htv]; by_cases e : tk = -1
            · exact .inl ⟨e, if_pos e⟩
            · exact .inr ⟨e, if_neg e⟩)
          rw [htv]
          clear htv
          have qk := HKK.out tn HTN.out
          have qd := HDD.out tn HTN.out
          have fk := HKK.out fn HF.out
          have fd := HDD.out fn HF.out
          rw [if_pos rfl] at qk qd
          have HNE3 := Lib.hid HNE2.out
          rw [if_neg HNE3.out, if_pos rfl] at fk fd
          have HKN := Lib.hid (show (q (2 * tn) ≠ kx ↔ kb ≠ 0) by
            rw [qk]
            by_cases e : kb = 0
            · rw [e]; simp
            · rw [if_neg (by simpa using e)]
              refine ⟨fun _ => e, fun _ h => ?_⟩
              obtain ⟨g1, g2⟩ := HPW2.out e
              omega)
          rw [Nat.mul_comm 2 tn] at qd HKN
          rw [Nat.mul_comm 2 fn] at qd fk fd
          obtain ⟨dx, hdx⟩ : ∃ d, P (fn * 2 + 1) = d := ⟨_, rfl⟩
          obtain ⟨ky, hky⟩ : ∃ d, q (tn * 2) = d := ⟨_, rfl⟩
          rw [hky] at HKN
          rw [hdx] at qd
          have HE1 := Lib.hid (show ∀ W, PB W w.heap.size P → W.cell? ⟨w.heap.size, fn * 2, none⟩ = some (.int .i64 kx) ∧ W.cell? ⟨w.heap.size, fn * 2 + 1, none⟩ = some (.int .i64 dx) from fun W h => by
            have e1 := h.cell (fn * 2) (by have := HF.out; omega)
            have e2 := h.cell (fn * 2 + 1) (by have := HF.out; omega)
            rw [hkx] at e1
            rw [hdx] at e2
            exact ⟨e1, e2⟩)
          have HE2 := Lib.hid (show ∀ W, PB W qb q → (W.cell? ⟨qb, tn * 2, none⟩ = some (.int .i64 ky) ∧ W.cell? ⟨qb, tn * 2 + 1, none⟩ = some (.int .i64 dx)) ∧ W.cell? ⟨qb, fn * 2, none⟩ = some (.int .i64 0) ∧ W.cell? ⟨qb, fn * 2 + 1, none⟩ = some (.int .i64 0) from fun W h => by
            have e1 := h.cell (tn * 2) (by have := HTN.out; omega)
            have e2 := h.cell (tn * 2 + 1) (by have := HTN.out; omega)
            have e3 := h.cell (fn * 2) (by have := HF.out; omega)
            have e4 := h.cell (fn * 2 + 1) (by have := HF.out; omega)
            rw [hky] at e1
            rw [qd] at e2
            rw [fk] at e3
            rw [fd] at e4
            exact ⟨⟨e1, e2⟩, e3, e4⟩)
          clear qk qd fk fd hdx hky hkx HKK HDD HTC2
          obtain ⟨m0, m1, m2, mf, _⟩ := row3 HI.out.ob0
          obtain ⟨c1, c2⟩ := HE1.out _ HI.out.at1
          obtain ⟨⟨c3, c4⟩, _⟩ := HE2.out _ HI.out.at0
          have qlt := HI.out.at0.lt
          have wlt := HI.out.at1.lt
          have mlt := al_lt HI.out.ob0
          dsimp only at qlt wlt mlt
          go_upto_region 24 with (fail)
          go_cut [17, 18] from 118 to 222 (fun v u wx => ∃ xb yb, v = .pointer (some ⟨xb, 0, none⟩) ∧ u = .pointer (some ⟨yb, 0, none⟩) ∧ TQ B w wx [(qb, q), (w.heap.size, P)] [(xb, .cells #[.int .i64 kx, .int .i64 dx] 25 (0, 0)), (yb, .cells #[.int .i64 ky, .int .i64 dx] 25 (0, 0)), (mb, .cells #[.int .i64 (fn : Int), .int .i64 (tn : Int), .int .i64 kb] 34 (0, 0))])
          case first =>
            have H2 := Lib.hid (HI.out.two #[.int .i64 kx, .int .i64 dx] #[.int .i64 ky, .int .i64 dx] 25 25)
            have H3 := Lib.hid (HI.out.two #[.int .i64 ky, .int .i64 dx] #[.int .i64 kx, .int .i64 dx] 25 25).swap
            go_region
            · go_wp2_with fail
              go_meet
              exact ⟨_, _, rfl, rfl, H2.out⟩
            · go_wp2_with fail
              go_meet
              exact ⟨_, _, rfl, rfl, H3.out⟩
          case rest =>
          obtain ⟨xb, yb, rfl, rfl, hi⟩ := hcut
          have HI := Lib.hid hi
          clear hi m0 m1 m2 mf c1 c2 c3 c4 qlt wlt mlt
          have p1 := HI.out.at1.cell 132 (by omega)
          have p2 := HI.out.at1.cell 128 (by omega)
          dsimp only at p1 p2
          obtain ⟨sd, hsd⟩ : ∃ s, P 128 = s := ⟨_, rfl⟩
          obtain ⟨fl, hfl⟩ : ∃ s, P 132 = s := ⟨_, rfl⟩
          obtain ⟨R1, R2, R3, R4⟩ := HRR.out
          rw [hsd, hfl] at R2
          rw [hsd] at p2
          rw [hfl] at p1
          have HFB := Lib.hid (show 1 ≤ fl ∧ fl ≤ 16384 by rw [← hfl]; exact ⟨HBC.out.2.2.1, HBC.out.2.2.2⟩)
          clear hsd hfl HBC
          have HR1 := Lib.hid R1
          have HR2 := Lib.hid R2
          have HR3 := Lib.hid R3
          have HR4 := Lib.hid R4
          clear R1 R2 R3 R4 HRR
          go_upto_region 26 with (fail)
          go_cut [136] from 130 to 222 (fun v wx => v = .bool (decide (sd = 1 ∧ fl < 16384)) ∧ TQ B w wx [(qb, q), (w.heap.size, P)] [(xb, .cells #[.int .i64 kx, .int .i64 dx] 25 (0, 0)), (yb, .cells #[.int .i64 ky, .int .i64 dx] 25 (0, 0)), (mb, .cells #[.int .i64 (fn : Int), .int .i64 (tn : Int), .int .i64 kb] 34 (0, 0))])
          case first =>
            by_cases e1 : sd = 1
            · subst e1
              by_cases e2 : fl < 16384
              · go_wp2
                go_meet
                exact ⟨by simp [e2], HI.out⟩
              · go_wp2
                go_meet
                exact ⟨by simp [e2], HI.out⟩
            · have e3 : (sd == 1) = false := by simp [e1]
              go_wp2
              go_meet
              exact ⟨by simp [e1], HI.out⟩
          case rest =>
          obtain ⟨rfl, hi⟩ := hcut
          have HI := Lib.hid hi
          clear hi p1 p2
          obtain ⟨db, hdb⟩ : ∃ b, decide (sd = 1 ∧ fl < 16384) = b := ⟨_, rfl⟩
          rw [hdb]
          replace HR2 := Lib.hid (show q 132 = if db then fl + 1 else fl by
            rw [HR2.out, ← hdb]
            by_cases e : sd = 1 ∧ fl < 16384
            · rw [if_pos e, if_pos (decide_eq_true e)]
            · rw [if_neg e, if_neg (by simpa using e)])
          clear hdb
          go_upto_if 136 with (fail)
          go_cut [19] from 137 to 222 (fun v wx => v = .int .i64 (if db then fl + 1 else fl) ∧ TQ B w wx [(qb, q), (w.heap.size, P)] [(xb, .cells #[.int .i64 kx, .int .i64 dx] 25 (0, 0)), (yb, .cells #[.int .i64 ky, .int .i64 dx] 25 (0, 0)), (mb, .cells #[.int .i64 (fn : Int), .int .i64 (tn : Int), .int .i64 kb] 34 (0, 0))])
          case first =>
            have HG1 := HFB.out
            have e3 : wrap64 (fl + 1) = fl + 1 := by unfold wrap64; omega
            cases db
            · go_wp2_with fail
              go_meet
              exact ⟨rfl, HI.out⟩
            · go_wp2_with fail
              go_meet
              exact ⟨rfl, HI.out⟩
          case rest =>
          obtain ⟨rfl, hi⟩ := hcut
          have HI := Lib.hid hi
          clear hi
          have g1 := HI.out.at0.cell 132 (by omega)
          have g2 := HI.out.at0.cell 131 (by omega)
          have g3 := HI.out.at0.cell 130 (by omega)
          have g4 := HI.out.at0.cell 129 (by omega)
          have g5 := HI.out.at1.cell 129 (by omega)
          dsimp only at g1 g2 g3 g4 g5
          rw [HR2.out] at g1
          obtain ⟨fv, hfv⟩ : ∃ v : Int, (if db then fl + 1 else fl) = v := ⟨_, rfl⟩
          rw [hfv] at g1 ⊢
          obtain ⟨ho, hho⟩ : ∃ v, q 131 = v := ⟨_, rfl⟩
          obtain ⟨ov, hov⟩ : ∃ v, q 130 = v := ⟨_, rfl⟩
          obtain ⟨qc, hqc⟩ : ∃ v, q 129 = v := ⟨_, rfl⟩
          obtain ⟨pc', hpc⟩ : ∃ v, P 129 = v := ⟨_, rfl⟩
          rw [hho] at g2 HR3
          rw [hov] at g3 HR4
          rw [hqc] at g4 HR1
          rw [hpc] at g5 HR1
          clear hfv hho hov hqc hpc HR2
          have hr1 := HR1.out
          obtain ⟨m0, m1, m2, mf, _⟩ := row3 (HI.out.o _ (List.mem_cons_of_mem _ (List.mem_cons_of_mem _ (List.mem_cons_self ..))))
          obtain ⟨x0, x1, _, _⟩ := row2 HI.out.ob0
          obtain ⟨y0, y1, _, _⟩ := row2 HI.out.ob1
          obtain ⟨_, z0, z1⟩ := HE2.out _ HI.out.at0
          obtain ⟨F1, F2, F3, F4, F5, F6, F7⟩ := HFF.out
          have o3 : (o : Int) ≤ 3 := by omega
          have o1 : (1 : Int) ≤ o := by omega
          have lm : wrap64 ((m : Int) - tv) = l := by
            rcases HTV.out with ⟨h1, h2⟩ | ⟨h1, h2⟩
            · rw [if_pos h1] at F4; unfold wrap64; omega
            · rw [if_neg h1] at F4; unfold wrap64; omega
          have hknb : (ky != kx) = (kb != 0) := by
            have := HKN.out
            by_cases e : kb = 0
            · rw [e]; have h2 : ky = kx := by
                by_cases h : ky = kx
                · exact h
                · exact absurd e (this.1 h)
              rw [h2]; simp
            · have h2 := this.2 e
              rw [bne_iff_ne.2 e, bne_iff_ne.2 h2]
          have hhalf : (ho == 0) = ((tv == 1) || (kx == 1)) := by
            have := HR3.out
            rw [Bool.eq_iff_iff, Bool.or_eq_true, beq_iff_eq, beq_iff_eq, beq_iff_eq, this]
            rcases HTV.out with ⟨h1, h2⟩ | ⟨h1, h2⟩
            · exact ⟨fun h => h.elim (fun h => absurd h1 h) .inr, fun h => h.elim (fun h => by omega) .inr⟩
            · exact ⟨fun h => .inl h2, fun h => .inl h1⟩
          have hover : ((ov == -1) || (kx == 1)) = true := by
            rw [Bool.or_eq_true, beq_iff_eq, beq_iff_eq]; exact HR4.out
          have hpawn : (o : Int) = 3 → kx = 1 := fun h => F3 (by omega)
          have f0' : (0 : Int) ≤ (fn : Int) := f0
          have HPAWN := Lib.hid hpawn
          clear hpawn F1 F2 F3 F4 F5 F6 F7
          have htv01 : tv = 0 ∨ tv = 1 := HTV.out.elim (fun h => .inl h.2) (fun h => .inr h.2)
          have HV01 := Lib.hid htv01
          have HHALF := Lib.hid hhalf
          have HOVER := Lib.hid hover
          have HRX := Lib.hid hr1
          clear htv01 hhalf hover hr1
          clear HR1 HR3 HR4 HKN HTV HFF HFB HE1 HE2 HOF2 HNE2 HNE3 HPW2 MK
          have hret : ∀ W, TQ B w W [(qb, q), (w.heap.size, P)] [(xb, .cells #[.int .i64 kx, .int .i64 dx] 25 (0, 0)), (yb, .cells #[.int .i64 ky, .int .i64 dx] 25 (0, 0)), (mb, .cells #[.int .i64 (fn : Int), .int .i64 (tn : Int), .int .i64 kb] 34 (0, 0))] → Below w.heap.size w W := fun W h => h.b
          by_cases ho3 : (o : Int) = 3
          · obtain rfl := HPAWN.out ho3
            rw [ho3]
            go_upto_region 30 with (fail)
            have hr1 := HRX.out
            have hhalf := HHALF.out
            have hover := HOVER.out
            rcases HV01.out with rfl | rfl
            all_goals
              by_cases hov : ov = -1
              · subst hov
                go_wp2
                go_ret
                exact ⟨q_b (by first | rfl | (simp; done) | (rw [hhalf]; simp; done) | (simp [hhalf]; done) | (simp_all; done)), hret _ HI.out⟩
              · have hov' : (ov == -1) = false := by simp [hov]
                go_wp2
                go_ret
                exact ⟨q_b (by first | rfl | (simp; done) | (rw [hhalf]; simp; done) | (simp [hhalf]; done) | (simp_all; done)), hret _ HI.out⟩
          · have ho3' : ((o : Int) == 3) = false := by simp [ho3]
            go_upto_region 30 with (fail)
            have hr1 := HRX.out
            have hhalf := HHALF.out
            have hover := HOVER.out
            rcases HV01.out with rfl | rfl
            all_goals
              by_cases hov : ov = -1
              · subst hov
                go_wp2
                go_ret
                exact ⟨q_b (by first | rfl | (simp; done) | (rw [hhalf]; simp; done) | (simp [hhalf]; done) | (simp_all; done)), hret _ HI.out⟩
              · have hov' : (ov == -1) = false := by simp [hov]
                go_wp2
                go_ret
                exact ⟨q_b (by first | rfl | (simp; done) | (rw [hhalf]; simp; done) | (simp [hhalf]; done) | (simp_all; done)), hret _ HI.out⟩
  · rcases HERR.out h0 with ⟨h6, hft⟩ | ⟨h8, hp1⟩
    · clear HFEW HQK HQD HRE HERR HOF HTK0 HNE HPW
      have h0' : (er == 0) = false := by simp [h0]
      subst h6 hft
      go_wp2
      go_ret
      exact ⟨rfl, HI.out.b⟩
    · clear HFEW HQK HQD HRE HERR HOF HTK0 HNE HPW
      rw [hkx2] at hp1
      subst h8 hp1
      go_wp2
      go_ret
      exact ⟨rfl, HI.out.b⟩
end Go.Proofs.YtlfapakllhhadaaDoor
