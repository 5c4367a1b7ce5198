/-
  Merged: Bv, Pc, Pd, Pf.
-/
import Derived.Test.YtkncfeijlmomaaaGreatDoorG13
import Derived.Test.YtkncfeijlmomaaaGreatDoorG4
import Derived.Maps.OwnOps
import Derived.Lib.QuietBelow

namespace Go.Proofs.YtkncfeijlmomaaaGreatDoor
open Go.RowKit Go.Sort
set_option linter.unusedSimpArgs false
set_option linter.unusedVariables false

theorem pieces_side (P : Nat → Int) (h : piecesB P = true) : P 128 = 0 ∨ P 128 = 1 := by
  unfold piecesB sideB at h
  simp only [Bool.and_eq_true, Bool.or_eq_true, beq_iff_eq] at h
  exact h.2
set_option maxHeartbeats 2000000 in
set_option maxRecDepth 100000 in
theorem rightM_any (b : Nat) (P : Nat → Int) (w : World) (hp : PB w b P) (B : Nat) (hg : GB B w) (hB : B ≤ w.heap.size) :
    Calls Tryz.prog 123 #[.pointer (some ⟨b, 0, none⟩)] w fun e w' => e = .returned (.bool (rightB P)) ∧ Below w.heap.size w w' := by
  have hv := rightB_eq P
  obtain ⟨a1, ha1⟩ : ∃ a, piecesB P = a := ⟨_, rfl⟩
  obtain ⟨a2, ha2⟩ : ∃ a, castB P = a := ⟨_, rfl⟩
  obtain ⟨a3, ha3⟩ : ∃ a, overB P = a := ⟨_, rfl⟩
  obtain ⟨a4, ha4⟩ : ∃ a, cntB (P 131) (P 132) = a := ⟨_, rfl⟩
  have hsd := pieces_side P
  rw [ha1, ha2, ha3, ha4] at hv
  rw [ha1] at hsd
  have HV := Lib.hid hv
  have A1 := Lib.hid ha1
  have A2 := Lib.hid ha2
  have A3 := Lib.hid ha3
  have A4 := Lib.hid ha4
  have HP := Lib.hid hp
  have HG := Lib.hid hg
  have HS := Lib.hid hsd
  have HB := Lib.hid (Below.refl w.heap.size w)
  clear hv ha1 ha2 ha3 ha4 hp hg hsd
  go_enter Tryz.func123, Tryz.ntmps123
  go_wp2_with fail
  refine (pieces_any b P _ HP.out).mono ?_
  rw [A1.out]
  rintro e w1 ⟨rfl, hb⟩
  replace HP := Lib.hid (HP.out.go hb)
  replace HG := Lib.hid (HG.out.below (hb.mono hB))
  replace HB := Lib.hid (HB.out.trans (hb.mono HB.out.size))
  clear hb
  cases a1
  · go_wp2
    go_ret
    exact ⟨q_b (by rw [HV.out]; rfl), HB.out⟩
  go_wp2_with fail
  refine (castlings_any b P _ HP.out B HG.out (Nat.le_trans hB HB.out.size)).mono ?_
  rw [A2.out]
  rintro e w2 ⟨rfl, hb⟩
  replace HP := Lib.hid (HP.out.go hb)
  replace HB := Lib.hid (HB.out.trans (hb.mono HB.out.size))
  clear hb HG
  cases a2
  · go_wp2
    go_ret
    exact ⟨q_b (by rw [HV.out]; rfl), HB.out⟩
  go_wp2_with fail
  have HO : Calls Tryz.prog 151 #[.pointer (some ⟨b, 0, none⟩)] w2 fun e w' => e = .returned (.bool (overB P)) ∧ Below w2.heap.size w2 w' := by
    rcases HS.out trivial with h | h
    · exact over0_any b P w2 HP.out h
    · exact over1_any b P w2 HP.out h
  refine HO.mono ?_
  clear HO
  rw [A3.out]
  rintro e w3 ⟨rfl, hb⟩
  replace HP := Lib.hid (HP.out.go hb)
  replace HB := Lib.hid (HB.out.trans (hb.mono HB.out.size))
  clear hb
  cases a3
  · go_wp2
    go_ret
    exact ⟨q_b (by rw [HV.out]; rfl), HB.out⟩
  go_wp2_with fail
  refine (counts_any b P _ HP.out).mono ?_
  rw [A4.out]
  rintro e w4 ⟨rfl, rfl⟩
  go_wp2
  go_ret
  exact ⟨q_b (by rw [HV.out]; simp), HB.out⟩
theorem infoChk : (Tryz.prog.info? 146).map (·.size) = some 133 := by kernel_rfl
theorem zeroChk : Tryz.zeroCells146 = (pc fun _ => 0).toArray := by kernel_rfl
theorem fold_set : ∀ (L : List Value) (k : Nat) (cs : Array Value), k + L.length ≤ cs.size → ∀ i, (List.foldl (fun (cs : Array Value) (x : Value × Nat) => cs.setIfInBounds x.2 x.1) cs (L.zipIdx k))[i]? = if k ≤ i ∧ i < k + L.length then L[i - k]? else cs[i]?
  | [], k, cs, _, i => by simp; omega
  | v :: L, k, cs, h, i => by
    simp only [List.length_cons] at h
    rw [List.zipIdx_cons, List.foldl_cons, fold_set L (k + 1) _ (by simp; omega) i]
    by_cases h1 : k + 1 ≤ i ∧ i < k + 1 + L.length
    · rw [if_pos h1, if_pos (by simp; omega), show i - k = (i - (k + 1)) + 1 by omega, List.getElem?_cons_succ]
    · rw [if_neg h1]
      by_cases h2 : i = k
      · subst h2
        rw [if_pos (by simp), Nat.sub_self, List.getElem?_cons_zero, Array.getElem?_setIfInBounds_self_of_lt (by omega)]
      · rw [if_neg (by simp only [List.length_cons]; omega), Array.getElem?_setIfInBounds_ne (by omega)]
theorem fold_chk (X : Array Value) (hX : X.size = 133) : Array.foldl (fun (cs : Array Value) (x : Value × Nat) => cs.setIfInBounds x.2 x.1) Tryz.zeroCells146 X.zipIdx 0 133 = X := by
  apply Array.ext_getElem?
  intro i
  have hz : Tryz.zeroCells146.size = 133 := by rw [zeroChk, pc_size]
  rw [show (133 : Nat) = X.zipIdx.size by simp [hX], ← Array.foldl_toList]
  rw [Array.toList_zipIdx, fold_set X.toList 0 _ (by simp [hX, hz]) i]
  by_cases h : i < 133
  · rw [if_pos (by simp [hX, h]), Nat.sub_zero, Array.getElem?_toList]
  · rw [if_neg (by simp [hX]; omega), Array.getElem?_eq_none (by omega), Array.getElem?_eq_none (by omega)]
set_option maxHeartbeats 2000000 in
set_option maxRecDepth 100000 in
theorem right_any (P : Nat → Int) (w : World) (B : Nat) (hg : GB B w) (hB : B ≤ w.heap.size) :
    Calls Tryz.prog 94 #[.agg (pc P).toArray] w fun e w' => e = .returned (.bool (rightB P)) ∧ Below w.heap.size w w' := by
  obtain ⟨X, hX⟩ : ∃ X, X = (pc P).toArray := ⟨_, rfl⟩
  rw [← hX]
  have HP0 := Lib.hid (show PB (w.alloc (.cells X 29)) w.heap.size P by subst hX; exact PB.new rfl)
  have HG := Lib.hid hg
  have HX := Lib.hid hX
  have hsz : X.size = 133 := by rw [hX, pc_size]
  have hfold := fold_chk X hsz
  clear hX hg
  go_enter Tryz.func94, Tryz.ntmps94
  go_upto_region 1 with (fail)
  refine wp_region_lit ?_
  refine wpList_pos (by rfl) _ (by rfl) w.heap.size P X HX.out (by rfl) HP0.out ?_
  refine wpList_plain rfl (fun K hK => ?_)
  go_simp
  refine hK _ _ ?_
  clear hK K
  clear hfold
  refine wpList_plain rfl (fun K hK => ?_)
  go_simp
  refine hK _ _ ?_
  clear hK K
  have hpn : PB ((w.alloc (.cells X 29)).alloc (.cells Tryz.zeroCells146 146)) (w.heap.size + 1) (fun _ => 0) := by rw [zeroChk]; exact PB.new (by simp)
  refine wpList_store_mid rfl 146 _ _ rfl (w.heap.size + 1) 0 X rfl rfl (by rw [hsz]; exact hpn.there) (by rw [infoChk, hsz]) (by rw [HX.out]; exact pc_one P) ?_
  refine forgetL_B (fun W => PB W (w.heap.size + 1) P ∧ Below w.heap.size w W) (by
    rw [HX.out, List.toList_toArray]
    rw [HX.out] at hpn
    exact ⟨hpn.store (Q := P), below_store (b := w.heap.size + 1) P ((below_new _).alloc (by simp) _) (by omega) (by simp; omega)⟩) ?_
  rintro W ⟨hp, hb⟩
  have HP := Lib.hid hp
  have HB := Lib.hid hb
  clear hp hb hpn HP0 hsz
  show Exit.then _ _ Exit.normal _ _
  go_wp2_with fail
  refine (rightM_any (w.heap.size + 1) P _ HP.out B (HG.out.below (HB.out.mono hB)) (Nat.le_trans hB HB.out.size)).mono ?_
  rintro e w1 ⟨rfl, hb⟩
  go_wp2
  go_ret
  exact ⟨rfl, HB.out.trans (hb.mono HB.out.size)⟩
end Go.Proofs.YtkncfeijlmomaaaGreatDoor

namespace Go.Proofs.YtkncfeijlmomaaaGreatDoor
open Go.RowKit Go.Sort
set_option linter.unusedSimpArgs false
set_option linter.unusedVariables false
set_option maxRecDepth 20000

theorem flt_bad (P : Nat → Int) (f t k : Int) (h : (!sq f || !sq t || f == t) = true) : fltN P f t k = 6 := by unfold fltN; rw [h]; rfl
theorem flt_on (P : Nat → Int) (f t : Nat) (k : Int) (hf : f < 64) (ht : t < 64) (h : f ≠ t) : fltN P f t k = if ownB P f && becB P f t k then 0 else 8 := by
  unfold fltN
  rw [(sq_iff _).2 (by omega), (sq_iff _).2 (by omega), show ((f : Int) == t) = false by simp; omega, Int.toNat_natCast, Int.toNat_natCast]
  rfl
set_option maxHeartbeats 2000000 in
theorem fault_any (b : Nat) (P : Nat → Int) (f t k : Int) (w : World) (hp : PB w b P) :
    Calls Tryz.prog 161 #[.pointer (some ⟨b, 0, none⟩), .agg #[.int .i64 f, .int .i64 t, .int .i64 k]] w fun e w' => e = .returned (.int .i64 (fltN P f t k)) ∧ Below w.heap.size w w' := by
  have HI := Lib.hid (HM.begin f t k hp)
  have M1 := Lib.hid (fun W => is_any f W)
  have M2 := Lib.hid (fun W => is_any t W)
  have HBAD := Lib.hid (flt_bad P f t k)
  have HON := Lib.hid (show sq f = true → sq t = true → ¬ f = t → fltN P f t k = if ownB P f.toNat && becB P f.toNat t.toNat k then 0 else 8 from fun h1 h2 h3 => by
    obtain ⟨a1, a2⟩ := (sq_iff _).1 h1
    obtain ⟨b1, b2⟩ := (sq_iff _).1 h2
    have := flt_on P f.toNat t.toNat k (by omega) (by omega) (by omega)
    rwa [show ((f.toNat : Nat) : Int) = f by omega, show ((t.toNat : Nat) : Int) = t by omega] at this)
  have M3 := Lib.hid (show sq f = true → ∀ W, PB W b P → Calls Tryz.prog 187 #[.pointer (some ⟨b, 0, none⟩), .int .i64 f] W fun e w' => e = .returned (.bool (ownB P f.toNat)) ∧ Below W.heap.size W w' from fun h1 W h => by
    obtain ⟨a1, a2⟩ := (sq_iff _).1 h1
    have := owns_any b P f.toNat (by omega) W h
    rwa [show ((f.toNat : Nat) : Int) = f by omega] at this)
  have M4 := Lib.hid (show sq f = true → sq t = true → ∀ W, PB W b P → Calls Tryz.prog 188 #[.pointer (some ⟨b, 0, none⟩), .agg #[.int .i64 f, .int .i64 t, .int .i64 k]] W fun e w' => e = .returned (.bool (becB P f.toNat t.toNat k)) ∧ Below W.heap.size W w' from fun h1 h2 W h => by
    obtain ⟨a1, a2⟩ := (sq_iff _).1 h1
    obtain ⟨b1, b2⟩ := (sq_iff _).1 h2
    have := mayBecome_any b P f.toNat t.toNat k (by omega) (by omega) W h
    rwa [show ((f.toNat : Nat) : Int) = f by omega, show ((t.toNat : Nat) : Int) = t by omega] at this)
  clear hp
  obtain ⟨s1, hs1⟩ : ∃ s, sq f = s := ⟨_, rfl⟩
  obtain ⟨s2, hs2⟩ : ∃ s, sq t = s := ⟨_, rfl⟩
  rw [hs1] at M1 HBAD HON M3 M4
  rw [hs2] at M2 HBAD HON M4
  clear hs1 hs2
  generalize ownB P f.toNat = ow at *
  generalize becB P f.toNat t.toNat k = be at *
  generalize fltN P f t k = R at *
  go_enter Tryz.func161, Tryz.ntmps161
  go_upto_region 1 with (fail)
  refine forget_B (fun W => HM w W b P f t k) HI.out ?_
  clear HI
  intro W hi
  have HI := Lib.hid hi
  clear hi
  obtain ⟨q0, q1, q2, qf, qz⟩ := row3 HI.out.x
  go_wp2_with fail
  refine (M1.out _).mono ?_
  rintro e w1 ⟨rfl, hb1⟩
  replace HI := Lib.hid (HI.out.go hb1)
  clear q0 q1 q2 qf qz
  obtain ⟨q0, q1, q2, qf, qz⟩ := row3 HI.out.x
  cases s1
  · go_wp2
    go_ret
    exact ⟨q_i (HBAD.out rfl).symm, HI.out.b⟩
  go_wp2_with fail
  refine (M2.out _).mono ?_
  rintro e w2 ⟨rfl, hb1⟩
  replace HI := Lib.hid (HI.out.go hb1)
  clear q0 q1 q2 qf qz
  obtain ⟨q0, q1, q2, qf, qz⟩ := row3 HI.out.x
  cases s2
  · go_wp2
    go_ret
    exact ⟨q_i (HBAD.out rfl).symm, HI.out.b⟩
  by_cases hft : f = t
  · have HR := Lib.hid (HBAD.out (by simp [hft]))
    have hft2 : (f == t) = true := by simp [hft]
    go_wp2
    go_ret
    exact ⟨q_i HR.out.symm, HI.out.b⟩
  have HR := Lib.hid (HON.out (by trivial) (by trivial) hft)
  have hft2 : (f == t) = false := by simp [hft]
  go_wp2_with fail
  refine (M3.out (by trivial) _ HI.out.p).mono ?_
  rintro e w3 ⟨rfl, hb1⟩
  replace HI := Lib.hid (HI.out.go hb1)
  clear q0 q1 q2 qf qz
  obtain ⟨q0, q1, q2, qf, qz⟩ := row3 HI.out.x
  cases ow
  · go_wp2
    go_ret
    exact ⟨q_i (by rw [HR.out]; rfl), HI.out.b⟩
  go_wp2_with fail
  refine (M4.out (by trivial) (by trivial) _ HI.out.p).mono ?_
  rintro e w4 ⟨rfl, hb1⟩
  replace HI := Lib.hid (HI.out.go hb1)
  clear q0 q1 q2 qf qz
  cases be
  · go_wp2
    go_ret
    exact ⟨q_i (by rw [HR.out]; rfl), HI.out.b⟩
  · go_wp2
    go_ret
    exact ⟨q_i (by rw [HR.out]; rfl), HI.out.b⟩

/-- the castlings that there are -/
def cas0 (c : Int) : Int := if casB c then c else 0
/-- a hand's position -/
def handP (P : Nat → Int) : Nat → Int := setN P 129 (cas0 (P 129))
theorem handP_off (P : Nat → Int) (h : casB (P 129) = false) : handP P = setN P 129 0 := by unfold handP cas0; rw [h]; rfl
theorem handP_on (P : Nat → Int) (h : casB (P 129) = true) : handP P = P := by
  unfold handP cas0; rw [h]; funext i; unfold setN
  by_cases e : i = 129
  · subst e; rfl
  · rw [if_neg e]
theorem infoHand : (Tryz.prog.info? 172).map (·.size) = some 133 := by kernel_rfl
theorem zeroHand : Tryz.zeroCells172 = (pc fun _ => 0).toArray := by kernel_rfl
theorem fold_hand (X : Array Value) (hX : X.size = 133) : Array.foldl (fun (cs : Array Value) (x : Value × Nat) => cs.setIfInBounds x.2 x.1) Tryz.zeroCells172 X.zipIdx 0 133 = X := by
  apply Array.ext_getElem?
  intro i
  have hz : Tryz.zeroCells172.size = 133 := by rw [zeroHand, pc_size]
  rw [show (133 : Nat) = X.zipIdx.size by simp [hX], ← Array.foldl_toList]
  rw [Array.toList_zipIdx, fold_set X.toList 0 _ (by simp [hX, hz]) i]
  by_cases h : i < 133
  · rw [if_pos (by simp [hX, h]), Nat.sub_zero, Array.getElem?_toList]
  · rw [if_neg (by simp [hX]; omega), Array.getElem?_eq_none (by omega), Array.getElem?_eq_none (by omega)]
/-- what stands while a hand is made -/
structure HO (w W : World) (P : Nat → Int) : Prop where
  p : PB W w.heap.size P
  z : PB W (w.heap.size + 1) (fun _ => 0)
  b : Below w.heap.size w W
theorem HO.begin (w : World) (P : Nat → Int) (X : Array Value) (hX : X = (pc P).toArray) : HO w ((w.alloc (.cells X 29)).alloc (.cells Tryz.zeroCells172 172)) P := by
  obtain ⟨a1, a2, a3, a4⟩ := two_at w (.cells X 29) (.cells Tryz.zeroCells172 172)
  rw [zeroHand] at *
  exact ⟨PB.of_block (by rw [hX] at a1 ⊢; exact a1), PB.of_block a2, a3⟩
set_option maxHeartbeats 2000000 in
set_option maxRecDepth 100000 in
theorem handOf_end (P : Nat → Int) (w W : World) (X : Array Value) (hX : X = (pc P).toArray) (h : HO w W P) :
    (W.setCells (w.heap.size + 1) 0 X.toList).rangeAt (w.heap.size + 1) 0 (pc P) ∧ Below w.heap.size w (W.setCells (w.heap.size + 1) 0 X.toList) := by
  rw [hX, List.toList_toArray]
  exact ⟨(h.z.store (Q := P)).range, below_store (b := w.heap.size + 1) P h.b (by omega) (by have := h.b.size; omega)⟩
set_option maxHeartbeats 2000000 in
set_option maxRecDepth 100000 in
theorem handOf_any (P : Nat → Int) (w : World) :
    Calls Tryz.prog 160 #[.agg (pc P).toArray] w fun e w' => e = .returned (.agg (pc (handP P)).toArray) ∧ Below w.heap.size w w' := by
  obtain ⟨X, hX⟩ : ∃ X, X = (pc P).toArray := ⟨_, rfl⟩
  obtain ⟨Y, hY⟩ : ∃ Y, Y = (pc (handP P)).toArray := ⟨_, rfl⟩
  rw [← hX, ← hY]
  have hsz : Y.size = 133 := by rw [hY, pc_size]
  have HF := Lib.hid (fold_hand Y hsz)
  have HI := Lib.hid (HO.begin w P X hX)
  have HY := Lib.hid hY
  have HS := Lib.hid hsz
  clear hX hY hsz
  have hoff := handP_off P
  have hon := handP_on P
  have HC := Lib.hid (show ∀ W, HO w W P → W.cell? ⟨w.heap.size, 129, none⟩ = some (.int .i64 (P 129)) from fun W h => h.p.cell 129 (by omega))
  have HFR := Lib.hid (show ∀ W, HO w W P → W.frozen? ⟨w.heap.size, 129, none⟩ = false from fun W h => h.p.fr 129)
  obtain ⟨c, hc⟩ : ∃ c, P 129 = c := ⟨_, rfl⟩
  rw [hc] at hoff hon HC
  clear hc
  have HOFF := Lib.hid hoff
  have HOON := Lib.hid hon
  clear hoff hon
  go_enter Tryz.func160, Tryz.ntmps160
  go_upto_region 1 with (fail)
  refine forget_B (fun W => HO w W P) HI.out ?_
  clear HI
  intro W hi
  have HI := Lib.hid hi
  clear hi
  have e1 := HC.out W HI.out
  have f1 := HFR.out W HI.out
  rcases cas_cases c with ⟨h1, hb⟩ | ⟨h1, hb⟩ | ⟨h1, h2, hb⟩
  case inr.inr =>
    have hq := HOON.out hb
    rw [hq] at HY
    clear hb hq
    go_upto_region 3 with (fail)
    refine wp_region_lit ?_
    refine wpList_pos (by rfl) _ (by rfl) w.heap.size P Y HY.out (by rfl) HI.out.p ?_
    have hfold := HF.out
    have hsz := HS.out
    refine wpList_plain rfl (fun K hK => ?_)
    go_simp
    refine hK _ _ ?_
    clear hK K
    clear hfold hsz
    refine wpList_store_mid rfl 172 _ _ rfl (w.heap.size + 1) 0 Y rfl rfl (by rw [HS.out]; exact HI.out.z.there) (by rw [infoHand, HS.out]) (by rw [HY.out]; exact pc_one P) ?_
    obtain ⟨hr1, hb1⟩ := handOf_end P w W Y HY.out HI.out
    generalize W.setCells (w.heap.size + 1) 0 Y.toList = W8 at hr1 hb1 ⊢
    show Exit.then _ _ Exit.normal _ _
    refine ret_go (by assumption) ?_
    repeat (first | refine then_ret ?_ | refine block_ret ?_)
    refine bodyPost_ret (v := .agg (pc P).toArray) ?_ rfl ⟨by rw [HY.out], hb1⟩
    exact results_cell_mid (p := 2) (ty := 172) rfl _ W8 (w.heap.size + 1) _ _ rfl hr1 Tryz.underlying172 rfl (by rw [infoHand, pc_len])
  all_goals
    have hq := HOFF.out hb
    rw [hq] at HY
    clear hb hq
    go_upto_region 3 with (fail)
    refine forget_B (fun W => HO w W (setN P 129 0)) ⟨HI.out.p.set 129 0 (by omega), HI.out.z.other (by omega) _ _, HI.out.b.setCell (p := ⟨w.heap.size, 129, none⟩) (Nat.le_refl _) _⟩ ?_
    clear HI e1 f1 HC HFR
    intro W2 hi
    have HI := Lib.hid hi
    clear hi
    refine wp_region_lit ?_
    refine wpList_pos (by rfl) _ (by rfl) w.heap.size (setN P 129 0) Y HY.out (by rfl) HI.out.p ?_
    have hfold := HF.out
    have hsz := HS.out
    refine wpList_plain rfl (fun K hK => ?_)
    go_simp
    refine hK _ _ ?_
    clear hK K
    clear hfold hsz
    refine wpList_store_mid rfl 172 _ _ rfl (w.heap.size + 1) 0 Y rfl rfl (by rw [HS.out]; exact HI.out.z.there) (by rw [infoHand, HS.out]) (by rw [HY.out]; exact pc_one _) ?_
    obtain ⟨hr1, hb1⟩ := handOf_end (setN P 129 0) w W2 Y HY.out HI.out
    generalize W2.setCells (w.heap.size + 1) 0 Y.toList = W8 at hr1 hb1 ⊢
    show Exit.then _ _ Exit.normal _ _
    refine ret_go (by assumption) ?_
    repeat (first | refine then_ret ?_ | refine block_ret ?_)
    refine bodyPost_ret (v := .agg (pc (setN P 129 0)).toArray) ?_ rfl ⟨by rw [HY.out], hb1⟩
    exact results_cell_mid (p := 2) (ty := 172) rfl _ W8 (w.heap.size + 1) _ _ rfl hr1 Tryz.underlying172 rfl (by rw [infoHand, pc_len])
end Go.Proofs.YtkncfeijlmomaaaGreatDoor

namespace Go.Proofs.YtkncfeijlmomaaaGreatDoor
open Go.RowKit Go.Sort
set_option linter.unusedSimpArgs false
set_option linter.unusedVariables false
set_option maxRecDepth 20000

theorem gr_of_below {w w' : World} (r : Option Nat) (h : Below w.heap.size w w') : w.grownBy w' r := ⟨h.os, h.tape, h.output, h.size, fun k hk _ => h.block k hk⟩
/-- what stands in a call that turns a hand's position -/
structure HG (w W : World) (blk : Nat) (Q : Nat → Int) : Prop where
  q : PB W blk Q
  g : w.grownBy W (some blk)
theorem HG.begin {w : World} {blk : Nat} {Q : Nat → Int} (h : PB w blk Q) : HG w w blk Q := ⟨h, World.grownBy.refl _ _⟩
theorem HG.go {w W W' : World} {blk : Nat} {Q : Nat → Int} (h : HG w W blk Q) (g : Below W.heap.size W W') : HG w W' blk Q := ⟨h.q.go g, h.g.trans (gr_of_below _ g)⟩
theorem HG.set {w W : World} {blk : Nat} {Q : Nat → Int} (h : HG w W blk Q) (i : Nat) (x : Int) (hi : i < 133) : HG w (W.setCell ⟨blk, i, none⟩ (.int .i64 x)) blk (setN Q i x) := ⟨h.q.set i x hi, h.g.trans (gr1_B _)⟩
theorem HG.pt {w W : World} {blk : Nat} {Q : Nat → Int} (h : HG w W blk Q) (m : Nat) (k d : Int) (hm : m < 64) :
    HG w ((W.setCell ⟨blk, m * 2, none⟩ (.int .i64 k)).setCell ⟨blk, m * 2 + 1, none⟩ (.int .i64 d)) blk (ptN Q m k d) := by
  have := (h.set (m * 2) k (by omega)).set (m * 2 + 1) d (by omega)
  unfold ptN
  rwa [Nat.mul_comm 2 m]
theorem HG.then {w W W' : World} {blk : Nat} {Q Q' : Nat → Int} (h : HG w W blk Q) (g : HG W W' blk Q') : HG w W' blk Q' := ⟨g.q, h.g.trans g.g⟩
/-- counted -/
def cntN (P : Nat → Int) (z : Bool) : Nat → Int :=
  if P 128 == 1 then setN (setN P 131 (if z then 0 else incN (P 131) 1024)) 132 (incN (P 132) 16384) else setN P 131 (if z then 0 else incN (P 131) 1024)
set_option maxHeartbeats 2000000 in
theorem count_any (b : Nat) (P : Nat → Int) (z : Bool) (w : World) (hp : PB w b P) :
    Calls Tryz.prog 193 #[.pointer (some ⟨b, 0, none⟩), .bool z] w fun e w' => e = .returned (.tuple #[]) ∧ HG w w' b (cntN P z) := by
  have HI := Lib.hid (HG.begin hp)
  have HH := Lib.hid (show (if z then 0 else incN (P 131) 1024) = if z then 0 else incN (P 131) 1024 from rfl)
  have e131 := hp.cell 131 (by omega)
  have f131 := hp.fr 131
  have M1 := Lib.hid (fun n m W => oneMore_any n m W)
  have hv : cntN P z = if P 128 == 1 then setN (setN P 131 (if z then 0 else incN (P 131) 1024)) 132 (incN (P 132) 16384) else setN P 131 (if z then 0 else incN (P 131) 1024) := rfl
  obtain ⟨h, hh⟩ : ∃ h, (if z then 0 else incN (P 131) 1024) = h := ⟨_, rfl⟩
  rw [hh] at hv
  have HD := Lib.hid (show setN P 131 h 128 = P 128 ∧ setN P 131 h 132 = P 132 from ⟨rfl, rfl⟩)
  have HV := Lib.hid hv
  have HHH := Lib.hid hh
  clear hp hv hh HH
  go_enter Tryz.func193, Tryz.ntmps193
  have key : ∀ (c : Code) (Q : Exit → Act → World → Prop) (a : Act) (W : World), HG w W b (setN P 131 h) → (∀ W, HG w W b (setN P 131 h) → c.wp Tryz.prog Q a W) → c.wp Tryz.prog Q a W := fun c Q a W h1 h2 => h2 W h1
  have KEY := Lib.hid key
  clear key
  cases z
  · obtain ⟨n, hn⟩ : ∃ n, P 131 = n := ⟨_, rfl⟩
    rw [hn] at e131 HHH
    clear hn
    have hR : h = incN n 1024 := by rw [← HHH.out]; rfl
    have HR := Lib.hid hR
    clear hR HHH
    go_wp2_with fail
    refine (M1.out _ _ _).mono ?_
    rw [← HR.out]
    rintro e w1 ⟨rfl, rfl⟩
    go_upto_region 3 with (fail)
    refine KEY.out _ _ _ _ (HI.out.set 131 h (by omega)) ?_
    clear e131 f131 HI HR KEY
    intro W hi
    have HI := Lib.hid hi
    clear hi
    have e128 := HI.out.q.cell 128 (by omega)
    have e132 := HI.out.q.cell 132 (by omega)
    have f132 := HI.out.q.fr 132
    rw [HD.out.1] at e128
    rw [HD.out.2] at e132
    obtain ⟨sd, hsd⟩ : ∃ s, P 128 = s := ⟨_, rfl⟩
    obtain ⟨fu, hfu⟩ : ∃ s, P 132 = s := ⟨_, rfl⟩
    rw [hsd] at e128 HV
    rw [hfu] at e132 HV
    clear hsd hfu HD
    by_cases hs : sd = 1
    · subst hs
      go_wp2_with fail
      refine (M1.out _ _ _).mono ?_
      rintro e w2 ⟨rfl, rfl⟩
      go_wp2
      go_end0
      exact ⟨rfl, by rw [HV.out]; exact HI.out.set 132 _ (by omega)⟩
    · have hs2 : (sd == 1) = false := by simp [hs]
      go_wp2
      go_end0
      exact ⟨rfl, by rw [HV.out, hs2]; exact HI.out⟩
  · have hR : h = 0 := by rw [← HHH.out]; rfl
    subst hR
    clear HHH
    go_upto_region 3 with (fail)
    refine KEY.out _ _ _ _ (HI.out.set 131 0 (by omega)) ?_
    clear e131 f131 HI KEY
    intro W hi
    have HI := Lib.hid hi
    clear hi
    have e128 := HI.out.q.cell 128 (by omega)
    have e132 := HI.out.q.cell 132 (by omega)
    have f132 := HI.out.q.fr 132
    rw [HD.out.1] at e128
    rw [HD.out.2] at e132
    obtain ⟨sd, hsd⟩ : ∃ s, P 128 = s := ⟨_, rfl⟩
    obtain ⟨fu, hfu⟩ : ∃ s, P 132 = s := ⟨_, rfl⟩
    rw [hsd] at e128 HV
    rw [hfu] at e132 HV
    clear hsd hfu HD
    by_cases hs : sd = 1
    · subst hs
      go_wp2_with fail
      refine (M1.out _ _ _).mono ?_
      rintro e w2 ⟨rfl, rfl⟩
      go_wp2
      go_end0
      exact ⟨rfl, by rw [HV.out]; exact HI.out.set 132 _ (by omega)⟩
    · have hs2 : (sd == 1) = false := by simp [hs]
      go_wp2
      go_end0
      exact ⟨rfl, by rw [HV.out, hs2]; exact HI.out⟩
end Go.Proofs.YtkncfeijlmomaaaGreatDoor

namespace Go.Proofs.YtkncfeijlmomaaaGreatDoor
open Go.RowKit Go.Sort Go.Maps
set_option linter.unusedSimpArgs false
set_option linter.unusedVariables false
set_option maxRecDepth 20000

/-- the castlings that a move from or to a square loses -/
def lostN (s : Int) : Int := if s = 4 then 3 else if s = 7 then 1 else if s = 0 then 2 else if s = 60 then 12 else if s = 63 then 4 else if s = 56 then 8 else 0
theorem lawInt : Keyed Tryz.prog 3 := int_keyed Tryz.underlying3
theorem zeroCas (w : World) : (zeroValue 27).run Tryz.prog w = .ok (.int .i64 0) w := by kernel_rfl
def lp (D : DataW Unit) (a b : Int) : DataW Unit := D.put (.int .i64 a) (.lit (.int .i64 b))
def lostD : DataW Unit := lp (lp (lp (lp (lp (lp (.map []) 4 3) 7 1) 0 2) 60 12) 63 4) 56 8
def lostOk (f : Nat) : Bool := match lostD.atKey (.int .i64 (f : Int)) (.lit (.int .i64 0)) with
  | .lit (.int .i64 c) => c == lostN f
  | _ => false
theorem lost_all : ∀ f, f < 64 → lostOk f = true := by decide +kernel
theorem key_int (a : Int) (h : (Lit.int .i64 a).wf = true) : keyOf Tryz.prog 3 (.int .i64 a) = some (.int .i64 a) := keyOf_int_mk Tryz.underlying3 h
theorem wpList_insert_own {H : Type} {P : Program} (w : World) {ops : Array Oper} {rest : List Oper} {o : Oper} {a : Act} {Q : Exit → Act → World → Prop}
    (hg : o.guard = none) (m x v : Operand) (t : TypeId) (hop : o.op = Op.insert t m x v)
    (k e : TypeId) (K : Keyed P k) (ht : P.underlying t = some (.map k e)) (R : Value → Option (DataW H × List MemPlace)) (b n : Nat) (D : DataW H)
    (hm : a.eval m = .map (some b)) (hown : w.ownsMap P k R b n D) (hn : n < maxLen) (key val : Value) (kl : Lit) (hx : a.eval x = key) (hv : a.eval v = val) (hkey : keyOf P k key = some kl)
    (d : DataW H) (ps : List MemPlace) (hval : R val = some (d, ps))
    (hK : ∀ w', w'.ownsMap P k R b (n + 1) (D.put kl d) → w.grownBy w' (some b) → wpList P ops Q rest (a.put o.dst undef) w') :
    wpList P ops Q (o :: rest) a w := by
  refine wpList_plain hg fun K' hK' => ?_
  obtain ⟨w', hrun, r1, r2⟩ := hown.update K ht hn hkey hval
  unfold Oper.wp
  simp [execOp, hop, hm, hx, hv, hrun, Result.andThen]
  exact hK' _ _ (hK w' r1 r2)
/-- what stands while the map is laid -/
structure LM (w W : World) (n : Nat) (D : DataW Unit) : Prop where
  m : W.ownsMap Tryz.prog 3 (plainElem Tryz.prog 27) w.heap.size n D
  b : Below w.heap.size w W
theorem LM.up {w W W' : World} {n m : Nat} {D : DataW Unit} (h : LM w W n D) {D' : DataW Unit} (h1 : W'.ownsMap Tryz.prog 3 (plainElem Tryz.prog 27) w.heap.size m D') (g : W.grownBy W' (some w.heap.size)) : LM w W' m D' :=
  ⟨h1, h.b.grown g h.b.size (by rintro k ⟨⟩; exact Nat.le_refl _)⟩
set_option maxHeartbeats 2000000 in
theorem losses_any (w : World) :
    Calls Tryz.prog 237 #[] w fun e w' => e = .returned (.map (some w.heap.size)) ∧ LM w w' 6 lostD := by
  have hmm := @run_makeMap Tryz.prog
  have HI := Lib.hid (show LM w (w.alloc (.map #[] 0)) 0 (.map []) from ⟨World.ownsMap_made _ _ _ _, (Below.refl _ _).alloc (Nat.le_refl _) _⟩)
  go_enter Tryz.func237, Tryz.ntmps237
  go_upto_region 1 with (fail)
  refine wp_region_lit ?_
  refine wpList_plain rfl (fun K hK => ?_)
  go_simp
  refine hK _ _ ?_
  clear hK K hmm
  refine forgetL_B (fun W => LM w W 0 (.map [])) HI.out ?_
  clear HI
  intro W0 h0
  refine wpList_insert_own _ rfl _ _ _ _ rfl 3 27 lawInt Tryz.underlying237 _ _ _ _ rfl h0.m (by unfold maxLen; omega) _ _ _ rfl rfl (key_int _ rfl) _ [] (plainElem_int Tryz.underlying27 (by rfl)) ?_
  intro W1 r1 r2
  have h1 := h0.up r1 r2
  clear r1 r2 h0
  refine wpList_insert_own _ rfl _ _ _ _ rfl 3 27 lawInt Tryz.underlying237 _ _ _ _ rfl h1.m (by unfold maxLen; omega) _ _ _ rfl rfl (key_int _ rfl) _ [] (plainElem_int Tryz.underlying27 (by rfl)) ?_
  intro W2 r1 r2
  have h2 := h1.up r1 r2
  clear r1 r2 h1
  refine wpList_insert_own _ rfl _ _ _ _ rfl 3 27 lawInt Tryz.underlying237 _ _ _ _ rfl h2.m (by unfold maxLen; omega) _ _ _ rfl rfl (key_int _ rfl) _ [] (plainElem_int Tryz.underlying27 (by rfl)) ?_
  intro W3 r1 r2
  have h3 := h2.up r1 r2
  clear r1 r2 h2
  refine wpList_insert_own _ rfl _ _ _ _ rfl 3 27 lawInt Tryz.underlying237 _ _ _ _ rfl h3.m (by unfold maxLen; omega) _ _ _ rfl rfl (key_int _ rfl) _ [] (plainElem_int Tryz.underlying27 (by rfl)) ?_
  intro W4 r1 r2
  have h4 := h3.up r1 r2
  clear r1 r2 h3
  refine wpList_insert_own _ rfl _ _ _ _ rfl 3 27 lawInt Tryz.underlying237 _ _ _ _ rfl h4.m (by unfold maxLen; omega) _ _ _ rfl rfl (key_int _ rfl) _ [] (plainElem_int Tryz.underlying27 (by rfl)) ?_
  intro W5 r1 r2
  have h5 := h4.up r1 r2
  clear r1 r2 h4
  refine wpList_insert_own _ rfl _ _ _ _ rfl 3 27 lawInt Tryz.underlying237 _ _ _ _ rfl h5.m (by unfold maxLen; omega) _ _ _ rfl rfl (key_int _ rfl) _ [] (plainElem_int Tryz.underlying27 (by rfl)) ?_
  intro W6 r1 r2
  have h6 := h5.up r1 r2
  clear r1 r2 h5
  have H6 := Lib.hid h6
  clear h6
  go_wp2
  go_ret
  exact ⟨rfl, H6.out⟩
theorem lost_run (f : Nat) (hf : f < 64) (w W : World) (h : LM w W 6 lostD) : (Instr.lookup 237 (.map (some w.heap.size)) (.int .i64 (f : Int)) false).run Tryz.prog W = .ok (.int .i64 (lostN f)) W := by
  obtain ⟨c, hrun, hat, hwc⟩ := h.m.lookup_int lawInt Tryz.underlying237 Tryz.underlying27 (zeroCas W) (key_int (f : Int) (WalkArith.wf_i64 (by omega)))
  have hl := lost_all f hf
  unfold lostOk at hl
  rw [hat] at hl
  have : c = lostN f := by simpa using hl
  rw [hrun, this]
/-- the castlings behind a move -/
def casM (c : Int) (f t : Nat) : Int := bits .andNot .i64 c (bits .or .i64 (lostN f) (lostN t))
/-- what stands while castlings are lost -/
structure HL (w W : World) (blk : Nat) (Q : Nat → Int) (f t k : Int) (w1 : World) : Prop where
  h : HG w W blk Q
  m : W.heap[w.heap.size]? = some (.cells #[.int .i64 f, .int .i64 t, .int .i64 k] 46 (0, 0))
  l : LM w1 W 6 lostD
theorem HL.go {w W W' : World} {blk : Nat} {Q : Nat → Int} {f t k : Int} {w1 : World} (h : HL w W blk Q f t k w1) (hs : w1.heap.size < W.heap.size) (g : Below W.heap.size W W') : HL w W' blk Q f t k w1 :=
  ⟨h.h.go g, sl_go h.m g, ⟨h.l.m.kept (gr_of_below none g) (by simp), h.l.b.trans (g.mono h.l.b.size)⟩⟩
set_option maxHeartbeats 2000000 in
theorem loseCastlings_any (b : Nat) (P : Nat → Int) (f t : Nat) (k : Int) (hf : f < 64) (ht : t < 64) (w : World) (hp : PB w b P) :
    Calls Tryz.prog 197 #[.pointer (some ⟨b, 0, none⟩), .agg #[.int .i64 (f : Int), .int .i64 (t : Int), .int .i64 k]] w fun e w' => e = .returned (.tuple #[]) ∧ HG w w' b (setN P 129 (casM (P 129) f t)) := by
  have HI := Lib.hid (show HG w (w.alloc (.cells #[.int .i64 (f : Int), .int .i64 (t : Int), .int .i64 k] 46)) b P ∧ (w.alloc (.cells #[.int .i64 (f : Int), .int .i64 (t : Int), .int .i64 k] 46)).heap[w.heap.size]? = some (.cells #[.int .i64 (f : Int), .int .i64 (t : Int), .int .i64 k] 46 (0, 0)) from
    ⟨(HG.begin hp).go (below_new _), sl_at rfl⟩)
  have HV := Lib.hid (show casM (P 129) f t = bits .andNot .i64 (P 129) (bits .or .i64 (lostN f) (lostN t)) from rfl)
  have HC := Lib.hid (show ∀ W, PB W b P → W.cell? ⟨b, 129, none⟩ = some (.int .i64 (P 129)) from fun W h => h.cell 129 (by omega))
  have R1 := Lib.hid (fun w W h => lost_run f hf w W h)
  have R2 := Lib.hid (fun w W h => lost_run t ht w W h)
  clear hp
  generalize casM (P 129) f t = R at *
  generalize P 129 = c at *
  generalize lostN f = lf at *
  generalize lostN t = lt at *
  go_enter Tryz.func197, Tryz.ntmps197
  go_upto_region 1 with (fail)
  refine forget_B (fun W => HG w W b P ∧ W.heap[w.heap.size]? = some (.cells #[.int .i64 (f : Int), .int .i64 (t : Int), .int .i64 k] 46 (0, 0))) HI.out ?_
  clear HI
  rintro W ⟨h1, h2⟩
  have H1 := Lib.hid h1
  have H2 := Lib.hid h2
  clear h1 h2
  go_wp2_with fail
  refine (losses_any _).mono ?_
  rintro e w1 ⟨rfl, hl⟩
  have HI := Lib.hid (show HL w w1 b P f t k W from ⟨H1.out.go hl.b, sl_go H2.out hl.b, hl⟩)
  have hs := hl.m.lt
  clear hl H1 H2
  go_upto_region 2 with (fail)
  have HS := Lib.hid hs
  obtain ⟨x0, x1, x2, xf, xz⟩ := row3 HI.out.m
  replace x0 := cell_regrown x0
  replace x1 := cell_regrown x1
  have y1 := cell_regrown (HC.out _ HI.out.h.q)
  have r1 := fun d os => R1.out W (grow (redrawn w1 d) os) (HI.out.go HS.out (below_regrown w1 d os)).l
  have r2 := fun d os => R2.out W (grow (redrawn w1 d) os) (HI.out.go HS.out (below_regrown w1 d os)).l
  clear x2 xf xz
  refine wp_region_quiet_store 18 (by kernel_rfl) rfl rfl (by kernel_rfl) (by kernel_rfl) (C := fun W' => ∃ p : Regrown, W' = grow (redrawn w1 p.d) p.os) (regrown_self _) ?_
  simp only [List.take_succ_cons, List.take_zero]
  repeat (quiet_step (fail))
  refine wpQuiet_nil ?_
  rintro W6 ⟨q, rfl⟩
  refine ⟨by rfl, ?_⟩
  replace HI := Lib.hid (HI.out.go HS.out (below_regrown w1 q.d q.os))
  clear x0 x1 y1 r1 r2 hs HS
  generalize grow (redrawn w1 q.d) q.os = W6 at HI ⊢
  have e1 := HC.out _ HI.out.h.q
  have e3 := HI.out.h.q.fr 129
  rw [← HV.out]
  have HF := Lib.hid (HI.out.h.set 129 R (by omega))
  go_simp
  go_wp2
  go_end0
  exact ⟨rfl, HF.out⟩
end Go.Proofs.YtkncfeijlmomaaaGreatDoor
