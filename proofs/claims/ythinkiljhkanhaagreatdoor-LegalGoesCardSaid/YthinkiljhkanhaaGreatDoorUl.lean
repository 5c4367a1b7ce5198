/-
  LegalGoes: behind each legal move the position may be played on.
-/
import Derived.Test.YthinkiljhkanhaaGreatDoorUo
import Derived.Test.YthinkiljhkanhaaGreatDoorRx
import Derived.Test.YthinkiljhkanhaaGreatDoorRs
import Derived.Test.YthinkiljhkanhaaGreatDoorG20
namespace Go.Proofs.YthinkiljhkanhaaGreatDoor
open Go.RowKit Go.Sort
set_option linter.unusedSimpArgs false
set_option linter.unusedVariables false
set_option maxRecDepth 20000

theorem tmod_posL (n : Int) (h : 0 < n) (a : Int) : a % n = if a.tmod n < 0 then a.tmod n + n else a.tmod n := by
  rcases Int.lt_or_le a 0 with hn | hn
  · have e : a.tmod n = -((-a) % n) := by
      rw [← Int.tmod_eq_emod_of_nonneg (show 0 ≤ -a by omega), Int.neg_tmod, Int.neg_neg]
    have h1 := Int.emod_nonneg (-a) (show n ≠ 0 by omega)
    have h2 := Int.emod_lt_of_pos (-a) h
    have h3 := Int.emod_add_mul_ediv (-a) n
    rw [e]
    split
    · have : a = (-((-a) % n) + n) + n * (-((-a) / n) - 1) := by
        rw [Int.mul_sub, Int.mul_neg]; omega
      rw [this, Int.add_mul_emod_self_left]
      have e2 : (-((-a) % n) + n + n * (-(-a / n) - 1)) = a := this.symm
      rw [e2]
      exact Int.emod_eq_of_lt (by omega) (by omega)
    · have h0 : (-a) % n = 0 := by omega
      rw [h0]
      have : n ∣ -a := Int.dvd_of_emod_eq_zero h0
      have : n ∣ a := by simpa using this
      rw [Int.emod_eq_zero_of_dvd this]; rfl
  · rw [Int.tmod_eq_emod_of_nonneg hn, if_neg (by have := Int.emod_nonneg a (show n ≠ 0 by omega); omega)]
set_option maxHeartbeats 1000000 in
theorem pickL_any (a n : Int) (h0 : 0 < n) (h1 : n ≤ 100000) (w : World) :
    Calls Tryz.prog 29 #[.int .i64 a, .int .i64 n] w fun e w' => e = .returned (.int .i64 (a % n)) ∧ w = w' := by
  have g1 := Int.tmod_lt_of_pos a h0
  have g2 := Int.lt_tmod_of_pos a h0
  have hm := tmod_posL n h0 a
  have hz : ¬ n < 1 := by omega
  have hnz : (n == 0) = false := beq_eq_false_iff_ne.2 (by omega)
  have hnz2 : ¬ n = 0 := by omega
  by_cases hneg : a.tmod n < 0
  · rw [if_pos hneg] at hm
    rw [hm]
    clear hm
    have s1 : IntKind.i64.wrap (a.tmod n + n) = a.tmod n + n := IntWalk.i64_in _ (by omega)
    have s2 : IntKind.i64.wrap (a.tmod n) = a.tmod n := IntWalk.i64_in _ (by omega)
    go_enter Tryz.func29, Tryz.ntmps29
    go_wp2
    go_ret
    exact ⟨rfl, rfl⟩
  · rw [if_neg hneg] at hm
    rw [hm]
    clear hm
    go_enter Tryz.func29, Tryz.ntmps29
    go_wp2
    go_ret
    exact ⟨rfl, rfl⟩
/-! ### what a move of all is -/
structure AtM (P : Nat → Int) (m s t : Nat) (k : Int) : Prop where
  e1 : mF (allM P) m = (s : Int)
  e2 : mT (allM P) m = (t : Int)
  e3 : mK (allM P) m = k
  mv : MvOk P ((s : Int), (t : Int), k) s t
  up : legU P (m + 1) = legU P m ++ (if okM P s t k then [((s : Int), (t : Int), k)] else [])
  at_ok : okM P s t k = true → (legU P m).length < (legM P).length ∧ mF (legM P) (legU P m).length = (s : Int) ∧ mT (legM P) (legU P m).length = (t : Int) ∧ mK (legM P) (legU P m).length = k
  at_no : okM P s t k = false → (legU P m).length < (legM P).length → (mF (legM P) (legU P m).length == (s : Int) && mT (legM P) (legU P m).length == (t : Int) && mK (legM P) (legU P m).length == k) = false
theorem getD_3 (L : List (Int × Int × Int)) (i : Nat) (h : i < L.length) : L.getD i (0, 0, 0) = L[i] := by rw [List.getD_eq_getElem?_getD, List.getElem?_eq_getElem h]; rfl
theorem atM (P : Nat → Int) (m : Nat) (h : m < (allM P).length) : ∃ (s t : Nat) (k : Int), AtM P m s t k := by
  obtain ⟨s, t, k, hs, ht, h1, h2, h3, h4, h5⟩ := legU_step P m h
  obtain ⟨s', t', hv⟩ := allM_mem P _ (List.getElem_mem h)
  have hx := getD_3 (allM P) m h
  have e1 : (allM P)[m] = ((s : Int), (t : Int), k) := by
    rw [← hx]
    unfold mF at h1
    unfold mT at h2
    unfold mK at h3
    rw [← h1, ← h2, ← h3]
  rw [e1] at hv
  have a1 := hv.f
  have a2 := hv.t
  simp only at a1 a2
  obtain rfl : s = s' := by omega
  obtain rfl : t = t' := by omega
  refine ⟨s, t, k, h1, h2, h3, hv, h4, fun ho => ?_, fun ho hl => ?_⟩
  · have hp := h5 ho
    have hlen := hp.length_le
    rw [List.length_append] at hlen
    simp only [List.length_cons, List.length_nil] at hlen
    have hl : (legU P m).length < (legM P).length := by omega
    have e : (legM P)[(legU P m).length] = ((s : Int), (t : Int), k) := by
      obtain ⟨r, hr⟩ := hp
      have : (legM P)[(legU P m).length]? = some ((s : Int), (t : Int), k) := by
        rw [← hr, List.append_assoc, List.getElem?_append_right (Nat.le_refl _)]; simp
      rw [List.getElem?_eq_getElem hl] at this
      exact Option.some.inj this
    refine ⟨hl, ?_, ?_, ?_⟩
    · unfold mF; rw [getD_3 _ _ hl, e]
    · unfold mT; rw [getD_3 _ _ hl, e]
    · unfold mK; rw [getD_3 _ _ hl, e]
  · rw [Bool.eq_false_iff]
    intro hh
    simp only [Bool.and_eq_true, beq_iff_eq] at hh
    obtain ⟨⟨b1, b2⟩, b3⟩ := hh
    unfold mF at b1
    unfold mT at b2
    unfold mK at b3
    rw [getD_3 _ _ hl] at b1 b2 b3
    have hm : (legM P)[(legU P m).length] ∈ legM P := List.getElem_mem hl
    have e : (legM P)[(legU P m).length] = ((s : Int), (t : Int), k) := by rw [← b1, ← b2, ← b3]
    rw [e] at hm
    have := (leg_mem P _ s t hv).1 hm
    rw [ho] at this; cases this
theorem not_ok (P : Nat → Int) (s t : Nat) (k : Int) (hv : MvOk P ((s : Int), (t : Int), k) s t) (ho : okM P s t k = false) (hc : chkB (mvP P s t k) (P 128) = false) : P (s * 2) = 6 ∧ ((t : Int) = (s : Int) + 2 ∨ (t : Int) = (s : Int) - 2) := by
  have hf : fltN (handP P) s t k = 0 := mv_ok P _ s t hv
  have hb : badC P s t = true := by
    unfold okM badQ at ho
    rw [hf, hc] at ho
    simpa using ho
  unfold badC cstM at hb
  simp only [Bool.and_eq_true, beq_iff_eq, Bool.or_eq_true] at hb
  exact hb.1
theorem row_snoc (R : List (Int × Int × Int)) (x : Int × Int × Int) : (∀ i, i < R.length → mF (R ++ [x]) i = mF R i ∧ mT (R ++ [x]) i = mT R i ∧ mK (R ++ [x]) i = mK R i) ∧ mF (R ++ [x]) R.length = x.1 ∧ mT (R ++ [x]) R.length = x.2.1 ∧ mK (R ++ [x]) R.length = x.2.2 := by
  have e1 : ∀ i, i < R.length → (R ++ [x]).getD i (0, 0, 0) = R.getD i (0, 0, 0) := fun i hi => by rw [List.getD_eq_getElem?_getD, List.getD_eq_getElem?_getD, List.getElem?_append_left hi]
  have e2 : (R ++ [x]).getD R.length (0, 0, 0) = x := by rw [List.getD_eq_getElem?_getD, List.getElem?_append_right (Nat.le_refl _)]; simp
  unfold mF mT mK
  exact ⟨fun i hi => by rw [e1 i hi]; exact ⟨rfl, rfl, rfl⟩, by rw [e2], by rw [e2], by rw [e2]⟩
theorem adv_snoc (P Q : Nat → Int) (R : List (Int × Int × Int)) (s t : Nat) (k : Int) (hq : posB Q = true) (h : advN P (mF R) (mT R) (mK R) R.length = some Q) (hl : ((s : Int), (t : Int), k) ∈ legM Q) (hn : nxP Q s t k = mvP Q s t k) :
    advN P (mF (R ++ [((s : Int), (t : Int), k)])) (mT (R ++ [((s : Int), (t : Int), k)])) (mK (R ++ [((s : Int), (t : Int), k)])) (R ++ [((s : Int), (t : Int), k)]).length = some (mvP Q s t k) := by
  obtain ⟨h1, h2, h3, h4⟩ := row_snoc R ((s : Int), (t : Int), k)
  rw [List.length_append, List.length_cons, List.length_nil, Nat.zero_add]
  have ha : advN P (mF (R ++ [((s : Int), (t : Int), k)])) (mT (R ++ [((s : Int), (t : Int), k)])) (mK (R ++ [((s : Int), (t : Int), k)])) R.length = some Q := by
    rw [← h]; exact adv_congr P _ _ _ _ _ _ _ h1
  have hb : legB Q (mF (R ++ [((s : Int), (t : Int), k)]) R.length) (mT (R ++ [((s : Int), (t : Int), k)]) R.length) (mK (R ++ [((s : Int), (t : Int), k)]) R.length) = true := by
    rw [h2, h3, h4]; exact (legB_iff Q _ _ _).2 hl
  rw [adv_go ha hb, h2, h3, h4]
  simp only [Int.toNat_natCast]
  rw [hn]
theorem HG.app {w6 W w' : World} {bA : Nat} {Q : Nat → Int} {r : Option Nat} (h : HG w6 W bA Q) (g : W.grownBy w' r) (hr : ∀ b, r = some b → w6.heap.size ≤ b) (hbA : bA < w6.heap.size) : HG w6 w' bA Q :=
  ⟨h.q.gr g (by intro e; have := hr _ e.symm; omega), g.os.trans h.g.os, g.tape.trans h.g.tape, g.output.trans h.g.output, Nat.le_trans h.g.size g.size, fun k hk hn => (g.block k (Nat.lt_of_lt_of_le hk h.g.size) (by intro e; have := hr _ e.symm; omega)).trans (h.g.block k hk hn)⟩
theorem HG.low {w w6 W : World} {bA : Nat} {Q : Nat → Int} (h : HG w6 W bA Q) (hb : Below w.heap.size w w6) (hA : w.heap.size ≤ bA) : Below w.heap.size w W := hb.grown h.g hb.size (fun b e => by cases e; exact hA)
theorem HG.put {w6 W : World} {bA : Nat} {Q : Nat → Int} (h : HG w6 W bA Q) (N : Nat → Int) : HG w6 (W.setCells bA 0 (pc N)) bA N := ⟨h.q.store, h.g.trans (grs_B _ 0 W)⟩
set_option maxHeartbeats 32000000 in
set_option maxRecDepth 100000 in
theorem legalGoes_any (P : Nat → Int) (pp : Option Addr) (np cp : Nat) (g : Nat → Int) (w : World) (B : Nat) (hr0 : Reads w.heap.size w pp np (fun i => .int .i64 (g i))) (hgb : GB B w) (hgs : GS B w) (hgm : GM B w) (hgp : GP B w) (hB : B ≤ w.heap.size) :
    Calls Tryz.prog 6 #[.agg (pc P).toArray, .slice pp np cp] w fun e w' => e = .returned (.bool true) ∧ Below w.heap.size w w' := by
  obtain ⟨X, hX⟩ : ∃ X, X = (pc P).toArray := ⟨_, rfl⟩
  have AW := Lib.hid (fun W (h : Below w.heap.size w W) => awake10_any W B (hgb.below (h.mono hB)) (hgs.below (h.mono hB)) (hgm.below (h.mono hB)) (hgp.below (h.mono hB)) (Nat.le_trans hB h.size))
  have MP := Lib.hid (fun Q W (h : Below w.heap.size w W) => position_any Q W B (hgb.below (h.mono hB)) (hgs.below (h.mono hB)) (hgm.below (h.mono hB)) (hgp.below (h.mono hB)) (Nat.le_trans hB h.size))
  have MM := Lib.hid (fun Q W (h : Below w.heap.size w W) => lMoves_any Q W B (hgb.below (h.mono hB)) (hgs.below (h.mono hB)) (hgm.below (h.mono hB)) (hgp.below (h.mono hB)) (Nat.le_trans hB h.size))
  have MA := Lib.hid (fun W (h : Below w.heap.size w W) => all_any P W B (hgs.below (h.mono hB)) (hgm.below (h.mono hB)) (Nat.le_trans hB h.size))
  have MN := Lib.hid (fun W (h : Below w.heap.size w W) => lCount_any P 0 W B (hgb.below (h.mono hB)) (hgs.below (h.mono hB)) (hgm.below (h.mono hB)) (hgp.below (h.mono hB)) (Nat.le_trans hB h.size))
  have MC1 := Lib.hid (fun Q d W (h : Below w.heap.size w W) => chk_any Q d W B (hgs.below (h.mono hB)) (Nat.le_trans hB h.size))
  have MV := Lib.hid (fun Q f t k W (h : Below w.heap.size w W) => move_any Q f t k W B (hgp.below (h.mono hB)) (Nat.le_trans hB h.size))
  have MPL := Lib.hid (fun F T K p n c (hn : n ≤ 100000) W (h : Below w.heap.size w W) hr => lPlay_any P F T K p n c hn W B (hgb.below (h.mono hB)) (hgs.below (h.mono hB)) (hgm.below (h.mono hB)) (hgp.below (h.mono hB)) (Nat.le_trans hB h.size) hr)
  have MP1 := Lib.hid (MP.out P)
  have MM1 := Lib.hid (MM.out P)
  rw [← hX] at MP1 MM1 MA MN MPL ⊢
  obtain ⟨ps, hps⟩ : ∃ b, posB P = b := ⟨_, rfl⟩
  rw [hps] at MP1
  have HNO := Lib.hid (show ps = false → lmM P = [] ∧ cntP P 0 = 0 from fun h => ⟨by unfold lmM; rw [hps, h]; rfl, by unfold cntP; rw [hps, h]; rfl⟩)
  have HPOS := Lib.hid (show ps = true → posB P = true ∧ lmM P = legM P from fun h => ⟨by rw [hps, h], by unfold lmM; rw [hps, h]; rfl⟩)
  obtain ⟨sd, hsd⟩ : ∃ x, P 128 = x := ⟨_, rfl⟩
  have HSD := Lib.hid hsd
  have HRP := Lib.hid hr0
  have HX := Lib.hid hX
  have HP := Lib.hid (pos_box P w X hX 29)
  have HB := Lib.hid (below_new (w := w) (.cells X 29))
  have hi1' := infoMv9
  clear hX hps hsd hr0 hgb hgs hgm hgp
  go_enter Tryz.func6, Tryz.ntmps6
  go_upto_region 1 with (fail)
  have HLW := Lib.hid (show w.heap.size < (w.alloc (.cells X 29)).heap.size by simp)
  generalize w.alloc (.cells X 29) = W at *
  go_wp2_with fail
  refine (AW.out _ HB.out).mono ?_
  rintro e w1 ⟨rfl, hb⟩
  replace HP := Lib.hid (HP.out.go hb)
  replace HB := Lib.hid (HB.out.trans (hb.mono HB.out.size))
  replace HLW := Lib.hid (Nat.lt_of_lt_of_le HLW.out hb.size)
  clear hb AW
  dsimp only
  refine list_go (by assumption) ?_
  by_cases hn14 : (14 : Int) < (np : Int)
  · go_wp2
    go_ret
    exact ⟨rfl, HB.out⟩
  go_wp2_with (refine wpList_pos (by rfl) _ (by rfl) w.heap.size P X HX.out (by rfl) HP.out ?_)
  refine (MP1.out _ HB.out).mono ?_
  rintro e w2 ⟨rfl, hb⟩
  replace HP := Lib.hid (HP.out.go hb)
  replace HB := Lib.hid (HB.out.trans (hb.mono HB.out.size))
  replace HLW := Lib.hid (Nat.lt_of_lt_of_le HLW.out hb.size)
  clear hb MP1
  dsimp only
  refine list_go (by assumption) ?_
  cases ps
  · obtain ⟨hl0, hc0⟩ := HNO.out rfl
    rw [hl0] at MM1
    rw [hc0] at MN
    clear HNO HPOS hl0 hc0
    go_wp2_with (refine wpList_pos (by rfl) _ (by rfl) w.heap.size P X HX.out (by rfl) HP.out ?_)
    refine (MM1.out _ HB.out).mono ?_
    rintro e w3 ⟨v, rfl, hb, hown⟩
    replace HP := Lib.hid (HP.out.go hb)
    replace HB := Lib.hid (HB.out.trans (hb.mono HB.out.size))
    obtain ⟨p1, c1, rfl, _⟩ := reads3_own hown
    clear hb hown MM1
    dsimp only [List.length_nil]
    refine list_go (by assumption) ?_
    go_wp2_with (refine wpList_pos (by rfl) _ (by rfl) w.heap.size P X HX.out (by rfl) HP.out ?_)
    refine (MN.out _ HB.out).mono ?_
    rintro e w4 ⟨rfl, hb⟩
    replace HB := Lib.hid (HB.out.trans (hb.mono HB.out.size))
    clear hb MN
    dsimp only
    refine list_go (by assumption) ?_
    go_wp2
    go_ret
    exact ⟨rfl, HB.out⟩
  obtain ⟨hpos, hlm⟩ := HPOS.out rfl
  rw [hlm] at MM1
  have HPS := Lib.hid hpos
  have HAT := Lib.hid (fun m h => atM P m h)
  have HNX := Lib.hid (fun m (s n : Nat) h ho => okM_leg P hpos m s n h ho)
  have HFL := Lib.hid (fun (s t : Nat) (k : Int) (h : MvOk P ((s : Int), (t : Int), k) s t) => mv_ok P ((s : Int), (t : Int), k) s t h)
  have HNOK := Lib.hid (fun s t k hv ho hc => not_ok P s t k hv ho hc)
  have HFU := Lib.hid (legU_full P)
  have hna := allM_len P
  have hnl := legM_len P
  have HLE := Lib.hid (fun m => (legU_pre P m).length_le)
  obtain ⟨na, hna2⟩ : ∃ n, (allM P).length = n := ⟨_, rfl⟩
  obtain ⟨nl, hnl2⟩ : ∃ n, (legM P).length = n := ⟨_, rfl⟩
  have HOA := Lib.hid (fun (W : World) base v (h : W.ownsRow base 41 3 v (allM P).length (mvals (allM P))) => reads3_own h)
  have HOL := Lib.hid (fun (W : World) base v (h : W.ownsRow base 41 3 v (legM P).length (mvals (legM P))) => reads3_own h)
  rw [hna2] at MA HOA hna HFU
  rw [hnl2] at MM1 HOL hnl HLE
  have HNA := Lib.hid hna2
  have HNL := Lib.hid hnl2
  clear HNO HPOS hpos hlm hna2 hnl2
  go_upto_region 7 with (fail)
  have HBA := Lib.hid (show ∀ W, Below w2.heap.size w2 W → Below w.heap.size w W from fun W h => HB.out.trans (h.mono HB.out.size))
  have HPA := Lib.hid (show ∀ W, Below w2.heap.size w2 W → PB W w.heap.size P from fun W h => HP.out.go h)
  have HI := Lib.hid (Below.refl w2.heap.size w2)
  refine forget_B (fun W => Below w2.heap.size w2 W) HI.out ?_
  clear HI HP HB
  intro W6 h6
  have HI := Lib.hid h6
  clear h6
  refine wp_region_noPanic ?_
  refine wp_region_start (n := 6) (l := #[ff, ff, ff, ff, ff, ff]) (S := (fun W => Below w2.heap.size w2 W)) (by kernel_rfl) rfl (by kernel_rfl) (by first | exact HI.out | exact HI.out.drew) (fun hHeld => ?_)
  replace HI := Lib.hid (show Below w2.heap.size w2 W6.drew from HI.out.drew)
  generalize W6.drew = V at hHeld HI ⊢
  refine take_go (i := 0) (d := some 38) (v := (.agg X)) (l' := #[tt, ff, ff, ff, ff, ff]) rfl rfl ?_ ?_
  · exact yields_posC (by rfl) _ (by rfl) w.heap.size P X HX.out (by rfl) (fun W h => HPA.out W h)
  try simp only [Act.put, List.setIfInBounds_toArray, List.set_cons_zero, List.set_cons_succ]
  refine take_go (i := 2) (d := some 40) (v := (.agg X)) (l' := #[tt, ff, tt, ff, ff, ff]) rfl rfl ?_ ?_
  · exact yields_posC (by rfl) _ (by rfl) w.heap.size P X HX.out (by rfl) (fun W h => HPA.out W h)
  try simp only [Act.put, List.setIfInBounds_toArray, List.set_cons_zero, List.set_cons_succ]
  refine one_to (i := 1) (l' := #[tt, tt, tt, ff, ff, ff]) rfl (by kernel_rfl) (by kernel_rfl) (fun K hK => ?_)
  go_simp
  refine (MA.out _ (HBA.out _ HI.out)).mono ?_
  rintro e V ⟨v, rfl, hb, hown⟩
  obtain ⟨pa, ca, rfl, hr1⟩ := HOA.out _ _ _ hown
  replace HI := Lib.hid (HI.out.trans (hb.mono HI.out.size))
  have HRA := Lib.hid hr1
  clear hb hown hr1
  dsimp only
  refine hK.out _ _ (by first | exact HI.out | exact HI.out.drew) (fun hHeld => ?_)
  clear hK K
  try simp only [Act.put, List.setIfInBounds_toArray, List.set_cons_zero, List.set_cons_succ]
  refine one_to (i := 3) (l' := #[tt, tt, tt, tt, ff, ff]) rfl (by kernel_rfl) (by kernel_rfl) (fun K hK => ?_)
  go_simp
  refine (MM1.out _ (HBA.out _ HI.out)).mono ?_
  rintro e V ⟨v, rfl, hb, hown⟩
  obtain ⟨pl, cl, rfl, hr2⟩ := HOL.out _ _ _ hown
  replace HI := Lib.hid (HI.out.trans (hb.mono HI.out.size))
  replace HRA := Lib.hid ((HRA.out.below hb).mono hb.size)
  have HRL := Lib.hid hr2
  clear hb hown hr2
  dsimp only
  refine hK.out _ _ (by first | exact HI.out | exact HI.out.drew) (fun hHeld => ?_)
  clear hK K
  try simp only [Act.put, List.setIfInBounds_toArray, List.set_cons_zero, List.set_cons_succ]
  refine take_go (i := 4) (d := some 5) (v := ?_) (l' := #[tt, tt, tt, tt, tt, ff]) rfl rfl (Or.inl ⟨by rfl, ?_⟩) ?_; rotate_left; · (intro w' hSw; (try dsimp only at hSw); go_simp; (try with_reducible rfl))
  try simp only [Act.put, List.setIfInBounds_toArray, List.set_cons_zero, List.set_cons_succ]
  refine take_go (i := 5) (d := some 6) (v := ?_) (l' := #[tt, tt, tt, tt, tt, tt]) rfl rfl (Or.inl ⟨by rfl, ?_⟩) ?_; rotate_left; · (intro w' hSw; (try dsimp only at hSw); go_simp; (try with_reducible rfl))
  try simp only [Act.put, List.setIfInBounds_toArray, List.set_cons_zero, List.set_cons_succ]
  refine wpAnyH_done (by kernel_rfl) ?_ _
  refine NoPanic.normal ?_
  clear hHeld
  have HRAA := Lib.hid (show ∀ W, Below V.heap.size V W → Reads3 W.heap.size W pa na (mF (allM P)) (mT (allM P)) (mK (allM P)) from fun W h => (HRA.out.below h).mono h.size)
  have HRLA := Lib.hid (show ∀ W, Below V.heap.size V W → Reads3 W.heap.size W pl nl (mF (legM P)) (mT (legM P)) (mK (legM P)) from fun W h => (HRL.out.below h).mono h.size)
  have HVA := Lib.hid (show ∀ W, Below V.heap.size V W → Below w2.heap.size w2 W from fun W h => HI.out.trans (h.mono HI.out.size))
  have HLV := Lib.hid (show w.heap.size < V.heap.size from Nat.lt_of_lt_of_le HLW.out HI.out.size)
  clear HI HRA HRL MM1 MA HOA HOL HLW
  have HI := Lib.hid (Below.refl V.heap.size V)
  go_wp2
  go_loopw [7, 8] (fun nv iv wr => ∃ m : Nat, m ≤ na ∧ iv = .int .i64 (m : Int) ∧ nv = .int .i64 (((legU P m).length : Nat) : Int) ∧ Below V.heap.size V wr) (fun _ iv _ => na - (intOf iv).toNat)
  case atStart => exact ⟨0, Nat.zero_le _, rfl, rfl, HI.out⟩
  case round =>
    clear HI
    obtain ⟨m, hm, rfl, rfl, hb⟩ := hrel
    have HI := Lib.hid hb
    clear hb
    have hun := HLE.out m
    by_cases hlt : m < na
    · obtain ⟨s, t, k, hat⟩ := HAT.out m (by rw [HNA.out]; exact hlt)
      obtain ⟨u, hu⟩ : ∃ u, (legU P m).length = u := ⟨_, rfl⟩
      rw [hu] at hun
      have hs := hat.mv.hs
      have ht := hat.mv.hn
      have hfl := HFL.out s t k hat.mv
      obtain ⟨N, hN⟩ : ∃ x, mvP P (s : Int) (t : Int) k = x := ⟨_, rfl⟩
      obtain ⟨V9, hV9⟩ : ∃ V, V = (pc N).toArray := ⟨_, rfl⟩
      have MV1 := Lib.hid (MV.out P (s : Int) (t : Int) k)
      rw [hfl, hN, ← hV9, ← HX.out] at MV1
      have MPN := Lib.hid (MP.out N)
      have MCN := Lib.hid (MC1.out N sd)
      rw [← hV9] at MPN MCN
      obtain ⟨ok, hok⟩ : ∃ b, okM P s t k = b := ⟨_, rfl⟩
      obtain ⟨ch, hch⟩ : ∃ b, chkB N sd = b := ⟨_, rfl⟩
      rw [hch] at MCN
      have hup := hat.up
      have h1 := hat.at_ok
      have h2 := hat.at_no
      rw [hok] at hup h1 h2
      rw [hu, HNL.out] at h1 h2
      have HUP := Lib.hid (show (legU P (m + 1)).length = if ok then u + 1 else u by rw [hup, List.length_append, hu]; cases ok <;> rfl)
      have HGO := Lib.hid (show ok = true → posB N = true ∧ ch = false from fun h => by
        have hg := HNX.out ((s : Int), (t : Int), k) s t hat.mv (by rw [hok, h])
        have a1 := hg.pos
        have a2 := hg.chk
        simp only at a1 a2
        rw [hN] at a1 a2
        rw [HSD.out, hch] at a2
        exact ⟨a1, a2⟩)
      have HBAD := Lib.hid (show ok = false → ch = false → P (s * 2) = 6 ∧ ((t : Int) = (s : Int) + 2 ∨ (t : Int) = (s : Int) - 2) from fun h hc => HNOK.out s t k hat.mv (by rw [hok, h]) (by rw [hN, HSD.out, hch, hc]))
      have H1 := Lib.hid h1
      have H2 := Lib.hid h2
      rw [hu]
      have hla : Reads3 wr.heap.size wr pa na (mF (allM P)) (mT (allM P)) (mK (allM P)) := HRAA.out _ HI.out
      obtain ⟨ab, ao, rfl⟩ := hla.addr hlt
      have HCE := Lib.hid (show ∀ W, Below V.heap.size V W → W.cell? ⟨ab, ao + m * 3, none⟩ = some (.int .i64 (s : Int)) ∧ W.cell? ⟨ab, ao + m * 3 + 1, none⟩ = some (.int .i64 (t : Int)) ∧ W.cell? ⟨ab, ao + m * 3 + 2, none⟩ = some (.int .i64 k) from fun W hb => by
        have := (HRAA.out W hb).cells hlt
        rw [hat.e1, hat.e2, hat.e3] at this
        exact this)
      have HPW := Lib.hid (show ∀ W, Below V.heap.size V W → PB W w.heap.size P from fun W hb => HPA.out _ (HVA.out _ hb))
      have HV := Lib.hid hV9
      have HVL := Lib.hid (show V9.toList = pc N by rw [hV9])
      have HST := Lib.hid (And.intro hs ht)
      have HUN := Lib.hid hun
      have i0 : (0 : Int) ≤ (m : Int) := by omega
      have hlti : (m : Int) < (na : Int) := by omega
      have u0 : (0 : Int) ≤ (u : Int) := by omega
      have u1 : (u : Int) ≤ 17920 := by omega
      clear hat hu hs ht hfl hN hV9 hok hch hup h1 h2 hla hun
      go_upto_region 12 with (fail)
      go_cut [9, 10] from 48 to 56 (fun v8 v9 wx => ∃ H, v8 = .pointer (some ⟨H, 0, none⟩) ∧ v9 = .int .i64 0 ∧ PB wx H N ∧ Below V.heap.size V wx)
      case first =>
        refine wp_region_noPanic ?_
        refine wp_region_start (n := 12) (l := #[ff, ff, ff, ff, ff, ff, ff, ff, ff, ff, ff, ff]) (S := (fun W => Below V.heap.size V W)) (by kernel_rfl) rfl (by kernel_rfl) (by first | exact HI.out | exact HI.out.drew) (fun hHeld => ?_)
        replace HI := Lib.hid (show Below V.heap.size V wr.drew from HI.out.drew)
        generalize wr.drew = V0 at hHeld HI ⊢
        refine take_go (i := 0) (d := some 49) (v := (.agg X)) (l' := #[tt, ff, ff, ff, ff, ff, ff, ff, ff, ff, ff, ff]) rfl rfl ?_ ?_
        · exact yields_posC (by rfl) _ (by rfl) w.heap.size P X HX.out (by rfl) (fun W h => HPW.out W h)
        try simp only [Act.put, List.setIfInBounds_toArray, List.set_cons_zero, List.set_cons_succ]
        refine take_go (i := 1) (d := some 50) (v := ?_) (l' := #[tt, tt, ff, ff, ff, ff, ff, ff, ff, ff, ff, ff]) rfl rfl (Or.inl ⟨by rfl, ?_⟩) ?_; rotate_left; · (intro w' hSw; (try dsimp only at hSw); go_simp; (try with_reducible rfl))
        try simp only [Act.put, List.setIfInBounds_toArray, List.set_cons_zero, List.set_cons_succ]
        refine take_go (i := 2) (d := some 51) (v := ?_) (l' := #[tt, tt, tt, ff, ff, ff, ff, ff, ff, ff, ff, ff]) rfl rfl (Or.inl ⟨by rfl, ?_⟩) ?_; rotate_left; · (intro w' hSw; (try dsimp only at hSw); go_simp; (try with_reducible rfl))
        try simp only [Act.put, List.setIfInBounds_toArray, List.set_cons_zero, List.set_cons_succ]
        refine take_go (i := 3) (d := some 52) (v := ?_) (l' := #[tt, tt, tt, tt, ff, ff, ff, ff, ff, ff, ff, ff]) rfl rfl (Or.inl ⟨by rfl, ?_⟩) ?_; rotate_left; · (intro w' hSw; (try dsimp only at hSw); go_simp; (try with_reducible rfl))
        try simp only [Act.put, List.setIfInBounds_toArray, List.set_cons_zero, List.set_cons_succ]
        refine take_go (i := 4) (d := some 53) (v := (.agg #[.int .i64 (s : Int), .int .i64 (t : Int), .int .i64 k])) (l' := #[tt, tt, tt, tt, tt, ff, ff, ff, ff, ff, ff, ff]) rfl rfl ?_ ?_
        · refine Or.inl ⟨by rfl, ?_⟩; intro w' hSw; (try dsimp only at hSw); obtain ⟨e0, e1, e2⟩ := HCE.out w' hSw; go_simp
        try simp only [Act.put, List.setIfInBounds_toArray, List.set_cons_zero, List.set_cons_succ]
        refine two_to (i := 5) (j := 9) (l1 := #[tt, tt, tt, tt, tt, tt, ff, ff, ff, ff, ff, ff]) (l2 := #[tt, tt, tt, tt, tt, ff, ff, ff, ff, tt, ff, ff]) rfl rfl (by kernel_rfl) (by kernel_rfl) (by kernel_rfl) (fun K hK => ?_) (fun K hK => ?_)
        · skip
          go_simp
          refine (MV1.out _ (HBA.out _ (HVA.out _ HI.out))).mono ?_
          rintro e V0 ⟨rfl, hb⟩
          replace HI := Lib.hid (HI.out.trans (hb.mono HI.out.size))
          try replace HZB := Lib.hid (HZB.out.go hb)
          clear hb
          dsimp only
          refine hK.out _ _ (by first | exact HI.out | exact HI.out.drew) (fun hHeld => ?_)
          clear hK K
          try simp only [Act.put, List.setIfInBounds_toArray, List.set_cons_zero, List.set_cons_succ]
          refine take_go (i := 6) (d := some 48) (v := ?_) (l' := #[tt, tt, tt, tt, tt, tt, tt, ff, ff, ff, ff, ff]) rfl rfl (Or.inl ⟨by rfl, ?_⟩) ?_; rotate_left; · (intro w' hSw; (try dsimp only at hSw); go_simp; (try with_reducible rfl))
          try simp only [Act.put, List.setIfInBounds_toArray, List.set_cons_zero, List.set_cons_succ]
          refine take_go (i := 7) (d := some 55) (v := ?_) (l' := #[tt, tt, tt, tt, tt, tt, tt, tt, ff, ff, ff, ff]) rfl rfl (Or.inl ⟨by rfl, ?_⟩) ?_; rotate_left; · (intro w' hSw; (try dsimp only at hSw); go_simp; (try with_reducible rfl))
          try simp only [Act.put, List.setIfInBounds_toArray, List.set_cons_zero, List.set_cons_succ]
          refine take_go (i := 8) (d := some 56) (v := ?_) (l' := #[tt, tt, tt, tt, tt, tt, tt, tt, tt, ff, ff, ff]) rfl rfl (Or.inl ⟨by rfl, ?_⟩) ?_; rotate_left; · (intro w' hSw; (try dsimp only at hSw); go_simp; (try with_reducible rfl))
          try simp only [Act.put, List.setIfInBounds_toArray, List.set_cons_zero, List.set_cons_succ]
          refine one_to (i := 9) (l' := #[tt, tt, tt, tt, tt, tt, tt, tt, tt, tt, ff, ff]) rfl (by kernel_rfl) (by kernel_rfl) (fun K hK => ?_)
          go_simp
          have hb5 : Below V0.heap.size V0 (V0.alloc (.cells Tryz.zeroCells29 29)) := below_new _
          have HZB := Lib.hid (show PB (V0.alloc (.cells Tryz.zeroCells29 29)) V0.heap.size (fun _ => 0) by rw [zeroPos]; exact PB.new rfl)
          have HHL := Lib.hid (show V.heap.size ≤ V0.heap.size from HI.out.size)
          replace HI := Lib.hid (HI.out.trans (hb5.mono HI.out.size))
          clear hb5
          generalize V0.heap.size = H at HZB HHL ⊢
          generalize V0.alloc (.cells Tryz.zeroCells29 29) = V0 at *
          refine hK.out _ _ (by first | exact HI.out | exact HI.out.drew) (fun hHeld => ?_)
          clear hK K
          try simp only [Act.put, List.setIfInBounds_toArray, List.set_cons_zero, List.set_cons_succ]
          refine one_to (i := 10) (l' := #[tt, tt, tt, tt, tt, tt, tt, tt, tt, tt, tt, ff]) rfl (by kernel_rfl) (by kernel_rfl) (fun K hK => ?_)
          rw [if_pos (by rfl)]
          refine wp_store_mid 29 _ _ rfl H 0 V9 rfl rfl (by rw [HV.out, pc_size]; exact HZB.out.there) (by rw [infoPos, HV.out, pc_size]) (by rw [HV.out]; exact pc_one _) ?_
          rw [HVL.out]
          have HNB := Lib.hid (HZB.out.store (Q := N))
          replace HI := Lib.hid (below_store (b := H) N HI.out HHL.out HI.out.size)
          generalize V0.setCells H 0 (pc N) = V0 at HNB HI ⊢
          refine hK.out _ _ (by first | exact HI.out | exact HI.out.drew) (fun hHeld => ?_)
          clear hK K
          try simp only [Act.put, List.setIfInBounds_toArray, List.set_cons_zero, List.set_cons_succ]
          refine take_go (i := 11) (d := some 10) (v := ?_) (l' := #[tt, tt, tt, tt, tt, tt, tt, tt, tt, tt, tt, tt]) rfl rfl (Or.inl ⟨by rfl, ?_⟩) ?_; rotate_left; · (intro w' hSw; (try dsimp only at hSw); go_simp; (try with_reducible rfl))
          try simp only [Act.put, List.setIfInBounds_toArray, List.set_cons_zero, List.set_cons_succ]
          refine wpAnyH_done (by kernel_rfl) ?_ _
          refine NoPanic.normal ?_
          clear hHeld
          go_wp2_with fail
          go_meet
          exact ⟨H, rfl, rfl, HNB.out, HI.out⟩
        · skip
          go_simp
          have hb5 : Below V0.heap.size V0 (V0.alloc (.cells Tryz.zeroCells29 29)) := below_new _
          have HZB := Lib.hid (show PB (V0.alloc (.cells Tryz.zeroCells29 29)) V0.heap.size (fun _ => 0) by rw [zeroPos]; exact PB.new rfl)
          have HHL := Lib.hid (show V.heap.size ≤ V0.heap.size from HI.out.size)
          replace HI := Lib.hid (HI.out.trans (hb5.mono HI.out.size))
          clear hb5
          generalize V0.heap.size = H at HZB HHL ⊢
          generalize V0.alloc (.cells Tryz.zeroCells29 29) = V0 at *
          refine hK.out _ _ (by first | exact HI.out | exact HI.out.drew) (fun hHeld => ?_)
          clear hK K
          try simp only [Act.put, List.setIfInBounds_toArray, List.set_cons_zero, List.set_cons_succ]
          refine one_to (i := 5) (l' := #[tt, tt, tt, tt, tt, tt, ff, ff, ff, tt, ff, ff]) rfl (by kernel_rfl) (by kernel_rfl) (fun K hK => ?_)
          go_simp
          refine (MV1.out _ (HBA.out _ (HVA.out _ HI.out))).mono ?_
          rintro e V0 ⟨rfl, hb⟩
          replace HI := Lib.hid (HI.out.trans (hb.mono HI.out.size))
          try replace HZB := Lib.hid (HZB.out.go hb)
          clear hb
          dsimp only
          refine hK.out _ _ (by first | exact HI.out | exact HI.out.drew) (fun hHeld => ?_)
          clear hK K
          try simp only [Act.put, List.setIfInBounds_toArray, List.set_cons_zero, List.set_cons_succ]
          refine take_go (i := 6) (d := some 48) (v := ?_) (l' := #[tt, tt, tt, tt, tt, tt, tt, ff, ff, tt, ff, ff]) rfl rfl (Or.inl ⟨by rfl, ?_⟩) ?_; rotate_left; · (intro w' hSw; (try dsimp only at hSw); go_simp; (try with_reducible rfl))
          try simp only [Act.put, List.setIfInBounds_toArray, List.set_cons_zero, List.set_cons_succ]
          refine take_go (i := 7) (d := some 55) (v := ?_) (l' := #[tt, tt, tt, tt, tt, tt, tt, tt, ff, tt, ff, ff]) rfl rfl (Or.inl ⟨by rfl, ?_⟩) ?_; rotate_left; · (intro w' hSw; (try dsimp only at hSw); go_simp; (try with_reducible rfl))
          try simp only [Act.put, List.setIfInBounds_toArray, List.set_cons_zero, List.set_cons_succ]
          refine take_go (i := 8) (d := some 56) (v := ?_) (l' := #[tt, tt, tt, tt, tt, tt, tt, tt, tt, tt, ff, ff]) rfl rfl (Or.inl ⟨by rfl, ?_⟩) ?_; rotate_left; · (intro w' hSw; (try dsimp only at hSw); go_simp; (try with_reducible rfl))
          try simp only [Act.put, List.setIfInBounds_toArray, List.set_cons_zero, List.set_cons_succ]
          refine one_to (i := 10) (l' := #[tt, tt, tt, tt, tt, tt, tt, tt, tt, tt, tt, ff]) rfl (by kernel_rfl) (by kernel_rfl) (fun K hK => ?_)
          rw [if_pos (by rfl)]
          refine wp_store_mid 29 _ _ rfl H 0 V9 rfl rfl (by rw [HV.out, pc_size]; exact HZB.out.there) (by rw [infoPos, HV.out, pc_size]) (by rw [HV.out]; exact pc_one _) ?_
          rw [HVL.out]
          have HNB := Lib.hid (HZB.out.store (Q := N))
          replace HI := Lib.hid (below_store (b := H) N HI.out HHL.out HI.out.size)
          generalize V0.setCells H 0 (pc N) = V0 at HNB HI ⊢
          refine hK.out _ _ (by first | exact HI.out | exact HI.out.drew) (fun hHeld => ?_)
          clear hK K
          try simp only [Act.put, List.setIfInBounds_toArray, List.set_cons_zero, List.set_cons_succ]
          refine take_go (i := 11) (d := some 10) (v := ?_) (l' := #[tt, tt, tt, tt, tt, tt, tt, tt, tt, tt, tt, tt]) rfl rfl (Or.inl ⟨by rfl, ?_⟩) ?_; rotate_left; · (intro w' hSw; (try dsimp only at hSw); go_simp; (try with_reducible rfl))
          try simp only [Act.put, List.setIfInBounds_toArray, List.set_cons_zero, List.set_cons_succ]
          refine wpAnyH_done (by kernel_rfl) ?_ _
          refine NoPanic.normal ?_
          clear hHeld
          go_wp2_with fail
          go_meet
          exact ⟨H, rfl, rfl, HNB.out, HI.out⟩
      case rest =>
      obtain ⟨H, rfl, rfl, h1, h2⟩ := hcut
      have HPN := Lib.hid h1
      replace HI := Lib.hid h2
      clear h1 h2 MV1
      go_upto_region 13 with (fail)
      refine forget_B (fun W => PB W H N ∧ Below V.heap.size V W) ⟨HPN.out, HI.out⟩ ?_
      clear HPN HI
      rintro W3 ⟨h1, h2⟩
      have HPN := Lib.hid h1
      have HI := Lib.hid h2
      clear h1 h2
      go_cut [71] from 57 to 71 (fun v wx => v = .bool ok ∧ PB wx H N ∧ Below V.heap.size V wx)
      case first =>
        by_cases hul : u < nl
        · have hll : Reads3 W3.heap.size W3 pl nl (mF (legM P)) (mT (legM P)) (mK (legM P)) := HRLA.out _ HI.out
          obtain ⟨lb, lo, rfl⟩ := hll.addr hul
          obtain ⟨y0, y1, y2⟩ := hll.cells hul
          obtain ⟨x0, x1, x2⟩ := HCE.out _ HI.out
          obtain ⟨yf, hyf⟩ : ∃ z, mF (legM P) u = z := ⟨_, rfl⟩
          obtain ⟨yt, hyt⟩ : ∃ z, mT (legM P) u = z := ⟨_, rfl⟩
          obtain ⟨yk, hyk⟩ : ∃ z, mK (legM P) u = z := ⟨_, rfl⟩
          rw [hyf] at y0
          rw [hyt] at y1
          rw [hyk] at y2
          have hb9 : (yf == (s : Int) && yt == (t : Int) && yk == k) = ok := by
            rw [← hyf, ← hyt, ← hyk]
            cases ok
            · exact H2.out rfl hul
            · obtain ⟨_, a1, a2, a3⟩ := H1.out rfl
              rw [a1, a2, a3]; simp
          have NX := Lib.hid (fun W => eql_mv10 yf yt yk (s : Int) (t : Int) k W)
          rw [hb9] at NX
          have hui : (u : Int) < (nl : Int) := by omega
          have hud : decide ((u : Int) < (nl : Int)) = true := by simp; omega
          replace y0 := cell_regrown y0
          replace y1 := cell_regrown y1
          replace y2 := cell_regrown y2
          replace x0 := cell_regrown x0
          replace x1 := cell_regrown x1
          replace x2 := cell_regrown x2
          clear hll hyf hyt hyk hb9
          refine wp_region_quiet_below (by kernel_rfl) (by kernel_rfl) ?_
          iterate 13 (go_big_quiet_step (fail))
          refine wpQuiet_bin (by rfl) _ _ _ _ _ (by rfl) (.agg #[.int .i64 yf, .int .i64 yt, .int .i64 yk]) (.agg #[.int .i64 (s : Int), .int .i64 (t : Int), .int .i64 k]) (.bool ok) (by rfl) (by rfl) (fun W => by go_simp) NX.out ?_
          try simp only [Act.put, List.setIfInBounds_toArray, List.set_cons_zero, List.set_cons_succ]
          repeat (go_big_quiet_step (fail))
          refine wpQuiet_nil ?_
          rintro W9 ⟨pq, rfl⟩
          replace HPN := Lib.hid (HPN.out.go (below_regrown W3 pq.d pq.os))
          replace HI := Lib.hid (HI.out.trans ((below_regrown W3 pq.d pq.os).mono HI.out.size))
          clear x0 x1 x2 y0 y1 y2 NX
          generalize grow (redrawn W3 pq.d) pq.os = W9 at HPN HI ⊢
          try go_wp2_with fail
          go_meet
          exact ⟨rfl, HPN.out, HI.out⟩
        · have hui : ¬ ((u : Int) < (nl : Int)) := by omega
          have hud : decide ((u : Int) < (nl : Int)) = false := by simp; omega
          have hkf : ok = false := by
            cases ok
            · rfl
            · exact absurd (H1.out rfl).1 hul
          have HKF := Lib.hid hkf
          clear hkf
          refine wp_region_quiet_below (by kernel_rfl) (by kernel_rfl) ?_
          repeat (go_big_quiet_step (fail))
          refine wpQuiet_nil ?_
          rintro W9 ⟨pq, rfl⟩
          replace HPN := Lib.hid (HPN.out.go (below_regrown W3 pq.d pq.os))
          replace HI := Lib.hid (HI.out.trans ((below_regrown W3 pq.d pq.os).mono HI.out.size))
          generalize grow (redrawn W3 pq.d) pq.os = W9 at HPN HI ⊢
          try go_wp2_with fail
          go_meet
          exact ⟨by rw [HKF.out], HPN.out, HI.out⟩
      case rest =>
      obtain ⟨rfl, h1, h2⟩ := hcut
      replace HPN := Lib.hid h1
      replace HI := Lib.hid h2
      clear h1 h2 H1 H2
      cases ok
      case true =>
        obtain ⟨hpn, rfl⟩ := HGO.out rfl
        rw [hpn] at MPN
        have HUP2 := Lib.hid (show (legU P (m + 1)).length = u + 1 from HUP.out)
        have e1 := (HPW.out _ HI.out).cell 128 (by omega)
        rw [HSD.out] at e1
        clear HGO HBAD HUP hpn
        go_wp2_with (refine wpList_pos (by rfl) _ (by rfl) H N V9 HV.out (by rfl) HPN.out ?_)
        refine (MPN.out _ (HBA.out _ (HVA.out _ HI.out))).mono ?_
        rintro e w7 ⟨rfl, hb⟩
        replace HPN := Lib.hid (HPN.out.go hb)
        replace HI := Lib.hid (HI.out.trans (hb.mono HI.out.size))
        replace e1 := (HPW.out _ HI.out).cell 128 (by omega)
        rw [HSD.out] at e1
        clear hb MPN
        dsimp only
        refine list_go (by assumption) ?_
        go_wp2_with (refine wpList_pos (by rfl) _ (by rfl) H N V9 HV.out (by rfl) HPN.out ?_)
        refine (MCN.out _ (HBA.out _ (HVA.out _ HI.out))).mono ?_
        rintro e w8 ⟨rfl, hb⟩
        replace HI := Lib.hid (HI.out.trans (hb.mono HI.out.size))
        clear hb MCN e1 HPN
        dsimp only
        refine list_go (by assumption) ?_
        go_wp2
        go_roundw
        case rel => exact ⟨m + 1, by omega, by go_num, by rw [HUP2.out]; go_num, HI.out⟩
        case measure => simp [intOf]; omega
      case false =>
        have HUP2 := Lib.hid (show (legU P (m + 1)).length = u from HUP.out)
        obtain ⟨hs, ht⟩ := HST.out
        obtain ⟨wd, hwd⟩ : ∃ x : Int, (t : Int) - (s : Int) = x := ⟨_, rfl⟩
        have hw1 : IntKind.i64.wrap ((t : Int) - (s : Int)) = wd := by rw [← hwd]; exact IntWalk.i64_in _ (by omega)
        have HWD := Lib.hid hwd
        have s0 : (0 : Int) ≤ (s : Int) := by omega
        have s1 : (s : Int) < 64 := by omega
        clear HGO HUP hwd
        go_upto_region 17 with (fail)
        refine forget_B (fun W => PB W H N ∧ Below V.heap.size V W) ⟨HPN.out, HI.out⟩ ?_
        clear HPN HI
        rintro W7 ⟨h1, h2⟩
        have HPN := Lib.hid h1
        have HI := Lib.hid h2
        clear h1 h2
        obtain ⟨x0, x1, x2⟩ := HCE.out _ HI.out
        have g0 := cell_regrown x0
        have g1 := cell_regrown x1
        clear x0 x1 x2
        refine wp_region_quiet_below (by kernel_rfl) (by kernel_rfl) ?_
        repeat (go_big_quiet_step (fail))
        refine wpQuiet_nil ?_
        rintro W9 ⟨pq, rfl⟩
        replace HPN := Lib.hid (HPN.out.go (below_regrown W7 pq.d pq.os))
        replace HI := Lib.hid (HI.out.trans ((below_regrown W7 pq.d pq.os).mono HI.out.size))
        clear g0 g1 hw1
        generalize grow (redrawn W7 pq.d) pq.os = W9 at HPN HI ⊢
        have e1 := (HPW.out _ HI.out).cell 128 (by omega)
        rw [HSD.out] at e1
        go_wp2_with (refine wpList_pos (by rfl) _ (by rfl) H N V9 HV.out (by rfl) HPN.out ?_)
        refine (MCN.out _ (HBA.out _ (HVA.out _ HI.out))).mono ?_
        rintro e w8 ⟨rfl, hb⟩
        replace HI := Lib.hid (HI.out.trans (hb.mono HI.out.size))
        clear hb MCN e1 HPN
        dsimp only
        refine list_go (by assumption) ?_
        cases ch
        case true =>
          go_wp2
          go_roundw
          case rel => exact ⟨m + 1, by omega, by go_num, by rw [HUP2.out], HI.out⟩
          case measure => simp [intOf]; omega
        obtain ⟨hk6, hto⟩ := HBAD.out (by trivial) (by trivial)
        have e6 := (HPW.out _ HI.out).cell (s * 2) (by omega)
        rw [hk6] at e6
        obtain ⟨x0, x1, x2⟩ := HCE.out _ HI.out
        have hwd := HWD.out
        rcases hto with h | h
        · obtain rfl : wd = 2 := by omega
          clear hwd h
          go_wp2
          go_roundw
          case rel => exact ⟨m + 1, by omega, by go_num, by rw [HUP2.out], HI.out⟩
          case measure => simp [intOf]; omega
        · obtain rfl : wd = -2 := by omega
          clear hwd h
          go_wp2
          go_roundw
          case rel => exact ⟨m + 1, by omega, by go_num, by rw [HUP2.out], HI.out⟩
          case measure => simp [intOf]; omega
    · obtain rfl : m = na := by omega
      clear hun HAT HNX HFL HNOK HLE
      rw [HFU.out, HNL.out]
      clear HFU
      have hnn : ((nl : Int) != (nl : Int)) = false := by simp
      go_upto_region 23 with (fail)
      refine forget_B (fun W => Below V.heap.size V W) HI.out ?_
      clear HI
      intro W5 h5
      have HI := Lib.hid h5
      clear h5
      go_wp2_with (first | refine wpList_pos (by rfl) _ (by rfl) w.heap.size P X HX.out (by rfl) (HPA.out _ (HVA.out _ HI.out)) ?_ | refine wpList_new X P HX.out (by rfl) (by rfl) ?_)
      intro w6 hq hb hz
      have HA := Lib.hid (show W5.heap.size < w6.heap.size by omega)
      have HWA := Lib.hid (show w.heap.size < W5.heap.size from Nat.lt_of_lt_of_le HLV.out HI.out.size)
      have HB6 := Lib.hid (HBA.out _ (HVA.out _ (HI.out.trans (hb.mono HI.out.size))))
      have HPP := Lib.hid (HPA.out _ (HVA.out _ (HI.out.trans (hb.mono HI.out.size))))
      have HH := Lib.hid (HG.begin hq)
      clear hq hb hz HI HVA HPA HRAA HRLA
      generalize W5.heap.size = bA at *
      try simp only [Act.put, List.setIfInBounds_toArray, List.set_cons_zero, List.set_cons_succ]
      go_wp2
      go_loopw [12, 14] (fun rv iv wr => ∃ (j : Nat) (Q : Nat → Int) (R : List (Int × Int × Int)) (v : Value), j ≤ np ∧ iv = .int .i64 (j : Int) ∧ rv = v ∧ R.length = j ∧ wr.ownsRow w6.heap.size 41 3 v j (mvals R) ∧ posB Q = true ∧ advN P (mF R) (mT R) (mK R) R.length = some Q ∧ HG w6 wr bA Q) (fun _ iv _ => np - (intOf iv).toNat)
      case atStart => exact ⟨0, P, [], _, Nat.zero_le _, rfl, rfl, rfl, World.ownsRow_nil _ _ _ _, HPS.out, rfl, HH.out⟩
      case round =>
        clear HH
        obtain ⟨j, Q, R, rv, hj, rfl, hrv, hRl, hown, hpq, hadv, hh⟩ := hrel
        replace hrv := hrv.symm
        subst hrv
        have HH := Lib.hid hh
        have HOW := Lib.hid hown
        have HBB := Lib.hid (hh.low HB6.out (Nat.le_of_lt HWA.out))
        clear hh hown
        by_cases hlt : j < np
        · obtain ⟨XQ, hXQ⟩ : ∃ X, X = (pc Q).toArray := ⟨_, rfl⟩
          have hlmq : lmM Q = legM Q := by unfold lmM; rw [hpq]; rfl
          have MMQ := Lib.hid (MM.out Q)
          rw [hlmq, ← hXQ] at MMQ
          have HATQ := Lib.hid (fun m h => leg_at Q hpq m h)
          have hn3b := legM_len Q
          obtain ⟨n3, hn3⟩ : ∃ n, (legM Q).length = n := ⟨_, rfl⟩
          have HOQ := Lib.hid (fun (W : World) base v (h : W.ownsRow base 41 3 v (legM Q).length (mvals (legM Q))) => reads3_own h)
          rw [hn3] at MMQ HOQ hn3b
          have HN3 := Lib.hid hn3
          have HXQ := Lib.hid hXQ
          have HRL := Lib.hid hRl
          have HADV := Lib.hid hadv
          have HPQ := Lib.hid hpq
          have hrd := HRP.out.below HBB.out
          rcases hrd with h0 | ⟨rb, off, rfl, hbb, hc⟩
          · omega
          have e0 : wr.cell? ⟨rb, off + j, none⟩ = some (.int .i64 (g j)) := hc j hlt
          obtain ⟨gj, hgj⟩ : ∃ y, g j = y := ⟨_, rfl⟩
          rw [hgj] at e0
          have HE0 := Lib.hid e0
          have j0 : (0 : Int) ≤ (j : Int) := by omega
          have hlti : (j : Int) < (np : Int) := by omega
          clear hlmq hn3 hXQ hRl hadv hpq hc hgj hbb e0
          go_wp2_with (refine wpList_pos (by rfl) _ (by rfl) bA Q XQ HXQ.out (by rfl) HH.out.q ?_)
          refine (MMQ.out _ HBB.out).mono ?_
          rintro e w7 ⟨v, rfl, hb, hownq⟩
          obtain ⟨p3, c3, rfl, hr3⟩ := HOQ.out _ _ _ hownq
          replace HH := Lib.hid (HH.out.go hb)
          replace HBB := Lib.hid (HBB.out.trans (hb.mono HBB.out.size))
          replace HOW := Lib.hid (owns_go HOW.out hb)
          replace HE0 := Lib.hid ((hb.cell (p := ⟨rb, off + j, none⟩) (block_lt_of_cell HE0.out)).trans HE0.out)
          have HR3 := Lib.hid hr3
          clear hb hownq hr3 MMQ HOQ
          dsimp only
          refine list_go (by assumption) ?_
          by_cases hz3 : n3 = 0
          · subst hz3
            go_wp2
            go_ret
            exact ⟨rfl, HBB.out⟩
          have hz3b : ((n3 : Int) == 0) = false := by simp; omega
          have n30 : (0 : Int) < (n3 : Int) := by omega
          have hmod0 := Int.emod_nonneg gj (show (n3 : Int) ≠ 0 by omega)
          have hmod1 := Int.emod_lt_of_pos gj n30
          obtain ⟨i3, hi3⟩ := Int.eq_ofNat_of_zero_le hmod0
          have hi3n : i3 < n3 := by omega
          have MPK := Lib.hid (fun W => pickL_any gj (n3 : Int) n30 (by omega) W)
          rw [hi3] at MPK
          obtain ⟨s, t, k, q1, q2, q3, hg, hel⟩ := HATQ.out i3 (by rw [HN3.out]; exact hi3n)
          obtain ⟨sb, so, rfl⟩ := HR3.out.addr hi3n
          obtain ⟨y0, y1, y2⟩ := HR3.out.cells hi3n
          rw [q1] at y0
          rw [q2] at y1
          rw [q3] at y2
          have hnx := hg.nx
          have hpos := hg.pos
          have hsid := hg.x.side
          have hfl := hg.x.flt
          simp only at hnx hpos hsid hfl
          have hadv2 := adv_snoc P Q R s t k HPQ.out HADV.out (by rw [← hel]; exact List.getElem_mem _) hnx
          have MVQ := Lib.hid (MV.out Q (s : Int) (t : Int) k)
          obtain ⟨N, hN⟩ : ∃ x, mvP Q (s : Int) (t : Int) k = x := ⟨_, rfl⟩
          obtain ⟨V9, hV9⟩ : ∃ V, V = (pc N).toArray := ⟨_, rfl⟩
          rw [hfl, hN, ← hV9, ← HXQ.out] at MVQ
          rw [hN] at hadv2 hpos hsid
          have MPN := Lib.hid (MP.out N)
          rw [hpos, ← hV9] at MPN
          obtain ⟨R2, hR2⟩ : ∃ R2, R ++ [((s : Int), (t : Int), k)] = R2 := ⟨_, rfl⟩
          have hl2 : R2.length = j + 1 := by rw [← hR2, List.length_append, HRL.out]; rfl
          rw [hR2] at hadv2
          have hpl : plP P (mF R2) (mT R2) (mK R2) (j + 1) = N ∧ plE P (mF R2) (mT R2) (mK R2) (j + 1) = 0 := by
            rw [hl2] at hadv2
            unfold plP plE
            rw [HPS.out, hadv2]
            exact ⟨rfl, rfl⟩
          have MPR := Lib.hid (fun p c W h hr => MPL.out (mF R2) (mT R2) (mK R2) p (j + 1) c (by omega) W h hr)
          rw [hpl.1, hpl.2, ← hV9] at MPR
          obtain ⟨qd, hqd⟩ : ∃ z, Q 128 = z := ⟨_, rfl⟩
          obtain ⟨nd, hnd⟩ : ∃ z, N 128 = z := ⟨_, rfl⟩
          have MO := Lib.hid (fun W => other_any qd W)
          rw [← hqd, ← hsid, hnd, hqd] at MO
          have HCQ := Lib.hid (show ∀ W, PB W bA Q → W.cell? ⟨bA, 128, none⟩ = some (.int .i64 qd) from fun W hp => by rw [← hqd]; exact hp.cell 128 (by omega))
          have HCN := Lib.hid (show ∀ W b, PB W b N → W.cell? ⟨b, 128, none⟩ = some (.int .i64 nd) from fun W b hp => by rw [← hnd]; exact hp.cell 128 (by omega))
          have HV := Lib.hid hV9
          have HVL := Lib.hid (show V9.toList = pc N by rw [hV9])
          have HMV := Lib.hid (show mvals R ++ [.int .i64 (s : Int), .int .i64 (t : Int), .int .i64 k] = mvals R2 by rw [mvals_snoc, hR2])
          have HA2 := Lib.hid hadv2
          have HPO := Lib.hid hpos
          have HL2 := Lib.hid hl2
          have e0 := HE0.out
          have i30 : (0 : Int) ≤ (i3 : Int) := by omega
          have i31 : (i3 : Int) < (n3 : Int) := by omega
          clear hmod0 hmod1 hi3 q1 q2 q3 hg hel hnx hpos hsid hfl hadv2 hN hV9 hR2 hl2 hpl hqd hnd HE0 HR3 HATQ
          go_wp2_with fail
          refine (MPK.out _).mono ?_
          rintro e w8 ⟨rfl, rfl⟩
          clear MPK
          dsimp only
          refine list_go (by assumption) ?_
          go_upto_region 30 with (fail)
          have HMLT := Lib.hid (show ∀ b, rv.ownBlock = some b → w6.heap.size ≤ b ∧ b < w7.heap.size from fun b e => HOW.out.lt b e)
          refine forget_B (fun W => HG w6 W bA Q ∧ Below w.heap.size w W ∧ W.ownsRow w6.heap.size 41 3 rv j (mvals R) ∧ W.heap[w7.heap.size]? = some (.cells #[.int .i64 (s : Int), .int .i64 (t : Int), .int .i64 k] 41 (0, 0)) ∧ w6.heap.size ≤ W.heap.size) ⟨HH.out.go (below_new _), HBB.out.alloc HBB.out.size _, owns_go HOW.out (below_new _), sl_at rfl, Nat.le_trans HH.out.g.size (by simp)⟩ ?_
          clear HH HBB HOW e0 y0 y1 y2
          rintro W8 ⟨h1, h2, h3, h4, h5⟩
          have HH := Lib.hid h1
          have HBB := Lib.hid h2
          have HOW := Lib.hid h3
          have HM := Lib.hid h4
          have HS8 := Lib.hid h5
          clear h1 h2 h3 h4 h5
          generalize w7.heap.size = mb at *
          obtain ⟨i1, hi1, hk⟩ := hi1'
          simp only [Prod.mk.injEq] at hk
          obtain ⟨hk0, hk1, hk2⟩ := hk
          obtain ⟨m0, m1, m2, mf, mz⟩ := row3 HM.out
          have hj14 : j ≤ 14 := by omega
          go_wp2_with (at_builtin; refine wpList_append_lies _ rfl (.tmp 150) (.tmp 152) 30 rfl w6.heap.size 41 i1 (.agg #[.int .i64 0, .int .i64 0, .int .i64 0]) 3 24 Tryz.underlying30 hi1 hk0 hk1 hk2 rfl (by decide) _ j (mvals R) rfl (owns_go HOW.out ((Below.refl _ _).alloc (Nat.le_refl _) _)) ⟨W8.heap.size, 0, none⟩ 1 1 [.int .i64 (s : Int), .int .i64 (t : Int), .int .i64 k] rfl rfl (World.news_of_block (heap_alloc_new _ _)) ?c2 (by decide) (by unfold maxLen; omega) (by omega) (by have h := HS8.out; simp; omega) (W8.heap.size + 1) (by simp) ?next)
          case c2 => intro y hy; simp at hy; rcases hy with rfl | rfl | rfl <;> rfl
          case next =>
            intro g1 cap1 w9 hown1 hgrow1 hat1 hlt3
            rw [HMV.out] at hown1
            have hb8 : Below W8.heap.size W8 (W8.alloc (.cells #[.int .i64 (s : Int), .int .i64 (t : Int), .int .i64 k] 41)) := below_new _
            replace hgrow1 : (W8.alloc (.cells #[.int .i64 (s : Int), .int .i64 (t : Int), .int .i64 k] 41)).grownBy w9 rv.ownBlock := hgrow1
            have HH9 := Lib.hid ((HH.out.go hb8).app hgrow1 (fun b e => (HMLT.out b e).1) HA.out)
            have HM9 := Lib.hid (show w9.heap[mb]? = some (.cells #[.int .i64 (s : Int), .int .i64 (t : Int), .int .i64 k] 41 (0, 0)) from sl_grown (sl_go HM.out hb8) hgrow1 (fun e => by have := (HMLT.out mb e).2; omega))
            have HB9 := Lib.hid (HH9.out.low HB6.out (Nat.le_of_lt HWA.out))
            obtain ⟨p2, c2, e2, hr2⟩ := reads3_own (l := R2) (by rw [HL2.out]; exact hown1)
            rw [HL2.out] at e2 hr2
            have HR2 := Lib.hid hr2
            have HO9 := Lib.hid hown1
            rw [e2] at HO9 ⊢
            clear m0 m1 m2 mf mz hown1 hgrow1 hat1 hlt3 hb8 HH HM HBB HOW hr2 HMLT hk0 hk1 hk2 hi1 e2
            obtain ⟨m0, m1, m2, mf, mz⟩ := row3 HM9.out
            go_wp2_with (refine wpList_pos (by rfl) _ (by rfl) bA Q XQ HXQ.out (by rfl) HH9.out.q ?_)
            refine (MVQ.out _ HB9.out).mono ?_
            rintro e w10 ⟨rfl, hb⟩
            replace HH9 := Lib.hid (HH9.out.go hb)
            replace HB9 := Lib.hid (HB9.out.trans (hb.mono HB9.out.size))
            replace HO9 := Lib.hid (owns_go HO9.out hb)
            replace HR2 := Lib.hid ((HR2.out.below hb).mono hb.size)
            clear hb MVQ m0 m1 m2 mf mz HM9
            dsimp only
            refine list_go (by assumption) ?_
            go_wp2_with (first | refine wpList_new V9 N HV.out (by rfl) (by rfl) ?_ | fail)
            intro w11 hq hb hz
            have HL17 := Lib.hid (show w6.heap.size ≤ w10.heap.size from HH9.out.g.size)
            have H17 := Lib.hid hq
            replace HH9 := Lib.hid (HH9.out.go hb)
            replace HB9 := Lib.hid (HB9.out.trans (hb.mono HB9.out.size))
            replace HO9 := Lib.hid (owns_go HO9.out hb)
            replace HR2 := Lib.hid ((HR2.out.below hb).mono hb.size)
            clear hb hq hz
            generalize w10.heap.size = b17 at *
            try simp only [Act.put, List.setIfInBounds_toArray, List.set_cons_zero, List.set_cons_succ]
            have HPP2 := Lib.hid (show ∀ W, HG w6 W bA Q → PB W w.heap.size P from fun W h => HPP.out.gr h.g (by intro e; have h1 := Option.some.inj e; have h2 := HWA.out; omega))
            go_wp2_with (refine wpList_pos (by rfl) _ (by rfl) w.heap.size P X HX.out (by rfl) (HPP2.out _ HH9.out) ?_)
            refine (MPR.out _ _ _ HB9.out HR2.out).mono ?_
            rintro e w12 ⟨rfl, hb⟩
            replace H17 := Lib.hid (H17.out.go hb)
            replace HH9 := Lib.hid (HH9.out.go hb)
            replace HB9 := Lib.hid (HB9.out.trans (hb.mono HB9.out.size))
            replace HO9 := Lib.hid (owns_go HO9.out hb)
            clear hb MPR HR2
            dsimp only
            refine list_go (by assumption) ?_
            go_wp2_with (first | refine wpList_new V9 N HV.out (by rfl) (by rfl) ?_ | fail)
            intro w13 hq hb hz
            have H19 := Lib.hid hq
            replace H17 := Lib.hid (H17.out.go hb)
            replace HH9 := Lib.hid (HH9.out.go hb)
            replace HB9 := Lib.hid (HB9.out.trans (hb.mono HB9.out.size))
            replace HO9 := Lib.hid (owns_go HO9.out hb)
            clear hb hq hz
            generalize w12.heap.size = b19 at *
            try simp only [Act.put, List.setIfInBounds_toArray, List.set_cons_zero, List.set_cons_succ]
            go_upto_region 33 with (fail)
            have HNX2 := Lib.hid (show ∀ W, (binOp .neq 29 (.agg V9) (.agg V9)).run Tryz.prog W = .ok (.bool false) W from fun W => by rw [HV.out, neq_pos, posEq_self]; rfl)
            refine forget_B (fun W => PB W b17 N ∧ PB W b19 N ∧ HG w6 W bA Q ∧ Below w.heap.size w W ∧ W.ownsRow w6.heap.size 41 3 (.slice p2 (j + 1) c2) (j + 1) (mvals R2)) ⟨H17.out, H19.out, HH9.out, HB9.out, HO9.out⟩ ?_
            clear H17 H19 HH9 HB9 HO9
            rintro W14 ⟨h1, h2, h3, h4, h5⟩
            have H17 := Lib.hid h1
            have H19 := Lib.hid h2
            have HH9 := Lib.hid h3
            have HB9 := Lib.hid h4
            have HO9 := Lib.hid h5
            clear h1 h2 h3 h4 h5
            have HC17 := Lib.hid H17.out.regrown
            have HC19 := Lib.hid H19.out.regrown
            have hbr : ∀ dd os, Below w.heap.size w (grow (redrawn W14 dd) os) := fun dd os => HB9.out.trans ((below_regrown W14 dd os).mono HB9.out.size)
            have c187 := fun dd os => Calls.regrown_of (MPN.out _ (hbr dd os))
            have c182 := regrown_same (w := W14) MO.out
            have e17 := cell_regrown (HCN.out _ _ H17.out)
            have eA := cell_regrown (HCQ.out _ HH9.out.q)
            have hnd : (nd != nd) = false := by simp
            clear hbr MPN MO
            refine wp_region_quiet_below (by kernel_rfl) (by kernel_rfl) ?_
            iterate 7 (go_big_quiet_step (fail))
            refine wpQuiet_pos (by rfl) _ (by rfl) b17 N V9 HV.out (by rfl) HC17.out ?_
            try simp only [Act.put, List.setIfInBounds_toArray, List.set_cons_zero, List.set_cons_succ]
            refine wpQuiet_pos (by rfl) _ (by rfl) b19 N V9 HV.out (by rfl) HC19.out ?_
            try simp only [Act.put, List.setIfInBounds_toArray, List.set_cons_zero, List.set_cons_succ]
            refine wpQuiet_bin (by rfl) _ _ _ _ _ (by rfl) (.agg V9) (.agg V9) (.bool false) (by rfl) (by rfl) (fun W => by go_simp) HNX2.out ?_
            try simp only [Act.put, List.setIfInBounds_toArray, List.set_cons_zero, List.set_cons_succ]
            iterate 6 (go_big_quiet_step (fail))
            go_big_quiet_step (exact c182 _ _)
            iterate 3 (go_big_quiet_step (fail))
            refine wpQuiet_pos (by rfl) _ (by rfl) b17 N V9 HV.out (by rfl) HC17.out ?_
            try simp only [Act.put, List.setIfInBounds_toArray, List.set_cons_zero, List.set_cons_succ]
            go_big_quiet_step (exact c187 _ _)
            repeat (go_big_quiet_step (fail))
            refine wpQuiet_nil ?_
            rintro W15 ⟨pq, rfl⟩
            have hb15 := below_regrown W14 pq.d pq.os
            replace H17 := Lib.hid (H17.out.go hb15)
            replace HH9 := Lib.hid (HH9.out.go hb15)
            replace HO9 := Lib.hid (owns_go HO9.out hb15)
            clear hb15 HC17 HC19 c187 c182 e17 eA HNX2 H19 HB9
            generalize grow (redrawn W14 pq.d) pq.os = W15 at H17 HH9 HO9 ⊢
            go_upto_region 35 with (fail)
            refine wp_region_lit ?_
            refine wpList_pos (by rfl) _ (by rfl) b17 N V9 HV.out (by rfl) H17.out ?_
            refine wpList_store_mid rfl 29 _ _ rfl bA 0 V9 rfl rfl (by rw [HV.out, pc_size]; exact HH9.out.q.there) (by rw [infoPos, HV.out, pc_size]) (by rw [HV.out]; exact pc_one _) ?_
            rw [HVL.out]
            have HEND := Lib.hid (HH9.out.put N)
            have HOE := Lib.hid (show (W15.setCells bA 0 (pc N)).ownsRow w6.heap.size 41 3 (.slice p2 (j + 1) c2) (j + 1) (mvals R2) from owns_same HO9.out fun b hb hl => by
              have h1 := HA.out
              exact (grs_B (hb := bA) (pc N) 0 W15).block b hl (by intro e; have h2 := Option.some.inj e; have h3 := (HO9.out.lt b hb).1; omega))
            generalize W15.setCells bA 0 (pc N) = W16 at HEND HOE ⊢
            clear HH9 HO9 H17
            go_wp2
            go_roundw
            case rel => exact ⟨j + 1, N, R2, _, by omega, by go_num, rfl, HL2.out, HOE.out, HPO.out, HA2.out, HEND.out⟩
            case measure => simp [intOf]; omega
        · obtain rfl : j = np := by omega
          go_wp2
          go_ret
          exact ⟨rfl, HBB.out⟩
end Go.Proofs.YthinkiljhkanhaaGreatDoor
