/-
  Contracts: right positions, by the program; the begin, the bare board.
-/
import Derived.Test.YtldepimkbnodpaaDoorBu
namespace Go.Proofs.YtldepimkbnodpaaDoor
open Go.RowKit Go.Sort
set_option linter.unusedSimpArgs false
set_option linter.unusedVariables false

theorem pieces_side (P : Nat → Int) (h : piecesB P = true) : P 128 = 0 ∨ P 128 = 1 := by
  unfold piecesB sideB at h
  simp only [Bool.and_eq_true, Bool.or_eq_true, beq_iff_eq] at h
  exact h.2
set_option maxHeartbeats 2000000 in
set_option maxRecDepth 100000 in
theorem rightM_any (b : Nat) (P : Nat → Int) (w : World) (hp : PB w b P) (B : Nat) (hg : GB B w) (hB : B ≤ w.heap.size) :
    Calls Tryd.prog 34 #[.pointer (some ⟨b, 0, none⟩)] w fun e w' => e = .returned (.bool (rightB P)) ∧ Below w.heap.size w w' := by
  have hv := rightB_eq P
  obtain ⟨a1, ha1⟩ : ∃ a, piecesB P = a := ⟨_, rfl⟩
  obtain ⟨a2, ha2⟩ : ∃ a, castB P = a := ⟨_, rfl⟩
  obtain ⟨a3, ha3⟩ : ∃ a, overB P = a := ⟨_, rfl⟩
  obtain ⟨a4, ha4⟩ : ∃ a, cntB (P 131) (P 132) = a := ⟨_, rfl⟩
  have hsd := pieces_side P
  rw [ha1, ha2, ha3, ha4] at hv
  rw [ha1] at hsd
  have HV := Lib.hid hv
  have A1 := Lib.hid ha1
  have A2 := Lib.hid ha2
  have A3 := Lib.hid ha3
  have A4 := Lib.hid ha4
  have HP := Lib.hid hp
  have HG := Lib.hid hg
  have HS := Lib.hid hsd
  have HB := Lib.hid (Below.refl w.heap.size w)
  clear hv ha1 ha2 ha3 ha4 hp hg hsd
  go_enter Tryd.func34, Tryd.ntmps34
  go_wp2_with fail
  refine (pieces_any b P _ HP.out).mono ?_
  rw [A1.out]
  rintro e w1 ⟨rfl, hb⟩
  replace HP := Lib.hid (HP.out.go hb)
  replace HG := Lib.hid (HG.out.below (hb.mono hB))
  replace HB := Lib.hid (HB.out.trans (hb.mono HB.out.size))
  clear hb
  cases a1
  · go_wp2
    go_ret
    exact ⟨q_b (by rw [HV.out]; rfl), HB.out⟩
  go_wp2_with fail
  refine (castlings_any b P _ HP.out B HG.out (Nat.le_trans hB HB.out.size)).mono ?_
  rw [A2.out]
  rintro e w2 ⟨rfl, hb⟩
  replace HP := Lib.hid (HP.out.go hb)
  replace HB := Lib.hid (HB.out.trans (hb.mono HB.out.size))
  clear hb HG
  cases a2
  · go_wp2
    go_ret
    exact ⟨q_b (by rw [HV.out]; rfl), HB.out⟩
  go_wp2_with fail
  have HO : Calls Tryd.prog 58 #[.pointer (some ⟨b, 0, none⟩)] w2 fun e w' => e = .returned (.bool (overB P)) ∧ Below w2.heap.size w2 w' := by
    rcases HS.out trivial with h | h
    · exact over0_any b P w2 HP.out h
    · exact over1_any b P w2 HP.out h
  refine HO.mono ?_
  clear HO
  rw [A3.out]
  rintro e w3 ⟨rfl, hb⟩
  replace HP := Lib.hid (HP.out.go hb)
  replace HB := Lib.hid (HB.out.trans (hb.mono HB.out.size))
  clear hb
  cases a3
  · go_wp2
    go_ret
    exact ⟨q_b (by rw [HV.out]; rfl), HB.out⟩
  go_wp2_with fail
  refine (counts_any b P _ HP.out).mono ?_
  rw [A4.out]
  rintro e w4 ⟨rfl, rfl⟩
  go_wp2
  go_ret
  exact ⟨q_b (by rw [HV.out]; simp), HB.out⟩
theorem infoChk : (Tryd.prog.info? 61).map (·.size) = some 133 := by kernel_rfl
theorem zeroChk : Tryd.zeroCells61 = (pc fun _ => 0).toArray := by kernel_rfl
theorem fold_set : ∀ (L : List Value) (k : Nat) (cs : Array Value), k + L.length ≤ cs.size → ∀ i, (List.foldl (fun (cs : Array Value) (x : Value × Nat) => cs.setIfInBounds x.2 x.1) cs (L.zipIdx k))[i]? = if k ≤ i ∧ i < k + L.length then L[i - k]? else cs[i]?
  | [], k, cs, _, i => by simp; omega
  | v :: L, k, cs, h, i => by
    simp only [List.length_cons] at h
    rw [List.zipIdx_cons, List.foldl_cons, fold_set L (k + 1) _ (by simp; omega) i]
    by_cases h1 : k + 1 ≤ i ∧ i < k + 1 + L.length
    · rw [if_pos h1, if_pos (by simp; omega), show i - k = (i - (k + 1)) + 1 by omega, List.getElem?_cons_succ]
    · rw [if_neg h1]
      by_cases h2 : i = k
      · subst h2
        rw [if_pos (by simp), Nat.sub_self, List.getElem?_cons_zero, Array.getElem?_setIfInBounds_self_of_lt (by omega)]
      · rw [if_neg (by simp only [List.length_cons]; omega), Array.getElem?_setIfInBounds_ne (by omega)]
theorem fold_chk (X : Array Value) (hX : X.size = 133) : Array.foldl (fun (cs : Array Value) (x : Value × Nat) => cs.setIfInBounds x.2 x.1) Tryd.zeroCells61 X.zipIdx 0 133 = X := by
  apply Array.ext_getElem?
  intro i
  have hz : Tryd.zeroCells61.size = 133 := by rw [zeroChk, pc_size]
  rw [show (133 : Nat) = X.zipIdx.size by simp [hX], ← Array.foldl_toList]
  rw [Array.toList_zipIdx, fold_set X.toList 0 _ (by simp [hX, hz]) i]
  by_cases h : i < 133
  · rw [if_pos (by simp [hX, h]), Nat.sub_zero, Array.getElem?_toList]
  · rw [if_neg (by simp [hX]; omega), Array.getElem?_eq_none (by omega), Array.getElem?_eq_none (by omega)]
set_option maxHeartbeats 2000000 in
set_option maxRecDepth 100000 in
theorem right_any (P : Nat → Int) (w : World) (B : Nat) (hg : GB B w) (hB : B ≤ w.heap.size) :
    Calls Tryd.prog 15 #[.agg (pc P).toArray] w fun e w' => e = .returned (.bool (rightB P)) ∧ Below w.heap.size w w' := by
  obtain ⟨X, hX⟩ : ∃ X, X = (pc P).toArray := ⟨_, rfl⟩
  rw [← hX]
  have HP0 := Lib.hid (show PB (w.alloc (.cells X 29)) w.heap.size P by subst hX; exact PB.new rfl)
  have HG := Lib.hid hg
  have HX := Lib.hid hX
  have hsz : X.size = 133 := by rw [hX, pc_size]
  have hfold := fold_chk X hsz
  clear hX hg
  go_enter Tryd.func15, Tryd.ntmps15
  go_upto_region 1 with (fail)
  refine wp_region_lit ?_
  refine wpList_pos (by rfl) _ (by rfl) w.heap.size P X HX.out (by rfl) HP0.out ?_
  refine wpList_plain rfl (fun K hK => ?_)
  go_simp
  refine hK _ _ ?_
  clear hK K
  clear hfold
  refine wpList_plain rfl (fun K hK => ?_)
  go_simp
  refine hK _ _ ?_
  clear hK K
  have hpn : PB ((w.alloc (.cells X 29)).alloc (.cells Tryd.zeroCells61 61)) (w.heap.size + 1) (fun _ => 0) := by rw [zeroChk]; exact PB.new (by simp)
  refine wpList_store_mid rfl 61 _ _ rfl (w.heap.size + 1) 0 X rfl rfl (by rw [hsz]; exact hpn.there) (by rw [infoChk, hsz]) (by rw [HX.out]; exact pc_one P) ?_
  refine forgetL_B (fun W => PB W (w.heap.size + 1) P ∧ Below w.heap.size w W) (by
    rw [HX.out, List.toList_toArray]
    rw [HX.out] at hpn
    exact ⟨hpn.store (Q := P), below_store (b := w.heap.size + 1) P ((below_new _).alloc (by simp) _) (by omega) (by simp; omega)⟩) ?_
  rintro W ⟨hp, hb⟩
  have HP := Lib.hid hp
  have HB := Lib.hid hb
  clear hp hb hpn HP0 hsz
  show Exit.then _ _ Exit.normal _ _
  go_wp2_with fail
  refine (rightM_any (w.heap.size + 1) P _ HP.out B (HG.out.below (HB.out.mono hB)) (Nat.le_trans hB HB.out.size)).mono ?_
  rintro e w1 ⟨rfl, hb⟩
  go_wp2
  go_ret
  exact ⟨rfl, HB.out.trans (hb.mono HB.out.size)⟩
end Go.Proofs.YtldepimkbnodpaaDoor
