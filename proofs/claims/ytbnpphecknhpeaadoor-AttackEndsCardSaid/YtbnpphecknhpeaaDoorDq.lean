/-
  Contract: the document's Check.
-/
import Derived.Test.YtbnpphecknhpeaaDoorDp
import Derived.Test.YtbnpphecknhpeaaDoorBf
import Derived.Test.YtbnpphecknhpeaaDoorBg
namespace Go.Proofs.YtbnpphecknhpeaaDoor
open Go.RowKit Go.Sort
set_option linter.unusedSimpArgs false
set_option linter.unusedVariables false

set_option maxHeartbeats 4000000 in
set_option maxRecDepth 100000 in
theorem rChk_any (P : Nat → Int) (d : Int) (w : World) :
    Calls Tryd.prog 17 #[.agg (pc P).toArray, .int .i64 d] w fun e w' => e = .returned (.bool (chkB P d)) ∧ Below w.heap.size w w' := by
  obtain ⟨X, hX⟩ : ∃ X, X = (pc P).toArray := ⟨_, rfl⟩
  have HF := Lib.hid (fun W => rFind_any P 6 d W)
  have HIS := Lib.hid (fun W p n c f hn hr hB => rIs_any W.heap.size P (oth d) p n c f W hn hr hB)
  have HFL := Lib.hid (fnd_len P 6 d 64)
  rw [← hX] at HF HIS ⊢
  have HP := Lib.hid (show PB (w.alloc (.cells X 29)) w.heap.size P by subst hX; exact PB.new rfl)
  have HB := Lib.hid (below_new (w := w) (.cells X 29))
  have HX := Lib.hid hX
  clear hX
  by_cases h0 : d = 0 ∨ d = 1
  · have HC := Lib.hid (show chkB P d = isAt P (oth d) (getI (fnd P 6 d 64)) (fnd P 6 d 64).length by
      have hs : sideB d = true := by rcases h0 with rfl | rfl <;> rfl
      unfold chkB; rw [hs, Bool.true_and])
    obtain ⟨L, hL⟩ : ∃ L, L = fnd P 6 d 64 := ⟨_, rfl⟩
    rw [← hL] at HF HFL HC
    clear hL
    rcases h0 with rfl | rfl
    all_goals
      go_enter Tryd.func17, Tryd.ntmps17
      go_upto_region 3 with (fail)
      generalize w.alloc (.cells X 29) = W0 at *
      have HI := Lib.hid (show RI2 w W0 P from ⟨HP.out, HB.out⟩)
      clear HP HB
      refine wp_region_noPanic ?_
      refine wp_region_start (n := 9) (l := #[false, false, false, false, false, false, false, false, false]) (S := (fun W => RI2 w W P)) (by kernel_rfl) rfl (by kernel_rfl) (by first | exact HI.out | exact HI.out.go (Below.refl _ _).drew) (fun hHeld => ?_)
      replace HI := Lib.hid (HI.out.go (Below.refl W0.heap.size W0).drew)
      generalize W0.drew = V0 at hHeld HI ⊢
      refine take_to (i := 0) (d := some 11) (v := (.agg X)) (l' := #[true, false, false, false, false, false, false, false, false]) rfl rfl (by kernel_rfl) (by kernel_rfl) (by kernel_rfl) (by kernel_rfl) (fun _ _ _ h => h) ?_ (by assumption) ?_
      · exact yields_posC (by rfl) _ (by rfl) w.heap.size P X HX.out (by rfl) (fun W h => h.p)
      try simp only [Act.put, List.setIfInBounds_toArray, List.set_cons_zero, List.set_cons_succ]
      refine take_to (i := 1) (d := some 12) (v := ?_) (l' := #[true, true, false, false, false, false, false, false, false]) rfl rfl (by kernel_rfl) (by kernel_rfl) (by kernel_rfl) (by kernel_rfl) (fun _ _ _ h => h) (Or.inl ⟨by rfl, ?_⟩) (by assumption) ?_; rotate_left; · (intro w' hSw; (try dsimp only at hSw); go_simp; (try with_reducible rfl))
      try simp only [Act.put, List.setIfInBounds_toArray, List.set_cons_zero, List.set_cons_succ]
      refine take_to (i := 3) (d := some 14) (v := (.agg X)) (l' := #[true, true, false, true, false, false, false, false, false]) rfl rfl (by kernel_rfl) (by kernel_rfl) (by kernel_rfl) (by kernel_rfl) (fun _ _ _ h => h) ?_ (by assumption) ?_
      · exact yields_posC (by rfl) _ (by rfl) w.heap.size P X HX.out (by rfl) (fun W h => h.p)
      try simp only [Act.put, List.setIfInBounds_toArray, List.set_cons_zero, List.set_cons_succ]
      refine take_to (i := 4) (d := some 15) (v := ?_) (l' := #[true, true, false, true, true, false, false, false, false]) rfl rfl (by kernel_rfl) (by kernel_rfl) (by kernel_rfl) (by kernel_rfl) (fun _ _ _ h => h) (Or.inl ⟨by rfl, ?_⟩) (by assumption) ?_; rotate_left; · (intro w' hSw; (try dsimp only at hSw); go_simp; (try with_reducible rfl))
      try simp only [Act.put, List.setIfInBounds_toArray, List.set_cons_zero, List.set_cons_succ]
      refine take_to (i := 5) (d := some 16) (v := ?_) (l' := #[true, true, false, true, true, true, false, false, false]) rfl rfl (by kernel_rfl) (by kernel_rfl) (by kernel_rfl) (by kernel_rfl) (fun _ _ _ h => h) (Or.inl ⟨by rfl, ?_⟩) (by assumption) ?_; rotate_left; · (intro w' hSw; (try dsimp only at hSw); go_simp; (try with_reducible rfl))
      try simp only [Act.put, List.setIfInBounds_toArray, List.set_cons_zero, List.set_cons_succ]
      refine one_to (i := 2) (l' := #[true, true, true, true, true, true, false, false, false]) rfl (by kernel_rfl) (by kernel_rfl) (fun K hK => ?_)
      go_simp
      refine (rOther_any _ _).mono ?_
      rintro e V1 ⟨rfl, rfl⟩
      dsimp only
      refine hK.out _ _ (by first | exact HI.out | exact HI.out.go (Below.refl _ _).drew) (fun hHeld => ?_)
      clear hK K
      try simp only [Act.put, List.setIfInBounds_toArray, List.set_cons_zero, List.set_cons_succ]
      refine one_to (i := 6) (l' := #[true, true, true, true, true, true, true, false, false]) rfl (by kernel_rfl) (by kernel_rfl) (fun K hK => ?_)
      go_simp
      refine (HF.out _).mono ?_
      rintro e V2 ⟨v, rfl, hb, hown⟩
      rw [ivals_range] at hown
      obtain ⟨p1, c1, rfl, hr1, _⟩ := sq_reads hown
      replace HI := Lib.hid (HI.out.go hb)
      have HRD := Lib.hid hr1
      clear hb hown hr1
      dsimp only
      refine hK.out _ _ (by first | exact HI.out | exact HI.out.go (Below.refl _ _).drew) (fun hHeld => ?_)
      clear hK K
      try simp only [Act.put, List.setIfInBounds_toArray, List.set_cons_zero, List.set_cons_succ]
      refine one_to (i := 7) (l' := #[true, true, true, true, true, true, true, true, false]) rfl (by kernel_rfl) (by kernel_rfl) (fun K hK => ?_)
      go_simp
      refine (HIS.out V2 p1 (L).length c1 (getI (L)) (Nat.le_trans HFL.out (by omega)) HRD.out (Nat.le_refl _)).mono ?_
      rintro e V3 ⟨rfl, hb⟩
      replace HI := Lib.hid (HI.out.go hb)
      clear hb HRD
      dsimp only
      refine hK.out _ _ (by first | exact HI.out | exact HI.out.go (Below.refl _ _).drew) (fun hHeld => ?_)
      clear hK K
      try simp only [Act.put, List.setIfInBounds_toArray, List.set_cons_zero, List.set_cons_succ]
      refine take_to (i := 8) (d := some 4) (v := ?_) (l' := #[true, true, true, true, true, true, true, true, true]) rfl rfl (by kernel_rfl) (by kernel_rfl) (by kernel_rfl) (by kernel_rfl) (fun _ _ _ h => h) (Or.inl ⟨by rfl, ?_⟩) (by assumption) ?_; rotate_left; · (intro w' hSw; (try dsimp only at hSw); go_simp; (try with_reducible rfl))
      try simp only [Act.put, List.setIfInBounds_toArray, List.set_cons_zero, List.set_cons_succ]
      refine wpAnyH_done (by kernel_rfl) ?_ _
      refine NoPanic.normal ?_
      clear hHeld
      go_wp2
      go_ret
      exact ⟨by rw [HC.out]; rfl, HI.out.b⟩
  · have HC := Lib.hid (show chkB P d = false by
      have hs : sideB d = false := by simp only [sideB, Bool.or_eq_false_iff, beq_eq_false_iff_ne]; omega
      unfold chkB; rw [hs, Bool.false_and])
    have k1 : (d != 0) = true := by simp; omega
    have k2 : (d != 1) = true := by simp; omega
    clear h0 HF HIS HFL HP HX
    go_enter Tryd.func17, Tryd.ntmps17
    go_upto_region 1 with (fail)
    generalize w.alloc (.cells X 29) = W0 at *
    go_wp2
    go_ret
    exact ⟨by rw [HC.out]; rfl, HB.out⟩
end Go.Proofs.YtbnpphecknhpeaaDoor
