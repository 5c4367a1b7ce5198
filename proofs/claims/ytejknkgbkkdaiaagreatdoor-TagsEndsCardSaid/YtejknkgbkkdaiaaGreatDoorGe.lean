/-
  Contract: which tags the document's maker told.
-/
import Derived.Test.YtejknkgbkkdaiaaGreatDoorGb
import Derived.Test.YtejknkgbkkdaiaaGreatDoorOct
namespace Go.Proofs.YtejknkgbkkdaiaaGreatDoor
open Go.RowKit
set_option linter.unusedVariables false
set_option linter.unusedSimpArgs false

/-- what lies there while it is asked whether a tag was told -/
structure RT4 (w : World) (rb : Nat) (real : Bool) (sv av : Value) (b0 : Nat) (L : List Thing) (t : Nat → BitVec 8) (W : World) : Prop where
  bel : Below w.heap.size w W
  tg : BT W w.heap.size 32 t
  rm : RMk W rb real sv av b0 L
theorem RT4.go {w W W' : World} {rb b0 : Nat} {real : Bool} {sv av : Value} {L : List Thing} {t : Nat → BitVec 8} (h : RT4 w rb real sv av b0 L t W) (g : Below W.heap.size W W') : RT4 w rb real sv av b0 L t W' :=
  ⟨h.bel.trans (g.mono h.bel.size), h.tg.below' g, h.rm.go g⟩
theorem wrap_nat4 (n : Nat) (h : n < 9223372036854775808) : IntKind.u64.wrap (n : Int) = ((n : Nat) : Int) := by
  rw [IntKind.wrap_u64]; omega
set_option maxHeartbeats 1000000 in
set_option maxRecDepth 100000 in
theorem rtold_any (rb : Nat) (real : Bool) (sv av : Value) (b0 : Nat) (L : List Thing) (t : Nat → BitVec 8) (w : World) (hL : L.length ≤ 1000000) (h : RMk w rb real sv av b0 L) :
    Calls Tryz.prog 14 #[.pointer (some ⟨rb, 0, none⟩), tagV t] w fun e w' => e = .returned (.bool (toldB L.length t)) ∧ Below w.heap.size w w' := by
  obtain ⟨n, hn⟩ : ∃ n, L.length = n := ⟨_, rfl⟩
  obtain ⟨r, hr⟩ : ∃ r, toldB L.length t = r := ⟨_, rfl⟩
  have HIFF := Lib.hid (told_any_num L.length t (by unfold lim64; omega))
  rw [hr] at HIFF ⊢
  rw [hn] at HIFF hL
  have HW := Lib.hid (show RT4 w rb real sv av b0 L t (w.alloc (.cells (tagC t).toArray 25)) from ⟨(Below.refl _ _).alloc (Nat.le_refl _) _, BT.of_cells (laid_at rfl) (fun i hi => tagC_get t i hi), h.go ((Below.refl _ _).alloc (Nat.le_refl _) _)⟩)
  obtain ⟨p, cap, hav⟩ := h.form
  rw [hn] at hav
  have HN := Lib.hid hn
  clear hn hr h
  unfold tagV
  go_enter Tryz.func14, Tryz.ntmps14
  go_upto_region 1 with (fail)
  refine forget_code (RT4 w rb real sv av b0 L t) HW.out ?_
  intro W hW
  clear HW
  have HW := Lib.hid hW
  clear hW
  subst hav
  go_wp2
  go_loopw [5] (fun iv wr => ∃ i : Nat, i ≤ n ∧ iv = .int .i64 (i : Int) ∧ RT4 w rb real sv (.slice p n cap) b0 L t wr ∧ ∀ j, j < i → teq (numT j) t = false) (fun iv _ => n - (intOf iv).toNat)
  case atStart => exact ⟨0, Nat.zero_le _, rfl, HW.out, fun j hj => absurd hj (Nat.not_lt_zero _)⟩
  case round =>
    obtain ⟨i, hi, rfl, hra, hno⟩ := hrel
    clear HW
    have HW := Lib.hid hra
    have HNO := Lib.hid hno
    clear hra hno
    obtain ⟨_, _, r2, fr, hrl⟩ := HW.out.rm.cells
    by_cases hlt : i < n
    · obtain ⟨N, hNN⟩ : ∃ N, N = numT i := ⟨_, rfl⟩
      have he := eql_tags N t
      have hgd := guard_tag N t
      obtain ⟨q, hq⟩ : ∃ q, teq N t = q := ⟨_, rfl⟩
      rw [hq] at he
      have HQ := Lib.hid hq
      have HNN := Lib.hid hNN
      clear hq hNN
      go_upto_region 4 with (fail)
      clear r2 fr hrl
      refine wp_region_noPanic ?_
      refine wp_region_start (n := 4) (l := #[false, false, false, false]) (S := (fun W => BT W w.heap.size 32 t)) (by kernel_rfl) rfl (by kernel_rfl) (by first | exact HW.out.tg | exact (HW.out.go (Below.refl _ _).drew).tg) (fun hHeld => ?_)
      replace HW := Lib.hid (HW.out.go (Below.refl _ _).drew)
      generalize World.drew _ = V2 at hHeld HW ⊢
      refine take_to (i := 0) (d := some 15) (v := ?_) (l' := #[true, false, false, false]) rfl rfl (by kernel_rfl) (by kernel_rfl) (by kernel_rfl) (by kernel_rfl) (fun _ _ _ h => h) (Or.inl ⟨by rfl, ?_⟩) (by assumption) ?_; rotate_left; · (intro w' hSw; (try dsimp only at hSw); go_simp; (try with_reducible rfl))
      try simp only [Act.put, List.setIfInBounds_toArray, List.set_cons_zero, List.set_cons_succ]
      refine take_to (i := 2) (d := some 17) (v := (tagV t)) (l' := #[true, false, true, false]) rfl rfl (by kernel_rfl) (by kernel_rfl) (by kernel_rfl) (by kernel_rfl) (fun _ _ _ h => h) ?_ (by assumption) ?_
      · exact tag_load' (fun W h => h) (by rfl) rfl rfl
      try simp only [Act.put, List.setIfInBounds_toArray, List.set_cons_zero, List.set_cons_succ]
      refine one_to (i := 1) (l' := #[true, true, true, false]) rfl (by kernel_rfl) (by kernel_rfl) (fun K hK => ?_)
      go_simp
      refine (number_any (i : Int) i (wrap_nat4 i (by omega)) _).mono ?_
      rw [← HNN.out]
      rintro e w14 ⟨rfl, hb14⟩
      replace HW := Lib.hid (HW.out.go hb14)
      clear hb14
      dsimp only
      refine hK.out _ _ (by first | exact HW.out.tg | exact (HW.out.go (Below.refl _ _).drew).tg) (fun hHeld => ?_)
      clear hK K
      try simp only [Act.put, List.setIfInBounds_toArray, List.set_cons_zero, List.set_cons_succ]
      refine take_to (i := 3) (d := some 18) (v := ?_) (l' := #[true, true, true, true]) rfl rfl (by kernel_rfl) (by kernel_rfl) (by kernel_rfl) (by kernel_rfl) (fun _ _ _ h => h) (Or.inl ⟨by rfl, ?_⟩) (by assumption) ?_; rotate_left; · (intro w' hSw; (try dsimp only at hSw); go_simp; (try with_reducible rfl))
      try simp only [Act.put, List.setIfInBounds_toArray, List.set_cons_zero, List.set_cons_succ]
      refine wpAnyH_done (by kernel_rfl) ?_ _
      refine NoPanic.normal ?_
      clear hHeld
      cases q
      · go_wp2
        go_roundw
        case rel => exact ⟨i + 1, by omega, by go_num, HW.out, fun j hj => by
          by_cases e : j = i
          · subst e; rw [← HNN.out]; exact HQ.out
          · exact HNO.out j (by omega)⟩
        case measure => simp [intOf]; omega
      · have hr2 := HIFF.out.2 ⟨i, hlt, by rw [← HNN.out]; exact HQ.out⟩
        subst hr2
        go_wp2
        go_ret
        exact ⟨rfl, HW.out.bel⟩
    · have hr2 : r = false := by
        cases hrr : r
        · rfl
        · obtain ⟨j, hj, h2⟩ := HIFF.out.1 hrr
          rw [HNO.out j (by omega)] at h2
          cases h2
      subst hr2
      go_wp2
      go_ret
      exact ⟨rfl, HW.out.bel⟩
end Go.Proofs.YtejknkgbkkdaiaaGreatDoor
