/-
  Contracts: the document's Move, Moves.
-/
import Derived.Test.YtldepimkbnodpaaDoorPr
namespace Go.Proofs.YtldepimkbnodpaaDoor
open Go.RowKit Go.Sort
set_option linter.unusedSimpArgs false
set_option linter.unusedVariables false

theorem sq_four (f t : Int) : (sq f = false) ∨ (sq f = true ∧ sq t = false) ∨ (sq f = true ∧ sq t = true ∧ f = t) ∨ (sq f = true ∧ sq t = true ∧ ¬ f = t) := by
  cases sq f <;> cases sq t <;> by_cases h : f = t <;> simp [h]
theorem mvP_bad (P : Nat → Int) (f t k : Int) (h : fltN P f t k ≠ 0) : mvP P f t k = fun _ => 0 := by unfold mvP; rw [flt_hand, if_neg h]
set_option maxHeartbeats 4000000 in
set_option maxRecDepth 100000 in
theorem rMove_bad (P : Nat → Int) (f t k : Int) (w : World) (hbad : fltN P f t k ≠ 0) :
    Calls Tryd.prog 11 #[.agg (pc P).toArray, .agg #[.int .i64 f, .int .i64 t, .int .i64 k]] w fun e w' => e = .returned (.tuple #[.agg (pc (mvP P f t k)).toArray, .int .i64 (fltN (handP P) f t k)]) ∧ Below w.heap.size w w' := by
  obtain ⟨X, hX⟩ : ∃ X, X = (pc P).toArray := ⟨_, rfl⟩
  rw [flt_hand, mvP_bad P f t k hbad]
  obtain ⟨Z, hZ⟩ : ∃ Z, Z = (pc fun _ => 0).toArray := ⟨_, rfl⟩
  rw [← hX, ← hZ]
  have HI := Lib.hid (MA.begin w P f t k X hX)
  have HX := Lib.hid hX
  have HZ := Lib.hid hZ
  have M1 := Lib.hid (fun W => rIs8_any f W)
  have M2 := Lib.hid (fun W => rIs8_any t W)
  have HB6 := Lib.hid (flt_bad P f t k)
  have MC := Lib.hid (show sq f = true → sq t = true → ¬ f = t → (fltN P f t k = 8) ∧ ∀ W, Calls Tryd.prog 25 #[.agg X, .agg #[.int .i64 f, .int .i64 t, .int .i64 k]] W fun e w' => e = .returned (.bool false) ∧ Below W.heap.size W w' from fun h1 h2 h3 => by
    obtain ⟨a1, a2⟩ := (sq_iff _).1 h1
    obtain ⟨b1, b2⟩ := (sq_iff _).1 h2
    have hon := flt_on P f.toNat t.toNat k (by omega) (by omega) (by omega)
    rw [show ((f.toNat : Nat) : Int) = f by omega, show ((t.toNat : Nat) : Int) = t by omega] at hon
    have hc : (ownB P f.toNat && becB P f.toNat t.toNat k) = false := by
      cases h : (ownB P f.toNat && becB P f.toNat t.toNat k)
      · rfl
      · rw [h] at hon; exact absurd hon hbad
    rw [hc] at hon
    refine ⟨hon, fun W => ?_⟩
    have := rCan_any P f.toNat t.toNat k (by omega) (by omega) W
    rw [show ((f.toNat : Nat) : Int) = f by omega, show ((t.toNat : Nat) : Int) = t by omega, hc, ← hX] at this
    exact this)
  have hcases := sq_four f t
  clear hX hZ hbad
  generalize fltN P f t k = E at *
  go_enter Tryd.func11, Tryd.ntmps11
  go_upto_region 1 with (fail)
  refine forget_B (fun W => MA w W P f t k) HI.out ?_
  clear HI
  intro W hi
  have HI := Lib.hid hi
  clear hi
  obtain ⟨q0, q1, q2, qf, qz⟩ := row3 HI.out.m
  rcases hcases with h1 | ⟨h1, h2⟩ | ⟨h1, h2, rfl⟩ | ⟨h1, h2, hne⟩
  · have HE := Lib.hid (HB6.out (by rw [h1]; rfl))
    rw [h1] at M1
    clear h1 HB6 MC M2
    go_wp2_with fail
    refine (M1.out _).mono ?_
    rintro e w1 ⟨rfl, rfl⟩
    go_upto_region 2 with (fail)
    refine wp_region_lit ?_
    refine wpList_plain rfl (fun K hK => ?_)
    go_simp
    refine hK _ _ ?_
    clear hK K
    refine wpList_store_mid rfl 29 _ _ rfl (w.heap.size + 2) 0 (pc fun _ => 0).toArray rfl (congrArg Value.agg zeroPos) (by rw [pc_size]; exact HI.out.z.there) (by rw [infoPos, pc_size]) (pc_one _) ?_
    rw [List.toList_toArray]
    obtain ⟨hr1, hb1⟩ := HI.out.stored (Q := fun _ => 0)
    have HR := Lib.hid hr1
    have HB := Lib.hid hb1
    clear hr1 hb1 HI q0 q1 q2 qf qz
    refine forgetL_B (fun W => W.rangeAt (w.heap.size + 2) 0 (pc fun _ => 0) ∧ Below w.heap.size w W) ⟨HR.out, HB.out⟩ ?_
    clear HR HB
    rintro W8 ⟨hr1, hb1⟩
    have HR := Lib.hid hr1
    have HB := Lib.hid hb1
    clear hr1 hb1
    refine wpList_plain rfl (fun K hK => ?_)
    go_simp
    refine hK _ _ ?_
    clear hK K
    show Exit.then _ _ Exit.normal _ _
    refine ret_go (by assumption) ?_
    repeat (first | refine then_ret ?_ | refine block_ret ?_)
    refine bodyPost_ret (v := .tuple #[.agg (pc fun _ => 0).toArray, .int .i64 6]) ?_ rfl ⟨by rw [HZ.out, HE.out], HB.out⟩
    exact results_mid2 (p := 4) (u := 5) (ty := 29) rfl _ W8 (w.heap.size + 2) _ _ _ rfl rfl HR.out Tryd.underlying29 rfl (by rw [infoPos, pc_len])
  · have HE := Lib.hid (HB6.out (by rw [h2]; simp))
    rw [h1] at M1
    rw [h2] at M2
    clear h1 h2 HB6 MC
    go_wp2_with fail
    refine (M1.out _).mono ?_
    rintro e w1 ⟨rfl, rfl⟩
    go_wp2_with fail
    refine (M2.out _).mono ?_
    rintro e w1 ⟨rfl, rfl⟩
    go_upto_region 2 with (fail)
    refine wp_region_lit ?_
    refine wpList_plain rfl (fun K hK => ?_)
    go_simp
    refine hK _ _ ?_
    clear hK K
    refine wpList_store_mid rfl 29 _ _ rfl (w.heap.size + 2) 0 (pc fun _ => 0).toArray rfl (congrArg Value.agg zeroPos) (by rw [pc_size]; exact HI.out.z.there) (by rw [infoPos, pc_size]) (pc_one _) ?_
    rw [List.toList_toArray]
    obtain ⟨hr1, hb1⟩ := HI.out.stored (Q := fun _ => 0)
    have HR := Lib.hid hr1
    have HB := Lib.hid hb1
    clear hr1 hb1 HI q0 q1 q2 qf qz
    refine forgetL_B (fun W => W.rangeAt (w.heap.size + 2) 0 (pc fun _ => 0) ∧ Below w.heap.size w W) ⟨HR.out, HB.out⟩ ?_
    clear HR HB
    rintro W8 ⟨hr1, hb1⟩
    have HR := Lib.hid hr1
    have HB := Lib.hid hb1
    clear hr1 hb1
    refine wpList_plain rfl (fun K hK => ?_)
    go_simp
    refine hK _ _ ?_
    clear hK K
    show Exit.then _ _ Exit.normal _ _
    refine ret_go (by assumption) ?_
    repeat (first | refine then_ret ?_ | refine block_ret ?_)
    refine bodyPost_ret (v := .tuple #[.agg (pc fun _ => 0).toArray, .int .i64 6]) ?_ rfl ⟨by rw [HZ.out, HE.out], HB.out⟩
    exact results_mid2 (p := 4) (u := 5) (ty := 29) rfl _ W8 (w.heap.size + 2) _ _ _ rfl rfl HR.out Tryd.underlying29 rfl (by rw [infoPos, pc_len])
  · have HE := Lib.hid (HB6.out (by simp))
    rw [h1] at M1
    clear h1 h2 HB6 MC M2
    go_wp2_with fail
    refine (M1.out _).mono ?_
    rintro e w1 ⟨rfl, rfl⟩
    go_wp2_with fail
    refine (M1.out _).mono ?_
    rintro e w1 ⟨rfl, rfl⟩
    go_upto_region 2 with (fail)
    refine wp_region_lit ?_
    refine wpList_plain rfl (fun K hK => ?_)
    go_simp
    refine hK _ _ ?_
    clear hK K
    refine wpList_store_mid rfl 29 _ _ rfl (w.heap.size + 2) 0 (pc fun _ => 0).toArray rfl (congrArg Value.agg zeroPos) (by rw [pc_size]; exact HI.out.z.there) (by rw [infoPos, pc_size]) (pc_one _) ?_
    rw [List.toList_toArray]
    obtain ⟨hr1, hb1⟩ := HI.out.stored (Q := fun _ => 0)
    have HR := Lib.hid hr1
    have HB := Lib.hid hb1
    clear hr1 hb1 HI q0 q1 q2 qf qz
    refine forgetL_B (fun W => W.rangeAt (w.heap.size + 2) 0 (pc fun _ => 0) ∧ Below w.heap.size w W) ⟨HR.out, HB.out⟩ ?_
    clear HR HB
    rintro W8 ⟨hr1, hb1⟩
    have HR := Lib.hid hr1
    have HB := Lib.hid hb1
    clear hr1 hb1
    refine wpList_plain rfl (fun K hK => ?_)
    go_simp
    refine hK _ _ ?_
    clear hK K
    show Exit.then _ _ Exit.normal _ _
    refine ret_go (by assumption) ?_
    repeat (first | refine then_ret ?_ | refine block_ret ?_)
    refine bodyPost_ret (v := .tuple #[.agg (pc fun _ => 0).toArray, .int .i64 6]) ?_ rfl ⟨by rw [HZ.out, HE.out], HB.out⟩
    exact results_mid2 (p := 4) (u := 5) (ty := 29) rfl _ W8 (w.heap.size + 2) _ _ _ rfl rfl HR.out Tryd.underlying29 rfl (by rw [infoPos, pc_len])
  · have HE := Lib.hid (MC.out h1 h2 hne).1
    have MCC := Lib.hid (MC.out h1 h2 hne).2
    have hne2 : (f == t) = false := beq_eq_false_iff_ne.2 hne
    rw [h1] at M1
    rw [h2] at M2
    clear h1 h2 HB6 MC
    go_wp2_with fail
    refine (M1.out _).mono ?_
    rintro e w1 ⟨rfl, rfl⟩
    go_wp2_with fail
    refine (M2.out _).mono ?_
    rintro e w1 ⟨rfl, rfl⟩
    go_wp2_with (refine wpList_pos (by rfl) _ (by rfl) w.heap.size P X HX.out (by rfl) HI.out.p ?_)
    refine (MCC.out _).mono ?_
    rintro e w1 ⟨rfl, hb1⟩
    replace HI := Lib.hid (HI.out.go hb1)
    clear q0 q1 q2 qf qz hb1
    obtain ⟨q0, q1, q2, qf, qz⟩ := row3 HI.out.m
    go_upto_region 4 with (fail)
    refine wp_region_lit ?_
    refine wpList_plain rfl (fun K hK => ?_)
    go_simp
    refine hK _ _ ?_
    clear hK K
    refine wpList_store_mid rfl 29 _ _ rfl (w.heap.size + 2) 0 (pc fun _ => 0).toArray rfl (congrArg Value.agg zeroPos) (by rw [pc_size]; exact HI.out.z.there) (by rw [infoPos, pc_size]) (pc_one _) ?_
    rw [List.toList_toArray]
    obtain ⟨hr1, hb1⟩ := HI.out.stored (Q := fun _ => 0)
    have HR := Lib.hid hr1
    have HB := Lib.hid hb1
    clear hr1 hb1 HI q0 q1 q2 qf qz
    refine forgetL_B (fun W => W.rangeAt (w.heap.size + 2) 0 (pc fun _ => 0) ∧ Below w.heap.size w W) ⟨HR.out, HB.out⟩ ?_
    clear HR HB
    rintro W8 ⟨hr1, hb1⟩
    have HR := Lib.hid hr1
    have HB := Lib.hid hb1
    clear hr1 hb1
    refine wpList_plain rfl (fun K hK => ?_)
    go_simp
    refine hK _ _ ?_
    clear hK K
    show Exit.then _ _ Exit.normal _ _
    refine ret_go (by assumption) ?_
    repeat (first | refine then_ret ?_ | refine block_ret ?_)
    refine bodyPost_ret (v := .tuple #[.agg (pc fun _ => 0).toArray, .int .i64 8]) ?_ rfl ⟨by rw [HZ.out, HE.out], HB.out⟩
    exact results_mid2 (p := 4) (u := 5) (ty := 29) rfl _ W8 (w.heap.size + 2) _ _ _ rfl rfl HR.out Tryd.underlying29 rfl (by rw [infoPos, pc_len])
theorem rMove_any (P : Nat → Int) (f t k : Int) (w : World) :
    Calls Tryd.prog 11 #[.agg (pc P).toArray, .agg #[.int .i64 f, .int .i64 t, .int .i64 k]] w fun e w' => e = .returned (.tuple #[.agg (pc (mvP P f t k)).toArray, .int .i64 (fltN (handP P) f t k)]) ∧ Below w.heap.size w w' := by
  by_cases hbad : fltN P f t k ≠ 0
  · exact rMove_bad P f t k w hbad
  have h0 : fltN P f t k = 0 := by omega
  rcases flt_cases P f t k with h | ⟨_, a, b, rfl, rfl, ha, hb⟩
  · rcases h with h | h <;> omega
  have hab : a ≠ b := by
    rintro rfl
    have := flt_bad P a a k (by simp)
    omega
  have hon := flt_on P a b k ha hb hab
  have hc : (ownB P a && becB P a b k) = true := by
    cases h : (ownB P a && becB P a b k)
    · rw [h] at hon; rw [hon] at h0; exact absurd h0 (by decide)
    · rfl
  have hown : ownB P a = true := by simp only [Bool.and_eq_true] at hc; exact hc.1
  have hparts : P (2 * a + 1) = P 128 ∧ (P 128 = 0 ∨ P 128 = 1) := by
    unfold ownB sideB at hown
    simp only [Bool.and_eq_true, Bool.or_eq_true, beq_iff_eq] at hown
    exact ⟨hown.1.1.2, hown.1.1.1⟩
  have hn : ((a : Nat) : Int).toNat = a := Int.toNat_natCast a
  have hn2 : ((b : Nat) : Int).toNat = b := Int.toNat_natCast b
  have htk : tkP P a b k = tksN P a b := by rw [tkP_eq, if_pos h0, hn, hn2]
  have key := rMove_go P (a : Int) (b : Int) k (tksN P a b) (by omega) (by omega) (by omega) w (fun W => by have := rCan_any P a b k ha hb W; rw [hc] at this; exact this) htk
    (by rcases tks_cases P a b ha hb with h | ⟨n, h, hn⟩ <;> omega) (by rw [hn, Nat.mul_comm a 2, hparts.1]; exact hparts.2) _ rfl _ rfl _ rfl _ rfl
  rw [hn, hn2, Nat.mul_comm a 2] at key
  have hm : mvP P a b k = cmN (handP P) a b k := by unfold mvP; rw [flt_hand, if_pos h0, hn, hn2]
  rw [rm_eq P a b k (tksN P a b) _ _ _ _ ha hb rfl hparts.1 hparts.2 rfl rfl rfl (by omega)] at key
  rw [hm, flt_hand, h0]
  exact key
end Go.Proofs.YtldepimkbnodpaaDoor
