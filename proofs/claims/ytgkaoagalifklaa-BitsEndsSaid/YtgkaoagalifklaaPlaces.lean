/-
  The walk of the law BitsPlaces.
-/
import Derived.Test.YtgkaoagalifklaaTurns
namespace Go.Proofs.Ytgkaoagalifklaa
open Go.RowKit Go.ChangeShapes Go.WideShapes
set_option linter.unusedVariables false

theorem choose_pl (x a b : BitVec 32) : pl (fun k => x.getLsbD k && a.getLsbD k || !x.getLsbD k && b.getLsbD k) 32 = x &&& a ||| ~~~x &&& b :=
  pl_eq _ _ fun j hj => by
    simp only [BitVec.getLsbD_or, BitVec.getLsbD_and, BitVec.getLsbD_not, hj, decide_true, Bool.true_and]
theorem most_pl (n : Nat) (f : Nat → BitVec 32) : pl (fun c => decide (n < 2 * onesTo c f n)) 32 = mostTo n f 32 :=
  pl_eq _ _ fun j hj => by rw [most_bit n f 32 j (by omega) hj]; simp [hj]

set_option maxHeartbeats 1000000 in
set_option maxRecDepth 100000 in
theorem places_walk (x a b : BitVec 32) (p : Option Addr) (len cap : Nat) (h : Nat → Int) (w : World)
    (hr : Reads w.heap.size w p len (fun i => .int .u32 (h i))) (hp : p = none → len = 0 ∧ cap = 0) (hm : len ≤ maxLen) (hw : ∀ i, i < len → (Lit.int .u32 (h i)).wf = true) :
    Calls Try.prog 4 #[.int .u32 (u x), .int .u32 (u a), .int .u32 (u b), .slice p len cap] w fun e w' => e = .returned (.bool true) ∧ Below w.heap.size w w' := by
  unfold maxLen at hm
  by_cases hlen : 1000 < len
  · go_enter Try.func4, Try.ntmps4
    go_wp2_with fail
    refine (awake_any _).mono ?_
    rintro e w1 ⟨rfl, hb1⟩
    go_wp2
    go_ret
    exact ⟨rfl, hb1⟩
  · obtain ⟨f, hf, hrf⟩ := row_words hr hw
    have HF := Lib.hid hf
    have HRF := Lib.hid hrf
    have HP := Lib.hid hp
    have HR := Lib.hid hr
    clear hw hp hr hf hrf
    obtain ⟨t, ht⟩ : ∃ t, x &&& a ||| ~~~x &&& b = t := ⟨_, rfl⟩
    obtain ⟨m, hm'⟩ : ∃ m, mostTo len f 32 = m := ⟨_, rfl⟩
    obtain ⟨s, hs⟩ : ∃ s, sumTo f len = s := ⟨_, rfl⟩
    have HT := Lib.hid ht
    have HM := Lib.hid hm'
    have HS := Lib.hid hs
    clear ht hm' hs
    go_enter Try.func4, Try.ntmps4
    go_wp2_with fail
    refine (LentLimbs.lent w.heap.size p len cap h w (by omega) HP.out HR.out (Nat.le_refl _)).mono ?_
    rintro e w1 ⟨g, rfl, hb1, hx1⟩
    have HX := Lib.hid hx1
    clear hx1
    have hin : Reads w1.heap.size w1 (some ⟨g, 0, none⟩) len (fun i => .int .u32 (u (f i))) :=
      (HX.out.take (by omega)).mono' (Nat.le_refl _) (fun i hi => (LentLimbs.ext_lt hi).trans (by rw [HF.out i hi]))
    have HIN := Lib.hid hin
    clear hin
    go_wp2_with fail
    refine (choose_at (s := u t) _ rfl rfl rfl rfl HT.out).mono ?_
    rintro e w' ⟨rfl, rfl⟩
    go_wp2_with fail
    refine (ref_choose x a b _).mono ?_
    rw [choose_pl, HT.out]
    rintro e w' ⟨rfl, rfl⟩
    go_wp2_with fail
    refine (most_any _ _ len _ f _ (by omega) HIN.out).mono ?_
    rw [HM.out]
    rintro e w' ⟨rfl, rfl⟩
    go_wp2_with fail
    refine (ref_most _ p len cap f _ (by omega) (HRF.out.below hb1)).mono ?_
    rw [most_pl, HM.out]
    rintro e w' ⟨rfl, rfl⟩
    go_wp2_with fail
    refine (sum_any _ _ len _ f _ (by omega) HIN.out).mono ?_
    rw [HS.out]
    rintro e w' ⟨rfl, rfl⟩
    go_wp2_with fail
    refine (ref_sum _ p len cap f _ (by omega) (HRF.out.below hb1)).mono ?_
    rw [HS.out]
    rintro e w' ⟨rfl, rfl⟩
    go_wp2_with fail
    refine (LentLimbs.kept w1.heap.size _ p len _ cap h _ (by omega) (by omega) ((HR.out.below hb1).mono hb1.size) HX.out).mono ?_
    rintro e w2 ⟨rfl, hb2⟩
    go_wp2_with fail
    refine (awake_any _).mono ?_
    rintro e w3 ⟨rfl, hb3⟩
    go_wp2
    go_ret
    exact ⟨rfl, (hb1.trans (hb2.mono hb1.size)).trans (hb3.mono (Nat.le_trans hb1.size hb2.size))⟩
end Go.Proofs.Ytgkaoagalifklaa
