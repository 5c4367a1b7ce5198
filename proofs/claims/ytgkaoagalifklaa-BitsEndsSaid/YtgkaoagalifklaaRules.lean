/-
  The walk of the law BitsRules.
-/
import Derived.Test.YtgkaoagalifklaaMath
namespace Go.Proofs.Ytgkaoagalifklaa
open Go.RowKit
set_option linter.unusedVariables false

theorem choose_at {x a b r : BitVec 32} {i j k s : Int} (w : World) (h1 : i = u x) (h2 : j = u a) (h3 : k = u b) (hs : s = u r) (hr : x &&& a ||| ~~~x &&& b = r) :
    Calls Try.prog 19 #[.int .u32 i, .int .u32 j, .int .u32 k] w fun e w' => e = .returned (.int .u32 s) ∧ w = w' := by
  subst h1 h2 h3 hs hr
  exact choose_any x a b w
theorem most_2 {x y r : BitVec 32} {a b s : Int} (w : World) (H : Nat) (t : TypeId) (hH : H = w.heap.size) (ha : a = u x) (hb : b = u y) (hs : s = u r) (hr : x &&& y = r) :
    Calls Try.prog 21 #[.slice (some ⟨H, 0, none⟩) 2 2] (w.alloc (.cells #[.int .u32 a, .int .u32 b] t)) fun e w' => e = .returned (.int .u32 s) ∧ w.alloc (.cells #[.int .u32 a, .int .u32 b] t) = w' := by
  subst hH ha hb hs hr
  rw [← most2 x y y]
  exact most_any _ _ 2 2 (fst3 x y y) _ (by omega) (reads_lit w _ t 2 _ (fun i hi => fst2_at x y y (fun q => Value.int .u32 (u q)) 2 (by omega) i hi))
theorem most_1 {x : BitVec 32} {a : Int} (w : World) (H : Nat) (t : TypeId) (hH : H = w.heap.size) (ha : a = u x) :
    Calls Try.prog 21 #[.slice (some ⟨H, 0, none⟩) 1 1] (w.alloc (.cells #[.int .u32 a] t)) fun e w' => e = .returned (.int .u32 (u x)) ∧ w.alloc (.cells #[.int .u32 a] t) = w' := by
  subst hH ha
  have h := most_any _ (some ⟨w.heap.size, 0, none⟩) 1 1 (fst3 x x x) (w.alloc (.cells #[.int .u32 (u x)] t)) (by omega) (reads_lit w _ t 1 _ (fun i hi => fst1_at x x x (fun q => Value.int .u32 (u q)) 1 (by omega) i hi))
  rw [most1 x x x] at h
  exact h
theorem most_0 (w : World) : Calls Try.prog 21 #[.slice none 0 0] w fun e w' => e = .returned (.int .u32 0) ∧ w = w' := by
  have h := most_any 0 none 0 0 (fun _ => 0#32) w (by omega) (.inl rfl)
  rw [most0] at h
  exact h
theorem most_3' {x y z r : BitVec 32} {a b c s : Int} (w : World) (H : Nat) (t : TypeId) (hH : H = w.heap.size) (ha : a = u x) (hb : b = u y) (hc : c = u z) (hs : s = u r) (hr : mostTo 3 (fst3 x y z) 32 = r) :
    Calls Try.prog 21 #[.slice (some ⟨H, 0, none⟩) 3 3] (w.alloc (.cells #[.int .u32 a, .int .u32 b, .int .u32 c] t)) fun e w' => e = .returned (.int .u32 s) ∧ w.alloc (.cells #[.int .u32 a, .int .u32 b, .int .u32 c] t) = w' := by
  subst hH
  exact most_3 w t ha hb hc hs hr
theorem sum_3 {x y z r : BitVec 32} {a b c s : Int} (w : World) (H : Nat) (t : TypeId) (hH : H = w.heap.size) (ha : a = u x) (hb : b = u y) (hc : c = u z) (hs : s = u r) (hr : x + y + z = r) :
    Calls Try.prog 23 #[.slice (some ⟨H, 0, none⟩) 3 3] (w.alloc (.cells #[.int .u32 a, .int .u32 b, .int .u32 c] t)) fun e w' => e = .returned (.int .u32 s) ∧ w.alloc (.cells #[.int .u32 a, .int .u32 b, .int .u32 c] t) = w' := by
  subst hH ha hb hc hs hr
  rw [← sum3]
  exact sum_any _ _ 3 3 (fst3 x y z) _ (by omega) (reads_lit w _ t 3 _ (fun i hi => fst3_at x y z (fun q => Value.int .u32 (u q)) 3 (by omega) i hi))
theorem sum_2 {x y r : BitVec 32} {a b s : Int} (w : World) (H : Nat) (t : TypeId) (hH : H = w.heap.size) (ha : a = u x) (hb : b = u y) (hs : s = u r) (hr : x + y = r) :
    Calls Try.prog 23 #[.slice (some ⟨H, 0, none⟩) 2 2] (w.alloc (.cells #[.int .u32 a, .int .u32 b] t)) fun e w' => e = .returned (.int .u32 s) ∧ w.alloc (.cells #[.int .u32 a, .int .u32 b] t) = w' := by
  subst hH ha hb hs hr
  rw [← sum2 x y y]
  exact sum_any _ _ 2 2 (fst3 x y y) _ (by omega) (reads_lit w _ t 2 _ (fun i hi => fst2_at x y y (fun q => Value.int .u32 (u q)) 2 (by omega) i hi))
theorem mix_33 (x : BitVec 32) (w : World) (H : Nat) (t : TypeId) (hH : H = w.heap.size) (c : Int) :
    Calls Try.prog 13 #[.int .u32 (u x), .slice (some ⟨H, 0, none⟩) 2 2] (w.alloc (.cells #[.int .i64 c, .int .i64 c] t)) fun e w' => e = .returned (.int .u32 0) ∧ w.alloc (.cells #[.int .i64 c, .int .i64 c] t) = w' := by
  subst hH
  have h := mix_any _ x (some ⟨w.heap.size, 0, none⟩) 2 2 (fst3 c c c) (w.alloc (.cells #[.int .i64 c, .int .i64 c] t)) (by omega) (reads_lit w _ t 2 _ (fun i hi => fst2_at c c c (fun q => Value.int .i64 q) 2 (by omega) i hi))
  rw [mix2 x (fst3 c c c) rfl] at h
  exact h
theorem mix_5 (x : BitVec 32) (w : World) (H : Nat) (t : TypeId) (hH : H = w.heap.size) (c : Int) :
    Calls Try.prog 13 #[.int .u32 (u x), .slice (some ⟨H, 0, none⟩) 1 1] (w.alloc (.cells #[.int .i64 c] t)) fun e w' => e = .returned (.int .u32 (u (turn x (c % 32).toNat))) ∧ w.alloc (.cells #[.int .i64 c] t) = w' := by
  subst hH
  have h := mix_any _ x (some ⟨w.heap.size, 0, none⟩) 1 1 (fst3 c c c) (w.alloc (.cells #[.int .i64 c] t)) (by omega) (reads_lit w _ t 1 _ (fun i hi => fst1_at c c c (fun q => Value.int .i64 q) 1 (by omega) i hi))
  rw [mix1 x (fst3 c c c)] at h
  exact h

set_option maxHeartbeats 1000000 in
set_option maxRecDepth 100000 in
theorem rules_walk (x a b : BitVec 32) (w : World) :
    Calls Try.prog 8 #[.int .u32 (u x), .int .u32 (u a), .int .u32 (u b)] w fun e w' => e = .returned (.bool true) ∧ Below w.heap.size w w' := by
  obtain ⟨c1, h1⟩ : ∃ c, x &&& a ||| ~~~x &&& b = c := ⟨_, rfl⟩
  obtain ⟨c2, h2⟩ : ∃ c, ~~~x &&& a ||| ~~~(~~~x) &&& b = c := ⟨_, rfl⟩
  have hx : (c1 ^^^ c2 != a ^^^ b) = false := by rw [← h1, ← h2, choose_turned]; simp
  obtain ⟨m, hm⟩ : ∃ m, most3 x a b = m := ⟨_, rfl⟩
  obtain ⟨s, hs⟩ : ∃ s, x + a + b = s := ⟨_, rfl⟩
  obtain ⟨q, hq⟩ : ∃ q, x + a = q := ⟨_, rfl⟩
  obtain ⟨t, ht⟩ : ∃ t, turn x ((5 : Int) % 32).toNat = t := ⟨_, rfl⟩
  have H1 := Lib.hid h1
  have H2 := Lib.hid h2
  have HM := Lib.hid hm
  have HS := Lib.hid hs
  have HQ := Lib.hid hq
  have HT := Lib.hid ht
  clear h1 h2 hm hs hq ht
  go_enter Try.func8, Try.ntmps8
  go_wp2_with fail
  refine (awake_any _).mono ?_
  rintro e w1 ⟨rfl, hb1⟩
  go_wp2_with fail
  refine (choose_at (s := u a) _ rfl rfl rfl rfl (choose_same x a)).mono ?_
  rintro e w' ⟨rfl, rfl⟩
  go_wp2_with fail
  refine (choose_at (s := u a) _ (by decide) rfl rfl rfl (choose_ones a b)).mono ?_
  rintro e w' ⟨rfl, rfl⟩
  go_wp2_with fail
  refine (choose_at (s := u b) _ (by decide) rfl rfl rfl (choose_none a b)).mono ?_
  rintro e w' ⟨rfl, rfl⟩
  go_wp2_with fail
  refine (choose_at (s := u c1) _ rfl rfl rfl rfl H1.out).mono ?_
  rintro e w' ⟨rfl, rfl⟩
  go_wp2_with fail
  refine (choose_at (s := u c2) _ rfl rfl rfl rfl H2.out).mono ?_
  rintro e w' ⟨rfl, rfl⟩
  go_wp2_with fail
  refine (most_3' (s := u m) _ _ _ (by simp) rfl rfl rfl rfl HM.out).mono ?_
  rintro e w' ⟨rfl, rfl⟩
  go_wp2_with fail
  refine (most_3' (s := u m) _ _ _ (by simp) rfl rfl rfl rfl ((most3_bxa x a b).trans HM.out)).mono ?_
  rintro e w' ⟨rfl, rfl⟩
  go_wp2_with fail
  refine (most_3' (s := u m) _ _ _ (by simp) rfl rfl rfl rfl ((most3_axb x a b).trans HM.out)).mono ?_
  rintro e w' ⟨rfl, rfl⟩
  go_wp2_with fail
  refine (most_3' (s := u x) _ _ _ (by simp) rfl rfl rfl rfl (most3_xxa x a)).mono ?_
  rintro e w' ⟨rfl, rfl⟩
  go_wp2_with fail
  refine (most_2 _ _ _ (by simp) rfl rfl rfl rfl).mono ?_
  rintro e w' ⟨rfl, rfl⟩
  go_wp2_with fail
  refine (most_1 _ _ _ (by simp) rfl).mono ?_
  rintro e w' ⟨rfl, rfl⟩
  go_wp2_with fail
  refine (most_0 _).mono ?_
  rintro e w' ⟨rfl, rfl⟩
  go_wp2_with fail
  refine (sum_3 (s := u s) _ _ _ (by simp) rfl rfl rfl rfl HS.out).mono ?_
  rintro e w' ⟨rfl, rfl⟩
  go_wp2_with fail
  refine (sum_3 (s := u s) _ _ _ (by simp) rfl rfl rfl rfl ((sum_rev x a b).trans HS.out)).mono ?_
  rintro e w' ⟨rfl, rfl⟩
  go_wp2_with fail
  refine (sum_3 (s := 0) (r := 0#32) _ _ _ (by simp) rfl rfl (by decide) (by decide) (sum_not x)).mono ?_
  rintro e w' ⟨rfl, rfl⟩
  go_wp2_with fail
  refine (sum_2 (s := u q) _ _ _ (by simp) rfl rfl rfl HQ.out).mono ?_
  rintro e w' ⟨rfl, rfl⟩
  go_wp2_with fail
  refine (sum_2 (s := u s) _ _ _ (by simp) rfl rfl rfl (by rw [← HQ.out]; exact HS.out)).mono ?_
  rintro e w' ⟨rfl, rfl⟩
  go_wp2_with fail
  refine (sum_3 (s := u s) _ _ _ (by simp) rfl rfl rfl rfl HS.out).mono ?_
  rintro e w' ⟨rfl, rfl⟩
  go_wp2_with fail
  refine (mix_33 x _ _ _ (by simp) 3).mono ?_
  rintro e w' ⟨rfl, rfl⟩
  go_wp2_with fail
  refine (mix_5 x _ _ _ (by simp) 5).mono ?_
  rw [HT.out]
  rintro e w' ⟨rfl, rfl⟩
  go_wp2_with fail
  refine (turn_at (s := u t) 5 _ rfl rfl HT.out).mono ?_
  rintro e w' ⟨rfl, rfl⟩
  go_wp2
  go_ret
  refine ⟨rfl, ?_⟩
  have hz := hb1.size
  go_grown
end Go.Proofs.Ytgkaoagalifklaa
