/-
  The walk of the law BitsRules.
-/
import Derived.Test.YthhjieagdkimfaaDoorMath
namespace Go.Proofs.YthhjieagdkimfaaDoor
open Go.RowKit
set_option linter.unusedSimpArgs false
set_option linter.unusedVariables false

theorem choose_at {x a b r : BitVec 32} {i j k s : Int} (w : World) (h1 : i = u x) (h2 : j = u a) (h3 : k = u b) (hs : s = u r) (hr : x &&& a ||| ~~~x &&& b = r) :
    Calls Tryd.prog 116 #[.int .u32 i, .int .u32 j, .int .u32 k] w fun e w' => e = .returned (.int .u32 s) ∧ w = w' := by
  subst h1 h2 h3 hs hr
  exact choose_any x a b w
theorem most_2 {x y r : BitVec 32} {a b s : Int} (w : World) (H : Nat) (t : TypeId) (hH : H = w.heap.size) (ha : a = u x) (hb : b = u y) (hs : s = u r) (hr : x &&& y = r) :
    Calls Tryd.prog 117 #[.slice (some ⟨H, 0, none⟩) 2 2] (w.alloc (.cells #[.int .u32 a, .int .u32 b] t)) fun e w' => e = .returned (.int .u32 s) ∧ w.alloc (.cells #[.int .u32 a, .int .u32 b] t) = w' := by
  subst hH ha hb hs hr
  rw [← most2 x y y]
  exact most_any _ _ 2 2 (fst3 x y y) _ (by omega) (reads_lit w _ t 2 _ (fun i hi => fst2_at x y y (fun q => Value.int .u32 (u q)) 2 (by omega) i hi))
theorem most_1 {x : BitVec 32} {a : Int} (w : World) (H : Nat) (t : TypeId) (hH : H = w.heap.size) (ha : a = u x) :
    Calls Tryd.prog 117 #[.slice (some ⟨H, 0, none⟩) 1 1] (w.alloc (.cells #[.int .u32 a] t)) fun e w' => e = .returned (.int .u32 (u x)) ∧ w.alloc (.cells #[.int .u32 a] t) = w' := by
  subst hH ha
  have h := most_any _ (some ⟨w.heap.size, 0, none⟩) 1 1 (fst3 x x x) (w.alloc (.cells #[.int .u32 (u x)] t)) (by omega) (reads_lit w _ t 1 _ (fun i hi => fst1_at x x x (fun q => Value.int .u32 (u q)) 1 (by omega) i hi))
  rw [most1 x x x] at h
  exact h
theorem most_0 (w : World) : Calls Tryd.prog 117 #[.slice none 0 0] w fun e w' => e = .returned (.int .u32 0) ∧ w = w' := by
  have h := most_any 0 none 0 0 (fun _ => 0#32) w (by omega) (.inl rfl)
  rw [most0] at h
  exact h
theorem most_3' {x y z r : BitVec 32} {a b c s : Int} (w : World) (H : Nat) (t : TypeId) (hH : H = w.heap.size) (ha : a = u x) (hb : b = u y) (hc : c = u z) (hs : s = u r) (hr : mostTo 3 (fst3 x y z) 32 = r) :
    Calls Tryd.prog 117 #[.slice (some ⟨H, 0, none⟩) 3 3] (w.alloc (.cells #[.int .u32 a, .int .u32 b, .int .u32 c] t)) fun e w' => e = .returned (.int .u32 s) ∧ w.alloc (.cells #[.int .u32 a, .int .u32 b, .int .u32 c] t) = w' := by
  subst hH
  exact most_3 w t ha hb hc hs hr
theorem sum_3 {x y z r : BitVec 32} {a b c s : Int} (w : World) (H : Nat) (t : TypeId) (hH : H = w.heap.size) (ha : a = u x) (hb : b = u y) (hc : c = u z) (hs : s = u r) (hr : x + y + z = r) :
    Calls Tryd.prog 108 #[.slice (some ⟨H, 0, none⟩) 3 3] (w.alloc (.cells #[.int .u32 a, .int .u32 b, .int .u32 c] t)) fun e w' => e = .returned (.int .u32 s) ∧ w.alloc (.cells #[.int .u32 a, .int .u32 b, .int .u32 c] t) = w' := by
  subst hH ha hb hc hs hr
  rw [← sum3]
  exact sum_any _ _ 3 3 (fst3 x y z) _ (by omega) (reads_lit w _ t 3 _ (fun i hi => fst3_at x y z (fun q => Value.int .u32 (u q)) 3 (by omega) i hi))
theorem sum_2 {x y r : BitVec 32} {a b s : Int} (w : World) (H : Nat) (t : TypeId) (hH : H = w.heap.size) (ha : a = u x) (hb : b = u y) (hs : s = u r) (hr : x + y = r) :
    Calls Tryd.prog 108 #[.slice (some ⟨H, 0, none⟩) 2 2] (w.alloc (.cells #[.int .u32 a, .int .u32 b] t)) fun e w' => e = .returned (.int .u32 s) ∧ w.alloc (.cells #[.int .u32 a, .int .u32 b] t) = w' := by
  subst hH ha hb hs hr
  rw [← sum2 x y y]
  exact sum_any _ _ 2 2 (fst3 x y y) _ (by omega) (reads_lit w _ t 2 _ (fun i hi => fst2_at x y y (fun q => Value.int .u32 (u q)) 2 (by omega) i hi))
theorem mix_33 (x : BitVec 32) (w : World) (H : Nat) (t : TypeId) (hH : H = w.heap.size) (c : Int) :
    Calls Tryd.prog 115 #[.int .u32 (u x), .slice (some ⟨H, 0, none⟩) 2 2] (w.alloc (.cells #[.int .i64 c, .int .i64 c] t)) fun e w' => e = .returned (.int .u32 0) ∧ w.alloc (.cells #[.int .i64 c, .int .i64 c] t) = w' := by
  subst hH
  have h := mix_any _ x (some ⟨w.heap.size, 0, none⟩) 2 2 (fst3 c c c) (w.alloc (.cells #[.int .i64 c, .int .i64 c] t)) (by omega) (reads_lit w _ t 2 _ (fun i hi => fst2_at c c c (fun q => Value.int .i64 q) 2 (by omega) i hi))
  rw [mix2 x (fst3 c c c) rfl] at h
  exact h
theorem mix_5 (x : BitVec 32) (w : World) (H : Nat) (t : TypeId) (hH : H = w.heap.size) (c : Int) :
    Calls Tryd.prog 115 #[.int .u32 (u x), .slice (some ⟨H, 0, none⟩) 1 1] (w.alloc (.cells #[.int .i64 c] t)) fun e w' => e = .returned (.int .u32 (u (turn x (c % 32).toNat))) ∧ w.alloc (.cells #[.int .i64 c] t) = w' := by
  subst hH
  have h := mix_any _ x (some ⟨w.heap.size, 0, none⟩) 1 1 (fst3 c c c) (w.alloc (.cells #[.int .i64 c] t)) (by omega) (reads_lit w _ t 1 _ (fun i hi => fst1_at c c c (fun q => Value.int .i64 q) 1 (by omega) i hi))
  rw [mix1 x (fst3 c c c)] at h
  exact h

end Go.Proofs.YthhjieagdkimfaaDoor
