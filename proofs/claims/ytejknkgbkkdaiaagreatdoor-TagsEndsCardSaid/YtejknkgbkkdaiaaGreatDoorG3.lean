/-
  Merged: Marks, LentInts, LentLimbs, Rules, Turns, LentBytes.
-/
import Derived.Test.YtejknkgbkkdaiaaGreatDoorG2
import Derived.Deep.QuietTactic
import Derived.BigQuiet
import Derived.ProofKit
import Derived.OpenShut

namespace Go.Proofs.YtejknkgbkkdaiaaGreatDoor
open Go.RowKit
set_option linter.unusedSimpArgs false
set_option linter.unusedVariables false

set_option maxHeartbeats 400000 in
theorem mark_any (k i : Int) (w : World) (h0 : 0 ≤ k) (h1 : k ≤ 1000000000) (h2 : 0 ≤ i) (h3 : i ≤ 1000000000000) :
    Calls Tryz.prog 43 #[.int .i64 k, .int .i64 i] w fun e w' => e = .returned (.int .i64 (1000003 * (k + 7) + i)) ∧ w = w' := by
  go_enter Tryz.func43, Tryz.ntmps43
  go_wp2
  go_ret
  exact ⟨rfl, rfl⟩
/-- the mark of a place in a list of bytes -/
def markB (k i : Int) : Int := IntKind.u64.wrap ((1000003 * (k + 7) + i) * 11400714819323198485) / 72057594037927936 % 256
set_option maxHeartbeats 400000 in
theorem markB_any (k i : Int) (w : World) (h0 : 0 ≤ k) (h1 : k ≤ 1000000000) (h2 : 0 ≤ i) (h3 : i ≤ 1000000000000) :
    Calls Tryz.prog 23 #[.int .i64 k, .int .i64 i] w fun e w' => e = .returned (.int .u8 (markB k i)) ∧ w = w' := by
  go_enter Tryz.func23, Tryz.ntmps23
  go_wp2_with (go_at_call 43; refine (mark_any k i _ h0 h1 h2 h3).mono ?_; rintro e w' ⟨rfl, rfl⟩)
  go_ret
  exact ⟨rfl, rfl⟩
theorem mark_j (j : Nat) (w : World) (h : j ≤ 1000000000) :
    Calls Tryz.prog 43 #[.int .i64 1, .int .i64 (j : Int)] w fun e w' => e = .returned (.int .i64 (1000003 * (1 + 7) + (j : Int))) ∧ w' = w :=
  (mark_any 1 j w (by omega) (by omega) (by omega) (by omega)).mono fun e w' h => ⟨h.1, h.2.symm⟩
theorem markB_j (j : Nat) (w : World) (h : j ≤ 1000000000) :
    Calls Tryz.prog 23 #[.int .i64 1, .int .i64 (j : Int)] w fun e w' => e = .returned (.int .u8 (markB 1 (j : Int))) ∧ w' = w :=
  (markB_any 1 j w (by omega) (by omega) (by omega) (by omega)).mono fun e w' h => ⟨h.1, h.2.symm⟩
end Go.Proofs.YtejknkgbkkdaiaaGreatDoor

namespace Go.Proofs.YtejknkgbkkdaiaaGreatDoor.LentInts
open Go.RowKit
set_option linter.unusedSimpArgs false
set_option linter.unusedVariables false

theorem info : (Tryz.prog.info? 3).map (fun i => (i.zero, i.size, i.bytes)) = some (some (.int .i64 0), 1, 8) := by kernel_rfl
/-- what stands behind the list's own elements -/
def mk (i : Nat) : Int := 8000024 + (i : Int)
/-- what the mark's own call answers -/
def mk' (i : Nat) : Int := 8000024 + (i : Int)
/-- the list, and the marks behind it -/
def ext (n : Nat) (h : Nat → Int) (i : Nat) : Value := .int .i64 (if i < n then h i else mk (i - n))
theorem ext_lt {n : Nat} {h : Nat → Int} {i : Nat} (hi : i < n) : ext n h i = .int .i64 (h i) := by unfold ext; rw [if_pos hi]
theorem ext_ge {n : Nat} {h : Nat → Int} {i : Nat} (hi : n ≤ i) : ext n h i = .int .i64 (mk (i - n)) := by unfold ext; rw [if_neg (by omega)]
theorem ext_row (n : Nat) (h : Nat → Int) : (List.range n).map (fun i => Value.int .i64 (h i)) = (List.range n).map (ext n h) :=
  List.map_congr_left fun i hi => (ext_lt (List.mem_range.1 hi)).symm
theorem ext_step (n k : Nat) (h : Nat → Int) : (List.range (n + k)).map (ext n h) ++ [.int .i64 (mk k)] = (List.range (n + (k + 1))).map (ext n h) := by
  rw [show n + (k + 1) = n + k + 1 by omega, List.range_succ, List.map_append, List.map_singleton, ext_ge (by omega), show n + k - n = k by omega]
theorem row_at {f : Nat → Value} {n : Nat} {j : Nat} {x : Value} (h : ((List.range n).map f)[j]? = some x) : j < n ∧ x = f j := by
  have hj : j < n := by
    have := (List.getElem?_eq_some_iff.1 h).1; simpa using this
  refine ⟨hj, ?_⟩
  rw [List.getElem?_map, List.getElem?_range hj] at h
  simpa using h.symm

end Go.Proofs.YtejknkgbkkdaiaaGreatDoor.LentInts

namespace Go.Proofs.YtejknkgbkkdaiaaGreatDoor.LentLimbs
open Go.RowKit
set_option linter.unusedSimpArgs false
set_option linter.unusedVariables false

theorem info : (Tryz.prog.info? 96).map (fun i => (i.zero, i.size, i.bytes)) = some (some (.int .u32 0), 1, 4) := by kernel_rfl
/-- what stands behind the list's own elements -/
def mk (i : Nat) : Int := 8000024 + (i : Int)
/-- what the mark's own call answers -/
def mk' (i : Nat) : Int := 8000024 + (i : Int)
/-- the list, and the marks behind it -/
def ext (n : Nat) (h : Nat → Int) (i : Nat) : Value := .int .u32 (if i < n then h i else mk (i - n))
theorem ext_lt {n : Nat} {h : Nat → Int} {i : Nat} (hi : i < n) : ext n h i = .int .u32 (h i) := by unfold ext; rw [if_pos hi]
theorem ext_ge {n : Nat} {h : Nat → Int} {i : Nat} (hi : n ≤ i) : ext n h i = .int .u32 (mk (i - n)) := by unfold ext; rw [if_neg (by omega)]
theorem ext_row (n : Nat) (h : Nat → Int) : (List.range n).map (fun i => Value.int .u32 (h i)) = (List.range n).map (ext n h) :=
  List.map_congr_left fun i hi => (ext_lt (List.mem_range.1 hi)).symm
theorem ext_step (n k : Nat) (h : Nat → Int) : (List.range (n + k)).map (ext n h) ++ [.int .u32 (mk k)] = (List.range (n + (k + 1))).map (ext n h) := by
  rw [show n + (k + 1) = n + k + 1 by omega, List.range_succ, List.map_append, List.map_singleton, ext_ge (by omega), show n + k - n = k by omega]
theorem row_at {f : Nat → Value} {n : Nat} {j : Nat} {x : Value} (h : ((List.range n).map f)[j]? = some x) : j < n ∧ x = f j := by
  have hj : j < n := by
    have := (List.getElem?_eq_some_iff.1 h).1; simpa using this
  refine ⟨hj, ?_⟩
  rw [List.getElem?_map, List.getElem?_range hj] at h
  simpa using h.symm

end Go.Proofs.YtejknkgbkkdaiaaGreatDoor.LentLimbs

namespace Go.Proofs.YtejknkgbkkdaiaaGreatDoor
open Go.RowKit
set_option linter.unusedSimpArgs false
set_option linter.unusedVariables false

theorem choose_at {x a b r : BitVec 32} {i j k s : Int} (w : World) (h1 : i = u x) (h2 : j = u a) (h3 : k = u b) (hs : s = u r) (hr : x &&& a ||| ~~~x &&& b = r) :
    Calls Tryz.prog 106 #[.int .u32 i, .int .u32 j, .int .u32 k] w fun e w' => e = .returned (.int .u32 s) ∧ w = w' := by
  subst h1 h2 h3 hs hr
  exact choose_any x a b w
theorem most_2 {x y r : BitVec 32} {a b s : Int} (w : World) (H : Nat) (t : TypeId) (hH : H = w.heap.size) (ha : a = u x) (hb : b = u y) (hs : s = u r) (hr : x &&& y = r) :
    Calls Tryz.prog 107 #[.slice (some ⟨H, 0, none⟩) 2 2] (w.alloc (.cells #[.int .u32 a, .int .u32 b] t)) fun e w' => e = .returned (.int .u32 s) ∧ w.alloc (.cells #[.int .u32 a, .int .u32 b] t) = w' := by
  subst hH ha hb hs hr
  rw [← most2 x y y]
  exact most_any _ _ 2 2 (fst3 x y y) _ (by omega) (reads_lit w _ t 2 _ (fun i hi => fst2_at x y y (fun q => Value.int .u32 (u q)) 2 (by omega) i hi))
theorem most_1 {x : BitVec 32} {a : Int} (w : World) (H : Nat) (t : TypeId) (hH : H = w.heap.size) (ha : a = u x) :
    Calls Tryz.prog 107 #[.slice (some ⟨H, 0, none⟩) 1 1] (w.alloc (.cells #[.int .u32 a] t)) fun e w' => e = .returned (.int .u32 (u x)) ∧ w.alloc (.cells #[.int .u32 a] t) = w' := by
  subst hH ha
  have h := most_any _ (some ⟨w.heap.size, 0, none⟩) 1 1 (fst3 x x x) (w.alloc (.cells #[.int .u32 (u x)] t)) (by omega) (reads_lit w _ t 1 _ (fun i hi => fst1_at x x x (fun q => Value.int .u32 (u q)) 1 (by omega) i hi))
  rw [most1 x x x] at h
  exact h
theorem most_0 (w : World) : Calls Tryz.prog 107 #[.slice none 0 0] w fun e w' => e = .returned (.int .u32 0) ∧ w = w' := by
  have h := most_any 0 none 0 0 (fun _ => 0#32) w (by omega) (.inl rfl)
  rw [most0] at h
  exact h
theorem most_3' {x y z r : BitVec 32} {a b c s : Int} (w : World) (H : Nat) (t : TypeId) (hH : H = w.heap.size) (ha : a = u x) (hb : b = u y) (hc : c = u z) (hs : s = u r) (hr : mostTo 3 (fst3 x y z) 32 = r) :
    Calls Tryz.prog 107 #[.slice (some ⟨H, 0, none⟩) 3 3] (w.alloc (.cells #[.int .u32 a, .int .u32 b, .int .u32 c] t)) fun e w' => e = .returned (.int .u32 s) ∧ w.alloc (.cells #[.int .u32 a, .int .u32 b, .int .u32 c] t) = w' := by
  subst hH
  exact most_3 w t ha hb hc hs hr
theorem sum_3 {x y z r : BitVec 32} {a b c s : Int} (w : World) (H : Nat) (t : TypeId) (hH : H = w.heap.size) (ha : a = u x) (hb : b = u y) (hc : c = u z) (hs : s = u r) (hr : x + y + z = r) :
    Calls Tryz.prog 101 #[.slice (some ⟨H, 0, none⟩) 3 3] (w.alloc (.cells #[.int .u32 a, .int .u32 b, .int .u32 c] t)) fun e w' => e = .returned (.int .u32 s) ∧ w.alloc (.cells #[.int .u32 a, .int .u32 b, .int .u32 c] t) = w' := by
  subst hH ha hb hc hs hr
  rw [← sum3]
  exact sum_any _ _ 3 3 (fst3 x y z) _ (by omega) (reads_lit w _ t 3 _ (fun i hi => fst3_at x y z (fun q => Value.int .u32 (u q)) 3 (by omega) i hi))
theorem sum_2 {x y r : BitVec 32} {a b s : Int} (w : World) (H : Nat) (t : TypeId) (hH : H = w.heap.size) (ha : a = u x) (hb : b = u y) (hs : s = u r) (hr : x + y = r) :
    Calls Tryz.prog 101 #[.slice (some ⟨H, 0, none⟩) 2 2] (w.alloc (.cells #[.int .u32 a, .int .u32 b] t)) fun e w' => e = .returned (.int .u32 s) ∧ w.alloc (.cells #[.int .u32 a, .int .u32 b] t) = w' := by
  subst hH ha hb hs hr
  rw [← sum2 x y y]
  exact sum_any _ _ 2 2 (fst3 x y y) _ (by omega) (reads_lit w _ t 2 _ (fun i hi => fst2_at x y y (fun q => Value.int .u32 (u q)) 2 (by omega) i hi))
theorem mix_33 (x : BitVec 32) (w : World) (H : Nat) (t : TypeId) (hH : H = w.heap.size) (c : Int) :
    Calls Tryz.prog 105 #[.int .u32 (u x), .slice (some ⟨H, 0, none⟩) 2 2] (w.alloc (.cells #[.int .i64 c, .int .i64 c] t)) fun e w' => e = .returned (.int .u32 0) ∧ w.alloc (.cells #[.int .i64 c, .int .i64 c] t) = w' := by
  subst hH
  have h := mix_any _ x (some ⟨w.heap.size, 0, none⟩) 2 2 (fst3 c c c) (w.alloc (.cells #[.int .i64 c, .int .i64 c] t)) (by omega) (reads_lit w _ t 2 _ (fun i hi => fst2_at c c c (fun q => Value.int .i64 q) 2 (by omega) i hi))
  rw [mix2 x (fst3 c c c) rfl] at h
  exact h
theorem mix_5 (x : BitVec 32) (w : World) (H : Nat) (t : TypeId) (hH : H = w.heap.size) (c : Int) :
    Calls Tryz.prog 105 #[.int .u32 (u x), .slice (some ⟨H, 0, none⟩) 1 1] (w.alloc (.cells #[.int .i64 c] t)) fun e w' => e = .returned (.int .u32 (u (turn x (c % 32).toNat))) ∧ w.alloc (.cells #[.int .i64 c] t) = w' := by
  subst hH
  have h := mix_any _ x (some ⟨w.heap.size, 0, none⟩) 1 1 (fst3 c c c) (w.alloc (.cells #[.int .i64 c] t)) (by omega) (reads_lit w _ t 1 _ (fun i hi => fst1_at c c c (fun q => Value.int .i64 q) 1 (by omega) i hi))
  rw [mix1 x (fst3 c c c)] at h
  exact h

end Go.Proofs.YtejknkgbkkdaiaaGreatDoor

namespace Go.Proofs.YtejknkgbkkdaiaaGreatDoor
open Go.RowKit Go.ChangeShapes Go.WideShapes
set_option linter.unusedSimpArgs false
set_option linter.unusedVariables false

theorem turn_bit (x : BitVec 32) (r j : Nat) (hr : r < 32) (hj : j < 32) : (turn x r).getLsbD j = x.getLsbD ((j + r) % 32) := by
  unfold turn
  rw [BitVec.getLsbD_or, BitVec.getLsbD_ushiftRight, BitVec.getLsbD_shiftLeft]
  by_cases h : j + r < 32
  · rw [Nat.mod_eq_of_lt h, Nat.add_comm r j]
    simp [show j < 32 - r by omega]
  · rw [show (j + r) % 32 = j - (32 - r) by omega, BitVec.getLsbD_of_ge x (r + j) (by omega)]
    simp [hj, show ¬ j < 32 - r by omega]
theorem turn_pl (x : BitVec 32) (n : Int) : pl (fun j => x.getLsbD ((j + (n % 32).toNat) % 32)) 32 = turn x (n % 32).toNat :=
  pl_eq _ _ fun j hj => (turn_bit x _ j (by omega) hj).symm
theorem mix_bit (x : BitVec 32) (h : Nat → Int) (j : Nat) (hj : j < 32) (n : Nat) : (mixTo x h n).getLsbD j = par x h j n := by
  induction n with
  | zero => simp [mixTo, par]
  | succ n ih => simp only [mixTo, par, BitVec.getLsbD_xor, ih]; rw [turn_bit x _ j (by omega) hj]
theorem mix_pl (x : BitVec 32) (h : Nat → Int) (n : Nat) : pl (fun k => par x h k n) 32 = mixTo x h n :=
  pl_eq _ _ fun j hj => (mix_bit x h j hj n).symm
theorem shift_pl (x : BitVec 32) (n : Int) : (if n < 0 then x else pl (fun k => decide (n < 32 - (k : Int)) && x.getLsbD (k + n.toNat)) 32) = if n < 0 then x else x >>> n.toNat := by
  by_cases h : n < 0
  · rw [if_pos h, if_pos h]
  · rw [if_neg h, if_neg h]
    refine pl_eq _ _ fun j hj => ?_
    show (decide _ && _) = _
    rw [BitVec.getLsbD_ushiftRight]
    by_cases hd : n < 32 - (j : Int)
    · simp [hd, Nat.add_comm]
    · rw [BitVec.getLsbD_of_ge x (n.toNat + j) (by omega)]; simp [hd]

/-- a slice of numbers that came in, as the guide's shell tells it -/
theorem row_reads {k : IntKind} {w : World} {a : Option Addr} {len cap : Nat} {zs : List Int} (h : (a = none ∧ len = 0 ∧ cap = 0 ∧ zs = []) ∨
    ∃ x, a = some x ∧ len ≤ cap ∧ cap ≤ maxLen ∧ zs.length = cap ∧ (∀ i, i < zs.length → w.cell? (x.add i) = some (.int k (zs.getD i 0))) ∧ ∀ n ∈ zs, (Lit.int k n).wf = true) :
    Reads w.heap.size w a len (fun i => .int k (zs.getD i 0)) ∧ (a = none → len = 0 ∧ cap = 0) ∧ len ≤ maxLen ∧ ∀ i, i < len → (Lit.int k (zs.getD i 0)).wf = true := by
  rcases h with ⟨rfl, rfl, rfl, rfl⟩ | ⟨x, rfl, h1, h2, h3, h4, h5⟩
  · exact ⟨.inl rfl, fun _ => ⟨rfl, rfl⟩, by unfold maxLen; omega, fun i hi => by omega⟩
  · refine ⟨?_, fun e => (by cases e), Nat.le_trans h1 h2, fun i hi => h5 _ ?_⟩
    · by_cases h0 : len = 0
      · exact .inl h0
      · obtain ⟨b, off, rfl, hc⟩ := ints_at h4 (by omega)
        refine .inr ⟨b, off, rfl, ?_, fun i hi => hc i (by omega)⟩
        exact World.block_lt_of_cell? w ⟨b, off + 0, none⟩ (hc 0 (by omega))
    · have : zs.getD i 0 = zs[i] := by simp [List.getD, show i < zs.length by omega]
      rw [this]; exact List.getElem_mem _
theorem row_words {w : World} {a : Option Addr} {len : Nat} {h : Nat → Int} (hr : Reads w.heap.size w a len (fun i => .int .u32 (h i))) (hw : ∀ i, i < len → (Lit.int .u32 (h i)).wf = true) :
    ∃ f : Nat → BitVec 32, (∀ i, i < len → h i = u (f i)) ∧ Reads w.heap.size w a len (fun i => .int .u32 (u (f i))) := by
  have hf : ∀ i, i < len → h i = u (BitVec.ofNat 32 (h i).toNat) := fun i hi => by
    obtain ⟨x, hx⟩ := u_wf (hw i hi)
    rw [hx]; unfold u; congr 1; simp
  exact ⟨fun i => BitVec.ofNat 32 (h i).toNat, hf, hr.mono' (Nat.le_refl _) fun i hi => by rw [← hf i hi]⟩
theorem i64_wf {n : Int} (h : (Lit.int .i64 n).wf = true) : -9223372036854775808 ≤ n ∧ n ≤ 9223372036854775807 := by
  simp [Lit.wf, IntKind.min, IntKind.max, IntKind.signed, IntKind.bits] at h; omega

end Go.Proofs.YtejknkgbkkdaiaaGreatDoor

namespace Go.Proofs.YtejknkgbkkdaiaaGreatDoor.LentBytes
open Go.RowKit
set_option linter.unusedSimpArgs false
set_option linter.unusedVariables false

theorem info : (Tryz.prog.info? 5).map (fun i => (i.zero, i.size, i.bytes)) = some (some (.int .u8 0), 1, 1) := by kernel_rfl
/-- what stands behind the list's own elements -/
def mk (i : Nat) : Int := markB 1 i
/-- what the mark's own call answers -/
def mk' (i : Nat) : Int := markB 1 i
/-- the list, and the marks behind it -/
def ext (n : Nat) (h : Nat → Int) (i : Nat) : Value := .int .u8 (if i < n then h i else mk (i - n))
theorem ext_lt {n : Nat} {h : Nat → Int} {i : Nat} (hi : i < n) : ext n h i = .int .u8 (h i) := by unfold ext; rw [if_pos hi]
theorem ext_ge {n : Nat} {h : Nat → Int} {i : Nat} (hi : n ≤ i) : ext n h i = .int .u8 (mk (i - n)) := by unfold ext; rw [if_neg (by omega)]
theorem ext_row (n : Nat) (h : Nat → Int) : (List.range n).map (fun i => Value.int .u8 (h i)) = (List.range n).map (ext n h) :=
  List.map_congr_left fun i hi => (ext_lt (List.mem_range.1 hi)).symm
theorem ext_step (n k : Nat) (h : Nat → Int) : (List.range (n + k)).map (ext n h) ++ [.int .u8 (mk k)] = (List.range (n + (k + 1))).map (ext n h) := by
  rw [show n + (k + 1) = n + k + 1 by omega, List.range_succ, List.map_append, List.map_singleton, ext_ge (by omega), show n + k - n = k by omega]
theorem row_at {f : Nat → Value} {n : Nat} {j : Nat} {x : Value} (h : ((List.range n).map f)[j]? = some x) : j < n ∧ x = f j := by
  have hj : j < n := by
    have := (List.getElem?_eq_some_iff.1 h).1; simpa using this
  refine ⟨hj, ?_⟩
  rw [List.getElem?_map, List.getElem?_range hj] at h
  simpa using h.symm

set_option maxHeartbeats 1000000 in
set_option maxRecDepth 100000 in
theorem lent (B : Nat) (p : Option Addr) (n cap : Nat) (h : Nat → Int) (w : World) (hn : n ≤ 4294967295) (hp : p = none → n = 0 ∧ cap = 0) (hr : Reads B w p n (fun i => .int .u8 (h i))) (hB : B ≤ w.heap.size) :
    Calls Tryz.prog 7 #[.slice p n cap] w fun e w' => ∃ g, e = .returned (.slice (some ⟨g, 0, none⟩) n (n + 12)) ∧ Below w.heap.size w w' ∧ Reads w'.heap.size w' (some ⟨g, 0, none⟩) (n + 12) (ext n h) := by
  obtain ⟨i0, hi, hz0, hz1, hz2⟩ := info_parts info
  have hmk := run_make (P := Tryz.prog) w 22 5 i0 (.int .u8 0) Tryz.underlying22 hi hz0 .i64 .i64 0 (n + 12) (by omega) (by omega) (by rw [hz2]; omega) (by omega)
  have hsC : (madeCells (Value.int .u8 0).cells (((n : Int) + 12).toNat * i0.size)).size = n + 12 := by rw [size_madeCells, hz1]; omega
  rw [show ((n : Int) + 12).toNat = n + 12 by omega, Int.toNat_zero] at hmk
  rw [show ((n : Int) + 12).toNat = n + 12 by omega] at hsC
  generalize madeCells (Value.int .u8 0).cells ((n + 12) * i0.size) = C at hmk hsC
  have hown := World.ownsRow_made (e := 5) (size := 1) w C (n + 12) (Nat.le_refl _) (by unfold maxLen; omega) (by omega)
  have hb0 : Below w.heap.size w (w.alloc (.cells C 5)) := (Below.refl _ _).alloc (Nat.le_refl _) _
  have hr0 := hr.below (hb0.mono hB)
  have HC := Lib.hid hsC
  clear hsC hr
  obtain ⟨xs, hxs⟩ : ∃ xs, xs = (List.range n).map (fun i => Value.int .u8 (h i)) := ⟨_, rfl⟩
  have hxl : xs.length = n * 1 := by rw [hxs]; simp
  have hxc : ∀ ad, p = some ad → ∀ j x, xs[j]? = some x → (w.alloc (.cells C 5)).cell? (ad.add j) = some x := by
    rintro ad rfl j x hj
    rw [hxs] at hj
    obtain ⟨hj2, rfl⟩ := row_at hj
    clear hj
    rcases hr0 with h0 | ⟨b, off, he, hb, hc⟩
    · omega
    · cases he
      rw [← hc j hj2, Go.WideShapes.add_plain]
  have hx1 : ∀ x ∈ xs, x.oneCell' = true := by
    intro x hx; rw [hxs] at hx; simp at hx; obtain ⟨i, _, rfl⟩ := hx; rfl
  have HX := Lib.hid hxs
  clear hxs hr0
  have HXC := Lib.hid hxc
  clear hxc
  go_enter Tryz.func7, Tryz.ntmps7
  go_wp2_with (at_builtin; refine wpList_append_fits_any _ rfl (.tmp 9) (.tmp 10) 22 rfl w.heap.size 5 i0 1 Tryz.underlying22 hi hz1 w.heap.size 0 (n + 12) [] rfl hown p n cap xs rfl hxl hp HXC.out hx1 (by omega) ?_)
  intro w1 hown1 hgrow1
  have hb1 : Below w.heap.size w w1 := hb0.grown hgrow1 (by simp) (fun k e => by cases e; exact Nat.le_refl _)
  have hown1' : w1.ownsRow w.heap.size 5 1 (.slice (some ⟨w.heap.size, 0, none⟩) (n + 0) (n + 12)) (n + 0) ((List.range (n + 0)).map (ext n h)) := by
    rw [Nat.add_zero, ← ext_row n h, ← HX.out]
    simpa using hown1
  clear hown1 hgrow1 hown HXC HC hb0 hmk
  go_wp2
  go_loopw [3, 4] (fun v i wr => ∃ k : Nat, k ≤ 12 ∧ i = .int .i64 k ∧ v = .slice (some ⟨w.heap.size, 0, none⟩) (n + k) (n + 12) ∧ wr.ownsRow w.heap.size 5 1 (.slice (some ⟨w.heap.size, 0, none⟩) (n + k) (n + 12)) (n + k) ((List.range (n + k)).map (ext n h)) ∧ Below w.heap.size w wr) (fun _ i _ => 12 - (intOf i).toNat)
  case atStart => exact ⟨0, Nat.zero_le _, rfl, rfl, hown1', hb1⟩
  case round =>
    obtain ⟨k, hk, rfl, rfl, hown, hbel⟩ := hrel
    clear hown1' hb1
    have hsz := hbel.size
    by_cases hlt : k < 12
    · go_wp2_with (first | (go_at_call 23; refine (markB_any 1 _ _ (by omega) (by omega) (by omega) (by omega)).mono ?_; rintro e w' ⟨rfl, rfl⟩) | (at_builtin; refine wpList_append_fits _ rfl (.tmp 16) (.tmp 19) 22 rfl w.heap.size 5 i0 1 Tryz.underlying22 hi hz1 w.heap.size (n + k) (n + 12) ((List.range (n + k)).map (ext n h)) rfl (hown.alloc _) ⟨wr.heap.size, 0, none⟩ 1 1 [.int .u8 (mk k)] rfl rfl ?c1 ?c2 (by omega) ?next))
      case c1 => exact World.news_of_block (heap_alloc_new _ _)
      case c2 => intro y hy; simp at hy; subst hy; rfl
      case next =>
        intro w2 hown2 hgrow2
        rw [ext_step] at hown2
        have hb2 : Below w.heap.size w w2 := (hbel.alloc hsz _).grown hgrow2 (by simp; omega) (fun k e => by cases e; exact Nat.le_refl _)
        clear hgrow2 hown hbel
        go_wp2
        go_roundw
        case rel => exact ⟨k + 1, by omega, by go_num, rfl, hown2, hb2⟩
        case measure => simp [intOf]; omega
    · obtain rfl : k = 12 := by omega
      go_wp2
      go_ret
      exact ⟨w.heap.size, rfl, hbel, owns_reads' hown⟩

set_option maxHeartbeats 1000000 in
set_option maxRecDepth 100000 in
theorem kept (B : Nat) (p q : Option Addr) (n cap c : Nat) (h : Nat → Int) (w : World) (hn : n ≤ 4294967295) (hc : n + 12 ≤ cap) (hq : Reads B w q n (fun i => .int .u8 (h i))) (hp : Reads B w p (n + 12) (ext n h)) :
    Calls Tryz.prog 16 #[.slice p n cap, .slice q n c] w fun e w' => e = .returned (.bool true) ∧ Below w.heap.size w w' := by
  have hp0 : p ≠ none := by
    rcases hp with h0 | ⟨b, off, rfl, hb, hcp⟩
    · omega
    · simp
  obtain ⟨ad, rfl⟩ := Option.ne_none_iff_exists'.1 hp0
  have HP := Lib.hid hp
  have HQ := Lib.hid hq
  clear hp hq hp0
  go_enter Tryz.func16, Tryz.ntmps16
  go_wp2
  go_loopw [6] (fun i wr => ∃ k : Nat, k ≤ n + 12 ∧ i = .int .i64 k ∧ Below w.heap.size w wr ∧ Below B w wr) (fun i _ => n + 12 - (intOf i).toNat)
  case atStart => exact ⟨0, Nat.zero_le _, rfl, Below.refl _ _, Below.refl _ _⟩
  case round =>
    obtain ⟨k, hk, rfl, hb1, hb2⟩ := hrel
    by_cases hlt : k < n + 12
    · rcases HP.out.below hb2 with h0 | ⟨b, off, he, hb, hcp⟩
      · omega
      cases he
      have hcell := hcp k hlt
      clear hcp
      by_cases hkn : k < n
      · rcases HQ.out.below hb2 with h0 | ⟨b2, off2, rfl, hb2', hcq⟩
        · omega
        have hcell2 := hcq k hkn
        clear hcq
        rw [ext_lt hkn] at hcell
        have d1 : decide ((k : Int) < (n : Int)) = true := by simp; omega
        have d2 : decide (n ≤ k) = false := by simp; omega
        have d3 : decide (k < n) = true := by simp; omega
        go_wp2
        go_quiet (fail)
        go_wp2
        go_roundw
        case rel => exact ⟨k + 1, by omega, by go_num, below_drewN hb1 _, below_drewN hb2 _⟩
        case measure => simp [intOf]; omega
      · rw [ext_ge (by omega)] at hcell
        have d1 : decide (k < n) = false := by simp; omega
        have d2 : decide (n ≤ k) = true := by simp; omega
        have s1 : IntKind.i64.wrap ((k : Int) - (n : Int)) = (k : Int) - (n : Int) := IntWalk.i64_in _ (by omega)
        have hM : ∀ W, Calls Tryz.prog 23 #[.int .i64 1, .int .i64 ((k : Int) - (n : Int))] W fun e w' => e = .returned (.int .u8 (mk' (k - n))) ∧ w' = W := fun W => by
          rw [show (k : Int) - (n : Int) = ((k - n : Nat) : Int) by omega]
          exact markB_j (k - n) W (by omega)
        have hmm : mk (k - n) = mk' (k - n) := rfl
        rw [hmm] at hcell
        generalize mk' (k - n) = M at hM hcell
        have HM := Lib.hid hM
        clear hM hmm
        go_wp2
        go_quiet ((go_at_call 23; exact Calls.quiet_of_same (HM.out _)))
        go_wp2
        go_roundw
        case rel => exact ⟨k + 1, by omega, by go_num, below_drewN hb1 _, below_drewN hb2 _⟩
        case measure => simp [intOf]; omega
    · obtain rfl : k = n + 12 := by omega
      go_wp2
      go_ret
      exact ⟨rfl, hb1⟩


set_option maxHeartbeats 400000 in
set_option maxRecDepth 100000 in
theorem over (base : Nat) (v : Value) (n : Nat) (xs : List Value) (w : World) (hown : w.ownsRow base 5 1 v n xs) (hn : n ≤ 4294967295) :
    Calls Tryz.prog 9 #[v] w fun e w' => e = .returned (.tuple #[]) ∧ w.grownBy w' v.ownBlock := by
  rcases hown.2 with ⟨rfl, rfl⟩ | ⟨g, cap, cur, rfl, hg, hh, hnc, hcap, hsz, htake⟩
  · go_enter Tryz.func9, Tryz.ntmps9
    go_wp2
    go_loop [3] (fun i => i = .int .i64 0) (fun _ => 0)
    case atStart => rfl
    case round =>
      obtain rfl := hrel
      go_wp2
      go_end0
      exact ⟨rfl, World.grownBy.refl _ _⟩
  · unfold maxLen at hcap
    have e1 : ((n : Int) + 12).toNat = n + 12 := by omega
    have H0 : ∃ c : Array Value, w.heap[g]? = some (.cells c 5 (0, 0)) ∧ c.size = cap := ⟨cur, hh, by omega⟩
    have HH := Lib.hid H0
    clear H0 hown hsz htake hh
    by_cases hmin : n + 12 < cap
    all_goals
      go_enter Tryz.func9, Tryz.ntmps9
      go_wp2
      go_loopw [3] (fun i wr => ∃ k : Nat, k ≤ n + 12 ∧ k ≤ cap ∧ i = .int .i64 k ∧ (∃ c : Array Value, wr.heap[g]? = some (.cells c 5 (0, 0)) ∧ c.size = cap) ∧ w.grownBy wr (some g)) (fun i _ => n + 12 - (intOf i).toNat)
      case atStart => exact ⟨0, Nat.zero_le _, Nat.zero_le _, rfl, HH.out, World.grownBy.refl _ _⟩
      case round =>
        obtain ⟨k, hk, hk2, rfl, ⟨c, hc, hcs⟩, hgr⟩ := hrel
        by_cases hlt : k < n + 12 ∧ k < cap
        · obtain ⟨l1, l2⟩ := hlt
          obtain ⟨y0, hcell⟩ : ∃ y, wr.cell? ⟨g, k, none⟩ = some y := ⟨c[k]'(by omega), by
            rw [cell_of_row wr g k c _ (0, 0) hc]; simp⟩
          have hfr : wr.frozen? ⟨g, k, none⟩ = false := frozen_of_row wr g k c _ hc
          have hst : ∀ y, (∃ c : Array Value, (wr.setCell ⟨g, k, none⟩ y).heap[g]? = some (.cells c 5 (0, 0)) ∧ c.size = cap) ∧ w.grownBy (wr.setCell ⟨g, k, none⟩ y) (some g) := fun y =>
            ⟨⟨_, heap_setCell_same wr g k c _ y hc, by simpa using hcs⟩,
             ⟨hgr.os, hgr.tape, hgr.output, by simpa using hgr.size, fun j hj hjg => (Below.heap_setCell wr _ y j (fun e => hjg (by rw [e]))).trans (hgr.block j hj hjg)⟩⟩
          have HS := Lib.hid hst
          clear hst hc hcs hgr
          go_wp2_with (go_at_call 23; refine (markB_any 2 _ _ (by omega) (by omega) (by omega) (by omega)).mono ?_; rintro e w' ⟨rfl, rfl⟩)
          go_roundw
          case rel => exact ⟨k + 1, by omega, by omega, by go_num, (HS.out _).1, (HS.out _).2⟩
          case measure => simp [intOf]; omega
        · rcases (show (n + 12 < cap ∧ k = n + 12) ∨ (¬ n + 12 < cap ∧ k = cap) by omega) with ⟨hm2, rfl⟩ | ⟨hm2, rfl⟩
          all_goals first
            | (exfalso; omega)
            | (go_wp2
               go_end0
               exact ⟨rfl, hgr⟩)
end Go.Proofs.YtejknkgbkkdaiaaGreatDoor.LentBytes
