/-
  Merged: Rules, Turns, LentBytes.
-/
import Derived.Test.YtoocfkaclhgjeaaDoorG3
import Derived.ProofKit
import Derived.OpenShut

namespace Go.Proofs.YtoocfkaclhgjeaaDoor
open Go.RowKit
set_option linter.unusedSimpArgs false
set_option linter.unusedVariables false

theorem choose_at {x a b r : BitVec 32} {i j k s : Int} (w : World) (h1 : i = u x) (h2 : j = u a) (h3 : k = u b) (hs : s = u r) (hr : x &&& a ||| ~~~x &&& b = r) :
    Calls Tryd.prog 76 #[.int .u32 i, .int .u32 j, .int .u32 k] w fun e w' => e = .returned (.int .u32 s) ∧ w = w' := by
  subst h1 h2 h3 hs hr
  exact choose_any x a b w
theorem most_2 {x y r : BitVec 32} {a b s : Int} (w : World) (H : Nat) (t : TypeId) (hH : H = w.heap.size) (ha : a = u x) (hb : b = u y) (hs : s = u r) (hr : x &&& y = r) :
    Calls Tryd.prog 77 #[.slice (some ⟨H, 0, none⟩) 2 2] (w.alloc (.cells #[.int .u32 a, .int .u32 b] t)) fun e w' => e = .returned (.int .u32 s) ∧ w.alloc (.cells #[.int .u32 a, .int .u32 b] t) = w' := by
  subst hH ha hb hs hr
  rw [← most2 x y y]
  exact most_any _ _ 2 2 (fst3 x y y) _ (by omega) (reads_lit w _ t 2 _ (fun i hi => fst2_at x y y (fun q => Value.int .u32 (u q)) 2 (by omega) i hi))
theorem most_1 {x : BitVec 32} {a : Int} (w : World) (H : Nat) (t : TypeId) (hH : H = w.heap.size) (ha : a = u x) :
    Calls Tryd.prog 77 #[.slice (some ⟨H, 0, none⟩) 1 1] (w.alloc (.cells #[.int .u32 a] t)) fun e w' => e = .returned (.int .u32 (u x)) ∧ w.alloc (.cells #[.int .u32 a] t) = w' := by
  subst hH ha
  have h := most_any _ (some ⟨w.heap.size, 0, none⟩) 1 1 (fst3 x x x) (w.alloc (.cells #[.int .u32 (u x)] t)) (by omega) (reads_lit w _ t 1 _ (fun i hi => fst1_at x x x (fun q => Value.int .u32 (u q)) 1 (by omega) i hi))
  rw [most1 x x x] at h
  exact h
theorem most_0 (w : World) : Calls Tryd.prog 77 #[.slice none 0 0] w fun e w' => e = .returned (.int .u32 0) ∧ w = w' := by
  have h := most_any 0 none 0 0 (fun _ => 0#32) w (by omega) (.inl rfl)
  rw [most0] at h
  exact h
theorem most_3' {x y z r : BitVec 32} {a b c s : Int} (w : World) (H : Nat) (t : TypeId) (hH : H = w.heap.size) (ha : a = u x) (hb : b = u y) (hc : c = u z) (hs : s = u r) (hr : mostTo 3 (fst3 x y z) 32 = r) :
    Calls Tryd.prog 77 #[.slice (some ⟨H, 0, none⟩) 3 3] (w.alloc (.cells #[.int .u32 a, .int .u32 b, .int .u32 c] t)) fun e w' => e = .returned (.int .u32 s) ∧ w.alloc (.cells #[.int .u32 a, .int .u32 b, .int .u32 c] t) = w' := by
  subst hH
  exact most_3 w t ha hb hc hs hr
theorem sum_3 {x y z r : BitVec 32} {a b c s : Int} (w : World) (H : Nat) (t : TypeId) (hH : H = w.heap.size) (ha : a = u x) (hb : b = u y) (hc : c = u z) (hs : s = u r) (hr : x + y + z = r) :
    Calls Tryd.prog 71 #[.slice (some ⟨H, 0, none⟩) 3 3] (w.alloc (.cells #[.int .u32 a, .int .u32 b, .int .u32 c] t)) fun e w' => e = .returned (.int .u32 s) ∧ w.alloc (.cells #[.int .u32 a, .int .u32 b, .int .u32 c] t) = w' := by
  subst hH ha hb hc hs hr
  rw [← sum3]
  exact sum_any _ _ 3 3 (fst3 x y z) _ (by omega) (reads_lit w _ t 3 _ (fun i hi => fst3_at x y z (fun q => Value.int .u32 (u q)) 3 (by omega) i hi))
theorem sum_2 {x y r : BitVec 32} {a b s : Int} (w : World) (H : Nat) (t : TypeId) (hH : H = w.heap.size) (ha : a = u x) (hb : b = u y) (hs : s = u r) (hr : x + y = r) :
    Calls Tryd.prog 71 #[.slice (some ⟨H, 0, none⟩) 2 2] (w.alloc (.cells #[.int .u32 a, .int .u32 b] t)) fun e w' => e = .returned (.int .u32 s) ∧ w.alloc (.cells #[.int .u32 a, .int .u32 b] t) = w' := by
  subst hH ha hb hs hr
  rw [← sum2 x y y]
  exact sum_any _ _ 2 2 (fst3 x y y) _ (by omega) (reads_lit w _ t 2 _ (fun i hi => fst2_at x y y (fun q => Value.int .u32 (u q)) 2 (by omega) i hi))
theorem mix_33 (x : BitVec 32) (w : World) (H : Nat) (t : TypeId) (hH : H = w.heap.size) (c : Int) :
    Calls Tryd.prog 75 #[.int .u32 (u x), .slice (some ⟨H, 0, none⟩) 2 2] (w.alloc (.cells #[.int .i64 c, .int .i64 c] t)) fun e w' => e = .returned (.int .u32 0) ∧ w.alloc (.cells #[.int .i64 c, .int .i64 c] t) = w' := by
  subst hH
  have h := mix_any _ x (some ⟨w.heap.size, 0, none⟩) 2 2 (fst3 c c c) (w.alloc (.cells #[.int .i64 c, .int .i64 c] t)) (by omega) (reads_lit w _ t 2 _ (fun i hi => fst2_at c c c (fun q => Value.int .i64 q) 2 (by omega) i hi))
  rw [mix2 x (fst3 c c c) rfl] at h
  exact h
theorem mix_5 (x : BitVec 32) (w : World) (H : Nat) (t : TypeId) (hH : H = w.heap.size) (c : Int) :
    Calls Tryd.prog 75 #[.int .u32 (u x), .slice (some ⟨H, 0, none⟩) 1 1] (w.alloc (.cells #[.int .i64 c] t)) fun e w' => e = .returned (.int .u32 (u (turn x (c % 32).toNat))) ∧ w.alloc (.cells #[.int .i64 c] t) = w' := by
  subst hH
  have h := mix_any _ x (some ⟨w.heap.size, 0, none⟩) 1 1 (fst3 c c c) (w.alloc (.cells #[.int .i64 c] t)) (by omega) (reads_lit w _ t 1 _ (fun i hi => fst1_at c c c (fun q => Value.int .i64 q) 1 (by omega) i hi))
  rw [mix1 x (fst3 c c c)] at h
  exact h

end Go.Proofs.YtoocfkaclhgjeaaDoor

namespace Go.Proofs.YtoocfkaclhgjeaaDoor
open Go.RowKit Go.ChangeShapes Go.WideShapes
set_option linter.unusedSimpArgs false
set_option linter.unusedVariables false

theorem turn_bit (x : BitVec 32) (r j : Nat) (hr : r < 32) (hj : j < 32) : (turn x r).getLsbD j = x.getLsbD ((j + r) % 32) := by
  unfold turn
  rw [BitVec.getLsbD_or, BitVec.getLsbD_ushiftRight, BitVec.getLsbD_shiftLeft]
  by_cases h : j + r < 32
  · rw [Nat.mod_eq_of_lt h, Nat.add_comm r j]
    simp [show j < 32 - r by omega]
  · rw [show (j + r) % 32 = j - (32 - r) by omega, BitVec.getLsbD_of_ge x (r + j) (by omega)]
    simp [hj, show ¬ j < 32 - r by omega]
theorem turn_pl (x : BitVec 32) (n : Int) : pl (fun j => x.getLsbD ((j + (n % 32).toNat) % 32)) 32 = turn x (n % 32).toNat :=
  pl_eq _ _ fun j hj => (turn_bit x _ j (by omega) hj).symm
theorem mix_bit (x : BitVec 32) (h : Nat → Int) (j : Nat) (hj : j < 32) (n : Nat) : (mixTo x h n).getLsbD j = par x h j n := by
  induction n with
  | zero => simp [mixTo, par]
  | succ n ih => simp only [mixTo, par, BitVec.getLsbD_xor, ih]; rw [turn_bit x _ j (by omega) hj]
theorem mix_pl (x : BitVec 32) (h : Nat → Int) (n : Nat) : pl (fun k => par x h k n) 32 = mixTo x h n :=
  pl_eq _ _ fun j hj => (mix_bit x h j hj n).symm
theorem shift_pl (x : BitVec 32) (n : Int) : (if n < 0 then x else pl (fun k => decide (n < 32 - (k : Int)) && x.getLsbD (k + n.toNat)) 32) = if n < 0 then x else x >>> n.toNat := by
  by_cases h : n < 0
  · rw [if_pos h, if_pos h]
  · rw [if_neg h, if_neg h]
    refine pl_eq _ _ fun j hj => ?_
    show (decide _ && _) = _
    rw [BitVec.getLsbD_ushiftRight]
    by_cases hd : n < 32 - (j : Int)
    · simp [hd, Nat.add_comm]
    · rw [BitVec.getLsbD_of_ge x (n.toNat + j) (by omega)]; simp [hd]

/-- a slice of numbers that came in, as the guide's shell tells it -/
theorem row_reads {k : IntKind} {w : World} {a : Option Addr} {len cap : Nat} {zs : List Int} (h : (a = none ∧ len = 0 ∧ cap = 0 ∧ zs = []) ∨
    ∃ x, a = some x ∧ len ≤ cap ∧ cap ≤ maxLen ∧ zs.length = cap ∧ (∀ i, i < zs.length → w.cell? (x.add i) = some (.int k (zs.getD i 0))) ∧ ∀ n ∈ zs, (Lit.int k n).wf = true) :
    Reads w.heap.size w a len (fun i => .int k (zs.getD i 0)) ∧ (a = none → len = 0 ∧ cap = 0) ∧ len ≤ maxLen ∧ ∀ i, i < len → (Lit.int k (zs.getD i 0)).wf = true := by
  rcases h with ⟨rfl, rfl, rfl, rfl⟩ | ⟨x, rfl, h1, h2, h3, h4, h5⟩
  · exact ⟨.inl rfl, fun _ => ⟨rfl, rfl⟩, by unfold maxLen; omega, fun i hi => by omega⟩
  · refine ⟨?_, fun e => (by cases e), Nat.le_trans h1 h2, fun i hi => h5 _ ?_⟩
    · by_cases h0 : len = 0
      · exact .inl h0
      · obtain ⟨b, off, rfl, hc⟩ := ints_at h4 (by omega)
        refine .inr ⟨b, off, rfl, ?_, fun i hi => hc i (by omega)⟩
        exact World.block_lt_of_cell? w ⟨b, off + 0, none⟩ (hc 0 (by omega))
    · have : zs.getD i 0 = zs[i] := by simp [List.getD, show i < zs.length by omega]
      rw [this]; exact List.getElem_mem _
theorem row_words {w : World} {a : Option Addr} {len : Nat} {h : Nat → Int} (hr : Reads w.heap.size w a len (fun i => .int .u32 (h i))) (hw : ∀ i, i < len → (Lit.int .u32 (h i)).wf = true) :
    ∃ f : Nat → BitVec 32, (∀ i, i < len → h i = u (f i)) ∧ Reads w.heap.size w a len (fun i => .int .u32 (u (f i))) := by
  have hf : ∀ i, i < len → h i = u (BitVec.ofNat 32 (h i).toNat) := fun i hi => by
    obtain ⟨x, hx⟩ := u_wf (hw i hi)
    rw [hx]; unfold u; congr 1; simp
  exact ⟨fun i => BitVec.ofNat 32 (h i).toNat, hf, hr.mono' (Nat.le_refl _) fun i hi => by rw [← hf i hi]⟩
theorem i64_wf {n : Int} (h : (Lit.int .i64 n).wf = true) : -9223372036854775808 ≤ n ∧ n ≤ 9223372036854775807 := by
  simp [Lit.wf, IntKind.min, IntKind.max, IntKind.signed, IntKind.bits] at h; omega

end Go.Proofs.YtoocfkaclhgjeaaDoor

namespace Go.Proofs.YtoocfkaclhgjeaaDoor.LentBytes
open Go.RowKit
set_option linter.unusedSimpArgs false
set_option linter.unusedVariables false

theorem info : (Tryd.prog.info? 5).map (fun i => (i.zero, i.size, i.bytes)) = some (some (.int .u8 0), 1, 1) := by kernel_rfl
/-- what stands behind the list's own elements -/
def mk (i : Nat) : Int := markB 1 i
/-- what the mark's own call answers -/
def mk' (i : Nat) : Int := markB 1 i
/-- the list, and the marks behind it -/
def ext (n : Nat) (h : Nat → Int) (i : Nat) : Value := .int .u8 (if i < n then h i else mk (i - n))
theorem ext_lt {n : Nat} {h : Nat → Int} {i : Nat} (hi : i < n) : ext n h i = .int .u8 (h i) := by unfold ext; rw [if_pos hi]
theorem ext_ge {n : Nat} {h : Nat → Int} {i : Nat} (hi : n ≤ i) : ext n h i = .int .u8 (mk (i - n)) := by unfold ext; rw [if_neg (by omega)]
theorem ext_row (n : Nat) (h : Nat → Int) : (List.range n).map (fun i => Value.int .u8 (h i)) = (List.range n).map (ext n h) :=
  List.map_congr_left fun i hi => (ext_lt (List.mem_range.1 hi)).symm
theorem ext_step (n k : Nat) (h : Nat → Int) : (List.range (n + k)).map (ext n h) ++ [.int .u8 (mk k)] = (List.range (n + (k + 1))).map (ext n h) := by
  rw [show n + (k + 1) = n + k + 1 by omega, List.range_succ, List.map_append, List.map_singleton, ext_ge (by omega), show n + k - n = k by omega]
theorem row_at {f : Nat → Value} {n : Nat} {j : Nat} {x : Value} (h : ((List.range n).map f)[j]? = some x) : j < n ∧ x = f j := by
  have hj : j < n := by
    have := (List.getElem?_eq_some_iff.1 h).1; simpa using this
  refine ⟨hj, ?_⟩
  rw [List.getElem?_map, List.getElem?_range hj] at h
  simpa using h.symm

set_option maxHeartbeats 400000 in
theorem same (B : Nat) (p q : Option Addr) (n m c d : Nat) (f g : Nat → Int) (w : World) (hn : n ≤ 9223372036854775807) (hm : m ≤ 9223372036854775807)
    (hp : Reads B w p n (fun i => .int .u8 (f i))) (hq : Reads B w q m (fun i => .int .u8 (g i))) (he : n = m) (hs : ∀ i, i < n → f i = g i) :
    Calls Tryd.prog 23 #[.slice p n c, .slice q m d] w fun e w' => e = .returned (.bool true) ∧ Below w.heap.size w w' := by
  subst he
  have HP := Lib.hid hp
  have HQ := Lib.hid hq
  have HS := Lib.hid hs
  clear hp hq hs
  go_enter Tryd.func23, Tryd.ntmps23
  go_wp2
  go_loopw [5] (fun i wr => ∃ k : Nat, k ≤ n ∧ i = .int .i64 k ∧ Below w.heap.size w wr ∧ Below B w wr) (fun i _ => n - (intOf i).toNat)
  case atStart => exact ⟨0, Nat.zero_le _, rfl, Below.refl _ _, Below.refl _ _⟩
  case round =>
    obtain ⟨k, hk, rfl, hb, hb2⟩ := hrel
    by_cases hlt : k < n
    · rcases HP.out.below hb2 with h0 | ⟨b, off, rfl, hb', hc⟩
      · omega
      rcases HQ.out.below hb2 with h0 | ⟨b2, off2, rfl, hb2', hc2⟩
      · omega
      have hcell : wr.cell? ⟨b, off + k, none⟩ = some (.int .u8 (f k)) := hc k hlt
      have hcell2 : wr.cell? ⟨b2, off2 + k, none⟩ = some (.int .u8 (f k)) := by rw [HS.out k hlt]; exact hc2 k hlt
      clear hc hc2
      go_wp2
      go_region
      go_wp2
      go_roundw
      case rel => exact ⟨k + 1, by omega, by go_num, hb.drew, hb2.drew⟩
      case measure => simp [intOf]; omega
    · obtain rfl : k = n := by omega
      go_wp2
      go_ret
      exact ⟨rfl, hb⟩

end Go.Proofs.YtoocfkaclhgjeaaDoor.LentBytes
