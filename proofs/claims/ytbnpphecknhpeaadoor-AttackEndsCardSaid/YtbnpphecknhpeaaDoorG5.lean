/-
  Merged: Ref, LentLimbs, Rules.
-/
import Derived.Test.YtbnpphecknhpeaaDoorMath
import Derived.Test.YtbnpphecknhpeaaDoorMarks

namespace Go.Proofs.YtbnpphecknhpeaaDoor
open Go.RowKit
set_option linter.unusedSimpArgs false
set_option linter.unusedVariables false

theorem u_tmod2 (x : BitVec 32) : (u x).tmod 2 = u x % 2 := Int.tmod_eq_emod_of_nonneg (u_lo x)
theorem u_odd (x : BitVec 32) : (u x % 2 == 1) = x.getLsbD 0 := by
  unfold u
  have h : x.getLsbD 0 = decide (x.toNat % 2 = 1) := by
    rw [BitVec.getLsbD, Nat.testBit_zero]
  rw [h, Bool.eq_iff_iff]
  simp; omega
attribute [go_sem] u_tmod2 u_odd

theorem getLsb_min (x : BitVec 32) (k : Nat) : x.getLsbD (min k 32) = x.getLsbD k := by
  by_cases h : k ≤ 32
  · rw [Nat.min_eq_left h]
  · rw [Nat.min_eq_right (by omega), BitVec.getLsbD_of_ge x 32 (Nat.le_refl _), BitVec.getLsbD_of_ge x k (by omega)]
theorem ret_b {a b : Bool} (h : a = b) : Ending.returned (.bool a) = .returned (.bool b) := by rw [h]
theorem ret_i {k : IntKind} {a b : Int} (h : a = b) : Ending.returned (.int k a) = .returned (.int k b) := by rw [h]

/-- the word that has a 1 just at those of the first places where g says so -/
def pl (g : Nat → Bool) : Nat → BitVec 32
  | 0 => 0#32
  | k + 1 => pl g k + if g k then 1#32 <<< k else 0#32
theorem pl_bit (g : Nat → Bool) (k j : Nat) (hk : k ≤ 32) (hj : j < 32) : (pl g k).getLsbD j = (decide (j < k) && g j) := by
  induction k generalizing j with
  | zero => simp [pl]
  | succ k ih =>
    have h1 : ∀ i, i < 32 → (if g k then 1#32 <<< k else 0#32 : BitVec 32).getLsbD i = (decide (i = k) && g k) := by
      intro i hi
      cases hg : g k
      · simp
      · rw [if_pos rfl, BitVec.getLsbD_shiftLeft, BitVec.getLsbD_one]
        by_cases e : i = k
        · subst e; simp [hi]
        · by_cases e2 : i < k
          · simp [e, e2]
          · simp [e, e2]; omega
    have hz : pl g k &&& (if g k then 1#32 <<< k else 0#32) = 0#32 := by
      apply BitVec.eq_of_getLsbD_eq
      intro i hi
      rw [BitVec.getLsbD_and, ih i (by omega) hi, h1 i hi, BitVec.getLsbD_zero]
      by_cases e : i = k
      · subst e; simp
      · simp [e]
    simp only [pl]
    rw [BitVec.add_eq_or_of_and_eq_zero _ _ hz, BitVec.getLsbD_or, ih j (by omega) hj, h1 j hj]
    by_cases e : j = k
    · subst e; simp
    · have e3 : decide (j < k + 1) = decide (j < k) := by simp; omega
      rw [e3]; simp [e]
theorem pl_eq (g : Nat → Bool) (x : BitVec 32) (h : ∀ j, j < 32 → g j = x.getLsbD j) : pl g 32 = x := by
  apply BitVec.eq_of_getLsbD_eq
  intro j hj
  rw [pl_bit g 32 j (by omega) hj, h j hj]; simp [hj]
theorem pl_step (g : Nat → Bool) (k : Nat) (b : Bool) (h : b = g k) : u (pl g k + if b then 1#32 <<< k else 0#32) = u (pl g (k + 1)) := by
  subst h; rfl
theorem pl_skip (g : Nat → Bool) (k : Nat) (h : false = g k) : u (pl g k) = u (pl g (k + 1)) := by
  simp only [pl]; rw [← h]; simp
theorem val_u {a b : Int} (h : a = b) : Value.int .u32 a = .int .u32 b := by rw [h]

/-- whether an odd number of the first of x, turned, have a 1 at place k -/
def par (x : BitVec 32) (h : Nat → Int) (k : Nat) : Nat → Bool
  | 0 => false
  | m + 1 => (par x h k m) ^^ x.getLsbD ((k + (h m % 32).toNat) % 32)
theorem par_step (x : BitVec 32) (h : Nat → Int) (k m : Nat) (b : Bool) (hb : x.getLsbD (((k : Int) + h m) % 32).toNat = b) : par x h k (m + 1) = ((par x h k m) ^^ b) := by
  simp only [par]
  rw [← hb]
  congr 2
  omega
theorem val_b {a b : Bool} (h : a = b) : Value.bool a = .bool b := by rw [h]

theorem u_addmod (a b : BitVec 32) : (u a + u b) % 4294967296 = u (a + b) := by
  unfold u; rw [BitVec.toNat_add]; omega
theorem u_keep (a : BitVec 32) : IntKind.u32.wrap (u a) = u a := by
  unfold u; rw [IntKind.wrap_u32]; have := a.isLt; omega
attribute [go_sem] u_addmod u_keep

end Go.Proofs.YtbnpphecknhpeaaDoor

namespace Go.Proofs.YtbnpphecknhpeaaDoor.LentLimbs
open Go.RowKit
set_option linter.unusedSimpArgs false
set_option linter.unusedVariables false

theorem info : (Tryd.prog.info? 100).map (fun i => (i.zero, i.size, i.bytes)) = some (some (.int .u32 0), 1, 4) := by kernel_rfl
/-- what stands behind the list's own elements -/
def mk (i : Nat) : Int := 8000024 + (i : Int)
/-- what the mark's own call answers -/
def mk' (i : Nat) : Int := 8000024 + (i : Int)
/-- the list, and the marks behind it -/
def ext (n : Nat) (h : Nat → Int) (i : Nat) : Value := .int .u32 (if i < n then h i else mk (i - n))
theorem ext_lt {n : Nat} {h : Nat → Int} {i : Nat} (hi : i < n) : ext n h i = .int .u32 (h i) := by unfold ext; rw [if_pos hi]
theorem ext_ge {n : Nat} {h : Nat → Int} {i : Nat} (hi : n ≤ i) : ext n h i = .int .u32 (mk (i - n)) := by unfold ext; rw [if_neg (by omega)]
theorem ext_row (n : Nat) (h : Nat → Int) : (List.range n).map (fun i => Value.int .u32 (h i)) = (List.range n).map (ext n h) :=
  List.map_congr_left fun i hi => (ext_lt (List.mem_range.1 hi)).symm
theorem ext_step (n k : Nat) (h : Nat → Int) : (List.range (n + k)).map (ext n h) ++ [.int .u32 (mk k)] = (List.range (n + (k + 1))).map (ext n h) := by
  rw [show n + (k + 1) = n + k + 1 by omega, List.range_succ, List.map_append, List.map_singleton, ext_ge (by omega), show n + k - n = k by omega]
theorem row_at {f : Nat → Value} {n : Nat} {j : Nat} {x : Value} (h : ((List.range n).map f)[j]? = some x) : j < n ∧ x = f j := by
  have hj : j < n := by
    have := (List.getElem?_eq_some_iff.1 h).1; simpa using this
  refine ⟨hj, ?_⟩
  rw [List.getElem?_map, List.getElem?_range hj] at h
  simpa using h.symm

end Go.Proofs.YtbnpphecknhpeaaDoor.LentLimbs

namespace Go.Proofs.YtbnpphecknhpeaaDoor
open Go.RowKit
set_option linter.unusedSimpArgs false
set_option linter.unusedVariables false

end Go.Proofs.YtbnpphecknhpeaaDoor
