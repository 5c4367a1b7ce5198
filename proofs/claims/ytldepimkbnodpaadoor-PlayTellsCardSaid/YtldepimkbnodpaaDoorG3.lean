/-
  Merged: Math, Marks, LentInts.
-/
import Derived.Test.YtldepimkbnodpaaDoorG2
import Derived.Deep.QuietTactic
import Derived.BigQuiet

namespace Go.Proofs.YtldepimkbnodpaaDoor
set_option linter.unusedSimpArgs false
set_option linter.unusedVariables false

theorem bit_nat (x : BitVec 32) (c : Nat) : (x >>> c &&& 1#32).toNat = (x.getLsbD c).toNat := by
  have h : x >>> c &&& 1#32 = BitVec.setWidth 32 (BitVec.ofBool (x.getLsbD c)) := by
    apply BitVec.eq_of_getLsbD_eq
    intro i hi
    by_cases h0 : i = 0
    · subst h0; simp
    · simp [h0, BitVec.getLsbD_one]
  rw [h]
  cases x.getLsbD c <;> rfl
theorem most_bit (n : Nat) (f : Nat → BitVec 32) (k j : Nat) (hk : k ≤ 32) (hj : j < 32) :
    (mostTo n f k).getLsbD j = (decide (j < k) && decide (n < 2 * onesTo j f n)) := by
  induction k with
  | zero => simp [mostTo]
  | succ k ih =>
    have ih := ih (by omega)
    have h1 : (1#32 <<< k).getLsbD j = decide (j = k) := by
      rw [BitVec.getLsbD_shiftLeft, BitVec.getLsbD_one]
      by_cases e : j = k
      · subst e; simp [hj]
      · by_cases e2 : j < k
        · simp [e, e2]
        · simp [e, e2]; omega
    simp only [mostTo]
    by_cases e : j = k
    · subst e
      by_cases h : n < 2 * onesTo j f n
      · rw [if_pos h, BitVec.getLsbD_or, h1]; simp [h]
      · rw [if_neg h, ih]; simp [h]
    · have e3 : decide (j < k + 1) = decide (j < k) := by simp; omega
      by_cases h : n < 2 * onesTo k f n
      · rw [if_pos h, BitVec.getLsbD_or, h1, ih, e3]; simp [e]
      · rw [if_neg h, ih, e3]
theorem most_eq (n : Nat) (f : Nat → BitVec 32) (r : BitVec 32) (h : ∀ j, j < 32 → decide (n < 2 * onesTo j f n) = r.getLsbD j) : mostTo n f 32 = r := by
  apply BitVec.eq_of_getLsbD_eq
  intro j hj
  rw [most_bit n f 32 j (by omega) hj, h j hj]
  simp [hj]
theorem ones3 (j : Nat) (x y z : BitVec 32) : onesTo j (fst3 x y z) 3 = (x.getLsbD j).toNat + (y.getLsbD j).toNat + (z.getLsbD j).toNat := by
  simp only [onesTo, bit_nat, fst3]; omega
theorem ones2 (j : Nat) (x y z : BitVec 32) : onesTo j (fst3 x y z) 2 = (x.getLsbD j).toNat + (y.getLsbD j).toNat := by
  simp only [onesTo, bit_nat, fst3]; omega
theorem ones1 (j : Nat) (x y z : BitVec 32) : onesTo j (fst3 x y z) 1 = (x.getLsbD j).toNat := by
  simp only [onesTo, bit_nat, fst3]; omega
/-- most of three, by its places -/
def most3 (x y z : BitVec 32) : BitVec 32 := mostTo 3 (fst3 x y z) 32
theorem most3_bit (x y z : BitVec 32) (j : Nat) (hj : j < 32) : (most3 x y z).getLsbD j = decide (3 < 2 * ((x.getLsbD j).toNat + (y.getLsbD j).toNat + (z.getLsbD j).toNat)) := by
  unfold most3; rw [most_bit _ _ _ _ (by omega) hj, ones3]; simp [hj]
theorem most3_bxa (x a b : BitVec 32) : mostTo 3 (fst3 b x a) 32 = most3 x a b :=
  most_eq _ _ _ fun j hj => by rw [ones3, most3_bit _ _ _ _ hj]; congr 1; rw [Nat.add_comm (b.getLsbD j).toNat, Nat.add_right_comm]
theorem most3_axb (x a b : BitVec 32) : mostTo 3 (fst3 a x b) 32 = most3 x a b :=
  most_eq _ _ _ fun j hj => by rw [ones3, most3_bit _ _ _ _ hj]; congr 1; rw [Nat.add_comm (a.getLsbD j).toNat]
theorem most3_xxa (x a : BitVec 32) : mostTo 3 (fst3 x x a) 32 = x :=
  most_eq _ _ _ fun j hj => by rw [ones3]; cases x.getLsbD j <;> cases a.getLsbD j <;> rfl
theorem most2 (x a z : BitVec 32) : mostTo 2 (fst3 x a z) 32 = x &&& a :=
  most_eq _ _ _ fun j hj => by rw [ones2, BitVec.getLsbD_and]; cases x.getLsbD j <;> cases a.getLsbD j <;> rfl
theorem most1 (x y z : BitVec 32) : mostTo 1 (fst3 x y z) 32 = x :=
  most_eq _ _ _ fun j hj => by rw [ones1]; cases x.getLsbD j <;> rfl
theorem most0 (f : Nat → BitVec 32) : mostTo 0 f 32 = 0#32 :=
  most_eq _ _ _ fun j hj => by simp [onesTo]
theorem choose_same (x a : BitVec 32) : x &&& a ||| ~~~x &&& a = a := by
  apply BitVec.eq_of_getLsbD_eq; intro j hj; simp only [BitVec.getLsbD_or, BitVec.getLsbD_and, BitVec.getLsbD_not]; cases x.getLsbD j <;> cases a.getLsbD j <;> simp [hj]
theorem choose_ones (a b : BitVec 32) : BitVec.allOnes 32 &&& a ||| ~~~(BitVec.allOnes 32) &&& b = a := by
  apply BitVec.eq_of_getLsbD_eq; intro j hj; simp only [BitVec.getLsbD_or, BitVec.getLsbD_and, BitVec.getLsbD_not, BitVec.getLsbD_allOnes]; simp [hj]
theorem choose_none (a b : BitVec 32) : 0#32 &&& a ||| ~~~0#32 &&& b = b := by
  apply BitVec.eq_of_getLsbD_eq; intro j hj; simp only [BitVec.getLsbD_or, BitVec.getLsbD_and, BitVec.getLsbD_not, BitVec.getLsbD_zero]; simp [hj]
theorem choose_turned (x a b : BitVec 32) : (x &&& a ||| ~~~x &&& b) ^^^ (~~~x &&& a ||| ~~~(~~~x) &&& b) = a ^^^ b := by
  apply BitVec.eq_of_getLsbD_eq; intro j hj; simp only [BitVec.getLsbD_or, BitVec.getLsbD_and, BitVec.getLsbD_not, BitVec.getLsbD_xor]; simp only [hj, decide_true, Bool.true_and]; cases x.getLsbD j <;> cases a.getLsbD j <;> cases b.getLsbD j <;> rfl
theorem sum3 (x y z : BitVec 32) : sumTo (fst3 x y z) 3 = x + y + z := by
  simp [sumTo, fst3]
theorem sum2 (x y z : BitVec 32) : sumTo (fst3 x y z) 2 = x + y := by
  simp [sumTo, fst3]
theorem sum_rev (x y z : BitVec 32) : z + y + x = x + y + z := by
  rw [BitVec.add_comm z y, BitVec.add_comm (y + z) x, BitVec.add_assoc]
theorem sum_not (x : BitVec 32) : x + ~~~x + 1#32 = 0#32 := by
  have h : x + ~~~x = BitVec.allOnes 32 := BitVec.add_not_self x
  rw [h]; decide
theorem mix2 (x : BitVec 32) (g : Nat → Int) (h : g 0 = g 1) : mixTo x g 2 = 0#32 := by
  simp [mixTo, h]
theorem mix1 (x : BitVec 32) (g : Nat → Int) : mixTo x g 1 = turn x (g 0 % 32).toNat := by
  simp [mixTo]
end Go.Proofs.YtldepimkbnodpaaDoor

namespace Go.Proofs.YtldepimkbnodpaaDoor
open Go.RowKit
set_option linter.unusedSimpArgs false
set_option linter.unusedVariables false

/-- the mark of a place in a list of bytes -/
def markB (k i : Int) : Int := IntKind.u64.wrap ((1000003 * (k + 7) + i) * 11400714819323198485) / 72057594037927936 % 256
end Go.Proofs.YtldepimkbnodpaaDoor

namespace Go.Proofs.YtldepimkbnodpaaDoor.LentInts
open Go.RowKit
set_option linter.unusedSimpArgs false
set_option linter.unusedVariables false

theorem info : (Tryd.prog.info? 3).map (fun i => (i.zero, i.size, i.bytes)) = some (some (.int .i64 0), 1, 8) := by kernel_rfl
/-- what stands behind the list's own elements -/
def mk (i : Nat) : Int := 8000024 + (i : Int)
/-- what the mark's own call answers -/
def mk' (i : Nat) : Int := 8000024 + (i : Int)
/-- the list, and the marks behind it -/
def ext (n : Nat) (h : Nat → Int) (i : Nat) : Value := .int .i64 (if i < n then h i else mk (i - n))
theorem ext_lt {n : Nat} {h : Nat → Int} {i : Nat} (hi : i < n) : ext n h i = .int .i64 (h i) := by unfold ext; rw [if_pos hi]
theorem ext_ge {n : Nat} {h : Nat → Int} {i : Nat} (hi : n ≤ i) : ext n h i = .int .i64 (mk (i - n)) := by unfold ext; rw [if_neg (by omega)]
theorem ext_row (n : Nat) (h : Nat → Int) : (List.range n).map (fun i => Value.int .i64 (h i)) = (List.range n).map (ext n h) :=
  List.map_congr_left fun i hi => (ext_lt (List.mem_range.1 hi)).symm
theorem ext_step (n k : Nat) (h : Nat → Int) : (List.range (n + k)).map (ext n h) ++ [.int .i64 (mk k)] = (List.range (n + (k + 1))).map (ext n h) := by
  rw [show n + (k + 1) = n + k + 1 by omega, List.range_succ, List.map_append, List.map_singleton, ext_ge (by omega), show n + k - n = k by omega]
theorem row_at {f : Nat → Value} {n : Nat} {j : Nat} {x : Value} (h : ((List.range n).map f)[j]? = some x) : j < n ∧ x = f j := by
  have hj : j < n := by
    have := (List.getElem?_eq_some_iff.1 h).1; simpa using this
  refine ⟨hj, ?_⟩
  rw [List.getElem?_map, List.getElem?_range hj] at h
  simpa using h.symm

end Go.Proofs.YtldepimkbnodpaaDoor.LentInts
