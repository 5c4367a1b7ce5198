/-
  Contracts: a list that is lent (a copy with marks behind it), and whether it was kept: elements of one kind of number.
-/
import Derived.Test.YteahikjnlhlmmaaDoorMarks
namespace Go.Proofs.YteahikjnlhlmmaaDoor.LentLimbs
open Go.RowKit
set_option linter.unusedSimpArgs false
set_option linter.unusedVariables false

theorem info : (Tryd.prog.info? 88).map (fun i => (i.zero, i.size, i.bytes)) = some (some (.int .u32 0), 1, 4) := by kernel_rfl
/-- what stands behind the list's own elements -/
def mk (i : Nat) : Int := 8000024 + (i : Int)
/-- what the mark's own call answers -/
def mk' (i : Nat) : Int := 8000024 + (i : Int)
/-- the list, and the marks behind it -/
def ext (n : Nat) (h : Nat → Int) (i : Nat) : Value := .int .u32 (if i < n then h i else mk (i - n))
theorem ext_lt {n : Nat} {h : Nat → Int} {i : Nat} (hi : i < n) : ext n h i = .int .u32 (h i) := by unfold ext; rw [if_pos hi]
theorem ext_ge {n : Nat} {h : Nat → Int} {i : Nat} (hi : n ≤ i) : ext n h i = .int .u32 (mk (i - n)) := by unfold ext; rw [if_neg (by omega)]
theorem ext_row (n : Nat) (h : Nat → Int) : (List.range n).map (fun i => Value.int .u32 (h i)) = (List.range n).map (ext n h) :=
  List.map_congr_left fun i hi => (ext_lt (List.mem_range.1 hi)).symm
theorem ext_step (n k : Nat) (h : Nat → Int) : (List.range (n + k)).map (ext n h) ++ [.int .u32 (mk k)] = (List.range (n + (k + 1))).map (ext n h) := by
  rw [show n + (k + 1) = n + k + 1 by omega, List.range_succ, List.map_append, List.map_singleton, ext_ge (by omega), show n + k - n = k by omega]
theorem row_at {f : Nat → Value} {n : Nat} {j : Nat} {x : Value} (h : ((List.range n).map f)[j]? = some x) : j < n ∧ x = f j := by
  have hj : j < n := by
    have := (List.getElem?_eq_some_iff.1 h).1; simpa using this
  refine ⟨hj, ?_⟩
  rw [List.getElem?_map, List.getElem?_range hj] at h
  simpa using h.symm

end Go.Proofs.YteahikjnlhlmmaaDoor.LentLimbs
