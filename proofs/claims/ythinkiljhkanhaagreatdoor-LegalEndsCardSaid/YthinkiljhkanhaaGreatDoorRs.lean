/-
  Mathematics of rows of moves that are made one behind the other.
-/
import Derived.Test.YthinkiljhkanhaaGreatDoorRo
import Derived.Test.YthinkiljhkanhaaGreatDoorG26
namespace Go.Proofs.YthinkiljhkanhaaGreatDoor
open Go.RowKit Go.Sort
set_option linter.unusedSimpArgs false
set_option linter.unusedVariables false
set_option maxRecDepth 20000

def legB (P : Nat → Int) (f t k : Int) : Bool := (legM P).contains (f, t, k)
theorem legB_iff (P : Nat → Int) (f t k : Int) : legB P f t k = true ↔ (f, t, k) ∈ legM P := List.contains_iff_mem
def advN (P : Nat → Int) (F T K : Nat → Int) : Nat → Option (Nat → Int)
  | 0 => some P
  | i + 1 => match advN P F T K i with
    | some Q => if legB Q (F i) (T i) (K i) then some (nxP Q (F i).toNat (T i).toNat (K i)) else none
    | none => none
theorem adv_go {P : Nat → Int} {F T K : Nat → Int} {i : Nat} {Q : Nat → Int} (h : advN P F T K i = some Q) (hl : legB Q (F i) (T i) (K i) = true) : advN P F T K (i + 1) = some (nxP Q (F i).toNat (T i).toNat (K i)) := by
  unfold advN; rw [h]; simp only; rw [if_pos hl]
theorem adv_end {P : Nat → Int} {F T K : Nat → Int} {i : Nat} {Q : Nat → Int} (h : advN P F T K i = some Q) (hl : legB Q (F i) (T i) (K i) = false) : advN P F T K (i + 1) = none := by
  unfold advN; rw [h]; simp only; rw [hl]; rfl
theorem adv_none {P : Nat → Int} {F T K : Nat → Int} {i n : Nat} (h : advN P F T K i = none) (hi : i ≤ n) : advN P F T K n = none := by
  induction n with
  | zero => obtain rfl : i = 0 := by omega
            exact h
  | succ n ih =>
    by_cases e : i = n + 1
    · subst e; exact h
    · unfold advN; rw [ih (by omega)]
theorem any_is (l : List (Int × Int × Int)) (f t k : Int) : anyM (mF l) (mT l) (mK l) f t k l.length = l.contains (f, t, k) := by
  rw [Bool.eq_iff_iff, List.contains_iff_mem]
  unfold anyM
  rw [List.any_eq_true]
  have hg : ∀ i (hi : i < l.length), l.getD i (0, 0, 0) = l[i] := fun i hi => by rw [List.getD_eq_getElem?_getD, List.getElem?_eq_getElem hi]; rfl
  constructor
  · rintro ⟨i, hi, h⟩
    have hi := List.mem_range.1 hi
    unfold isM mF mT mK at h
    rw [hg i hi] at h
    simp only [Bool.and_eq_true, beq_iff_eq] at h
    obtain ⟨⟨h1, h2⟩, h3⟩ := h
    rw [h1, h2, h3]
    exact List.getElem_mem hi
  · intro h
    obtain ⟨i, hi, e⟩ := List.getElem_of_mem h
    refine ⟨i, List.mem_range.2 hi, ?_⟩
    unfold isM mF mT mK
    rw [hg i hi, e]
    simp
theorem all_from (P : Nat → Int) (f t k : Int) : (f, t, k) ∈ allM P ↔ (f, t, k) ∈ fromM P f := by
  unfold allM flatM fromM
  rw [List.mem_flatMap]
  constructor
  · rintro ⟨x, hx, h⟩
    obtain ⟨i, hi, ho, rfl⟩ := (upList_mem _ _ _).1 hx
    rw [Int.toNat_natCast] at h
    have h2 := h
    unfold movesL at h2
    have := (putL_mem _ _ _ _ h2).1
    simp only at this
    subst this
    rw [(sq_iff _).2 (by omega), Int.toNat_natCast, ho]
    exact h
  · intro h
    cases hs : sq f
    · rw [hs] at h; simp at h
    · have h1 := (sq_iff f).1 hs
      cases ho : ownB P f.toNat
      · rw [hs, ho] at h; simp at h
      · rw [hs, ho] at h
        refine ⟨f, (upList_mem _ _ _).2 ⟨f.toNat, by omega, ho, by omega⟩, ?_⟩
        exact h
theorem legB_is (P : Nat → Int) (f t k : Int) : legB P f t k = ((fromM P f).contains (f, t, k) && okM P f.toNat t.toNat k) := by
  rw [Bool.eq_iff_iff, legB_iff, Bool.and_eq_true, List.contains_iff_mem, ← all_from]
  unfold legM
  rw [List.mem_filter]
  rfl
theorem from_ok (P : Nat → Int) (f t k : Int) (h : (fromM P f).contains (f, t, k) = true) : ∃ s n : Nat, f = (s : Int) ∧ t = (n : Int) ∧ MvOk P ((s : Int), (n : Int), k) s n := by
  rw [List.contains_iff_mem, ← all_from] at h
  obtain ⟨s, n, hv⟩ := allM_mem P _ h
  have h1 := hv.f
  have h2 := hv.t
  simp only at h1 h2
  subst h1; subst h2
  exact ⟨s, n, rfl, rfl, hv⟩
theorem leg_nx (P : Nat → Int) (hp : posB P = true) (f t k : Int) (h : legB P f t k = true) : ∃ s n : Nat, f = (s : Int) ∧ t = (n : Int) ∧ LgOk P ((s : Int), (n : Int), k) s n := by
  obtain ⟨s, n, hg⟩ := leg_ok P hp _ ((legB_iff P f t k).1 h)
  have h1 := hg.x.mv.f
  have h2 := hg.x.mv.t
  simp only at h1 h2
  subst h1; subst h2
  exact ⟨s, n, rfl, rfl, hg⟩
end Go.Proofs.YthinkiljhkanhaaGreatDoor
