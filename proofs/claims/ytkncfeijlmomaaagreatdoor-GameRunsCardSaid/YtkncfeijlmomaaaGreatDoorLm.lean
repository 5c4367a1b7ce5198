/-
  Games: mathematics of a row of moves.
-/
import Derived.Test.YtkncfeijlmomaaaGreatDoorLa
namespace Go.Proofs.YtkncfeijlmomaaaGreatDoor
open Go.RowKit Go.Sort Go.Maps
set_option linter.unusedSimpArgs false
set_option linter.unusedVariables false
set_option maxRecDepth 20000

/-- what a game is, but for where it lies -/
abbrev GCore := (Nat → Int) × List (List UInt8) × Nat × Int × Int
def Gm.core (g : Gm) : GCore := (g.P, g.T, g.n, g.r, g.y)
/-- at its begin; a move more; behind a row of moves -/
def coB (P : Nat → Int) : GCore := (P, [kyB P], 1, endR P 1, endY P 1)
def coN (A : GCore) (m : Int × Int × Int) : GCore :=
  let N := nxP A.1 m.1.toNat m.2.1.toNat m.2.2
  let n := cntT (kyB N :: A.2.1) (kyB N)
  (N, kyB N :: A.2.1, n, endR N n, endY N n)
def coL (P : Nat → Int) (L : List (Int × Int × Int)) : GCore := L.foldl coN (coB P)
theorem next_core (g : Gm) (m : Int × Int × Int) (v : Value) : (g.next m v).core = coN g.core m := by simp only [Gm.next, Gm.core, coN]
theorem coL_snoc (P : Nat → Int) (L : List (Int × Int × Int)) (m : Int × Int × Int) : coL P (L ++ [m]) = coN (coL P L) m := by unfold coL; rw [List.foldl_append]; rfl
theorem cntT_one (k : List UInt8) : cntT [k] k = 1 := by rw [cntT_same]; rfl
/-- a game whose count is right -/
def coW (A : GCore) : Prop := A.2.2.1 = cntT A.2.1 (kyB A.1) ∧ A.2.2.2.1 = endR A.1 A.2.2.1 ∧ A.2.2.2.2 = endY A.1 A.2.2.1
theorem coW_begin (P : Nat → Int) : coW (coB P) := ⟨(cntT_one _).symm, rfl, rfl⟩
theorem coW_next (A : GCore) (m : Int × Int × Int) : coW (coN A m) := ⟨rfl, rfl, rfl⟩
theorem coW_run (P : Nat → Int) (L : List (Int × Int × Int)) : coW (coL P L) := by
  rcases List.eq_nil_or_concat L with rfl | ⟨L', m, rfl⟩
  · exact coW_begin P
  · rw [List.concat_eq_append, coL_snoc]; exact coW_next _ _
/-- each move of a row was legal in a game that stood open -/
def okP (P : Nat → Int) (L : List (Int × Int × Int)) : Prop := ∀ i, i < L.length → (coL P (L.take i)).2.2.2.1 = 0 ∧ legB (coL P (L.take i)).1 (mF L i) (mT L i) (mK L i) = true
theorem okP_nil (P : Nat → Int) : okP P [] := fun i hi => absurd hi (Nat.not_lt_zero i)
theorem getD_snoc (R : List (Int × Int × Int)) (x : Int × Int × Int) : (∀ i, i < R.length → (R ++ [x]).getD i (0, 0, 0) = R.getD i (0, 0, 0)) ∧ (R ++ [x]).getD R.length (0, 0, 0) = x :=
  ⟨fun i hi => by rw [List.getD_eq_getElem?_getD, List.getD_eq_getElem?_getD, List.getElem?_append_left hi], by rw [List.getD_eq_getElem?_getD, List.getElem?_append_right (Nat.le_refl _)]; simp⟩
theorem okP_snoc {P : Nat → Int} {L : List (Int × Int × Int)} {m : Int × Int × Int} (h : okP P L) (h0 : (coL P L).2.2.2.1 = 0) (hl : legB (coL P L).1 m.1 m.2.1 m.2.2 = true) : okP P (L ++ [m]) := fun i hi => by
  rw [List.length_append, List.length_cons, List.length_nil] at hi
  obtain ⟨g1, g2⟩ := getD_snoc L m
  unfold mF mT mK
  by_cases e : i = L.length
  · subst e
    rw [List.take_append_of_le_length (Nat.le_refl _), List.take_length, g2]
    exact ⟨h0, hl⟩
  · rw [List.take_append_of_le_length (by omega), g1 i (by omega)]
    exact h i (by omega)
theorem take_more (L : List (Int × Int × Int)) (i : Nat) (hi : i < L.length) : L.take (i + 1) = L.take i ++ [L.getD i (0, 0, 0)] := by
  rw [List.take_add_one, List.getD_eq_getElem?_getD, List.getElem?_eq_getElem hi]; rfl
theorem ok_step {P : Nat → Int} {L : List (Int × Int × Int)} {i : Nat} (hi : i < L.length) : coL P (L.take (i + 1)) = coN (coL P (L.take i)) (mF L i, mT L i, mK L i) := by
  rw [take_more L i hi, coL_snoc]; rfl
theorem ok_adv {P : Nat → Int} {L : List (Int × Int × Int)} (h : okP P L) : ∀ i, i ≤ L.length → advN P (mF L) (mT L) (mK L) i = some (coL P (L.take i)).1
  | 0, _ => rfl
  | i + 1, hi => by
    rw [adv_go (ok_adv h i (by omega)) (h i (by omega)).2, ok_step (by omega)]; rfl
theorem ok_all {P : Nat → Int} {L : List (Int × Int × Int)} (h : okP P L) : advN P (mF L) (mT L) (mK L) L.length = some (coL P L).1 := by
  have := ok_adv h L.length (Nat.le_refl _)
  rwa [List.take_length] at this
theorem ok_pos {P : Nat → Int} (hp : posB P = true) {L : List (Int × Int × Int)} (h : okP P L) : posB (coL P L).1 = true := adv_pos hp _ _ (ok_all h)
theorem ok_pl {P : Nat → Int} (hp : posB P = true) {L : List (Int × Int × Int)} (h : okP P L) : plP P (mF L) (mT L) (mK L) L.length = (coL P L).1 ∧ plE P (mF L) (mT L) (mK L) L.length = 0 := by
  have := ok_all h
  unfold plP plE
  rw [hp, this]
  exact ⟨rfl, rfl⟩
/-- how a position ends a game -/
theorem of_zero (Q : Nat → Int) : (ofR Q = 0 ↔ ofY Q = 0) ∧ 0 ≤ ofR Q ∧ ofR Q ≤ 3 ∧ 0 ≤ ofY Q ∧ ofY Q ≤ 2 := by
  unfold ofR ofY winN
  cases stkB Q <;> cases chkB Q (Q 128) <;> simp <;> split <;> omega
theorem end_zero (Q : Nat → Int) (n : Nat) : (endR Q n = 0 ↔ endY Q n = 0) ∧ (endR Q n = 0 ↔ ofR Q = 0 ∧ deadB (cntJ Q 64) = false ∧ n < 5 ∧ atB Q 150 = false) ∧ (ofR Q ≠ 0 → endR Q n = ofR Q ∧ endY Q n = ofY Q) ∧ 0 ≤ endR Q n ∧ endR Q n ≤ 3 ∧ 0 ≤ endY Q n ∧ endY Q n ≤ 5 := by
  obtain ⟨h, h1, h2, h3, h4⟩ := of_zero Q
  unfold endR endY
  by_cases e : ofR Q = 0
  · rw [if_pos e, if_pos e]
    cases deadB (cntJ Q 64) <;> by_cases e5 : 5 ≤ n <;> cases atB Q 150 <;> simp [e, e5] <;> omega
  · have e2 : ofY Q ≠ 0 := fun x => e (h.2 x)
    rw [if_neg e, if_neg e]
    refine ⟨⟨fun x => absurd x e, fun x => absurd x e2⟩, ⟨fun x => absurd x e, fun x => absurd x.1 e⟩, fun _ => ⟨rfl, rfl⟩, h1, h2, h3, by omega⟩
end Go.Proofs.YtkncfeijlmomaaaGreatDoor
