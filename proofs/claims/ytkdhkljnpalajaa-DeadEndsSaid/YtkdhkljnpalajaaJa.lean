/-
  What is left: numbers, one piece counted; the counter's contracts.
-/
import Derived.Test.YtkdhkljnpalajaaAll
namespace Go.Proofs.Ytkdhkljnpalajaa
open Go.RowKit Go.Sort
set_option linter.unusedSimpArgs false
set_option linter.unusedVariables false
set_option maxRecDepth 20000

theorem list_go {P : Program} {ops : Array Oper} {Q : Exit → Act → World → Prop} {rest : List Oper} {K : Act → World → Prop} {a : Act} {w : World} (h : ∀ a w, wpList P ops Q rest a w → K a w) (hq : wpList P ops Q rest a w) : K a w := h _ _ hq
theorem pos_box (P : Nat → Int) (w : World) (X : Array Value) (hX : X = (pc P).toArray) (t : TypeId) : PB (w.alloc (.cells X t)) w.heap.size P := by subst hX; exact PB.new rfl
theorem gr_of_below {w w' : World} (r : Option Nat) (h : Below w.heap.size w w') : w.grownBy w' r := ⟨h.os, h.tape, h.output, h.size, fun k hk _ => h.block k hk⟩
theorem row4c {W : World} {H : Nat} {a b c d : Value} {t : TypeId} (h : W.heap[H]? = some (.cells #[a, b, c, d] t (0, 0))) :
    W.cell? ⟨H, 0, none⟩ = some a ∧ W.cell? ⟨H, 1, none⟩ = some b ∧ W.cell? ⟨H, 2, none⟩ = some c ∧ W.cell? ⟨H, 3, none⟩ = some d ∧ (∀ o, W.frozen? ⟨H, o, none⟩ = false) ∧ H < W.heap.size :=
  ⟨by rw [cell_of_row W H 0 _ _ (0, 0) h]; rfl, by rw [cell_of_row W H 1 _ _ (0, 0) h]; rfl, by rw [cell_of_row W H 2 _ _ (0, 0) h]; rfl, by rw [cell_of_row W H 3 _ _ (0, 0) h]; rfl, fun o => frozen_of_row W H o _ _ h, (Array.getElem?_eq_some_iff.1 h).1⟩

/-- what is left -/
structure LF where
  h : Int
  k : Int
  d : Int
  l : Int
/-- one piece more -/
def addK (kind : Int) (dk : Bool) (x : LF) : LF :=
  if kind = 0 ∨ kind = 6 then x else if kind = 2 then ⟨x.h, x.k + 1, x.d, x.l⟩ else if kind = 3 then (if dk then ⟨x.h, x.k, x.d + 1, x.l⟩ else ⟨x.h, x.k, x.d, x.l + 1⟩) else ⟨x.h + 1, x.k, x.d, x.l⟩
/-- its cells -/
def lfA (x : LF) : Array Value := #[.int .i64 x.h, .int .i64 x.k, .int .i64 x.d, .int .i64 x.l]
/-- all between two numbers -/
def LB (x : LF) (m : Int) : Prop := (-m ≤ x.h ∧ x.h ≤ m) ∧ (-m ≤ x.k ∧ x.k ≤ m) ∧ (-m ≤ x.d ∧ x.d ≤ m) ∧ -m ≤ x.l ∧ x.l ≤ m
theorem LB.add {x : LF} {m : Int} (h : LB x m) (kind : Int) (dk : Bool) : LB (addK kind dk x) (m + 1) := by
  unfold LB at h ⊢
  unfold addK
  by_cases h0 : kind = 0 ∨ kind = 6
  · rw [if_pos h0]; omega
  · rw [if_neg h0]
    by_cases h2 : kind = 2
    · rw [if_pos h2]; dsimp only; omega
    · rw [if_neg h2]
      by_cases h3 : kind = 3
      · rw [if_pos h3]; cases dk <;> simp only [Bool.false_eq_true, if_true, if_false] <;> omega
      · rw [if_neg h3]; dsimp only; omega
theorem LB.mono {x : LF} {m n : Int} (h : LB x m) (hm : m ≤ n) : LB x n := by unfold LB at h ⊢; omega

/-- the counter's block -/
def CB (W : World) (b : Nat) (x : LF) : Prop := W.heap[b]? = some (.cells (lfA x) 51 (0, 0))
theorem CB.go {W W' : World} {b : Nat} {x : LF} (h : CB W b x) (g : Below W.heap.size W W') : CB W' b x := sl_go h g
theorem CB.set {W : World} {b : Nat} {x : LF} (h : CB W b x) (i : Nat) (z : Int) (y : LF) (hy : (lfA x).setIfInBounds i (.int .i64 z) = lfA y) : CB (W.setCell ⟨b, i, none⟩ (.int .i64 z)) b y := by
  unfold CB
  rw [← hy]
  exact Go.heap_setCell_same W b i _ _ _ h

set_option maxHeartbeats 1000000 in
theorem bishop_any (b : Nat) (x : LF) (dk : Bool) (w : World) (hc : CB w b x) (hx : LB x 4611686018427387904) :
    Calls Try.prog 35 #[.pointer (some ⟨b, 0, none⟩), .bool dk] w fun e w' => e = .returned (.tuple #[]) ∧ CB w' b (addK 3 dk x) ∧ w.grownBy w' (some b) := by
  obtain ⟨e0, e1, e2, e3, ef, _⟩ := row4c hc
  have f2 := ef 2
  have f3 := ef 3
  obtain ⟨h, k, d, l⟩ := x
  obtain ⟨_, _, ⟨b1, b2⟩, b3, b4⟩ := hx
  dsimp only at e0 e1 e2 e3 b1 b2 b3 b4
  have HC := Lib.hid hc
  clear hc e0 e1
  cases dk
  · clear e2 f2 b1 b2
    go_enter Try.func35, Try.ntmps35
    go_wp2
    go_end0
    exact ⟨rfl, HC.out.set 3 _ _ rfl, gr1_B _⟩
  · clear e3 f3 b3 b4
    go_enter Try.func35, Try.ntmps35
    go_wp2
    go_end0
    exact ⟨rfl, HC.out.set 2 _ _ rfl, gr1_B _⟩
set_option maxHeartbeats 1000000 in
theorem one_any (b : Nat) (x : LF) (kind : Int) (dk : Bool) (w : World) (hc : CB w b x) (hx : LB x 4611686018427387904) :
    Calls Try.prog 27 #[.pointer (some ⟨b, 0, none⟩), .int .i64 kind, .bool dk] w fun e w' => e = .returned (.tuple #[]) ∧ CB w' b (addK kind dk x) ∧ w.grownBy w' (some b) := by
  have HBI := Lib.hid (bishop_any b x dk w hc hx)
  by_cases h0 : kind = 0
  · subst h0
    have HC := Lib.hid (show CB w b (addK 0 dk x) from hc)
    clear hc hx HBI
    go_enter Try.func27, Try.ntmps27
    go_wp2
    go_end0
    exact ⟨rfl, HC.out, World.grownBy.refl _ _⟩
  by_cases h6 : kind = 6
  · subst h6
    have HC := Lib.hid (show CB w b (addK 6 dk x) from hc)
    clear hc hx HBI
    go_enter Try.func27, Try.ntmps27
    go_wp2
    go_end0
    exact ⟨rfl, HC.out, World.grownBy.refl _ _⟩
  by_cases h3 : kind = 3
  · subst h3
    clear hc hx h0 h6
    go_enter Try.func27, Try.ntmps27
    go_wp2_with fail
    refine HBI.out.mono ?_
    rintro e w1 ⟨rfl, h1, h2⟩
    have H1 := Lib.hid h1
    have H2 := Lib.hid h2
    clear h1 h2
    go_wp2
    go_end0
    exact ⟨rfl, H1.out, H2.out⟩
  clear HBI
  obtain ⟨e0, e1, e2, e3, ef, _⟩ := row4c hc
  have f0 := ef 0
  have f1 := ef 1
  obtain ⟨h, k, d, l⟩ := x
  obtain ⟨⟨b1, b2⟩, ⟨b3, b4⟩, _⟩ := hx
  dsimp only at e0 e1 e2 e3 b1 b2 b3 b4
  have HC := Lib.hid hc
  clear hc e2 e3
  by_cases h2 : kind = 2
  · subst h2
    clear h0 h6 h3 e0 f0 b1 b2
    go_enter Try.func27, Try.ntmps27
    go_wp2
    go_end0
    exact ⟨rfl, HC.out.set 1 _ _ rfl, gr1_B _⟩
  · clear e1 f1 b3 b4
    have HA := Lib.hid (show addK kind dk ⟨h, k, d, l⟩ = ⟨h + 1, k, d, l⟩ by unfold addK; rw [if_neg (by omega), if_neg h2, if_neg h3])
    go_enter Try.func27, Try.ntmps27
    go_wp2
    go_end0
    exact ⟨rfl, by rw [HA.out]; exact HC.out.set 0 _ _ rfl, gr1_B _⟩
end Go.Proofs.Ytkdhkljnpalajaa
