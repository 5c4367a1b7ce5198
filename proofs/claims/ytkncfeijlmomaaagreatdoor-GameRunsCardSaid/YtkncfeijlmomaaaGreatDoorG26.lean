/-
  Merged: Pm, Pn, Po, Pp.
-/
import Derived.Test.YtkncfeijlmomaaaGreatDoorG25
import Derived.Test.YtkncfeijlmomaaaGreatDoorG8
import Derived.Deep.CutRange
import Derived.Deep.CutBlock

namespace Go.Proofs.YtkncfeijlmomaaaGreatDoor
open Go.RowKit Go.Sort
set_option linter.unusedSimpArgs false
set_option linter.unusedVariables false
set_option maxRecDepth 20000

end Go.Proofs.YtkncfeijlmomaaaGreatDoor

namespace Go.Proofs.YtkncfeijlmomaaaGreatDoor
open Go.RowKit Go.Sort
set_option linter.unusedSimpArgs false
set_option linter.unusedVariables false
set_option maxRecDepth 20000

end Go.Proofs.YtkncfeijlmomaaaGreatDoor

namespace Go.Proofs.YtkncfeijlmomaaaGreatDoor
open Go.RowKit Go.Sort
set_option linter.unusedSimpArgs false
set_option linter.unusedVariables false
set_option maxRecDepth 20000

end Go.Proofs.YtkncfeijlmomaaaGreatDoor

namespace Go.Proofs.YtkncfeijlmomaaaGreatDoor
open Go.RowKit Go.Sort
set_option linter.unusedSimpArgs false
set_option linter.unusedVariables false
set_option maxRecDepth 20000

/-- what stands in the document's Move -/
structure MR (w W : World) (P : Nat → Int) (f t k kk dd : Int) (bx bq : Nat) (Q : Nat → Int) : Prop where
  p : PB W w.heap.size P
  m : W.heap[w.heap.size + 1]? = some (.cells #[.int .i64 f, .int .i64 t, .int .i64 k] 46 (0, 0))
  z : PB W (w.heap.size + 2) (fun _ => 0)
  x : W.heap[bx]? = some (.cells #[.int .i64 kk, .int .i64 dd] 25 (0, 0))
  q : PB W bq Q
  b : Below w.heap.size w W
  lx : w.heap.size + 3 ≤ bx
  lq : bx < bq
theorem MR.go {w W W' : World} {P : Nat → Int} {f t k kk dd : Int} {bx bq : Nat} {Q : Nat → Int} (h : MR w W P f t k kk dd bx bq Q) (g : Below W.heap.size W W') : MR w W' P f t k kk dd bx bq Q :=
  ⟨h.p.go g, sl_go h.m g, h.z.go g, sl_go h.x g, h.q.go g, h.b.trans (g.mono h.b.size), h.lx, h.lq⟩
theorem MR.set {w W : World} {P : Nat → Int} {f t k kk dd : Int} {bx bq : Nat} {Q : Nat → Int} (h : MR w W P f t k kk dd bx bq Q) (i : Nat) (v : Int) (hi : i < 133) : MR w (W.setCell ⟨bq, i, none⟩ (.int .i64 v)) P f t k kk dd bx bq (setN Q i v) := by
  have h1 := h.lx
  have h2 := h.lq
  exact ⟨h.p.other (by omega) _ _, (Go.heap_setCell_other _ _ _ _ (by simp; omega)).trans h.m, h.z.other (by omega) _ _, (Go.heap_setCell_other _ _ _ _ (by simp; omega)).trans h.x, h.q.set i v hi, h.b.setCell (p := ⟨bq, i, none⟩) (by simp; omega) _, h1, h2⟩
theorem MR.pt {w W : World} {P : Nat → Int} {f t k kk dd : Int} {bx bq : Nat} {Q : Nat → Int} (h : MR w W P f t k kk dd bx bq Q) (m : Nat) (a c : Int) (hm : m < 64) :
    MR w ((W.setCell ⟨bq, m * 2, none⟩ (.int .i64 a)).setCell ⟨bq, m * 2 + 1, none⟩ (.int .i64 c)) P f t k kk dd bx bq (ptN Q m a c) := by
  have := (h.set (m * 2) a (by omega)).set (m * 2 + 1) c (by omega)
  unfold ptN
  rwa [Nat.mul_comm 2 m]
theorem MR.stored {w W : World} {P : Nat → Int} {f t k kk dd : Int} {bx bq : Nat} {Q : Nat → Int} (h : MR w W P f t k kk dd bx bq Q) (R : Nat → Int) : (W.setCells (w.heap.size + 2) 0 (pc R)).rangeAt (w.heap.size + 2) 0 (pc R) ∧ Below w.heap.size w (W.setCells (w.heap.size + 2) 0 (pc R)) :=
  ⟨(h.z.store (Q := R)).range, below_store (b := w.heap.size + 2) R h.b (by omega) h.b.size⟩
theorem lost_range (s : Int) : 0 ≤ lostN s ∧ lostN s ≤ 15 := by
  rcases lost_cases s with ⟨_, h⟩ | ⟨_, h⟩ | ⟨_, h⟩ | ⟨_, h⟩ | ⟨_, h⟩ | ⟨_, h⟩ | ⟨_, _, _, _, _, _, h⟩ <;> rw [h] <;> omega
end Go.Proofs.YtkncfeijlmomaaaGreatDoor
