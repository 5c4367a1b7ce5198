/-
  Contracts: the document's castlings.
-/
import Derived.Test.YtbnpphecknhpeaaDoorBm
namespace Go.Proofs.YtbnpphecknhpeaaDoor
open Go.RowKit Go.Sort
set_option linter.unusedSimpArgs false
set_option linter.unusedVariables false

/-- a whole position is loaded, in a region that does not draw -/
theorem wpList_pos {ops : Array Oper} {rest : List Oper} {op : Oper} {a : Act} {w : World} {Q : Exit → Act → World → Prop} (hw : Region.wanted op (yielded ops a.tmps) = true) (x : Operand) (ho : op.op = .load 29 x)
    (b : Nat) (P : Nat → Int) (X : Array Value) (hX : X = (pc P).toArray) (hx : a.eval x = .pointer (some ⟨b, 0, none⟩)) (hc : PB w b P) (h : wpList Tryd.prog ops Q rest (a.put op.dst (.agg X)) w) : wpList Tryd.prog ops Q (op :: rest) a w := by
  subst hX
  exact BigFrame.wpList_want hw fun _ hK => wp_load_mid 29 x ho b 0 hx (pc P) _ hc.range Tryd.underlying29 rfl (by rw [infoPos, pc_len]) (hK _ _ h)
def castB (P : Nat → Int) : Bool := casB (P 129) && (P 129 % 2 == 0 || homeB P 0 4 7) && (P 129 / 2 % 2 == 0 || homeB P 0 4 0) && (P 129 / 4 % 2 == 0 || homeB P 1 60 63) && (P 129 / 8 == 0 || homeB P 1 60 56)
theorem tdm (c : Int) (h : 0 ≤ c) : c.tmod 2 = c % 2 ∧ (c.tdiv 2).tmod 2 = c / 2 % 2 ∧ (c.tdiv 4).tmod 2 = c / 4 % 2 ∧ c.tdiv 8 = c / 8 := by
  have h2 : c.tdiv 2 = c / 2 := Int.tdiv_eq_ediv_of_nonneg h
  have h4 : c.tdiv 4 = c / 4 := Int.tdiv_eq_ediv_of_nonneg h
  have h8 : c.tdiv 8 = c / 8 := Int.tdiv_eq_ediv_of_nonneg h
  refine ⟨Int.tmod_eq_emod_of_nonneg h, ?_, ?_, h8⟩
  · rw [h2]; exact Int.tmod_eq_emod_of_nonneg (by omega)
  · rw [h4]; exact Int.tmod_eq_emod_of_nonneg (by omega)
end Go.Proofs.YtbnpphecknhpeaaDoor
