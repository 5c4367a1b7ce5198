/-
  Laws for walks over whole positions: loads, comparisons.
-/
import Derived.Test.YtbnpphecknhpeaaDoorBq
import Derived.Test.YtbnpphecknhpeaaDoorBe
namespace Go.Proofs.YtbnpphecknhpeaaDoor
open Go.RowKit Go.Sort
set_option linter.unusedSimpArgs false
set_option linter.unusedVariables false

/-- a position is loaded, in a walk of the text's order -/
theorem wpQuiet_pos {ops : Array Oper} {C : World → Prop} {Q : Act → Prop} {rest : List Oper} {o : Oper} {a : Act} (hw : Region.wanted o (yielded ops a.tmps) = true) (x : Operand) (ho : o.op = .load 29 x)
    (b : Nat) (P : Nat → Int) (X : Array Value) (hX : X = (pc P).toArray) (hx : a.eval x = .pointer (some ⟨b, 0, none⟩)) (hc : ∀ W, C W → PB W b P) (h : wpQuiet Tryd.prog ops C Q rest (a.put o.dst (.agg X))) : wpQuiet Tryd.prog ops C Q (o :: rest) a := by
  subst hX
  exact wpQuiet_rows (b := b) (ty := 29) (x := x) (cs := pc P) (fun W hW => (hc W hW).range) Tryd.underlying29 rfl (by rw [infoPos, pc_len]) hw ho hx h
theorem wpQuiet_bin {ops : Array Oper} {C : World → Prop} {Q : Act → Prop} {rest : List Oper} {o : Oper} {a : Act} (hw : Region.wanted o (yielded ops a.tmps) = true) (bop : BinOp) (x y : Operand) (t r : TypeId) (ho : o.op = .binOp bop t x y r)
    (v1 v2 v : Value) (hx : a.eval x = v1) (hy : a.eval y = v2) (hg : ∀ W, (eqGuard bop t x y v1 v2).run Tryd.prog W = .ok () W) (h : ∀ W, (binOp bop t v1 v2).run Tryd.prog W = .ok v W) (k : wpQuiet Tryd.prog ops C Q rest (a.put o.dst v)) : wpQuiet Tryd.prog ops C Q (o :: rest) a :=
  BigFrame.wpQuiet_want hw fun K hK => ⟨v, fun W hW => by
    unfold Oper.quietAt execOp
    simp [ho, hx, hy, hg, h]
    exact ⟨rfl, rfl⟩, hK _ k⟩
theorem yields_posC {ops : Array Oper} {S : World → Prop} {op : Oper} {a : Act} (hw : Region.wanted op (yielded ops a.tmps) = true) (x : Operand) (ho : op.op = .load 29 x)
    (b : Nat) (P : Nat → Int) (X : Array Value) (hX : X = (pc P).toArray) (hx : a.eval x = .pointer (some ⟨b, 0, none⟩)) (hS : ∀ w, S w → PB w b P) : YieldsIf Tryd.prog ops S op (.agg X) a := by
  subst hX
  exact yieldsIf_load_mid hw 29 x ho b 0 hx (pc P) _ (fun w h => (hS w h).range) Tryd.underlying29 rfl (by rw [infoPos, pc_len])
theorem yields_pieC {ops : Array Oper} {S : World → Prop} {op : Oper} {a : Act} (hw : Region.wanted op (yielded ops a.tmps) = true) (x : Operand) (ho : op.op = .load 25 x)
    (b : Nat) (k d : Int) (hx : a.eval x = .pointer (some ⟨b, 0, none⟩)) (hS : ∀ w, S w → w.heap[b]? = some (.cells #[.int .i64 k, .int .i64 d] 25 (0, 0))) : YieldsIf Tryd.prog ops S op (.agg #[.int .i64 k, .int .i64 d]) a :=
  yieldsIf_load_mid hw 25 x ho b 0 hx [.int .i64 k, .int .i64 d] _ (fun w h j v hv => by
    obtain ⟨q1, q2, _, _⟩ := row2 (hS w h)
    rcases j with _ | _ | j
    · simpa using q1.trans (by simpa using hv)
    · simpa using q2.trans (by simpa using hv)
    · simp at hv) Tryd.underlying25 rfl (by rw [infoPie]; rfl)
end Go.Proofs.YtbnpphecknhpeaaDoor
