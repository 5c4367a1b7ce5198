/-
  What the arguments of a law are: rows of steps.
-/
import Derived.Test.YtaiihdkcpbkmaaaSqI
import Derived.Deep.Slices
import Derived.Deep.Fields
import Derived.Deep.Matrix
import Derived.OpenShut
import Derived.ProofKit
namespace Go.Proofs.Ytaiihdkcpbkmaaa
open Go.RowKit Go.ChangeShapes Go.WideShapes
set_option linter.unusedSimpArgs false
set_option linter.unusedVariables false

theorem i64_of_wf {n : Int} (h : (Lit.int .i64 n).wf = true) : I64 n := by
  simp [Lit.wf, IntKind.min, IntKind.max, IntKind.signed, IntKind.bits] at h; unfold I64; omega
section
variable {H : Type} {enc : TypeId × Value → H} {w : World} {base : Nat}
theorem pair_ints {sp : Nat → Bool} {held : Bool} {fuel : Nat} {cs : List Value} {x : DataW H × List MemPlace} (h : DataW.trod enc Try.prog w base sp held fuel 36 cs = some x) (i : Nat) (hi : i < 2) : ∃ z, cs[i]? = some (.int .i64 z) ∧ (Lit.int .i64 z).wf = true := by
  obtain ⟨xs, m, _, _, hlen, hxs, hat⟩ := DataW.trod_array Try.underlying36 h
  have h1 := hat i hi
  rw [show Try.prog.cellsOf 3 = 1 by kernel_rfl, Nat.mul_one] at h1
  have hx : xs[i]? = some (xs[i]'(by omega)) := List.getElem?_eq_getElem (by omega)
  obtain ⟨z, hz, _, hw⟩ := DataW.trod_int Try.underlying3 (h1.trans hx)
  refine ⟨z, ?_, hw⟩
  have := congrArg (·[0]?) hz
  simpa [List.getElem?_take, List.getElem?_drop] using this
set_option maxRecDepth 100000 in
theorem view_pairs {r : Reach} {b0 : Nat} {v : Value} {d : DataW H} {p : List MemPlace} (hv : Value.okWide Try.prog w r b0 22 v) (h : DataW.Trod enc Try.prog w base (fun _ => true) true 22 v d p) :
    ∃ (a : Option Addr) (len cap : Nat) (f g : Nat → Int), v = .slice a len cap ∧ len ≤ maxLen ∧ Reads2 w.heap.size w a len f g ∧ ∀ i, i < len → I64 (f i) ∧ I64 (g i) := by
  obtain ⟨a, len, cap, rfl⟩ := okWide_slice Try.underlying22 hv
  obtain ⟨fuel, hf⟩ := h
  rcases Go.Deep.open_slice Try.underlying22 hf with ⟨hcs, _⟩ | ⟨x, l, c, m, n', D, Pl, hcs, hb, hl, hm, hmm, hx, hat⟩
  · simp [Value.cells] at hcs
    obtain ⟨rfl, rfl, rfl⟩ := hcs
    exact ⟨none, 0, 0, fun _ => 0, fun _ => 0, rfl, by unfold maxLen; omega, .inl rfl, fun i hi => by omega⟩
  · simp [Value.cells] at hcs
    obtain ⟨rfl, rfl, rfl⟩ := hcs
    simp only [if_true] at hmm
    have hc2 : Try.prog.cellsOf 36 = 2 := by kernel_rfl
    have key : ∀ i, i < len → ∃ z : Int × Int, w.cell? (x.add (i * 2)) = some (.int .i64 z.1) ∧ w.cell? (x.add (i * 2 + 1)) = some (.int .i64 z.2) ∧ I64 z.1 ∧ I64 z.2 := fun i hi => by
      obtain ⟨cs', hc, ht⟩ := hat i (by omega)
      rw [hc2] at hc
      obtain ⟨_, hcl, hce⟩ := World.cells?_some hc
      obtain ⟨z0, e0, w0⟩ := pair_ints ht 0 (by omega)
      obtain ⟨z1, e1, w1⟩ := pair_ints ht 1 (by omega)
      refine ⟨(z0, z1), ?_, ?_, ?_, ?_⟩
      · have := hce 0 (by omega)
        rw [Go.Deep.add_add] at this
        rw [← e0]; simpa using this
      · have := hce 1 (by omega)
        rw [Go.Deep.add_add] at this
        rw [← e1]; simpa using this
      · have := w0; simp [Lit.wf, IntKind.min, IntKind.max, IntKind.signed, IntKind.bits] at this; unfold I64; simp only; omega
      · have := w1; simp [Lit.wf, IntKind.min, IntKind.max, IntKind.signed, IntKind.bits] at this; unfold I64; simp only; omega
    obtain ⟨Z, hZ⟩ := Go.Deep.choose_lt key
    refine ⟨some x, len, cap, fun i => (Z i).1, fun i => (Z i).2, rfl, by omega, ?_, fun i hi => (hZ i hi).2.2⟩
    by_cases h0 : len = 0
    · exact .inl h0
    · obtain ⟨b, off, spot⟩ := x
      have hspot : spot = none := by simpa [Addr.add] using World.cell?_spot (hZ 0 (by omega)).1
      subst hspot
      refine .inr ⟨b, off, rfl, ?_, fun i hi => ?_⟩
      · have := (hZ 0 (by omega)).1
        exact World.block_lt_of_cell? w ⟨b, off + 0 * 2, none⟩ (by rw [Go.WideShapes.add_plain] at this; exact this)
      · obtain ⟨h1, h2, _⟩ := hZ i hi
        rw [Go.WideShapes.add_plain] at h1 h2
        exact ⟨h1, by rw [Nat.add_assoc]; exact h2⟩
end
end Go.Proofs.Ytaiihdkcpbkmaaa
