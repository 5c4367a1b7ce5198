/-
  What the arguments of the dead laws are: what is left, rows of kinds.
-/
import Derived.Test.YtkdhkljnpalajaaJb
namespace Go.Proofs.Ytkdhkljnpalajaa
open Go.RowKit Go.ChangeShapes Go.WideShapes
set_option linter.unusedSimpArgs false
set_option linter.unusedVariables false

section
variable {H : Type} {enc : TypeId × Value → H} {w : World} {base : Nat}
set_option maxRecDepth 100000 in
theorem view_left {r : Reach} {b0 : Nat} {v : Value} {d : DataW H} {p : List MemPlace} (hv : Value.okWide Try.prog w r b0 31 v) (h : DataW.Trod enc Try.prog w base (fun _ => true) true 31 v d p) : ∃ x : LF, v = .agg (lfA x) := by
  have hu := Try.underlying31
  simp only [Value.okWide, hu] at hv
  obtain ⟨cs, rfl, hs, _⟩ := hv
  rw [show Try.prog.cellsOf 31 = 4 by kernel_rfl] at hs
  obtain ⟨fuel, hf⟩ := h
  obtain ⟨xs, n, _, _, hl, hlen, hfs⟩ := DataW.trod_struct hu hf
  match xs, hlen with
  | [y0, y1, y2, y3], _ =>
    obtain ⟨a, ha, _⟩ := one_int Try.underlying3 (by kernel_rfl) (hfs 0 _ rfl)
    obtain ⟨b, hb, _⟩ := one_int Try.underlying3 (by kernel_rfl) (hfs 1 _ rfl)
    obtain ⟨c, hc, _⟩ := one_int Try.underlying3 (by kernel_rfl) (hfs 2 _ rfl)
    obtain ⟨e, he, _⟩ := one_int Try.underlying3 (by kernel_rfl) (hfs 3 _ rfl)
    simp only [Value.cells] at ha hb hc he
    refine ⟨⟨a, b, c, e⟩, ?_⟩
    unfold lfA
    congr 1
    apply Array.ext
    · simp [hs]
    · intro i h1 h2
      simp at ha hb hc he
      rcases (show i = 0 ∨ i = 1 ∨ i = 2 ∨ i = 3 by omega) with rfl | rfl | rfl | rfl
      · rw [Array.getElem?_eq_getElem h1] at ha; simpa using ha
      · rw [Array.getElem?_eq_getElem h1] at hb; simpa using hb
      · rw [Array.getElem?_eq_getElem h1] at hc; simpa using hc
      · rw [Array.getElem?_eq_getElem h1] at he; simpa using he
theorem view_kinds {r : Reach} {b0 : Nat} {v : Value} {d : DataW H} {p : List MemPlace} (hv : Value.okWide Try.prog w r b0 32 v) (h : DataW.Trod enc Try.prog w base (fun _ => true) true 32 v d p) :
    ∃ (a : Option Addr) (len cap : Nat) (f : Nat → Int), v = .slice a len cap ∧ Reads w.heap.size w a len (fun i => .int .i64 (f i)) ∧ len ≤ cap ∧ cap ≤ maxLen := by
  obtain ⟨a, len, cap, rfl⟩ := okWide_slice Try.underlying32 hv
  obtain ⟨fuel, hf⟩ := h
  rcases open_ints Try.underlying32 Try.underlying22 (by kernel_rfl) hf with ⟨hcs, _⟩ | ⟨x, l, c, zs, hcs, _, hl, hm, hlz, hx, hcell, hwz⟩
  · simp [Value.cells] at hcs
    obtain ⟨rfl, rfl, rfl⟩ := hcs
    exact ⟨none, 0, 0, fun _ => 0, rfl, .inl rfl, Nat.le_refl _, Nat.zero_le _⟩
  · simp [Value.cells] at hcs
    obtain ⟨rfl, rfl, rfl⟩ := hcs
    obtain ⟨r1, r2, r3, r4⟩ := row_reads (k := .i64) (w := w) (a := some x) (len := len) (cap := cap) (zs := zs) (.inr ⟨x, rfl, hl, hm, by simpa using hlz, hcell, hwz⟩)
    exact ⟨some x, len, cap, _, rfl, r1, hl, hm⟩
end
end Go.Proofs.Ytkdhkljnpalajaa
