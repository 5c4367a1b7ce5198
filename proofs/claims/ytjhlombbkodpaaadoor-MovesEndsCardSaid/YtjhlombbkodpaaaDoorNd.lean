/-
  What a listed variable holds: moves.castlings.
-/
import Derived.Test.YtjhlombbkodpaaaDoorG21
import Derived.Test.YtjhlombbkodpaaaDoorMc
import Derived.Test.YtjhlombbkodpaaaDoorRows
namespace Go.Proofs.YtjhlombbkodpaaaDoor
open Go.RowKit Go.ChangeShapes Go.WideShapes
set_option linter.unusedSimpArgs false
set_option linter.unusedVariables false
set_option maxRecDepth 20000

theorem mcs_name : Tryd.prog.globalNamed "zugzwang/moves.castlings" = some 3 := by kernel_rfl
theorem mcs_type : (Tryd.prog.globals[3]?).map (·.type) = some 128 := by kernel_rfl
set_option maxRecDepth 100000 in
theorem mcs_data : (Rows.laid_zugzwang_moves_castlings : DataW Unit) = .agg ((List.range 4).map fun i => .agg [.lit (.int .i64 (mcsN (i * 4))), .lit (.int .i64 (mcsN (i * 4 + 1))), .lit (.int .i64 (mcsN (i * 4 + 2))), .lit (.int .i64 (mcsN (i * 4 + 3)))]) := by kernel_rfl
theorem mcs_of_laid {W : World} {L : List (String × DataW Unit)} (h : laidMet Tryd.prog L W) (hm : ("zugzwang/moves.castlings", Rows.laid_zugzwang_moves_castlings) ∈ L) : ∀ i, i < 16 → W.cell? ⟨3, i, none⟩ = some (.int .i64 (mcsN i)) := by
  obtain ⟨g, t, cs, fuel, p, hg, ht, hvar, hd⟩ := Lib.laidMet.reads h hm
  obtain rfl := Option.some.inj (mcs_name.symm.trans hg)
  obtain rfl := Option.some.inj (mcs_type.symm.trans ht)
  rw [mcs_data] at hd
  intro i hi
  obtain ⟨fuel', d, q, h1, h2⟩ := Lib.array_elem Tryd.underlying128 hd (i / 4) (by omega)
  rw [List.getElem?_map, List.getElem?_range (by omega)] at h1
  have hdd : d = .agg [.lit (.int .i64 (mcsN (i / 4 * 4))), .lit (.int .i64 (mcsN (i / 4 * 4 + 1))), .lit (.int .i64 (mcsN (i / 4 * 4 + 2))), .lit (.int .i64 (mcsN (i / 4 * 4 + 3)))] := by simpa using h1.symm
  rw [show Tryd.prog.cellsOf 127 = 4 by kernel_rfl] at h2
  obtain ⟨xs, n, _, hy, hl, hlen, hfs⟩ := DataW.trod_struct Tryd.underlying127 h2
  rw [World.var?_cell hg hvar i]
  match xs, hlen with
  | [y0, y1, y2, y3], _ =>
    have hyy := (Prod.mk.inj hy).1
    rw [hdd] at hyy
    simp only [List.map_cons, List.map_nil, DataW.agg.injEq, List.cons.injEq, and_true] at hyy
    obtain ⟨z0, z1, z2, z3⟩ := hyy
    have f0 := lit_of (o := 0) Tryd.underlying27 (by kernel_rfl) (hfs 0 _ rfl) z0.symm
    have f1 := lit_of (o := 1) Tryd.underlying23 (by kernel_rfl) (hfs 1 _ rfl) z1.symm
    have f2 := lit_of (o := 2) Tryd.underlying3 (by kernel_rfl) (hfs 2 _ rfl) z2.symm
    have f3 := lit_of (o := 3) Tryd.underlying3 (by kernel_rfl) (hfs 3 _ rfl) z3.symm
    simp only [List.getElem?_take, List.getElem?_drop] at f0 f1 f2 f3
    rcases (show i = i / 4 * 4 + 0 ∨ i = i / 4 * 4 + 1 ∨ i = i / 4 * 4 + 2 ∨ i = i / 4 * 4 + 3 by omega) with e | e | e | e
    · rw [e]; simpa using f0
    · rw [e]; simpa using f1
    · rw [e]; simpa using f2
    · rw [e]; simpa using f3
end Go.Proofs.YtjhlombbkodpaaaDoor
