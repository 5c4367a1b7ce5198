/-
  What the officers' row lays.
-/
import Derived.Lib.LaidU8
import Derived.Test.YtkncfeijlmomaaaGreatDoorRows
import Derived.Test.YtkncfeijlmomaaaGreatDoorG14
import Derived.Test.YtkncfeijlmomaaaGreatDoorG29
namespace Go.Proofs.YtkncfeijlmomaaaGreatDoor
open Go.RowKit
set_option linter.unusedSimpArgs false
set_option linter.unusedVariables false
set_option maxRecDepth 100000

theorem off_name : Tryz.prog.globalNamed "zugzwang/board.officers" = some 0 := by kernel_rfl
theorem off_type : (Tryz.prog.globals[0]?).map (·.type) = some 122 := by kernel_rfl
theorem off_data : (Rows.laid_zugzwang_board_officers : DataW Unit) = .agg ((List.range 8).map fun i => .lit (.int .i64 (offN i))) := by kernel_rfl
theorem off_of_laid {W : World} {L : List (String × DataW Unit)} (h : laidMet Tryz.prog L W) (hm : ("zugzwang/board.officers", Rows.laid_zugzwang_board_officers) ∈ L) : ∀ i, i < 8 → W.cell? ⟨0, i, none⟩ = some (.int .i64 (offN i)) := by
  obtain ⟨g, t, cs, fuel, p, hg, ht, hvar, hd⟩ := Lib.laidMet.reads h hm
  obtain rfl := Option.some.inj (off_name.symm.trans hg)
  obtain rfl := Option.some.inj (off_type.symm.trans ht)
  rw [off_data] at hd
  intro i hi
  obtain ⟨fuel', d, q, h1, h2⟩ := Lib.array_elem Tryz.underlying122 hd i hi
  rw [List.getElem?_map, List.getElem?_range hi] at h1
  have h3 := lit_of Tryz.underlying22 (by kernel_rfl) h2 (n := offN i) (by simpa using h1.symm)
  rw [show Tryz.prog.cellsOf 22 = 1 by kernel_rfl, Nat.mul_one] at h3
  rw [World.var?_cell hg hvar i]
  simpa using h3
end Go.Proofs.YtkncfeijlmomaaaGreatDoor
