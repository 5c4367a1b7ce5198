/-
  The constants' cells, out of what the row lays.
-/
import Derived.Test.YtejknkgbkkdaiaaGreatDoorRows
import Derived.Test.YtejknkgbkkdaiaaGreatDoorG5
import Derived.Lib.LaidU8
import Derived.LaidLaws
import Derived.Handed
namespace Go.Proofs.YtejknkgbkkdaiaaGreatDoor
open Go.RowKit Go.ChangeShapes Go.WideShapes
set_option linter.unusedSimpArgs false
set_option linter.unusedVariables false

theorem con_name : Tryz.prog.globalNamed "zugzwang/digest.constants" = some 1 := by kernel_rfl
theorem con_type : (Tryz.prog.globals[1]?).map (·.type) = some 130 := by kernel_rfl
theorem con_cell : Tryz.prog.cellsOf 96 = 1 := by kernel_rfl
theorem con_data : (Rows.laid_zugzwang_digest_constants : DataW Unit) = .agg ((List.range 64).map fun i => .lit (.int .u32 (u (kc i)))) := by kernel_rfl
/-- what the row lays -/
abbrev laidL : List (String × DataW Unit) := [("zugzwang/digest.constants", Rows.laid_zugzwang_digest_constants)]
theorem kc_of_laid {W : World} (h : laidMet Tryz.prog laidL W) : Kc W.heap.size W := by
  obtain ⟨g, t, cs, fuel, p, hg, ht, hvar, hd⟩ := Lib.laidMet.reads h (List.Mem.head _)
  obtain rfl := Option.some.inj (con_name.symm.trans hg)
  obtain rfl := Option.some.inj (con_type.symm.trans ht)
  rw [con_data] at hd
  have hcell : ∀ i, i < 64 → W.cell? ⟨1, i, none⟩ = some (.int .u32 (u (kc i))) := fun i hi => by
    obtain ⟨fuel', d, q, h1, h2⟩ := Lib.array_elem Tryz.underlying130 hd i hi
    obtain ⟨z, hz, hx⟩ := DataW.trod_int Tryz.underlying96 h2
    rw [List.getElem?_map, List.getElem?_range hi] at h1
    have e1 : d = .lit (.int .u32 (u (kc i))) := by simpa using h1.symm
    have e2 : u (kc i) = z := by
      have := e1.symm.trans (Prod.mk.inj hx.1).1
      simpa using this
    rw [con_cell] at hz
    have h3 : cs[i]? = some (.int .u32 z) := by
      have := congrArg (·[0]?) hz
      simpa [List.getElem?_take, List.getElem?_drop] using this
    rw [World.var?_cell hg hvar i, e2]
    simpa using h3
  refine ⟨?_, hcell⟩
  have := World.block_lt_of_cell? W _ (hcell 0 (by omega))
  exact this
/-- a world that meets it -/
noncomputable def laidWorld (os : Os) : World :=
  { World.holding Tryz.prog os ⟨#[], #[], []⟩ with heap := (World.holding Tryz.prog os ⟨#[], #[], []⟩).heap.modify 1 fun
      | .cells _ t frozen => .cells ((List.range 64).map fun i => Value.int .u32 (u (kc i))).toArray t frozen
      | o => o }
theorem laidWorld_met (os : Os) (args : Array Value) : laidMet Tryz.prog laidL ((laidWorld os).forCall (fun _ _ => 0) ⟨#[], args, []⟩).memory :=
  laidMet_of_run 8 (ps := MemPlace.row ⟨1, 0, none⟩ 64) (by kernel_rfl) (by kernel_rfl) (by kernel_rfl)
end Go.Proofs.YtejknkgbkkdaiaaGreatDoor
