/-
  Proved here: the statement Rows.MovesEndsCardSaid: for every input the Go function zugzwanglaw09.MovesEnds returns true and its arguments read afterwards as before; the listed package variable holds what the program's text lays. Conditions: none beside those of the given row. The walk stands in the texts that are imported.
-/
import Derived.Test.YtjhlombbkodpaaaDoorRows
import Derived.Test.YtjhlombbkodpaaaDoorNd
import Derived.Test.YtjhlombbkodpaaaDoorMz
import Derived.Test.YtjhlombbkodpaaaDoorG21
import Derived.Test.YtjhlombbkodpaaaDoorCards
import Derived.Test.YtjhlombbkodpaaaDoorTie
import Derived.SevenTiedAt
import Derived.Below
import Derived.SizedLaws
import Derived.WalkKit
import Derived.ProofKit
import Derived.OpenShut
import Derived.ShutString
import Derived.ChangeOld
import Derived.Carry
namespace Go.Proofs.YtjhlombbkodpaaaDoor.movesEnds
open Go.ChangeShapes Go.WideShapes Go.ChangeAt Go.RowKit
set_option linter.unusedVariables false
set_option linter.unusedSimpArgs false

abbrev laidB : List (String × DataW Unit) := [("zugzwang/attack.steps", Rows.laid_zugzwang_attack_steps), ("zugzwang/moves.castlings", Rows.laid_zugzwang_moves_castlings)]
noncomputable def laidHeap (os : Os) : Array Obj :=
  (((World.holding Tryd.prog os ⟨#[], #[], []⟩).heap).modify 0 (fun o => match o with
    | .cells _ t frozen => .cells (nums stN 0 32).toArray t frozen
    | o => o)).modify 3 (fun o => match o with
    | .cells _ t frozen => .cells (nums mcsN 0 16).toArray t frozen
    | o => o)
noncomputable def laidWorldB (os : Os) : World := { World.holding Tryd.prog os ⟨#[], #[], []⟩ with heap := laidHeap os }
set_option maxRecDepth 100000 in
theorem laidWorldB_met (os : Os) (args : Array Value) : laidMet Tryd.prog laidB ((laidWorldB os).forCall (fun _ _ => 0) ⟨#[], args, []⟩).memory :=
  laidMet_of_run3 8 (by kernel_rfl) (by kernel_rfl) (by kernel_rfl)
theorem own : ownKnob Tryd.prog.godebug = none := by kernel_rfl
theorem laidOut : laidOutB Tryd.prog = true := by kernel_rfl

set_option maxRecDepth 100000 in
theorem lifted (os : Os) (started : os.Started) (H : Type) (enc : TypeId × Value → H) :
    ReturnsInHanded {} Tryd.checked os 4 .any (fun w args => (Rows.movesEndsSpec.pre enc Tryd.prog Tryd.f4 Rows.movesEndsRow.domain false w args ∧ laidMet Tryd.prog laidB w) ∧ sizedMet enc Tryd.prog Tryd.f4 (OpenSpec.ofChange Rows.movesEndsSpec) false w args) (Rows.movesEndsSpec.post enc Tryd.prog Tryd.f4 false true false false) := by
  refine returnsInHanded_of_change_and (C := Tryd.checked) (X := fun w _ => laidMet Tryd.prog laidB w) (fun _ _ _ hh h => h.of_heap hh) own started (by kernel_rfl) Tryd.func4
    (ChangeSpec.witness_at (enc := enc) (C := Tryd.checked) (os := os) (X := fun w _ => laidMet Tryd.prog laidB w) false (laidWorldB os) #[] 8 rfl (by kernel_rfl) (by kernel_rfl) (by kernel_rfl) (by kernel_rfl) (by kernel_rfl) (laidWorldB_met os _)) ?_
  intro W base args ds gs before hval0 hW hcnd hsz0 hL _
  have hval : ∀ (j : Nat) t v, Tryd.f4.params[j]? = some t → args[j]? = some v → Value.okWide Tryd.prog W .any base t v := hval0
  have hW' := hW
  obtain ⟨p, q, hA0, hV, rfl, hfz, hnd⟩ := hW
  have hA : DataW.TrodAll enc Tryd.prog W 0 (fun _ => true) true Tryd.f4.params.toList args.toList ds p := hA0
  have hsz : (DataW.weightsEach Tryd.prog (Tryd.f4.params.toList ++ Rows.movesEndsSpec.plain.varTypes Tryd.prog) (ds ++ gs)).all (· ≤ reachBytes) = true := hsz0
  rw [Tryd.params4] at hA hval hsz
  obtain ⟨rfl, rfl, rfl⟩ := trodAll_none hA
  obtain ⟨rfl, rfl⟩ := trodVars_none hV
  clear hA0 hval0
  have hv0 := st_of_laid hL (List.Mem.head _)
  have hgs : GS W.heap.size W := ⟨World.block_lt_of_cell? W _ (hv0 0 (by omega)), hv0⟩
  have hv1 := mcs_of_laid hL (List.Mem.tail _ (List.Mem.head _))
  have hgm : GM W.heap.size W := ⟨World.block_lt_of_cell? W _ (hv1 0 (by omega)), hv1⟩
  refine Calls.mono (R := fun e w' => e = .returned (.bool true) ∧ Below W.heap.size W w') ?hc fun e W' ⟨he, bel⟩ => ?_
  case hc =>
    exact ends9_any W W.heap.size hgs hgm (Nat.le_refl _)
  subst he
  exact ⟨_, rfl, _, _, _, [], _, [], hW', trodAll_mk1 (shut_bool Tryd.underlying4 _), trodAll_mk0, rfl, bel.frame _, fun h => by cases h⟩

theorem over : Rows.movesEndsRow.holds Tryd.pinned (OpenSpec.ofChange Rows.movesEndsSpec) :=
  OpenClaim.holds_of_wide 4 Tryd.f4 rfl rfl rfl rfl rfl rfl rfl ⟨rfl, rfl, rfl, rfl, rfl⟩ rfl rfl rfl rfl rfl (by kernel_rfl) Tryd.func4 (by kernel_rfl)
    (of_decide_eq_true (by kernel_rfl)) (by unfold Func.isWrapper; first | (rw [if_pos (by decide +kernel)]; kernel_rfl) | (rw [if_neg (by decide +kernel)]; exact ⟨rfl, rfl⟩))
    (fun os started H enc _ => lifted os started H enc)

theorem proved : Rows.MovesEndsSaid := over

/-- the tied card -/
theorem card : Rows.MovesEndsCardSaid :=
  Claim7.holds_tied_plain_at .later [] [.data, .data] true (true, "2f9343902ab6ced9a782d3802a8cab20581cf6f7c6e5ccecc41105e87623fd02") false
    over (fun _ h => by cases h) (by kernel_rfl) (fun _ h => by cases h) movesEnds_row_tie rfl ⟨rfl, rfl⟩ (by kernel_rfl) rfl
    (fun f fn hf hfn => by
      obtain rfl : f = 4 := Option.some.inj ((show Tryd.prog.funcNamed "zugzwang/zugzwanglaw09.MovesEnds" = some 4 by kernel_rfl).symm.trans hf) |>.symm
      obtain rfl : fn = Tryd.f4 := (Option.some.inj (Tryd.func4.symm.trans hfn)).symm
      exact ⟨by kernel_rfl, fun j t ht => by
        rw [Tryd.params4] at ht
        have hall : ∀ t ∈ Tryd.f4.params.toList, Tryd.prog.wantsStandIn t = false := by decide +kernel
        exact hall t (by rw [Tryd.params4]; exact Array.mem_toList_iff.2 (Array.mem_of_getElem? ht))⟩)
    (by kernel_rfl)
end Go.Proofs.YtjhlombbkodpaaaDoor.movesEnds
