/-
  Proved here: the statement Rows.LegalEndsCardSaid: for every input the Go function zugzwanglaw10.LegalEnds returns true and its arguments read afterwards as before; the listed package variable holds what the program's text lays. Conditions: none beside those of the given row. The walk stands in the texts that are imported.
-/
import Derived.Test.YthinkiljhkanhaaGreatDoorRows
import Derived.Test.YthinkiljhkanhaaGreatDoorG21
import Derived.Test.YthinkiljhkanhaaGreatDoorVc
import Derived.Test.YthinkiljhkanhaaGreatDoorG21
import Derived.Test.YthinkiljhkanhaaGreatDoorCards
import Derived.Test.YthinkiljhkanhaaGreatDoorTie
import Derived.SevenTiedAt
import Derived.Below
import Derived.SizedLaws
import Derived.WalkKit
import Derived.ProofKit
import Derived.OpenShut
import Derived.ShutString
import Derived.ChangeOld
import Derived.Carry
namespace Go.Proofs.YthinkiljhkanhaaGreatDoor.legalEnds
open Go.ChangeShapes Go.WideShapes Go.ChangeAt Go.RowKit
set_option linter.unusedVariables false
set_option linter.unusedSimpArgs false

abbrev laidB : List (String × DataW Unit) := [("zugzwang/board.castlings", Rows.laid_zugzwang_board_castlings), ("zugzwang/play.castlings", Rows.laid_zugzwang_play_castlings), ("zugzwang/attack.steps", Rows.laid_zugzwang_attack_steps), ("zugzwang/moves.castlings", Rows.laid_zugzwang_moves_castlings)]
noncomputable def laidHeap (os : Os) : Array Obj :=
  (((((World.holding Tryz.prog os ⟨#[], #[], []⟩).heap).modify 1 (fun o => match o with
    | .cells _ t frozen => .cells (nums casN 0 16).toArray t frozen
    | o => o)).modify 0 (fun o => match o with
    | .cells _ t frozen => .cells (nums kasN 0 20).toArray t frozen
    | o => o)).modify 3 (fun o => match o with
    | .cells _ t frozen => .cells (nums stN 0 32).toArray t frozen
    | o => o)).modify 2 (fun o => match o with
    | .cells _ t frozen => .cells (nums mcsN 0 16).toArray t frozen
    | o => o)
noncomputable def laidWorldB (os : Os) : World := { World.holding Tryz.prog os ⟨#[], #[], []⟩ with heap := laidHeap os }
set_option maxRecDepth 100000 in
theorem laidWorldB_met (os : Os) (args : Array Value) : laidMet Tryz.prog laidB ((laidWorldB os).forCall (fun _ _ => 0) ⟨#[], args, []⟩).memory :=
  laidMet_of_run3 8 (by kernel_rfl) (by kernel_rfl) (by kernel_rfl)
theorem own : ownKnob Tryz.prog.godebug = none := by kernel_rfl
theorem laidOut : laidOutB Tryz.prog = true := by kernel_rfl

set_option maxRecDepth 100000 in
theorem lifted (os : Os) (started : os.Started) (H : Type) (enc : TypeId × Value → H) :
    ReturnsInHanded {} Tryz.checked os 5 .any (fun w args => (Rows.legalEndsSpec.pre enc Tryz.prog Tryz.f5 Rows.legalEndsRow.domain false w args ∧ laidMet Tryz.prog laidB w) ∧ sizedMet enc Tryz.prog Tryz.f5 (OpenSpec.ofChange Rows.legalEndsSpec) false w args) (Rows.legalEndsSpec.post enc Tryz.prog Tryz.f5 false true false false) := by
  refine returnsInHanded_of_change_and (C := Tryz.checked) (X := fun w _ => laidMet Tryz.prog laidB w) (fun _ _ _ hh h => h.of_heap hh) own started (by kernel_rfl) Tryz.func5
    (ChangeSpec.witness_at (enc := enc) (C := Tryz.checked) (os := os) (X := fun w _ => laidMet Tryz.prog laidB w) false (laidWorldB os) #[] 8 rfl (by kernel_rfl) (by kernel_rfl) (by kernel_rfl) (by kernel_rfl) (by kernel_rfl) (laidWorldB_met os _)) ?_
  intro W base args ds gs before hval0 hW hcnd hsz0 hL _
  have hval : ∀ (j : Nat) t v, Tryz.f5.params[j]? = some t → args[j]? = some v → Value.okWide Tryz.prog W .any base t v := hval0
  have hW' := hW
  obtain ⟨p, q, hA0, hV, rfl, hfz, hnd⟩ := hW
  have hA : DataW.TrodAll enc Tryz.prog W 0 (fun _ => true) true Tryz.f5.params.toList args.toList ds p := hA0
  have hsz : (DataW.weightsEach Tryz.prog (Tryz.f5.params.toList ++ Rows.legalEndsSpec.plain.varTypes Tryz.prog) (ds ++ gs)).all (· ≤ reachBytes) = true := hsz0
  rw [Tryz.params5] at hA hval hsz
  obtain ⟨rfl, rfl, rfl⟩ := trodAll_none hA
  obtain ⟨rfl, rfl⟩ := trodVars_none hV
  clear hA0 hval0
  have hv0 := cas_of_laid hL (List.Mem.head _)
  have hgb : GB W.heap.size W := ⟨World.block_lt_of_cell? W _ (hv0 0 (by omega)), hv0⟩
  have hv1 := kas_of_laid hL (List.Mem.tail _ (List.Mem.head _))
  have hgp : GP W.heap.size W := ⟨World.block_lt_of_cell? W _ (hv1 0 (by omega)), hv1⟩
  have hv2 := st_of_laid hL (List.Mem.tail _ (List.Mem.tail _ (List.Mem.head _)))
  have hgs : GS W.heap.size W := ⟨World.block_lt_of_cell? W _ (hv2 0 (by omega)), hv2⟩
  have hv3 := mcs_of_laid hL (List.Mem.tail _ (List.Mem.tail _ (List.Mem.tail _ (List.Mem.head _))))
  have hgm : GM W.heap.size W := ⟨World.block_lt_of_cell? W _ (hv3 0 (by omega)), hv3⟩
  refine Calls.mono (R := fun e w' => e = .returned (.bool true) ∧ Below W.heap.size W w') ?hc fun e W' ⟨he, bel⟩ => ?_
  case hc =>
    exact legalEnds_any W W.heap.size hgb hgs hgm hgp (Nat.le_refl _)
  subst he
  exact ⟨_, rfl, _, _, _, [], _, [], hW', trodAll_mk1 (shut_bool Tryz.underlying4 _), trodAll_mk0, rfl, bel.frame _, fun h => by cases h⟩

theorem over : Rows.legalEndsRow.holds Tryz.pinned (OpenSpec.ofChange Rows.legalEndsSpec) :=
  OpenClaim.holds_of_wide 5 Tryz.f5 rfl rfl rfl rfl rfl rfl rfl ⟨rfl, rfl, rfl, rfl, rfl⟩ rfl rfl rfl rfl rfl (by kernel_rfl) Tryz.func5 (by kernel_rfl)
    (of_decide_eq_true (by kernel_rfl)) (by unfold Func.isWrapper; first | (rw [if_pos (by decide +kernel)]; kernel_rfl) | (rw [if_neg (by decide +kernel)]; exact ⟨rfl, rfl⟩))
    (fun os started H enc _ => lifted os started H enc)

theorem proved : Rows.LegalEndsSaid := over

/-- the tied card -/
theorem card : Rows.LegalEndsCardSaid :=
  Claim7.holds_tied_plain_at .later [] [.data, .data, .data, .data] true (true, "be634fe01c18399661baee58b7543ebd0356c05308b5315c0333b370e20043dc") false
    over (fun _ h => by cases h) (by kernel_rfl) (fun _ h => by cases h) legalEnds_row_tie rfl ⟨rfl, rfl⟩ (by kernel_rfl) rfl
    (fun f fn hf hfn => by
      obtain rfl : f = 5 := Option.some.inj ((show Tryz.prog.funcNamed "zugzwang/zugzwanglaw10.LegalEnds" = some 5 by kernel_rfl).symm.trans hf) |>.symm
      obtain rfl : fn = Tryz.f5 := (Option.some.inj (Tryz.func5.symm.trans hfn)).symm
      exact ⟨by kernel_rfl, fun j t ht => by
        rw [Tryz.params5] at ht
        have hall : ∀ t ∈ Tryz.f5.params.toList, Tryz.prog.wantsStandIn t = false := by decide +kernel
        exact hall t (by rw [Tryz.params5]; exact Array.mem_toList_iff.2 (Array.mem_of_getElem? ht))⟩)
    (by kernel_rfl)
end Go.Proofs.YthinkiljhkanhaaGreatDoor.legalEnds
