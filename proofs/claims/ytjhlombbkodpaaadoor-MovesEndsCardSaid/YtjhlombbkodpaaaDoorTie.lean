/-
  DERIVED. GIVEN WITH THE SEED: THE PROGRAM's TIES (one call each: nine closed facts by the kernel) AND EACH ROW's TIE, after the 31st guide's Derived/Test/Toyas{Tie, Card}.lean. No idea stands in it: it is a product of the set-up. Laid BY PROGRAM, IN A SANDBOX (cutbox-door.mjs). By AI agents, Wed Nov 11 2026. No macro, syntax, notation, axiom, sorry.
-/
import Derived.Test.YtjhlombbkodpaaaDoorRows
import Derived.LaidByTextLater
import Derived.SevenTiedAt
import Derived.LaidSub
import Derived.LaidOnce
namespace Go.Proofs.YtjhlombbkodpaaaDoor
open Go
set_option maxRecDepth 100000
theorem seatTie1 : Tryd.prog.laidByTextLater [("zugzwang/board.castlings", Rows.laid_zugzwang_board_castlings), ("zugzwang/play.castlings", Rows.laid_zugzwang_play_castlings), ("zugzwang/attack.steps", Rows.laid_zugzwang_attack_steps), ("zugzwang/moves.castlings", Rows.laid_zugzwang_moves_castlings)] [.data, .data, .data, .data] true :=
  Program.laidByTextLater_by_one 57 8 33 (by kernel_rfl) (by kernel_rfl) (by kernel_rfl) (by kernel_rfl) (by kernel_rfl) (by kernel_rfl) (fun _ _ => by kernel_rfl)
theorem noOwnUnsafe : Tryd.pinned.checked.prog.headLifts.contains "ownunsafe" = false := by kernel_rfl
theorem tie : Tryd.prog.laidByTextLater [("zugzwang/attack.steps", Rows.laid_zugzwang_attack_steps), ("zugzwang/moves.castlings", Rows.laid_zugzwang_moves_castlings)] [.data, .data] true :=
  Program.laidByTextLater.sub seatTie1 ["zugzwang/attack.steps", "zugzwang/moves.castlings"] (by kernel_rfl) (by kernel_rfl)
theorem movesTell_row_tie : Rows.movesTellRow.laidByTextAt .later Tryd.pinned [.data, .data] true :=
  OpenClaim.laidByTextAt_later rfl rfl tie noOwnUnsafe
theorem movesEnds_row_tie : Rows.movesEndsRow.laidByTextAt .later Tryd.pinned [.data, .data] true :=
  OpenClaim.laidByTextAt_later rfl rfl tie noOwnUnsafe
theorem tie2 : Tryd.prog.laidByTextLater [("zugzwang/play.castlings", Rows.laid_zugzwang_play_castlings), ("zugzwang/attack.steps", Rows.laid_zugzwang_attack_steps), ("zugzwang/moves.castlings", Rows.laid_zugzwang_moves_castlings)] [.data, .data, .data] true :=
  Program.laidByTextLater.sub seatTie1 ["zugzwang/play.castlings", "zugzwang/attack.steps", "zugzwang/moves.castlings"] (by kernel_rfl) (by kernel_rfl)
theorem movesCan_row_tie : Rows.movesCanRow.laidByTextAt .later Tryd.pinned [.data, .data, .data] true :=
  OpenClaim.laidByTextAt_later rfl rfl tie2 noOwnUnsafe
theorem tie3 : Tryd.prog.laidByTextLater [("zugzwang/board.castlings", Rows.laid_zugzwang_board_castlings), ("zugzwang/attack.steps", Rows.laid_zugzwang_attack_steps), ("zugzwang/moves.castlings", Rows.laid_zugzwang_moves_castlings)] [.data, .data, .data] true :=
  Program.laidByTextLater.sub seatTie1 ["zugzwang/board.castlings", "zugzwang/attack.steps", "zugzwang/moves.castlings"] (by kernel_rfl) (by kernel_rfl)
theorem movesTurn_row_tie : Rows.movesTurnRow.laidByTextAt .later Tryd.pinned [.data, .data, .data] true :=
  OpenClaim.laidByTextAt_later rfl rfl tie3 noOwnUnsafe
theorem movesTellUpto_row_tie : Rows.movesTellUptoRow.laidByTextAt .later Tryd.pinned [.data, .data] true :=
  OpenClaim.laidByTextAt_later rfl rfl tie noOwnUnsafe
theorem movesEndsUpto_row_tie : Rows.movesEndsUptoRow.laidByTextAt .later Tryd.pinned [.data, .data] true :=
  OpenClaim.laidByTextAt_later rfl rfl tie noOwnUnsafe
theorem movesCanUpto_row_tie : Rows.movesCanUptoRow.laidByTextAt .later Tryd.pinned [.data, .data, .data] true :=
  OpenClaim.laidByTextAt_later rfl rfl tie2 noOwnUnsafe
theorem movesTurnUpto_row_tie : Rows.movesTurnUptoRow.laidByTextAt .later Tryd.pinned [.data, .data, .data] true :=
  OpenClaim.laidByTextAt_later rfl rfl tie3 noOwnUnsafe
end Go.Proofs.YtjhlombbkodpaaaDoor
