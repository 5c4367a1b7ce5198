/-
  No book: Put, Many, Most, Copy of nil and of a book that is zero.
-/
import Derived.Test.YtcdnakbdajbfoaaGreatDoorZe
namespace Go.Proofs.YtcdnakbdajbfoaaGreatDoor
open Go.RowKit Go.Sort Go.Maps
set_option linter.unusedSimpArgs false
set_option linter.unusedVariables false
set_option maxRecDepth 20000

def ZB (v : Value) (W : World) : Prop := v = .pointer none ∨ ∃ z, v = .pointer (some ⟨z, 0, none⟩) ∧ W.heap[z]? = some (.cells #[.map none, .int .i64 0, .pointer none] 62 (0, 0))
theorem ZB.go {v : Value} {W W' : World} (h : ZB v W) (g : Below W.heap.size W W') : ZB v W' := by
  rcases h with h | ⟨z, h1, h2⟩
  · exact .inl h
  · exact .inr ⟨z, h1, sl_go h2 g⟩
theorem run_neq_nil_ptr {P : Program} (w : World) {tp te : TypeId} (a : Addr) (hp : P.underlying tp = some (.pointer te)) :
    (binOp .neq tp (.pointer none) (.pointer (some a))).run P w = .ok (.bool true) w := by
  have h : ∀ d : Nat, (Op.equalIn (d + 1) tp (.pointer none) (.pointer (some a))).run P w = .ok false w := fun d => by
    simp [Op.equalIn, run_underlying hp, sizeOf, typeInfo]
  simp only [binOp]
  simp [Op.equal, Op.maxDepth, h 9999]
set_option maxHeartbeats 1000000 in
set_option maxRecDepth 100000 in
theorem znone_any (v : Value) (w : World) (h : ZB v w) :
    Calls Tryz.prog 34 #[v] w fun e w' => e = .returned (.bool true) ∧ w' = w := by
  rcases h with rfl | ⟨b, rfl, h⟩
  · go_enter Tryz.func34, Tryz.ntmps34
    go_wp2
    go_ret
    exact ⟨rfl, rfl⟩
  · obtain ⟨x0, x1, x2, xf, xz⟩ := row3 h
    clear h
    have en := fun W => run_neq_nil_ptr (P := Tryz.prog) W (tp := 32) (te := 62) ⟨b, 0, none⟩ Tryz.underlying32
    go_enter Tryz.func34, Tryz.ntmps34
    go_wp2
    go_ret
    exact ⟨rfl, rfl⟩
set_option maxHeartbeats 1000000 in
set_option maxRecDepth 100000 in
theorem zput_any (v : Value) (X : Array Value) (w : World) (h : ZB v w) :
    Calls Tryz.prog 14 #[v, .agg X] w fun e w' => e = .returned (.int .i64 0) ∧ Below w.heap.size w w' := by
  have HI := Lib.hid (show ZB v (w.alloc (.cells X 30)) ∧ Below w.heap.size w (w.alloc (.cells X 30)) from ⟨h.go (below_new _), below_new _⟩)
  have MN := Lib.hid (fun W (h : ZB v W) => znone_any v W h)
  clear h
  go_enter Tryz.func14, Tryz.ntmps14
  go_upto_region 1 with (fail)
  refine forget_B (fun W => ZB v W ∧ Below w.heap.size w W) HI.out ?_
  clear HI
  intro W hi
  have HI := Lib.hid hi
  clear hi
  go_wp2_with fail
  refine (MN.out _ HI.out.1).mono ?_
  rintro e w1 ⟨rfl, rfl⟩
  clear MN
  go_wp2
  go_ret
  exact ⟨rfl, HI.out.2⟩
set_option maxHeartbeats 1000000 in
set_option maxRecDepth 100000 in
theorem zmany_any (v : Value) (X : Array Value) (w : World) (h : ZB v w) :
    Calls Tryz.prog 18 #[v, .agg X] w fun e w' => e = .returned (.int .i64 0) ∧ Below w.heap.size w w' := by
  have HI := Lib.hid (show ZB v (w.alloc (.cells X 30)) ∧ Below w.heap.size w (w.alloc (.cells X 30)) from ⟨h.go (below_new _), below_new _⟩)
  have MN := Lib.hid (fun W (h : ZB v W) => znone_any v W h)
  clear h
  go_enter Tryz.func18, Tryz.ntmps18
  go_upto_region 1 with (fail)
  refine forget_B (fun W => ZB v W ∧ Below w.heap.size w W) HI.out ?_
  clear HI
  intro W hi
  have HI := Lib.hid hi
  clear hi
  go_wp2_with fail
  refine (MN.out _ HI.out.1).mono ?_
  rintro e w1 ⟨rfl, rfl⟩
  clear MN
  go_wp2
  go_ret
  exact ⟨rfl, HI.out.2⟩
set_option maxHeartbeats 1000000 in
set_option maxRecDepth 100000 in
theorem zmost_any (v : Value) (w : World) (h : ZB v w) :
    Calls Tryz.prog 16 #[v] w fun e w' => e = .returned (.int .i64 0) ∧ w' = w := by
  have MN := Lib.hid (znone_any v w h)
  clear h
  go_enter Tryz.func16, Tryz.ntmps16
  go_wp2_with fail
  refine MN.out.mono ?_
  rintro e w1 ⟨rfl, rfl⟩
  clear MN
  dsimp only
  refine list_go (by assumption) ?_
  go_wp2
  go_ret
  exact ⟨rfl, rfl⟩
set_option maxHeartbeats 1000000 in
set_option maxRecDepth 100000 in
theorem zcopy_any (v : Value) (w : World) (h : ZB v w) :
    Calls Tryz.prog 27 #[v] w fun e w' => e = .returned (.pointer none) ∧ w' = w := by
  have MN := Lib.hid (znone_any v w h)
  clear h
  go_enter Tryz.func27, Tryz.ntmps27
  go_wp2_with fail
  refine MN.out.mono ?_
  rintro e w1 ⟨rfl, rfl⟩
  clear MN
  dsimp only
  refine list_go (by assumption) ?_
  go_wp2
  go_ret
  exact ⟨rfl, rfl⟩
end Go.Proofs.YtcdnakbdajbfoaaGreatDoor
