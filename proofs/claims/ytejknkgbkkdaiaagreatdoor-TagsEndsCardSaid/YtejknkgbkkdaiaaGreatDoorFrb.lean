/-
  TagsFresh: tags in a row; the mark of a table's tag.
-/
import Derived.Great.BuildSlice
import Derived.Test.YtejknkgbkkdaiaaGreatDoorFra
import Derived.Shelf.Bytes.SlIndexWhole
import Derived.Shelf.LaysM
import Derived.Lib.SlBytesConst
namespace Go.Proofs.YtejknkgbkkdaiaaGreatDoor
open Go.RowKit
set_option linter.unusedVariables false
set_option linter.unusedSimpArgs false

/-- tags, one behind the other -/
def tagL (s : Nat → Nat → BitVec 8) : Nat → List Value
  | 0 => []
  | n + 1 => tagL s n ++ tagC (s n)
theorem tagL_len (s : Nat → Nat → BitVec 8) : ∀ n, (tagL s n).length = n * 32
  | 0 => rfl
  | n + 1 => by unfold tagL; rw [List.length_append, tagL_len s n, tagC_len]; omega
theorem tagL_at (s : Nat → Nat → BitVec 8) : ∀ n i j, i < n → j < 32 → (tagL s n)[i * 32 + j]? = (tagC (s i))[j]?
  | 0, i, j, h, _ => absurd h (Nat.not_lt_zero _)
  | n + 1, i, j, h, hj => by
    unfold tagL
    by_cases e : i = n
    · subst e
      rw [List.getElem?_append_right (by rw [tagL_len]; omega), tagL_len, Nat.add_sub_cancel_left]
    · rw [List.getElem?_append_left (by rw [tagL_len]; omega)]
      exact tagL_at s n i j (by omega) hj
theorem own_tag {W : World} {base n : Nat} {s : Nat → Nat → BitVec 8} {sv : Value} (h : W.ownsRow base 25 32 sv n (tagL s n)) (hn : 0 < n) : ∃ g cap, sv = .slice (some ⟨g, 0, none⟩) n cap ∧ base ≤ g ∧ ∀ i, i < n → W.rangeAt g (i * 32) (tagC (s i)) := by
  rcases h.2 with ⟨_, h0⟩ | ⟨g, cap, cur, rfl, hb, hg, _, _, _, _⟩
  · omega
  · refine ⟨g, cap, rfl, hb, fun i hi j v hv => ?_⟩
    have hj : j < 32 := by have := (List.getElem?_eq_some_iff.1 hv).1; rwa [tagC_len] at this
    have := h.cells (g := g) rfl (i * 32 + j) v (by rw [tagL_at s n i j hi hj]; exact hv)
    rw [Go.WideShapes.add_plain, Nat.zero_add] at this
    exact this
theorem infoTagZ : ((Tryz.prog.info? 25).bind (·.zero)).map (·.cells.size) = some 32 := by kernel_rfl
theorem infoTagB : (Tryz.prog.info? 25).map (·.bytes) = some 32 := by kernel_rfl
theorem infoTagAll : ∃ ie, Tryz.prog.info? 25 = some ie ∧ (∃ z, ie.zero = some z ∧ z.cells.size = 32) ∧ ie.size = 32 ∧ ie.bytes = 32 := by
  cases hie : Tryz.prog.info? 25 with
  | none => have := infoTag; rw [hie] at this; cases this
  | some ie =>
    have h1 := infoTag
    have h2 := infoTagZ
    have h3 := infoTagB
    simp only [hie, Option.map_some, Option.some.injEq, Option.bind_some] at h1 h2 h3
    obtain ⟨z, hz, hs⟩ := Option.map_eq_some_iff.1 h2
    exact ⟨ie, rfl, ⟨z, hz, hs⟩, h1, h3⟩
/-- a row of one tag is laid -/
theorem wp_sliceT {o : Oper} {a : Act} {w : World} {K : Act → World → Prop} {Q : Exit → Act → World → Prop} (v : Operand) (ho : o.op = .buildSlice 48 1 #[(0, v)])
    (X : Array Value) (hX : X.size = 32) (hv : a.eval v = .agg X)
    (h : K (a.put o.dst (.slice (some ⟨w.heap.size, 0, none⟩) 1 1)) (w.alloc (.cells X 25))) : o.wp Tryz.prog a w K Q := by
  obtain ⟨ie, hie, ⟨z, hzz, hzs⟩, hsz, _⟩ := infoTagAll
  refine wp_buildSlice 48 25 1 #[(0, v)] ho _ ie z Tryz.underlying48 hie hzz (by rw [hsz]; omega) (by rw [hsz]; omega) ?_ h
  have hf := Great.fill_whole (s := 32) (by omega) ([X].map Value.agg) ((Array.range (1 * 32)).map (z.cells[· % z.cells.size]!)) (fun v hv => by obtain ⟨Y, hy, rfl⟩ := List.mem_map.1 hv; rw [List.mem_singleton.1 hy]; exact hX) (by simp)
  rw [Array.toList_map, hsz]
  simp only [List.map_cons, List.map_nil, hv]
  rw [show ([(0, Value.agg X)] : List (Nat × Value)) = (([X].map Value.agg).zipIdx 0).map fun x => (x.2, x.1) from rfl, hf]
  simp
  rfl
def mk_lays_ren : Go.Shelf.Ren := ⟨fun | 186 => 35 | 185 => 51 | 187 => 70 | 115 => 71 | 253 => 72 | 224 => 73 | 254 => 74 | 255 => 90 | 291 => 91 | n => n, fun | 37 => 22 | 4 => 4 | 3 => 3 | 0 => 0 | 5 => 5 | 46 => 73 | 9 => 9 | 146 => 120 | 51 => 96 | n => n, fun | 1 => 0 | n => n⟩
theorem mk_lays : Go.Proofs.LaysM.n186 Tryz.prog mk_lays_ren := {
  mixed := by kernel_rfl
  f115 := Tryz.func71.trans (congrArg some (by kernel_rfl))
  f185 := Tryz.func51.trans (congrArg some (by kernel_rfl))
  f186 := Tryz.func35.trans (congrArg some (by kernel_rfl))
  f187 := Tryz.func70.trans (congrArg some (by kernel_rfl))
  f224 := Tryz.func73.trans (congrArg some (by kernel_rfl))
  f253 := Tryz.func72.trans (congrArg some (by kernel_rfl))
  f254 := Tryz.func74.trans (congrArg some (by kernel_rfl))
  f255 := Tryz.func90.trans (congrArg some (by kernel_rfl))
  f291 := Tryz.func91.trans (congrArg some (by kernel_rfl))
  t0 := Tryz.underlying0
  a0 := Tryz.isAgg0
  z0 := Tryz.sizeOf0
  v0 := Tryz.zeroValue0
  t3 := Tryz.underlying3
  a3 := Tryz.isAgg3
  z3 := Tryz.sizeOf3
  v3 := Tryz.zeroValue3
  t4 := Tryz.underlying4
  a4 := Tryz.isAgg4
  z4 := Tryz.sizeOf4
  v4 := Tryz.zeroValue4
  t5 := Tryz.underlying5
  a5 := Tryz.isAgg5
  z5 := Tryz.sizeOf5
  v5 := Tryz.zeroValue5
  t9 := Tryz.underlying9
  a9 := Tryz.isAgg9
  z9 := Tryz.sizeOf9
  v9 := Tryz.zeroValue9
  t37 := Tryz.underlying22
  a37 := Tryz.isAgg22
  z37 := Tryz.sizeOf22
  v37 := Tryz.zeroValue22
  t46 := Tryz.underlying73
  a46 := Tryz.isAgg73
  z46 := Tryz.sizeOf73
  v46 := Tryz.zeroValue73
  t51 := Tryz.underlying96
  a51 := Tryz.isAgg96
  z51 := Tryz.sizeOf96
  v51 := Tryz.zeroValue96
  t146 := Tryz.underlying120
  a146 := Tryz.isAgg120
  z146 := Tryz.sizeOf120
  v146 := Tryz.zeroValue120
  g1 := by kernel_rfl
  i0 := by kernel_rfl
  i3 := by kernel_rfl
  i4 := by kernel_rfl
  i5 := by kernel_rfl
  i9 := by kernel_rfl
  i37 := by kernel_rfl
  i46 := by kernel_rfl
  i51 := by kernel_rfl
  i146 := by kernel_rfl
  m1 := by kernel_rfl
  s1_3 := fun w h => Go.Proofs.cell_of_shapedOpen_int (zero := #[.int .i64 0]) (t := 3) h (of_decide_eq_true (by kernel_rfl)) (by kernel_rfl) rfl (by kernel_rfl) (by kernel_rfl) Tryz.underlying3 }
theorem mark_bytes (n : Nat) : Lib.contains (Lib.bytesOf ((List.range 32).map fun i => ub (numT n i))) [122, 117, 103, 122, 119, 97, 110, 103] = true := by
  have h : Lib.bytesOf ((List.range 32).map fun i => ub (numT n i)) = [122, 117, 103, 122, 119, 97, 110, 103] ++ Lib.bytesOf ((List.range 24).map fun i => ub (numT n (8 + i))) := by rfl
  rw [h]
  unfold Lib.contains
  rw [Lib.index_first (i := 0) (Nat.zero_le _) (by simp [Lib.occAt]) (fun _ h => absurd h (Nat.not_lt_zero _))]
  rfl
theorem below_drewN {B : Nat} {a w : World} (h : Below B a w) (q : Nat) : Below B a (w.drewN q) := ⟨h.os, h.tape, h.output, h.size, h.block⟩
theorem ub_range (x : BitVec 8) : 0 ≤ ub x ∧ ub x < 256 := by unfold ub; have := x.isLt; omega
set_option maxHeartbeats 1000000 in
theorem tmark_any (T n : Nat) (mx : Int) (w : World) (h : BT w T 32 (numT n)) (hm : w.cell? ⟨mk_lays_ren.g 1, 0, none⟩ = some (.int .i64 mx)) :
    Calls Tryz.prog 17 #[.slice (some ⟨T, 0, none⟩) 32 32] w fun e w' => e = .returned (.bool true) ∧ Below w.heap.size w w' := by
  have kc := fun (w : World) (C : Array Value) (n c : Nat) => Lib.run_convert_bytes_const (P := Tryz.prog) w 22 5 C n c Tryz.underlying22 Tryz.underlying5
  have hcon := Any.bytes_Contains_at { mk_lays with } ⟨T, 0, none⟩ ⟨w.heap.size, 0, none⟩ 32 32 8 8 ((List.range 32).map fun i => ub (numT n i)) [122, 117, 103, 122, 119, 97, 110, 103] mx (w.alloc (.cells #[.int .u8 122, .int .u8 117, .int .u8 103, .int .u8 122, .int .u8 119, .int .u8 97, .int .u8 110, .int .u8 103] 5 (8, 9))) (by simp) rfl (by intro x hx; obtain ⟨i, _, rfl⟩ := List.mem_map.1 hx; exact ub_range _) (by decide)
    (fun i hi => by
      rw [Go.WideShapes.add_plain, Nat.zero_add, show ((List.range 32).map fun i => ub (numT n i)).getD i 0 = ub (numT n i) from by simp [hi]]
      exact Lib.cell?_alloc_marked _ (h.byte i hi))
    (fun i hi => by
      have : i = 0 ∨ i = 1 ∨ i = 2 ∨ i = 3 ∨ i = 4 ∨ i = 5 ∨ i = 6 ∨ i = 7 := by omega
      rw [Go.WideShapes.add_plain, Nat.zero_add, World.cell?_alloc_mark]
      rcases this with rfl | rfl | rfl | rfl | rfl | rfl | rfl | rfl <;> rfl)
    (by omega) (by omega) (by omega) (Lib.cell?_alloc_marked _ hm)
  rw [show Lib.bytesOf [122, 117, 103, 122, 119, 97, 110, 103] = [122, 117, 103, 122, 119, 97, 110, 103] from by decide, mark_bytes] at hcon
  clear h hm
  go_enter Tryz.func17, Tryz.ntmps17
  go_wp2_with fail
  refine hcon.mono ?_
  rintro e w' ⟨rfl, q, rfl⟩
  go_wp2
  go_ret
  exact ⟨rfl, below_drewN ((Below.refl _ w).alloc (Nat.le_refl _) _) q⟩
end Go.Proofs.YtejknkgbkkdaiaaGreatDoor
