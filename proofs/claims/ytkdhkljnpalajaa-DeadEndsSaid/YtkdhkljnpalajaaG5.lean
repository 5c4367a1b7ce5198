/-
  Merged: Bj, Bk, Bl, Bm, Bn, Bo, Bp, Br, Bs, Ba.
-/
import Derived.Test.YtkdhkljnpalajaaBi
import Derived.Test.YtkdhkljnpalajaaG4

namespace Go.Proofs.Ytkdhkljnpalajaa
open Go.RowKit Go.Sort
set_option linter.unusedSimpArgs false
set_option linter.unusedVariables false

end Go.Proofs.Ytkdhkljnpalajaa

namespace Go.Proofs.Ytkdhkljnpalajaa
open Go.RowKit Go.Sort
set_option linter.unusedSimpArgs false
set_option linter.unusedVariables false

end Go.Proofs.Ytkdhkljnpalajaa

namespace Go.Proofs.Ytkdhkljnpalajaa
open Go.RowKit Go.Sort
set_option linter.unusedSimpArgs false
set_option linter.unusedVariables false

end Go.Proofs.Ytkdhkljnpalajaa

namespace Go.Proofs.Ytkdhkljnpalajaa
open Go.RowKit Go.Sort
set_option linter.unusedSimpArgs false
set_option linter.unusedVariables false

end Go.Proofs.Ytkdhkljnpalajaa

namespace Go.Proofs.Ytkdhkljnpalajaa
open Go.RowKit Go.Sort
set_option linter.unusedSimpArgs false
set_option linter.unusedVariables false

/-- a whole position is loaded, in a region that does not draw -/
theorem wpList_pos {ops : Array Oper} {rest : List Oper} {op : Oper} {a : Act} {w : World} {Q : Exit → Act → World → Prop} (hw : Region.wanted op (yielded ops a.tmps) = true) (x : Operand) (ho : op.op = .load 29 x)
    (b : Nat) (P : Nat → Int) (X : Array Value) (hX : X = (pc P).toArray) (hx : a.eval x = .pointer (some ⟨b, 0, none⟩)) (hc : PB w b P) (h : wpList Try.prog ops Q rest (a.put op.dst (.agg X)) w) : wpList Try.prog ops Q (op :: rest) a w := by
  subst hX
  exact BigFrame.wpList_want hw fun _ hK => wp_load_mid 29 x ho b 0 hx (pc P) _ hc.range Try.underlying29 rfl (by rw [infoPos, pc_len]) (hK _ _ h)
end Go.Proofs.Ytkdhkljnpalajaa

namespace Go.Proofs.Ytkdhkljnpalajaa
open Go.RowKit Go.Sort
set_option linter.unusedSimpArgs false
set_option linter.unusedVariables false

end Go.Proofs.Ytkdhkljnpalajaa

namespace Go.Proofs.Ytkdhkljnpalajaa
open Go.RowKit Go.Sort
set_option linter.unusedSimpArgs false
set_option linter.unusedVariables false

end Go.Proofs.Ytkdhkljnpalajaa

namespace Go.Proofs.Ytkdhkljnpalajaa
open Go.RowKit Go.Sort
set_option linter.unusedSimpArgs false
set_option linter.unusedVariables false

theorem row4 {W : World} {H : Nat} {a b c d : Value} {t : TypeId} (h : W.heap[H]? = some (.cells #[a, b, c, d] t (0, 0))) :
    W.cell? ⟨H, 1, none⟩ = some b ∧ W.cell? ⟨H, 2, none⟩ = some c ∧ W.cell? ⟨H, 3, none⟩ = some d :=
  ⟨by rw [cell_of_row W H 1 _ _ (0, 0) h]; rfl, by rw [cell_of_row W H 2 _ _ (0, 0) h]; rfl, by rw [cell_of_row W H 3 _ _ (0, 0) h]; rfl⟩
end Go.Proofs.Ytkdhkljnpalajaa

namespace Go.Proofs.Ytkdhkljnpalajaa
open Go.RowKit Go.Sort
set_option linter.unusedSimpArgs false
set_option linter.unusedVariables false

/-- the squares of a position are loaded, in a region that does not draw -/
theorem wpList_sqs {ops : Array Oper} {rest : List Oper} {op : Oper} {a : Act} {w : World} {Q : Exit → Act → World → Prop} (hw : Region.wanted op (yielded ops a.tmps) = true) (x : Operand) (ho : op.op = .load 26 x)
    (b : Nat) (P : Nat → Int) (Z : Array Value) (hZ : Z = (nums P 0 128).toArray) (hx : a.eval x = .pointer (some ⟨b, 0, none⟩)) (hc : PB w b P) (h : wpList Try.prog ops Q rest (a.put op.dst (.agg Z)) w) : wpList Try.prog ops Q (op :: rest) a w := by
  subst hZ
  exact BigFrame.wpList_want hw fun _ hK => wp_load_mid 26 x ho b 0 hx (nums P 0 128) _ hc.squares Try.underlying26 rfl (by rw [infoSqs, nums_len]) (hK _ _ h)
end Go.Proofs.Ytkdhkljnpalajaa

namespace Go.Proofs.Ytkdhkljnpalajaa
open Go.RowKit Go.Sort
set_option linter.unusedSimpArgs false
set_option linter.unusedVariables false

/-- what the package's variables hold -/
def offN (i : Nat) : Int := [4, 2, 3, 5, 6, 3, 2, 4].getD i 0
/-- a position is laid into a block of its own, in a region that does not draw -/
theorem wpList_new {ops : Array Oper} {rest : List Oper} {d : Tmp} {y : Operand} {t1 t2 : TypeId} {p1 p2 : String} {e1 e2 : Array Edge} {a : Act} {w : World} {Q : Exit → Act → World → Prop}
    (E : Array Value) (P : Nat → Int) (hE : E = (pc P).toArray) (hx : (a.put (some d) (.pointer (some ⟨w.heap.size, 0, none⟩))).eval (.tmp d) = .pointer (some ⟨w.heap.size, 0, none⟩)) (hy : (a.put (some d) (.pointer (some ⟨w.heap.size, 0, none⟩))).eval y = .agg E)
    (k : ∀ W, PB W w.heap.size P → Below w.heap.size w W → W.heap.size = w.heap.size + 1 → wpList Try.prog ops Q rest (a.put (some d) (.pointer (some ⟨w.heap.size, 0, none⟩))) W) :
    wpList Try.prog ops Q ({ dst := some d, op := .alloc 29, type := t1, pos := p1, after := e1, guard := none } :: { dst := none, op := .store 29 (.tmp d) y, type := t2, pos := p2, after := e2, guard := none } :: rest) a w := by
  subst hE
  refine wpList_plain rfl (fun K hK => ?_)
  go_simp
  refine hK _ _ ?_
  clear hK K
  have hpn : PB (w.alloc (.cells Try.zeroCells29 29)) w.heap.size (fun _ => 0) := by rw [zeroPos]; exact PB.new rfl
  refine wpList_store_mid rfl 29 _ _ rfl w.heap.size 0 (pc P).toArray hx hy (by rw [pc_size]; exact hpn.there) (by rw [infoPos, pc_size]) (pc_one P) ?_
  rw [List.toList_toArray]
  exact k _ (hpn.store (Q := P)) (below_store (b := w.heap.size) P (below_new _) (Nat.le_refl _) (by simp)) (by rw [sizes_B]; simp)
def emptyN (i : Nat) : Int := if i = 130 then -1 else if i = 132 then 1 else 0
theorem empty_built : (Try.zeroCells29.setIfInBounds 130 (.int .i64 (-1))).setIfInBounds 132 (.int .i64 1) = (pc emptyN).toArray := by kernel_rfl
set_option maxHeartbeats 2000000 in
set_option maxRecDepth 100000 in
theorem rEmpty_any (w : World) :
    Calls Try.prog 22 #[] w fun e w' => e = .returned (.agg (pc emptyN).toArray) ∧ Below w.heap.size w w' := by
  obtain ⟨Y, hY⟩ : ∃ Y, Y = (pc emptyN).toArray := ⟨_, rfl⟩
  rw [← hY]
  have HY := Lib.hid hY
  have hy := empty_built
  rw [← hY] at hy
  have hsz : Y.size = 133 := by rw [hY, pc_size]
  clear hY
  go_enter Try.func22, Try.ntmps22
  go_upto_region 1 with (fail)
  refine wp_region_lit ?_
  refine wpList_plain rfl (fun K hK => ?_)
  go_simp
  refine hK _ _ ?_
  clear hK K hy
  have hpn : PB (w.alloc (.cells Try.zeroCells29 29)) w.heap.size (fun _ => 0) := by rw [zeroPos]; exact PB.new rfl
  refine wpList_store_mid rfl 29 _ _ rfl w.heap.size 0 Y rfl rfl (by rw [hsz]; exact hpn.there) (by rw [infoPos, hsz]) (by rw [HY.out]; exact pc_one _) ?_
  refine forgetL_B (fun W => PB W w.heap.size emptyN ∧ Below w.heap.size w W) (by
    rw [HY.out, List.toList_toArray]
    exact ⟨hpn.store (Q := emptyN), below_store (b := w.heap.size) emptyN (below_new _) (Nat.le_refl _) (by simp)⟩) ?_
  rintro W ⟨hp, hb⟩
  have HP := Lib.hid hp
  have HB := Lib.hid hb
  clear hp hb hpn hsz
  show Exit.then _ _ Exit.normal _ _
  refine ret_go (by assumption) ?_
  refine bodyPost_ret (v := .agg (pc emptyN).toArray) ?_ rfl ⟨by rw [HY.out], HB.out⟩
  exact results_cell_mid (p := 0) (ty := 29) rfl _ W w.heap.size _ _ rfl HP.out.range Try.underlying29 rfl (by rw [infoPos, pc_len])
def startN (i : Nat) : Int :=
  if i < 128 then (if i % 2 = 0 then (if i / 2 < 8 then offN (i / 2) else if i / 2 < 16 then 1 else if i / 2 < 48 then 0 else if i / 2 < 56 then 1 else offN (i / 2 - 56)) else if i / 2 < 48 then 0 else 1)
  else if i = 129 then 15 else if i = 130 then -1 else if i = 132 then 1 else 0
def mixS (j i : Nat) : Int := if i < 128 ∧ i / 2 % 8 < j then startN i else emptyN i
theorem mixS_zero : ∀ i, i < 133 → emptyN i = mixS 0 i := fun i _ => by unfold mixS; rw [if_neg (by omega)]
theorem mixS_step : ∀ j, j < 8 → ∀ i, i < 133 → setN (setN (setN (setN (setN (setN (setN (setN (mixS j) (j * 2) (offN j)) (j * 2 + 1) 0) ((8 + j) * 2) 1) ((8 + j) * 2 + 1) 0) ((48 + j) * 2) 1) ((48 + j) * 2 + 1) 1) ((56 + j) * 2) (offN j)) ((56 + j) * 2 + 1) 1 i = mixS (j + 1) i := by decide +kernel
theorem mixS_end : ∀ i, i < 133 → setN (mixS 8) 129 15 i = startN i := by decide +kernel
/-- what stands while the begin is laid: the answer's place, the position -/
structure PS (w W : World) (blk : Nat) (P : Nat → Int) : Prop where
  z : PB W w.heap.size (fun _ => 0)
  p : PB W blk P
  b : Below w.heap.size w W
  n : w.heap.size < blk
theorem PS.go {w W W' : World} {b : Nat} {P : Nat → Int} (h : PS w W b P) (g : Below W.heap.size W W') : PS w W' b P := ⟨h.z.go g, h.p.go g, h.b.trans (g.mono h.b.size), h.n⟩
theorem PS.set {w W : World} {b : Nat} {P : Nat → Int} (h : PS w W b P) (i : Nat) (x : Int) (hi : i < 133) : PS w (W.setCell ⟨b, i, none⟩ (.int .i64 x)) b (setN P i x) :=
  ⟨h.z.other (by have := h.n; omega) _ _, h.p.set i x hi, h.b.setCell (p := ⟨b, i, none⟩) (by have := h.n; simp; omega) _, h.n⟩
theorem PS.congr {w W : World} {b : Nat} {P Q : Nat → Int} (h : PS w W b P) (e : ∀ i, i < 133 → P i = Q i) : PS w W b Q := ⟨h.z, h.p.congr e, h.b, h.n⟩
end Go.Proofs.Ytkdhkljnpalajaa
