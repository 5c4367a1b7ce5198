/-
  The begin: what is laid, and how it is laid.
-/
import Derived.Test.YtldepimkbnodpaaDoorG7
import Derived.Test.YtldepimkbnodpaaDoorBq
namespace Go.Proofs.YtldepimkbnodpaaDoor
open Go.RowKit Go.Sort
set_option linter.unusedSimpArgs false
set_option linter.unusedVariables false

/-- what the package's variables hold -/
def offN (i : Nat) : Int := [4, 2, 3, 5, 6, 3, 2, 4].getD i 0
/-- a position is laid into a block of its own, in a region that does not draw -/
theorem wpList_new {ops : Array Oper} {rest : List Oper} {d : Tmp} {y : Operand} {t1 t2 : TypeId} {p1 p2 : String} {e1 e2 : Array Edge} {a : Act} {w : World} {Q : Exit → Act → World → Prop}
    (E : Array Value) (P : Nat → Int) (hE : E = (pc P).toArray) (hx : (a.put (some d) (.pointer (some ⟨w.heap.size, 0, none⟩))).eval (.tmp d) = .pointer (some ⟨w.heap.size, 0, none⟩)) (hy : (a.put (some d) (.pointer (some ⟨w.heap.size, 0, none⟩))).eval y = .agg E)
    (k : ∀ W, PB W w.heap.size P → Below w.heap.size w W → W.heap.size = w.heap.size + 1 → wpList Tryd.prog ops Q rest (a.put (some d) (.pointer (some ⟨w.heap.size, 0, none⟩))) W) :
    wpList Tryd.prog ops Q ({ dst := some d, op := .alloc 29, type := t1, pos := p1, after := e1, guard := none } :: { dst := none, op := .store 29 (.tmp d) y, type := t2, pos := p2, after := e2, guard := none } :: rest) a w := by
  subst hE
  refine wpList_plain rfl (fun K hK => ?_)
  go_simp
  refine hK _ _ ?_
  clear hK K
  have hpn : PB (w.alloc (.cells Tryd.zeroCells29 29)) w.heap.size (fun _ => 0) := by rw [zeroPos]; exact PB.new rfl
  refine wpList_store_mid rfl 29 _ _ rfl w.heap.size 0 (pc P).toArray hx hy (by rw [pc_size]; exact hpn.there) (by rw [infoPos, pc_size]) (pc_one P) ?_
  rw [List.toList_toArray]
  exact k _ (hpn.store (Q := P)) (below_store (b := w.heap.size) P (below_new _) (Nat.le_refl _) (by simp)) (by rw [sizes_B]; simp)
def emptyN (i : Nat) : Int := if i = 130 then -1 else if i = 132 then 1 else 0
theorem empty_built : (Tryd.zeroCells29.setIfInBounds 130 (.int .i64 (-1))).setIfInBounds 132 (.int .i64 1) = (pc emptyN).toArray := by kernel_rfl
set_option maxHeartbeats 2000000 in
set_option maxRecDepth 100000 in
theorem rEmpty_any (w : World) :
    Calls Tryd.prog 14 #[] w fun e w' => e = .returned (.agg (pc emptyN).toArray) ∧ Below w.heap.size w w' := by
  obtain ⟨Y, hY⟩ : ∃ Y, Y = (pc emptyN).toArray := ⟨_, rfl⟩
  rw [← hY]
  have HY := Lib.hid hY
  have hy := empty_built
  rw [← hY] at hy
  have hsz : Y.size = 133 := by rw [hY, pc_size]
  clear hY
  go_enter Tryd.func14, Tryd.ntmps14
  go_upto_region 1 with (fail)
  refine wp_region_lit ?_
  refine wpList_plain rfl (fun K hK => ?_)
  go_simp
  refine hK _ _ ?_
  clear hK K hy
  have hpn : PB (w.alloc (.cells Tryd.zeroCells29 29)) w.heap.size (fun _ => 0) := by rw [zeroPos]; exact PB.new rfl
  refine wpList_store_mid rfl 29 _ _ rfl w.heap.size 0 Y rfl rfl (by rw [hsz]; exact hpn.there) (by rw [infoPos, hsz]) (by rw [HY.out]; exact pc_one _) ?_
  refine forgetL_B (fun W => PB W w.heap.size emptyN ∧ Below w.heap.size w W) (by
    rw [HY.out, List.toList_toArray]
    exact ⟨hpn.store (Q := emptyN), below_store (b := w.heap.size) emptyN (below_new _) (Nat.le_refl _) (by simp)⟩) ?_
  rintro W ⟨hp, hb⟩
  have HP := Lib.hid hp
  have HB := Lib.hid hb
  clear hp hb hpn hsz
  show Exit.then _ _ Exit.normal _ _
  refine ret_go (by assumption) ?_
  refine bodyPost_ret (v := .agg (pc emptyN).toArray) ?_ rfl ⟨by rw [HY.out], HB.out⟩
  exact results_cell_mid (p := 0) (ty := 29) rfl _ W w.heap.size _ _ rfl HP.out.range Tryd.underlying29 rfl (by rw [infoPos, pc_len])
def startN (i : Nat) : Int :=
  if i < 128 then (if i % 2 = 0 then (if i / 2 < 8 then offN (i / 2) else if i / 2 < 16 then 1 else if i / 2 < 48 then 0 else if i / 2 < 56 then 1 else offN (i / 2 - 56)) else if i / 2 < 48 then 0 else 1)
  else if i = 129 then 15 else if i = 130 then -1 else if i = 132 then 1 else 0
def mixS (j i : Nat) : Int := if i < 128 ∧ i / 2 % 8 < j then startN i else emptyN i
theorem mixS_zero : ∀ i, i < 133 → emptyN i = mixS 0 i := fun i _ => by unfold mixS; rw [if_neg (by omega)]
theorem mixS_step : ∀ j, j < 8 → ∀ i, i < 133 → setN (setN (setN (setN (setN (setN (setN (setN (mixS j) (j * 2) (offN j)) (j * 2 + 1) 0) ((8 + j) * 2) 1) ((8 + j) * 2 + 1) 0) ((48 + j) * 2) 1) ((48 + j) * 2 + 1) 1) ((56 + j) * 2) (offN j)) ((56 + j) * 2 + 1) 1 i = mixS (j + 1) i := by decide +kernel
theorem mixS_end : ∀ i, i < 133 → setN (mixS 8) 129 15 i = startN i := by decide +kernel
theorem at_file (j r : Nat) (hj : j < 8) (hr : r < 8) : sAt (j : Int) (r : Int) = ((8 * r + j : Nat) : Int) := by
  unfold sAt; rw [if_pos ((onB_iff _ _).2 (by omega))]; omega
/-- what stands while the begin is laid: the answer's place, the position -/
structure PS (w W : World) (blk : Nat) (P : Nat → Int) : Prop where
  z : PB W w.heap.size (fun _ => 0)
  p : PB W blk P
  b : Below w.heap.size w W
  n : w.heap.size < blk
theorem PS.go {w W W' : World} {b : Nat} {P : Nat → Int} (h : PS w W b P) (g : Below W.heap.size W W') : PS w W' b P := ⟨h.z.go g, h.p.go g, h.b.trans (g.mono h.b.size), h.n⟩
theorem PS.set {w W : World} {b : Nat} {P : Nat → Int} (h : PS w W b P) (i : Nat) (x : Int) (hi : i < 133) : PS w (W.setCell ⟨b, i, none⟩ (.int .i64 x)) b (setN P i x) :=
  ⟨h.z.other (by have := h.n; omega) _ _, h.p.set i x hi, h.b.setCell (p := ⟨b, i, none⟩) (by have := h.n; simp; omega) _, h.n⟩
theorem PS.congr {w W : World} {b : Nat} {P Q : Nat → Int} (h : PS w W b P) (e : ∀ i, i < 133 → P i = Q i) : PS w W b Q := ⟨h.z, h.p.congr e, h.b, h.n⟩
end Go.Proofs.YtldepimkbnodpaaDoor
