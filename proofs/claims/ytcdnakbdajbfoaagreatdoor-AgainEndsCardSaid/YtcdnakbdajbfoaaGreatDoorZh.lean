/-
  AgainEnds: the positions that are written by hand.
-/
import Derived.Test.YtcdnakbdajbfoaaGreatDoorZg
import Derived.Test.YtcdnakbdajbfoaaGreatDoorVa
namespace Go.Proofs.YtcdnakbdajbfoaaGreatDoor
open Go.RowKit Go.Sort Go.Maps
set_option linter.unusedSimpArgs false
set_option linter.unusedVariables false
set_option maxRecDepth 20000

def eP0 : Nat → Int := setN (ptN (ptN (ptN (ptN emptyN 4 6 0) 63 6 1) 36 1 0) 35 1 1) 130 43
def lG : Nat → Int :=
  ptR (setN (setN (ptR (ptR (ptR (setN (fun j => eP0 (j % 133)) 263 (-1)) 386 4 1) 403 4 1) 604 2 0) 797 9) 926 1) 1017 3 0
where ptR (P : Nat → Int) (o : Nat) (k d : Int) : Nat → Int := setN (setN P o k) (o + 1) d
def lq (i : Nat) : Nat → Int := fun j => lG (i * 133 + j)
def exN (i : Nat) : Int := [43, -1, -1, -1, -1, 43, -1, -1].getD i 0
theorem lq_in : ∀ i, i < 8 → ∀ j, j < 133 → -9223372036854775808 ≤ lq i j ∧ lq i j ≤ 9223372036854775807 := by decide +kernel
def tkF (P : Nat → Int) : Int := if P 130 = -1 then -1 else if (if posB P then legF P else []).any (fun m => ovrB P m.1.toNat m.2.1.toNat) then P 130 else -1
theorem tkF_is (P : Nat → Int) : tkO P = tkF P := by unfold tkO tkF lmM; rw [legF_is]
set_option maxHeartbeats 16000000 in
theorem lq_tkF : ∀ i, i < 8 → tkF (lq i) = exN i := by decide +kernel
theorem lq_tk (i : Nat) (hi : i < 8) : tkO (lq i) = exN i := (tkF_is _).trans (lq_tkF i hi)
set_option maxHeartbeats 16000000 in
theorem lq_ovF : tkF (uncN (lq 5)) = exN 5 := by decide +kernel
theorem unc_self {P : Nat → Int} (h1 : P 131 = 0) (h2 : P 132 = 1) : uncN P = P := by
  funext j
  unfold uncN setN
  split
  · subst_vars; exact h2.symm
  · split
    · subst_vars; exact h1.symm
    · rfl
theorem lq_half : ∀ i, i < 8 → lq i 131 = 0 ∧ (i ≠ 5 → lq i 132 = 1) := by decide +kernel
theorem lq_ov (i : Nat) (hi : i < 8) : ovU (lq i) = tkO (lq i) := by
  unfold ovU
  by_cases h : i = 5
  · subst h; rw [lq_tk 5 hi, tkF_is, lq_ovF]
  · rw [unc_self (lq_half i hi).1 ((lq_half i hi).2 h)]
theorem tk_none {P : Nat → Int} (h : P 130 = -1) : tkO P = -1 := by unfold tkO; rw [if_pos h]
theorem ov_none {P : Nat → Int} (h : P 130 = -1) : ovU P = tkO P := by
  rw [tk_none h]
  exact tk_none (by rw [unc_off P 130 (by omega) (by omega)]; exact h)
def lx (i : Nat) : Nat → Int := setN (lq i) 130 (-1)
theorem lx_over (i : Nat) : lx i 130 = -1 := by unfold lx setN; rw [if_pos rfl]
theorem lx_in (i : Nat) (hi : i < 8) : InW (lx i) := fun j hj => by
  unfold lx setN
  split
  · omega
  · exact lq_in i hi j hj
theorem start_in : InW startN := kn_in (i := 0) (by omega)
def sC (c : Int) : Nat → Int := setN startN 129 c
theorem start_over : startN 130 = -1 := by decide +kernel
theorem start_cas : startN 129 = 15 := by decide +kernel
theorem sC_over (c : Int) : sC c 130 = -1 := by unfold sC setN; rw [if_neg (by omega)]; exact start_over
theorem sC_in (c : Int) (h1 : -1 ≤ c) (h2 : c ≤ 16) : InW (sC c) := fun j hj => by
  unfold sC setN
  split
  · omega
  · exact start_in j hj
theorem sC_same (c : Int) : c = 15 ↔ samB (sC c) startN = true := by
  rw [samB_iff, ov_none (sC_over c), tk_none (sC_over c), ov_none start_over, tk_none start_over]
  constructor
  · intro h
    subst h
    refine ⟨fun j hj => ?_, rfl⟩
    unfold sC setN
    split
    · subst_vars; exact start_cas.symm
    · rfl
  · rintro ⟨h, _⟩
    have := h 129 (by omega)
    unfold sC setN at this
    rw [if_pos rfl, start_cas] at this
    exact this
structure RG (lb : Nat) (G : Nat → Int) (w W : World) : Prop where
  lt : lb < W.heap.size
  cell : ∀ j, j < 1064 → W.cell? ⟨lb, j, none⟩ = some (.int .i64 (G j))
  fr : ∀ j, W.frozen? ⟨lb, j, none⟩ = false
  hb : w.heap.size ≤ lb
  bl : Below w.heap.size w W
section
variable {lb b : Nat} {G P : Nat → Int} {w W W' : World}
theorem RG.go (h : RG lb G w W) (g : Below W.heap.size W W') : RG lb G w W' :=
  ⟨Nat.lt_of_lt_of_le h.lt g.size, fun j hj => (g.cell (p := ⟨lb, j, none⟩) h.lt).trans (h.cell j hj), fun j => (g.frozen (p := ⟨lb, j, none⟩) h.lt).trans (h.fr j), h.hb, h.bl.trans (g.mono h.bl.size)⟩
theorem RG.set (h : RG lb G w W) (i : Nat) (x : Int) : RG lb (setN G i x) w (W.setCell ⟨lb, i, none⟩ (.int .i64 x)) :=
  ⟨by rw [World.size_setCell]; exact h.lt, fun j hj => by
    unfold setN
    by_cases e : j = i
    · subst e; rw [if_pos rfl, World.cell?_setCell_same _ _ _ (h.cell j hj)]
    · rw [if_neg e, World.cell?_setCell_other _ _ _ _ (by intro hh; injection hh with _ h2; omega)]; exact h.cell j hj, fun j => by rw [World.frozen?_setCell]; exact h.fr j, h.hb, h.bl.setCell (p := ⟨lb, i, none⟩) h.hb _⟩
theorem RG.pt (h : RG lb G w W) (o : Nat) (k d : Int) : RG lb (lG.ptR G o k d) w ((W.setCell ⟨lb, o, none⟩ (.int .i64 k)).setCell ⟨lb, o + 1, none⟩ (.int .i64 d)) := (h.set o k).set (o + 1) d
theorem RG.other (h : RG lb G w W) (i : Nat) (v : Value) (hb : w.heap.size ≤ b) (hne : b ≠ lb) : RG lb G w (W.setCell ⟨b, i, none⟩ v) :=
  ⟨by rw [World.size_setCell]; exact h.lt, fun j hj => by rw [World.cell?_setCell_other _ _ _ _ (by intro hh; injection hh with h2 _; exact hne h2)]; exact h.cell j hj, fun j => by rw [World.frozen?_setCell]; exact h.fr j, h.hb, h.bl.setCell (p := ⟨b, i, none⟩) hb _⟩
theorem RG.at {lb : Nat} {w W : World} (h : RG lb lG w W) (i : Nat) (hi : i < 8) : W.rangeAt lb (i * 133) (pc (lq i)) := fun j v hv => by
  have hj : j < 133 := by have := (List.getElem?_eq_some_iff.1 hv).1; rwa [pc_len] at this
  rw [pc_get _ _ hj] at hv
  rw [h.cell (i * 133 + j) (by omega), ← hv]
  rfl
theorem RG.reads {lb : Nat} {w W : World} (h : RG lb lG w W) : ReadsP W.heap.size W (some ⟨lb, 0, none⟩) 8 lq := .inr ⟨lb, 0, rfl, h.lt, fun i hi => by rw [Nat.zero_add]; exact h.at i hi⟩
theorem RG.of {lb : Nat} {w W : World} (hr : ∀ i, i < 8 → W.rangeAt lb (i * 133) (pc eP0)) (fr : ∀ j, W.frozen? ⟨lb, j, none⟩ = false) (hl : lb < W.heap.size) (hb : w.heap.size ≤ lb) (bl : Below w.heap.size w W) : RG lb (fun j => eP0 (j % 133)) w W :=
  ⟨hl, fun j hj => by
    have := hr (j / 133) (by omega) (j % 133) _ (pc_get eP0 (j % 133) (by omega))
    rwa [show j / 133 * 133 + j % 133 = j by omega] at this, fr, hb, bl⟩
structure PZ (b : Nat) (P : Nat → Int) (w W : World) : Prop where
  p : PB W b P
  hb : w.heap.size ≤ b
  bl : Below w.heap.size w W
theorem PZ.go (h : PZ b P w W) (g : Below W.heap.size W W') : PZ b P w W' := ⟨h.p.go g, h.hb, h.bl.trans (g.mono h.bl.size)⟩
theorem PZ.set (h : PZ b P w W) (i : Nat) (x : Int) (hi : i < 133) : PZ b (setN P i x) w (W.setCell ⟨b, i, none⟩ (.int .i64 x)) := ⟨h.p.set i x hi, h.hb, h.bl.setCell (p := ⟨b, i, none⟩) h.hb _⟩
theorem PZ.pt (h : PZ b P w W) (m : Nat) (k d : Int) (hm : m < 64) : PZ b (ptN P m k d) w ((W.setCell ⟨b, m * 2, none⟩ (.int .i64 k)).setCell ⟨b, m * 2 + 1, none⟩ (.int .i64 d)) := by
  have := (h.set (m * 2) k (by omega)).set (m * 2 + 1) d (by omega)
  unfold ptN
  rwa [Nat.mul_comm 2 m]
end
theorem ex_row12 (W : World) (ty : TypeId) (i : Nat) (hi : i < 8) : (W.alloc (.cells #[.int .i64 43, .int .i64 (-1), .int .i64 (-1), .int .i64 (-1), .int .i64 (-1), .int .i64 43, .int .i64 (-1), .int .i64 (-1)] ty)).cell? ⟨W.heap.size, i, none⟩ = some (.int .i64 (exN i)) := by
  rw [cell_of_row _ _ i _ _ (0, 0) (sl_at rfl)]
  rcases (show i = 0 ∨ i = 1 ∨ i = 2 ∨ i = 3 ∨ i = 4 ∨ i = 5 ∨ i = 6 ∨ i = 7 by omega) with rfl | rfl | rfl | rfl | rfl | rfl | rfl | rfl <;> rfl
theorem wpList_sliceP {ops : Array Oper} {rest : List Oper} {o : Oper} {a : Act} {w : World} {Q : Exit → Act → World → Prop} (hw : Region.wanted o (yielded ops a.tmps) = true) (len : Nat) (parts : Array (Nat × Operand)) (ho : o.op = .buildSlice 22 len parts)
    (Xs : List (Array Value)) (Ps : Nat → Nat → Int) (hX : Xs = (List.range len).map fun i => (pc (Ps i)).toArray) (hpos : 0 < len) (hle : len ≤ 1000)
    (hparts : (parts.toList.map fun x => (x.1, a.eval x.2)) = ((Xs.map Value.agg).zipIdx 0).map fun x => (x.2, x.1))
    (k : ∀ W nb, ReadsP W.heap.size W (some ⟨nb, 0, none⟩) len Ps → Below w.heap.size w W → wpList Tryz.prog ops Q rest (a.put o.dst (.slice (some ⟨nb, 0, none⟩) len len)) W) : wpList Tryz.prog ops Q (o :: rest) a w :=
  BigFrame.wpList_want hw fun _ hK => wp_sliceP len parts ho Xs (fun X hx => by
    rw [hX] at hx
    obtain ⟨i, _, rfl⟩ := List.mem_map.1 hx
    exact pc_size _) (by rw [hX]; simp) hpos hle hparts (hK _ _ (k _ _ (readsP_row hX (sl_at rfl)) (below_new _)))
end Go.Proofs.YtcdnakbdajbfoaaGreatDoor
