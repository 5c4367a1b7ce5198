/-
  A game of the program: what it is, where it lies.
-/
import Derived.Test.YtkncfeijlmomaaaGreatDoorG23
import Derived.Test.YtkncfeijlmomaaaGreatDoorKl
import Derived.Test.YtkncfeijlmomaaaGreatDoorG24
namespace Go.Proofs.YtkncfeijlmomaaaGreatDoor
open Go.RowKit Go.Sort Go.Maps
set_option linter.unusedSimpArgs false
set_option linter.unusedVariables false
set_option maxRecDepth 20000

/-- how a game stands at a position that has come n times, and why -/
def endR (Q : Nat → Int) (n : Nat) : Int := if ofR Q = 0 then (if deadB (cntJ Q 64) then 3 else if 5 ≤ n then 3 else if atB Q 150 then 3 else 0) else ofR Q
def endY (Q : Nat → Int) (n : Nat) : Int := if ofR Q = 0 then (if deadB (cntJ Q 64) then 3 else if 5 ≤ n then 4 else if atB Q 150 then 5 else 0) else ofY Q
/-- a game -/
structure Gm where
  gb : Nat
  b : Nat
  mb : Nat
  P : Nat → Int
  T : List (List UInt8)
  n : Nat
  mv : Value
  L : List (Int × Int × Int)
  r : Int
  y : Int
/-- its cells -/
def gmT (g : Gm) : List Value := [.pointer (some ⟨g.b, 0, none⟩), .int .i64 (g.n : Int), g.mv, .int .i64 g.r, .int .i64 g.y, .pointer (some ⟨g.gb, 0, none⟩)]
def gmP (g : Gm) : List Value := pc g.P ++ gmT g
theorem gmP_at (g : Gm) : (∀ i, i < 133 → (gmP g).toArray[i]? = some (.int .i64 (g.P i))) ∧ (gmP g).toArray[133]? = some (.pointer (some ⟨g.b, 0, none⟩)) ∧ (gmP g).toArray[134]? = some (.int .i64 (g.n : Int)) ∧ (gmP g).toArray[135]? = some g.mv ∧
    (gmP g).toArray[136]? = some (.int .i64 g.r) ∧ (gmP g).toArray[137]? = some (.int .i64 g.y) ∧ (gmP g).toArray[138]? = some (.pointer (some ⟨g.gb, 0, none⟩)) := by
  refine ⟨fun i hi => ?_, ?_, ?_, ?_, ?_, ?_, ?_⟩
  · unfold gmP
    rw [List.getElem?_toArray, List.getElem?_append_left (by rw [pc_len]; exact hi), pc_get _ _ hi]
  all_goals (unfold gmP; rw [List.getElem?_toArray, List.getElem?_append_right (by rw [pc_len]; omega), pc_len]; rfl)
theorem gmP_set (g : Gm) (n : Nat) (mv : Value) (r y : Int) :
    (gmP g).toArray.setIfInBounds 134 (.int .i64 (n : Int)) = (gmP { g with n := n }).toArray ∧ (gmP g).toArray.setIfInBounds 135 mv = (gmP { g with mv := mv }).toArray ∧
    (gmP g).toArray.setIfInBounds 136 (.int .i64 r) = (gmP { g with r := r }).toArray ∧ (gmP g).toArray.setIfInBounds 137 (.int .i64 y) = (gmP { g with y := y }).toArray := by
  unfold gmP
  refine ⟨?_, ?_, ?_, ?_⟩ <;> (rw [List.setIfInBounds_toArray, List.set_append_right _ _ (by rw [pc_len]; omega), pc_len]; rfl)
/-- of the old blocks, these alone may have turned -/
structure Ch (X : Nat → Prop) (w w' : World) : Prop where
  os : w'.os = w.os
  tape : w'.tape = w.tape
  output : w'.output = w.output
  size : w.heap.size ≤ w'.heap.size
  block : ∀ k, k < w.heap.size → ¬ X k → w'.heap[k]? = w.heap[k]?
section
variable {X Y : Nat → Prop} {w w' w'' : World}
theorem Ch.bel (g : Below w.heap.size w w') : Ch X w w' := ⟨g.os, g.tape, g.output, g.size, fun k hk _ => g.block k hk⟩
theorem Ch.gr {x : Nat} (g : w.grownBy w' (some x)) (hx : X x) : Ch X w w' := ⟨g.os, g.tape, g.output, g.size, fun k hk h => g.block k hk (fun e => h (by cases e; exact hx))⟩
theorem Ch.gro {o : Option Nat} (g : w.grownBy w' o) (hx : ∀ x, o = some x → X x) : Ch X w w' := ⟨g.os, g.tape, g.output, g.size, fun k hk h => g.block k hk (fun e => h (hx k e.symm))⟩
theorem Ch.two {b mb : Nat} (g : Two b mb w w') (h1 : X b) (h2 : X mb) : Ch X w w' := ⟨g.os, g.tape, g.output, g.size, fun k hk h => g.block k hk (fun e => h (e ▸ h1)) (fun e => h (e ▸ h2))⟩
theorem Ch.mono (g : Ch X w w') (h : ∀ k, k < w.heap.size → X k → Y k) : Ch Y w w' := ⟨g.os, g.tape, g.output, g.size, fun k hk hn => g.block k hk fun hx => hn (h k hk hx)⟩
/-- two steps: what turns in the second and is old turned in the first -/
theorem Ch.trans (g : Ch X w w') (h : Ch Y w' w'') (hy : ∀ k, k < w.heap.size → Y k → X k) : Ch X w w'' :=
  ⟨h.os.trans g.os, h.tape.trans g.tape, h.output.trans g.output, Nat.le_trans g.size h.size, fun k hk hx => (h.block k (Nat.lt_of_lt_of_le hk g.size) fun hk2 => hx (hy k hk hk2)).trans (g.block k hk hx)⟩
theorem Ch.then (g : Ch X w w') (h : Below w'.heap.size w' w'') : Ch X w w'' := g.trans (Ch.bel (X := X) h) fun _ _ hx => hx
theorem Ch.at (g : Ch X w w') {k : Nat} {o : Obj} (h : w.heap[k]? = some o) (hx : ¬ X k) : w'.heap[k]? = some o := (g.block k (Array.getElem?_eq_some_iff.1 h).1 hx).trans h
theorem Ch.below (g : Ch X w w') {B : Nat} {w0 : World} (h : Below B w0 w) (hB : B ≤ w.heap.size) (hx : ∀ k, k < B → ¬ X k) : Below B w0 w' :=
  h.trans ⟨g.os, g.tape, g.output, g.size, fun k hk => g.block k (Nat.lt_of_lt_of_le hk hB) (hx k hk)⟩
theorem Ch.own (g : Ch X w w') {base k n : Nat} {e : TypeId} {v : Value} {xs : List Value} (h : w.ownsRow base e k v n xs) (hx : ∀ q, v.ownBlock = some q → ¬ X q) : w'.ownsRow base e k v n xs := by
  refine ⟨h.1, ?_⟩
  rcases h.2 with hn | ⟨q, cap, cur, rfl, hb, hg, rest⟩
  · exact .inl hn
  · exact .inr ⟨q, cap, cur, rfl, hb, g.at hg (hx q rfl), rest⟩
theorem Ch.pb (g : Ch X w w') {b : Nat} {P : Nat → Int} (h : PB w b P) (hx : ¬ X b) : PB w' b P := by
  have e := g.block b h.lt hx
  exact ⟨Nat.lt_of_lt_of_le h.lt g.size, fun i hi => by rw [World.cell?_of_block (a := ⟨b, i, none⟩) e]; exact h.cell i hi, fun i => by rw [← h.fr i]; simp only [World.frozen?, e]⟩
theorem Ch.bw (g : Ch X w w') {b mb : Nat} {T : List (List UInt8)} (h : BW w b mb T) (h1 : ¬ X b) (h2 : ¬ X mb) : BW w' b mb T :=
  ⟨g.at h.c h1, by
    obtain ⟨es, clock, q, r⟩ := h.m
    exact ⟨es, clock, g.at q h2, r⟩, h.s⟩
end
/-- a game lies in a world -/
structure GW (base : Nat) (g : Gm) (W : World) : Prop where
  c : W.heap[g.gb]? = some (.cells (gmP g).toArray 81 (0, 0))
  k : BW W g.b g.mb g.T
  own : W.ownsRow base 46 3 g.mv g.L.length (mvals g.L)
  hg : base ≤ g.gb
  hb : base ≤ g.b
  hm : base ≤ g.mb
/-- its blocks -/
def Gm.X (g : Gm) (k : Nat) : Prop := k = g.gb ∨ k = g.b ∨ k = g.mb ∨ g.mv.ownBlock = some k
section
variable {base : Nat} {g : Gm} {W W' : World}
theorem GW.lt (h : GW base g W) : g.gb < W.heap.size := (Array.getElem?_eq_some_iff.1 h.c).1
theorem GW.ltX (h : GW base g W) : ∀ k, g.X k → base ≤ k ∧ k < W.heap.size := by
  rintro k (rfl | rfl | rfl | e)
  · exact ⟨h.hg, h.lt⟩
  · exact ⟨h.hb, h.k.ltb⟩
  · exact ⟨h.hm, h.k.m.lt⟩
  · exact h.own.lt k e
theorem GW.ne (h : GW base g W) : g.gb ≠ g.b ∧ g.gb ≠ g.mb ∧ g.mv.ownBlock ≠ some g.gb ∧ g.mv.ownBlock ≠ some g.b ∧ g.mv.ownBlock ≠ some g.mb := by
  have h1 := h.c
  have h2 := h.k.c
  obtain ⟨es, ck, h3, _⟩ := h.k.m
  have h4 : ∀ q, g.mv.ownBlock = some q → ∃ cur, W.heap[q]? = some (.cells cur 46 (0, 0)) := fun q hq => by
    rcases h.own.2 with ⟨hv, _⟩ | ⟨g', cap, cur, hv, _, hg, _⟩
    · rw [hv] at hq; cases hq
    · rw [hv] at hq
      simp [Value.ownBlock] at hq
      exact ⟨cur, by rw [← hq]; exact hg⟩
  refine ⟨fun e => ?_, fun e => ?_, fun e => ?_, fun e => ?_, fun e => ?_⟩
  · rw [e, h2] at h1; simp at h1
  · rw [e, h3] at h1; cases h1
  · obtain ⟨cur, hc⟩ := h4 _ e; rw [hc] at h1; simp at h1
  · obtain ⟨cur, hc⟩ := h4 _ e; rw [hc] at h2; simp at h2
  · obtain ⟨cur, hc⟩ := h4 _ e; rw [hc] at h3; cases h3
theorem GW.cell (h : GW base g W) : (∀ i, i < 133 → W.cell? ⟨g.gb, i, none⟩ = some (.int .i64 (g.P i))) ∧ W.cell? ⟨g.gb, 133, none⟩ = some (.pointer (some ⟨g.b, 0, none⟩)) ∧ W.cell? ⟨g.gb, 134, none⟩ = some (.int .i64 (g.n : Int)) ∧ W.cell? ⟨g.gb, 135, none⟩ = some g.mv ∧
    W.cell? ⟨g.gb, 136, none⟩ = some (.int .i64 g.r) ∧ W.cell? ⟨g.gb, 137, none⟩ = some (.int .i64 g.y) ∧ W.cell? ⟨g.gb, 138, none⟩ = some (.pointer (some ⟨g.gb, 0, none⟩)) ∧ (∀ i, W.frozen? ⟨g.gb, i, none⟩ = false) := by
  obtain ⟨a, b, c, d, e, f, i⟩ := gmP_at g
  have q := fun i => cell_of_row W g.gb i _ _ (0, 0) h.c
  exact ⟨fun j hj => (q j).trans (a j hj), (q 133).trans b, (q 134).trans c, (q 135).trans d, (q 136).trans e, (q 137).trans f, (q 138).trans i, fun i => frozen_of_row W g.gb i _ _ h.c⟩
theorem GW.pb (h : GW base g W) : PB W g.gb g.P := ⟨h.lt, h.cell.1, h.cell.2.2.2.2.2.2.2⟩
theorem GW.go (h : GW base g W) (b : Below W.heap.size W W') : GW base g W' := ⟨sl_go h.c b, h.k.go b, owns_below_ h.own b, h.hg, h.hb, h.hm⟩
theorem GW.ch {X : Nat → Prop} (h : GW base g W) (c : Ch X W W') (hx : ∀ k, g.X k → ¬ X k) : GW base g W' :=
  ⟨c.at h.c (hx _ (.inl rfl)), c.bw h.k (hx _ (.inr (.inl rfl))) (hx _ (.inr (.inr (.inl rfl)))), c.own h.own fun q hq => hx q (.inr (.inr (.inr hq))), h.hg, h.hb, h.hm⟩
/-- a store into the game's own block -/
theorem GW.gbx (h : GW base g W) (c : W.grownBy W' (some g.gb)) : BW W' g.b g.mb g.T ∧ W'.ownsRow base 46 3 g.mv g.L.length (mvals g.L) := by
  obtain ⟨h1, h2, h3, _, _⟩ := h.ne
  have hc : Ch (fun k => k = g.gb) W W' := Ch.gr c rfl
  exact ⟨hc.bw h.k (fun e => h1 e.symm) (fun e => h2 e.symm), hc.own h.own fun q hq e => h3 (e ▸ hq)⟩
theorem GW.setN (h : GW base g W) (n : Nat) : GW base { g with n := n } (W.setCell ⟨g.gb, 134, none⟩ (.int .i64 (n : Int))) := by
  obtain ⟨a, b⟩ := h.gbx (gr1_B (hb := g.gb) (i := 134) (w := W) (.int .i64 (n : Int)))
  exact ⟨by rw [← (gmP_set g n g.mv g.r g.y).1]; exact Go.heap_setCell_same W g.gb 134 _ _ _ h.c, a, b, h.hg, h.hb, h.hm⟩
theorem GW.setR (h : GW base g W) (r : Int) : GW base { g with r := r } (W.setCell ⟨g.gb, 136, none⟩ (.int .i64 r)) := by
  obtain ⟨a, b⟩ := h.gbx (gr1_B (hb := g.gb) (i := 136) (w := W) (.int .i64 r))
  exact ⟨by rw [← (gmP_set g g.n g.mv r g.y).2.2.1]; exact Go.heap_setCell_same W g.gb 136 _ _ _ h.c, a, b, h.hg, h.hb, h.hm⟩
theorem GW.setY (h : GW base g W) (y : Int) : GW base { g with y := y } (W.setCell ⟨g.gb, 137, none⟩ (.int .i64 y)) := by
  obtain ⟨a, b⟩ := h.gbx (gr1_B (hb := g.gb) (i := 137) (w := W) (.int .i64 y))
  exact ⟨by rw [← (gmP_set g g.n g.mv g.r y).2.2.2]; exact Go.heap_setCell_same W g.gb 137 _ _ _ h.c, a, b, h.hg, h.hb, h.hm⟩
theorem GW.setP (h : GW base g W) (Q : Nat → Int) : GW base { g with P := Q } (W.setCells g.gb 0 (pc Q)) := by
  obtain ⟨a, b⟩ := h.gbx (grs_B (hb := g.gb) (pc Q) 0 W)
  exact ⟨heap_setCells_mid (gmT g) (pc Q) (pc g.P) [] W (by rw [pc_len, pc_len]) h.c, a, b, h.hg, h.hb, h.hm⟩
/-- its book has one text more -/
theorem GW.put {T : List (List UInt8)} (h : GW base g W) (hk : BW W' g.b g.mb T) (t : Two g.b g.mb W W') : GW base { g with T := T } W' := by
  obtain ⟨h1, h2, _, h4, h5⟩ := h.ne
  have hc : Ch (fun k => k = g.b ∨ k = g.mb) W W' := Ch.two t (.inl rfl) (.inr rfl)
  exact ⟨hc.at h.c (fun e => e.elim h1 h2), hk, hc.own h.own (fun q hq e => e.elim (fun e => h4 (e ▸ hq)) (fun e => h5 (e ▸ hq))), h.hg, h.hb, h.hm⟩
end
/-- a move more -/
def Gm.next (g : Gm) (m : Int × Int × Int) (v : Value) : Gm :=
  let N := nxP g.P m.1.toNat m.2.1.toNat m.2.2
  let n := cntT (kyB N :: g.T) (kyB N)
  { g with P := N, T := kyB N :: g.T, n := n, mv := v, L := g.L ++ [m], r := endR N n, y := endY N n }
def Gm.err (g : Gm) (m : Int × Int × Int) : Int := if g.r = 0 then (if 8192 ≤ g.L.length then 3 else if legB g.P m.1 m.2.1 m.2.2 then 0 else 8) else 9
end Go.Proofs.YtkncfeijlmomaaaGreatDoor
