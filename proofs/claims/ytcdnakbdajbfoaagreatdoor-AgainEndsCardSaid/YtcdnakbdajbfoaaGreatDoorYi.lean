/-
  AgainLegal: what stands.
-/
import Derived.Test.YtcdnakbdajbfoaaGreatDoorM4
import Derived.Test.YtcdnakbdajbfoaaGreatDoorYb
import Derived.Test.YtcdnakbdajbfoaaGreatDoorM2
import Derived.Test.YtcdnakbdajbfoaaGreatDoorG17
namespace Go.Proofs.YtcdnakbdajbfoaaGreatDoor
open Go.RowKit Go.Sort Go.Maps
set_option linter.unusedSimpArgs false
set_option linter.unusedVariables false
set_option maxRecDepth 20000

theorem pl_one12 (P : Nat → Int) (hp : posB P = true) (f t k : Int) (h : legB P f t k = true) : plP P (fun _ => f) (fun _ => t) (fun _ => k) 1 = nxP P f.toNat t.toNat k ∧ plE P (fun _ => f) (fun _ => t) (fun _ => k) 1 = 0 := by
  have ha : advN P (fun _ => f) (fun _ => t) (fun _ => k) 1 = some (nxP P f.toNat t.toNat k) := adv_go (i := 0) (Q := P) rfl h
  unfold plP plE
  rw [hp, ha]
  exact ⟨rfl, rfl⟩
theorem PB.gr12 {W W' : World} {b x : Nat} {P : Nat → Int} (h : PB W b P) (g : W.grownBy W' (some x)) (hx : x ≠ b) : PB W' b P := by
  have e := g.block b h.lt (by intro e; exact hx (Option.some.inj e).symm)
  exact ⟨Nat.lt_of_lt_of_le h.lt g.size, fun i hi => by rw [World.cell?_of_block (a := ⟨b, i, none⟩) e]; exact h.cell i hi, fun i => by rw [← h.fr i]; simp only [World.frozen?, e]⟩
theorem ReadsP.mono {B C : Nat} {w : World} {p : Option Addr} {m : Nat} {Ps : Nat → Nat → Int} (h : ReadsP B w p m Ps) (hB : B ≤ C) : ReadsP C w p m Ps := by
  rcases h with h | ⟨rb, off, h1, h2, h3⟩
  · exact .inl h
  · exact .inr ⟨rb, off, h1, by omega, h3⟩
theorem ReadsP.go {w w' : World} {p : Option Addr} {m : Nat} {Ps : Nat → Nat → Int} (h : ReadsP w.heap.size w p m Ps) (g : Below w.heap.size w w') : ReadsP w'.heap.size w' p m Ps := (h.below g).mono g.size
theorem ReadsP.at {B : Nat} {w : World} {lb o m : Nat} {Ps : Nat → Nat → Int} (h : ReadsP B w (some ⟨lb, o, none⟩) m Ps) {i : Nat} (hi : i < m) : w.rangeAt lb (o + i * 133) (pc (Ps i)) := by
  rcases h with h | ⟨rb, off, h1, h2, h3⟩
  · omega
  · cases h1; exact h3 i hi
theorem yields_posAt {ops : Array Oper} {S : World → Prop} {op : Oper} {a : Act} (hw : Region.wanted op (yielded ops a.tmps) = true) (x : Operand) (ho : op.op = .load 30 x)
    (b o : Nat) (P : Nat → Int) (X : Array Value) (hX : X = (pc P).toArray) (hx : a.eval x = .pointer (some ⟨b, o, none⟩)) (hS : ∀ w, S w → w.rangeAt b o (pc P)) : YieldsIf Tryz.prog ops S op (.agg X) a := by
  subst hX
  exact yieldsIf_load_mid hw 30 x ho b o hx (pc P) _ hS Tryz.underlying30 rfl (by rw [infoPos, pc_len])
theorem readsP_row {W : World} {lb m : Nat} {Ps : Nat → Nat → Int} {Xs : List (Array Value)} (hX : Xs = (List.range m).map fun i => (pc (Ps i)).toArray)
    (h : W.heap[lb]? = some (.cells (Xs.flatMap fun X => X.toList).toArray 30 (0, 0))) : ReadsP W.heap.size W (some ⟨lb, 0, none⟩) m Ps := by
  refine .inr ⟨lb, 0, rfl, (Array.getElem?_eq_some_iff.1 h).1, fun i hi j v hv => ?_⟩
  have hj : j < 133 := by have := (List.getElem?_eq_some_iff.1 hv).1; rwa [pc_len] at this
  have hs : ∀ v ∈ Xs.map Value.agg, v.cells.size = 133 := fun v hv => by
    rw [hX] at hv
    simp only [List.map_map, List.mem_map] at hv
    obtain ⟨i, _, rfl⟩ := hv
    exact pc_size (Ps i)
  have hf := Great.flat_get (s := 133) (by omega) (Xs.map Value.agg) hs (i * 133 + j)
  rw [cell_of_row W lb _ _ _ (0, 0) h, Nat.zero_add, List.getElem?_toArray]
  rw [show (Xs.flatMap fun X => X.toList) = (Xs.map Value.agg).flatMap fun v => v.cells.toList by rw [List.flatMap_map]; rfl, hf, show (i * 133 + j) / 133 = i by omega, show (i * 133 + j) % 133 = j by omega, hX]
  simp only [List.map_map, List.getElem?_map, List.getElem?_range hi, Option.map_some, Option.bind_some, Function.comp]
  show (pc (Ps i)).toArray[j]? = some v
  rw [List.getElem?_toArray]
  exact hv
structure LG (B rb : Nat) (w W : World) (P Q R : Nat → Int) : Prop where
  p : PB W w.heap.size P
  q : PB W (w.heap.size + 1) Q
  r : PB W rb R
  bl : Below w.heap.size w W
  e : EN B W
  hr : w.heap.size + 2 ≤ rb
  hB : B ≤ w.heap.size
theorem LG.go {B rb : Nat} {w W W' : World} {P Q R : Nat → Int} (h : LG B rb w W P Q R) (g : Below W.heap.size W W') : LG B rb w W' P Q R :=
  ⟨h.p.go g, h.q.go g, h.r.go g, h.bl.trans (g.mono h.bl.size), h.e.go g, h.hr, h.hB⟩
theorem LG.set {B rb : Nat} {w W : World} {P Q R : Nat → Int} (h : LG B rb w W P Q R) (i : Nat) (x : Int) (hi : i < 133) : LG B rb w (W.setCell ⟨rb, i, none⟩ (.int .i64 x)) P Q (setN R i x) := by
  have hr := h.hr
  have g := gr1_B (hb := rb) (i := i) (w := W) (.int .i64 x)
  have hb : Below w.heap.size W (W.setCell ⟨rb, i, none⟩ (.int .i64 x)) := (Below.refl _ _).setCell (p := ⟨rb, i, none⟩) (by show w.heap.size ≤ rb; omega) _
  exact ⟨h.p.gr12 g (by omega), h.q.gr12 g (by omega), h.r.set i x hi, h.bl.trans hb, h.e.on (hb.mono h.hB), h.hr, h.hB⟩
structure AL (B lb : Nat) (P : Nat → Int) (Ls : Nat → Nat → Int) (w W : World) : Prop where
  p : PB W w.heap.size P
  l : ReadsP W.heap.size W (some ⟨lb, 0, none⟩) 2 Ls
  bl : Below w.heap.size w W
  e : EN B W
theorem AL.go {B lb : Nat} {P : Nat → Int} {Ls : Nat → Nat → Int} {w W W' : World} (h : AL B lb P Ls w W) (g : Below W.heap.size W W') : AL B lb P Ls w W' :=
  ⟨h.p.go g, h.l.go g, h.bl.trans (g.mono h.bl.size), h.e.go g⟩
structure IL (B lb : Nat) (P : Nat → Int) (Ls : Nat → Nat → Int) (ap bp : Option Addr) (n : Nat) (F T K : Nat → Int) (w W : World) : Prop where
  a : AL B lb P Ls w W
  r1 : Reads3 W.heap.size W ap n F T K
  r2 : Reads3 W.heap.size W bp n F T K
theorem IL.go {B lb : Nat} {P : Nat → Int} {Ls : Nat → Nat → Int} {ap bp : Option Addr} {n : Nat} {F T K : Nat → Int} {w W W' : World} (h : IL B lb P Ls ap bp n F T K w W) (g : Below W.heap.size W W') : IL B lb P Ls ap bp n F T K w W' :=
  ⟨h.a.go g, (h.r1.below g).mono g.size, (h.r2.below g).mono g.size⟩
end Go.Proofs.YtcdnakbdajbfoaaGreatDoor
