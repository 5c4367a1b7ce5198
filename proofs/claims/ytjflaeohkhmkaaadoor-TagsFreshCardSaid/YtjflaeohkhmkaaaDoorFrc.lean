/-
  TagsFresh: what stands while the law goes on: two tables, a row of tags, a tag; and what is asked of them.
-/
import Derived.Test.YtjflaeohkhmkaaaDoorFrb
import Derived.Test.YtjflaeohkhmkaaaDoorG6
import Derived.Test.YtjflaeohkhmkaaaDoorAwakeT
import Derived.Test.YtjflaeohkhmkaaaDoorG7
namespace Go.Proofs.YtjflaeohkhmkaaaDoor
open Go.RowKit
set_option linter.unusedVariables false
set_option linter.unusedSimpArgs false

/-- the blocks of two tables, and the place behind them; the thing more -/
structure FD where
  x : Ask
  mb : Nat
  B : Nat
  ob : Nat
  OB : Nat
  b0 : Nat
/-- two tables lie in blocks of their own -/
structure FS (d : FD) (w : World) (L1 L2 : List Thing) (W : World) : Prop where
  bel : Below w.heap.size w W
  box : W.heap[w.heap.size]? = some (.cells #[.int .i64 d.x.what, .slice d.x.kp d.x.kn d.x.kc, .slice d.x.p d.x.m d.x.c, .int .i64 d.x.k] 26 (0, 0))
  m1 : MB W d.mb d.B false (.slice none 0 0)
  k1 : BK W d.B L1
  m2 : MB W d.ob d.OB false (.slice none 0 0)
  k2 : BK W d.OB L2
  n1 : d.mb ≠ d.OB
  n2 : d.ob ≠ d.B
  n3 : d.B ≠ d.OB
  z : w.heap.size < d.B ∧ w.heap.size < d.OB
  h : d.B < d.b0 ∧ d.OB < d.b0 ∧ d.mb < d.b0 ∧ d.ob < d.b0
  h0 : d.b0 ≤ W.heap.size
theorem ne_some {a b : Nat} (h : a ≠ b) : some a ≠ some b := fun e => h (Option.some.inj e)
section
variable {d : FD} {w W W' : World} {L1 L2 L : List Thing}
theorem FS.go (h : FS d w L1 L2 W) (g : Below W.heap.size W W') : FS d w L1 L2 W' :=
  ⟨h.bel.trans (g.mono h.bel.size), laid_go h.box g, h.m1.below g, h.k1.below g, h.m2.below g, h.k2.below g, h.n1, h.n2, h.n3, h.z, h.h, Nat.le_trans h.h0 g.size⟩
theorem FS.go1 (h : FS d w L1 L2 W) (g : W.grownBy W' (some d.B)) (k : BK W' d.B L) : FS d w L L2 W' :=
  ⟨h.bel.grown g h.bel.size (fun k hk => by cases hk; exact Nat.le_of_lt h.z.1), (g.block _ (Array.getElem?_eq_some_iff.1 h.box).1 (ne_some (Nat.ne_of_lt h.z.1))).trans h.box, h.m1.gr g (ne_some (h.m1.apart h.k1)), k, h.m2.gr g (ne_some h.n2), h.k2.kept g (ne_some h.n3.symm), h.n1, h.n2, h.n3, h.z, h.h, Nat.le_trans h.h0 g.size⟩
theorem FS.go2 (h : FS d w L1 L2 W) (g : W.grownBy W' (some d.OB)) (k : BK W' d.OB L) : FS d w L1 L W' :=
  ⟨h.bel.grown g h.bel.size (fun k hk => by cases hk; exact Nat.le_of_lt h.z.2), (g.block _ (Array.getElem?_eq_some_iff.1 h.box).1 (ne_some (Nat.ne_of_lt h.z.2))).trans h.box, h.m1.gr g (ne_some h.n1), h.k1.kept g (ne_some h.n3), h.m2.gr g (ne_some (h.m2.apart h.k2)), k, h.n1, h.n2, h.n3, h.z, h.h, Nat.le_trans h.h0 g.size⟩
/-- another block, behind the tables, turns -/
theorem FS.go3 (h : FS d w L1 L2 W) {C : Nat} (g : W.grownBy W' (some C)) (hC : d.b0 ≤ C) : FS d w L1 L2 W' := by
  obtain ⟨a1, a2, a3, a4⟩ := h.h
  obtain ⟨z1, z2⟩ := h.z
  exact ⟨h.bel.grown g h.bel.size (fun k hk => by cases hk; omega), (g.block _ (Array.getElem?_eq_some_iff.1 h.box).1 (ne_some (by omega))).trans h.box, h.m1.gr g (ne_some (by omega)), h.k1.kept g (ne_some (by omega)), h.m2.gr g (ne_some (by omega)), h.k2.kept g (ne_some (by omega)), h.n1, h.n2, h.n3, h.z, h.h, Nat.le_trans h.h0 g.size⟩
end
/-- .. and a row of tags -/
structure FR (d : FD) (w : World) (G : Nat → Nat → BitVec 8) (i : Nat) (ov : Value) (L1 L2 : List Thing) (W : World) : Prop where
  fs : FS d w L1 L2 W
  own : W.ownsRow d.b0 33 32 ov i (tagL G i)
theorem own_off {W : World} {base n k q : Nat} {e : TypeId} {v : Value} {xs : List Value} (h : W.ownsRow base e k v n xs) (hq : q < base) : v.ownBlock ≠ some q := fun e => by have := (h.lt q e).1; omega
section
variable {d : FD} {w W W' : World} {G : Nat → Nat → BitVec 8} {i : Nat} {ov : Value} {L1 L2 L : List Thing}
theorem FR.go (h : FR d w G i ov L1 L2 W) (g : Below W.heap.size W W') : FR d w G i ov L1 L2 W' := ⟨h.fs.go g, owns_below h.own g⟩
theorem FR.go1 (h : FR d w G i ov L1 L2 W) (g : W.grownBy W' (some d.B)) (k : BK W' d.B L) : FR d w G i ov L L2 W' :=
  ⟨h.fs.go1 g k, owns_gr h.own g (fun q hq => by cases hq; exact own_off h.own h.fs.h.1)⟩
theorem FR.go2 (h : FR d w G i ov L1 L2 W) (g : W.grownBy W' (some d.OB)) (k : BK W' d.OB L) : FR d w G i ov L1 L W' :=
  ⟨h.fs.go2 g k, owns_gr h.own g (fun q hq => by cases hq; exact own_off h.own h.fs.h.2.1)⟩
theorem FR.go3 (h : FR d w G i ov L1 L2 W) {C : Nat} (g : W.grownBy W' (some C)) (hC : d.b0 ≤ C) (ho : ov.ownBlock ≠ some C) : FR d w G i ov L1 L2 W' :=
  ⟨h.fs.go3 g hC, owns_gr h.own g (fun q hq => by cases hq; exact ho)⟩
/-- the row is longer by a tag -/
theorem FR.more {v2 : Value} (h : FR d w G i ov L1 L2 W) (g : W.grownBy W' ov.ownBlock) (ho : W'.ownsRow d.b0 33 32 v2 (i + 1) (tagL G (i + 1))) : FR d w G (i + 1) v2 L1 L2 W' := by
  cases hb : ov.ownBlock with
  | none => rw [hb] at g; exact ⟨h.fs.go3 (C := d.b0) (g.but _) (Nat.le_refl _), ho⟩
  | some q => rw [hb] at g; exact ⟨h.fs.go3 g (h.own.lt q hb).1, ho⟩
end
/-- .. and a tag -/
structure FT (d : FD) (w : World) (G : Nat → Nat → BitVec 8) (i : Nat) (ov : Value) (T : Nat) (s : Nat → BitVec 8) (L1 L2 : List Thing) (W : World) : Prop where
  fr : FR d w G i ov L1 L2 W
  tg : BT W T 32 s
  t0 : d.b0 ≤ T
section
variable {d : FD} {w W W' : World} {G : Nat → Nat → BitVec 8} {i : Nat} {ov : Value} {T : Nat} {s : Nat → BitVec 8} {L1 L2 L : List Thing}
theorem FT.go (h : FT d w G i ov T s L1 L2 W) (g : Below W.heap.size W W') : FT d w G i ov T s L1 L2 W' := ⟨h.fr.go g, h.tg.below' g, h.t0⟩
theorem FT.go1 (h : FT d w G i ov T s L1 L2 W) (g : W.grownBy W' (some d.B)) (k : BK W' d.B L) : FT d w G i ov T s L L2 W' :=
  ⟨h.fr.go1 g k, h.tg.gr g (by have := h.t0; have := h.fr.fs.h; omega), h.t0⟩
theorem FT.go2 (h : FT d w G i ov T s L1 L2 W) (g : W.grownBy W' (some d.OB)) (k : BK W' d.OB L) : FT d w G i ov T s L1 L W' :=
  ⟨h.fr.go2 g k, h.tg.gr g (by have := h.t0; have := h.fr.fs.h; omega), h.t0⟩
theorem FT.loads (h : FT d w G i ov T s L1 L2 W) : (Below w.heap.size w W ∧ W.ownsRow d.b0 33 32 ov i (tagL G i)) ∧ BT W T 32 s := ⟨⟨h.fr.fs.bel, h.fr.own⟩, h.tg⟩
end
/-- .. and a third table -/
structure FC (d : FD) (w : World) (G : Nat → Nat → BitVec 8) (i : Nat) (ov : Value) (T : Nat) (s : Nat → BitVec 8) (cb C : Nat) (L1 L2 L3 : List Thing) (W : World) : Prop where
  ft : FT d w G i ov T s L1 L2 W
  m3 : MB W cb C false (.slice none 0 0)
  k3 : BK W C L3
  c0 : d.b0 ≤ cb ∧ d.b0 ≤ C
  c2 : ov.ownBlock ≠ some C
  t1 : T ≠ C
section
variable {d : FD} {w W W' : World} {G : Nat → Nat → BitVec 8} {i : Nat} {ov : Value} {T : Nat} {s : Nat → BitVec 8} {cb C : Nat} {L1 L2 L3 L : List Thing}
theorem FC.go (h : FC d w G i ov T s cb C L1 L2 L3 W) (g : Below W.heap.size W W') : FC d w G i ov T s cb C L1 L2 L3 W' := ⟨h.ft.go g, h.m3.below g, h.k3.below g, h.c0, h.c2, h.t1⟩
theorem FC.go1 (h : FC d w G i ov T s cb C L1 L2 L3 W) (g : W.grownBy W' (some d.B)) (k : BK W' d.B L) : FC d w G i ov T s cb C L L2 L3 W' :=
  ⟨h.ft.go1 g k, h.m3.gr g (ne_some (by have := h.c0; have := h.ft.fr.fs.h; omega)), h.k3.kept g (ne_some (by have := h.c0; have := h.ft.fr.fs.h; omega)), h.c0, h.c2, h.t1⟩
theorem FC.go2 (h : FC d w G i ov T s cb C L1 L2 L3 W) (g : W.grownBy W' (some d.OB)) (k : BK W' d.OB L) : FC d w G i ov T s cb C L1 L L3 W' :=
  ⟨h.ft.go2 g k, h.m3.gr g (ne_some (by have := h.c0; have := h.ft.fr.fs.h; omega)), h.k3.kept g (ne_some (by have := h.c0; have := h.ft.fr.fs.h; omega)), h.c0, h.c2, h.t1⟩
theorem FC.go3 (h : FC d w G i ov T s cb C L1 L2 L3 W) (g : W.grownBy W' (some C)) (k : BK W' C L) : FC d w G i ov T s cb C L1 L2 L W' :=
  ⟨⟨h.ft.fr.go3 g h.c0.2 h.c2, h.ft.tg.gr g h.t1, h.ft.t0⟩, h.m3.gr g (ne_some (h.m3.apart h.k3)), k, h.c0, h.c2, h.t1⟩
end
/-- a thing that is asked, read out of a row -/
theorem ask_load {S : World → Prop} {ops : Array Oper} {o : Oper} {ac : Act} {x : Operand} {q j : Nat} {y : Ask} (hS : ∀ w, S w → w.cell? ⟨q, j, none⟩ = some (.int .i64 y.what) ∧ w.cell? ⟨q, j + 1, none⟩ = some (.slice y.kp y.kn y.kc) ∧ w.cell? ⟨q, j + 2, none⟩ = some (.slice y.p y.m y.c) ∧ w.cell? ⟨q, j + 3, none⟩ = some (.int .i64 y.k))
    (h1 : Region.wanted o (yielded ops ac.tmps) = true) (h2 : o.op = .load 26 x) (h3 : ac.eval x = .pointer (some ⟨q, j, none⟩)) : YieldsIf Tryd.prog ops S o (.agg #[.int .i64 y.what, .slice y.kp y.kn y.kc, .slice y.p y.m y.c, .int .i64 y.k]) ac :=
  yieldsIf_load_mid h1 26 x h2 q j h3 [.int .i64 y.what, .slice y.kp y.kn y.kc, .slice y.p y.m y.c, .int .i64 y.k] _ (fun w' hw' i v hv => by
    obtain ⟨c0, c1, c2, c3⟩ := hS w' hw'
    match i, hv with
    | 0, hv => exact c0.trans hv
    | 1, hv => exact c1.trans hv
    | 2, hv => exact c2.trans hv
    | 3, hv => exact c3.trans hv
    | i + 4, hv => exact absurd hv (by simp)) Tryd.underlying26 rfl (by kernel_rfl)
/-- a tag, read out of a row -/
theorem tagAt_load {S : World → Prop} {ops : Array Oper} {o : Oper} {ac : Act} {x : Operand} {g k b0 n cap : Nat} {G : Nat → Nat → BitVec 8} (hk : k < n) (hS : ∀ w, S w → w.ownsRow b0 33 32 (.slice (some ⟨g, 0, none⟩) n cap) n (tagL G n)) (h1 : Region.wanted o (yielded ops ac.tmps) = true) (h2 : o.op = .load 33 x) (h3 : ac.eval x = .pointer (some ⟨g, k * 32, none⟩)) : YieldsIf Tryd.prog ops S o (tagV (G k)) ac :=
  yieldsIf_load_mid h1 33 x h2 g (k * 32) h3 (tagC (G k)) _ (fun w' hw' => by
    obtain ⟨g', cap', he, _, hr⟩ := own_tag (hS w' hw') (by omega)
    cases he
    exact hr k hk) Tryd.underlying33 rfl (by simp [infoTag, tagC_len])
end Go.Proofs.YtjflaeohkhmkaaaDoor
