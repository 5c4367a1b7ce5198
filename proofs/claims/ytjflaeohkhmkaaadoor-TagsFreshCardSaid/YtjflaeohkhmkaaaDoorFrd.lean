/-
  TagsFresh: the tables are asked.
-/
import Derived.Test.YtjflaeohkhmkaaaDoorFrc
import Derived.Test.YtjflaeohkhmkaaaDoorG6
import Derived.Test.YtjflaeohkhmkaaaDoorAlike
namespace Go.Proofs.YtjflaeohkhmkaaaDoor
open Go.RowKit
set_option linter.unusedVariables false
set_option linter.unusedSimpArgs false

theorem ask0 {W : World} {cb C : Nat} {L : List Thing} (hm : MB W cb C false (.slice none 0 0)) (hk : BK W C L) (y : Ask) (hy : y.lies W) (hL : L.length ≤ 1000000000000) (r : Nat → BitVec 8) (hr : r = numT (idx (addT L y.thing) y.thing)) :
    Calls Tryd.prog 7 #[.pointer (some ⟨cb, 0, none⟩), .agg #[.int .i64 y.what, .slice y.kp y.kn y.kc, .slice y.p y.m y.c, .int .i64 y.k]] W fun e w' => e = .returned (tagV r) ∧ W.grownBy w' (some C) ∧ BK w' C (addT L y.thing) ∧ MB w' cb C false (.slice none 0 0) := by
  subst hr
  refine (toldT_any W cb C L y hm hk hL hy).mono ?_
  rintro e w' ⟨rfl, g, k⟩
  exact ⟨rfl, g, k, hm.gr g (ne_some (hm.apart hk))⟩
section
variable {d : FD} {w W : World} {G : Nat → Nat → BitVec 8} {i : Nat} {ov : Value} {T : Nat} {s : Nat → BitVec 8} {cb C : Nat} {L1 L2 L3 : List Thing}
theorem FR.ask1 (h : FR d w G i ov L1 L2 W) (y : Ask) (hy : y.lies W) (hL : L1.length ≤ 1000000000000) (r : Nat → BitVec 8) (hr : r = numT (idx (addT L1 y.thing) y.thing)) :
    Calls Tryd.prog 7 #[.pointer (some ⟨d.mb, 0, none⟩), .agg #[.int .i64 y.what, .slice y.kp y.kn y.kc, .slice y.p y.m y.c, .int .i64 y.k]] W fun e w' => e = .returned (tagV r) ∧ FR d w G i ov (addT L1 y.thing) L2 w' := by
  subst hr
  refine (toldT_any W d.mb d.B L1 y h.fs.m1 h.fs.k1 hL hy).mono ?_
  rintro e w' ⟨rfl, g, k⟩
  exact ⟨rfl, h.go1 g k⟩
theorem FT.ask2 (h : FT d w G i ov T s L1 L2 W) (y : Ask) (hy : y.lies W) (hL : L2.length ≤ 1000000000000) (r : Nat → BitVec 8) (hr : r = numT (idx (addT L2 y.thing) y.thing)) :
    Calls Tryd.prog 7 #[.pointer (some ⟨d.ob, 0, none⟩), .agg #[.int .i64 y.what, .slice y.kp y.kn y.kc, .slice y.p y.m y.c, .int .i64 y.k]] W fun e w' => e = .returned (tagV r) ∧ FT d w G i ov T s L1 (addT L2 y.thing) w' := by
  subst hr
  refine (toldT_any W d.ob d.OB L2 y h.fr.fs.m2 h.fr.fs.k2 hL hy).mono ?_
  rintro e w' ⟨rfl, g, k⟩
  exact ⟨rfl, h.go2 g k⟩
theorem FC.ask1 (h : FC d w G i ov T s cb C L1 L2 L3 W) (y : Ask) (hy : y.lies W) (hL : L1.length ≤ 1000000000000) (r : Nat → BitVec 8) (hr : r = numT (idx (addT L1 y.thing) y.thing)) :
    Calls Tryd.prog 7 #[.pointer (some ⟨d.mb, 0, none⟩), .agg #[.int .i64 y.what, .slice y.kp y.kn y.kc, .slice y.p y.m y.c, .int .i64 y.k]] W fun e w' => e = .returned (tagV r) ∧ FC d w G i ov T s cb C (addT L1 y.thing) L2 L3 w' := by
  subst hr
  refine (toldT_any W d.mb d.B L1 y h.ft.fr.fs.m1 h.ft.fr.fs.k1 hL hy).mono ?_
  rintro e w' ⟨rfl, g, k⟩
  exact ⟨rfl, h.go1 g k⟩
theorem FC.ask2 (h : FC d w G i ov T s cb C L1 L2 L3 W) (y : Ask) (hy : y.lies W) (hL : L2.length ≤ 1000000000000) (r : Nat → BitVec 8) (hr : r = numT (idx (addT L2 y.thing) y.thing)) :
    Calls Tryd.prog 7 #[.pointer (some ⟨d.ob, 0, none⟩), .agg #[.int .i64 y.what, .slice y.kp y.kn y.kc, .slice y.p y.m y.c, .int .i64 y.k]] W fun e w' => e = .returned (tagV r) ∧ FC d w G i ov T s cb C L1 (addT L2 y.thing) L3 w' := by
  subst hr
  refine (toldT_any W d.ob d.OB L2 y h.ft.fr.fs.m2 h.ft.fr.fs.k2 hL hy).mono ?_
  rintro e w' ⟨rfl, g, k⟩
  exact ⟨rfl, h.go2 g k⟩
theorem FC.ask3 (h : FC d w G i ov T s cb C L1 L2 L3 W) (y : Ask) (hy : y.lies W) (hL : L3.length ≤ 1000000000000) (r : Nat → BitVec 8) (hr : r = numT (idx (addT L3 y.thing) y.thing)) :
    Calls Tryd.prog 7 #[.pointer (some ⟨cb, 0, none⟩), .agg #[.int .i64 y.what, .slice y.kp y.kn y.kc, .slice y.p y.m y.c, .int .i64 y.k]] W fun e w' => e = .returned (tagV r) ∧ FC d w G i ov T s cb C L1 L2 (addT L3 y.thing) w' := by
  subst hr
  refine (toldT_any W cb C L3 y h.m3 h.k3 hL hy).mono ?_
  rintro e w' ⟨rfl, g, k⟩
  exact ⟨rfl, h.go3 g k⟩
theorem FC.loads (h : FC d w G i ov T s cb C L1 L2 L3 W) : (Below w.heap.size w W ∧ W.ownsRow d.b0 33 32 ov i (tagL G i)) ∧ BT W T 32 s ∧ (W.cell? ⟨w.heap.size, 0, none⟩ = some (.int .i64 d.x.what) ∧ W.cell? ⟨w.heap.size, 0 + 1, none⟩ = some (.slice d.x.kp d.x.kn d.x.kc) ∧ W.cell? ⟨w.heap.size, 0 + 2, none⟩ = some (.slice d.x.p d.x.m d.x.c) ∧ W.cell? ⟨w.heap.size, 0 + 3, none⟩ = some (.int .i64 d.x.k)) :=
  ⟨⟨h.ft.fr.fs.bel, h.ft.fr.own⟩, h.ft.tg, row4 h.ft.fr.fs.box⟩
end
theorem nil_tags (W : World) (b0 : Nat) (G : Nat → Nat → BitVec 8) : W.ownsRow b0 33 32 (.slice none 0 0) 0 (tagL G 0) := ⟨rfl, .inl ⟨rfl, rfl⟩⟩
/-- two new tables -/
theorem FS.new {w W4 W5 W6 : World} {x : Ask} {mb B ob OB : Nat} (hb : Below w.heap.size w W4) (hbx : W4.heap[w.heap.size]? = some (.cells #[.int .i64 x.what, .slice x.kp x.kn x.kc, .slice x.p x.m x.c, .int .i64 x.k] 26 (0, 0)))
    (h1 : W4.heap.size ≤ B) (g1 : Below W4.heap.size W4 W5) (m1 : MB W5 mb B false (.slice none 0 0)) (k1 : BK W5 B []) (h1' : W4.heap.size ≤ mb)
    (h2 : W5.heap.size ≤ OB) (h3 : W5.heap.size ≤ ob) (g2 : Below W5.heap.size W5 W6) (m2 : MB W6 ob OB false (.slice none 0 0)) (k2 : BK W6 OB []) : FS ⟨x, mb, B, ob, OB, W6.heap.size⟩ w [] [] W6 := by
  have hz := (Array.getElem?_eq_some_iff.1 hbx).1
  have a1 := m1.lt
  have a2 := k1.lt
  have a3 := m2.lt
  have a4 := k2.lt
  have a5 := g2.size
  have a6 := g1.size
  exact ⟨hb.trans ((g1.trans (g2.mono g1.size)).mono hb.size), laid_go (laid_go hbx g1) g2, m1.below g2, k1.below g2, m2, k2, by show mb ≠ OB; omega, by show ob ≠ B; omega, by show B ≠ OB; omega, ⟨by show _ < B; omega, by show _ < OB; omega⟩, ⟨by show B < W6.heap.size; omega, by show OB < W6.heap.size; omega, by show mb < W6.heap.size; omega, by show ob < W6.heap.size; omega⟩, Nat.le_refl _⟩
end Go.Proofs.YtjflaeohkhmkaaaDoor
