/-
  TagsTell: what stands while the law goes on.
-/
import Derived.Test.YtejknkgbkkdaiaaGreatDoorGi
import Derived.Test.YtejknkgbkkdaiaaGreatDoorGj
import Derived.Test.YtejknkgbkkdaiaaGreatDoorG10
import Derived.Test.YtejknkgbkkdaiaaGreatDoorDTells
import Derived.Test.YtejknkgbkkdaiaaGreatDoorG18
namespace Go.Proofs.YtejknkgbkkdaiaaGreatDoor
open Go.RowKit
set_option linter.unusedVariables false
set_option linter.unusedSimpArgs false

/-- of the old blocks, these alone may have turned -/
structure Ch (X : Nat → Prop) (w w' : World) : Prop where
  os : w'.os = w.os
  tape : w'.tape = w.tape
  output : w'.output = w.output
  size : w.heap.size ≤ w'.heap.size
  block : ∀ k, k < w.heap.size → ¬ X k → w'.heap[k]? = w.heap[k]?
section
variable {X : Nat → Prop} {w w' : World}
theorem Ch.bel (g : Below w.heap.size w w') : Ch X w w' := ⟨g.os, g.tape, g.output, g.size, fun k hk _ => g.block k hk⟩
theorem Ch.gr {x : Nat} (g : w.grownBy w' (some x)) : Ch (fun k => k = x) w w' := ⟨g.os, g.tape, g.output, g.size, fun k hk h => g.block k hk (ne_some' h)⟩
theorem Ch.rch {rb : Nat} {o : Option Nat} (g : Rch rb o w w') : Ch (fun k => k = rb ∨ some k = o) w w' := ⟨g.os, g.tape, g.output, g.size, fun k hk h => g.block k hk (fun e => h (.inl e)) (fun e => h (.inr e))⟩
theorem Ch.at (g : Ch X w w') {k : Nat} {o : Obj} (h : w.heap[k]? = some o) (hx : ¬ X k) : w'.heap[k]? = some o := (g.block k (Array.getElem?_eq_some_iff.1 h).1 hx).trans h
theorem Ch.below (g : Ch X w w') {B : Nat} {w0 : World} (h : Below B w0 w) (hB : B ≤ w.heap.size) (hx : ∀ k, k < B → ¬ X k) : Below B w0 w' :=
  h.trans ⟨g.os, g.tape, g.output, g.size, fun k hk => g.block k (Nat.lt_of_lt_of_le hk hB) (hx k hk)⟩
theorem Ch.bt (g : Ch X w w') {tb n : Nat} {f : Nat → BitVec 8} (h : BT w tb n f) (hx : ¬ X tb) : BT w' tb n f := h.of_block g.size (g.block tb h.lt hx)
theorem Ch.own (g : Ch X w w') {base k n : Nat} {e : TypeId} {v : Value} {xs : List Value} (h : w.ownsRow base e k v n xs) (hx : ∀ q, v.ownBlock = some q → ¬ X q) : w'.ownsRow base e k v n xs := by
  refine ⟨h.1, ?_⟩
  rcases h.2 with hn | ⟨q, cap, cur, rfl, hb, hg, rest⟩
  · exact .inl hn
  · exact .inr ⟨q, cap, cur, rfl, hb, g.at hg (hx q rfl), rest⟩
theorem Ch.mb (g : Ch X w w') {mb B : Nat} {real : Bool} {sv : Value} (h : MB w mb B real sv) (hx : ¬ X mb) : MB w' mb B real sv := g.at h hx
theorem Ch.bk (g : Ch X w w') {B : Nat} {L : List Thing} (h : BK w B L) (hx : ¬ X B) : BK w' B L := by
  have hlt := h.lt
  obtain ⟨D, ⟨es, clock, hb, F, hs, hD⟩, h2⟩ := h
  exact ⟨D, ⟨es, clock, (g.block B hlt hx).trans hb, F, hs, hD⟩, h2⟩
theorem Ch.rmk (g : Ch X w w') {rb b0 : Nat} {real : Bool} {sv av : Value} {L : List Thing} (h : RMk w rb real sv av b0 L) (hx : ¬ X rb) (ha : ∀ q, av.ownBlock = some q → ¬ X q) : RMk w' rb real sv av b0 L :=
  ⟨g.at h.box hx, g.own h.own ha, h.lo⟩
end
/-- what does not turn while the law goes on -/
structure TD where
  real : Bool
  sp : Option Addr
  sm : Nat
  sc : Nat
  sd : Nat → BitVec 8
  mb : Nat
  B : Nat
  rb : Nat
  sv : Value
  b0 : Nat
  t : Nat → BitVec 8
/-- the two makers -/
structure TW4 (d : TD) (w : World) (av : Value) (Lm Lr : List Thing) (W : World) : Prop where
  bel : Below w.heap.size w W
  box : BT W w.heap.size 32 d.t
  m : MB W d.mb d.B d.real d.sv
  k : BK W d.B Lm
  sT : d.real = true → W.ownsRow w.heap.size 5 1 d.sv d.sm ((List.range d.sm).map fun j => .int .u8 (ub (d.sd j)))
  sF : d.real = false → d.sv = .slice none 0 0
  r : RMk W d.rb d.real (.slice d.sp d.sm d.sc) av d.b0 Lr
  n1 : d.rb ≠ d.B
  n2 : d.mb ≠ d.rb
  sq : ∀ q, d.sv.ownBlock = some q → q < d.b0 ∧ q ≠ d.rb ∧ q ≠ d.B
  lo : w.heap.size < d.mb ∧ w.heap.size < d.B ∧ w.heap.size < d.rb
  hi : d.mb < d.b0 ∧ d.B < d.b0 ∧ d.rb < d.b0
  h0 : d.b0 ≤ W.heap.size
  nv : d.real = true → av = .slice none 0 0
section
variable {d : TD} {w W W' : World} {av : Value} {Lm Lr L : List Thing}
theorem TW4.lt (h : TW4 d w av Lm Lr W) : w.heap.size < d.b0 := Nat.lt_trans h.lo.1 h.hi.1
/-- blocks behind the makers turn -/
theorem TW4.ch {X : Nat → Prop} (h : TW4 d w av Lm Lr W) (g : Ch X W W') (hx : ∀ k, k < d.b0 → ¬ X k) (ha : ∀ q, av.ownBlock = some q → ¬ X q) : TW4 d w av Lm Lr W' :=
  ⟨g.below h.bel h.bel.size (fun k hk => hx k (Nat.lt_trans hk h.lt)), g.bt h.box (hx _ h.lt), g.mb h.m (hx _ h.hi.1), g.bk h.k (hx _ h.hi.2.1), fun e => g.own (h.sT e) (fun q hq => hx q (h.sq q hq).1), h.sF, g.rmk h.r (hx _ h.hi.2.2) ha, h.n1, h.n2, h.sq, h.lo, h.hi, Nat.le_trans h.h0 g.size, h.nv⟩
theorem TW4.go (h : TW4 d w av Lm Lr W) (g : Below W.heap.size W W') : TW4 d w av Lm Lr W' := h.ch (X := fun _ => False) (Ch.bel g) (fun _ _ e => e) (fun _ _ e => e)
theorem TW4.drew (h : TW4 d w av Lm Lr W) : TW4 d w av Lm Lr W.drew := h.go (Below.refl _ _).drew
/-- the program's maker is asked -/
theorem TW4.told (h : TW4 d w av Lm Lr W) (g : W.grownBy W' (some d.B)) (k : BK W' d.B L) : TW4 d w av L Lr W' := by
  have c := Ch.gr g
  have hv := h.hi
  have hl := h.lo
  exact ⟨c.below h.bel h.bel.size (fun k hk e => by omega), c.bt h.box (by omega), c.mb h.m (h.m.apart h.k), k, fun e => c.own (h.sT e) (fun q hq => (h.sq q hq).2.2), h.sF, c.rmk h.r h.n1 (fun q hq => by have := (h.r.own.lt q hq).1; omega), h.n1, h.n2, h.sq, h.lo, h.hi, Nat.le_trans h.h0 c.size, h.nv⟩
/-- the document's maker is asked -/
theorem TW4.meant {av' : Value} (h : TW4 d w av Lm Lr W) (g : Rch d.rb av.ownBlock W W') (k : RMk W' d.rb d.real (.slice d.sp d.sm d.sc) av' d.b0 L) (hn : d.real = true → av' = .slice none 0 0) : TW4 d w av' Lm L W' := by
  have c := Ch.rch g
  have hv := h.hi
  have hl := h.lo
  have ho : ∀ k, k < d.b0 → some k ≠ av.ownBlock := fun k hk e => by have := (h.r.own.lt k e.symm).1; omega
  have hx : ∀ k, k < d.b0 → k ≠ d.rb → ¬ (k = d.rb ∨ some k = av.ownBlock) := fun k hk hne e => e.elim hne (ho k hk)
  have hw := h.lt
  exact ⟨c.below h.bel h.bel.size (fun k hk => hx k (by omega) (by omega)), c.bt h.box (hx _ (by omega) (by omega)), c.mb h.m (hx _ hv.1 h.n2), c.bk h.k (hx _ hv.2.1 h.n1.symm), fun e => c.own (h.sT e) (fun q hq => hx q (h.sq q hq).1 (h.sq q hq).2.1), h.sF, k, h.n1, h.n2, h.sq, h.lo, h.hi, Nat.le_trans h.h0 c.size, hn⟩
/-- the program's answer -/
theorem TW4.askM (h : TW4 d w av Lm Lr W) (hk : Kc w.heap.size w) (hL : Lm.length ≤ 1000000) (hsm : d.sm ≤ 400) (z : Ask) (hz : z.lies W) (hzs : z.small) :
    Calls Tryz.prog 10 #[.pointer (some ⟨d.mb, 0, none⟩), .agg #[.int .i64 z.what, .slice z.kp z.kn z.kc, .slice z.p z.m z.c, .int .i64 z.k]] W fun e w' => e = .returned (tagV (tgA d.real d.sd d.sm Lm z)) ∧ W.grownBy w' (some d.B) ∧ BK w' d.B (nxA d.real Lm z) := by
  have hm := h.m
  have hs1 := h.sT
  have hs2 := h.sF
  cases hr : d.real with
  | false =>
    rw [hr, hs2 hr] at hm
    exact toldT_any W d.mb d.B Lm z hm h.k (by omega) hz
  | true =>
    rw [hr] at hm
    have ho := hs1 hr
    obtain ⟨p, c, hv, hrd, hc1, hc2⟩ := owns_reads ho
    rw [hv] at hm
    exact (toldR_any W d.mb d.B p d.sm c hm w.heap.size (hk.below h.bel) h.bel.size d.sd hrd (by omega) hc1 hc2 z hz hzs).mono fun e w' h' => ⟨h'.1, below_gr h'.2 _, h.k.below h'.2⟩
theorem TW4.askR (h : TW4 d w av Lm Lr W) (hL : Lr.length ≤ 1000000) (hsm : d.sm ≤ 400) (hr : Reads w.heap.size w d.sp d.sm (fun j => .int .u8 (ub (d.sd j)))) (hz : d.sp = none → d.sm = 0) (y : Ask) (hy : y.lies w) (hys : y.small) :
    Calls Tryz.prog 11 #[.pointer (some ⟨d.rb, 0, none⟩), .agg #[.int .i64 y.what, .slice y.kp y.kn y.kc, .slice y.p y.m y.c, .int .i64 y.k]] W fun e w' => ∃ av', e = .returned (tagV (tgA d.real d.sd d.sm Lr y)) ∧ Rch d.rb av.ownBlock W w' ∧ TW4 d w av' Lm (nxA d.real Lr y) w' := by
  refine (meant_any d.rb d.real d.sp d.sm d.sc av d.b0 Lr d.sd y W h.h0 hL h.r ((hr.below h.bel).mono h.bel.size) hz (by omega) (hy.below h.bel) hys).mono ?_
  rintro e w' ⟨av', rfl, g, k, hn⟩
  exact ⟨av', rfl, g, h.meant g k (fun e => by rw [hn e]; exact h.nv e)⟩
theorem TW4.off {tb : Nat} {f : Nat → BitVec 8} (h : TW4 d w av Lm Lr W) (hb : BT W tb 32 f) (hp : d.real = false → 0 < Lr.length) : av.ownBlock ≠ some tb := by
  cases hr : d.real with
  | true => rw [h.nv hr]; intro e; cases e
  | false => exact h.r.off_bt (hp hr) hb
theorem nxA_le (real : Bool) (L : List Thing) (y : Ask) : (nxA real L y).length ≤ L.length + 1 := by
  unfold nxA
  split
  · omega
  · rw [addT_len]; split <;> omega
theorem nxA_pos (real : Bool) (L : List Thing) (y : Ask) (h : real = false) : 0 < (nxA real L y).length := by subst h; exact addT_pos L y.thing
end
end Go.Proofs.YtejknkgbkkdaiaaGreatDoor
