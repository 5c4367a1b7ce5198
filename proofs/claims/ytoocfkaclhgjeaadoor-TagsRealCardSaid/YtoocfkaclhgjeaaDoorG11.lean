/-
  Merged: MacParts, MacSame.
-/
import Derived.Test.YtoocfkaclhgjeaaDoorG10
import Derived.Test.YtoocfkaclhgjeaaDoorG9
import Derived.Test.YtoocfkaclhgjeaaDoorG8

namespace Go.Proofs.YtoocfkaclhgjeaaDoor
open Go.RowKit
set_option linter.unusedVariables false
set_option linter.unusedSimpArgs false

theorem pos_three (n1 n2 n3 : Nat) : pos (fst3 n1 n2 n3) 3 = n1 + n2 + n3 := by simp [pos, fst3]
theorem RI.three {W : World} {H n1 c1 n2 c2 n3 c3 : Nat} {p1 p2 p3 : Option Addr} {t : TypeId} {f1 f2 f3 : Nat → BitVec 8} (hW : W.heap[H]? = some (.cells #[.slice p1 n1 c1, .slice p2 n2 c2, .slice p3 n3 c3] t (0, 0)))
    (h1 : n1 ≤ c1 ∧ c1 ≤ maxLen) (h2 : n2 ≤ c2 ∧ c2 ≤ maxLen) (h3 : n3 ≤ c3 ∧ c3 ≤ maxLen)
    (r1 : Reads W.heap.size W p1 n1 (fun j => .int .u8 (ub (f1 j)))) (r2 : Reads W.heap.size W p2 n2 (fun j => .int .u8 (ub (f2 j)))) (r3 : Reads W.heap.size W p3 n3 (fun j => .int .u8 (ub (f3 j)))) :
    RI W (some ⟨H, 0, none⟩) 3 (fst3 p1 p2 p3) (fst3 n1 n2 n3) (fst3 c1 c2 c3) (fst3 f1 f2 f3) :=
  ⟨reads_at hW (fun i hi => by
    match i, hi with
    | 0, _ => rfl
    | 1, _ => rfl
    | 2, _ => rfl), fun i hi => by
    match i, hi with
    | 0, _ => exact h1
    | 1, _ => exact h2
    | 2, _ => exact h3, fun i hi => by
    match i, hi with
    | 0, _ => exact r1
    | 1, _ => exact r2
    | 2, _ => exact r3⟩
theorem gr_none {B : Nat} {w w' : World} (h : w.grownBy w' none) (hB : B ≤ w.heap.size) : Below B w w' := ⟨h.os, h.tape, h.output, h.size, fun k hk => h.block k (by omega) (by simp)⟩
/-- what stays while the law asks: the tag s lies at block T -/
structure MV (B : Nat) (w : World) (T : Nat) (s : Nat → BitVec 8) (W : World) : Prop where
  tag : BT W T 32 s
  kc : Kc B W
  bel : Below w.heap.size w W
  lo : B ≤ w.heap.size
section
variable {B T : Nat} {w W W' : World} {s : Nat → BitVec 8}
theorem MV.drew (h : MV B w T s W) : MV B w T s W.drew := ⟨h.tag.drew, h.kc.below (Below.refl _ _).drew, h.bel.drew, h.lo⟩
theorem MV.go (h : MV B w T s W) (g : Below W.heap.size W W') : MV B w T s W' :=
  ⟨h.tag.below' g, h.kc.below (g.mono (Nat.le_trans h.lo h.bel.size)), h.bel.trans (g.mono h.bel.size), h.lo⟩
theorem MV.alloc (h : MV B w T s W) (o : Obj) : MV B w T s (W.alloc o) := h.go ((Below.refl _ _).alloc (Nat.le_refl _) o)
theorem MV.gr {hb : Nat} (h : MV B w T s W) (g : W.grownBy W' (some hb)) (hT : T ≠ hb) (hh : w.heap.size ≤ hb) : MV B w T s W' :=
  ⟨h.tag.gr g hT, h.kc.below (gr_below g (Nat.le_trans h.lo hh) (Nat.le_trans h.lo h.bel.size)), h.bel.grown g h.bel.size (by rintro q ⟨⟩; exact hh), h.lo⟩
end
/-- the same, and a row of bytes lies there -/
structure MR (B : Nat) (w : World) (T : Nat) (s : Nat → BitVec 8) (p : Option Addr) (n : Nat) (f : Nat → BitVec 8) (W : World) : Prop where
  mv : MV B w T s W
  row : Reads W.heap.size W p n (fun i => .int .u8 (ub (f i)))
section
variable {B T n : Nat} {w W W' : World} {s f : Nat → BitVec 8} {p : Option Addr}
theorem MR.go (h : MR B w T s p n f W) (g : Below W.heap.size W W') : MR B w T s p n f W' := ⟨h.mv.go g, h.row.to g⟩
theorem MR.drew (h : MR B w T s p n f W) : MR B w T s p n f W.drew := h.go (Below.refl _ _).drew
theorem MR.alloc (h : MR B w T s p n f W) (o : Obj) : MR B w T s p n f (W.alloc o) := h.go ((Below.refl _ _).alloc (Nat.le_refl _) o)
theorem MR.load {ops : Array Oper} {o : Oper} {a : Act} {x : Operand} (h1 : Region.wanted o (yielded ops a.tmps) = true) (h2 : o.op = .load 33 x) (h3 : a.eval x = .pointer (some ⟨T, 0, none⟩)) : YieldsIf Tryd.prog ops (MR B w T s p n f) o (tagV s) a :=
  yieldsIf_load_mid h1 33 x h2 T 0 h3 (tagC s) _ (fun w' hw' => hw'.mv.tag.range) Tryd.underlying33 rfl (by simp [infoTag, tagC_len])
end
/-- a key and noughts behind -/
def padK (k : Nat → BitVec 8) (n : Nat) : Nat → BitVec 8 := fun i => if i < n then k i else 0#8
theorem padK_congr (k : Nat → BitVec 8) (n m : Nat) (g : Nat → BitVec 8) (l : Nat) (h : n ≤ m) (hm : m ≤ 64) : hmac (padK k n) m g l = hmac k n g l := by
  unfold hmac
  refine hmb_congr (fun i hi => ?_) (fun _ _ => rfl)
  unfold kblk padK
  simp only [hm, show n ≤ 64 by omega, if_true]
  by_cases h1 : i < n
  · rw [if_pos h1, if_pos (by omega)]
  · rw [if_neg h1]; by_cases h2 : i < m <;> simp [h2]
theorem ownK_congr (k : Nat → BitVec 8) (n : Nat) (g : Nat → BitVec 8) (l : Nat) (h : 64 < n) : hmac (sha k n) 32 g l = hmac k n g l := by
  unfold hmac
  refine hmb_congr (fun i hi => ?_) (fun _ _ => rfl)
  unfold kblk
  simp only [show (32 : Nat) ≤ 64 by omega, show ¬ n ≤ 64 by omega, if_true, if_false]
theorem padK_list (k : Nat → BitVec 8) (n : Nat) : (List.range n).map (fun i => Value.int .u8 (ub (k i))) = (List.range n).map (fun i => Value.int .u8 (ub (padK k n i))) :=
  List.map_congr_left fun i hi => by unfold padK; rw [if_pos (List.mem_range.1 hi)]
theorem padK_snoc (k : Nat → BitVec 8) (n m : Nat) (h : n ≤ m) : (List.range m).map (fun i => Value.int .u8 (ub (padK k n i))) ++ [Value.int .u8 0] = (List.range (m + 1)).map (fun i => Value.int .u8 (ub (padK k n i))) := by
  rw [List.range_succ, List.map_append]
  have e : padK k n m = 0#8 := by unfold padK; rw [if_neg (by omega)]
  simp [e]; rfl
/-- one row -/
theorem MV.mac1 {B T H n c kn kc : Nat} {w W : World} {s k g : Nat → BitVec 8} {p kp : Option Addr} {t : TypeId} (h : MV B w T s W) (hW : W.heap[H]? = some (.cells #[.slice p n c] t (0, 0))) (hkn : kn ≤ 2147483648) (hkc : kn ≤ kc) (hkm : kc ≤ maxLen)
    (hkr : Reads W.heap.size W kp kn (fun j => .int .u8 (ub (k j)))) (hc : n ≤ c) (hm : c ≤ maxLen) (hr : Reads w.heap.size w p n (fun j => .int .u8 (ub (g j)))) (hn : n ≤ 2147483584) :
    Calls Tryd.prog 35 #[.slice kp kn kc, .slice (some ⟨H, 0, none⟩) 1 1] W fun e w' => e = .returned (tagV (hmac k kn g n)) ∧ Below W.heap.size W w' := by
  have hx := macOf_any B W kp kn kc k g _ 1 1 _ _ _ _ h.kc (Nat.le_trans h.lo h.bel.size) hkn hkc hkm hkr (RI.one (f := g) hW hc hm (hr.to h.bel)) (Nat.le_refl _) (by decide) (by omega) (by rw [pos_one]; exact hn) (fun i hi j hj => by rw [show i = 0 by omega]; simp [pos])
  rw [pos_one] at hx
  exact hx
/-- three rows, the second nil -/
theorem MV.mac3 {B T H q n c1 c2 kn kc : Nat} {w W : World} {s k g : Nat → BitVec 8} {p1 p2 kp : Option Addr} {t : TypeId} (h : MV B w T s W) (hW : W.heap[H]? = some (.cells #[.slice p1 q c1, .slice none 0 0, .slice p2 (n - q) c2] t (0, 0))) (hq : q ≤ n) (hkn : kn ≤ 2147483648) (hkc : kn ≤ kc) (hkm : kc ≤ maxLen)
    (hkr : Reads w.heap.size w kp kn (fun j => .int .u8 (ub (k j)))) (h1 : q ≤ c1 ∧ c1 ≤ maxLen) (h2 : n - q ≤ c2 ∧ c2 ≤ maxLen) (hr1 : Reads w.heap.size w p1 q (fun j => .int .u8 (ub (g j)))) (hr2 : Reads w.heap.size w p2 (n - q) (fun j => .int .u8 (ub (g (q + j))))) (hn : n ≤ 2147483584) :
    Calls Tryd.prog 35 #[.slice kp kn kc, .slice (some ⟨H, 0, none⟩) 3 3] W fun e w' => e = .returned (tagV (hmac k kn g n)) ∧ Below W.heap.size W w' := by
  have hx := macOf_any B W kp kn kc k g _ 3 3 _ _ _ _ h.kc (Nat.le_trans h.lo h.bel.size) hkn hkc hkm (hkr.to h.bel) (RI.three (f1 := g) (f2 := fun _ => 0#8) (f3 := fun j => g (q + j)) hW h1 ⟨Nat.le_refl _, by decide⟩ h2 (hr1.to h.bel) (.inl rfl) (hr2.to h.bel)) (Nat.le_refl _) (by decide) (by omega) (by rw [pos_three]; omega) (fun i hi j hj => by
    match i, hi with
    | 0, _ => simp [fst3, pos]
    | 1, _ => exact absurd hj (by simp [fst3])
    | 2, _ => simp [fst3, pos])
  rw [pos_three, show q + 0 + (n - q) = n by omega] at hx
  exact hx
end Go.Proofs.YtoocfkaclhgjeaaDoor

namespace Go.Proofs.YtoocfkaclhgjeaaDoor
open Go.RowKit
set_option linter.unusedVariables false
set_option linter.unusedSimpArgs false

/-- two boxed tags -/
structure S2 (B : Nat) (w : World) (a b : Nat → BitVec 8) (W : World) : Prop where
  ba : BT W w.heap.size 32 a
  bb : BT W (w.heap.size + 1) 32 b
  kc : Kc B W
  bel : Below w.heap.size w W
  lo : B ≤ w.heap.size
/-- and two more -/
structure S4 (B : Nat) (w : World) (a b c t : Nat → BitVec 8) (TC TT : Nat) (W : World) : Prop where
  s2 : S2 B w a b W
  bc : BT W TC 32 c
  bt : BT W TT 32 t
section
variable {B TC TT : Nat} {w W W' : World} {a b c t : Nat → BitVec 8}
theorem S2.go (h : S2 B w a b W) (g : Below W.heap.size W W') : S2 B w a b W' :=
  ⟨h.ba.below' g, h.bb.below' g, h.kc.below (g.mono (Nat.le_trans h.lo h.bel.size)), h.bel.trans (g.mono h.bel.size), h.lo⟩
theorem S2.alloc (h : S2 B w a b W) (o : Obj) : S2 B w a b (W.alloc o) := h.go ((Below.refl _ _).alloc (Nat.le_refl _) o)
theorem S2.gr {hb : Nat} (h : S2 B w a b W) (g : W.grownBy W' (some hb)) (hh : w.heap.size + 1 < hb) : S2 B w a b W' :=
  ⟨h.ba.gr g (by omega), h.bb.gr g (by omega), h.kc.below (gr_below g (Nat.le_trans h.lo (by omega)) (Nat.le_trans h.lo h.bel.size)), h.bel.grown g h.bel.size (by rintro q ⟨⟩; omega), h.lo⟩
theorem S4.go (h : S4 B w a b c t TC TT W) (g : Below W.heap.size W W') : S4 B w a b c t TC TT W' := ⟨h.s2.go g, h.bc.below' g, h.bt.below' g⟩
theorem S4.drew (h : S4 B w a b c t TC TT W) : S4 B w a b c t TC TT W.drew := h.go (Below.refl _ _).drew
theorem S4.alloc (h : S4 B w a b c t TC TT W) (o : Obj) : S4 B w a b c t TC TT (W.alloc o) := h.go ((Below.refl _ _).alloc (Nat.le_refl _) o)
theorem tag_load {S : World → Prop} {ops : Array Oper} {o : Oper} {ac : Act} {x : Operand} {T : Nat} {s : Nat → BitVec 8} (hS : ∀ w, S w → BT w T 32 s) (h1 : Region.wanted o (yielded ops ac.tmps) = true) (h2 : o.op = .load 33 x) (h3 : ac.eval x = .pointer (some ⟨T, 0, none⟩)) : YieldsIf Tryd.prog ops S o (tagV s) ac :=
  yieldsIf_load_mid h1 33 x h2 T 0 h3 (tagC s) _ (fun w' hw' => (hS w' hw').range) Tryd.underlying33 rfl (by simp [infoTag, tagC_len])
end
/-- a tag, one byte of which is turned -/
def turnAt (a : Nat → BitVec 8) (q : Nat) (x : BitVec 8) : Nat → BitVec 8 := fun i => if i = q then a i ^^^ x else a i
theorem turnAt_teq (a : Nat → BitVec 8) (q : Nat) (x : BitVec 8) (hq : q < 32) : teq a (turnAt a q x) = (x == 0#8) := by
  rw [Bool.eq_iff_iff, teq_iff, beq_iff_eq]
  constructor
  · intro h
    have := h q hq
    unfold turnAt at this
    rw [if_pos rfl] at this
    have h2 : a q ^^^ a q = a q ^^^ (a q ^^^ x) := by rw [← this]
    rw [BitVec.xor_self, ← BitVec.xor_assoc, BitVec.xor_self, BitVec.zero_xor] at h2
    exact h2.symm
  · rintro rfl i hi
    unfold turnAt
    by_cases e : i = q <;> simp [e]
theorem mac1 {B H n c kn kc : Nat} {W : World} {k g : Nat → BitVec 8} {p kp : Option Addr} {t : TypeId} (hk : Kc B W) (hB : B ≤ W.heap.size) (hW : W.heap[H]? = some (.cells #[.slice p n c] t (0, 0))) (hkn : kn ≤ 2147483648) (hkc : kn ≤ kc) (hkm : kc ≤ maxLen)
    (hkr : Reads W.heap.size W kp kn (fun j => .int .u8 (ub (k j)))) (hc : n ≤ c) (hm : c ≤ maxLen) (hr : Reads W.heap.size W p n (fun j => .int .u8 (ub (g j)))) (hn : n ≤ 2147483584) :
    Calls Tryd.prog 35 #[.slice kp kn kc, .slice (some ⟨H, 0, none⟩) 1 1] W fun e w' => e = .returned (tagV (hmac k kn g n)) ∧ Below W.heap.size W w' := by
  have hx := macOf_any B W kp kn kc k g _ 1 1 _ _ _ _ hk hB hkn hkc hkm hkr (RI.one (f := g) hW hc hm hr) (Nat.le_refl _) (by decide) (by omega) (by rw [pos_one]; exact hn) (fun i hi j hj => by rw [show i = 0 by omega]; simp [pos])
  rw [pos_one] at hx
  exact hx

end Go.Proofs.YtoocfkaclhgjeaaDoor
