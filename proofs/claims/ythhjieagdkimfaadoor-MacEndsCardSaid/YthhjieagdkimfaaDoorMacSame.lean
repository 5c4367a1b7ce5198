/-
  The walk of the law MacSame.
-/
import Derived.Test.YthhjieagdkimfaaDoorMacParts
namespace Go.Proofs.YthhjieagdkimfaaDoor
open Go.RowKit
set_option linter.unusedVariables false
set_option linter.unusedSimpArgs false

/-- two boxed tags -/
structure S2 (B : Nat) (w : World) (a b : Nat → BitVec 8) (W : World) : Prop where
  ba : BT W w.heap.size 32 a
  bb : BT W (w.heap.size + 1) 32 b
  kc : Kc B W
  bel : Below w.heap.size w W
  lo : B ≤ w.heap.size
/-- and two more -/
structure S4 (B : Nat) (w : World) (a b c t : Nat → BitVec 8) (TC TT : Nat) (W : World) : Prop where
  s2 : S2 B w a b W
  bc : BT W TC 32 c
  bt : BT W TT 32 t
section
variable {B TC TT : Nat} {w W W' : World} {a b c t : Nat → BitVec 8}
theorem S2.go (h : S2 B w a b W) (g : Below W.heap.size W W') : S2 B w a b W' :=
  ⟨h.ba.below' g, h.bb.below' g, h.kc.below (g.mono (Nat.le_trans h.lo h.bel.size)), h.bel.trans (g.mono h.bel.size), h.lo⟩
theorem S2.alloc (h : S2 B w a b W) (o : Obj) : S2 B w a b (W.alloc o) := h.go ((Below.refl _ _).alloc (Nat.le_refl _) o)
theorem S2.gr {hb : Nat} (h : S2 B w a b W) (g : W.grownBy W' (some hb)) (hh : w.heap.size + 1 < hb) : S2 B w a b W' :=
  ⟨h.ba.gr g (by omega), h.bb.gr g (by omega), h.kc.below (gr_below g (Nat.le_trans h.lo (by omega)) (Nat.le_trans h.lo h.bel.size)), h.bel.grown g h.bel.size (by rintro q ⟨⟩; omega), h.lo⟩
theorem S4.go (h : S4 B w a b c t TC TT W) (g : Below W.heap.size W W') : S4 B w a b c t TC TT W' := ⟨h.s2.go g, h.bc.below' g, h.bt.below' g⟩
theorem S4.drew (h : S4 B w a b c t TC TT W) : S4 B w a b c t TC TT W.drew := h.go (Below.refl _ _).drew
theorem S4.alloc (h : S4 B w a b c t TC TT W) (o : Obj) : S4 B w a b c t TC TT (W.alloc o) := h.go ((Below.refl _ _).alloc (Nat.le_refl _) o)
theorem tag_load {S : World → Prop} {ops : Array Oper} {o : Oper} {ac : Act} {x : Operand} {T : Nat} {s : Nat → BitVec 8} (hS : ∀ w, S w → BT w T 32 s) (h1 : Region.wanted o (yielded ops ac.tmps) = true) (h2 : o.op = .load 32 x) (h3 : ac.eval x = .pointer (some ⟨T, 0, none⟩)) : YieldsIf Tryd.prog ops S o (tagV s) ac :=
  yieldsIf_load_mid h1 32 x h2 T 0 h3 (tagC s) _ (fun w' hw' => (hS w' hw').range) Tryd.underlying32 rfl (by simp [infoTag, tagC_len])
end
/-- a tag, one byte of which is turned -/
def turnAt (a : Nat → BitVec 8) (q : Nat) (x : BitVec 8) : Nat → BitVec 8 := fun i => if i = q then a i ^^^ x else a i
theorem turnAt_teq (a : Nat → BitVec 8) (q : Nat) (x : BitVec 8) (hq : q < 32) : teq a (turnAt a q x) = (x == 0#8) := by
  rw [Bool.eq_iff_iff, teq_iff, beq_iff_eq]
  constructor
  · intro h
    have := h q hq
    unfold turnAt at this
    rw [if_pos rfl] at this
    have h2 : a q ^^^ a q = a q ^^^ (a q ^^^ x) := by rw [← this]
    rw [BitVec.xor_self, ← BitVec.xor_assoc, BitVec.xor_self, BitVec.zero_xor] at h2
    exact h2.symm
  · rintro rfl i hi
    unfold turnAt
    by_cases e : i = q <;> simp [e]
/-- one row, and a tag -/
theorem check1 {B H n c kn kc : Nat} {W : World} {k g t' : Nat → BitVec 8} {p kp : Option Addr} {t : TypeId} (hk : Kc B W) (hB : B ≤ W.heap.size) (hW : W.heap[H]? = some (.cells #[.slice p n c] t (0, 0))) (hkn : kn ≤ 2147483648) (hkc : kn ≤ kc) (hkm : kc ≤ maxLen)
    (hkr : Reads W.heap.size W kp kn (fun j => .int .u8 (ub (k j)))) (hc : n ≤ c) (hm : c ≤ maxLen) (hr : Reads W.heap.size W p n (fun j => .int .u8 (ub (g j)))) (hn : n ≤ 2147483584) :
    Calls Tryd.prog 24 #[.slice kp kn kc, tagV t', .slice (some ⟨H, 0, none⟩) 1 1] W fun e w' => e = .returned (.int .i64 (chk (teq (hmac k kn g n) t'))) ∧ Below W.heap.size W w' := by
  have hx := check_any B W kp kn kc k t' g _ 1 1 _ _ _ _ hk hB hkn hkc hkm hkr (RI.one (f := g) hW hc hm hr) (Nat.le_refl _) (by decide) (by omega) (by rw [pos_one]; exact hn) (fun i hi j hj => by rw [show i = 0 by omega]; simp [pos])
  rw [pos_one] at hx
  exact hx
theorem mac1 {B H n c kn kc : Nat} {W : World} {k g : Nat → BitVec 8} {p kp : Option Addr} {t : TypeId} (hk : Kc B W) (hB : B ≤ W.heap.size) (hW : W.heap[H]? = some (.cells #[.slice p n c] t (0, 0))) (hkn : kn ≤ 2147483648) (hkc : kn ≤ kc) (hkm : kc ≤ maxLen)
    (hkr : Reads W.heap.size W kp kn (fun j => .int .u8 (ub (k j)))) (hc : n ≤ c) (hm : c ≤ maxLen) (hr : Reads W.heap.size W p n (fun j => .int .u8 (ub (g j)))) (hn : n ≤ 2147483584) :
    Calls Tryd.prog 22 #[.slice kp kn kc, .slice (some ⟨H, 0, none⟩) 1 1] W fun e w' => e = .returned (tagV (hmac k kn g n)) ∧ Below W.heap.size W w' := by
  have hx := macOf_any B W kp kn kc k g _ 1 1 _ _ _ _ hk hB hkn hkc hkm hkr (RI.one (f := g) hW hc hm hr) (Nat.le_refl _) (by decide) (by omega) (by rw [pos_one]; exact hn) (fun i hi j hj => by rw [show i = 0 by omega]; simp [pos])
  rw [pos_one] at hx
  exact hx

end Go.Proofs.YthhjieagdkimfaaDoor
