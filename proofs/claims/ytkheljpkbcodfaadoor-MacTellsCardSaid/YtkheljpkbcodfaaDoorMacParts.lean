/-
  The walk of the law MacParts.
-/
import Derived.Test.YtkheljpkbcodfaaDoorMacAwake
import Derived.Test.YtkheljpkbcodfaaDoorSlices
import Derived.Test.YtkheljpkbcodfaaDoorRegs
namespace Go.Proofs.YtkheljpkbcodfaaDoor
open Go.RowKit
set_option linter.unusedVariables false
set_option linter.unusedSimpArgs false

theorem pos_three (n1 n2 n3 : Nat) : pos (fst3 n1 n2 n3) 3 = n1 + n2 + n3 := by simp [pos, fst3]
theorem RI.three {W : World} {H n1 c1 n2 c2 n3 c3 : Nat} {p1 p2 p3 : Option Addr} {t : TypeId} {f1 f2 f3 : Nat → BitVec 8} (hW : W.heap[H]? = some (.cells #[.slice p1 n1 c1, .slice p2 n2 c2, .slice p3 n3 c3] t (0, 0)))
    (h1 : n1 ≤ c1 ∧ c1 ≤ maxLen) (h2 : n2 ≤ c2 ∧ c2 ≤ maxLen) (h3 : n3 ≤ c3 ∧ c3 ≤ maxLen)
    (r1 : Reads W.heap.size W p1 n1 (fun j => .int .u8 (ub (f1 j)))) (r2 : Reads W.heap.size W p2 n2 (fun j => .int .u8 (ub (f2 j)))) (r3 : Reads W.heap.size W p3 n3 (fun j => .int .u8 (ub (f3 j)))) :
    RI W (some ⟨H, 0, none⟩) 3 (fst3 p1 p2 p3) (fst3 n1 n2 n3) (fst3 c1 c2 c3) (fst3 f1 f2 f3) :=
  ⟨reads_at hW (fun i hi => by
    match i, hi with
    | 0, _ => rfl
    | 1, _ => rfl
    | 2, _ => rfl), fun i hi => by
    match i, hi with
    | 0, _ => exact h1
    | 1, _ => exact h2
    | 2, _ => exact h3, fun i hi => by
    match i, hi with
    | 0, _ => exact r1
    | 1, _ => exact r2
    | 2, _ => exact r3⟩
theorem gr_none {B : Nat} {w w' : World} (h : w.grownBy w' none) (hB : B ≤ w.heap.size) : Below B w w' := ⟨h.os, h.tape, h.output, h.size, fun k hk => h.block k (by omega) (by simp)⟩
/-- what stays while the law asks: the tag s lies at block T -/
structure MV (B : Nat) (w : World) (T : Nat) (s : Nat → BitVec 8) (W : World) : Prop where
  tag : BT W T 32 s
  kc : Kc B W
  bel : Below w.heap.size w W
  lo : B ≤ w.heap.size
section
variable {B T : Nat} {w W W' : World} {s : Nat → BitVec 8}
theorem MV.drew (h : MV B w T s W) : MV B w T s W.drew := ⟨h.tag.drew, h.kc.below (Below.refl _ _).drew, h.bel.drew, h.lo⟩
theorem MV.go (h : MV B w T s W) (g : Below W.heap.size W W') : MV B w T s W' :=
  ⟨h.tag.below' g, h.kc.below (g.mono (Nat.le_trans h.lo h.bel.size)), h.bel.trans (g.mono h.bel.size), h.lo⟩
theorem MV.alloc (h : MV B w T s W) (o : Obj) : MV B w T s (W.alloc o) := h.go ((Below.refl _ _).alloc (Nat.le_refl _) o)
theorem MV.gr {hb : Nat} (h : MV B w T s W) (g : W.grownBy W' (some hb)) (hT : T ≠ hb) (hh : w.heap.size ≤ hb) : MV B w T s W' :=
  ⟨h.tag.gr g hT, h.kc.below (gr_below g (Nat.le_trans h.lo hh) (Nat.le_trans h.lo h.bel.size)), h.bel.grown g h.bel.size (by rintro q ⟨⟩; exact hh), h.lo⟩
end
/-- the same, and a row of bytes lies there -/
structure MR (B : Nat) (w : World) (T : Nat) (s : Nat → BitVec 8) (p : Option Addr) (n : Nat) (f : Nat → BitVec 8) (W : World) : Prop where
  mv : MV B w T s W
  row : Reads W.heap.size W p n (fun i => .int .u8 (ub (f i)))
section
variable {B T n : Nat} {w W W' : World} {s f : Nat → BitVec 8} {p : Option Addr}
theorem MR.go (h : MR B w T s p n f W) (g : Below W.heap.size W W') : MR B w T s p n f W' := ⟨h.mv.go g, h.row.to g⟩
theorem MR.drew (h : MR B w T s p n f W) : MR B w T s p n f W.drew := h.go (Below.refl _ _).drew
theorem MR.alloc (h : MR B w T s p n f W) (o : Obj) : MR B w T s p n f (W.alloc o) := h.go ((Below.refl _ _).alloc (Nat.le_refl _) o)
theorem MR.load {ops : Array Oper} {o : Oper} {a : Act} {x : Operand} (h1 : Region.wanted o (yielded ops a.tmps) = true) (h2 : o.op = .load 32 x) (h3 : a.eval x = .pointer (some ⟨T, 0, none⟩)) : YieldsIf Tryd.prog ops (MR B w T s p n f) o (tagV s) a :=
  yieldsIf_load_mid h1 32 x h2 T 0 h3 (tagC s) _ (fun w' hw' => hw'.mv.tag.range) Tryd.underlying32 rfl (by simp [infoTag, tagC_len])
end
/-- a key and noughts behind -/
def padK (k : Nat → BitVec 8) (n : Nat) : Nat → BitVec 8 := fun i => if i < n then k i else 0#8
theorem padK_congr (k : Nat → BitVec 8) (n m : Nat) (g : Nat → BitVec 8) (l : Nat) (h : n ≤ m) (hm : m ≤ 64) : hmac (padK k n) m g l = hmac k n g l := by
  unfold hmac
  refine hmb_congr (fun i hi => ?_) (fun _ _ => rfl)
  unfold kblk padK
  simp only [hm, show n ≤ 64 by omega, if_true]
  by_cases h1 : i < n
  · rw [if_pos h1, if_pos (by omega)]
  · rw [if_neg h1]; by_cases h2 : i < m <;> simp [h2]
theorem ownK_congr (k : Nat → BitVec 8) (n : Nat) (g : Nat → BitVec 8) (l : Nat) (h : 64 < n) : hmac (sha k n) 32 g l = hmac k n g l := by
  unfold hmac
  refine hmb_congr (fun i hi => ?_) (fun _ _ => rfl)
  unfold kblk
  simp only [show (32 : Nat) ≤ 64 by omega, show ¬ n ≤ 64 by omega, if_true, if_false]
theorem padK_list (k : Nat → BitVec 8) (n : Nat) : (List.range n).map (fun i => Value.int .u8 (ub (k i))) = (List.range n).map (fun i => Value.int .u8 (ub (padK k n i))) :=
  List.map_congr_left fun i hi => by unfold padK; rw [if_pos (List.mem_range.1 hi)]
theorem padK_snoc (k : Nat → BitVec 8) (n m : Nat) (h : n ≤ m) : (List.range m).map (fun i => Value.int .u8 (ub (padK k n i))) ++ [Value.int .u8 0] = (List.range (m + 1)).map (fun i => Value.int .u8 (ub (padK k n i))) := by
  rw [List.range_succ, List.map_append]
  have e : padK k n m = 0#8 := by unfold padK; rw [if_neg (by omega)]
  simp [e]; rfl
/-- one row -/
theorem MV.mac1 {B T H n c kn kc : Nat} {w W : World} {s k g : Nat → BitVec 8} {p kp : Option Addr} {t : TypeId} (h : MV B w T s W) (hW : W.heap[H]? = some (.cells #[.slice p n c] t (0, 0))) (hkn : kn ≤ 2147483648) (hkc : kn ≤ kc) (hkm : kc ≤ maxLen)
    (hkr : Reads W.heap.size W kp kn (fun j => .int .u8 (ub (k j)))) (hc : n ≤ c) (hm : c ≤ maxLen) (hr : Reads w.heap.size w p n (fun j => .int .u8 (ub (g j)))) (hn : n ≤ 2147483584) :
    Calls Tryd.prog 27 #[.slice kp kn kc, .slice (some ⟨H, 0, none⟩) 1 1] W fun e w' => e = .returned (tagV (hmac k kn g n)) ∧ Below W.heap.size W w' := by
  have hx := macOf_any B W kp kn kc k g _ 1 1 _ _ _ _ h.kc (Nat.le_trans h.lo h.bel.size) hkn hkc hkm hkr (RI.one (f := g) hW hc hm (hr.to h.bel)) (Nat.le_refl _) (by decide) (by omega) (by rw [pos_one]; exact hn) (fun i hi j hj => by rw [show i = 0 by omega]; simp [pos])
  rw [pos_one] at hx
  exact hx
/-- three rows, the second nil -/
theorem MV.mac3 {B T H q n c1 c2 kn kc : Nat} {w W : World} {s k g : Nat → BitVec 8} {p1 p2 kp : Option Addr} {t : TypeId} (h : MV B w T s W) (hW : W.heap[H]? = some (.cells #[.slice p1 q c1, .slice none 0 0, .slice p2 (n - q) c2] t (0, 0))) (hq : q ≤ n) (hkn : kn ≤ 2147483648) (hkc : kn ≤ kc) (hkm : kc ≤ maxLen)
    (hkr : Reads w.heap.size w kp kn (fun j => .int .u8 (ub (k j)))) (h1 : q ≤ c1 ∧ c1 ≤ maxLen) (h2 : n - q ≤ c2 ∧ c2 ≤ maxLen) (hr1 : Reads w.heap.size w p1 q (fun j => .int .u8 (ub (g j)))) (hr2 : Reads w.heap.size w p2 (n - q) (fun j => .int .u8 (ub (g (q + j))))) (hn : n ≤ 2147483584) :
    Calls Tryd.prog 27 #[.slice kp kn kc, .slice (some ⟨H, 0, none⟩) 3 3] W fun e w' => e = .returned (tagV (hmac k kn g n)) ∧ Below W.heap.size W w' := by
  have hx := macOf_any B W kp kn kc k g _ 3 3 _ _ _ _ h.kc (Nat.le_trans h.lo h.bel.size) hkn hkc hkm (hkr.to h.bel) (RI.three (f1 := g) (f2 := fun _ => 0#8) (f3 := fun j => g (q + j)) hW h1 ⟨Nat.le_refl _, by decide⟩ h2 (hr1.to h.bel) (.inl rfl) (hr2.to h.bel)) (Nat.le_refl _) (by decide) (by omega) (by rw [pos_three]; omega) (fun i hi j hj => by
    match i, hi with
    | 0, _ => simp [fst3, pos]
    | 1, _ => exact absurd hj (by simp [fst3])
    | 2, _ => simp [fst3, pos])
  rw [pos_three, show q + 0 + (n - q) = n by omega] at hx
  exact hx
/-- two rows, and a tag -/
theorem MV.chk2 {B T H q n c1 c2 kn kc : Nat} {w W : World} {s k g t' : Nat → BitVec 8} {p1 p2 kp : Option Addr} {t : TypeId} (h : MV B w T s W) (hW : W.heap[H]? = some (.cells #[.slice p1 q c1, .slice p2 (n - q) c2] t (0, 0))) (hq : q ≤ n) (hkn : kn ≤ 2147483648) (hkc : kn ≤ kc) (hkm : kc ≤ maxLen)
    (hkr : Reads w.heap.size w kp kn (fun j => .int .u8 (ub (k j)))) (h1 : q ≤ c1 ∧ c1 ≤ maxLen) (h2 : n - q ≤ c2 ∧ c2 ≤ maxLen) (hr1 : Reads w.heap.size w p1 q (fun j => .int .u8 (ub (g j)))) (hr2 : Reads w.heap.size w p2 (n - q) (fun j => .int .u8 (ub (g (q + j))))) (hn : n ≤ 2147483584) :
    Calls Tryd.prog 28 #[.slice kp kn kc, tagV t', .slice (some ⟨H, 0, none⟩) 2 2] W fun e w' => e = .returned (.int .i64 (chk (teq (hmac k kn g n) t'))) ∧ Below W.heap.size W w' := by
  have hx := check_any B W kp kn kc k t' g _ 2 2 _ _ _ _ h.kc (Nat.le_trans h.lo h.bel.size) hkn hkc hkm (hkr.to h.bel) (RI.two (f := g) (f2 := fun j => g (q + j)) hW h1.1 h1.2 h2.1 h2.2 (hr1.to h.bel) (hr2.to h.bel)) (Nat.le_refl _) (by decide) (by omega) (by rw [pos_two]; omega) (fun i hi j hj => by
    match i, hi with
    | 0, _ => simp [fst3, pos]
    | 1, _ => simp [fst3, pos])
  rw [pos_two, show q + (n - q) = n by omega] at hx
  exact hx
set_option maxHeartbeats 4000000 in
set_option maxRecDepth 100000 in
theorem macParts_walk (kp : Option Addr) (kn kc : Nat) (k : Nat → BitVec 8) (p : Option Addr) (n c : Nat) (g : Nat → BitVec 8) (at_ noughts : Int) (w : World) (hk : Kc w.heap.size w)
    (hkr : Reads w.heap.size w kp kn (fun i => .int .u8 (ub (k i)))) (hr : Reads w.heap.size w p n (fun i => .int .u8 (ub (g i)))) (hkc : kn ≤ kc) (hc : n ≤ c) (hkm : kc ≤ 140737488351232) (hm : c ≤ 140737488351232) :
    Calls Tryd.prog 8 #[.slice kp kn kc, .slice p n c, .int .i64 at_, .int .i64 noughts] w fun e w' => e = .returned (.bool true) ∧ Below w.heap.size w w' := by
  have HK := Lib.hid hk
  have HKR := Lib.hid hkr
  have HR := Lib.hid hr
  have M48 := Lib.hid (show (140737488351232 : Nat) ≤ maxLen by decide)
  clear hk hkr hr
  by_cases hlen : 700 < (kn : Int) + (n : Int)
  · go_enter Tryd.func8, Tryd.ntmps8
    go_wp2_with fail
    refine (awake3 w.heap.size w HK.out (Nat.le_refl _)).mono ?_
    rintro e w1 ⟨rfl, hb1⟩
    go_wp2
    go_ret
    exact ⟨rfl, hb1⟩
  · go_enter Tryd.func8, Tryd.ntmps8
    go_wp2_with fail
    refine (awake3 w.heap.size w HK.out (Nat.le_refl _)).mono ?_
    rintro e w1 ⟨rfl, hb1⟩
    have HB1 := Lib.hid hb1
    clear hb1
    go_upto_region 5 with (fail)
    refine wp_region_lit ?_
    refine wpList_plain rfl (fun K hK => ?_)
    go_simp
    refine hK _ _ ?_
    clear hK K
    refine wpList_plain rfl (fun K hK => ?_)
    go_simp
    refine hK _ _ ?_
    clear hK K
    refine wpList_plain rfl (fun K hK => ?_)
    go_simp
    refine hK _ _ ?_
    clear hK K
    have hMV0 : Kc w.heap.size (w1.alloc (.cells #[.slice p n c] 27)) := HK.out.below (HB1.out.alloc HB1.out.size _)
    have hof := macOf_any w.heap.size (w1.alloc (.cells #[.slice p n c] 27)) kp kn kc k g _ 1 1 _ _ _ _ hMV0 (by have := HB1.out.size; simp; omega) (by omega) hkc (Nat.le_trans hkm M48.out) (HKR.out.to (HB1.out.alloc HB1.out.size _)) (RI.one (f := g) (laid_at rfl) hc (Nat.le_trans hm M48.out) (HR.out.to (HB1.out.alloc HB1.out.size _))) (Nat.le_refl _) (by decide) (by omega) (by rw [pos_one]; omega) (fun i hi j hj => by rw [show i = 0 by omega]; simp [pos])
    rw [pos_one] at hof
    refine wpList_plain rfl (fun K hK => ?_)
    go_simp
    refine hof.mono ?_
    clear hof hMV0
    rintro e W2 ⟨rfl, hb2⟩
    dsimp only
    refine hK _ _ ?_
    clear hK K
    obtain ⟨s, hs⟩ : ∃ s, s = hmac k kn g n := ⟨_, rfl⟩
    rw [← hs]
    have HS := Lib.hid hs
    have HB2 := Lib.hid (show Below w.heap.size w W2 from (HB1.out.alloc HB1.out.size _).trans (hb2.mono (by have := HB1.out.size; simp; omega)))
    clear hb2 hs
    refine wpList_plain rfl (fun K hK => ?_)
    go_simp
    refine hK _ _ ?_
    clear hK K
    have ht0 : BT (W2.alloc (.cells (List.replicate 32 (Value.int .u8 0)).toArray 32)) W2.heap.size 32 (fun _ => 0#8) := BT.of_cells (laid_at rfl) (fun i hi => zero_at 32 i hi)
    refine wpList_store_mid rfl 32 _ _ rfl W2.heap.size 0 (tagC s).toArray rfl rfl (by simpa [tagC_len] using ht0.there 32 (Nat.le_refl _)) (by simp [infoTag, tagC_len]) (tagC_one _) ?_
    rw [List.toList_toArray]
    have ht5 : BT ((W2.alloc (.cells (List.replicate 32 (Value.int .u8 0)).toArray 32)).setCells W2.heap.size 0 (tagC s)) W2.heap.size 32 s := ht0.setFirst 32 (Nat.le_refl _) _ rfl fun j h1 h2 => by omega
    have hg5 : W2.grownBy ((W2.alloc (.cells (List.replicate 32 (Value.int .u8 0)).toArray 32)).setCells W2.heap.size 0 (tagC s)) (some W2.heap.size) := (World.grownBy_alloc W2 _ _).trans (gr_setCells _ _ _)
    show Exit.then _ _ Exit.normal _ ((W2.alloc (.cells (List.replicate 32 (Value.int .u8 0)).toArray 32)).setCells W2.heap.size 0 (tagC s))
    generalize (W2.alloc (.cells (List.replicate 32 (Value.int .u8 0)).toArray 32)).setCells W2.heap.size 0 (tagC s) = W3 at ht5 hg5 ⊢
    have hz2 := HB2.out.size
    have hbel3 := HB2.out.grown hg5 HB2.out.size (by rintro q ⟨⟩; omega)
    have HV := Lib.hid (show MV w.heap.size w W2.heap.size s W3 from ⟨ht5, HK.out.below hbel3, hbel3, Nat.le_refl _⟩)
    clear ht5 hg5 ht0 hbel3 HB2 HB1
    go_wp2_with fail
    refine (pick_any at_ ((n : Int) + 1) W3 (by omega) (by omega)).mono ?_
    rintro e w' ⟨⟨q, hq, rfl⟩, rfl⟩
    obtain ⟨p1, hsl1, hr1⟩ := slice_to p n c q (by omega) hc
    obtain ⟨p2, hsl2, hr2⟩ := slice_from p n c q (by omega) hc
    have HQ := Lib.hid (show q ≤ n by omega)
    have R1 := Lib.hid (hr1 _ _ _ HR.out)
    have R2 := Lib.hid (hr2 _ _ _ HR.out)
    clear hr1 hr2 hq
    obtain ⟨T, hT⟩ : ∃ T, T = tagV s := ⟨_, rfl⟩
    have hneq : ∀ w, (binOp .neq 32 T T).run Tryd.prog w = .ok (.bool false) w := by rw [hT]; exact neq_tag _
    have hgd : ∀ op x y w, (eqGuard op 32 x y T T).run Tryd.prog w = .ok () w := by rw [hT]; exact guard_tag _ _
    have HT := Lib.hid (show T = tagV (hmac k kn g n) by rw [hT, HS.out])
    have HTS := Lib.hid hT
    clear hT
    have HCK := Lib.hid (show ∀ (W : World) (H : Nat), W.heap[H]? = some (.cells #[.slice p1 q c, .slice p2 (n - q) (c - q)] 27 (0, 0)) → MV w.heap.size w W2.heap.size s W →
        Calls Tryd.prog 28 #[.slice kp kn kc, T, .slice (some ⟨H, 0, none⟩) 2 2] W fun e w' => e = .returned (.int .i64 0) ∧ Below W.heap.size W w' from fun W H hW hV => by
      have h := hV.chk2 (t' := s) hW HQ.out (by omega) hkc (Nat.le_trans hkm M48.out) HKR.out ⟨by have := HQ.out; omega, Nat.le_trans hm M48.out⟩ ⟨by have := HQ.out; omega, by have := M48.out; omega⟩ R1.out R2.out (by omega)
      rw [← HS.out, teq_self, ← HTS.out] at h
      exact h)
    have HM3 := Lib.hid (show ∀ (W : World) (H : Nat), W.heap[H]? = some (.cells #[.slice p1 q c, .slice none 0 0, .slice p2 (n - q) (c - q)] 27 (0, 0)) → MV w.heap.size w W2.heap.size s W →
        Calls Tryd.prog 27 #[.slice kp kn kc, .slice (some ⟨H, 0, none⟩) 3 3] W fun e w' => e = .returned T ∧ Below W.heap.size W w' from fun W H hW hV => by
      rw [HT.out]
      exact hV.mac3 hW HQ.out (by omega) hkc (Nat.le_trans hkm M48.out) HKR.out ⟨by have := HQ.out; omega, Nat.le_trans hm M48.out⟩ ⟨by have := HQ.out; omega, by have := M48.out; omega⟩ R1.out R2.out (by omega))
    have HLD := Lib.hid (show ∀ (ops : Array Oper) (o : Oper) (a : Act) (x : Operand), Region.wanted o (yielded ops a.tmps) = true → o.op = .load 32 x → a.eval x = .pointer (some ⟨W2.heap.size, 0, none⟩) → YieldsIf Tryd.prog ops (MV w.heap.size w W2.heap.size s) o T a from fun ops o a x h1 h2 h3 => by
      rw [HTS.out]
      exact yieldsIf_load_mid h1 32 x h2 W2.heap.size 0 h3 (tagC s) _ (fun w' hw' => hw'.tag.range) Tryd.underlying32 rfl (by simp [infoTag, tagC_len]))
    go_upto_region 7 with (fail)
    refine wp_region_noPanic ?_
    refine wp_region_start (n := 24) (l := #[false, false, false, false, false, false, false, false, false, false, false, false, false, false, false, false, false, false, false, false, false, false, false, false]) (S := (fun w' => MV w.heap.size w W2.heap.size s w')) (by kernel_rfl) rfl (by kernel_rfl) (by (repeat (first | exact HV.out | apply MV.drew | apply MV.alloc | (refine MV.go ?_ (by assumption))))) (fun hHeld => ?_)
    refine take_to (i := 0) (d := some 31) (v := ?_) (l' := #[true, false, false, false, false, false, false, false, false, false, false, false, false, false, false, false, false, false, false, false, false, false, false, false]) rfl rfl (by kernel_rfl) (by kernel_rfl) (by kernel_rfl) (by kernel_rfl) (fun _ _ _ h => h) (Or.inl ⟨by rfl, ?_⟩) (by assumption) ?_; rotate_left; · (intro w' hSw; (try dsimp only at hSw); go_simp; (try with_reducible rfl))
    try simp only [Act.put, List.setIfInBounds_toArray, List.set_cons_zero, List.set_cons_succ]
    refine take_to (i := 1) (d := some 32) (v := ?_) (l' := #[true, true, false, false, false, false, false, false, false, false, false, false, false, false, false, false, false, false, false, false, false, false, false, false]) rfl rfl (by kernel_rfl) (by kernel_rfl) (by kernel_rfl) (by kernel_rfl) (fun _ _ _ h => h) (Or.inl ⟨by rfl, ?_⟩) (by assumption) ?_; rotate_left; · (intro w' hSw; (try dsimp only at hSw); go_simp; (try with_reducible rfl))
    try simp only [Act.put, List.setIfInBounds_toArray, List.set_cons_zero, List.set_cons_succ]
    refine take_to (i := 2) (d := some 33) (v := ?_) (l' := #[true, true, true, false, false, false, false, false, false, false, false, false, false, false, false, false, false, false, false, false, false, false, false, false]) rfl rfl (by kernel_rfl) (by kernel_rfl) (by kernel_rfl) (by kernel_rfl) (fun _ _ _ h => h) (Or.inl ⟨by rfl, ?_⟩) (by assumption) ?_; rotate_left; · (intro w' hSw; (try dsimp only at hSw); go_simp; (try with_reducible rfl))
    try simp only [Act.put, List.setIfInBounds_toArray, List.set_cons_zero, List.set_cons_succ]
    refine take_to (i := 3) (d := some 34) (v := ?_) (l' := #[true, true, true, true, false, false, false, false, false, false, false, false, false, false, false, false, false, false, false, false, false, false, false, false]) rfl rfl (by kernel_rfl) (by kernel_rfl) (by kernel_rfl) (by kernel_rfl) (fun _ _ _ h => h) (Or.inl ⟨by rfl, ?_⟩) (by assumption) ?_; rotate_left; · (intro w' hSw; (try dsimp only at hSw); go_simp; (try with_reducible rfl))
    try simp only [Act.put, List.setIfInBounds_toArray, List.set_cons_zero, List.set_cons_succ]
    refine take_to (i := 4) (d := some 35) (v := ?_) (l' := #[true, true, true, true, true, false, false, false, false, false, false, false, false, false, false, false, false, false, false, false, false, false, false, false]) rfl rfl (by kernel_rfl) (by kernel_rfl) (by kernel_rfl) (by kernel_rfl) (fun _ _ _ h => h) (Or.inl ⟨by rfl, ?_⟩) (by assumption) ?_; rotate_left; · (intro w' hSw; (try dsimp only at hSw); go_simp; (try with_reducible rfl))
    try simp only [Act.put, List.setIfInBounds_toArray, List.set_cons_zero, List.set_cons_succ]
    refine take_to (i := 5) (d := some 36) (v := ?_) (l' := #[true, true, true, true, true, true, false, false, false, false, false, false, false, false, false, false, false, false, false, false, false, false, false, false]) rfl rfl (by kernel_rfl) (by kernel_rfl) (by kernel_rfl) (by kernel_rfl) (fun _ _ _ h => h) (Or.inl ⟨by rfl, ?_⟩) (by assumption) ?_; rotate_left; · (intro w' hSw; (try dsimp only at hSw); go_simp; (try with_reducible rfl))
    try simp only [Act.put, List.setIfInBounds_toArray, List.set_cons_zero, List.set_cons_succ]
    refine take_to (i := 6) (d := some 37) (v := ?_) (l' := #[true, true, true, true, true, true, true, false, false, false, false, false, false, false, false, false, false, false, false, false, false, false, false, false]) rfl rfl (by kernel_rfl) (by kernel_rfl) (by kernel_rfl) (by kernel_rfl) (fun _ _ _ h => h) (Or.inl ⟨by rfl, ?_⟩) (by assumption) ?_; rotate_left; · (intro w' hSw; (try dsimp only at hSw); go_simp; (try with_reducible rfl))
    try simp only [Act.put, List.setIfInBounds_toArray, List.set_cons_zero, List.set_cons_succ]
    refine take_to (i := 9) (d := some 40) (v := T) (l' := #[true, true, true, true, true, true, true, false, false, true, false, false, false, false, false, false, false, false, false, false, false, false, false, false]) rfl rfl (by kernel_rfl) (by kernel_rfl) (by kernel_rfl) (by kernel_rfl) (fun _ _ _ h => h) ?_ (by assumption) ?_
    · exact HLD.out _ _ _ _ (by rfl) rfl rfl
    try simp only [Act.put, List.setIfInBounds_toArray, List.set_cons_zero, List.set_cons_succ]
    refine one_to (i := 7) (l' := #[true, true, true, true, true, true, true, true, false, true, false, false, false, false, false, false, false, false, false, false, false, false, false, false]) rfl (by kernel_rfl) (by kernel_rfl) (fun K hK => ?_)
    go_simp
    refine hK.out _ _ (by (repeat (first | exact HV.out | apply MV.drew | apply MV.alloc | (refine MV.go ?_ (by assumption))))) (fun hHeld => ?_)
    clear hK K
    try simp only [Act.put, List.setIfInBounds_toArray, List.set_cons_zero, List.set_cons_succ]
    refine one_to (i := 8) (l' := #[true, true, true, true, true, true, true, true, true, true, false, false, false, false, false, false, false, false, false, false, false, false, false, false]) rfl (by kernel_rfl) (by kernel_rfl) (fun K hK => ?_)
    go_simp
    refine (HM3.out _ _ (by (try simp only [heap_drew]); repeat (first | (apply laid_at; simp; done) | apply laid_old)) (by repeat (first | exact HV.out | apply MV.drew | apply MV.alloc | (refine MV.go ?_ (by assumption))))).mono ?_
    rintro e w5 ⟨rfl, hb5⟩
    dsimp only
    refine hK.out _ _ (by (repeat (first | exact HV.out | apply MV.drew | apply MV.alloc | (refine MV.go ?_ (by assumption))))) (fun hHeld => ?_)
    clear hK K
    try simp only [Act.put, List.setIfInBounds_toArray, List.set_cons_zero, List.set_cons_succ]
    refine take_to (i := 10) (d := some 41) (v := ?_) (l' := #[true, true, true, true, true, true, true, true, true, true, true, false, false, false, false, false, false, false, false, false, false, false, false, false]) rfl rfl (by kernel_rfl) (by kernel_rfl) (by kernel_rfl) (by kernel_rfl) (fun _ _ _ h => h) (Or.inl ⟨by rfl, ?_⟩) (by assumption) ?_; rotate_left; · (intro w' hSw; (try dsimp only at hSw); go_simp; (try with_reducible rfl))
    try simp only [Act.put, List.setIfInBounds_toArray, List.set_cons_zero, List.set_cons_succ]
    refine take_to (i := 11) (d := some 42) (v := ?_) (l' := #[true, true, true, true, true, true, true, true, true, true, true, true, false, false, false, false, false, false, false, false, false, false, false, false]) rfl rfl (by kernel_rfl) (by kernel_rfl) (by kernel_rfl) (by kernel_rfl) (fun _ _ _ h => h) (Or.inl ⟨by rfl, ?_⟩) (by assumption) ?_; rotate_left; · (intro w' hSw; (try dsimp only at hSw); go_simp; (try with_reducible rfl))
    try simp only [Act.put, List.setIfInBounds_toArray, List.set_cons_zero, List.set_cons_succ]
    refine take_to (i := 12) (d := some 43) (v := ?_) (l' := #[true, true, true, true, true, true, true, true, true, true, true, true, true, false, false, false, false, false, false, false, false, false, false, false]) rfl rfl (by kernel_rfl) (by kernel_rfl) (by kernel_rfl) (by kernel_rfl) (fun _ _ _ h => h) (Or.inl ⟨by rfl, ?_⟩) (by assumption) ?_; rotate_left; · (intro w' hSw; (try dsimp only at hSw); go_simp; (try with_reducible rfl))
    try simp only [Act.put, List.setIfInBounds_toArray, List.set_cons_zero, List.set_cons_succ]
    refine take_to (i := 13) (d := some 44) (v := T) (l' := #[true, true, true, true, true, true, true, true, true, true, true, true, true, true, false, false, false, false, false, false, false, false, false, false]) rfl rfl (by kernel_rfl) (by kernel_rfl) (by kernel_rfl) (by kernel_rfl) (fun _ _ _ h => h) ?_ (by assumption) ?_
    · exact HLD.out _ _ _ _ (by rfl) rfl rfl
    try simp only [Act.put, List.setIfInBounds_toArray, List.set_cons_zero, List.set_cons_succ]
    refine take_to (i := 14) (d := some 45) (v := ?_) (l' := #[true, true, true, true, true, true, true, true, true, true, true, true, true, true, true, false, false, false, false, false, false, false, false, false]) rfl rfl (by kernel_rfl) (by kernel_rfl) (by kernel_rfl) (by kernel_rfl) (fun _ _ _ h => h) (Or.inl ⟨by rfl, ?_⟩) (by assumption) ?_; rotate_left; · (intro w' hSw; (try dsimp only at hSw); go_simp; (try with_reducible rfl))
    try simp only [Act.put, List.setIfInBounds_toArray, List.set_cons_zero, List.set_cons_succ]
    refine take_to (i := 15) (d := some 46) (v := ?_) (l' := #[true, true, true, true, true, true, true, true, true, true, true, true, true, true, true, true, false, false, false, false, false, false, false, false]) rfl rfl (by kernel_rfl) (by kernel_rfl) (by kernel_rfl) (by kernel_rfl) (fun _ _ _ h => h) (Or.inl ⟨by rfl, ?_⟩) (by assumption) ?_; rotate_left; · (intro w' hSw; (try dsimp only at hSw); go_simp; (try with_reducible rfl))
    try simp only [Act.put, List.setIfInBounds_toArray, List.set_cons_zero, List.set_cons_succ]
    refine take_to (i := 16) (d := some 47) (v := ?_) (l' := #[true, true, true, true, true, true, true, true, true, true, true, true, true, true, true, true, true, false, false, false, false, false, false, false]) rfl rfl (by kernel_rfl) (by kernel_rfl) (by kernel_rfl) (by kernel_rfl) (fun _ _ _ h => h) (Or.inl ⟨by rfl, ?_⟩) (by assumption) ?_; rotate_left; · (intro w' hSw; (try dsimp only at hSw); go_simp; (try with_reducible rfl))
    try simp only [Act.put, List.setIfInBounds_toArray, List.set_cons_zero, List.set_cons_succ]
    refine take_to (i := 17) (d := some 48) (v := ?_) (l' := #[true, true, true, true, true, true, true, true, true, true, true, true, true, true, true, true, true, true, false, false, false, false, false, false]) rfl rfl (by kernel_rfl) (by kernel_rfl) (by kernel_rfl) (by kernel_rfl) (fun _ _ _ h => h) (Or.inl ⟨by rfl, ?_⟩) (by assumption) ?_; rotate_left; · (intro w' hSw; (try dsimp only at hSw); go_simp; (try with_reducible rfl))
    try simp only [Act.put, List.setIfInBounds_toArray, List.set_cons_zero, List.set_cons_succ]
    refine take_to (i := 18) (d := some 49) (v := ?_) (l' := #[true, true, true, true, true, true, true, true, true, true, true, true, true, true, true, true, true, true, true, false, false, false, false, false]) rfl rfl (by kernel_rfl) (by kernel_rfl) (by kernel_rfl) (by kernel_rfl) (fun _ _ _ h => h) (Or.inl ⟨by rfl, ?_⟩) (by assumption) ?_; rotate_left; · (intro w' hSw; (try dsimp only at hSw); go_simp; (try with_reducible rfl))
    try simp only [Act.put, List.setIfInBounds_toArray, List.set_cons_zero, List.set_cons_succ]
    refine take_to (i := 19) (d := some 50) (v := ?_) (l' := #[true, true, true, true, true, true, true, true, true, true, true, true, true, true, true, true, true, true, true, true, false, false, false, false]) rfl rfl (by kernel_rfl) (by kernel_rfl) (by kernel_rfl) (by kernel_rfl) (fun _ _ _ h => h) (Or.inl ⟨by rfl, ?_⟩) (by assumption) ?_; rotate_left; · (intro w' hSw; (try dsimp only at hSw); go_simp; (try with_reducible rfl))
    try simp only [Act.put, List.setIfInBounds_toArray, List.set_cons_zero, List.set_cons_succ]
    refine one_to (i := 20) (l' := #[true, true, true, true, true, true, true, true, true, true, true, true, true, true, true, true, true, true, true, true, true, false, false, false]) rfl (by kernel_rfl) (by kernel_rfl) (fun K hK => ?_)
    go_simp
    refine hK.out _ _ (by (repeat (first | exact HV.out | apply MV.drew | apply MV.alloc | (refine MV.go ?_ (by assumption))))) (fun hHeld => ?_)
    clear hK K
    try simp only [Act.put, List.setIfInBounds_toArray, List.set_cons_zero, List.set_cons_succ]
    refine one_to (i := 21) (l' := #[true, true, true, true, true, true, true, true, true, true, true, true, true, true, true, true, true, true, true, true, true, true, false, false]) rfl (by kernel_rfl) (by kernel_rfl) (fun K hK => ?_)
    go_simp
    refine (HCK.out _ _ (by (try simp only [heap_drew]); repeat (first | (apply laid_at; simp; done) | apply laid_old | (refine laid_go ?_ (by assumption); try simp only [heap_drew]))) (by repeat (first | exact HV.out | apply MV.drew | apply MV.alloc | (refine MV.go ?_ (by assumption))))).mono ?_
    rintro e w6 ⟨rfl, hb6⟩
    dsimp only
    refine hK.out _ _ (by (repeat (first | exact HV.out | apply MV.drew | apply MV.alloc | (refine MV.go ?_ (by assumption))))) (fun hHeld => ?_)
    clear hK K
    try simp only [Act.put, List.setIfInBounds_toArray, List.set_cons_zero, List.set_cons_succ]
    refine take_to (i := 22) (d := some 53) (v := ?_) (l' := #[true, true, true, true, true, true, true, true, true, true, true, true, true, true, true, true, true, true, true, true, true, true, true, false]) rfl rfl (by kernel_rfl) (by kernel_rfl) (by kernel_rfl) (by kernel_rfl) (fun _ _ _ h => h) (Or.inl ⟨by rfl, ?_⟩) (by assumption) ?_; rotate_left; · (intro w' hSw; (try dsimp only at hSw); go_simp; (try with_reducible rfl))
    try simp only [Act.put, List.setIfInBounds_toArray, List.set_cons_zero, List.set_cons_succ]
    refine take_to (i := 23) (d := some 54) (v := ?_) (l' := #[true, true, true, true, true, true, true, true, true, true, true, true, true, true, true, true, true, true, true, true, true, true, true, true]) rfl rfl (by kernel_rfl) (by kernel_rfl) (by kernel_rfl) (by kernel_rfl) (fun _ _ _ h => h) (Or.inl ⟨by rfl, ?_⟩) (by assumption) ?_; rotate_left; · (intro w' hSw; (try dsimp only at hSw); go_simp; (try with_reducible rfl))
    try simp only [Act.put, List.setIfInBounds_toArray, List.set_cons_zero, List.set_cons_succ]
    refine wpAnyH_done (by kernel_rfl) ?_ _
    refine NoPanic.normal ?_
    have hlt7 := hHeld.bel.size
    have HV7 := Lib.hid hHeld
    clear hHeld HM3 HCK hsl1 hsl2 R1 R2 HQ hneq
    have heq : ∀ w, (binOp .eql 32 T T).run Tryd.prog w = .ok (.bool true) w := by rw [HTS.out]; exact eql_tag _
    by_cases hk64 : 64 < (kn : Int)
    · go_upto_region 10 with (fail)
      refine wp_region_lit ?_
      refine wpList_plain rfl (fun K hK => ?_)
      go_simp
      refine hK _ _ ?_
      clear hK K
      refine wpList_plain rfl (fun K hK => ?_)
      go_simp
      refine hK _ _ ?_
      clear hK K
      have hof := of1 w.heap.size (w6.alloc (.cells #[.slice kp kn kc] 27)) w6.heap.size kn kc kp 27 k (HV7.out.alloc _).kc (by simp; omega) (laid_at rfl) hkc (Nat.le_trans hkm M48.out) (HKR.out.to (HV7.out.alloc _).bel) (by omega)
      refine wpList_plain rfl (fun K hK => ?_)
      go_simp
      refine hof.mono ?_
      clear hof
      rintro e W8 ⟨rfl, hb8⟩
      dsimp only
      refine hK _ _ ?_
      clear hK K
      obtain ⟨s2, hs2⟩ : ∃ s2, s2 = sha k kn := ⟨_, rfl⟩
      rw [← hs2]
      have HS2 := Lib.hid hs2
      have HV8 := Lib.hid ((HV7.out.alloc _).go hb8)
      clear hb8 hs2
      refine wpList_plain rfl (fun K hK => ?_)
      go_simp
      refine hK _ _ ?_
      clear hK K
      have ht0 : BT (W8.alloc (.cells (List.replicate 32 (Value.int .u8 0)).toArray 32)) W8.heap.size 32 (fun _ => 0#8) := BT.of_cells (laid_at rfl) (fun i hi => zero_at 32 i hi)
      refine wpList_store_mid rfl 32 _ _ rfl W8.heap.size 0 (tagC s2).toArray rfl rfl (by simpa [tagC_len] using ht0.there 32 (Nat.le_refl _)) (by simp [infoTag, tagC_len]) (tagC_one _) ?_
      rw [List.toList_toArray]
      have ht5 : BT ((W8.alloc (.cells (List.replicate 32 (Value.int .u8 0)).toArray 32)).setCells W8.heap.size 0 (tagC s2)) W8.heap.size 32 s2 := ht0.setFirst 32 (Nat.le_refl _) _ rfl fun j h1 h2 => by omega
      have hg5 : W8.grownBy ((W8.alloc (.cells (List.replicate 32 (Value.int .u8 0)).toArray 32)).setCells W8.heap.size 0 (tagC s2)) (some W8.heap.size) := (World.grownBy_alloc W8 _ _).trans (gr_setCells _ _ _)
      show Exit.then _ _ Exit.normal _ ((W8.alloc (.cells (List.replicate 32 (Value.int .u8 0)).toArray 32)).setCells W8.heap.size 0 (tagC s2))
      generalize (W8.alloc (.cells (List.replicate 32 (Value.int .u8 0)).toArray 32)).setCells W8.heap.size 0 (tagC s2) = W9 at ht5 hg5 ⊢
      have hT8 := HV8.out.tag.lt
      have hMR : MR w.heap.size w W2.heap.size s (some ⟨W8.heap.size, 0, none⟩) 32 s2 W9 := ⟨HV8.out.gr hg5 (by omega) HV8.out.bel.size, ht5.reads⟩
      have HMR := Lib.hid hMR
      clear ht5 hg5 ht0 hMR HV8 HV7
      have HM1 := Lib.hid (show ∀ (W : World) (H : Nat), W.heap[H]? = some (.cells #[.slice p n c] 27 (0, 0)) → MR w.heap.size w W2.heap.size s (some ⟨W8.heap.size, 0, none⟩) 32 s2 W →
          Calls Tryd.prog 27 #[.slice (some ⟨W8.heap.size, 0, none⟩) 32 32, .slice (some ⟨H, 0, none⟩) 1 1] W fun e w' => e = .returned T ∧ Below W.heap.size W w' from fun W H hW hV => by
        have h := hV.mv.mac1 (g := g) hW (by omega) (Nat.le_refl 32) (by decide) hV.row hc (Nat.le_trans hm M48.out) HR.out (by omega)
        rw [HS2.out, ownK_congr k kn g n (by omega), ← HT.out] at h
        exact h)
      have HLD2 := Lib.hid (fun (ops : Array Oper) (o : Oper) (a : Act) (x : Operand) (h1 : Region.wanted o (yielded ops a.tmps) = true) (h2 : o.op = .load 32 x) (h3 : a.eval x = .pointer (some ⟨W2.heap.size, 0, none⟩)) => HTS.out ▸ MR.load (B := w.heap.size) (w := w) (s := s) (p := some ⟨W8.heap.size, 0, none⟩) (n := 32) (f := s2) h1 h2 h3)
      go_upto_region 11 with (fail)
      refine wp_region_noPanic ?_
      refine wp_region_start (n := 7) (l := #[false, false, false, false, false, false, false]) (S := (fun w' => MR w.heap.size w W2.heap.size s (some ⟨W8.heap.size, 0, none⟩) 32 s2 w')) (by kernel_rfl) rfl (by kernel_rfl) (by (repeat (first | exact HMR.out | apply MR.drew | apply MR.alloc | (refine MR.go ?_ (by assumption))))) (fun hHeld => ?_)
      refine take_to (i := 0) (d := some 61) (v := ?_) (l' := #[true, false, false, false, false, false, false]) rfl rfl (by kernel_rfl) (by kernel_rfl) (by kernel_rfl) (by kernel_rfl) (fun _ _ _ h => h) (Or.inl ⟨by rfl, ?_⟩) (by assumption) ?_; rotate_left; · (intro w' hSw; (try dsimp only at hSw); go_simp; (try with_reducible rfl))
      try simp only [Act.put, List.setIfInBounds_toArray, List.set_cons_zero, List.set_cons_succ]
      refine take_to (i := 1) (d := some 62) (v := ?_) (l' := #[true, true, false, false, false, false, false]) rfl rfl (by kernel_rfl) (by kernel_rfl) (by kernel_rfl) (by kernel_rfl) (fun _ _ _ h => h) (Or.inl ⟨by rfl, ?_⟩) (by assumption) ?_; rotate_left; · (intro w' hSw; (try dsimp only at hSw); go_simp; (try with_reducible rfl))
      try simp only [Act.put, List.setIfInBounds_toArray, List.set_cons_zero, List.set_cons_succ]
      refine take_to (i := 4) (d := some 65) (v := T) (l' := #[true, true, false, false, true, false, false]) rfl rfl (by kernel_rfl) (by kernel_rfl) (by kernel_rfl) (by kernel_rfl) (fun _ _ _ h => h) ?_ (by assumption) ?_
      · exact HLD2.out _ _ _ _ (by rfl) rfl rfl
      try simp only [Act.put, List.setIfInBounds_toArray, List.set_cons_zero, List.set_cons_succ]
      refine one_to (i := 2) (l' := #[true, true, true, false, true, false, false]) rfl (by kernel_rfl) (by kernel_rfl) (fun K hK => ?_)
      go_simp
      refine hK.out _ _ (by (repeat (first | exact HMR.out | apply MR.drew | apply MR.alloc | (refine MR.go ?_ (by assumption))))) (fun hHeld => ?_)
      clear hK K
      try simp only [Act.put, List.setIfInBounds_toArray, List.set_cons_zero, List.set_cons_succ]
      refine one_to (i := 3) (l' := #[true, true, true, true, true, false, false]) rfl (by kernel_rfl) (by kernel_rfl) (fun K hK => ?_)
      go_simp
      refine (HM1.out _ _ (by (try simp only [heap_drew]); repeat (first | (apply laid_at; simp; done) | apply laid_old)) (by repeat (first | exact HMR.out | apply MR.drew | apply MR.alloc | (refine MR.go ?_ (by assumption))))).mono ?_
      rintro e w10 ⟨rfl, hb10⟩
      dsimp only
      refine hK.out _ _ (by (repeat (first | exact HMR.out | apply MR.drew | apply MR.alloc | (refine MR.go ?_ (by assumption))))) (fun hHeld => ?_)
      clear hK K
      try simp only [Act.put, List.setIfInBounds_toArray, List.set_cons_zero, List.set_cons_succ]
      refine take_to (i := 5) (d := some 66) (v := ?_) (l' := #[true, true, true, true, true, true, false]) rfl rfl (by kernel_rfl) (by kernel_rfl) (by kernel_rfl) (by kernel_rfl) (fun _ _ _ h => h) (Or.inl ⟨by rfl, ?_⟩) (by assumption) ?_; rotate_left; · (intro w' hSw; (try dsimp only at hSw); go_simp; (try with_reducible rfl))
      try simp only [Act.put, List.setIfInBounds_toArray, List.set_cons_zero, List.set_cons_succ]
      refine take_to (i := 6) (d := some 8) (v := ?_) (l' := #[true, true, true, true, true, true, true]) rfl rfl (by kernel_rfl) (by kernel_rfl) (by kernel_rfl) (by kernel_rfl) (fun _ _ _ h => h) (Or.inl ⟨by rfl, ?_⟩) (by assumption) ?_; rotate_left; · (intro w' hSw; (try dsimp only at hSw); go_simp; (try with_reducible rfl))
      try simp only [Act.put, List.setIfInBounds_toArray, List.set_cons_zero, List.set_cons_succ]
      refine wpAnyH_done (by kernel_rfl) ?_ _
      refine NoPanic.normal ?_
      have HFIN := Lib.hid hHeld.mv.bel
      clear hHeld HM1
      go_wp2
      go_ret
      exact ⟨rfl, HFIN.out⟩
    · clear HLD
      go_upto_region 12 with (fail)
      refine wp_region_lit ?_
      refine wpList_plain rfl (fun K hK => ?_)
      go_simp
      refine hK _ _ ?_
      clear hK K
      refine wpList_plain rfl (fun K hK => ?_)
      go_simp
      refine hK _ _ ?_
      clear hK K
      obtain ⟨i0, hi, hz0, hz1, hz2'⟩ := info_parts Tryd.infoB
      have how : (w6.alloc (.cells #[] 5)).ownsRow w6.heap.size 5 1 (.slice (some ⟨w6.heap.size, 0, none⟩) 0 0) 0 [] := World.ownsRow_lit w6 #[] 0 (Nat.le_refl _) (by decide) rfl
      obtain ⟨v9, W9, hrun9, hown9, hgr9⟩ := append_reads (P := Tryd.prog) (w6.alloc (.cells #[] 5)) w6.heap.size w.heap.size 27 27 5 i0 (.int .u8 0) 1 Tryd.underlying27 hi hz0 hz1 hz2' rfl _ _ _ how kp kn kc (fun i => .int .u8 (ub (k i))) (HKR.out.below (HV7.out.alloc _).bel) (fun _ _ => rfl) (by have := M48.out; omega) (by omega) (by simp)
      refine Lib.wpList_append_run _ rfl _ _ _ _ rfl _ _ rfl rfl v9 W9 hrun9 ?_
      have hT6 := HV7.out.tag.lt
      have hV9 : MV w.heap.size w W2.heap.size s W9 := (HV7.out.alloc _).gr hgr9 (by show W2.heap.size ≠ w6.heap.size; omega) hlt7
      have hz9 : w6.heap.size ≤ W9.heap.size := by have := hgr9.size; simp at this; omega
      rw [Nat.zero_add, List.nil_append, padK_list] at hown9
      have HV9 := Lib.hid hV9
      have HO9 := Lib.hid hown9
      clear hrun9 hown9 hgr9 how hV9
      go_wp2_with fail
      refine (pick_any noughts (65 - (kn : Int)) W9 (by omega) (by omega)).mono ?_
      rintro e w' ⟨⟨m0, hm0, rfl⟩, rfl⟩
      go_wp2
      go_loopw [12, 13] (fun v i wr => ∃ j r : Nat, j + r = m0 ∧ i = .int .i64 (r : Int) ∧ wr.ownsRow w6.heap.size 5 1 v (kn + j) ((List.range (kn + j)).map fun i => .int .u8 (ub (padK k kn i))) ∧ MV w.heap.size w W2.heap.size s wr ∧ w6.heap.size ≤ wr.heap.size) (fun _ i _ => (intOf i).toNat)
      case atStart => exact ⟨0, m0, by omega, rfl, HO9.out, HV9.out, hz9⟩
      case round =>
        clear HO9 HV9
        obtain ⟨j, r, hjr, rfl, hown, hV, hzr⟩ := hrel
        by_cases hr0 : 0 < r
        · have hl1 : Reads (wr.heap.size + 1) (wr.alloc (.cells #[.int .u8 0] 5)) (some ⟨wr.heap.size, 0, none⟩) 1 (fun _ => .int .u8 0) := reads_laid (laid_at rfl) (fun i hi => by rw [show i = 0 by omega]; rfl)
          obtain ⟨v', W', hrun, hown', hgr⟩ := append_reads (P := Tryd.prog) (wr.alloc (.cells #[.int .u8 0] 5)) w6.heap.size _ 27 27 5 i0 (.int .u8 0) 1 Tryd.underlying27 hi hz0 hz1 hz2' rfl _ _ _ (hown.alloc _) (some ⟨wr.heap.size, 0, none⟩) 1 1 (fun _ => .int .u8 0) hl1 (fun _ _ => rfl) (by unfold maxLen; omega) (by omega) (by simp; omega)
          have hV' : MV w.heap.size w W2.heap.size s W' := by
            cases hv : u12.ownBlock with
            | none => rw [hv] at hgr; exact ⟨(hV.alloc _).tag.of_block hgr.size (hgr.block _ (hV.alloc _).tag.lt (by simp)), (hV.alloc _).kc.below (gr_none hgr (by simp; omega)), (hV.alloc _).bel.grown hgr (hV.alloc _).bel.size (by rintro q ⟨⟩), hV.lo⟩
            | some b => rw [hv] at hgr; have hb := (hown.lt b hv).1; exact (hV.alloc _).gr hgr (by omega) (by omega)
          have hz' : w6.heap.size ≤ W'.heap.size := by have := hgr.size; simp at this; omega
          have hown2 : W'.ownsRow w6.heap.size 5 1 v' (kn + (j + 1)) ((List.range (kn + (j + 1))).map fun i => .int .u8 (ub (padK k kn i))) := by
            rw [show (List.range 1).map (fun _ : Nat => Value.int .u8 0) = [Value.int .u8 0] from rfl, padK_snoc k kn (kn + j) (by omega)] at hown'
            exact hown'
          have HV2 := Lib.hid hV'
          have HO2 := Lib.hid hown2
          have HRUN := Lib.hid hrun
          clear hl1 hown' hgr hV hown hown2 hV' hrun
          have hri : (r : Int) > 0 := by omega
          go_wp2_with (at_builtin; refine Lib.wpList_append_run _ rfl _ _ _ _ rfl _ _ rfl rfl v' W' HRUN.out ?_)
          go_roundw
          case rel => exact ⟨j + 1, r - 1, by omega, by show Value.int .i64 _ = _; congr 1; omega, HO2.out, HV2.out, hz'⟩
          case measure => simp [intOf]; omega
        · obtain rfl : r = 0 := by omega
          obtain ⟨p3, c3, rfl, hrd, hc3, hm3⟩ := owns_reads hown
          have hrow : MR w.heap.size w W2.heap.size s p3 (kn + j) (padK k kn) wr := ⟨hV, hrd⟩
          have HMR := Lib.hid hrow
          clear hown hV hrd hrow
          have HM1 := Lib.hid (show ∀ (W : World) (H : Nat), W.heap[H]? = some (.cells #[.slice p n c] 27 (0, 0)) → MR w.heap.size w W2.heap.size s p3 (kn + j) (padK k kn) W →
              Calls Tryd.prog 27 #[.slice p3 (kn + j : Nat) c3, .slice (some ⟨H, 0, none⟩) 1 1] W fun e w' => e = .returned T ∧ Below W.heap.size W w' from fun W H hW hV => by
            have h := hV.mv.mac1 (g := g) hW (by omega) hc3 hm3 hV.row hc (Nat.le_trans hm M48.out) HR.out (by omega)
            rw [padK_congr k kn (kn + j) g n (by omega) (by omega), ← HT.out] at h
            exact h)
          have HLD2 := Lib.hid (fun (ops : Array Oper) (o : Oper) (a : Act) (x : Operand) (h1 : Region.wanted o (yielded ops a.tmps) = true) (h2 : o.op = .load 32 x) (h3 : a.eval x = .pointer (some ⟨W2.heap.size, 0, none⟩)) => HTS.out ▸ MR.load (B := w.heap.size) (w := w) (s := s) (p := p3) (n := kn + j) (f := padK k kn) h1 h2 h3)
          go_upto_region 17 with (fail)
          refine wp_region_noPanic ?_
          refine wp_region_start (n := 7) (l := #[false, false, false, false, false, false, false]) (S := (fun w' => MR w.heap.size w W2.heap.size s p3 (kn + j) (padK k kn) w')) (by kernel_rfl) rfl (by kernel_rfl) (by (repeat (first | exact HMR.out | apply MR.drew | apply MR.alloc | (refine MR.go ?_ (by assumption))))) (fun hHeld => ?_)
          refine take_to (i := 0) (d := some 82) (v := ?_) (l' := #[true, false, false, false, false, false, false]) rfl rfl (by kernel_rfl) (by kernel_rfl) (by kernel_rfl) (by kernel_rfl) (fun _ _ _ h => h) (Or.inl ⟨by rfl, ?_⟩) (by assumption) ?_; rotate_left; · (intro w' hSw; (try dsimp only at hSw); go_simp; (try with_reducible rfl))
          try simp only [Act.put, List.setIfInBounds_toArray, List.set_cons_zero, List.set_cons_succ]
          refine take_to (i := 1) (d := some 83) (v := ?_) (l' := #[true, true, false, false, false, false, false]) rfl rfl (by kernel_rfl) (by kernel_rfl) (by kernel_rfl) (by kernel_rfl) (fun _ _ _ h => h) (Or.inl ⟨by rfl, ?_⟩) (by assumption) ?_; rotate_left; · (intro w' hSw; (try dsimp only at hSw); go_simp; (try with_reducible rfl))
          try simp only [Act.put, List.setIfInBounds_toArray, List.set_cons_zero, List.set_cons_succ]
          refine take_to (i := 4) (d := some 86) (v := T) (l' := #[true, true, false, false, true, false, false]) rfl rfl (by kernel_rfl) (by kernel_rfl) (by kernel_rfl) (by kernel_rfl) (fun _ _ _ h => h) ?_ (by assumption) ?_
          · exact HLD2.out _ _ _ _ (by rfl) rfl rfl
          try simp only [Act.put, List.setIfInBounds_toArray, List.set_cons_zero, List.set_cons_succ]
          refine one_to (i := 2) (l' := #[true, true, true, false, true, false, false]) rfl (by kernel_rfl) (by kernel_rfl) (fun K hK => ?_)
          go_simp
          refine hK.out _ _ (by (repeat (first | exact HMR.out | apply MR.drew | apply MR.alloc | (refine MR.go ?_ (by assumption))))) (fun hHeld => ?_)
          clear hK K
          try simp only [Act.put, List.setIfInBounds_toArray, List.set_cons_zero, List.set_cons_succ]
          refine one_to (i := 3) (l' := #[true, true, true, true, true, false, false]) rfl (by kernel_rfl) (by kernel_rfl) (fun K hK => ?_)
          go_simp
          refine (HM1.out _ _ (by (try simp only [heap_drew]); repeat (first | (apply laid_at; simp; done) | apply laid_old)) (by repeat (first | exact HMR.out | apply MR.drew | apply MR.alloc | (refine MR.go ?_ (by assumption))))).mono ?_
          rintro e w10 ⟨rfl, hb10⟩
          dsimp only
          refine hK.out _ _ (by (repeat (first | exact HMR.out | apply MR.drew | apply MR.alloc | (refine MR.go ?_ (by assumption))))) (fun hHeld => ?_)
          clear hK K
          try simp only [Act.put, List.setIfInBounds_toArray, List.set_cons_zero, List.set_cons_succ]
          refine take_to (i := 5) (d := some 87) (v := ?_) (l' := #[true, true, true, true, true, true, false]) rfl rfl (by kernel_rfl) (by kernel_rfl) (by kernel_rfl) (by kernel_rfl) (fun _ _ _ h => h) (Or.inl ⟨by rfl, ?_⟩) (by assumption) ?_; rotate_left; · (intro w' hSw; (try dsimp only at hSw); go_simp; (try with_reducible rfl))
          try simp only [Act.put, List.setIfInBounds_toArray, List.set_cons_zero, List.set_cons_succ]
          refine take_to (i := 6) (d := some 8) (v := ?_) (l' := #[true, true, true, true, true, true, true]) rfl rfl (by kernel_rfl) (by kernel_rfl) (by kernel_rfl) (by kernel_rfl) (fun _ _ _ h => h) (Or.inl ⟨by rfl, ?_⟩) (by assumption) ?_; rotate_left; · (intro w' hSw; (try dsimp only at hSw); go_simp; (try with_reducible rfl))
          try simp only [Act.put, List.setIfInBounds_toArray, List.set_cons_zero, List.set_cons_succ]
          refine wpAnyH_done (by kernel_rfl) ?_ _
          refine NoPanic.normal ?_
          have HFIN := Lib.hid hHeld.mv.bel
          clear hHeld HM1
          go_wp2
          go_ret
          exact ⟨rfl, HFIN.out⟩
end Go.Proofs.YtkheljpkbcodfaaDoor
