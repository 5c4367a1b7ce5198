/-
  The walk of the law MacSame.
-/
import Derived.Test.YtkheljpkbcodfaaDoorMacParts
namespace Go.Proofs.YtkheljpkbcodfaaDoor
open Go.RowKit
set_option linter.unusedVariables false
set_option linter.unusedSimpArgs false

/-- two boxed tags -/
structure S2 (B : Nat) (w : World) (a b : Nat → BitVec 8) (W : World) : Prop where
  ba : BT W w.heap.size 32 a
  bb : BT W (w.heap.size + 1) 32 b
  kc : Kc B W
  bel : Below w.heap.size w W
  lo : B ≤ w.heap.size
/-- and two more -/
structure S4 (B : Nat) (w : World) (a b c t : Nat → BitVec 8) (TC TT : Nat) (W : World) : Prop where
  s2 : S2 B w a b W
  bc : BT W TC 32 c
  bt : BT W TT 32 t
section
variable {B TC TT : Nat} {w W W' : World} {a b c t : Nat → BitVec 8}
theorem S2.go (h : S2 B w a b W) (g : Below W.heap.size W W') : S2 B w a b W' :=
  ⟨h.ba.below' g, h.bb.below' g, h.kc.below (g.mono (Nat.le_trans h.lo h.bel.size)), h.bel.trans (g.mono h.bel.size), h.lo⟩
theorem S2.alloc (h : S2 B w a b W) (o : Obj) : S2 B w a b (W.alloc o) := h.go ((Below.refl _ _).alloc (Nat.le_refl _) o)
theorem S2.gr {hb : Nat} (h : S2 B w a b W) (g : W.grownBy W' (some hb)) (hh : w.heap.size + 1 < hb) : S2 B w a b W' :=
  ⟨h.ba.gr g (by omega), h.bb.gr g (by omega), h.kc.below (gr_below g (Nat.le_trans h.lo (by omega)) (Nat.le_trans h.lo h.bel.size)), h.bel.grown g h.bel.size (by rintro q ⟨⟩; omega), h.lo⟩
theorem S4.go (h : S4 B w a b c t TC TT W) (g : Below W.heap.size W W') : S4 B w a b c t TC TT W' := ⟨h.s2.go g, h.bc.below' g, h.bt.below' g⟩
theorem S4.drew (h : S4 B w a b c t TC TT W) : S4 B w a b c t TC TT W.drew := h.go (Below.refl _ _).drew
theorem S4.alloc (h : S4 B w a b c t TC TT W) (o : Obj) : S4 B w a b c t TC TT (W.alloc o) := h.go ((Below.refl _ _).alloc (Nat.le_refl _) o)
theorem tag_load {S : World → Prop} {ops : Array Oper} {o : Oper} {ac : Act} {x : Operand} {T : Nat} {s : Nat → BitVec 8} (hS : ∀ w, S w → BT w T 32 s) (h1 : Region.wanted o (yielded ops ac.tmps) = true) (h2 : o.op = .load 32 x) (h3 : ac.eval x = .pointer (some ⟨T, 0, none⟩)) : YieldsIf Tryd.prog ops S o (tagV s) ac :=
  yieldsIf_load_mid h1 32 x h2 T 0 h3 (tagC s) _ (fun w' hw' => (hS w' hw').range) Tryd.underlying32 rfl (by simp [infoTag, tagC_len])
end
/-- a tag, one byte of which is turned -/
def turnAt (a : Nat → BitVec 8) (q : Nat) (x : BitVec 8) : Nat → BitVec 8 := fun i => if i = q then a i ^^^ x else a i
theorem turnAt_teq (a : Nat → BitVec 8) (q : Nat) (x : BitVec 8) (hq : q < 32) : teq a (turnAt a q x) = (x == 0#8) := by
  rw [Bool.eq_iff_iff, teq_iff, beq_iff_eq]
  constructor
  · intro h
    have := h q hq
    unfold turnAt at this
    rw [if_pos rfl] at this
    have h2 : a q ^^^ a q = a q ^^^ (a q ^^^ x) := by rw [← this]
    rw [BitVec.xor_self, ← BitVec.xor_assoc, BitVec.xor_self, BitVec.zero_xor] at h2
    exact h2.symm
  · rintro rfl i hi
    unfold turnAt
    by_cases e : i = q <;> simp [e]
/-- one row, and a tag -/
theorem check1 {B H n c kn kc : Nat} {W : World} {k g t' : Nat → BitVec 8} {p kp : Option Addr} {t : TypeId} (hk : Kc B W) (hB : B ≤ W.heap.size) (hW : W.heap[H]? = some (.cells #[.slice p n c] t (0, 0))) (hkn : kn ≤ 2147483648) (hkc : kn ≤ kc) (hkm : kc ≤ maxLen)
    (hkr : Reads W.heap.size W kp kn (fun j => .int .u8 (ub (k j)))) (hc : n ≤ c) (hm : c ≤ maxLen) (hr : Reads W.heap.size W p n (fun j => .int .u8 (ub (g j)))) (hn : n ≤ 2147483584) :
    Calls Tryd.prog 28 #[.slice kp kn kc, tagV t', .slice (some ⟨H, 0, none⟩) 1 1] W fun e w' => e = .returned (.int .i64 (chk (teq (hmac k kn g n) t'))) ∧ Below W.heap.size W w' := by
  have hx := check_any B W kp kn kc k t' g _ 1 1 _ _ _ _ hk hB hkn hkc hkm hkr (RI.one (f := g) hW hc hm hr) (Nat.le_refl _) (by decide) (by omega) (by rw [pos_one]; exact hn) (fun i hi j hj => by rw [show i = 0 by omega]; simp [pos])
  rw [pos_one] at hx
  exact hx
theorem mac1 {B H n c kn kc : Nat} {W : World} {k g : Nat → BitVec 8} {p kp : Option Addr} {t : TypeId} (hk : Kc B W) (hB : B ≤ W.heap.size) (hW : W.heap[H]? = some (.cells #[.slice p n c] t (0, 0))) (hkn : kn ≤ 2147483648) (hkc : kn ≤ kc) (hkm : kc ≤ maxLen)
    (hkr : Reads W.heap.size W kp kn (fun j => .int .u8 (ub (k j)))) (hc : n ≤ c) (hm : c ≤ maxLen) (hr : Reads W.heap.size W p n (fun j => .int .u8 (ub (g j)))) (hn : n ≤ 2147483584) :
    Calls Tryd.prog 27 #[.slice kp kn kc, .slice (some ⟨H, 0, none⟩) 1 1] W fun e w' => e = .returned (tagV (hmac k kn g n)) ∧ Below W.heap.size W w' := by
  have hx := macOf_any B W kp kn kc k g _ 1 1 _ _ _ _ hk hB hkn hkc hkm hkr (RI.one (f := g) hW hc hm hr) (Nat.le_refl _) (by decide) (by omega) (by rw [pos_one]; exact hn) (fun i hi j hj => by rw [show i = 0 by omega]; simp [pos])
  rw [pos_one] at hx
  exact hx

set_option maxHeartbeats 4000000 in
set_option maxRecDepth 100000 in
theorem macSame_walk (a b : Nat → BitVec 8) (kp : Option Addr) (kn kc : Nat) (k : Nat → BitVec 8) (p : Option Addr) (n c : Nat) (g : Nat → BitVec 8) (at_ : Int) (x : BitVec 8) (w : World) (hk : Kc w.heap.size w)
    (hkr : Reads w.heap.size w kp kn (fun i => .int .u8 (ub (k i)))) (hr : Reads w.heap.size w p n (fun i => .int .u8 (ub (g i)))) (hkc : kn ≤ kc) (hc : n ≤ c) (hkm : kc ≤ 140737488351232) (hm : c ≤ 140737488351232) :
    Calls Tryd.prog 9 #[tagV a, tagV b, .slice kp kn kc, .slice p n c, .int .i64 at_, .int .u8 (ub x)] w fun e w' => e = .returned (.bool true) ∧ Below w.heap.size w w' := by
  obtain ⟨C1, hC1⟩ : ∃ C, C = (tagC a).toArray := ⟨_, rfl⟩
  obtain ⟨C2, hC2⟩ : ∃ C, C = (tagC b).toArray := ⟨_, rfl⟩
  unfold tagV
  rw [← hC1, ← hC2]
  have HC1 := Lib.hid hC1
  have HC2 := Lib.hid hC2
  have HK := Lib.hid hk
  have HKR := Lib.hid hkr
  have HR := Lib.hid hr
  have KM := Lib.hid (Nat.le_trans hkm (show (140737488351232 : Nat) ≤ maxLen by decide))
  have M := Lib.hid (Nat.le_trans hm (show (140737488351232 : Nat) ≤ maxLen by decide))
  clear hC1 hC2 hk hkr hr
  have h0 : S2 w.heap.size w a b ((w.alloc (.cells C1 32)).alloc (.cells C2 32)) :=
    ⟨BT.of_cells (laid_old (laid_at rfl)) (fun i hi => by rw [HC1.out]; exact tagC_get a i hi), BT.of_cells (laid_at (by simp)) (fun i hi => by rw [HC2.out]; exact tagC_get b i hi),
      HK.out.below (((Below.refl _ _).alloc (Nat.le_refl _) _).alloc (by simp) _), ((Below.refl _ _).alloc (Nat.le_refl _) _).alloc (by simp) _, Nat.le_refl _⟩
  by_cases hlen : 700 < (kn : Int) + (n : Int)
  · go_enter Tryd.func9, Tryd.ntmps9
    go_upto_region 1 with (fail)
    refine forget_code (S2 w.heap.size w a b) h0 ?_
    intro W hW
    have HW := Lib.hid hW
    clear hW h0
    go_wp2_with fail
    refine (awake3 w.heap.size W HW.out.kc HW.out.bel.size).mono ?_
    rintro e w1 ⟨rfl, hb1⟩
    have HB1 := Lib.hid (HW.out.go hb1).bel
    clear hb1
    go_wp2
    go_ret
    exact ⟨rfl, HB1.out⟩
  · go_enter Tryd.func9, Tryd.ntmps9
    go_upto_region 1 with (fail)
    refine forget_code (S2 w.heap.size w a b) h0 ?_
    intro W hW
    have HW := Lib.hid hW
    clear hW h0
    go_wp2_with fail
    refine (awake3 w.heap.size W HW.out.kc HW.out.bel.size).mono ?_
    rintro e w1 ⟨rfl, hb1⟩
    have H1 := Lib.hid (HW.out.go hb1)
    clear hb1 HW
    go_upto_region 5 with (fail)
    refine wp_region_lit ?_
    refine wpList_load_mid rfl 32 _ rfl w.heap.size 0 rfl (tagC a) _ H1.out.ba.range Tryd.underlying32 rfl (by simp [infoTag, tagC_len]) ?_
    refine wpList_plain rfl (fun K hK => ?_)
    go_simp
    refine hK _ _ ?_
    clear hK K
    have ht0 : BT (w1.alloc (.cells (List.replicate 32 (Value.int .u8 0)).toArray 32)) w1.heap.size 32 (fun _ => 0#8) := BT.of_cells (laid_at rfl) (fun i hi => zero_at 32 i hi)
    refine wpList_store_mid rfl 32 _ _ rfl w1.heap.size 0 (tagC a).toArray rfl rfl (by simpa [tagC_len] using ht0.there 32 (Nat.le_refl _)) (by simp [infoTag, tagC_len]) (tagC_one _) ?_
    rw [List.toList_toArray]
    have ht5 : BT ((w1.alloc (.cells (List.replicate 32 (Value.int .u8 0)).toArray 32)).setCells w1.heap.size 0 (tagC a)) w1.heap.size 32 a := ht0.setFirst 32 (Nat.le_refl _) _ rfl fun j h1 h2 => by omega
    have hg5 : w1.grownBy ((w1.alloc (.cells (List.replicate 32 (Value.int .u8 0)).toArray 32)).setCells w1.heap.size 0 (tagC a)) (some w1.heap.size) := (World.grownBy_alloc w1 _ _).trans (gr_setCells _ _ _)
    show Exit.then _ _ Exit.normal _ ((w1.alloc (.cells (List.replicate 32 (Value.int .u8 0)).toArray 32)).setCells w1.heap.size 0 (tagC a))
    generalize (w1.alloc (.cells (List.replicate 32 (Value.int .u8 0)).toArray 32)).setCells w1.heap.size 0 (tagC a) = W3 at ht5 hg5 ⊢
    have hz1 : w.heap.size + 1 < w1.heap.size := H1.out.bb.lt
    have H3 := Lib.hid (H1.out.gr hg5 hz1)
    have HT := Lib.hid ht5
    clear ht5 hg5 ht0 H1
    go_wp2_with fail
    refine (pick_any at_ 32 W3 (by omega) (by omega)).mono ?_
    rintro e w' ⟨⟨q, hq, rfl⟩, rfl⟩
    have hq32 : q < 32 := by omega
    have c1 : W3.cell? ⟨w1.heap.size, q, none⟩ = some (.int .u8 (ub (a q))) := HT.out.byte q hq32
    have f1 := HT.out.free q
    have h4 : BT (W3.setCell ⟨w1.heap.size, q, none⟩ (.int .u8 (ub (a q ^^^ x)))) w1.heap.size 32 (turnAt a q x) := HT.out.set q hq32 _ (by unfold turnAt; rw [if_pos rfl]) (fun j h1 h2 => by unfold turnAt; rw [if_neg h2])
    have hg4 : W3.grownBy (W3.setCell ⟨w1.heap.size, q, none⟩ (.int .u8 (ub (a q ^^^ x)))) (some w1.heap.size) := gr_setCell _
    have H4 := Lib.hid (H3.out.gr hg4 hz1)
    have HT4 := Lib.hid h4
    clear h4 hg4 HT H3
    go_upto_region 8 with (fail)
    clear c1 f1
    generalize W3.setCell ⟨w1.heap.size, q, none⟩ (.int .u8 (ub (a q ^^^ x))) = W4 at H4 HT4 ⊢
    refine wp_region_lit ?_
    refine wpList_plain rfl (fun K hK => ?_)
    go_simp
    refine hK _ _ ?_
    clear hK K
    refine wpList_plain rfl (fun K hK => ?_)
    go_simp
    refine hK _ _ ?_
    clear hK K
    refine wpList_plain rfl (fun K hK => ?_)
    go_simp
    refine hK _ _ ?_
    clear hK K
    have hof := mac1 (k := k) (g := g) (H := W4.heap.size) (W := W4.alloc (.cells #[.slice p n c] 27)) (t := 27) (H4.out.alloc _).kc (H4.out.alloc _).bel.size (laid_at rfl) (by omega) hkc KM.out (HKR.out.to (H4.out.alloc _).bel) hc M.out (HR.out.to (H4.out.alloc _).bel) (by omega)
    refine wpList_plain rfl (fun K hK => ?_)
    go_simp
    refine hof.mono ?_
    clear hof
    rintro e W5 ⟨rfl, hb5⟩
    dsimp only
    refine hK _ _ ?_
    clear hK K
    obtain ⟨s, hs⟩ : ∃ s, s = hmac k kn g n := ⟨_, rfl⟩
    rw [← hs]
    have HS := Lib.hid hs
    have H5 := Lib.hid ((H4.out.alloc _).go hb5)
    have HT5 := Lib.hid ((HT4.out.alloc _).below' hb5)
    have hz5 : w1.heap.size < W5.heap.size := HT5.out.lt
    clear hb5 hs H4 HT4
    refine wpList_plain rfl (fun K hK => ?_)
    go_simp
    refine hK _ _ ?_
    clear hK K
    have ht0 : BT (W5.alloc (.cells (List.replicate 32 (Value.int .u8 0)).toArray 32)) W5.heap.size 32 (fun _ => 0#8) := BT.of_cells (laid_at rfl) (fun i hi => zero_at 32 i hi)
    refine wpList_store_mid rfl 32 _ _ rfl W5.heap.size 0 (tagC s).toArray rfl rfl (by simpa [tagC_len] using ht0.there 32 (Nat.le_refl _)) (by simp [infoTag, tagC_len]) (tagC_one _) ?_
    rw [List.toList_toArray]
    have ht5 : BT ((W5.alloc (.cells (List.replicate 32 (Value.int .u8 0)).toArray 32)).setCells W5.heap.size 0 (tagC s)) W5.heap.size 32 s := ht0.setFirst 32 (Nat.le_refl _) _ rfl fun j h1 h2 => by omega
    have hg5 : W5.grownBy ((W5.alloc (.cells (List.replicate 32 (Value.int .u8 0)).toArray 32)).setCells W5.heap.size 0 (tagC s)) (some W5.heap.size) := (World.grownBy_alloc W5 _ _).trans (gr_setCells _ _ _)
    show Exit.then _ _ Exit.normal _ ((W5.alloc (.cells (List.replicate 32 (Value.int .u8 0)).toArray 32)).setCells W5.heap.size 0 (tagC s))
    generalize (W5.alloc (.cells (List.replicate 32 (Value.int .u8 0)).toArray 32)).setCells W5.heap.size 0 (tagC s) = W6 at ht5 hg5 ⊢
    have HV := Lib.hid (show S4 w.heap.size w a b (turnAt a q x) s w1.heap.size W5.heap.size W6 from ⟨H5.out.gr hg5 (by omega), HT5.out.gr hg5 (by omega), ht5⟩)
    clear ht5 hg5 ht0 H5 HT5
    obtain ⟨cc, hcc⟩ : ∃ cc, cc = turnAt a q x := ⟨_, rfl⟩
    have hxq := turnAt_teq a q x hq32
    rw [← hcc] at hxq HV
    obtain ⟨e1, he1⟩ : ∃ e1, e1 = teq a b := ⟨_, rfl⟩
    obtain ⟨e2, he2⟩ : ∃ e2, e2 = teq a cc := ⟨_, rfl⟩
    obtain ⟨e3, he3⟩ : ∃ e3, e3 = teq s cc := ⟨_, rfl⟩
    obtain ⟨VA, hVA⟩ : ∃ V, V = tagV a := ⟨_, rfl⟩
    obtain ⟨VB, hVB⟩ : ∃ V, V = tagV b := ⟨_, rfl⟩
    obtain ⟨VC, hVC⟩ : ∃ V, V = tagV cc := ⟨_, rfl⟩
    obtain ⟨VT, hVT⟩ : ∃ V, V = tagV s := ⟨_, rfl⟩
    have gAB : ∀ op x y w, (eqGuard op 32 x y VA VB).run Tryd.prog w = .ok () w := by rw [hVA, hVB]; exact guard_tag _ _
    have gCT : ∀ op x y w, (eqGuard op 32 x y VC VT).run Tryd.prog w = .ok () w := by rw [hVC, hVT]; exact guard_tag _ _
    have qAB : ∀ w, (binOp .eql 32 VA VB).run Tryd.prog w = .ok (.bool e1) w := by rw [hVA, hVB, he1]; exact eql_tags _ _
    have qCT : ∀ w, (binOp .eql 32 VC VT).run Tryd.prog w = .ok (.bool e3) w := by rw [hVC, hVT, he3, teq_comm]; exact eql_tags _ _
    have nCT : ∀ w, (binOp .neq 32 VC VT).run Tryd.prog w = .ok (.bool (!e3)) w := by rw [hVC, hVT, he3, teq_comm]; exact neq_tags _ _
    have KAB := Lib.hid (show ∀ W, Calls Tryd.prog 30 #[VA, VB] W fun e w' => e = .returned (.bool e1) ∧ Below W.heap.size W w' by rw [hVA, hVB, he1]; exact same_any _ _)
    have KBA := Lib.hid (show ∀ W, Calls Tryd.prog 30 #[VB, VA] W fun e w' => e = .returned (.bool e1) ∧ Below W.heap.size W w' by rw [hVA, hVB, he1, teq_comm]; exact same_any _ _)
    have KAC := Lib.hid (show ∀ W, Calls Tryd.prog 30 #[VA, VC] W fun e w' => e = .returned (.bool e2) ∧ Below W.heap.size W w' by rw [hVA, hVC, he2]; exact same_any _ _)
    obtain ⟨m, hm⟩ : ∃ m, m = chk e3 := ⟨_, rfl⟩
    have m0 : (m == 0) = e3 := by rw [hm]; exact chk_ok e3
    have m7 : (m == 7) = !e3 := by rw [hm]; exact chk_bad e3
    have KC := Lib.hid (show ∀ (W : World) (H : Nat), W.heap[H]? = some (.cells #[.slice p n c] 27 (0, 0)) → S4 w.heap.size w a b cc s w1.heap.size W5.heap.size W →
        Calls Tryd.prog 28 #[.slice kp kn kc, VC, .slice (some ⟨H, 0, none⟩) 1 1] W fun e w' => e = .returned (.int .i64 m) ∧ Below W.heap.size W w' from fun W H hW hV => by
      rw [hm, he3, hVC, HS.out]
      exact check1 hV.s2.kc hV.s2.bel.size hW (by omega) hkc KM.out (HKR.out.to hV.s2.bel) hc M.out (HR.out.to hV.s2.bel) (by omega))
    have KT := Lib.hid (show ∀ (W : World) (H : Nat), W.heap[H]? = some (.cells #[.slice p n c] 27 (0, 0)) → S4 w.heap.size w a b cc s w1.heap.size W5.heap.size W →
        Calls Tryd.prog 28 #[.slice kp kn kc, VT, .slice (some ⟨H, 0, none⟩) 1 1] W fun e w' => e = .returned (.int .i64 0) ∧ Below W.heap.size W w' from fun W H hW hV => by
      have h := check1 (t' := s) hV.s2.kc hV.s2.bel.size hW (by omega) hkc KM.out (HKR.out.to hV.s2.bel) hc M.out (HR.out.to hV.s2.bel) (by omega)
      rw [← HS.out, teq_self, ← hVT] at h
      exact h)
    obtain ⟨y, hy⟩ : ∃ y, y = ub x := ⟨_, rfl⟩
    have y0 : (y == 0) = e2 := by rw [hy, ub_zero, he2, hxq]
    rw [← hy]
    have LA := Lib.hid (fun (ops : Array Oper) (o : Oper) (ac : Act) (x : Operand) (h1 : Region.wanted o (yielded ops ac.tmps) = true) (h2 : o.op = .load 32 x) (h3 : ac.eval x = .pointer (some ⟨w.heap.size, 0, none⟩)) => hVA ▸ tag_load (S := S4 w.heap.size w a b cc s w1.heap.size W5.heap.size) (fun _ h => h.s2.ba) h1 h2 h3)
    have LB := Lib.hid (fun (ops : Array Oper) (o : Oper) (ac : Act) (x : Operand) (h1 : Region.wanted o (yielded ops ac.tmps) = true) (h2 : o.op = .load 32 x) (h3 : ac.eval x = .pointer (some ⟨w.heap.size + 1, 0, none⟩)) => hVB ▸ tag_load (S := S4 w.heap.size w a b cc s w1.heap.size W5.heap.size) (fun _ h => h.s2.bb) h1 h2 h3)
    have LC := Lib.hid (fun (ops : Array Oper) (o : Oper) (ac : Act) (x : Operand) (h1 : Region.wanted o (yielded ops ac.tmps) = true) (h2 : o.op = .load 32 x) (h3 : ac.eval x = .pointer (some ⟨w1.heap.size, 0, none⟩)) => hVC ▸ tag_load (S := S4 w.heap.size w a b cc s w1.heap.size W5.heap.size) (fun _ h => h.bc) h1 h2 h3)
    have LT := Lib.hid (fun (ops : Array Oper) (o : Oper) (ac : Act) (x : Operand) (h1 : Region.wanted o (yielded ops ac.tmps) = true) (h2 : o.op = .load 32 x) (h3 : ac.eval x = .pointer (some ⟨W5.heap.size, 0, none⟩)) => hVT ▸ tag_load (S := S4 w.heap.size w a b cc s w1.heap.size W5.heap.size) (fun _ h => h.bt) h1 h2 h3)
    clear hVA hVB hVC hVT he1 he2 he3 hm hy hxq hcc HS
    go_upto_region 9 with (fail)
    refine wp_region_noPanic ?_
    refine wp_region_start (n := 57) (l := #[false, false, false, false, false, false, false, false, false, false, false, false, false, false, false, false, false, false, false, false, false, false, false, false, false, false, false, false, false, false, false, false, false, false, false, false, false, false, false, false, false, false, false, false, false, false, false, false, false, false, false, false, false, false, false, false, false]) (S := (S4 w.heap.size w a b cc s w1.heap.size W5.heap.size)) (by kernel_rfl) rfl (by kernel_rfl) (by (repeat (first | exact HV.out | apply S4.drew | apply S4.alloc | (refine S4.go ?_ (by assumption))))) (fun hHeld => ?_)
    refine take_to (i := 0) (d := some 38) (v := VA) (l' := #[true, false, false, false, false, false, false, false, false, false, false, false, false, false, false, false, false, false, false, false, false, false, false, false, false, false, false, false, false, false, false, false, false, false, false, false, false, false, false, false, false, false, false, false, false, false, false, false, false, false, false, false, false, false, false, false, false]) rfl rfl (by kernel_rfl) (by kernel_rfl) (by kernel_rfl) (by kernel_rfl) (fun _ _ _ h => h) ?_ (by assumption) ?_
    · exact LA.out _ _ _ _ (by rfl) rfl rfl
    try simp only [Act.put, List.setIfInBounds_toArray, List.set_cons_zero, List.set_cons_succ]
    refine take_to (i := 1) (d := some 39) (v := VB) (l' := #[true, true, false, false, false, false, false, false, false, false, false, false, false, false, false, false, false, false, false, false, false, false, false, false, false, false, false, false, false, false, false, false, false, false, false, false, false, false, false, false, false, false, false, false, false, false, false, false, false, false, false, false, false, false, false, false, false]) rfl rfl (by kernel_rfl) (by kernel_rfl) (by kernel_rfl) (by kernel_rfl) (fun _ _ _ h => h) ?_ (by assumption) ?_
    · exact LB.out _ _ _ _ (by rfl) rfl rfl
    try simp only [Act.put, List.setIfInBounds_toArray, List.set_cons_zero, List.set_cons_succ]
    refine take_to (i := 3) (d := some 41) (v := VA) (l' := #[true, true, false, true, false, false, false, false, false, false, false, false, false, false, false, false, false, false, false, false, false, false, false, false, false, false, false, false, false, false, false, false, false, false, false, false, false, false, false, false, false, false, false, false, false, false, false, false, false, false, false, false, false, false, false, false, false]) rfl rfl (by kernel_rfl) (by kernel_rfl) (by kernel_rfl) (by kernel_rfl) (fun _ _ _ h => h) ?_ (by assumption) ?_
    · exact LA.out _ _ _ _ (by rfl) rfl rfl
    try simp only [Act.put, List.setIfInBounds_toArray, List.set_cons_zero, List.set_cons_succ]
    refine take_to (i := 4) (d := some 42) (v := VB) (l' := #[true, true, false, true, true, false, false, false, false, false, false, false, false, false, false, false, false, false, false, false, false, false, false, false, false, false, false, false, false, false, false, false, false, false, false, false, false, false, false, false, false, false, false, false, false, false, false, false, false, false, false, false, false, false, false, false, false]) rfl rfl (by kernel_rfl) (by kernel_rfl) (by kernel_rfl) (by kernel_rfl) (fun _ _ _ h => h) ?_ (by assumption) ?_
    · exact LB.out _ _ _ _ (by rfl) rfl rfl
    try simp only [Act.put, List.setIfInBounds_toArray, List.set_cons_zero, List.set_cons_succ]
    refine take_to (i := 5) (d := some 43) (v := ?_) (l' := #[true, true, false, true, true, true, false, false, false, false, false, false, false, false, false, false, false, false, false, false, false, false, false, false, false, false, false, false, false, false, false, false, false, false, false, false, false, false, false, false, false, false, false, false, false, false, false, false, false, false, false, false, false, false, false, false, false]) rfl rfl (by kernel_rfl) (by kernel_rfl) (by kernel_rfl) (by kernel_rfl) (fun _ _ _ h => h) (Or.inl ⟨by rfl, ?_⟩) (by assumption) ?_; rotate_left; · (intro w' hSw; (try dsimp only at hSw); go_simp; (try with_reducible rfl))
    try simp only [Act.put, List.setIfInBounds_toArray, List.set_cons_zero, List.set_cons_succ]
    refine one_to (i := 2) (l' := #[true, true, true, true, true, true, false, false, false, false, false, false, false, false, false, false, false, false, false, false, false, false, false, false, false, false, false, false, false, false, false, false, false, false, false, false, false, false, false, false, false, false, false, false, false, false, false, false, false, false, false, false, false, false, false, false, false]) rfl (by kernel_rfl) (by kernel_rfl) (fun K hK => ?_)
    go_simp
    refine (KAB.out _).mono ?_
    rintro e w6 ⟨rfl, hb6⟩
    dsimp only
    refine hK.out _ _ (by (repeat (first | exact HV.out | apply S4.drew | apply S4.alloc | (refine S4.go ?_ (by assumption))))) (fun hHeld => ?_)
    clear hK K
    try simp only [Act.put, List.setIfInBounds_toArray, List.set_cons_zero, List.set_cons_succ]
    refine take_to (i := 6) (d := some 44) (v := ?_) (l' := #[true, true, true, true, true, true, true, false, false, false, false, false, false, false, false, false, false, false, false, false, false, false, false, false, false, false, false, false, false, false, false, false, false, false, false, false, false, false, false, false, false, false, false, false, false, false, false, false, false, false, false, false, false, false, false, false, false]) rfl rfl (by kernel_rfl) (by kernel_rfl) (by kernel_rfl) (by kernel_rfl) (fun _ _ _ h => h) (Or.inl ⟨by rfl, ?_⟩) (by assumption) ?_; rotate_left; · (intro w' hSw; (try dsimp only at hSw); go_simp; (try with_reducible rfl))
    try simp only [Act.put, List.setIfInBounds_toArray, List.set_cons_zero, List.set_cons_succ]
    refine take_to (i := 7) (d := some 45) (v := ?_) (l' := #[true, true, true, true, true, true, true, true, false, false, false, false, false, false, false, false, false, false, false, false, false, false, false, false, false, false, false, false, false, false, false, false, false, false, false, false, false, false, false, false, false, false, false, false, false, false, false, false, false, false, false, false, false, false, false, false, false]) rfl rfl (by kernel_rfl) (by kernel_rfl) (by kernel_rfl) (by kernel_rfl) (fun _ _ _ h => h) (Or.inl ⟨by rfl, ?_⟩) (by assumption) ?_; rotate_left; · (intro w' hSw; (try dsimp only at hSw); go_simp; (try with_reducible rfl))
    try simp only [Act.put, List.setIfInBounds_toArray, List.set_cons_zero, List.set_cons_succ]
    refine take_to (i := 8) (d := some 46) (v := VB) (l' := #[true, true, true, true, true, true, true, true, true, false, false, false, false, false, false, false, false, false, false, false, false, false, false, false, false, false, false, false, false, false, false, false, false, false, false, false, false, false, false, false, false, false, false, false, false, false, false, false, false, false, false, false, false, false, false, false, false]) rfl rfl (by kernel_rfl) (by kernel_rfl) (by kernel_rfl) (by kernel_rfl) (fun _ _ _ h => h) ?_ (by assumption) ?_
    · exact LB.out _ _ _ _ (by rfl) rfl rfl
    try simp only [Act.put, List.setIfInBounds_toArray, List.set_cons_zero, List.set_cons_succ]
    refine take_to (i := 9) (d := some 47) (v := VA) (l' := #[true, true, true, true, true, true, true, true, true, true, false, false, false, false, false, false, false, false, false, false, false, false, false, false, false, false, false, false, false, false, false, false, false, false, false, false, false, false, false, false, false, false, false, false, false, false, false, false, false, false, false, false, false, false, false, false, false]) rfl rfl (by kernel_rfl) (by kernel_rfl) (by kernel_rfl) (by kernel_rfl) (fun _ _ _ h => h) ?_ (by assumption) ?_
    · exact LA.out _ _ _ _ (by rfl) rfl rfl
    try simp only [Act.put, List.setIfInBounds_toArray, List.set_cons_zero, List.set_cons_succ]
    refine take_to (i := 11) (d := some 49) (v := VA) (l' := #[true, true, true, true, true, true, true, true, true, true, false, true, false, false, false, false, false, false, false, false, false, false, false, false, false, false, false, false, false, false, false, false, false, false, false, false, false, false, false, false, false, false, false, false, false, false, false, false, false, false, false, false, false, false, false, false, false]) rfl rfl (by kernel_rfl) (by kernel_rfl) (by kernel_rfl) (by kernel_rfl) (fun _ _ _ h => h) ?_ (by assumption) ?_
    · exact LA.out _ _ _ _ (by rfl) rfl rfl
    try simp only [Act.put, List.setIfInBounds_toArray, List.set_cons_zero, List.set_cons_succ]
    refine take_to (i := 12) (d := some 50) (v := VB) (l' := #[true, true, true, true, true, true, true, true, true, true, false, true, true, false, false, false, false, false, false, false, false, false, false, false, false, false, false, false, false, false, false, false, false, false, false, false, false, false, false, false, false, false, false, false, false, false, false, false, false, false, false, false, false, false, false, false, false]) rfl rfl (by kernel_rfl) (by kernel_rfl) (by kernel_rfl) (by kernel_rfl) (fun _ _ _ h => h) ?_ (by assumption) ?_
    · exact LB.out _ _ _ _ (by rfl) rfl rfl
    try simp only [Act.put, List.setIfInBounds_toArray, List.set_cons_zero, List.set_cons_succ]
    refine take_to (i := 13) (d := some 51) (v := ?_) (l' := #[true, true, true, true, true, true, true, true, true, true, false, true, true, true, false, false, false, false, false, false, false, false, false, false, false, false, false, false, false, false, false, false, false, false, false, false, false, false, false, false, false, false, false, false, false, false, false, false, false, false, false, false, false, false, false, false, false]) rfl rfl (by kernel_rfl) (by kernel_rfl) (by kernel_rfl) (by kernel_rfl) (fun _ _ _ h => h) (Or.inl ⟨by rfl, ?_⟩) (by assumption) ?_; rotate_left; · (intro w' hSw; (try dsimp only at hSw); go_simp; (try with_reducible rfl))
    try simp only [Act.put, List.setIfInBounds_toArray, List.set_cons_zero, List.set_cons_succ]
    refine one_to (i := 10) (l' := #[true, true, true, true, true, true, true, true, true, true, true, true, true, true, false, false, false, false, false, false, false, false, false, false, false, false, false, false, false, false, false, false, false, false, false, false, false, false, false, false, false, false, false, false, false, false, false, false, false, false, false, false, false, false, false, false, false]) rfl (by kernel_rfl) (by kernel_rfl) (fun K hK => ?_)
    go_simp
    refine (KBA.out _).mono ?_
    rintro e w7 ⟨rfl, hb7⟩
    dsimp only
    refine hK.out _ _ (by (repeat (first | exact HV.out | apply S4.drew | apply S4.alloc | (refine S4.go ?_ (by assumption))))) (fun hHeld => ?_)
    clear hK K
    try simp only [Act.put, List.setIfInBounds_toArray, List.set_cons_zero, List.set_cons_succ]
    refine take_to (i := 14) (d := some 52) (v := ?_) (l' := #[true, true, true, true, true, true, true, true, true, true, true, true, true, true, true, false, false, false, false, false, false, false, false, false, false, false, false, false, false, false, false, false, false, false, false, false, false, false, false, false, false, false, false, false, false, false, false, false, false, false, false, false, false, false, false, false, false]) rfl rfl (by kernel_rfl) (by kernel_rfl) (by kernel_rfl) (by kernel_rfl) (fun _ _ _ h => h) (Or.inl ⟨by rfl, ?_⟩) (by assumption) ?_; rotate_left; · (intro w' hSw; (try dsimp only at hSw); go_simp; (try with_reducible rfl))
    try simp only [Act.put, List.setIfInBounds_toArray, List.set_cons_zero, List.set_cons_succ]
    refine take_to (i := 15) (d := some 53) (v := ?_) (l' := #[true, true, true, true, true, true, true, true, true, true, true, true, true, true, true, true, false, false, false, false, false, false, false, false, false, false, false, false, false, false, false, false, false, false, false, false, false, false, false, false, false, false, false, false, false, false, false, false, false, false, false, false, false, false, false, false, false]) rfl rfl (by kernel_rfl) (by kernel_rfl) (by kernel_rfl) (by kernel_rfl) (fun _ _ _ h => h) (Or.inl ⟨by rfl, ?_⟩) (by assumption) ?_; rotate_left; · (intro w' hSw; (try dsimp only at hSw); go_simp; (try with_reducible rfl))
    try simp only [Act.put, List.setIfInBounds_toArray, List.set_cons_zero, List.set_cons_succ]
    refine take_to (i := 16) (d := some 54) (v := ?_) (l' := #[true, true, true, true, true, true, true, true, true, true, true, true, true, true, true, true, true, false, false, false, false, false, false, false, false, false, false, false, false, false, false, false, false, false, false, false, false, false, false, false, false, false, false, false, false, false, false, false, false, false, false, false, false, false, false, false, false]) rfl rfl (by kernel_rfl) (by kernel_rfl) (by kernel_rfl) (by kernel_rfl) (fun _ _ _ h => h) (Or.inl ⟨by rfl, ?_⟩) (by assumption) ?_; rotate_left; · (intro w' hSw; (try dsimp only at hSw); go_simp; (try with_reducible rfl))
    try simp only [Act.put, List.setIfInBounds_toArray, List.set_cons_zero, List.set_cons_succ]
    refine take_to (i := 17) (d := some 55) (v := VA) (l' := #[true, true, true, true, true, true, true, true, true, true, true, true, true, true, true, true, true, true, false, false, false, false, false, false, false, false, false, false, false, false, false, false, false, false, false, false, false, false, false, false, false, false, false, false, false, false, false, false, false, false, false, false, false, false, false, false, false]) rfl rfl (by kernel_rfl) (by kernel_rfl) (by kernel_rfl) (by kernel_rfl) (fun _ _ _ h => h) ?_ (by assumption) ?_
    · exact LA.out _ _ _ _ (by rfl) rfl rfl
    try simp only [Act.put, List.setIfInBounds_toArray, List.set_cons_zero, List.set_cons_succ]
    refine take_to (i := 18) (d := some 56) (v := VC) (l' := #[true, true, true, true, true, true, true, true, true, true, true, true, true, true, true, true, true, true, true, false, false, false, false, false, false, false, false, false, false, false, false, false, false, false, false, false, false, false, false, false, false, false, false, false, false, false, false, false, false, false, false, false, false, false, false, false, false]) rfl rfl (by kernel_rfl) (by kernel_rfl) (by kernel_rfl) (by kernel_rfl) (fun _ _ _ h => h) ?_ (by assumption) ?_
    · exact LC.out _ _ _ _ (by rfl) rfl rfl
    try simp only [Act.put, List.setIfInBounds_toArray, List.set_cons_zero, List.set_cons_succ]
    refine take_to (i := 20) (d := some 58) (v := ?_) (l' := #[true, true, true, true, true, true, true, true, true, true, true, true, true, true, true, true, true, true, true, false, true, false, false, false, false, false, false, false, false, false, false, false, false, false, false, false, false, false, false, false, false, false, false, false, false, false, false, false, false, false, false, false, false, false, false, false, false]) rfl rfl (by kernel_rfl) (by kernel_rfl) (by kernel_rfl) (by kernel_rfl) (fun _ _ _ h => h) (Or.inl ⟨by rfl, ?_⟩) (by assumption) ?_; rotate_left; · (intro w' hSw; (try dsimp only at hSw); go_simp; (try with_reducible rfl))
    try simp only [Act.put, List.setIfInBounds_toArray, List.set_cons_zero, List.set_cons_succ]
    refine take_to (i := 21) (d := some 59) (v := ?_) (l' := #[true, true, true, true, true, true, true, true, true, true, true, true, true, true, true, true, true, true, true, false, true, true, false, false, false, false, false, false, false, false, false, false, false, false, false, false, false, false, false, false, false, false, false, false, false, false, false, false, false, false, false, false, false, false, false, false, false]) rfl rfl (by kernel_rfl) (by kernel_rfl) (by kernel_rfl) (by kernel_rfl) (fun _ _ _ h => h) (Or.inl ⟨by rfl, ?_⟩) (by assumption) ?_; rotate_left; · (intro w' hSw; (try dsimp only at hSw); go_simp; (try with_reducible rfl))
    try simp only [Act.put, List.setIfInBounds_toArray, List.set_cons_zero, List.set_cons_succ]
    refine one_to (i := 19) (l' := #[true, true, true, true, true, true, true, true, true, true, true, true, true, true, true, true, true, true, true, true, true, true, false, false, false, false, false, false, false, false, false, false, false, false, false, false, false, false, false, false, false, false, false, false, false, false, false, false, false, false, false, false, false, false, false, false, false]) rfl (by kernel_rfl) (by kernel_rfl) (fun K hK => ?_)
    go_simp
    refine (KAC.out _).mono ?_
    rintro e w8 ⟨rfl, hb8⟩
    dsimp only
    refine hK.out _ _ (by (repeat (first | exact HV.out | apply S4.drew | apply S4.alloc | (refine S4.go ?_ (by assumption))))) (fun hHeld => ?_)
    clear hK K
    try simp only [Act.put, List.setIfInBounds_toArray, List.set_cons_zero, List.set_cons_succ]
    refine take_to (i := 22) (d := some 60) (v := ?_) (l' := #[true, true, true, true, true, true, true, true, true, true, true, true, true, true, true, true, true, true, true, true, true, true, true, false, false, false, false, false, false, false, false, false, false, false, false, false, false, false, false, false, false, false, false, false, false, false, false, false, false, false, false, false, false, false, false, false, false]) rfl rfl (by kernel_rfl) (by kernel_rfl) (by kernel_rfl) (by kernel_rfl) (fun _ _ _ h => h) (Or.inl ⟨by rfl, ?_⟩) (by assumption) ?_; rotate_left; · (intro w' hSw; (try dsimp only at hSw); go_simp; (try with_reducible rfl))
    try simp only [Act.put, List.setIfInBounds_toArray, List.set_cons_zero, List.set_cons_succ]
    refine take_to (i := 23) (d := some 61) (v := ?_) (l' := #[true, true, true, true, true, true, true, true, true, true, true, true, true, true, true, true, true, true, true, true, true, true, true, true, false, false, false, false, false, false, false, false, false, false, false, false, false, false, false, false, false, false, false, false, false, false, false, false, false, false, false, false, false, false, false, false, false]) rfl rfl (by kernel_rfl) (by kernel_rfl) (by kernel_rfl) (by kernel_rfl) (fun _ _ _ h => h) (Or.inl ⟨by rfl, ?_⟩) (by assumption) ?_; rotate_left; · (intro w' hSw; (try dsimp only at hSw); go_simp; (try with_reducible rfl))
    try simp only [Act.put, List.setIfInBounds_toArray, List.set_cons_zero, List.set_cons_succ]
    refine take_to (i := 24) (d := some 62) (v := ?_) (l' := #[true, true, true, true, true, true, true, true, true, true, true, true, true, true, true, true, true, true, true, true, true, true, true, true, true, false, false, false, false, false, false, false, false, false, false, false, false, false, false, false, false, false, false, false, false, false, false, false, false, false, false, false, false, false, false, false, false]) rfl rfl (by kernel_rfl) (by kernel_rfl) (by kernel_rfl) (by kernel_rfl) (fun _ _ _ h => h) (Or.inl ⟨by rfl, ?_⟩) (by assumption) ?_; rotate_left; · (intro w' hSw; (try dsimp only at hSw); go_simp; (try with_reducible rfl))
    try simp only [Act.put, List.setIfInBounds_toArray, List.set_cons_zero, List.set_cons_succ]
    refine take_to (i := 25) (d := some 63) (v := ?_) (l' := #[true, true, true, true, true, true, true, true, true, true, true, true, true, true, true, true, true, true, true, true, true, true, true, true, true, true, false, false, false, false, false, false, false, false, false, false, false, false, false, false, false, false, false, false, false, false, false, false, false, false, false, false, false, false, false, false, false]) rfl rfl (by kernel_rfl) (by kernel_rfl) (by kernel_rfl) (by kernel_rfl) (fun _ _ _ h => h) (Or.inl ⟨by rfl, ?_⟩) (by assumption) ?_; rotate_left; · (intro w' hSw; (try dsimp only at hSw); go_simp; (try with_reducible rfl))
    try simp only [Act.put, List.setIfInBounds_toArray, List.set_cons_zero, List.set_cons_succ]
    refine take_to (i := 26) (d := some 64) (v := VC) (l' := #[true, true, true, true, true, true, true, true, true, true, true, true, true, true, true, true, true, true, true, true, true, true, true, true, true, true, true, false, false, false, false, false, false, false, false, false, false, false, false, false, false, false, false, false, false, false, false, false, false, false, false, false, false, false, false, false, false]) rfl rfl (by kernel_rfl) (by kernel_rfl) (by kernel_rfl) (by kernel_rfl) (fun _ _ _ h => h) ?_ (by assumption) ?_
    · exact LC.out _ _ _ _ (by rfl) rfl rfl
    try simp only [Act.put, List.setIfInBounds_toArray, List.set_cons_zero, List.set_cons_succ]
    refine take_to (i := 27) (d := some 65) (v := ?_) (l' := #[true, true, true, true, true, true, true, true, true, true, true, true, true, true, true, true, true, true, true, true, true, true, true, true, true, true, true, true, false, false, false, false, false, false, false, false, false, false, false, false, false, false, false, false, false, false, false, false, false, false, false, false, false, false, false, false, false]) rfl rfl (by kernel_rfl) (by kernel_rfl) (by kernel_rfl) (by kernel_rfl) (fun _ _ _ h => h) (Or.inl ⟨by rfl, ?_⟩) (by assumption) ?_; rotate_left; · (intro w' hSw; (try dsimp only at hSw); go_simp; (try with_reducible rfl))
    try simp only [Act.put, List.setIfInBounds_toArray, List.set_cons_zero, List.set_cons_succ]
    refine take_to (i := 31) (d := some 69) (v := VC) (l' := #[true, true, true, true, true, true, true, true, true, true, true, true, true, true, true, true, true, true, true, true, true, true, true, true, true, true, true, true, false, false, false, true, false, false, false, false, false, false, false, false, false, false, false, false, false, false, false, false, false, false, false, false, false, false, false, false, false]) rfl rfl (by kernel_rfl) (by kernel_rfl) (by kernel_rfl) (by kernel_rfl) (fun _ _ _ h => h) ?_ (by assumption) ?_
    · exact LC.out _ _ _ _ (by rfl) rfl rfl
    try simp only [Act.put, List.setIfInBounds_toArray, List.set_cons_zero, List.set_cons_succ]
    refine take_to (i := 32) (d := some 70) (v := VT) (l' := #[true, true, true, true, true, true, true, true, true, true, true, true, true, true, true, true, true, true, true, true, true, true, true, true, true, true, true, true, false, false, false, true, true, false, false, false, false, false, false, false, false, false, false, false, false, false, false, false, false, false, false, false, false, false, false, false, false]) rfl rfl (by kernel_rfl) (by kernel_rfl) (by kernel_rfl) (by kernel_rfl) (fun _ _ _ h => h) ?_ (by assumption) ?_
    · exact LT.out _ _ _ _ (by rfl) rfl rfl
    try simp only [Act.put, List.setIfInBounds_toArray, List.set_cons_zero, List.set_cons_succ]
    refine take_to (i := 33) (d := some 71) (v := ?_) (l' := #[true, true, true, true, true, true, true, true, true, true, true, true, true, true, true, true, true, true, true, true, true, true, true, true, true, true, true, true, false, false, false, true, true, true, false, false, false, false, false, false, false, false, false, false, false, false, false, false, false, false, false, false, false, false, false, false, false]) rfl rfl (by kernel_rfl) (by kernel_rfl) (by kernel_rfl) (by kernel_rfl) (fun _ _ _ h => h) (Or.inl ⟨by rfl, ?_⟩) (by assumption) ?_; rotate_left; · (intro w' hSw; (try dsimp only at hSw); go_simp; (try with_reducible rfl))
    try simp only [Act.put, List.setIfInBounds_toArray, List.set_cons_zero, List.set_cons_succ]
    refine one_to (i := 28) (l' := #[true, true, true, true, true, true, true, true, true, true, true, true, true, true, true, true, true, true, true, true, true, true, true, true, true, true, true, true, true, false, false, true, true, true, false, false, false, false, false, false, false, false, false, false, false, false, false, false, false, false, false, false, false, false, false, false, false]) rfl (by kernel_rfl) (by kernel_rfl) (fun K hK => ?_)
    go_simp
    refine hK.out _ _ (by (repeat (first | exact HV.out | apply S4.drew | apply S4.alloc | (refine S4.go ?_ (by assumption))))) (fun hHeld => ?_)
    clear hK K
    try simp only [Act.put, List.setIfInBounds_toArray, List.set_cons_zero, List.set_cons_succ]
    refine one_to (i := 29) (l' := #[true, true, true, true, true, true, true, true, true, true, true, true, true, true, true, true, true, true, true, true, true, true, true, true, true, true, true, true, true, true, false, true, true, true, false, false, false, false, false, false, false, false, false, false, false, false, false, false, false, false, false, false, false, false, false, false, false]) rfl (by kernel_rfl) (by kernel_rfl) (fun K hK => ?_)
    go_simp
    refine (KC.out _ _ (by (try simp only [heap_drew]); repeat (first | (apply laid_at; simp; done) | apply laid_old | (refine laid_go ?_ (by assumption); try simp only [heap_drew]))) (by repeat (first | exact HV.out | apply S4.drew | apply S4.alloc | (refine S4.go ?_ (by assumption))))).mono ?_
    rintro e w9 ⟨rfl, hb9⟩
    dsimp only
    refine hK.out _ _ (by (repeat (first | exact HV.out | apply S4.drew | apply S4.alloc | (refine S4.go ?_ (by assumption))))) (fun hHeld => ?_)
    clear hK K
    try simp only [Act.put, List.setIfInBounds_toArray, List.set_cons_zero, List.set_cons_succ]
    refine take_to (i := 30) (d := some 68) (v := ?_) (l' := #[true, true, true, true, true, true, true, true, true, true, true, true, true, true, true, true, true, true, true, true, true, true, true, true, true, true, true, true, true, true, true, true, true, true, false, false, false, false, false, false, false, false, false, false, false, false, false, false, false, false, false, false, false, false, false, false, false]) rfl rfl (by kernel_rfl) (by kernel_rfl) (by kernel_rfl) (by kernel_rfl) (fun _ _ _ h => h) (Or.inl ⟨by rfl, ?_⟩) (by assumption) ?_; rotate_left; · (intro w' hSw; (try dsimp only at hSw); go_simp; (try with_reducible rfl))
    try simp only [Act.put, List.setIfInBounds_toArray, List.set_cons_zero, List.set_cons_succ]
    refine take_to (i := 34) (d := some 72) (v := ?_) (l' := #[true, true, true, true, true, true, true, true, true, true, true, true, true, true, true, true, true, true, true, true, true, true, true, true, true, true, true, true, true, true, true, true, true, true, true, false, false, false, false, false, false, false, false, false, false, false, false, false, false, false, false, false, false, false, false, false, false]) rfl rfl (by kernel_rfl) (by kernel_rfl) (by kernel_rfl) (by kernel_rfl) (fun _ _ _ h => h) (Or.inl ⟨by rfl, ?_⟩) (by assumption) ?_; rotate_left; · (intro w' hSw; (try dsimp only at hSw); go_simp; (try with_reducible rfl))
    try simp only [Act.put, List.setIfInBounds_toArray, List.set_cons_zero, List.set_cons_succ]
    refine take_to (i := 35) (d := some 73) (v := ?_) (l' := #[true, true, true, true, true, true, true, true, true, true, true, true, true, true, true, true, true, true, true, true, true, true, true, true, true, true, true, true, true, true, true, true, true, true, true, true, false, false, false, false, false, false, false, false, false, false, false, false, false, false, false, false, false, false, false, false, false]) rfl rfl (by kernel_rfl) (by kernel_rfl) (by kernel_rfl) (by kernel_rfl) (fun _ _ _ h => h) (Or.inl ⟨by rfl, ?_⟩) (by assumption) ?_; rotate_left; · (intro w' hSw; (try dsimp only at hSw); go_simp; (try with_reducible rfl))
    try simp only [Act.put, List.setIfInBounds_toArray, List.set_cons_zero, List.set_cons_succ]
    refine take_to (i := 36) (d := some 74) (v := ?_) (l' := #[true, true, true, true, true, true, true, true, true, true, true, true, true, true, true, true, true, true, true, true, true, true, true, true, true, true, true, true, true, true, true, true, true, true, true, true, true, false, false, false, false, false, false, false, false, false, false, false, false, false, false, false, false, false, false, false, false]) rfl rfl (by kernel_rfl) (by kernel_rfl) (by kernel_rfl) (by kernel_rfl) (fun _ _ _ h => h) (Or.inl ⟨by rfl, ?_⟩) (by assumption) ?_; rotate_left; · (intro w' hSw; (try dsimp only at hSw); go_simp; (try with_reducible rfl))
    try simp only [Act.put, List.setIfInBounds_toArray, List.set_cons_zero, List.set_cons_succ]
    refine take_to (i := 37) (d := some 75) (v := ?_) (l' := #[true, true, true, true, true, true, true, true, true, true, true, true, true, true, true, true, true, true, true, true, true, true, true, true, true, true, true, true, true, true, true, true, true, true, true, true, true, true, false, false, false, false, false, false, false, false, false, false, false, false, false, false, false, false, false, false, false]) rfl rfl (by kernel_rfl) (by kernel_rfl) (by kernel_rfl) (by kernel_rfl) (fun _ _ _ h => h) (Or.inl ⟨by rfl, ?_⟩) (by assumption) ?_; rotate_left; · (intro w' hSw; (try dsimp only at hSw); go_simp; (try with_reducible rfl))
    try simp only [Act.put, List.setIfInBounds_toArray, List.set_cons_zero, List.set_cons_succ]
    refine take_to (i := 38) (d := some 76) (v := VC) (l' := #[true, true, true, true, true, true, true, true, true, true, true, true, true, true, true, true, true, true, true, true, true, true, true, true, true, true, true, true, true, true, true, true, true, true, true, true, true, true, true, false, false, false, false, false, false, false, false, false, false, false, false, false, false, false, false, false, false]) rfl rfl (by kernel_rfl) (by kernel_rfl) (by kernel_rfl) (by kernel_rfl) (fun _ _ _ h => h) ?_ (by assumption) ?_
    · exact LC.out _ _ _ _ (by rfl) rfl rfl
    try simp only [Act.put, List.setIfInBounds_toArray, List.set_cons_zero, List.set_cons_succ]
    refine take_to (i := 39) (d := some 77) (v := ?_) (l' := #[true, true, true, true, true, true, true, true, true, true, true, true, true, true, true, true, true, true, true, true, true, true, true, true, true, true, true, true, true, true, true, true, true, true, true, true, true, true, true, true, false, false, false, false, false, false, false, false, false, false, false, false, false, false, false, false, false]) rfl rfl (by kernel_rfl) (by kernel_rfl) (by kernel_rfl) (by kernel_rfl) (fun _ _ _ h => h) (Or.inl ⟨by rfl, ?_⟩) (by assumption) ?_; rotate_left; · (intro w' hSw; (try dsimp only at hSw); go_simp; (try with_reducible rfl))
    try simp only [Act.put, List.setIfInBounds_toArray, List.set_cons_zero, List.set_cons_succ]
    refine take_to (i := 43) (d := some 81) (v := VC) (l' := #[true, true, true, true, true, true, true, true, true, true, true, true, true, true, true, true, true, true, true, true, true, true, true, true, true, true, true, true, true, true, true, true, true, true, true, true, true, true, true, true, false, false, false, true, false, false, false, false, false, false, false, false, false, false, false, false, false]) rfl rfl (by kernel_rfl) (by kernel_rfl) (by kernel_rfl) (by kernel_rfl) (fun _ _ _ h => h) ?_ (by assumption) ?_
    · exact LC.out _ _ _ _ (by rfl) rfl rfl
    try simp only [Act.put, List.setIfInBounds_toArray, List.set_cons_zero, List.set_cons_succ]
    refine take_to (i := 44) (d := some 82) (v := VT) (l' := #[true, true, true, true, true, true, true, true, true, true, true, true, true, true, true, true, true, true, true, true, true, true, true, true, true, true, true, true, true, true, true, true, true, true, true, true, true, true, true, true, false, false, false, true, true, false, false, false, false, false, false, false, false, false, false, false, false]) rfl rfl (by kernel_rfl) (by kernel_rfl) (by kernel_rfl) (by kernel_rfl) (fun _ _ _ h => h) ?_ (by assumption) ?_
    · exact LT.out _ _ _ _ (by rfl) rfl rfl
    try simp only [Act.put, List.setIfInBounds_toArray, List.set_cons_zero, List.set_cons_succ]
    refine take_to (i := 45) (d := some 83) (v := ?_) (l' := #[true, true, true, true, true, true, true, true, true, true, true, true, true, true, true, true, true, true, true, true, true, true, true, true, true, true, true, true, true, true, true, true, true, true, true, true, true, true, true, true, false, false, false, true, true, true, false, false, false, false, false, false, false, false, false, false, false]) rfl rfl (by kernel_rfl) (by kernel_rfl) (by kernel_rfl) (by kernel_rfl) (fun _ _ _ h => h) (Or.inl ⟨by rfl, ?_⟩) (by assumption) ?_; rotate_left; · (intro w' hSw; (try dsimp only at hSw); go_simp; (try with_reducible rfl))
    try simp only [Act.put, List.setIfInBounds_toArray, List.set_cons_zero, List.set_cons_succ]
    refine one_to (i := 40) (l' := #[true, true, true, true, true, true, true, true, true, true, true, true, true, true, true, true, true, true, true, true, true, true, true, true, true, true, true, true, true, true, true, true, true, true, true, true, true, true, true, true, true, false, false, true, true, true, false, false, false, false, false, false, false, false, false, false, false]) rfl (by kernel_rfl) (by kernel_rfl) (fun K hK => ?_)
    go_simp
    refine hK.out _ _ (by (repeat (first | exact HV.out | apply S4.drew | apply S4.alloc | (refine S4.go ?_ (by assumption))))) (fun hHeld => ?_)
    clear hK K
    try simp only [Act.put, List.setIfInBounds_toArray, List.set_cons_zero, List.set_cons_succ]
    refine one_to (i := 41) (l' := #[true, true, true, true, true, true, true, true, true, true, true, true, true, true, true, true, true, true, true, true, true, true, true, true, true, true, true, true, true, true, true, true, true, true, true, true, true, true, true, true, true, true, false, true, true, true, false, false, false, false, false, false, false, false, false, false, false]) rfl (by kernel_rfl) (by kernel_rfl) (fun K hK => ?_)
    go_simp
    refine (KC.out _ _ (by (try simp only [heap_drew]); repeat (first | (apply laid_at; simp; done) | apply laid_old | (refine laid_go ?_ (by assumption); try simp only [heap_drew]))) (by repeat (first | exact HV.out | apply S4.drew | apply S4.alloc | (refine S4.go ?_ (by assumption))))).mono ?_
    rintro e w10 ⟨rfl, hb10⟩
    dsimp only
    refine hK.out _ _ (by (repeat (first | exact HV.out | apply S4.drew | apply S4.alloc | (refine S4.go ?_ (by assumption))))) (fun hHeld => ?_)
    clear hK K
    try simp only [Act.put, List.setIfInBounds_toArray, List.set_cons_zero, List.set_cons_succ]
    refine take_to (i := 42) (d := some 80) (v := ?_) (l' := #[true, true, true, true, true, true, true, true, true, true, true, true, true, true, true, true, true, true, true, true, true, true, true, true, true, true, true, true, true, true, true, true, true, true, true, true, true, true, true, true, true, true, true, true, true, true, false, false, false, false, false, false, false, false, false, false, false]) rfl rfl (by kernel_rfl) (by kernel_rfl) (by kernel_rfl) (by kernel_rfl) (fun _ _ _ h => h) (Or.inl ⟨by rfl, ?_⟩) (by assumption) ?_; rotate_left; · (intro w' hSw; (try dsimp only at hSw); go_simp; (try with_reducible rfl))
    try simp only [Act.put, List.setIfInBounds_toArray, List.set_cons_zero, List.set_cons_succ]
    refine take_to (i := 46) (d := some 84) (v := ?_) (l' := #[true, true, true, true, true, true, true, true, true, true, true, true, true, true, true, true, true, true, true, true, true, true, true, true, true, true, true, true, true, true, true, true, true, true, true, true, true, true, true, true, true, true, true, true, true, true, true, false, false, false, false, false, false, false, false, false, false]) rfl rfl (by kernel_rfl) (by kernel_rfl) (by kernel_rfl) (by kernel_rfl) (fun _ _ _ h => h) (Or.inl ⟨by rfl, ?_⟩) (by assumption) ?_; rotate_left; · (intro w' hSw; (try dsimp only at hSw); go_simp; (try with_reducible rfl))
    try simp only [Act.put, List.setIfInBounds_toArray, List.set_cons_zero, List.set_cons_succ]
    refine take_to (i := 47) (d := some 85) (v := ?_) (l' := #[true, true, true, true, true, true, true, true, true, true, true, true, true, true, true, true, true, true, true, true, true, true, true, true, true, true, true, true, true, true, true, true, true, true, true, true, true, true, true, true, true, true, true, true, true, true, true, true, false, false, false, false, false, false, false, false, false]) rfl rfl (by kernel_rfl) (by kernel_rfl) (by kernel_rfl) (by kernel_rfl) (fun _ _ _ h => h) (Or.inl ⟨by rfl, ?_⟩) (by assumption) ?_; rotate_left; · (intro w' hSw; (try dsimp only at hSw); go_simp; (try with_reducible rfl))
    try simp only [Act.put, List.setIfInBounds_toArray, List.set_cons_zero, List.set_cons_succ]
    refine take_to (i := 48) (d := some 86) (v := ?_) (l' := #[true, true, true, true, true, true, true, true, true, true, true, true, true, true, true, true, true, true, true, true, true, true, true, true, true, true, true, true, true, true, true, true, true, true, true, true, true, true, true, true, true, true, true, true, true, true, true, true, true, false, false, false, false, false, false, false, false]) rfl rfl (by kernel_rfl) (by kernel_rfl) (by kernel_rfl) (by kernel_rfl) (fun _ _ _ h => h) (Or.inl ⟨by rfl, ?_⟩) (by assumption) ?_; rotate_left; · (intro w' hSw; (try dsimp only at hSw); go_simp; (try with_reducible rfl))
    try simp only [Act.put, List.setIfInBounds_toArray, List.set_cons_zero, List.set_cons_succ]
    refine take_to (i := 49) (d := some 87) (v := ?_) (l' := #[true, true, true, true, true, true, true, true, true, true, true, true, true, true, true, true, true, true, true, true, true, true, true, true, true, true, true, true, true, true, true, true, true, true, true, true, true, true, true, true, true, true, true, true, true, true, true, true, true, true, false, false, false, false, false, false, false]) rfl rfl (by kernel_rfl) (by kernel_rfl) (by kernel_rfl) (by kernel_rfl) (fun _ _ _ h => h) (Or.inl ⟨by rfl, ?_⟩) (by assumption) ?_; rotate_left; · (intro w' hSw; (try dsimp only at hSw); go_simp; (try with_reducible rfl))
    try simp only [Act.put, List.setIfInBounds_toArray, List.set_cons_zero, List.set_cons_succ]
    refine take_to (i := 50) (d := some 88) (v := VT) (l' := #[true, true, true, true, true, true, true, true, true, true, true, true, true, true, true, true, true, true, true, true, true, true, true, true, true, true, true, true, true, true, true, true, true, true, true, true, true, true, true, true, true, true, true, true, true, true, true, true, true, true, true, false, false, false, false, false, false]) rfl rfl (by kernel_rfl) (by kernel_rfl) (by kernel_rfl) (by kernel_rfl) (fun _ _ _ h => h) ?_ (by assumption) ?_
    · exact LT.out _ _ _ _ (by rfl) rfl rfl
    try simp only [Act.put, List.setIfInBounds_toArray, List.set_cons_zero, List.set_cons_succ]
    refine take_to (i := 51) (d := some 89) (v := ?_) (l' := #[true, true, true, true, true, true, true, true, true, true, true, true, true, true, true, true, true, true, true, true, true, true, true, true, true, true, true, true, true, true, true, true, true, true, true, true, true, true, true, true, true, true, true, true, true, true, true, true, true, true, true, true, false, false, false, false, false]) rfl rfl (by kernel_rfl) (by kernel_rfl) (by kernel_rfl) (by kernel_rfl) (fun _ _ _ h => h) (Or.inl ⟨by rfl, ?_⟩) (by assumption) ?_; rotate_left; · (intro w' hSw; (try dsimp only at hSw); go_simp; (try with_reducible rfl))
    try simp only [Act.put, List.setIfInBounds_toArray, List.set_cons_zero, List.set_cons_succ]
    refine one_to (i := 52) (l' := #[true, true, true, true, true, true, true, true, true, true, true, true, true, true, true, true, true, true, true, true, true, true, true, true, true, true, true, true, true, true, true, true, true, true, true, true, true, true, true, true, true, true, true, true, true, true, true, true, true, true, true, true, true, false, false, false, false]) rfl (by kernel_rfl) (by kernel_rfl) (fun K hK => ?_)
    go_simp
    refine hK.out _ _ (by (repeat (first | exact HV.out | apply S4.drew | apply S4.alloc | (refine S4.go ?_ (by assumption))))) (fun hHeld => ?_)
    clear hK K
    try simp only [Act.put, List.setIfInBounds_toArray, List.set_cons_zero, List.set_cons_succ]
    refine one_to (i := 53) (l' := #[true, true, true, true, true, true, true, true, true, true, true, true, true, true, true, true, true, true, true, true, true, true, true, true, true, true, true, true, true, true, true, true, true, true, true, true, true, true, true, true, true, true, true, true, true, true, true, true, true, true, true, true, true, true, false, false, false]) rfl (by kernel_rfl) (by kernel_rfl) (fun K hK => ?_)
    go_simp
    refine (KT.out _ _ (by (try simp only [heap_drew]); repeat (first | (apply laid_at; simp; done) | apply laid_old | (refine laid_go ?_ (by assumption); try simp only [heap_drew]))) (by repeat (first | exact HV.out | apply S4.drew | apply S4.alloc | (refine S4.go ?_ (by assumption))))).mono ?_
    rintro e w11 ⟨rfl, hb11⟩
    dsimp only
    refine hK.out _ _ (by (repeat (first | exact HV.out | apply S4.drew | apply S4.alloc | (refine S4.go ?_ (by assumption))))) (fun hHeld => ?_)
    clear hK K
    try simp only [Act.put, List.setIfInBounds_toArray, List.set_cons_zero, List.set_cons_succ]
    refine take_to (i := 54) (d := some 92) (v := ?_) (l' := #[true, true, true, true, true, true, true, true, true, true, true, true, true, true, true, true, true, true, true, true, true, true, true, true, true, true, true, true, true, true, true, true, true, true, true, true, true, true, true, true, true, true, true, true, true, true, true, true, true, true, true, true, true, true, true, false, false]) rfl rfl (by kernel_rfl) (by kernel_rfl) (by kernel_rfl) (by kernel_rfl) (fun _ _ _ h => h) (Or.inl ⟨by rfl, ?_⟩) (by assumption) ?_; rotate_left; · (intro w' hSw; (try dsimp only at hSw); go_simp; (try with_reducible rfl))
    try simp only [Act.put, List.setIfInBounds_toArray, List.set_cons_zero, List.set_cons_succ]
    refine take_to (i := 55) (d := some 93) (v := ?_) (l' := #[true, true, true, true, true, true, true, true, true, true, true, true, true, true, true, true, true, true, true, true, true, true, true, true, true, true, true, true, true, true, true, true, true, true, true, true, true, true, true, true, true, true, true, true, true, true, true, true, true, true, true, true, true, true, true, true, false]) rfl rfl (by kernel_rfl) (by kernel_rfl) (by kernel_rfl) (by kernel_rfl) (fun _ _ _ h => h) (Or.inl ⟨by rfl, ?_⟩) (by assumption) ?_; rotate_left; · (intro w' hSw; (try dsimp only at hSw); go_simp; (try with_reducible rfl))
    try simp only [Act.put, List.setIfInBounds_toArray, List.set_cons_zero, List.set_cons_succ]
    refine take_to (i := 56) (d := some 12) (v := ?_) (l' := #[true, true, true, true, true, true, true, true, true, true, true, true, true, true, true, true, true, true, true, true, true, true, true, true, true, true, true, true, true, true, true, true, true, true, true, true, true, true, true, true, true, true, true, true, true, true, true, true, true, true, true, true, true, true, true, true, true]) rfl rfl (by kernel_rfl) (by kernel_rfl) (by kernel_rfl) (by kernel_rfl) (fun _ _ _ h => h) (Or.inl ⟨by rfl, ?_⟩) (by assumption) ?_; rotate_left; · (intro w' hSw; (try dsimp only at hSw); go_simp; (try with_reducible rfl))
    try simp only [Act.put, List.setIfInBounds_toArray, List.set_cons_zero, List.set_cons_succ]
    refine wpAnyH_done (by kernel_rfl) ?_ _
    refine NoPanic.normal ?_
    have HFIN := Lib.hid hHeld.s2.bel
    clear hHeld
    go_wp2
    go_ret
    exact ⟨rfl, HFIN.out⟩
end Go.Proofs.YtkheljpkbcodfaaDoor
