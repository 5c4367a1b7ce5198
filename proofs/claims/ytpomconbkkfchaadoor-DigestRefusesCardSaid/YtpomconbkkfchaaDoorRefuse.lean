/-
  The walk of the law DigestRefuses.
-/
import Derived.Test.YtpomconbkkfchaaDoorAbc
import Derived.Test.YtpomconbkkfchaaDoorRegs
namespace Go.Proofs.YtpomconbkkfchaaDoor
open Go.RowKit
set_option linter.unusedVariables false

theorem tmod_lo (a n : Int) (hn : 0 < n) : -n < a.tmod n ∧ a.tmod n < n ∧ (0 ≤ a.tmod n ∨ a.tmod n < 0) := by
  have h1 := Int.tmod_lt_of_pos a hn
  have h2 : -n < a.tmod n := by
    have := Int.lt_tmod_of_pos a hn
    omega
  omega
set_option maxHeartbeats 400000 in
theorem pick_any (a n : Int) (w : World) (hn : 0 < n) (hn2 : n ≤ 1000000000) :
    Calls Tryd.prog 20 #[.int .i64 a, .int .i64 n] w fun e w' => (∃ q : Nat, (q : Int) < n ∧ e = .returned (.int .i64 (q : Int))) ∧ w = w' := by
  obtain ⟨h1, h2, _⟩ := tmod_lo a n hn
  by_cases h0 : a.tmod n < 0
  · have s1 : IntKind.i64.wrap (a.tmod n + n) = a.tmod n + n := IntWalk.i64_in _ (by omega)
    go_enter Tryd.func20, Tryd.ntmps20
    go_wp2
    go_ret
    exact ⟨⟨(a.tmod n + n).toNat, by omega, by show Ending.returned (Value.int .i64 (a.tmod n + n)) = _; rw [show (((a.tmod n + n).toNat : Nat) : Int) = a.tmod n + n by omega]⟩, rfl⟩
  · go_enter Tryd.func20, Tryd.ntmps20
    go_wp2
    go_ret
    exact ⟨⟨(a.tmod n).toNat, by omega, by show Ending.returned (Value.int .i64 (a.tmod n)) = _; rw [show (((a.tmod n).toNat : Nat) : Int) = a.tmod n by omega]⟩, rfl⟩
theorem laid_go {W W' : World} {H : Nat} {o : Obj} (h : W.heap[H]? = some o) (b : Below W.heap.size W W') : W'.heap[H]? = some o :=
  (b.block H (Array.getElem?_eq_some_iff.1 h).1).trans h
/-- what stays while a law asks a hasher of the first n0 of g -/
structure RV (B : Nat) (w : World) (hb : Nat) (g : Nat → BitVec 8) (n0 : Nat) (W : World) : Prop where
  hh : HH W hb g n0 (some ⟨hb, 0, none⟩)
  kc : Kc B W
  bel : Below w.heap.size w W
  sz : w.heap.size ≤ W.heap.size
  lo : B ≤ w.heap.size
  hi : w.heap.size ≤ hb
section
variable {B hb n0 : Nat} {w W W' : World} {g : Nat → BitVec 8}
theorem RV.drew (h : RV B w hb g n0 W) : RV B w hb g n0 W.drew := ⟨h.hh.drew, h.kc.below (Below.refl _ _).drew, h.bel.drew, h.sz, h.lo, h.hi⟩
theorem RV.go (h : RV B w hb g n0 W) (b : Below W.heap.size W W') : RV B w hb g n0 W' :=
  ⟨h.hh.below' b, h.kc.below (b.mono (Nat.le_trans h.lo h.sz)), h.bel.trans (b.mono h.sz), Nat.le_trans h.sz b.size, h.lo, h.hi⟩
theorem RV.alloc (h : RV B w hb g n0 W) (o : Obj) : RV B w hb g n0 (W.alloc o) := h.go ((Below.refl _ _).alloc (Nat.le_refl _) o)
theorem RV.wrote {m : Nat} (h : RV B w hb g n0 W) (b : W.grownBy W' (some hb)) (hh : HH W' hb g m (some ⟨hb, 0, none⟩)) : RV B w hb g m W' :=
  ⟨hh, h.kc.below (gr_below b (Nat.le_trans h.lo h.hi) (Nat.le_trans h.lo h.sz)), h.bel.grown b h.sz (by rintro k ⟨⟩; exact h.hi), Nat.le_trans h.sz b.size, h.lo, h.hi⟩
theorem RV.reads {p : Option Addr} {n : Nat} {f : Nat → Value} (h : RV B w hb g n0 W) (r : Reads w.heap.size w p n f) : Reads W.heap.size W p n f := (r.below h.bel).mono h.sz
theorem RV.rx {p : Option Addr} {n : Nat} {f : Nat → Value} (h : RV B w hb g n0 W) (r : Reads w.heap.size w p n f) : RX hb W p n f := (r.below h.bel).rx h.hi h.hh.lt
theorem RV.asks (h : RV B w hb g n0 W) (hn : n0 ≤ 2147483648) :
    Calls Tryd.prog 12 #[.pointer (some ⟨hb, 0, none⟩)] W fun e w' => e = .returned (tagV (sha g n0)) ∧ Below W.heap.size W w' := tagOf_any B W hb g n0 h.kc (Nat.le_trans h.lo h.hi) h.hh hn
end
theorem RV.of1 {B hb n0 H n c : Nat} {w W : World} {g : Nat → BitVec 8} {p : Option Addr} {t : TypeId} (h : RV B w hb g n0 W) (hW : W.heap[H]? = some (.cells #[.slice p n c] t (0, 0))) (hc : n ≤ c) (hm : c ≤ maxLen) (hr : Reads w.heap.size w p n (fun j => .int .u8 (ub (g j)))) (hn : n ≤ 2147483648) :
    Calls Tryd.prog 16 #[.slice (some ⟨H, 0, none⟩) 1 1] W fun e w' => e = .returned (tagV (sha g n)) ∧ Below W.heap.size W w' := Go.Proofs.YtpomconbkkfchaaDoor.of1 B W H n c p t g h.kc (Nat.le_trans h.lo h.sz) hW hc hm (h.reads hr) hn
theorem RV.of2 {B hb n0 H n c n2 c2 : Nat} {w W : World} {g : Nat → BitVec 8} {p p2 : Option Addr} {t : TypeId} (h : RV B w hb g n0 W) (hW : W.heap[H]? = some (.cells #[.slice p n c, .slice p2 n2 c2] t (0, 0))) (hc : n ≤ c) (hm : c ≤ maxLen) (hc2 : n2 ≤ c2) (hm2 : c2 ≤ maxLen)
    (hr : Reads w.heap.size w p n (fun j => .int .u8 (ub (g j)))) (hr2 : Reads w.heap.size w p2 n2 (fun j => .int .u8 (ub (g (n + j))))) (hn : n + n2 ≤ 2147483648) :
    Calls Tryd.prog 16 #[.slice (some ⟨H, 0, none⟩) 2 2] W fun e w' => e = .returned (tagV (sha g (n + n2))) ∧ Below W.heap.size W w' := Go.Proofs.YtpomconbkkfchaaDoor.of2 B W H n c n2 c2 p p2 t g h.kc (Nat.le_trans h.lo h.sz) hW hc hm hc2 hm2 (h.reads hr) (h.reads hr2) hn
theorem RV.len {B hb n0 : Nat} {w W : World} {g : Nat → BitVec 8} (h : RV B w hb g n0 W) :
    Calls Tryd.prog 15 #[.pointer (some ⟨hb, 0, none⟩)] W fun e w' => e = .returned (.int .i64 n0) ∧ W = w' := lenH W hb n0 g h.hh
/-- a row of noughts -/
theorem made_row (n : Nat) : ∃ C : Array Value, (∀ i, i < n → C[i]? = some (.int .u8 (ub 0#8))) ∧ ∀ W : World, (Instr.makeSlice 27 (.int .i64 (n : Int)) (.int .i64 (n : Int))).run Tryd.prog W = (if n ≤ 281474976710656 then .ok (.slice (some ⟨W.heap.size, 0, none⟩) n n) (W.alloc (.cells C 5)) else (Instr.makeSlice 27 (.int .i64 (n : Int)) (.int .i64 (n : Int))).run Tryd.prog W) := by
  obtain ⟨i0, hi, hz0, hz1, hz2⟩ := info_parts Tryd.infoB
  refine ⟨madeCells (Value.int .u8 0).cells (n * i0.size), fun i hi2 => ?_, fun W => ?_⟩
  · rw [hz1, Nat.mul_one]
    have h := toList_madeCells_one (.int .u8 0) n
    rw [← Array.getElem?_toList]
    show (madeCells #[Value.int .u8 0] n).toList[i]? = _
    rw [h]; simp [hi2]; rfl
  · by_cases h : n ≤ 281474976710656
    · rw [if_pos h]
      have := run_make (P := Tryd.prog) W 27 5 i0 (.int .u8 0) Tryd.underlying27 hi hz0 .i64 .i64 (n : Int) (n : Int) (by omega) (by omega) (by rw [hz2]; omega) (by omega)
      rw [show ((n : Int)).toNat = n by omega] at this
      exact this
    · rw [if_neg h]
/-- two rows that are too long together -/
theorem long2 {B hb n0 H n c n2 c2 : Nat} {w W : World} {g : Nat → BitVec 8} {p p2 : Option Addr} {t : TypeId} {f f2 : Nat → BitVec 8} (h : RV B w hb g n0 W) (hW : W.heap[H]? = some (.cells #[.slice p n c, .slice p2 n2 c2] t (0, 0))) (hne : H ≠ hb)
    (hc : n ≤ c) (hm : c ≤ maxLen) (hc2 : n2 ≤ c2) (hm2 : c2 ≤ maxLen) (hr : RX hb W p n (fun j => .int .u8 (ub (f j)))) (hr2 : RX hb W p2 n2 (fun j => .int .u8 (ub (f2 j)))) (h0 : n0 ≤ 1048576) (hn : 1048576 < n0 + (n + n2)) :
    Calls Tryd.prog 11 #[.pointer (some ⟨hb, 0, none⟩), .slice (some ⟨H, 0, none⟩) 2 2] W fun e w' => e = .returned (.int .i64 3) ∧ W = w' :=
  write_long W hb g n0 _ 2 2 _ _ _ _ h.hh (RR.two hW hne hc hm hc2 hm2 hr hr2) (by omega) h0 (by rw [pos_two]; exact hn)
theorem long1 {B hb n0 H n c : Nat} {w W : World} {g : Nat → BitVec 8} {p : Option Addr} {t : TypeId} {f : Nat → BitVec 8} (h : RV B w hb g n0 W) (hW : W.heap[H]? = some (.cells #[.slice p n c] t (0, 0))) (hne : H ≠ hb)
    (hc : n ≤ c) (hm : c ≤ maxLen) (hr : RX hb W p n (fun j => .int .u8 (ub (f j)))) (h0 : n0 ≤ 1048576) (hn : 1048576 < n0 + n) :
    Calls Tryd.prog 11 #[.pointer (some ⟨hb, 0, none⟩), .slice (some ⟨H, 0, none⟩) 1 1] W fun e w' => e = .returned (.int .i64 3) ∧ W = w' :=
  write_long W hb g n0 _ 1 1 _ _ _ _ h.hh (RR.one hW hne hc hm hr) (by omega) h0 (by rw [pos_one]; exact hn)

/-- two rows, one behind the other -/
def cat (f : Nat → BitVec 8) (n : Nat) (f2 : Nat → BitVec 8) : Nat → BitVec 8 := fun i => if i < n then f i else f2 (i - n)
theorem cat_lo {f f2 : Nat → BitVec 8} {n i : Nat} (h : i < n) : cat f n f2 i = f i := by unfold cat; rw [if_pos h]
theorem cat_hi {f f2 : Nat → BitVec 8} {n i : Nat} : cat f n f2 (n + i) = f2 i := by unfold cat; rw [if_neg (by omega), show n + i - n = i by omega]

set_option maxHeartbeats 4000000 in
set_option maxRecDepth 100000 in
theorem refuses_walk (p : Option Addr) (n c : Nat) (f : Nat → BitVec 8) (more : Int) (p2 : Option Addr) (n2 c2 : Nat) (f2 : Nat → BitVec 8) (w : World) (hk : Kc w.heap.size w)
    (hr : Reads w.heap.size w p n (fun i => .int .u8 (ub (f i)))) (hr2 : Reads w.heap.size w p2 n2 (fun i => .int .u8 (ub (f2 i)))) (hc : n ≤ c) (hc2 : n2 ≤ c2) (hm : c ≤ 140737488351232) (hm2 : c2 ≤ 140737488351232) :
    Calls Tryd.prog 6 #[.slice p n c, .int .i64 more, .slice p2 n2 c2] w fun e w' => e = .returned (.bool true) ∧ Below w.heap.size w w' := by
  have HK := Lib.hid hk
  have HR := Lib.hid (show Reads w.heap.size w p n (fun i => .int .u8 (ub (cat f n f2 i))) from hr.mono' (Nat.le_refl _) fun i hi => by rw [cat_lo hi])
  have HR2 := Lib.hid (show Reads w.heap.size w p2 n2 (fun i => .int .u8 (ub (cat f n f2 (n + i)))) from hr2.mono' (Nat.le_refl _) fun i hi => by rw [cat_hi])
  clear hk hr hr2
  have M48 := Lib.hid (show (140737488351232 : Nat) ≤ maxLen by decide)
  generalize cat f n f2 = g at HR HR2
  by_cases hlen : 700 < (n : Int) + (n2 : Int)
  · go_enter Tryd.func6, Tryd.ntmps6
    go_wp2_with fail
    refine (awake2 w.heap.size w HK.out (Nat.le_refl _)).mono ?_
    rintro e w1 ⟨rfl, hb1⟩
    go_wp2
    go_ret
    exact ⟨rfl, hb1⟩
  · go_enter Tryd.func6, Tryd.ntmps6
    go_wp2_with fail
    refine (awake2 w.heap.size w HK.out (Nat.le_refl _)).mono ?_
    rintro e w1 ⟨rfl, hb1⟩
    go_wp2_with fail
    refine (new_any w1).mono ?_
    rintro e W2 ⟨hb, rfl, hbW, hb2, hh2⟩
    have q1 := hb1.size
    have q2 := hb2.size
    have HV2 := Lib.hid (show RV w.heap.size w hb g 0 W2 from ⟨hh2 g, HK.out.below (hb1.trans (hb2.mono q1)), hb1.trans (hb2.mono q1), by omega, Nat.le_refl _, by omega⟩)
    clear hb1 hb2 hh2 HK
    have hlt2 := HV2.out.hh.lt
    go_wp2_with fail
    refine (write1 w.heap.size _ hb W2.heap.size 0 n c p 27 g (HV2.out.alloc _).kc (by omega) (HV2.out.alloc _).hh (laid_at rfl) (by omega) hc (Nat.le_trans hm M48.out) (((HV2.out.alloc _).rx HR.out).congr fun i hi => by rw [Nat.zero_add]) (by omega)).mono ?_
    rintro e W3 ⟨rfl, hg3, hh3⟩
    rw [Nat.zero_add] at hh3
    have HV3 := Lib.hid ((HV2.out.alloc _).wrote hg3 hh3)
    clear hg3 hh3
    have e1 : IntKind.i64.wrap (1048576 - (n : Int)) = 1048576 - (n : Int) := IntWalk.i64_in _ (by omega)
    have e2 : IntKind.i64.wrap (1048576 - (n : Int) + 1) = 1048576 - (n : Int) + 1 := IntWalk.i64_in _ (by omega)
    go_wp2_with fail
    refine (pick_any more 1000 W3 (by omega) (by omega)).mono ?_
    rintro e w' ⟨⟨q, hq, rfl⟩, rfl⟩
    obtain ⟨N, hN⟩ : ∃ N : Nat, N = 1048576 - n + 1 + q := ⟨_, rfl⟩
    obtain ⟨M, hM⟩ : ∃ M : Nat, M = 1048576 - n + q := ⟨_, rfl⟩
    have e3 : IntKind.i64.wrap (1048576 - (n : Int) + 1 + (q : Int)) = (N : Int) := by rw [IntWalk.i64_in _ (by omega)]; omega
    have e4 : IntKind.i64.wrap ((N : Int) - 1) = (M : Int) := by rw [IntWalk.i64_in _ (by omega)]; omega
    have HN := Lib.hid (show 1048576 < n + N ∧ N ≤ 1049577 ∧ N = M + 1 from by omega)
    clear hN hM
    go_upto_region 9 with (fail)
    clear e1 e2 e3
    generalize (1048576 - (n : Int) + 1) = X1
    generalize (1048576 - (n : Int)) = X2
    obtain ⟨C, hC, hmk⟩ := made_row N
    obtain ⟨D, hD, hmd⟩ := made_row M
    obtain ⟨E, hE, hme⟩ := made_row 1
    simp only [show N ≤ 281474976710656 by have := HN.out; omega, show M ≤ 281474976710656 by have := HN.out; omega, show 1 ≤ 281474976710656 by omega, if_true] at hmk hmd hme
    have HC := Lib.hid hC
    have HD := Lib.hid hD
    have HE := Lib.hid hE
    clear hC hD hE
    obtain ⟨T, hT⟩ : ∃ T, T = tagV (sha g n) := ⟨_, rfl⟩
    have hneq : ∀ w, (binOp .neq 32 T T).run Tryd.prog w = .ok (.bool false) w := by rw [hT]; exact neq_tag _
    have hgd : ∀ op x y w, (eqGuard op 32 x y T T).run Tryd.prog w = .ok () w := by rw [hT]; exact guard_tag _ _
    obtain ⟨T2, hT2⟩ : ∃ T, T = tagV (sha g (n + n2)) := ⟨_, rfl⟩
    have HT := Lib.hid hT
    have HT2 := Lib.hid hT2
    clear hT hT2
    have hlt3 := HV3.out.hh.lt
    have hme1 : ∀ W : World, (Instr.makeSlice 27 (.int .i64 1) (.int .i64 1)).run Tryd.prog W = .ok (.slice (some ⟨W.heap.size, 0, none⟩) 1 1) (W.alloc (.cells E 5)) := hme
    clear hme
    have HW1 := Lib.hid (show ∀ W : World, W.heap[W3.heap.size + 1]? = some (.cells #[.slice (some ⟨W3.heap.size, 0, none⟩) N N] 27 (0, 0)) → W.heap[W3.heap.size]? = some (.cells C 5 (0, 0)) → RV w.heap.size w hb g n W →
        Calls Tryd.prog 11 #[.pointer (some ⟨hb, 0, none⟩), .slice (some ⟨W3.heap.size + 1, 0, none⟩) 1 1] W fun e w' => e = .returned (.int .i64 3) ∧ W = w' from
      fun W hW hC hV => long1 (f := fun _ => 0#8) hV hW (by omega) (Nat.le_refl _) (by have h1 := HN.out; have h2 := M48.out; omega) (rx_laid hC (by omega) HC.out) (by omega) (by have h1 := HN.out; omega))
    have HW2 := Lib.hid (show ∀ (W : World) (a b : Nat), W.heap[W3.heap.size + 1 + 1 + 1 + 1]? = some (.cells #[.slice (some ⟨a, 0, none⟩) M M, .slice (some ⟨b, 0, none⟩) 1 1] 27 (0, 0)) → W.heap[a]? = some (.cells D 5 (0, 0)) → W.heap[b]? = some (.cells E 5 (0, 0)) → a ≠ hb → b ≠ hb → RV w.heap.size w hb g n W →
        Calls Tryd.prog 11 #[.pointer (some ⟨hb, 0, none⟩), .slice (some ⟨W3.heap.size + 1 + 1 + 1 + 1, 0, none⟩) 2 2] W fun e w' => e = .returned (.int .i64 3) ∧ W = w' from
      fun W a b hW hD hE na nb hV => long2 (f := fun _ => 0#8) (f2 := fun _ => 0#8) hV hW (by omega) (Nat.le_refl _) (by have h1 := HN.out; have h2 := M48.out; omega) (Nat.le_refl _) (by decide) (rx_laid hD na HD.out) (rx_laid hE nb HE.out) (by omega) (by have h1 := HN.out; omega))
    refine wp_region_noPanic ?_
    refine wp_region_start (n := 31) (l := #[false, false, false, false, false, false, false, false, false, false, false, false, false, false, false, false, false, false, false, false, false, false, false, false, false, false, false, false, false, false, false]) (S := (fun w' => RV w.heap.size w hb g n w')) (by kernel_rfl) rfl (by kernel_rfl) (by (repeat (first | exact HV3.out | apply RV.drew | apply RV.alloc | (refine RV.go ?_ (by assumption))))) (fun hHeld => ?_)
    refine take_to (i := 0) (d := some 30) (v := ?_) (l' := #[true, false, false, false, false, false, false, false, false, false, false, false, false, false, false, false, false, false, false, false, false, false, false, false, false, false, false, false, false, false, false]) rfl rfl (by kernel_rfl) (by kernel_rfl) (by kernel_rfl) (by kernel_rfl) (fun _ _ _ h => h) (Or.inl ⟨by rfl, ?_⟩) (by assumption) ?_; rotate_left; · (intro w' hSw; (try dsimp only at hSw); go_simp; (try with_reducible rfl))
    try simp only [Act.put, List.setIfInBounds_toArray, List.set_cons_zero, List.set_cons_succ]
    refine take_to (i := 1) (d := some 31) (v := ?_) (l' := #[true, true, false, false, false, false, false, false, false, false, false, false, false, false, false, false, false, false, false, false, false, false, false, false, false, false, false, false, false, false, false]) rfl rfl (by kernel_rfl) (by kernel_rfl) (by kernel_rfl) (by kernel_rfl) (fun _ _ _ h => h) (Or.inl ⟨by rfl, ?_⟩) (by assumption) ?_; rotate_left; · (intro w' hSw; (try dsimp only at hSw); go_simp; (try with_reducible rfl))
    try simp only [Act.put, List.setIfInBounds_toArray, List.set_cons_zero, List.set_cons_succ]
    refine one_to (i := 2) (l' := #[true, true, true, false, false, false, false, false, false, false, false, false, false, false, false, false, false, false, false, false, false, false, false, false, false, false, false, false, false, false, false]) rfl (by kernel_rfl) (by kernel_rfl) (fun K hK => ?_)
    go_simp
    refine hK.out _ _ (by (repeat (first | exact HV3.out | apply RV.drew | apply RV.alloc | (refine RV.go ?_ (by assumption))))) (fun hHeld => ?_)
    clear hK K
    try simp only [Act.put, List.setIfInBounds_toArray, List.set_cons_zero, List.set_cons_succ]
    refine one_to (i := 3) (l' := #[true, true, true, true, false, false, false, false, false, false, false, false, false, false, false, false, false, false, false, false, false, false, false, false, false, false, false, false, false, false, false]) rfl (by kernel_rfl) (by kernel_rfl) (fun K hK => ?_)
    go_simp
    refine hK.out _ _ (by (repeat (first | exact HV3.out | apply RV.drew | apply RV.alloc | (refine RV.go ?_ (by assumption))))) (fun hHeld => ?_)
    clear hK K
    try simp only [Act.put, List.setIfInBounds_toArray, List.set_cons_zero, List.set_cons_succ]
    refine one_to (i := 4) (l' := #[true, true, true, true, true, false, false, false, false, false, false, false, false, false, false, false, false, false, false, false, false, false, false, false, false, false, false, false, false, false, false]) rfl (by kernel_rfl) (by kernel_rfl) (fun K hK => ?_)
    go_simp
    refine (HW1.out _ (by (try simp only [heap_drew]); repeat (first | (apply laid_at; simp; done) | apply laid_old)) (by (try simp only [heap_drew]); repeat (first | (apply laid_at; simp; done) | apply laid_old)) (by repeat (first | exact HV3.out | apply RV.drew | apply RV.alloc | (refine RV.go ?_ (by assumption))))).mono ?_
    rintro e w' ⟨rfl, rfl⟩
    dsimp only
    refine hK.out _ _ (by (repeat (first | exact HV3.out | apply RV.drew | apply RV.alloc | (refine RV.go ?_ (by assumption))))) (fun hHeld => ?_)
    clear hK K
    try simp only [Act.put, List.setIfInBounds_toArray, List.set_cons_zero, List.set_cons_succ]
    refine take_to (i := 5) (d := some 35) (v := ?_) (l' := #[true, true, true, true, true, true, false, false, false, false, false, false, false, false, false, false, false, false, false, false, false, false, false, false, false, false, false, false, false, false, false]) rfl rfl (by kernel_rfl) (by kernel_rfl) (by kernel_rfl) (by kernel_rfl) (fun _ _ _ h => h) (Or.inl ⟨by rfl, ?_⟩) (by assumption) ?_; rotate_left; · (intro w' hSw; (try dsimp only at hSw); go_simp; (try with_reducible rfl))
    try simp only [Act.put, List.setIfInBounds_toArray, List.set_cons_zero, List.set_cons_succ]
    refine take_to (i := 6) (d := some 36) (v := ?_) (l' := #[true, true, true, true, true, true, true, false, false, false, false, false, false, false, false, false, false, false, false, false, false, false, false, false, false, false, false, false, false, false, false]) rfl rfl (by kernel_rfl) (by kernel_rfl) (by kernel_rfl) (by kernel_rfl) (fun _ _ _ h => h) (Or.inl ⟨by rfl, ?_⟩) (by assumption) ?_; rotate_left; · (intro w' hSw; (try dsimp only at hSw); go_simp; (try with_reducible rfl))
    try simp only [Act.put, List.setIfInBounds_toArray, List.set_cons_zero, List.set_cons_succ]
    refine take_to (i := 7) (d := some 37) (v := ?_) (l' := #[true, true, true, true, true, true, true, true, false, false, false, false, false, false, false, false, false, false, false, false, false, false, false, false, false, false, false, false, false, false, false]) rfl rfl (by kernel_rfl) (by kernel_rfl) (by kernel_rfl) (by kernel_rfl) (fun _ _ _ h => h) (Or.inl ⟨by rfl, ?_⟩) (by assumption) ?_; rotate_left; · (intro w' hSw; (try dsimp only at hSw); go_simp; (try with_reducible rfl))
    try simp only [Act.put, List.setIfInBounds_toArray, List.set_cons_zero, List.set_cons_succ]
    refine take_to (i := 8) (d := some 38) (v := ?_) (l' := #[true, true, true, true, true, true, true, true, true, false, false, false, false, false, false, false, false, false, false, false, false, false, false, false, false, false, false, false, false, false, false]) rfl rfl (by kernel_rfl) (by kernel_rfl) (by kernel_rfl) (by kernel_rfl) (fun _ _ _ h => h) (Or.inl ⟨by rfl, ?_⟩) (by assumption) ?_; rotate_left; · (intro w' hSw; (try dsimp only at hSw); go_simp; (try with_reducible rfl))
    try simp only [Act.put, List.setIfInBounds_toArray, List.set_cons_zero, List.set_cons_succ]
    refine take_to (i := 9) (d := some 39) (v := ?_) (l' := #[true, true, true, true, true, true, true, true, true, true, false, false, false, false, false, false, false, false, false, false, false, false, false, false, false, false, false, false, false, false, false]) rfl rfl (by kernel_rfl) (by kernel_rfl) (by kernel_rfl) (by kernel_rfl) (fun _ _ _ h => h) (Or.inl ⟨by rfl, ?_⟩) (by assumption) ?_; rotate_left; · (intro w' hSw; (try dsimp only at hSw); go_simp; (try with_reducible rfl))
    try simp only [Act.put, List.setIfInBounds_toArray, List.set_cons_zero, List.set_cons_succ]
    refine two_to (i := 10) (j := 11) (l1 := #[true, true, true, true, true, true, true, true, true, true, true, false, false, false, false, false, false, false, false, false, false, false, false, false, false, false, false, false, false, false, false]) (l2 := #[true, true, true, true, true, true, true, true, true, true, false, true, false, false, false, false, false, false, false, false, false, false, false, false, false, false, false, false, false, false, false]) rfl rfl (by kernel_rfl) (by kernel_rfl) (by kernel_rfl) (fun K hK => ?_) (fun K hK => ?_)
    · skip
      go_simp
      refine hK.out _ _ (by (repeat (first | exact HV3.out | apply RV.drew | apply RV.alloc | (refine RV.go ?_ (by assumption))))) (fun hHeld => ?_)
      clear hK K
      try simp only [Act.put, List.setIfInBounds_toArray, List.set_cons_zero, List.set_cons_succ]
      refine one_to (i := 11) (l' := #[true, true, true, true, true, true, true, true, true, true, true, true, false, false, false, false, false, false, false, false, false, false, false, false, false, false, false, false, false, false, false]) rfl (by kernel_rfl) (by kernel_rfl) (fun K hK => ?_)
      go_simp
      refine hK.out _ _ (by (repeat (first | exact HV3.out | apply RV.drew | apply RV.alloc | (refine RV.go ?_ (by assumption))))) (fun hHeld => ?_)
      clear hK K
      try simp only [Act.put, List.setIfInBounds_toArray, List.set_cons_zero, List.set_cons_succ]
      refine one_to (i := 12) (l' := #[true, true, true, true, true, true, true, true, true, true, true, true, true, false, false, false, false, false, false, false, false, false, false, false, false, false, false, false, false, false, false]) rfl (by kernel_rfl) (by kernel_rfl) (fun K hK => ?_)
      go_simp
      refine hK.out _ _ (by (repeat (first | exact HV3.out | apply RV.drew | apply RV.alloc | (refine RV.go ?_ (by assumption))))) (fun hHeld => ?_)
      clear hK K
      try simp only [Act.put, List.setIfInBounds_toArray, List.set_cons_zero, List.set_cons_succ]
      refine one_to (i := 13) (l' := #[true, true, true, true, true, true, true, true, true, true, true, true, true, true, false, false, false, false, false, false, false, false, false, false, false, false, false, false, false, false, false]) rfl (by kernel_rfl) (by kernel_rfl) (fun K hK => ?_)
      go_simp
      refine (HW2.out _ _ _ (by (try simp only [heap_drew]); repeat (first | (apply laid_at; simp; done) | apply laid_old)) (by (try simp only [heap_drew]); repeat (first | (apply laid_at; simp; done) | apply laid_old)) (by (try simp only [heap_drew]); repeat (first | (apply laid_at; simp; done) | apply laid_old)) (by omega) (by omega) (by repeat (first | exact HV3.out | apply RV.drew | apply RV.alloc | (refine RV.go ?_ (by assumption))))).mono ?_
      rintro e w' ⟨rfl, rfl⟩
      dsimp only
      refine hK.out _ _ (by (repeat (first | exact HV3.out | apply RV.drew | apply RV.alloc | (refine RV.go ?_ (by assumption))))) (fun hHeld => ?_)
      clear hK K
      try simp only [Act.put, List.setIfInBounds_toArray, List.set_cons_zero, List.set_cons_succ]
      refine take_to (i := 14) (d := some 44) (v := ?_) (l' := #[true, true, true, true, true, true, true, true, true, true, true, true, true, true, true, false, false, false, false, false, false, false, false, false, false, false, false, false, false, false, false]) rfl rfl (by kernel_rfl) (by kernel_rfl) (by kernel_rfl) (by kernel_rfl) (fun _ _ _ h => h) (Or.inl ⟨by rfl, ?_⟩) (by assumption) ?_; rotate_left; · (intro w' hSw; (try dsimp only at hSw); go_simp; (try with_reducible rfl))
      try simp only [Act.put, List.setIfInBounds_toArray, List.set_cons_zero, List.set_cons_succ]
      refine take_to (i := 15) (d := some 45) (v := ?_) (l' := #[true, true, true, true, true, true, true, true, true, true, true, true, true, true, true, true, false, false, false, false, false, false, false, false, false, false, false, false, false, false, false]) rfl rfl (by kernel_rfl) (by kernel_rfl) (by kernel_rfl) (by kernel_rfl) (fun _ _ _ h => h) (Or.inl ⟨by rfl, ?_⟩) (by assumption) ?_; rotate_left; · (intro w' hSw; (try dsimp only at hSw); go_simp; (try with_reducible rfl))
      try simp only [Act.put, List.setIfInBounds_toArray, List.set_cons_zero, List.set_cons_succ]
      refine take_to (i := 16) (d := some 46) (v := ?_) (l' := #[true, true, true, true, true, true, true, true, true, true, true, true, true, true, true, true, true, false, false, false, false, false, false, false, false, false, false, false, false, false, false]) rfl rfl (by kernel_rfl) (by kernel_rfl) (by kernel_rfl) (by kernel_rfl) (fun _ _ _ h => h) (Or.inl ⟨by rfl, ?_⟩) (by assumption) ?_; rotate_left; · (intro w' hSw; (try dsimp only at hSw); go_simp; (try with_reducible rfl))
      try simp only [Act.put, List.setIfInBounds_toArray, List.set_cons_zero, List.set_cons_succ]
      refine take_to (i := 17) (d := some 47) (v := ?_) (l' := #[true, true, true, true, true, true, true, true, true, true, true, true, true, true, true, true, true, true, false, false, false, false, false, false, false, false, false, false, false, false, false]) rfl rfl (by kernel_rfl) (by kernel_rfl) (by kernel_rfl) (by kernel_rfl) (fun _ _ _ h => h) (Or.inl ⟨by rfl, ?_⟩) (by assumption) ?_; rotate_left; · (intro w' hSw; (try dsimp only at hSw); go_simp; (try with_reducible rfl))
      try simp only [Act.put, List.setIfInBounds_toArray, List.set_cons_zero, List.set_cons_succ]
      refine take_to (i := 19) (d := some 49) (v := ?_) (l' := #[true, true, true, true, true, true, true, true, true, true, true, true, true, true, true, true, true, true, false, true, false, false, false, false, false, false, false, false, false, false, false]) rfl rfl (by kernel_rfl) (by kernel_rfl) (by kernel_rfl) (by kernel_rfl) (fun _ _ _ h => h) (Or.inl ⟨by rfl, ?_⟩) (by assumption) ?_; rotate_left; · (intro w' hSw; (try dsimp only at hSw); go_simp; (try with_reducible rfl))
      try simp only [Act.put, List.setIfInBounds_toArray, List.set_cons_zero, List.set_cons_succ]
      refine two_to (i := 18) (j := 20) (l1 := #[true, true, true, true, true, true, true, true, true, true, true, true, true, true, true, true, true, true, true, true, false, false, false, false, false, false, false, false, false, false, false]) (l2 := #[true, true, true, true, true, true, true, true, true, true, true, true, true, true, true, true, true, true, false, true, true, false, false, false, false, false, false, false, false, false, false]) rfl rfl (by kernel_rfl) (by kernel_rfl) (by kernel_rfl) (fun K hK => ?_) (fun K hK => ?_)
      · skip
        go_simp
        refine (RV.asks (B := w.heap.size) (w := w) (g := g) (n0 := n) (by repeat (first | exact HV3.out | apply RV.drew | apply RV.alloc | (refine RV.go ?_ (by assumption)))) (by omega)).mono ?_
        rintro e w5 ⟨he, hb5⟩; rw [← HT.out] at he; subst he
        dsimp only
        refine hK.out _ _ (by (repeat (first | exact HV3.out | apply RV.drew | apply RV.alloc | (refine RV.go ?_ (by assumption))))) (fun hHeld => ?_)
        clear hK K
        try simp only [Act.put, List.setIfInBounds_toArray, List.set_cons_zero, List.set_cons_succ]
        refine one_to (i := 20) (l' := #[true, true, true, true, true, true, true, true, true, true, true, true, true, true, true, true, true, true, true, true, true, false, false, false, false, false, false, false, false, false, false]) rfl (by kernel_rfl) (by kernel_rfl) (fun K hK => ?_)
        go_simp
        refine hK.out _ _ (by (repeat (first | exact HV3.out | apply RV.drew | apply RV.alloc | (refine RV.go ?_ (by assumption))))) (fun hHeld => ?_)
        clear hK K
        try simp only [Act.put, List.setIfInBounds_toArray, List.set_cons_zero, List.set_cons_succ]
        refine one_to (i := 21) (l' := #[true, true, true, true, true, true, true, true, true, true, true, true, true, true, true, true, true, true, true, true, true, true, false, false, false, false, false, false, false, false, false]) rfl (by kernel_rfl) (by kernel_rfl) (fun K hK => ?_)
        go_simp
        refine (RV.of1 (B := w.heap.size) (w := w) (hb := hb) (g := g) (n0 := n) (n := n) (c := c) (p := p) (by repeat (first | exact HV3.out | apply RV.drew | apply RV.alloc | (refine RV.go ?_ (by assumption)))) (by (try simp only [heap_drew]); repeat (first | (apply laid_at; simp; done) | apply laid_old | (refine laid_go ?_ (by assumption); try simp only [heap_drew]))) hc (by have h2 := M48.out; omega) HR.out (by omega)).mono ?_
        rintro e w6 ⟨he, hb6⟩; rw [← HT.out] at he; subst he
        dsimp only
        refine hK.out _ _ (by (repeat (first | exact HV3.out | apply RV.drew | apply RV.alloc | (refine RV.go ?_ (by assumption))))) (fun hHeld => ?_)
        clear hK K
        try simp only [Act.put, List.setIfInBounds_toArray, List.set_cons_zero, List.set_cons_succ]
        refine take_to (i := 22) (d := some 52) (v := ?_) (l' := #[true, true, true, true, true, true, true, true, true, true, true, true, true, true, true, true, true, true, true, true, true, true, true, false, false, false, false, false, false, false, false]) rfl rfl (by kernel_rfl) (by kernel_rfl) (by kernel_rfl) (by kernel_rfl) (fun _ _ _ h => h) (Or.inl ⟨by rfl, ?_⟩) (by assumption) ?_; rotate_left; · (intro w' hSw; (try dsimp only at hSw); go_simp; (try with_reducible rfl))
        try simp only [Act.put, List.setIfInBounds_toArray, List.set_cons_zero, List.set_cons_succ]
        refine take_to (i := 23) (d := some 53) (v := ?_) (l' := #[true, true, true, true, true, true, true, true, true, true, true, true, true, true, true, true, true, true, true, true, true, true, true, true, false, false, false, false, false, false, false]) rfl rfl (by kernel_rfl) (by kernel_rfl) (by kernel_rfl) (by kernel_rfl) (fun _ _ _ h => h) (Or.inl ⟨by rfl, ?_⟩) (by assumption) ?_; rotate_left; · (intro w' hSw; (try dsimp only at hSw); go_simp; (try with_reducible rfl))
        try simp only [Act.put, List.setIfInBounds_toArray, List.set_cons_zero, List.set_cons_succ]
        refine take_to (i := 24) (d := some 54) (v := ?_) (l' := #[true, true, true, true, true, true, true, true, true, true, true, true, true, true, true, true, true, true, true, true, true, true, true, true, true, false, false, false, false, false, false]) rfl rfl (by kernel_rfl) (by kernel_rfl) (by kernel_rfl) (by kernel_rfl) (fun _ _ _ h => h) (Or.inl ⟨by rfl, ?_⟩) (by assumption) ?_; rotate_left; · (intro w' hSw; (try dsimp only at hSw); go_simp; (try with_reducible rfl))
        try simp only [Act.put, List.setIfInBounds_toArray, List.set_cons_zero, List.set_cons_succ]
        refine take_to (i := 25) (d := some 55) (v := ?_) (l' := #[true, true, true, true, true, true, true, true, true, true, true, true, true, true, true, true, true, true, true, true, true, true, true, true, true, true, false, false, false, false, false]) rfl rfl (by kernel_rfl) (by kernel_rfl) (by kernel_rfl) (by kernel_rfl) (fun _ _ _ h => h) (Or.inl ⟨by rfl, ?_⟩) (by assumption) ?_; rotate_left; · (intro w' hSw; (try dsimp only at hSw); go_simp; (try with_reducible rfl))
        try simp only [Act.put, List.setIfInBounds_toArray, List.set_cons_zero, List.set_cons_succ]
        refine take_to (i := 27) (d := some 57) (v := ?_) (l' := #[true, true, true, true, true, true, true, true, true, true, true, true, true, true, true, true, true, true, true, true, true, true, true, true, true, true, false, true, false, false, false]) rfl rfl (by kernel_rfl) (by kernel_rfl) (by kernel_rfl) (by kernel_rfl) (fun _ _ _ h => h) (Or.inl ⟨by rfl, ?_⟩) (by assumption) ?_; rotate_left; · (intro w' hSw; (try dsimp only at hSw); go_simp; (try with_reducible rfl))
        try simp only [Act.put, List.setIfInBounds_toArray, List.set_cons_zero, List.set_cons_succ]
        refine take_to (i := 28) (d := some 58) (v := ?_) (l' := #[true, true, true, true, true, true, true, true, true, true, true, true, true, true, true, true, true, true, true, true, true, true, true, true, true, true, false, true, true, false, false]) rfl rfl (by kernel_rfl) (by kernel_rfl) (by kernel_rfl) (by kernel_rfl) (fun _ _ _ h => h) (Or.inl ⟨by rfl, ?_⟩) (by assumption) ?_; rotate_left; · (intro w' hSw; (try dsimp only at hSw); go_simp; (try with_reducible rfl))
        try simp only [Act.put, List.setIfInBounds_toArray, List.set_cons_zero, List.set_cons_succ]
        refine one_to (i := 26) (l' := #[true, true, true, true, true, true, true, true, true, true, true, true, true, true, true, true, true, true, true, true, true, true, true, true, true, true, true, true, true, false, false]) rfl (by kernel_rfl) (by kernel_rfl) (fun K hK => ?_)
        go_simp
        refine (RV.len (B := w.heap.size) (w := w) (g := g) (n0 := n) (by repeat (first | exact HV3.out | apply RV.drew | apply RV.alloc | (refine RV.go ?_ (by assumption))))).mono ?_
        rintro e w' ⟨rfl, rfl⟩
        dsimp only
        refine hK.out _ _ (by (repeat (first | exact HV3.out | apply RV.drew | apply RV.alloc | (refine RV.go ?_ (by assumption))))) (fun hHeld => ?_)
        clear hK K
        try simp only [Act.put, List.setIfInBounds_toArray, List.set_cons_zero, List.set_cons_succ]
        refine take_to (i := 29) (d := some 59) (v := ?_) (l' := #[true, true, true, true, true, true, true, true, true, true, true, true, true, true, true, true, true, true, true, true, true, true, true, true, true, true, true, true, true, true, false]) rfl rfl (by kernel_rfl) (by kernel_rfl) (by kernel_rfl) (by kernel_rfl) (fun _ _ _ h => h) (Or.inl ⟨by rfl, ?_⟩) (by assumption) ?_; rotate_left; · (intro w' hSw; (try dsimp only at hSw); go_simp; (try with_reducible rfl))
        try simp only [Act.put, List.setIfInBounds_toArray, List.set_cons_zero, List.set_cons_succ]
        refine take_to (i := 30) (d := some 60) (v := ?_) (l' := #[true, true, true, true, true, true, true, true, true, true, true, true, true, true, true, true, true, true, true, true, true, true, true, true, true, true, true, true, true, true, true]) rfl rfl (by kernel_rfl) (by kernel_rfl) (by kernel_rfl) (by kernel_rfl) (fun _ _ _ h => h) (Or.inl ⟨by rfl, ?_⟩) (by assumption) ?_; rotate_left; · (intro w' hSw; (try dsimp only at hSw); go_simp; (try with_reducible rfl))
        try simp only [Act.put, List.setIfInBounds_toArray, List.set_cons_zero, List.set_cons_succ]
        refine wpAnyH_done (by kernel_rfl) ?_ _
        refine NoPanic.normal ?_
        have HV6 := Lib.hid hHeld
        have hlt6 := hHeld.hh.lt
        have hhi6 := hHeld.hi
        clear hHeld hneq hgd HW1 HW2
        go_wp2_with fail
        refine (write1 w.heap.size _ hb w6.heap.size n n2 c2 p2 27 g (HV6.out.alloc _).kc hhi6 (HV6.out.alloc _).hh (laid_at rfl) (by omega) hc2 (Nat.le_trans hm2 M48.out) ((HV6.out.alloc _).rx HR2.out) (by omega)).mono ?_
        rintro e W7 ⟨rfl, hg7, hh7⟩
        have HV7 := Lib.hid ((HV6.out.alloc _).wrote hg7 hh7)
        clear hg7 hh7
        go_wp2_with fail
        refine (HV7.out.asks (by omega)).mono ?_
        rintro e W8 ⟨he, hb8⟩
        rw [← HT2.out] at he
        subst he
        have HV8 := Lib.hid (HV7.out.go hb8)
        have heq : ∀ w, (binOp .eql 32 T2 T2).run Tryd.prog w = .ok (.bool true) w := by rw [HT2.out]; exact eql_tag _
        have hgd : ∀ op x y w, (eqGuard op 32 x y T2 T2).run Tryd.prog w = .ok () w := by rw [HT2.out]; exact guard_tag _ _
        clear hb8
        go_wp2_with fail
        refine (RV.of2 (HV8.out.alloc _) (laid_at rfl) hc (Nat.le_trans hm M48.out) hc2 (Nat.le_trans hm2 M48.out) HR.out HR2.out (by omega)).mono ?_
        rintro e W9 ⟨he, hb9⟩
        rw [← HT2.out] at he
        subst he
        have HV9 := Lib.hid ((HV8.out.alloc _).go hb9)
        clear hb9
        go_wp2_with fail
        refine (HV9.out.len).mono ?_
        rintro e w' ⟨rfl, rfl⟩
        go_wp2
        go_ret
        exact ⟨rfl, HV9.out.bel⟩
      · skip
        go_simp
        refine hK.out _ _ (by (repeat (first | exact HV3.out | apply RV.drew | apply RV.alloc | (refine RV.go ?_ (by assumption))))) (fun hHeld => ?_)
        clear hK K
        try simp only [Act.put, List.setIfInBounds_toArray, List.set_cons_zero, List.set_cons_succ]
        refine one_to (i := 18) (l' := #[true, true, true, true, true, true, true, true, true, true, true, true, true, true, true, true, true, true, true, true, true, false, false, false, false, false, false, false, false, false, false]) rfl (by kernel_rfl) (by kernel_rfl) (fun K hK => ?_)
        go_simp
        refine (RV.asks (B := w.heap.size) (w := w) (g := g) (n0 := n) (by repeat (first | exact HV3.out | apply RV.drew | apply RV.alloc | (refine RV.go ?_ (by assumption)))) (by omega)).mono ?_
        rintro e w5 ⟨he, hb5⟩; rw [← HT.out] at he; subst he
        dsimp only
        refine hK.out _ _ (by (repeat (first | exact HV3.out | apply RV.drew | apply RV.alloc | (refine RV.go ?_ (by assumption))))) (fun hHeld => ?_)
        clear hK K
        try simp only [Act.put, List.setIfInBounds_toArray, List.set_cons_zero, List.set_cons_succ]
        refine one_to (i := 21) (l' := #[true, true, true, true, true, true, true, true, true, true, true, true, true, true, true, true, true, true, true, true, true, true, false, false, false, false, false, false, false, false, false]) rfl (by kernel_rfl) (by kernel_rfl) (fun K hK => ?_)
        go_simp
        refine (RV.of1 (B := w.heap.size) (w := w) (hb := hb) (g := g) (n0 := n) (n := n) (c := c) (p := p) (by repeat (first | exact HV3.out | apply RV.drew | apply RV.alloc | (refine RV.go ?_ (by assumption)))) (by (try simp only [heap_drew]); repeat (first | (apply laid_at; simp; done) | apply laid_old | (refine laid_go ?_ (by assumption); try simp only [heap_drew]))) hc (by have h2 := M48.out; omega) HR.out (by omega)).mono ?_
        rintro e w6 ⟨he, hb6⟩; rw [← HT.out] at he; subst he
        dsimp only
        refine hK.out _ _ (by (repeat (first | exact HV3.out | apply RV.drew | apply RV.alloc | (refine RV.go ?_ (by assumption))))) (fun hHeld => ?_)
        clear hK K
        try simp only [Act.put, List.setIfInBounds_toArray, List.set_cons_zero, List.set_cons_succ]
        refine take_to (i := 22) (d := some 52) (v := ?_) (l' := #[true, true, true, true, true, true, true, true, true, true, true, true, true, true, true, true, true, true, true, true, true, true, true, false, false, false, false, false, false, false, false]) rfl rfl (by kernel_rfl) (by kernel_rfl) (by kernel_rfl) (by kernel_rfl) (fun _ _ _ h => h) (Or.inl ⟨by rfl, ?_⟩) (by assumption) ?_; rotate_left; · (intro w' hSw; (try dsimp only at hSw); go_simp; (try with_reducible rfl))
        try simp only [Act.put, List.setIfInBounds_toArray, List.set_cons_zero, List.set_cons_succ]
        refine take_to (i := 23) (d := some 53) (v := ?_) (l' := #[true, true, true, true, true, true, true, true, true, true, true, true, true, true, true, true, true, true, true, true, true, true, true, true, false, false, false, false, false, false, false]) rfl rfl (by kernel_rfl) (by kernel_rfl) (by kernel_rfl) (by kernel_rfl) (fun _ _ _ h => h) (Or.inl ⟨by rfl, ?_⟩) (by assumption) ?_; rotate_left; · (intro w' hSw; (try dsimp only at hSw); go_simp; (try with_reducible rfl))
        try simp only [Act.put, List.setIfInBounds_toArray, List.set_cons_zero, List.set_cons_succ]
        refine take_to (i := 24) (d := some 54) (v := ?_) (l' := #[true, true, true, true, true, true, true, true, true, true, true, true, true, true, true, true, true, true, true, true, true, true, true, true, true, false, false, false, false, false, false]) rfl rfl (by kernel_rfl) (by kernel_rfl) (by kernel_rfl) (by kernel_rfl) (fun _ _ _ h => h) (Or.inl ⟨by rfl, ?_⟩) (by assumption) ?_; rotate_left; · (intro w' hSw; (try dsimp only at hSw); go_simp; (try with_reducible rfl))
        try simp only [Act.put, List.setIfInBounds_toArray, List.set_cons_zero, List.set_cons_succ]
        refine take_to (i := 25) (d := some 55) (v := ?_) (l' := #[true, true, true, true, true, true, true, true, true, true, true, true, true, true, true, true, true, true, true, true, true, true, true, true, true, true, false, false, false, false, false]) rfl rfl (by kernel_rfl) (by kernel_rfl) (by kernel_rfl) (by kernel_rfl) (fun _ _ _ h => h) (Or.inl ⟨by rfl, ?_⟩) (by assumption) ?_; rotate_left; · (intro w' hSw; (try dsimp only at hSw); go_simp; (try with_reducible rfl))
        try simp only [Act.put, List.setIfInBounds_toArray, List.set_cons_zero, List.set_cons_succ]
        refine take_to (i := 27) (d := some 57) (v := ?_) (l' := #[true, true, true, true, true, true, true, true, true, true, true, true, true, true, true, true, true, true, true, true, true, true, true, true, true, true, false, true, false, false, false]) rfl rfl (by kernel_rfl) (by kernel_rfl) (by kernel_rfl) (by kernel_rfl) (fun _ _ _ h => h) (Or.inl ⟨by rfl, ?_⟩) (by assumption) ?_; rotate_left; · (intro w' hSw; (try dsimp only at hSw); go_simp; (try with_reducible rfl))
        try simp only [Act.put, List.setIfInBounds_toArray, List.set_cons_zero, List.set_cons_succ]
        refine take_to (i := 28) (d := some 58) (v := ?_) (l' := #[true, true, true, true, true, true, true, true, true, true, true, true, true, true, true, true, true, true, true, true, true, true, true, true, true, true, false, true, true, false, false]) rfl rfl (by kernel_rfl) (by kernel_rfl) (by kernel_rfl) (by kernel_rfl) (fun _ _ _ h => h) (Or.inl ⟨by rfl, ?_⟩) (by assumption) ?_; rotate_left; · (intro w' hSw; (try dsimp only at hSw); go_simp; (try with_reducible rfl))
        try simp only [Act.put, List.setIfInBounds_toArray, List.set_cons_zero, List.set_cons_succ]
        refine one_to (i := 26) (l' := #[true, true, true, true, true, true, true, true, true, true, true, true, true, true, true, true, true, true, true, true, true, true, true, true, true, true, true, true, true, false, false]) rfl (by kernel_rfl) (by kernel_rfl) (fun K hK => ?_)
        go_simp
        refine (RV.len (B := w.heap.size) (w := w) (g := g) (n0 := n) (by repeat (first | exact HV3.out | apply RV.drew | apply RV.alloc | (refine RV.go ?_ (by assumption))))).mono ?_
        rintro e w' ⟨rfl, rfl⟩
        dsimp only
        refine hK.out _ _ (by (repeat (first | exact HV3.out | apply RV.drew | apply RV.alloc | (refine RV.go ?_ (by assumption))))) (fun hHeld => ?_)
        clear hK K
        try simp only [Act.put, List.setIfInBounds_toArray, List.set_cons_zero, List.set_cons_succ]
        refine take_to (i := 29) (d := some 59) (v := ?_) (l' := #[true, true, true, true, true, true, true, true, true, true, true, true, true, true, true, true, true, true, true, true, true, true, true, true, true, true, true, true, true, true, false]) rfl rfl (by kernel_rfl) (by kernel_rfl) (by kernel_rfl) (by kernel_rfl) (fun _ _ _ h => h) (Or.inl ⟨by rfl, ?_⟩) (by assumption) ?_; rotate_left; · (intro w' hSw; (try dsimp only at hSw); go_simp; (try with_reducible rfl))
        try simp only [Act.put, List.setIfInBounds_toArray, List.set_cons_zero, List.set_cons_succ]
        refine take_to (i := 30) (d := some 60) (v := ?_) (l' := #[true, true, true, true, true, true, true, true, true, true, true, true, true, true, true, true, true, true, true, true, true, true, true, true, true, true, true, true, true, true, true]) rfl rfl (by kernel_rfl) (by kernel_rfl) (by kernel_rfl) (by kernel_rfl) (fun _ _ _ h => h) (Or.inl ⟨by rfl, ?_⟩) (by assumption) ?_; rotate_left; · (intro w' hSw; (try dsimp only at hSw); go_simp; (try with_reducible rfl))
        try simp only [Act.put, List.setIfInBounds_toArray, List.set_cons_zero, List.set_cons_succ]
        refine wpAnyH_done (by kernel_rfl) ?_ _
        refine NoPanic.normal ?_
        have HV6 := Lib.hid hHeld
        have hlt6 := hHeld.hh.lt
        have hhi6 := hHeld.hi
        clear hHeld hneq hgd HW1 HW2
        go_wp2_with fail
        refine (write1 w.heap.size _ hb w6.heap.size n n2 c2 p2 27 g (HV6.out.alloc _).kc hhi6 (HV6.out.alloc _).hh (laid_at rfl) (by omega) hc2 (Nat.le_trans hm2 M48.out) ((HV6.out.alloc _).rx HR2.out) (by omega)).mono ?_
        rintro e W7 ⟨rfl, hg7, hh7⟩
        have HV7 := Lib.hid ((HV6.out.alloc _).wrote hg7 hh7)
        clear hg7 hh7
        go_wp2_with fail
        refine (HV7.out.asks (by omega)).mono ?_
        rintro e W8 ⟨he, hb8⟩
        rw [← HT2.out] at he
        subst he
        have HV8 := Lib.hid (HV7.out.go hb8)
        have heq : ∀ w, (binOp .eql 32 T2 T2).run Tryd.prog w = .ok (.bool true) w := by rw [HT2.out]; exact eql_tag _
        have hgd : ∀ op x y w, (eqGuard op 32 x y T2 T2).run Tryd.prog w = .ok () w := by rw [HT2.out]; exact guard_tag _ _
        clear hb8
        go_wp2_with fail
        refine (RV.of2 (HV8.out.alloc _) (laid_at rfl) hc (Nat.le_trans hm M48.out) hc2 (Nat.le_trans hm2 M48.out) HR.out HR2.out (by omega)).mono ?_
        rintro e W9 ⟨he, hb9⟩
        rw [← HT2.out] at he
        subst he
        have HV9 := Lib.hid ((HV8.out.alloc _).go hb9)
        clear hb9
        go_wp2_with fail
        refine (HV9.out.len).mono ?_
        rintro e w' ⟨rfl, rfl⟩
        go_wp2
        go_ret
        exact ⟨rfl, HV9.out.bel⟩
    · skip
      go_simp
      refine hK.out _ _ (by (repeat (first | exact HV3.out | apply RV.drew | apply RV.alloc | (refine RV.go ?_ (by assumption))))) (fun hHeld => ?_)
      clear hK K
      try simp only [Act.put, List.setIfInBounds_toArray, List.set_cons_zero, List.set_cons_succ]
      refine one_to (i := 10) (l' := #[true, true, true, true, true, true, true, true, true, true, true, true, false, false, false, false, false, false, false, false, false, false, false, false, false, false, false, false, false, false, false]) rfl (by kernel_rfl) (by kernel_rfl) (fun K hK => ?_)
      go_simp
      refine hK.out _ _ (by (repeat (first | exact HV3.out | apply RV.drew | apply RV.alloc | (refine RV.go ?_ (by assumption))))) (fun hHeld => ?_)
      clear hK K
      try simp only [Act.put, List.setIfInBounds_toArray, List.set_cons_zero, List.set_cons_succ]
      refine one_to (i := 12) (l' := #[true, true, true, true, true, true, true, true, true, true, true, true, true, false, false, false, false, false, false, false, false, false, false, false, false, false, false, false, false, false, false]) rfl (by kernel_rfl) (by kernel_rfl) (fun K hK => ?_)
      go_simp
      refine hK.out _ _ (by (repeat (first | exact HV3.out | apply RV.drew | apply RV.alloc | (refine RV.go ?_ (by assumption))))) (fun hHeld => ?_)
      clear hK K
      try simp only [Act.put, List.setIfInBounds_toArray, List.set_cons_zero, List.set_cons_succ]
      refine one_to (i := 13) (l' := #[true, true, true, true, true, true, true, true, true, true, true, true, true, true, false, false, false, false, false, false, false, false, false, false, false, false, false, false, false, false, false]) rfl (by kernel_rfl) (by kernel_rfl) (fun K hK => ?_)
      go_simp
      refine (HW2.out _ _ _ (by (try simp only [heap_drew]); repeat (first | (apply laid_at; simp; done) | apply laid_old)) (by (try simp only [heap_drew]); repeat (first | (apply laid_at; simp; done) | apply laid_old)) (by (try simp only [heap_drew]); repeat (first | (apply laid_at; simp; done) | apply laid_old)) (by omega) (by omega) (by repeat (first | exact HV3.out | apply RV.drew | apply RV.alloc | (refine RV.go ?_ (by assumption))))).mono ?_
      rintro e w' ⟨rfl, rfl⟩
      dsimp only
      refine hK.out _ _ (by (repeat (first | exact HV3.out | apply RV.drew | apply RV.alloc | (refine RV.go ?_ (by assumption))))) (fun hHeld => ?_)
      clear hK K
      try simp only [Act.put, List.setIfInBounds_toArray, List.set_cons_zero, List.set_cons_succ]
      refine take_to (i := 14) (d := some 44) (v := ?_) (l' := #[true, true, true, true, true, true, true, true, true, true, true, true, true, true, true, false, false, false, false, false, false, false, false, false, false, false, false, false, false, false, false]) rfl rfl (by kernel_rfl) (by kernel_rfl) (by kernel_rfl) (by kernel_rfl) (fun _ _ _ h => h) (Or.inl ⟨by rfl, ?_⟩) (by assumption) ?_; rotate_left; · (intro w' hSw; (try dsimp only at hSw); go_simp; (try with_reducible rfl))
      try simp only [Act.put, List.setIfInBounds_toArray, List.set_cons_zero, List.set_cons_succ]
      refine take_to (i := 15) (d := some 45) (v := ?_) (l' := #[true, true, true, true, true, true, true, true, true, true, true, true, true, true, true, true, false, false, false, false, false, false, false, false, false, false, false, false, false, false, false]) rfl rfl (by kernel_rfl) (by kernel_rfl) (by kernel_rfl) (by kernel_rfl) (fun _ _ _ h => h) (Or.inl ⟨by rfl, ?_⟩) (by assumption) ?_; rotate_left; · (intro w' hSw; (try dsimp only at hSw); go_simp; (try with_reducible rfl))
      try simp only [Act.put, List.setIfInBounds_toArray, List.set_cons_zero, List.set_cons_succ]
      refine take_to (i := 16) (d := some 46) (v := ?_) (l' := #[true, true, true, true, true, true, true, true, true, true, true, true, true, true, true, true, true, false, false, false, false, false, false, false, false, false, false, false, false, false, false]) rfl rfl (by kernel_rfl) (by kernel_rfl) (by kernel_rfl) (by kernel_rfl) (fun _ _ _ h => h) (Or.inl ⟨by rfl, ?_⟩) (by assumption) ?_; rotate_left; · (intro w' hSw; (try dsimp only at hSw); go_simp; (try with_reducible rfl))
      try simp only [Act.put, List.setIfInBounds_toArray, List.set_cons_zero, List.set_cons_succ]
      refine take_to (i := 17) (d := some 47) (v := ?_) (l' := #[true, true, true, true, true, true, true, true, true, true, true, true, true, true, true, true, true, true, false, false, false, false, false, false, false, false, false, false, false, false, false]) rfl rfl (by kernel_rfl) (by kernel_rfl) (by kernel_rfl) (by kernel_rfl) (fun _ _ _ h => h) (Or.inl ⟨by rfl, ?_⟩) (by assumption) ?_; rotate_left; · (intro w' hSw; (try dsimp only at hSw); go_simp; (try with_reducible rfl))
      try simp only [Act.put, List.setIfInBounds_toArray, List.set_cons_zero, List.set_cons_succ]
      refine take_to (i := 19) (d := some 49) (v := ?_) (l' := #[true, true, true, true, true, true, true, true, true, true, true, true, true, true, true, true, true, true, false, true, false, false, false, false, false, false, false, false, false, false, false]) rfl rfl (by kernel_rfl) (by kernel_rfl) (by kernel_rfl) (by kernel_rfl) (fun _ _ _ h => h) (Or.inl ⟨by rfl, ?_⟩) (by assumption) ?_; rotate_left; · (intro w' hSw; (try dsimp only at hSw); go_simp; (try with_reducible rfl))
      try simp only [Act.put, List.setIfInBounds_toArray, List.set_cons_zero, List.set_cons_succ]
      refine two_to (i := 18) (j := 20) (l1 := #[true, true, true, true, true, true, true, true, true, true, true, true, true, true, true, true, true, true, true, true, false, false, false, false, false, false, false, false, false, false, false]) (l2 := #[true, true, true, true, true, true, true, true, true, true, true, true, true, true, true, true, true, true, false, true, true, false, false, false, false, false, false, false, false, false, false]) rfl rfl (by kernel_rfl) (by kernel_rfl) (by kernel_rfl) (fun K hK => ?_) (fun K hK => ?_)
      · skip
        go_simp
        refine (RV.asks (B := w.heap.size) (w := w) (g := g) (n0 := n) (by repeat (first | exact HV3.out | apply RV.drew | apply RV.alloc | (refine RV.go ?_ (by assumption)))) (by omega)).mono ?_
        rintro e w5 ⟨he, hb5⟩; rw [← HT.out] at he; subst he
        dsimp only
        refine hK.out _ _ (by (repeat (first | exact HV3.out | apply RV.drew | apply RV.alloc | (refine RV.go ?_ (by assumption))))) (fun hHeld => ?_)
        clear hK K
        try simp only [Act.put, List.setIfInBounds_toArray, List.set_cons_zero, List.set_cons_succ]
        refine one_to (i := 20) (l' := #[true, true, true, true, true, true, true, true, true, true, true, true, true, true, true, true, true, true, true, true, true, false, false, false, false, false, false, false, false, false, false]) rfl (by kernel_rfl) (by kernel_rfl) (fun K hK => ?_)
        go_simp
        refine hK.out _ _ (by (repeat (first | exact HV3.out | apply RV.drew | apply RV.alloc | (refine RV.go ?_ (by assumption))))) (fun hHeld => ?_)
        clear hK K
        try simp only [Act.put, List.setIfInBounds_toArray, List.set_cons_zero, List.set_cons_succ]
        refine one_to (i := 21) (l' := #[true, true, true, true, true, true, true, true, true, true, true, true, true, true, true, true, true, true, true, true, true, true, false, false, false, false, false, false, false, false, false]) rfl (by kernel_rfl) (by kernel_rfl) (fun K hK => ?_)
        go_simp
        refine (RV.of1 (B := w.heap.size) (w := w) (hb := hb) (g := g) (n0 := n) (n := n) (c := c) (p := p) (by repeat (first | exact HV3.out | apply RV.drew | apply RV.alloc | (refine RV.go ?_ (by assumption)))) (by (try simp only [heap_drew]); repeat (first | (apply laid_at; simp; done) | apply laid_old | (refine laid_go ?_ (by assumption); try simp only [heap_drew]))) hc (by have h2 := M48.out; omega) HR.out (by omega)).mono ?_
        rintro e w6 ⟨he, hb6⟩; rw [← HT.out] at he; subst he
        dsimp only
        refine hK.out _ _ (by (repeat (first | exact HV3.out | apply RV.drew | apply RV.alloc | (refine RV.go ?_ (by assumption))))) (fun hHeld => ?_)
        clear hK K
        try simp only [Act.put, List.setIfInBounds_toArray, List.set_cons_zero, List.set_cons_succ]
        refine take_to (i := 22) (d := some 52) (v := ?_) (l' := #[true, true, true, true, true, true, true, true, true, true, true, true, true, true, true, true, true, true, true, true, true, true, true, false, false, false, false, false, false, false, false]) rfl rfl (by kernel_rfl) (by kernel_rfl) (by kernel_rfl) (by kernel_rfl) (fun _ _ _ h => h) (Or.inl ⟨by rfl, ?_⟩) (by assumption) ?_; rotate_left; · (intro w' hSw; (try dsimp only at hSw); go_simp; (try with_reducible rfl))
        try simp only [Act.put, List.setIfInBounds_toArray, List.set_cons_zero, List.set_cons_succ]
        refine take_to (i := 23) (d := some 53) (v := ?_) (l' := #[true, true, true, true, true, true, true, true, true, true, true, true, true, true, true, true, true, true, true, true, true, true, true, true, false, false, false, false, false, false, false]) rfl rfl (by kernel_rfl) (by kernel_rfl) (by kernel_rfl) (by kernel_rfl) (fun _ _ _ h => h) (Or.inl ⟨by rfl, ?_⟩) (by assumption) ?_; rotate_left; · (intro w' hSw; (try dsimp only at hSw); go_simp; (try with_reducible rfl))
        try simp only [Act.put, List.setIfInBounds_toArray, List.set_cons_zero, List.set_cons_succ]
        refine take_to (i := 24) (d := some 54) (v := ?_) (l' := #[true, true, true, true, true, true, true, true, true, true, true, true, true, true, true, true, true, true, true, true, true, true, true, true, true, false, false, false, false, false, false]) rfl rfl (by kernel_rfl) (by kernel_rfl) (by kernel_rfl) (by kernel_rfl) (fun _ _ _ h => h) (Or.inl ⟨by rfl, ?_⟩) (by assumption) ?_; rotate_left; · (intro w' hSw; (try dsimp only at hSw); go_simp; (try with_reducible rfl))
        try simp only [Act.put, List.setIfInBounds_toArray, List.set_cons_zero, List.set_cons_succ]
        refine take_to (i := 25) (d := some 55) (v := ?_) (l' := #[true, true, true, true, true, true, true, true, true, true, true, true, true, true, true, true, true, true, true, true, true, true, true, true, true, true, false, false, false, false, false]) rfl rfl (by kernel_rfl) (by kernel_rfl) (by kernel_rfl) (by kernel_rfl) (fun _ _ _ h => h) (Or.inl ⟨by rfl, ?_⟩) (by assumption) ?_; rotate_left; · (intro w' hSw; (try dsimp only at hSw); go_simp; (try with_reducible rfl))
        try simp only [Act.put, List.setIfInBounds_toArray, List.set_cons_zero, List.set_cons_succ]
        refine take_to (i := 27) (d := some 57) (v := ?_) (l' := #[true, true, true, true, true, true, true, true, true, true, true, true, true, true, true, true, true, true, true, true, true, true, true, true, true, true, false, true, false, false, false]) rfl rfl (by kernel_rfl) (by kernel_rfl) (by kernel_rfl) (by kernel_rfl) (fun _ _ _ h => h) (Or.inl ⟨by rfl, ?_⟩) (by assumption) ?_; rotate_left; · (intro w' hSw; (try dsimp only at hSw); go_simp; (try with_reducible rfl))
        try simp only [Act.put, List.setIfInBounds_toArray, List.set_cons_zero, List.set_cons_succ]
        refine take_to (i := 28) (d := some 58) (v := ?_) (l' := #[true, true, true, true, true, true, true, true, true, true, true, true, true, true, true, true, true, true, true, true, true, true, true, true, true, true, false, true, true, false, false]) rfl rfl (by kernel_rfl) (by kernel_rfl) (by kernel_rfl) (by kernel_rfl) (fun _ _ _ h => h) (Or.inl ⟨by rfl, ?_⟩) (by assumption) ?_; rotate_left; · (intro w' hSw; (try dsimp only at hSw); go_simp; (try with_reducible rfl))
        try simp only [Act.put, List.setIfInBounds_toArray, List.set_cons_zero, List.set_cons_succ]
        refine one_to (i := 26) (l' := #[true, true, true, true, true, true, true, true, true, true, true, true, true, true, true, true, true, true, true, true, true, true, true, true, true, true, true, true, true, false, false]) rfl (by kernel_rfl) (by kernel_rfl) (fun K hK => ?_)
        go_simp
        refine (RV.len (B := w.heap.size) (w := w) (g := g) (n0 := n) (by repeat (first | exact HV3.out | apply RV.drew | apply RV.alloc | (refine RV.go ?_ (by assumption))))).mono ?_
        rintro e w' ⟨rfl, rfl⟩
        dsimp only
        refine hK.out _ _ (by (repeat (first | exact HV3.out | apply RV.drew | apply RV.alloc | (refine RV.go ?_ (by assumption))))) (fun hHeld => ?_)
        clear hK K
        try simp only [Act.put, List.setIfInBounds_toArray, List.set_cons_zero, List.set_cons_succ]
        refine take_to (i := 29) (d := some 59) (v := ?_) (l' := #[true, true, true, true, true, true, true, true, true, true, true, true, true, true, true, true, true, true, true, true, true, true, true, true, true, true, true, true, true, true, false]) rfl rfl (by kernel_rfl) (by kernel_rfl) (by kernel_rfl) (by kernel_rfl) (fun _ _ _ h => h) (Or.inl ⟨by rfl, ?_⟩) (by assumption) ?_; rotate_left; · (intro w' hSw; (try dsimp only at hSw); go_simp; (try with_reducible rfl))
        try simp only [Act.put, List.setIfInBounds_toArray, List.set_cons_zero, List.set_cons_succ]
        refine take_to (i := 30) (d := some 60) (v := ?_) (l' := #[true, true, true, true, true, true, true, true, true, true, true, true, true, true, true, true, true, true, true, true, true, true, true, true, true, true, true, true, true, true, true]) rfl rfl (by kernel_rfl) (by kernel_rfl) (by kernel_rfl) (by kernel_rfl) (fun _ _ _ h => h) (Or.inl ⟨by rfl, ?_⟩) (by assumption) ?_; rotate_left; · (intro w' hSw; (try dsimp only at hSw); go_simp; (try with_reducible rfl))
        try simp only [Act.put, List.setIfInBounds_toArray, List.set_cons_zero, List.set_cons_succ]
        refine wpAnyH_done (by kernel_rfl) ?_ _
        refine NoPanic.normal ?_
        have HV6 := Lib.hid hHeld
        have hlt6 := hHeld.hh.lt
        have hhi6 := hHeld.hi
        clear hHeld hneq hgd HW1 HW2
        go_wp2_with fail
        refine (write1 w.heap.size _ hb w6.heap.size n n2 c2 p2 27 g (HV6.out.alloc _).kc hhi6 (HV6.out.alloc _).hh (laid_at rfl) (by omega) hc2 (Nat.le_trans hm2 M48.out) ((HV6.out.alloc _).rx HR2.out) (by omega)).mono ?_
        rintro e W7 ⟨rfl, hg7, hh7⟩
        have HV7 := Lib.hid ((HV6.out.alloc _).wrote hg7 hh7)
        clear hg7 hh7
        go_wp2_with fail
        refine (HV7.out.asks (by omega)).mono ?_
        rintro e W8 ⟨he, hb8⟩
        rw [← HT2.out] at he
        subst he
        have HV8 := Lib.hid (HV7.out.go hb8)
        have heq : ∀ w, (binOp .eql 32 T2 T2).run Tryd.prog w = .ok (.bool true) w := by rw [HT2.out]; exact eql_tag _
        have hgd : ∀ op x y w, (eqGuard op 32 x y T2 T2).run Tryd.prog w = .ok () w := by rw [HT2.out]; exact guard_tag _ _
        clear hb8
        go_wp2_with fail
        refine (RV.of2 (HV8.out.alloc _) (laid_at rfl) hc (Nat.le_trans hm M48.out) hc2 (Nat.le_trans hm2 M48.out) HR.out HR2.out (by omega)).mono ?_
        rintro e W9 ⟨he, hb9⟩
        rw [← HT2.out] at he
        subst he
        have HV9 := Lib.hid ((HV8.out.alloc _).go hb9)
        clear hb9
        go_wp2_with fail
        refine (HV9.out.len).mono ?_
        rintro e w' ⟨rfl, rfl⟩
        go_wp2
        go_ret
        exact ⟨rfl, HV9.out.bel⟩
      · skip
        go_simp
        refine hK.out _ _ (by (repeat (first | exact HV3.out | apply RV.drew | apply RV.alloc | (refine RV.go ?_ (by assumption))))) (fun hHeld => ?_)
        clear hK K
        try simp only [Act.put, List.setIfInBounds_toArray, List.set_cons_zero, List.set_cons_succ]
        refine one_to (i := 18) (l' := #[true, true, true, true, true, true, true, true, true, true, true, true, true, true, true, true, true, true, true, true, true, false, false, false, false, false, false, false, false, false, false]) rfl (by kernel_rfl) (by kernel_rfl) (fun K hK => ?_)
        go_simp
        refine (RV.asks (B := w.heap.size) (w := w) (g := g) (n0 := n) (by repeat (first | exact HV3.out | apply RV.drew | apply RV.alloc | (refine RV.go ?_ (by assumption)))) (by omega)).mono ?_
        rintro e w5 ⟨he, hb5⟩; rw [← HT.out] at he; subst he
        dsimp only
        refine hK.out _ _ (by (repeat (first | exact HV3.out | apply RV.drew | apply RV.alloc | (refine RV.go ?_ (by assumption))))) (fun hHeld => ?_)
        clear hK K
        try simp only [Act.put, List.setIfInBounds_toArray, List.set_cons_zero, List.set_cons_succ]
        refine one_to (i := 21) (l' := #[true, true, true, true, true, true, true, true, true, true, true, true, true, true, true, true, true, true, true, true, true, true, false, false, false, false, false, false, false, false, false]) rfl (by kernel_rfl) (by kernel_rfl) (fun K hK => ?_)
        go_simp
        refine (RV.of1 (B := w.heap.size) (w := w) (hb := hb) (g := g) (n0 := n) (n := n) (c := c) (p := p) (by repeat (first | exact HV3.out | apply RV.drew | apply RV.alloc | (refine RV.go ?_ (by assumption)))) (by (try simp only [heap_drew]); repeat (first | (apply laid_at; simp; done) | apply laid_old | (refine laid_go ?_ (by assumption); try simp only [heap_drew]))) hc (by have h2 := M48.out; omega) HR.out (by omega)).mono ?_
        rintro e w6 ⟨he, hb6⟩; rw [← HT.out] at he; subst he
        dsimp only
        refine hK.out _ _ (by (repeat (first | exact HV3.out | apply RV.drew | apply RV.alloc | (refine RV.go ?_ (by assumption))))) (fun hHeld => ?_)
        clear hK K
        try simp only [Act.put, List.setIfInBounds_toArray, List.set_cons_zero, List.set_cons_succ]
        refine take_to (i := 22) (d := some 52) (v := ?_) (l' := #[true, true, true, true, true, true, true, true, true, true, true, true, true, true, true, true, true, true, true, true, true, true, true, false, false, false, false, false, false, false, false]) rfl rfl (by kernel_rfl) (by kernel_rfl) (by kernel_rfl) (by kernel_rfl) (fun _ _ _ h => h) (Or.inl ⟨by rfl, ?_⟩) (by assumption) ?_; rotate_left; · (intro w' hSw; (try dsimp only at hSw); go_simp; (try with_reducible rfl))
        try simp only [Act.put, List.setIfInBounds_toArray, List.set_cons_zero, List.set_cons_succ]
        refine take_to (i := 23) (d := some 53) (v := ?_) (l' := #[true, true, true, true, true, true, true, true, true, true, true, true, true, true, true, true, true, true, true, true, true, true, true, true, false, false, false, false, false, false, false]) rfl rfl (by kernel_rfl) (by kernel_rfl) (by kernel_rfl) (by kernel_rfl) (fun _ _ _ h => h) (Or.inl ⟨by rfl, ?_⟩) (by assumption) ?_; rotate_left; · (intro w' hSw; (try dsimp only at hSw); go_simp; (try with_reducible rfl))
        try simp only [Act.put, List.setIfInBounds_toArray, List.set_cons_zero, List.set_cons_succ]
        refine take_to (i := 24) (d := some 54) (v := ?_) (l' := #[true, true, true, true, true, true, true, true, true, true, true, true, true, true, true, true, true, true, true, true, true, true, true, true, true, false, false, false, false, false, false]) rfl rfl (by kernel_rfl) (by kernel_rfl) (by kernel_rfl) (by kernel_rfl) (fun _ _ _ h => h) (Or.inl ⟨by rfl, ?_⟩) (by assumption) ?_; rotate_left; · (intro w' hSw; (try dsimp only at hSw); go_simp; (try with_reducible rfl))
        try simp only [Act.put, List.setIfInBounds_toArray, List.set_cons_zero, List.set_cons_succ]
        refine take_to (i := 25) (d := some 55) (v := ?_) (l' := #[true, true, true, true, true, true, true, true, true, true, true, true, true, true, true, true, true, true, true, true, true, true, true, true, true, true, false, false, false, false, false]) rfl rfl (by kernel_rfl) (by kernel_rfl) (by kernel_rfl) (by kernel_rfl) (fun _ _ _ h => h) (Or.inl ⟨by rfl, ?_⟩) (by assumption) ?_; rotate_left; · (intro w' hSw; (try dsimp only at hSw); go_simp; (try with_reducible rfl))
        try simp only [Act.put, List.setIfInBounds_toArray, List.set_cons_zero, List.set_cons_succ]
        refine take_to (i := 27) (d := some 57) (v := ?_) (l' := #[true, true, true, true, true, true, true, true, true, true, true, true, true, true, true, true, true, true, true, true, true, true, true, true, true, true, false, true, false, false, false]) rfl rfl (by kernel_rfl) (by kernel_rfl) (by kernel_rfl) (by kernel_rfl) (fun _ _ _ h => h) (Or.inl ⟨by rfl, ?_⟩) (by assumption) ?_; rotate_left; · (intro w' hSw; (try dsimp only at hSw); go_simp; (try with_reducible rfl))
        try simp only [Act.put, List.setIfInBounds_toArray, List.set_cons_zero, List.set_cons_succ]
        refine take_to (i := 28) (d := some 58) (v := ?_) (l' := #[true, true, true, true, true, true, true, true, true, true, true, true, true, true, true, true, true, true, true, true, true, true, true, true, true, true, false, true, true, false, false]) rfl rfl (by kernel_rfl) (by kernel_rfl) (by kernel_rfl) (by kernel_rfl) (fun _ _ _ h => h) (Or.inl ⟨by rfl, ?_⟩) (by assumption) ?_; rotate_left; · (intro w' hSw; (try dsimp only at hSw); go_simp; (try with_reducible rfl))
        try simp only [Act.put, List.setIfInBounds_toArray, List.set_cons_zero, List.set_cons_succ]
        refine one_to (i := 26) (l' := #[true, true, true, true, true, true, true, true, true, true, true, true, true, true, true, true, true, true, true, true, true, true, true, true, true, true, true, true, true, false, false]) rfl (by kernel_rfl) (by kernel_rfl) (fun K hK => ?_)
        go_simp
        refine (RV.len (B := w.heap.size) (w := w) (g := g) (n0 := n) (by repeat (first | exact HV3.out | apply RV.drew | apply RV.alloc | (refine RV.go ?_ (by assumption))))).mono ?_
        rintro e w' ⟨rfl, rfl⟩
        dsimp only
        refine hK.out _ _ (by (repeat (first | exact HV3.out | apply RV.drew | apply RV.alloc | (refine RV.go ?_ (by assumption))))) (fun hHeld => ?_)
        clear hK K
        try simp only [Act.put, List.setIfInBounds_toArray, List.set_cons_zero, List.set_cons_succ]
        refine take_to (i := 29) (d := some 59) (v := ?_) (l' := #[true, true, true, true, true, true, true, true, true, true, true, true, true, true, true, true, true, true, true, true, true, true, true, true, true, true, true, true, true, true, false]) rfl rfl (by kernel_rfl) (by kernel_rfl) (by kernel_rfl) (by kernel_rfl) (fun _ _ _ h => h) (Or.inl ⟨by rfl, ?_⟩) (by assumption) ?_; rotate_left; · (intro w' hSw; (try dsimp only at hSw); go_simp; (try with_reducible rfl))
        try simp only [Act.put, List.setIfInBounds_toArray, List.set_cons_zero, List.set_cons_succ]
        refine take_to (i := 30) (d := some 60) (v := ?_) (l' := #[true, true, true, true, true, true, true, true, true, true, true, true, true, true, true, true, true, true, true, true, true, true, true, true, true, true, true, true, true, true, true]) rfl rfl (by kernel_rfl) (by kernel_rfl) (by kernel_rfl) (by kernel_rfl) (fun _ _ _ h => h) (Or.inl ⟨by rfl, ?_⟩) (by assumption) ?_; rotate_left; · (intro w' hSw; (try dsimp only at hSw); go_simp; (try with_reducible rfl))
        try simp only [Act.put, List.setIfInBounds_toArray, List.set_cons_zero, List.set_cons_succ]
        refine wpAnyH_done (by kernel_rfl) ?_ _
        refine NoPanic.normal ?_
        have HV6 := Lib.hid hHeld
        have hlt6 := hHeld.hh.lt
        have hhi6 := hHeld.hi
        clear hHeld hneq hgd HW1 HW2
        go_wp2_with fail
        refine (write1 w.heap.size _ hb w6.heap.size n n2 c2 p2 27 g (HV6.out.alloc _).kc hhi6 (HV6.out.alloc _).hh (laid_at rfl) (by omega) hc2 (Nat.le_trans hm2 M48.out) ((HV6.out.alloc _).rx HR2.out) (by omega)).mono ?_
        rintro e W7 ⟨rfl, hg7, hh7⟩
        have HV7 := Lib.hid ((HV6.out.alloc _).wrote hg7 hh7)
        clear hg7 hh7
        go_wp2_with fail
        refine (HV7.out.asks (by omega)).mono ?_
        rintro e W8 ⟨he, hb8⟩
        rw [← HT2.out] at he
        subst he
        have HV8 := Lib.hid (HV7.out.go hb8)
        have heq : ∀ w, (binOp .eql 32 T2 T2).run Tryd.prog w = .ok (.bool true) w := by rw [HT2.out]; exact eql_tag _
        have hgd : ∀ op x y w, (eqGuard op 32 x y T2 T2).run Tryd.prog w = .ok () w := by rw [HT2.out]; exact guard_tag _ _
        clear hb8
        go_wp2_with fail
        refine (RV.of2 (HV8.out.alloc _) (laid_at rfl) hc (Nat.le_trans hm M48.out) hc2 (Nat.le_trans hm2 M48.out) HR.out HR2.out (by omega)).mono ?_
        rintro e W9 ⟨he, hb9⟩
        rw [← HT2.out] at he
        subst he
        have HV9 := Lib.hid ((HV8.out.alloc _).go hb9)
        clear hb9
        go_wp2_with fail
        refine (HV9.out.len).mono ?_
        rintro e w' ⟨rfl, rfl⟩
        go_wp2
        go_ret
        exact ⟨rfl, HV9.out.bel⟩
end Go.Proofs.YtpomconbkkfchaaDoor
