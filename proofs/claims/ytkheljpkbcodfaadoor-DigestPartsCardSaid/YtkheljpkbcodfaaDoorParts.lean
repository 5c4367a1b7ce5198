/-
  The walk of the law DigestParts.
-/
import Derived.Test.YtkheljpkbcodfaaDoorConcat
import Derived.Test.YtkheljpkbcodfaaDoorRefuse
import Derived.Test.YtkheljpkbcodfaaDoorSlices
import Derived.Test.YtkheljpkbcodfaaDoorTurns
namespace Go.Proofs.YtkheljpkbcodfaaDoor
open Go.RowKit
set_option linter.unusedVariables false
set_option linter.unusedSimpArgs false

/-- what stays while the law asks two hashers, of the first a of fb and of the first c of rp; the tag s lies at T -/
structure DP (B : Nat) (w : World) (hb gb T : Nat) (fb rp s : Nat → BitVec 8) (v : Value) (k : Nat) (xs : List Value) (a c : Nat) (W : World) : Prop where
  h : HH W hb fb a (some ⟨hb, 0, none⟩)
  g : HH W gb rp c (some ⟨gb, 0, none⟩)
  tag : BT W T 32 s
  kc : Kc B W
  bel : Below w.heap.size w W
  lo : B ≤ w.heap.size
  ap : w.heap.size ≤ hb ∧ w.heap.size ≤ gb ∧ hb ≠ gb ∧ hb < T ∧ gb < T
  own : W.ownsRow (T + 1) 27 1 v k xs
section
variable {B hb gb T a c : Nat} {w W W' : World} {fb rp s : Nat → BitVec 8} {v : Value} {k : Nat} {xs : List Value}
theorem DP.go (h : DP B w hb gb T fb rp s v k xs a c W) (b : Below W.heap.size W W') : DP B w hb gb T fb rp s v k xs a c W' :=
  ⟨h.h.below' b, h.g.below' b, h.tag.below' b, h.kc.below (b.mono (Nat.le_trans h.lo h.bel.size)), h.bel.trans (b.mono h.bel.size), h.lo, h.ap, own_below h.own b⟩
theorem DP.drew (h : DP B w hb gb T fb rp s v k xs a c W) : DP B w hb gb T fb rp s v k xs a c W.drew := h.go (Below.refl _ _).drew
theorem DP.alloc (h : DP B w hb gb T fb rp s v k xs a c W) (o : Obj) : DP B w hb gb T fb rp s v k xs a c (W.alloc o) := h.go ((Below.refl _ _).alloc (Nat.le_refl _) o)
theorem DP.wroteH {a' : Nat} (h : DP B w hb gb T fb rp s v k xs a c W) (b : W.grownBy W' (some hb)) (hh : HH W' hb fb a' (some ⟨hb, 0, none⟩)) : DP B w hb gb T fb rp s v k xs a' c W' :=
  ⟨hh, h.g.other b (Ne.symm h.ap.2.2.1), h.tag.gr b (by have := h.ap; omega), h.kc.below (gr_below b (Nat.le_trans h.lo h.ap.1) (Nat.le_trans h.lo h.bel.size)), h.bel.grown b h.bel.size (by rintro k ⟨⟩; exact h.ap.1), h.lo, h.ap, h.own.kept b (.inr (fun e => by have := (h.own.lt hb e).1; have := h.ap; omega))⟩
theorem DP.wroteG {c' : Nat} (h : DP B w hb gb T fb rp s v k xs a c W) (b : W.grownBy W' (some gb)) (hh : HH W' gb rp c' (some ⟨gb, 0, none⟩)) : DP B w hb gb T fb rp s v k xs a c' W' :=
  ⟨h.h.other b h.ap.2.2.1, hh, h.tag.gr b (by have := h.ap; omega), h.kc.below (gr_below b (Nat.le_trans h.lo h.ap.2.1) (Nat.le_trans h.lo h.bel.size)), h.bel.grown b h.bel.size (by rintro k ⟨⟩; exact h.ap.2.1), h.lo, h.ap, h.own.kept b (.inr (fun e => by have := (h.own.lt gb e).1; have := h.ap; omega))⟩
theorem DP.asks (h : DP B w hb gb T fb rp s v k xs a c W) (hn : a ≤ 2147483648) :
    Calls Tryd.prog 15 #[.pointer (some ⟨hb, 0, none⟩)] W fun e w' => e = .returned (tagV (sha fb a)) ∧ Below W.heap.size W w' := tagOf_any B W hb fb a h.kc (Nat.le_trans h.lo h.ap.1) h.h hn
theorem DP.len (h : DP B w hb gb T fb rp s v k xs a c W) : Calls Tryd.prog 18 #[.pointer (some ⟨hb, 0, none⟩)] W fun e w' => e = .returned (.int .i64 a) ∧ W = w' := lenH W hb a fb h.h
theorem DP.of1 {H n cp : Nat} {p : Option Addr} {t : TypeId} {g : Nat → BitVec 8} (h : DP B w hb gb T fb rp s v k xs a c W) (hW : W.heap[H]? = some (.cells #[.slice p n cp] t (0, 0))) (hc : n ≤ cp) (hm : cp ≤ maxLen) (hr : Reads w.heap.size w p n (fun j => .int .u8 (ub (g j)))) (hn : n ≤ 2147483648) :
    Calls Tryd.prog 19 #[.slice (some ⟨H, 0, none⟩) 1 1] W fun e w' => e = .returned (tagV (sha g n)) ∧ Below W.heap.size W w' := Go.Proofs.YtkheljpkbcodfaaDoor.of1 B W H n cp p t g h.kc (Nat.le_trans h.lo h.bel.size) hW hc hm ((hr.below h.bel).mono h.bel.size) hn
theorem DP.writeH {H n cp : Nat} {p : Option Addr} {t : TypeId} (h : DP B w hb gb T fb rp s v k xs a c W) (hW : W.heap[H]? = some (.cells #[.slice p n cp] t (0, 0))) (hne : H ≠ hb) (hc : n ≤ cp) (hm : cp ≤ maxLen) (hr : Reads w.heap.size w p n (fun j => .int .u8 (ub (fb (a + j))))) (hn : a + n ≤ 1048576) :
    Calls Tryd.prog 14 #[.pointer (some ⟨hb, 0, none⟩), .slice (some ⟨H, 0, none⟩) 1 1] W fun e w' => e = .returned (.int .i64 0) ∧ W.grownBy w' (some hb) ∧ HH w' hb fb (a + n) (some ⟨hb, 0, none⟩) :=
  write1 B W hb H a n cp p t fb h.kc (Nat.le_trans h.lo h.ap.1) h.h hW hne hc hm ((hr.below h.bel).rx h.ap.1 h.h.lt) hn
theorem DP.writeG {H n cp : Nat} {p : Option Addr} {t : TypeId} (h : DP B w hb gb T fb rp s v k xs a c W) (hW : W.heap[H]? = some (.cells #[.slice p n cp] t (0, 0))) (hne : H ≠ gb) (hc : n ≤ cp) (hm : cp ≤ maxLen) (hr : Reads w.heap.size w p n (fun j => .int .u8 (ub (rp (c + j))))) (hn : c + n ≤ 1048576) :
    Calls Tryd.prog 14 #[.pointer (some ⟨gb, 0, none⟩), .slice (some ⟨H, 0, none⟩) 1 1] W fun e w' => e = .returned (.int .i64 0) ∧ W.grownBy w' (some gb) ∧ HH w' gb rp (c + n) (some ⟨gb, 0, none⟩) :=
  write1 B W gb H c n cp p t rp h.kc (Nat.le_trans h.lo h.ap.2.1) h.g hW hne hc hm ((hr.below h.bel).rx h.ap.2.1 h.g.lt) hn
theorem DP.load {S : World → Prop} (hS : ∀ W, S W → BT W T 32 s) {ops : Array Oper} {o : Oper} {ac : Act} {x : Operand} (h1 : Region.wanted o (yielded ops ac.tmps) = true) (h2 : o.op = .load 32 x) (h3 : ac.eval x = .pointer (some ⟨T, 0, none⟩)) : YieldsIf Tryd.prog ops S o (tagV s) ac :=
  yieldsIf_load_mid h1 32 x h2 T 0 h3 (tagC s) _ (fun w' hw' => (hS w' hw').range) Tryd.underlying32 rfl (by simp [infoTag, tagC_len])
end
theorem zero_at' (n i : Nat) (hi : i < n) : (List.replicate n (Value.int .u8 0)).toArray[i]? = some (.int .u8 (ub 0#8)) := by
  rw [List.getElem?_toArray, List.getElem?_replicate, if_pos hi]; rfl
/-- bytes, over and over -/
def rept (f : Nat → BitVec 8) (n : Nat) : Nat → BitVec 8 := fun i => f (i % n)
theorem rept_at (f : Nat → BitVec 8) (n k j : Nat) (hj : j < n) : rept f n (k * n + j) = f j := by
  unfold rept; rw [Nat.mul_comm, Nat.mul_add_mod, Nat.mod_eq_of_lt hj]
/-- one more of a row of things -/
def upd {α : Type} (f : Nat → α) (k : Nat) (x : α) : Nat → α := fun i => if i = k then x else f i
theorem upd_at {α : Type} (f : Nat → α) (k : Nat) (x : α) : upd f k x k = x := by unfold upd; rw [if_pos rfl]
theorem upd_lt {α : Type} (f : Nat → α) (k i : Nat) (x : α) (h : i < k) : upd f k x i = f i := by unfold upd; rw [if_neg (by omega)]
theorem pos_upd (ln : Nat → Nat) (k x : Nat) (i : Nat) (h : i ≤ k) : pos (upd ln k x) i = pos ln i := by
  induction i with
  | zero => rfl
  | succ i ih => simp only [pos]; rw [ih (by omega), upd_lt _ _ _ _ (by omega)]
/-- the rows that are cut so far -/
structure CUT (w : World) (fb : Nat → BitVec 8) (k fr : Nat) (P : Nat → Option Addr) (ln C : Nat → Nat) : Prop where
  at_ : pos ln k = fr
  cap : ∀ i, i < k → ln i ≤ C i ∧ C i ≤ maxLen
  row : ∀ i, i < k → Reads w.heap.size w (P i) (ln i) (fun j => .int .u8 (ub (fb (pos ln i + j))))
theorem CUT.more {w : World} {fb : Nat → BitVec 8} {k fr n c : Nat} {P : Nat → Option Addr} {ln C : Nat → Nat} {p : Option Addr} (h : CUT w fb k fr P ln C) (hc : n ≤ c ∧ c ≤ maxLen) (hr : Reads w.heap.size w p n (fun j => .int .u8 (ub (fb (fr + j))))) : CUT w fb (k + 1) (fr + n) (upd P k p) (upd ln k n) (upd C k c) := by
  refine ⟨by simp only [pos]; rw [pos_upd _ _ _ _ (Nat.le_refl _), upd_at, h.at_], fun i hi => ?_, fun i hi => ?_⟩
  · by_cases e : i = k
    · subst e; rw [upd_at, upd_at]; exact hc
    · rw [upd_lt _ _ _ _ (by omega), upd_lt _ _ _ _ (by omega)]; exact h.cap i (by omega)
  · by_cases e : i = k
    · subst e; rw [upd_at, upd_at, pos_upd _ _ _ _ (Nat.le_refl _), h.at_]; exact hr
    · rw [upd_lt _ _ _ _ (by omega), upd_lt _ _ _ _ (by omega), pos_upd _ _ _ _ (by omega)]; exact h.row i (by omega)
def slicesOf (P : Nat → Option Addr) (ln C : Nat → Nat) (k : Nat) : List Value := (List.range k).map fun i => .slice (P i) (ln i) (C i)
theorem slicesOf_more (P : Nat → Option Addr) (ln C : Nat → Nat) (k : Nat) (p : Option Addr) (n c : Nat) : slicesOf P ln C k ++ [.slice p n c] = slicesOf (upd P k p) (upd ln k n) (upd C k c) (k + 1) := by
  unfold slicesOf
  rw [List.range_succ, List.map_append]
  congr 1
  · exact List.map_congr_left fun i hi => by rw [upd_lt _ _ _ _ (List.mem_range.1 hi), upd_lt _ _ _ _ (List.mem_range.1 hi), upd_lt _ _ _ _ (List.mem_range.1 hi)]
  · simp [upd_at]
/-- a list of rows is appended -/
theorem DP.append {B hb gb T a c : Nat} {w W : World} {fb rp s : Nat → BitVec 8} {v : Value} {k : Nat} {xs : List Value} (h : DP B w hb gb T fb rp s v k xs a c W) (ty : TypeId) (cs : List Value) (h1 : ∀ x ∈ cs, x.oneCell' = true) (hn : k + cs.length ≤ 4294967296) :
    ∃ v' W', (Builtin.append_ #[22, 22] ty #[v, .slice (some ⟨W.heap.size, 0, none⟩) cs.length cs.length]).run Tryd.prog (W.alloc (.cells cs.toArray 27)) = .ok v' W' ∧ DP B w hb gb T fb rp s v' (k + cs.length) (xs ++ cs) a c W' := by
  obtain ⟨i0, hi, hz0, hz1, hz2⟩ := info_parts infoBs
  have h' := h.alloc (.cells cs.toArray 27)
  obtain ⟨v', W', h2, h3, h4, _⟩ := run_append_own (P := Tryd.prog) (W.alloc (.cells cs.toArray 27)) (T + 1) 22 ty 27 i0 (.slice none 0 0) 1 24 Tryd.underlying22 hi hz0 hz1 hz2 rfl (by omega) v k xs h'.own ⟨W.heap.size, 0, none⟩ cs.length cs.length cs (by omega)
    (World.news_of_block (heap_alloc_new _ _)) h1 (by unfold maxLen; omega) (by omega) (by have := h'.tag.lt; omega)
  refine ⟨v', W', h2, ?_⟩
  have hrow : ∀ q, v.ownBlock = some q → T + 1 ≤ q := fun q e => (h.own.lt q e).1
  cases hv : v.ownBlock with
  | none =>
    rw [hv] at h4
    have hb : Below (W.alloc (.cells cs.toArray 27)).heap.size (W.alloc (.cells cs.toArray 27)) W' := ⟨h4.os, h4.tape, h4.output, h4.size, fun j hj => h4.block j hj (by simp)⟩
    have h5 := h'.go hb
    exact ⟨h5.h, h5.g, h5.tag, h5.kc, h5.bel, h5.lo, h5.ap, h3⟩
  | some q =>
    rw [hv] at h4
    have hq := hrow q hv
    have hap := h.ap
    exact ⟨h'.h.other h4 (by omega), h'.g.other h4 (by omega), h'.tag.gr h4 (by omega), h'.kc.below (gr_below h4 (by have := h.lo; omega) (Nat.le_trans h.lo h'.bel.size)), h'.bel.grown h4 h'.bel.size (by rintro j ⟨⟩; omega), h.lo, h.ap, h3⟩

set_option maxHeartbeats 8000000 in
set_option maxRecDepth 100000 in
theorem digestParts_walk (p : Option Addr) (n c : Nat) (fb : Nat → BitVec 8) (cp : Option Addr) (m cc : Nat) (ct : Nat → Int) (p2 : Option Addr) (n2 c2 : Nat) (ot : Nat → BitVec 8) (w : World) (hk : Kc w.heap.size w)
    (hr : Reads w.heap.size w p n (fun i => .int .u8 (ub (fb i)))) (hct : Reads w.heap.size w cp m (fun i => .int .i64 (ct i))) (hr2 : Reads w.heap.size w p2 n2 (fun i => .int .u8 (ub (ot i)))) (hc : n ≤ c) (hcm : m ≤ cc) (hc2 : n2 ≤ c2) (hm : c ≤ 140737488351232) (hmm : cc ≤ 17592186043904) (hm2 : c2 ≤ 140737488351232) :
    Calls Tryd.prog 5 #[.slice p n c, .slice cp m cc, .slice p2 n2 c2] w fun e w' => e = .returned (.bool true) ∧ Below w.heap.size w w' := by
  have HK := Lib.hid hk
  have HR := Lib.hid hr
  have HCT := Lib.hid hct
  have HR2 := Lib.hid hr2
  have M48 := Lib.hid (show (140737488351232 : Nat) ≤ maxLen by decide)
  clear hk hr hct hr2
  by_cases hlen : 700 < (n : Int) + (n2 : Int)
  · go_enter Tryd.func5, Tryd.ntmps5
    go_wp2_with fail
    refine (awake2 w.heap.size w HK.out (Nat.le_refl _)).mono ?_
    rintro e w1 ⟨rfl, hb1⟩
    go_wp2
    go_ret
    exact ⟨rfl, hb1⟩
  · by_cases hcut : 9 < (m : Int)
    · go_enter Tryd.func5, Tryd.ntmps5
      go_wp2_with fail
      refine (awake2 w.heap.size w HK.out (Nat.le_refl _)).mono ?_
      rintro e w1 ⟨rfl, hb1⟩
      go_wp2
      go_ret
      exact ⟨rfl, hb1⟩
    · go_enter Tryd.func5, Tryd.ntmps5
      go_wp2_with fail
      refine (awake2 w.heap.size w HK.out (Nat.le_refl _)).mono ?_
      rintro e w1 ⟨rfl, hb1⟩
      go_wp2_with fail
      refine (new_any w1).mono ?_
      rintro e W2 ⟨hb, rfl, hbW, hb2, hh2⟩
      go_wp2_with fail
      refine (new_any W2).mono ?_
      rintro e W3 ⟨gb, rfl, hgW, hb3, hg3⟩
      have q1 := hb1.size
      have q2 := hb2.size
      have q3 := hb3.size
      have hlt2 := (hh2 fb).lt
      have J1 := Lib.hid ((hh2 fb).below' hb3)
      have J2 := Lib.hid (hg3 (rept ot n2))
      have J3 := Lib.hid ((hb1.trans (hb2.mono q1)).trans (hb3.mono (by omega)) : Below w.heap.size w W3)
      clear hb1 hb2 hb3 hh2 hg3
      go_upto_region 6 with (fail)
      refine wp_region_lit ?_
      refine wpList_plain rfl (fun K hK => ?_)
      go_simp
      refine hK _ _ ?_
      clear hK K
      refine wpList_plain rfl (fun K hK => ?_)
      go_simp
      refine hK _ _ ?_
      clear hK K
      have hof := of1 w.heap.size (W3.alloc (.cells #[.slice p n c] 27)) W3.heap.size n c p 27 fb (HK.out.below (J3.out.alloc J3.out.size _)) (by simp; omega) (laid_at rfl) hc (Nat.le_trans hm M48.out) ((HR.out.below (J3.out.alloc J3.out.size _)).mono (by simp; omega)) (by omega)
      refine wpList_plain rfl (fun K hK => ?_)
      go_simp
      refine hof.mono ?_
      clear hof
      rintro e W4 ⟨rfl, hb4⟩
      dsimp only
      refine hK _ _ ?_
      clear hK K
      obtain ⟨s, hs⟩ : ∃ s, s = sha fb n := ⟨_, rfl⟩
      rw [← hs]
      have HS := Lib.hid hs
      have hb34 : Below W3.heap.size W3 W4 := ((Below.refl _ _).alloc (Nat.le_refl _) _).trans (hb4.mono (by simp))
      have q4 := hb34.size
      have hgl := J2.out.lt
      have L1 := Lib.hid (J1.out.below' hb34)
      have L2 := Lib.hid (J2.out.below' hb34)
      have L3 := Lib.hid (J3.out.trans (hb34.mono (by omega)))
      clear hb4 hb34 hs J1 J2 J3
      refine wpList_plain rfl (fun K hK => ?_)
      go_simp
      refine hK _ _ ?_
      clear hK K
      have ht0 : BT (W4.alloc (.cells (List.replicate 32 (Value.int .u8 0)).toArray 32)) W4.heap.size 32 (fun _ => 0#8) := BT.of_cells (laid_at rfl) (fun i hi => zero_at' 32 i hi)
      refine wpList_store_mid rfl 32 _ _ rfl W4.heap.size 0 (tagC s).toArray rfl rfl (by simpa [tagC_len] using ht0.there 32 (Nat.le_refl _)) (by simp [infoTag, tagC_len]) (tagC_one _) ?_
      rw [List.toList_toArray]
      have ht5 : BT ((W4.alloc (.cells (List.replicate 32 (Value.int .u8 0)).toArray 32)).setCells W4.heap.size 0 (tagC s)) W4.heap.size 32 s := ht0.setFirst 32 (Nat.le_refl _) _ rfl fun j h1 h2 => by omega
      have hg5 : W4.grownBy ((W4.alloc (.cells (List.replicate 32 (Value.int .u8 0)).toArray 32)).setCells W4.heap.size 0 (tagC s)) (some W4.heap.size) := (World.grownBy_alloc W4 _ _).trans (gr_setCells _ _ _)
      show Exit.then _ _ Exit.normal _ ((W4.alloc (.cells (List.replicate 32 (Value.int .u8 0)).toArray 32)).setCells W4.heap.size 0 (tagC s))
      generalize (W4.alloc (.cells (List.replicate 32 (Value.int .u8 0)).toArray 32)).setCells W4.heap.size 0 (tagC s) = W5 at ht5 hg5 ⊢
      have hbel5 := L3.out.grown hg5 L3.out.size (by rintro q ⟨⟩; omega)
      have HV0 := Lib.hid (show DP w.heap.size w hb gb W4.heap.size fb (rept ot n2) s (.slice none 0 0) 0 (slicesOf (fun _ => none) (fun _ => 0) (fun _ => 0) 0) 0 (0 * n2) W5 from
        ⟨L1.out.other hg5 (by omega), by rw [Nat.zero_mul]; exact L2.out.other hg5 (by omega), ht5, HK.out.below hbel5, hbel5, Nat.le_refl _, ⟨by omega, by omega, by omega, by omega, by omega⟩, World.ownsRow_nil _ _ _ _⟩)
      clear ht5 hg5 ht0 hbel5 L1 L2 L3
      obtain ⟨T9, hT9⟩ : ∃ T9, T9 = W4.heap.size := ⟨_, rfl⟩
      go_wp2
      go_loopw [10, 11, 12] (fun v fr i wr => ∃ k a : Nat, ∃ (P : Nat → Option Addr) (ln C : Nat → Nat), k ≤ m ∧ i = .int .i64 (k : Int) ∧ fr = .int .i64 (a : Int) ∧ a ≤ n ∧ CUT w fb k a P ln C ∧ DP w.heap.size w hb gb W4.heap.size fb (rept ot n2) s v k (slicesOf P ln C k) a (k * n2) wr) (fun _ _ i _ => (m - intOf i).toNat)
      case atStart => exact ⟨0, 0, _, _, _, Nat.zero_le _, rfl, rfl, Nat.zero_le _, ⟨rfl, fun i hi => by omega, fun i hi => by omega⟩, HV0.out⟩
      case round =>
        clear HV0
        obtain ⟨k, a, P, ln, C, hkm, rfl, rfl, han, hcu, hdp⟩ := hrel
        by_cases hlt : k < m
        · have HCUT := Lib.hid hcu
          have HDP := Lib.hid hdp
          rcases HCT.out.below hdp.bel with h0 | ⟨b, off, rfl, hbb, hcc⟩
          · omega
          have hcell := hcc k hlt
          clear hcu hdp hcc
          go_wp2_with fail
          refine (pick_any (ct k) ((n : Int) - (a : Int) + 1) wr (by omega) (by omega)).mono ?_
          rintro e w' ⟨⟨q, hq, rfl⟩, rfl⟩
          obtain ⟨a2, ha2⟩ : ∃ a2, a2 = a + q := ⟨_, rfl⟩
          have s1 : IntKind.i64.wrap ((a : Int) + (q : Int)) = (a2 : Int) := by rw [IntWalk.i64_in _ (by omega)]; omega
          obtain ⟨ps, hsl, hrs⟩ := slice_mid p n c a a2 (by omega) (by omega) hc
          rw [show a2 - a = q by omega] at hsl hrs
          obtain ⟨pt, hst, hrt⟩ := slice_to p n c a2 (by omega) hc
          have RS := Lib.hid (hrs _ _ _ HR.out)
          have RT := Lib.hid (hrt _ _ _ HR.out)
          have ln2 : a2 ≤ n := by omega
          have HA2 := Lib.hid ha2
          clear hcell hrs hrt ha2 hq
          have HAP := Lib.hid (HDP.out.append 22 [.slice ps q (c - a)] (by intro x hx; simp at hx; subst hx; rfl) (by simp; omega))
          go_wp2_with (at_builtin; (obtain ⟨v', W13, hrun, hdp13⟩ := HAP.out; refine Lib.wpList_append_run _ rfl _ _ _ _ rfl _ _ rfl rfl v' W13 hrun ?_))
          have HV13 := Lib.hid hdp13
          have HAPP := Lib.hid (show CUT w fb (k + 1) a2 (upd P k ps) (upd ln k q) (upd C k (c - a)) by rw [HA2.out]; exact HCUT.out.more ⟨by have := HA2.out; omega, by have := M48.out; omega⟩ RS.out)
          clear hrun hdp13 HAP HDP HCUT
          obtain ⟨TV, hTV⟩ : ∃ TV, TV = tagV (sha fb a2) := ⟨_, rfl⟩
          have hneq : ∀ w, (binOp .neq 32 TV TV).run Tryd.prog w = .ok (.bool false) w := by rw [hTV]; exact neq_tag _
          have hgd : ∀ op x y w, (eqGuard op 32 x y TV TV).run Tryd.prog w = .ok () w := by rw [hTV]; exact guard_tag _ _
          have HTV := Lib.hid hTV
          clear hTV
          obtain ⟨XS, hXS⟩ : ∃ XS, XS = slicesOf P ln C k ++ [.slice ps q (c - a)] := ⟨_, rfl⟩
          rw [← hXS] at HV13
          have HXS := Lib.hid hXS
          clear hXS
          have HWH := Lib.hid (show ∀ (W : World) (H : Nat), W.heap[H]? = some (.cells #[.slice ps q (c - a)] 27 (0, 0)) → W.heap.size ≤ H + 1 → DP w.heap.size w hb gb W4.heap.size fb (rept ot n2) s v' (k + 1) XS a (k * n2) W →
              Calls Tryd.prog 14 #[.pointer (some ⟨hb, 0, none⟩), .slice (some ⟨H, 0, none⟩) 1 1] W fun e w' => e = .returned (.int .i64 0) ∧ DP w.heap.size w hb gb W4.heap.size fb (rept ot n2) s v' (k + 1) XS a2 (k * n2) w' from fun W H hW hH hV =>
            (hV.writeH hW (by have h1 := hV.ap; have h2 := hV.tag.lt; omega) (by have := HA2.out; omega) (by have := M48.out; omega) RS.out (by have := HA2.out; omega)).mono fun e w' h => ⟨h.1, by have h2 := hV.wroteH h.2.1 h.2.2; rw [← HA2.out] at h2; exact h2⟩)
          have HWG := Lib.hid (show ∀ (W : World) (H : Nat), W.heap[H]? = some (.cells #[.slice p2 n2 c2] 27 (0, 0)) → W.heap.size ≤ H + 1 → DP w.heap.size w hb gb W4.heap.size fb (rept ot n2) s v' (k + 1) XS a2 (k * n2) W →
              Calls Tryd.prog 14 #[.pointer (some ⟨gb, 0, none⟩), .slice (some ⟨H, 0, none⟩) 1 1] W fun e w' => e = .returned (.int .i64 0) ∧ DP w.heap.size w hb gb W4.heap.size fb (rept ot n2) s v' (k + 1) XS a2 ((k + 1) * n2) w' from fun W H hW hH hV =>
            (hV.writeG hW (by have h1 := hV.ap; have h2 := hV.tag.lt; omega) hc2 (Nat.le_trans hm2 M48.out) (HR2.out.mono' (Nat.le_refl _) fun j hj => by rw [rept_at ot n2 k j hj]) (by have : k * n2 ≤ 9 * 700 := Nat.mul_le_mul (by omega) (by omega); omega)).mono fun e w' h => ⟨h.1, by have h2 := hV.wroteG h.2.1 h.2.2; rw [show k * n2 + n2 = (k + 1) * n2 by rw [Nat.add_mul]; omega] at h2; exact h2⟩)
          have HTG := Lib.hid (show ∀ (W : World) (e : Nat), DP w.heap.size w hb gb W4.heap.size fb (rept ot n2) s v' (k + 1) XS a2 e W →
              Calls Tryd.prog 15 #[.pointer (some ⟨hb, 0, none⟩)] W fun e w' => e = .returned TV ∧ Below W.heap.size W w' from fun W e hV => by rw [HTV.out]; exact hV.asks (by omega))
          have HOF := Lib.hid (show ∀ (W : World) (H e : Nat), W.heap[H]? = some (.cells #[.slice pt a2 c] 27 (0, 0)) → DP w.heap.size w hb gb W4.heap.size fb (rept ot n2) s v' (k + 1) XS a2 e W →
              Calls Tryd.prog 19 #[.slice (some ⟨H, 0, none⟩) 1 1] W fun e w' => e = .returned TV ∧ Below W.heap.size W w' from fun W H e hW hV => by rw [HTV.out]; exact hV.of1 hW (by omega) (Nat.le_trans hm M48.out) RT.out (by omega))
          go_upto_region 14 with (fail)
          refine wp_region_noPanic ?_
          refine wp_region_start (n := 41) (l := #[false, false, false, false, false, false, false, false, false, false, false, false, false, false, false, false, false, false, false, false, false, false, false, false, false, false, false, false, false, false, false, false, false, false, false, false, false, false, false, false, false]) (S := (fun _ => True)) (by kernel_rfl) rfl (by kernel_rfl) (by trivial) (fun hHeld => ?_)
          refine take_to (i := 0) (d := some 57) (v := ?_) (l' := #[true, false, false, false, false, false, false, false, false, false, false, false, false, false, false, false, false, false, false, false, false, false, false, false, false, false, false, false, false, false, false, false, false, false, false, false, false, false, false, false, false]) rfl rfl (by kernel_rfl) (by kernel_rfl) (by kernel_rfl) (by kernel_rfl) (fun _ _ _ h => h) (Or.inl ⟨by rfl, ?_⟩) (by assumption) ?_; rotate_left; · (intro w' hSw; (try dsimp only at hSw); go_simp; (try with_reducible rfl))
          try simp only [Act.put, List.setIfInBounds_toArray, List.set_cons_zero, List.set_cons_succ]
          refine take_to (i := 1) (d := some 58) (v := ?_) (l' := #[true, true, false, false, false, false, false, false, false, false, false, false, false, false, false, false, false, false, false, false, false, false, false, false, false, false, false, false, false, false, false, false, false, false, false, false, false, false, false, false, false]) rfl rfl (by kernel_rfl) (by kernel_rfl) (by kernel_rfl) (by kernel_rfl) (fun _ _ _ h => h) (Or.inl ⟨by rfl, ?_⟩) (by assumption) ?_; rotate_left; · (intro w' hSw; (try dsimp only at hSw); go_simp; (try with_reducible rfl))
          try simp only [Act.put, List.setIfInBounds_toArray, List.set_cons_zero, List.set_cons_succ]
          refine take_to (i := 2) (d := some 59) (v := ?_) (l' := #[true, true, true, false, false, false, false, false, false, false, false, false, false, false, false, false, false, false, false, false, false, false, false, false, false, false, false, false, false, false, false, false, false, false, false, false, false, false, false, false, false]) rfl rfl (by kernel_rfl) (by kernel_rfl) (by kernel_rfl) (by kernel_rfl) (fun _ _ _ h => h) (Or.inl ⟨by rfl, ?_⟩) (by assumption) ?_; rotate_left; · (intro w' hSw; (try dsimp only at hSw); go_simp; (try with_reducible rfl))
          try simp only [Act.put, List.setIfInBounds_toArray, List.set_cons_zero, List.set_cons_succ]
          refine take_to (i := 3) (d := some 60) (v := ?_) (l' := #[true, true, true, true, false, false, false, false, false, false, false, false, false, false, false, false, false, false, false, false, false, false, false, false, false, false, false, false, false, false, false, false, false, false, false, false, false, false, false, false, false]) rfl rfl (by kernel_rfl) (by kernel_rfl) (by kernel_rfl) (by kernel_rfl) (fun _ _ _ h => h) (Or.inl ⟨by rfl, ?_⟩) (by assumption) ?_; rotate_left; · (intro w' hSw; (try dsimp only at hSw); go_simp; (try with_reducible rfl))
          try simp only [Act.put, List.setIfInBounds_toArray, List.set_cons_zero, List.set_cons_succ]
          refine take_to (i := 4) (d := some 61) (v := ?_) (l' := #[true, true, true, true, true, false, false, false, false, false, false, false, false, false, false, false, false, false, false, false, false, false, false, false, false, false, false, false, false, false, false, false, false, false, false, false, false, false, false, false, false]) rfl rfl (by kernel_rfl) (by kernel_rfl) (by kernel_rfl) (by kernel_rfl) (fun _ _ _ h => h) (Or.inl ⟨by rfl, ?_⟩) (by assumption) ?_; rotate_left; · (intro w' hSw; (try dsimp only at hSw); go_simp; (try with_reducible rfl))
          try simp only [Act.put, List.setIfInBounds_toArray, List.set_cons_zero, List.set_cons_succ]
          refine one_to (i := 5) (l' := #[true, true, true, true, true, true, false, false, false, false, false, false, false, false, false, false, false, false, false, false, false, false, false, false, false, false, false, false, false, false, false, false, false, false, false, false, false, false, false, false, false]) rfl (by kernel_rfl) (by kernel_rfl) (fun K hK => ?_)
          go_simp
          refine hK.out _ _ (by trivial) (fun hHeld => ?_)
          clear hK K
          try simp only [Act.put, List.setIfInBounds_toArray, List.set_cons_zero, List.set_cons_succ]
          refine one_to (i := 6) (l' := #[true, true, true, true, true, true, true, false, false, false, false, false, false, false, false, false, false, false, false, false, false, false, false, false, false, false, false, false, false, false, false, false, false, false, false, false, false, false, false, false, false]) rfl (by kernel_rfl) (by kernel_rfl) (fun K hK => ?_)
          go_simp
          refine (HWH.out _ _ (by (try simp only [heap_drew]); repeat (first | (apply laid_at; simp; done) | apply laid_old | (refine laid_go ?_ (by assumption); try simp only [heap_drew]))) (by simp) (by repeat (first | exact HV13.out | apply DP.drew | apply DP.alloc | (refine DP.go ?_ (by assumption))))).mono ?_
          rintro e w5 ⟨rfl, hv5⟩; have HV5 := Lib.hid hv5; clear hv5
          dsimp only
          refine hK.out _ _ (by trivial) (fun hHeld => ?_)
          clear hK K
          try simp only [Act.put, List.setIfInBounds_toArray, List.set_cons_zero, List.set_cons_succ]
          refine take_to (i := 7) (d := some 64) (v := ?_) (l' := #[true, true, true, true, true, true, true, true, false, false, false, false, false, false, false, false, false, false, false, false, false, false, false, false, false, false, false, false, false, false, false, false, false, false, false, false, false, false, false, false, false]) rfl rfl (by kernel_rfl) (by kernel_rfl) (by kernel_rfl) (by kernel_rfl) (fun _ _ _ h => h) (Or.inl ⟨by rfl, ?_⟩) (by assumption) ?_; rotate_left; · (intro w' hSw; (try dsimp only at hSw); go_simp; (try with_reducible rfl))
          try simp only [Act.put, List.setIfInBounds_toArray, List.set_cons_zero, List.set_cons_succ]
          refine take_to (i := 8) (d := some 65) (v := ?_) (l' := #[true, true, true, true, true, true, true, true, true, false, false, false, false, false, false, false, false, false, false, false, false, false, false, false, false, false, false, false, false, false, false, false, false, false, false, false, false, false, false, false, false]) rfl rfl (by kernel_rfl) (by kernel_rfl) (by kernel_rfl) (by kernel_rfl) (fun _ _ _ h => h) (Or.inl ⟨by rfl, ?_⟩) (by assumption) ?_; rotate_left; · (intro w' hSw; (try dsimp only at hSw); go_simp; (try with_reducible rfl))
          try simp only [Act.put, List.setIfInBounds_toArray, List.set_cons_zero, List.set_cons_succ]
          refine take_to (i := 9) (d := some 66) (v := ?_) (l' := #[true, true, true, true, true, true, true, true, true, true, false, false, false, false, false, false, false, false, false, false, false, false, false, false, false, false, false, false, false, false, false, false, false, false, false, false, false, false, false, false, false]) rfl rfl (by kernel_rfl) (by kernel_rfl) (by kernel_rfl) (by kernel_rfl) (fun _ _ _ h => h) (Or.inl ⟨by rfl, ?_⟩) (by assumption) ?_; rotate_left; · (intro w' hSw; (try dsimp only at hSw); go_simp; (try with_reducible rfl))
          try simp only [Act.put, List.setIfInBounds_toArray, List.set_cons_zero, List.set_cons_succ]
          refine take_to (i := 11) (d := some 68) (v := ?_) (l' := #[true, true, true, true, true, true, true, true, true, true, false, true, false, false, false, false, false, false, false, false, false, false, false, false, false, false, false, false, false, false, false, false, false, false, false, false, false, false, false, false, false]) rfl rfl (by kernel_rfl) (by kernel_rfl) (by kernel_rfl) (by kernel_rfl) (fun _ _ _ h => h) (Or.inl ⟨by rfl, ?_⟩) (by assumption) ?_; rotate_left; · (intro w' hSw; (try dsimp only at hSw); go_simp; (try with_reducible rfl))
          try simp only [Act.put, List.setIfInBounds_toArray, List.set_cons_zero, List.set_cons_succ]
          refine take_to (i := 12) (d := some 69) (v := ?_) (l' := #[true, true, true, true, true, true, true, true, true, true, false, true, true, false, false, false, false, false, false, false, false, false, false, false, false, false, false, false, false, false, false, false, false, false, false, false, false, false, false, false, false]) rfl rfl (by kernel_rfl) (by kernel_rfl) (by kernel_rfl) (by kernel_rfl) (fun _ _ _ h => h) (Or.inl ⟨by rfl, ?_⟩) (by assumption) ?_; rotate_left; · (intro w' hSw; (try dsimp only at hSw); go_simp; (try with_reducible rfl))
          try simp only [Act.put, List.setIfInBounds_toArray, List.set_cons_zero, List.set_cons_succ]
          refine take_to (i := 13) (d := some 70) (v := ?_) (l' := #[true, true, true, true, true, true, true, true, true, true, false, true, true, true, false, false, false, false, false, false, false, false, false, false, false, false, false, false, false, false, false, false, false, false, false, false, false, false, false, false, false]) rfl rfl (by kernel_rfl) (by kernel_rfl) (by kernel_rfl) (by kernel_rfl) (fun _ _ _ h => h) (Or.inl ⟨by rfl, ?_⟩) (by assumption) ?_; rotate_left; · (intro w' hSw; (try dsimp only at hSw); go_simp; (try with_reducible rfl))
          try simp only [Act.put, List.setIfInBounds_toArray, List.set_cons_zero, List.set_cons_succ]
          refine two_to (i := 10) (j := 14) (l1 := #[true, true, true, true, true, true, true, true, true, true, true, true, true, true, false, false, false, false, false, false, false, false, false, false, false, false, false, false, false, false, false, false, false, false, false, false, false, false, false, false, false]) (l2 := #[true, true, true, true, true, true, true, true, true, true, false, true, true, true, true, false, false, false, false, false, false, false, false, false, false, false, false, false, false, false, false, false, false, false, false, false, false, false, false, false, false]) rfl rfl (by kernel_rfl) (by kernel_rfl) (by kernel_rfl) (fun K hK => ?_) (fun K hK => ?_)
          · skip
            go_simp
            refine (HTG.out _ (k * n2) (by repeat (first | exact HV5.out | apply DP.drew | apply DP.alloc | (refine DP.go ?_ (by assumption))))).mono ?_
            rintro e w6 ⟨rfl, hb6⟩
            dsimp only
            refine hK.out _ _ (by trivial) (fun hHeld => ?_)
            clear hK K
            try simp only [Act.put, List.setIfInBounds_toArray, List.set_cons_zero, List.set_cons_succ]
            refine one_to (i := 14) (l' := #[true, true, true, true, true, true, true, true, true, true, true, true, true, true, true, false, false, false, false, false, false, false, false, false, false, false, false, false, false, false, false, false, false, false, false, false, false, false, false, false, false]) rfl (by kernel_rfl) (by kernel_rfl) (fun K hK => ?_)
            go_simp
            refine hK.out _ _ (by trivial) (fun hHeld => ?_)
            clear hK K
            try simp only [Act.put, List.setIfInBounds_toArray, List.set_cons_zero, List.set_cons_succ]
            refine one_to (i := 15) (l' := #[true, true, true, true, true, true, true, true, true, true, true, true, true, true, true, true, false, false, false, false, false, false, false, false, false, false, false, false, false, false, false, false, false, false, false, false, false, false, false, false, false]) rfl (by kernel_rfl) (by kernel_rfl) (fun K hK => ?_)
            go_simp
            refine (HOF.out _ _ (k * n2) (by (try simp only [heap_drew]); repeat (first | (apply laid_at; simp; done) | apply laid_old | (refine laid_go ?_ (by assumption); try simp only [heap_drew]))) (by repeat (first | exact HV5.out | apply DP.drew | apply DP.alloc | (refine DP.go ?_ (by assumption))))).mono ?_
            rintro e w7 ⟨rfl, hb7⟩
            dsimp only
            refine hK.out _ _ (by trivial) (fun hHeld => ?_)
            clear hK K
            try simp only [Act.put, List.setIfInBounds_toArray, List.set_cons_zero, List.set_cons_succ]
            refine take_to (i := 16) (d := some 73) (v := ?_) (l' := #[true, true, true, true, true, true, true, true, true, true, true, true, true, true, true, true, true, false, false, false, false, false, false, false, false, false, false, false, false, false, false, false, false, false, false, false, false, false, false, false, false]) rfl rfl (by kernel_rfl) (by kernel_rfl) (by kernel_rfl) (by kernel_rfl) (fun _ _ _ h => h) (Or.inl ⟨by rfl, ?_⟩) (by assumption) ?_; rotate_left; · (intro w' hSw; (try dsimp only at hSw); go_simp; (try with_reducible rfl))
            try simp only [Act.put, List.setIfInBounds_toArray, List.set_cons_zero, List.set_cons_succ]
            refine take_to (i := 17) (d := some 74) (v := ?_) (l' := #[true, true, true, true, true, true, true, true, true, true, true, true, true, true, true, true, true, true, false, false, false, false, false, false, false, false, false, false, false, false, false, false, false, false, false, false, false, false, false, false, false]) rfl rfl (by kernel_rfl) (by kernel_rfl) (by kernel_rfl) (by kernel_rfl) (fun _ _ _ h => h) (Or.inl ⟨by rfl, ?_⟩) (by assumption) ?_; rotate_left; · (intro w' hSw; (try dsimp only at hSw); go_simp; (try with_reducible rfl))
            try simp only [Act.put, List.setIfInBounds_toArray, List.set_cons_zero, List.set_cons_succ]
            refine take_to (i := 18) (d := some 75) (v := ?_) (l' := #[true, true, true, true, true, true, true, true, true, true, true, true, true, true, true, true, true, true, true, false, false, false, false, false, false, false, false, false, false, false, false, false, false, false, false, false, false, false, false, false, false]) rfl rfl (by kernel_rfl) (by kernel_rfl) (by kernel_rfl) (by kernel_rfl) (fun _ _ _ h => h) (Or.inl ⟨by rfl, ?_⟩) (by assumption) ?_; rotate_left; · (intro w' hSw; (try dsimp only at hSw); go_simp; (try with_reducible rfl))
            try simp only [Act.put, List.setIfInBounds_toArray, List.set_cons_zero, List.set_cons_succ]
            refine take_to (i := 19) (d := some 76) (v := ?_) (l' := #[true, true, true, true, true, true, true, true, true, true, true, true, true, true, true, true, true, true, true, true, false, false, false, false, false, false, false, false, false, false, false, false, false, false, false, false, false, false, false, false, false]) rfl rfl (by kernel_rfl) (by kernel_rfl) (by kernel_rfl) (by kernel_rfl) (fun _ _ _ h => h) (Or.inl ⟨by rfl, ?_⟩) (by assumption) ?_; rotate_left; · (intro w' hSw; (try dsimp only at hSw); go_simp; (try with_reducible rfl))
            try simp only [Act.put, List.setIfInBounds_toArray, List.set_cons_zero, List.set_cons_succ]
            refine take_to (i := 21) (d := some 78) (v := ?_) (l' := #[true, true, true, true, true, true, true, true, true, true, true, true, true, true, true, true, true, true, true, true, false, true, false, false, false, false, false, false, false, false, false, false, false, false, false, false, false, false, false, false, false]) rfl rfl (by kernel_rfl) (by kernel_rfl) (by kernel_rfl) (by kernel_rfl) (fun _ _ _ h => h) (Or.inl ⟨by rfl, ?_⟩) (by assumption) ?_; rotate_left; · (intro w' hSw; (try dsimp only at hSw); go_simp; (try with_reducible rfl))
            try simp only [Act.put, List.setIfInBounds_toArray, List.set_cons_zero, List.set_cons_succ]
            refine take_to (i := 22) (d := some 79) (v := ?_) (l' := #[true, true, true, true, true, true, true, true, true, true, true, true, true, true, true, true, true, true, true, true, false, true, true, false, false, false, false, false, false, false, false, false, false, false, false, false, false, false, false, false, false]) rfl rfl (by kernel_rfl) (by kernel_rfl) (by kernel_rfl) (by kernel_rfl) (fun _ _ _ h => h) (Or.inl ⟨by rfl, ?_⟩) (by assumption) ?_; rotate_left; · (intro w' hSw; (try dsimp only at hSw); go_simp; (try with_reducible rfl))
            try simp only [Act.put, List.setIfInBounds_toArray, List.set_cons_zero, List.set_cons_succ]
            refine take_to (i := 23) (d := some 80) (v := ?_) (l' := #[true, true, true, true, true, true, true, true, true, true, true, true, true, true, true, true, true, true, true, true, false, true, true, true, false, false, false, false, false, false, false, false, false, false, false, false, false, false, false, false, false]) rfl rfl (by kernel_rfl) (by kernel_rfl) (by kernel_rfl) (by kernel_rfl) (fun _ _ _ h => h) (Or.inl ⟨by rfl, ?_⟩) (by assumption) ?_; rotate_left; · (intro w' hSw; (try dsimp only at hSw); go_simp; (try with_reducible rfl))
            try simp only [Act.put, List.setIfInBounds_toArray, List.set_cons_zero, List.set_cons_succ]
            refine two_to (i := 20) (j := 24) (l1 := #[true, true, true, true, true, true, true, true, true, true, true, true, true, true, true, true, true, true, true, true, true, true, true, true, false, false, false, false, false, false, false, false, false, false, false, false, false, false, false, false, false]) (l2 := #[true, true, true, true, true, true, true, true, true, true, true, true, true, true, true, true, true, true, true, true, false, true, true, true, true, false, false, false, false, false, false, false, false, false, false, false, false, false, false, false, false]) rfl rfl (by kernel_rfl) (by kernel_rfl) (by kernel_rfl) (fun K hK => ?_) (fun K hK => ?_)
            · skip
              go_simp
              refine (HTG.out _ (k * n2) (by repeat (first | exact HV5.out | apply DP.drew | apply DP.alloc | (refine DP.go ?_ (by assumption))))).mono ?_
              rintro e w8 ⟨rfl, hb8⟩
              dsimp only
              refine hK.out _ _ (by trivial) (fun hHeld => ?_)
              clear hK K
              try simp only [Act.put, List.setIfInBounds_toArray, List.set_cons_zero, List.set_cons_succ]
              refine one_to (i := 24) (l' := #[true, true, true, true, true, true, true, true, true, true, true, true, true, true, true, true, true, true, true, true, true, true, true, true, true, false, false, false, false, false, false, false, false, false, false, false, false, false, false, false, false]) rfl (by kernel_rfl) (by kernel_rfl) (fun K hK => ?_)
              go_simp
              refine hK.out _ _ (by trivial) (fun hHeld => ?_)
              clear hK K
              try simp only [Act.put, List.setIfInBounds_toArray, List.set_cons_zero, List.set_cons_succ]
              refine one_to (i := 25) (l' := #[true, true, true, true, true, true, true, true, true, true, true, true, true, true, true, true, true, true, true, true, true, true, true, true, true, true, false, false, false, false, false, false, false, false, false, false, false, false, false, false, false]) rfl (by kernel_rfl) (by kernel_rfl) (fun K hK => ?_)
              go_simp
              refine (HOF.out _ _ (k * n2) (by (try simp only [heap_drew]); repeat (first | (apply laid_at; simp; done) | apply laid_old | (refine laid_go ?_ (by assumption); try simp only [heap_drew]))) (by repeat (first | exact HV5.out | apply DP.drew | apply DP.alloc | (refine DP.go ?_ (by assumption))))).mono ?_
              rintro e w9 ⟨rfl, hb9⟩
              dsimp only
              refine hK.out _ _ (by trivial) (fun hHeld => ?_)
              clear hK K
              try simp only [Act.put, List.setIfInBounds_toArray, List.set_cons_zero, List.set_cons_succ]
              refine take_to (i := 26) (d := some 83) (v := ?_) (l' := #[true, true, true, true, true, true, true, true, true, true, true, true, true, true, true, true, true, true, true, true, true, true, true, true, true, true, true, false, false, false, false, false, false, false, false, false, false, false, false, false, false]) rfl rfl (by kernel_rfl) (by kernel_rfl) (by kernel_rfl) (by kernel_rfl) (fun _ _ _ h => h) (Or.inl ⟨by rfl, ?_⟩) (by assumption) ?_; rotate_left; · (intro w' hSw; (try dsimp only at hSw); go_simp; (try with_reducible rfl))
              try simp only [Act.put, List.setIfInBounds_toArray, List.set_cons_zero, List.set_cons_succ]
              refine take_to (i := 27) (d := some 84) (v := ?_) (l' := #[true, true, true, true, true, true, true, true, true, true, true, true, true, true, true, true, true, true, true, true, true, true, true, true, true, true, true, true, false, false, false, false, false, false, false, false, false, false, false, false, false]) rfl rfl (by kernel_rfl) (by kernel_rfl) (by kernel_rfl) (by kernel_rfl) (fun _ _ _ h => h) (Or.inl ⟨by rfl, ?_⟩) (by assumption) ?_; rotate_left; · (intro w' hSw; (try dsimp only at hSw); go_simp; (try with_reducible rfl))
              try simp only [Act.put, List.setIfInBounds_toArray, List.set_cons_zero, List.set_cons_succ]
              refine take_to (i := 28) (d := some 85) (v := ?_) (l' := #[true, true, true, true, true, true, true, true, true, true, true, true, true, true, true, true, true, true, true, true, true, true, true, true, true, true, true, true, true, false, false, false, false, false, false, false, false, false, false, false, false]) rfl rfl (by kernel_rfl) (by kernel_rfl) (by kernel_rfl) (by kernel_rfl) (fun _ _ _ h => h) (Or.inl ⟨by rfl, ?_⟩) (by assumption) ?_; rotate_left; · (intro w' hSw; (try dsimp only at hSw); go_simp; (try with_reducible rfl))
              try simp only [Act.put, List.setIfInBounds_toArray, List.set_cons_zero, List.set_cons_succ]
              refine take_to (i := 29) (d := some 86) (v := ?_) (l' := #[true, true, true, true, true, true, true, true, true, true, true, true, true, true, true, true, true, true, true, true, true, true, true, true, true, true, true, true, true, true, false, false, false, false, false, false, false, false, false, false, false]) rfl rfl (by kernel_rfl) (by kernel_rfl) (by kernel_rfl) (by kernel_rfl) (fun _ _ _ h => h) (Or.inl ⟨by rfl, ?_⟩) (by assumption) ?_; rotate_left; · (intro w' hSw; (try dsimp only at hSw); go_simp; (try with_reducible rfl))
              try simp only [Act.put, List.setIfInBounds_toArray, List.set_cons_zero, List.set_cons_succ]
              refine take_to (i := 30) (d := some 87) (v := ?_) (l' := #[true, true, true, true, true, true, true, true, true, true, true, true, true, true, true, true, true, true, true, true, true, true, true, true, true, true, true, true, true, true, true, false, false, false, false, false, false, false, false, false, false]) rfl rfl (by kernel_rfl) (by kernel_rfl) (by kernel_rfl) (by kernel_rfl) (fun _ _ _ h => h) (Or.inl ⟨by rfl, ?_⟩) (by assumption) ?_; rotate_left; · (intro w' hSw; (try dsimp only at hSw); go_simp; (try with_reducible rfl))
              try simp only [Act.put, List.setIfInBounds_toArray, List.set_cons_zero, List.set_cons_succ]
              refine one_to (i := 31) (l' := #[true, true, true, true, true, true, true, true, true, true, true, true, true, true, true, true, true, true, true, true, true, true, true, true, true, true, true, true, true, true, true, true, false, false, false, false, false, false, false, false, false]) rfl (by kernel_rfl) (by kernel_rfl) (fun K hK => ?_)
              go_simp
              refine hK.out _ _ (by trivial) (fun hHeld => ?_)
              clear hK K
              try simp only [Act.put, List.setIfInBounds_toArray, List.set_cons_zero, List.set_cons_succ]
              refine one_to (i := 32) (l' := #[true, true, true, true, true, true, true, true, true, true, true, true, true, true, true, true, true, true, true, true, true, true, true, true, true, true, true, true, true, true, true, true, true, false, false, false, false, false, false, false, false]) rfl (by kernel_rfl) (by kernel_rfl) (fun K hK => ?_)
              go_simp
              refine (HWG.out _ _ (by (try simp only [heap_drew]); repeat (first | (apply laid_at; simp; done) | apply laid_old | (refine laid_go ?_ (by assumption); try simp only [heap_drew]))) (by simp) (by repeat (first | exact HV5.out | apply DP.drew | apply DP.alloc | (refine DP.go ?_ (by assumption))))).mono ?_
              rintro e w10 ⟨rfl, hv10⟩; have HV10 := Lib.hid hv10; clear hv10
              dsimp only
              refine hK.out _ _ (by trivial) (fun hHeld => ?_)
              clear hK K
              try simp only [Act.put, List.setIfInBounds_toArray, List.set_cons_zero, List.set_cons_succ]
              refine take_to (i := 33) (d := some 90) (v := ?_) (l' := #[true, true, true, true, true, true, true, true, true, true, true, true, true, true, true, true, true, true, true, true, true, true, true, true, true, true, true, true, true, true, true, true, true, true, false, false, false, false, false, false, false]) rfl rfl (by kernel_rfl) (by kernel_rfl) (by kernel_rfl) (by kernel_rfl) (fun _ _ _ h => h) (Or.inl ⟨by rfl, ?_⟩) (by assumption) ?_; rotate_left; · (intro w' hSw; (try dsimp only at hSw); go_simp; (try with_reducible rfl))
              try simp only [Act.put, List.setIfInBounds_toArray, List.set_cons_zero, List.set_cons_succ]
              refine take_to (i := 34) (d := some 91) (v := ?_) (l' := #[true, true, true, true, true, true, true, true, true, true, true, true, true, true, true, true, true, true, true, true, true, true, true, true, true, true, true, true, true, true, true, true, true, true, true, false, false, false, false, false, false]) rfl rfl (by kernel_rfl) (by kernel_rfl) (by kernel_rfl) (by kernel_rfl) (fun _ _ _ h => h) (Or.inl ⟨by rfl, ?_⟩) (by assumption) ?_; rotate_left; · (intro w' hSw; (try dsimp only at hSw); go_simp; (try with_reducible rfl))
              try simp only [Act.put, List.setIfInBounds_toArray, List.set_cons_zero, List.set_cons_succ]
              refine take_to (i := 35) (d := some 92) (v := ?_) (l' := #[true, true, true, true, true, true, true, true, true, true, true, true, true, true, true, true, true, true, true, true, true, true, true, true, true, true, true, true, true, true, true, true, true, true, true, true, false, false, false, false, false]) rfl rfl (by kernel_rfl) (by kernel_rfl) (by kernel_rfl) (by kernel_rfl) (fun _ _ _ h => h) (Or.inl ⟨by rfl, ?_⟩) (by assumption) ?_; rotate_left; · (intro w' hSw; (try dsimp only at hSw); go_simp; (try with_reducible rfl))
              try simp only [Act.put, List.setIfInBounds_toArray, List.set_cons_zero, List.set_cons_succ]
              refine take_to (i := 36) (d := some 93) (v := ?_) (l' := #[true, true, true, true, true, true, true, true, true, true, true, true, true, true, true, true, true, true, true, true, true, true, true, true, true, true, true, true, true, true, true, true, true, true, true, true, true, false, false, false, false]) rfl rfl (by kernel_rfl) (by kernel_rfl) (by kernel_rfl) (by kernel_rfl) (fun _ _ _ h => h) (Or.inl ⟨by rfl, ?_⟩) (by assumption) ?_; rotate_left; · (intro w' hSw; (try dsimp only at hSw); go_simp; (try with_reducible rfl))
              try simp only [Act.put, List.setIfInBounds_toArray, List.set_cons_zero, List.set_cons_succ]
              refine take_to (i := 38) (d := some 95) (v := ?_) (l' := #[true, true, true, true, true, true, true, true, true, true, true, true, true, true, true, true, true, true, true, true, true, true, true, true, true, true, true, true, true, true, true, true, true, true, true, true, true, false, true, false, false]) rfl rfl (by kernel_rfl) (by kernel_rfl) (by kernel_rfl) (by kernel_rfl) (fun _ _ _ h => h) (Or.inl ⟨by rfl, ?_⟩) (by assumption) ?_; rotate_left; · (intro w' hSw; (try dsimp only at hSw); go_simp; (try with_reducible rfl))
              try simp only [Act.put, List.setIfInBounds_toArray, List.set_cons_zero, List.set_cons_succ]
              refine one_to (i := 37) (l' := #[true, true, true, true, true, true, true, true, true, true, true, true, true, true, true, true, true, true, true, true, true, true, true, true, true, true, true, true, true, true, true, true, true, true, true, true, true, true, true, false, false]) rfl (by kernel_rfl) (by kernel_rfl) (fun K hK => ?_)
              go_simp
              refine ((show DP w.heap.size w hb gb W4.heap.size fb (rept ot n2) s v' (k + 1) XS a2 ((k + 1) * n2) _ from (by repeat (first | exact HV10.out | apply DP.drew | apply DP.alloc | (refine DP.go ?_ (by assumption))))).len).mono ?_
              rintro e w' ⟨rfl, rfl⟩
              dsimp only
              refine hK.out _ _ (by trivial) (fun hHeld => ?_)
              clear hK K
              try simp only [Act.put, List.setIfInBounds_toArray, List.set_cons_zero, List.set_cons_succ]
              refine take_to (i := 39) (d := some 96) (v := ?_) (l' := #[true, true, true, true, true, true, true, true, true, true, true, true, true, true, true, true, true, true, true, true, true, true, true, true, true, true, true, true, true, true, true, true, true, true, true, true, true, true, true, true, false]) rfl rfl (by kernel_rfl) (by kernel_rfl) (by kernel_rfl) (by kernel_rfl) (fun _ _ _ h => h) (Or.inl ⟨by rfl, ?_⟩) (by assumption) ?_; rotate_left; · (intro w' hSw; (try dsimp only at hSw); go_simp; (try with_reducible rfl))
              try simp only [Act.put, List.setIfInBounds_toArray, List.set_cons_zero, List.set_cons_succ]
              refine take_to (i := 40) (d := some 97) (v := ?_) (l' := #[true, true, true, true, true, true, true, true, true, true, true, true, true, true, true, true, true, true, true, true, true, true, true, true, true, true, true, true, true, true, true, true, true, true, true, true, true, true, true, true, true]) rfl rfl (by kernel_rfl) (by kernel_rfl) (by kernel_rfl) (by kernel_rfl) (fun _ _ _ h => h) (Or.inl ⟨by rfl, ?_⟩) (by assumption) ?_; rotate_left; · (intro w' hSw; (try dsimp only at hSw); go_simp; (try with_reducible rfl))
              try simp only [Act.put, List.setIfInBounds_toArray, List.set_cons_zero, List.set_cons_succ]
              refine wpAnyH_done (by kernel_rfl) ?_ _
              refine NoPanic.normal ?_
              have HV11 := Lib.hid (show DP w.heap.size w hb gb W4.heap.size fb (rept ot n2) s v' (k + 1) (slicesOf (upd P k ps) (upd ln k q) (upd C k (c - a)) (k + 1)) a2 ((k + 1) * n2) _ by rw [← slicesOf_more, ← HXS.out]; exact HV10.out)
              clear hHeld hneq hgd HWH HWG HTG HOF HV13 HV5 HV10
              clear hsl hst s1
              go_wp2
              go_roundw
              case rel => exact ⟨k + 1, a2, _, _, _, by omega, by go_num, rfl, ln2, HAPP.out, HV11.out⟩
              case measure => simp [intOf]; omega
            · skip
              go_simp
              refine hK.out _ _ (by trivial) (fun hHeld => ?_)
              clear hK K
              try simp only [Act.put, List.setIfInBounds_toArray, List.set_cons_zero, List.set_cons_succ]
              refine one_to (i := 20) (l' := #[true, true, true, true, true, true, true, true, true, true, true, true, true, true, true, true, true, true, true, true, true, true, true, true, true, false, false, false, false, false, false, false, false, false, false, false, false, false, false, false, false]) rfl (by kernel_rfl) (by kernel_rfl) (fun K hK => ?_)
              go_simp
              refine (HTG.out _ (k * n2) (by repeat (first | exact HV5.out | apply DP.drew | apply DP.alloc | (refine DP.go ?_ (by assumption))))).mono ?_
              rintro e w8 ⟨rfl, hb8⟩
              dsimp only
              refine hK.out _ _ (by trivial) (fun hHeld => ?_)
              clear hK K
              try simp only [Act.put, List.setIfInBounds_toArray, List.set_cons_zero, List.set_cons_succ]
              refine one_to (i := 25) (l' := #[true, true, true, true, true, true, true, true, true, true, true, true, true, true, true, true, true, true, true, true, true, true, true, true, true, true, false, false, false, false, false, false, false, false, false, false, false, false, false, false, false]) rfl (by kernel_rfl) (by kernel_rfl) (fun K hK => ?_)
              go_simp
              refine (HOF.out _ _ (k * n2) (by (try simp only [heap_drew]); repeat (first | (apply laid_at; simp; done) | apply laid_old | (refine laid_go ?_ (by assumption); try simp only [heap_drew]))) (by repeat (first | exact HV5.out | apply DP.drew | apply DP.alloc | (refine DP.go ?_ (by assumption))))).mono ?_
              rintro e w9 ⟨rfl, hb9⟩
              dsimp only
              refine hK.out _ _ (by trivial) (fun hHeld => ?_)
              clear hK K
              try simp only [Act.put, List.setIfInBounds_toArray, List.set_cons_zero, List.set_cons_succ]
              refine take_to (i := 26) (d := some 83) (v := ?_) (l' := #[true, true, true, true, true, true, true, true, true, true, true, true, true, true, true, true, true, true, true, true, true, true, true, true, true, true, true, false, false, false, false, false, false, false, false, false, false, false, false, false, false]) rfl rfl (by kernel_rfl) (by kernel_rfl) (by kernel_rfl) (by kernel_rfl) (fun _ _ _ h => h) (Or.inl ⟨by rfl, ?_⟩) (by assumption) ?_; rotate_left; · (intro w' hSw; (try dsimp only at hSw); go_simp; (try with_reducible rfl))
              try simp only [Act.put, List.setIfInBounds_toArray, List.set_cons_zero, List.set_cons_succ]
              refine take_to (i := 27) (d := some 84) (v := ?_) (l' := #[true, true, true, true, true, true, true, true, true, true, true, true, true, true, true, true, true, true, true, true, true, true, true, true, true, true, true, true, false, false, false, false, false, false, false, false, false, false, false, false, false]) rfl rfl (by kernel_rfl) (by kernel_rfl) (by kernel_rfl) (by kernel_rfl) (fun _ _ _ h => h) (Or.inl ⟨by rfl, ?_⟩) (by assumption) ?_; rotate_left; · (intro w' hSw; (try dsimp only at hSw); go_simp; (try with_reducible rfl))
              try simp only [Act.put, List.setIfInBounds_toArray, List.set_cons_zero, List.set_cons_succ]
              refine take_to (i := 28) (d := some 85) (v := ?_) (l' := #[true, true, true, true, true, true, true, true, true, true, true, true, true, true, true, true, true, true, true, true, true, true, true, true, true, true, true, true, true, false, false, false, false, false, false, false, false, false, false, false, false]) rfl rfl (by kernel_rfl) (by kernel_rfl) (by kernel_rfl) (by kernel_rfl) (fun _ _ _ h => h) (Or.inl ⟨by rfl, ?_⟩) (by assumption) ?_; rotate_left; · (intro w' hSw; (try dsimp only at hSw); go_simp; (try with_reducible rfl))
              try simp only [Act.put, List.setIfInBounds_toArray, List.set_cons_zero, List.set_cons_succ]
              refine take_to (i := 29) (d := some 86) (v := ?_) (l' := #[true, true, true, true, true, true, true, true, true, true, true, true, true, true, true, true, true, true, true, true, true, true, true, true, true, true, true, true, true, true, false, false, false, false, false, false, false, false, false, false, false]) rfl rfl (by kernel_rfl) (by kernel_rfl) (by kernel_rfl) (by kernel_rfl) (fun _ _ _ h => h) (Or.inl ⟨by rfl, ?_⟩) (by assumption) ?_; rotate_left; · (intro w' hSw; (try dsimp only at hSw); go_simp; (try with_reducible rfl))
              try simp only [Act.put, List.setIfInBounds_toArray, List.set_cons_zero, List.set_cons_succ]
              refine take_to (i := 30) (d := some 87) (v := ?_) (l' := #[true, true, true, true, true, true, true, true, true, true, true, true, true, true, true, true, true, true, true, true, true, true, true, true, true, true, true, true, true, true, true, false, false, false, false, false, false, false, false, false, false]) rfl rfl (by kernel_rfl) (by kernel_rfl) (by kernel_rfl) (by kernel_rfl) (fun _ _ _ h => h) (Or.inl ⟨by rfl, ?_⟩) (by assumption) ?_; rotate_left; · (intro w' hSw; (try dsimp only at hSw); go_simp; (try with_reducible rfl))
              try simp only [Act.put, List.setIfInBounds_toArray, List.set_cons_zero, List.set_cons_succ]
              refine one_to (i := 31) (l' := #[true, true, true, true, true, true, true, true, true, true, true, true, true, true, true, true, true, true, true, true, true, true, true, true, true, true, true, true, true, true, true, true, false, false, false, false, false, false, false, false, false]) rfl (by kernel_rfl) (by kernel_rfl) (fun K hK => ?_)
              go_simp
              refine hK.out _ _ (by trivial) (fun hHeld => ?_)
              clear hK K
              try simp only [Act.put, List.setIfInBounds_toArray, List.set_cons_zero, List.set_cons_succ]
              refine one_to (i := 32) (l' := #[true, true, true, true, true, true, true, true, true, true, true, true, true, true, true, true, true, true, true, true, true, true, true, true, true, true, true, true, true, true, true, true, true, false, false, false, false, false, false, false, false]) rfl (by kernel_rfl) (by kernel_rfl) (fun K hK => ?_)
              go_simp
              refine (HWG.out _ _ (by (try simp only [heap_drew]); repeat (first | (apply laid_at; simp; done) | apply laid_old | (refine laid_go ?_ (by assumption); try simp only [heap_drew]))) (by simp) (by repeat (first | exact HV5.out | apply DP.drew | apply DP.alloc | (refine DP.go ?_ (by assumption))))).mono ?_
              rintro e w10 ⟨rfl, hv10⟩; have HV10 := Lib.hid hv10; clear hv10
              dsimp only
              refine hK.out _ _ (by trivial) (fun hHeld => ?_)
              clear hK K
              try simp only [Act.put, List.setIfInBounds_toArray, List.set_cons_zero, List.set_cons_succ]
              refine take_to (i := 33) (d := some 90) (v := ?_) (l' := #[true, true, true, true, true, true, true, true, true, true, true, true, true, true, true, true, true, true, true, true, true, true, true, true, true, true, true, true, true, true, true, true, true, true, false, false, false, false, false, false, false]) rfl rfl (by kernel_rfl) (by kernel_rfl) (by kernel_rfl) (by kernel_rfl) (fun _ _ _ h => h) (Or.inl ⟨by rfl, ?_⟩) (by assumption) ?_; rotate_left; · (intro w' hSw; (try dsimp only at hSw); go_simp; (try with_reducible rfl))
              try simp only [Act.put, List.setIfInBounds_toArray, List.set_cons_zero, List.set_cons_succ]
              refine take_to (i := 34) (d := some 91) (v := ?_) (l' := #[true, true, true, true, true, true, true, true, true, true, true, true, true, true, true, true, true, true, true, true, true, true, true, true, true, true, true, true, true, true, true, true, true, true, true, false, false, false, false, false, false]) rfl rfl (by kernel_rfl) (by kernel_rfl) (by kernel_rfl) (by kernel_rfl) (fun _ _ _ h => h) (Or.inl ⟨by rfl, ?_⟩) (by assumption) ?_; rotate_left; · (intro w' hSw; (try dsimp only at hSw); go_simp; (try with_reducible rfl))
              try simp only [Act.put, List.setIfInBounds_toArray, List.set_cons_zero, List.set_cons_succ]
              refine take_to (i := 35) (d := some 92) (v := ?_) (l' := #[true, true, true, true, true, true, true, true, true, true, true, true, true, true, true, true, true, true, true, true, true, true, true, true, true, true, true, true, true, true, true, true, true, true, true, true, false, false, false, false, false]) rfl rfl (by kernel_rfl) (by kernel_rfl) (by kernel_rfl) (by kernel_rfl) (fun _ _ _ h => h) (Or.inl ⟨by rfl, ?_⟩) (by assumption) ?_; rotate_left; · (intro w' hSw; (try dsimp only at hSw); go_simp; (try with_reducible rfl))
              try simp only [Act.put, List.setIfInBounds_toArray, List.set_cons_zero, List.set_cons_succ]
              refine take_to (i := 36) (d := some 93) (v := ?_) (l' := #[true, true, true, true, true, true, true, true, true, true, true, true, true, true, true, true, true, true, true, true, true, true, true, true, true, true, true, true, true, true, true, true, true, true, true, true, true, false, false, false, false]) rfl rfl (by kernel_rfl) (by kernel_rfl) (by kernel_rfl) (by kernel_rfl) (fun _ _ _ h => h) (Or.inl ⟨by rfl, ?_⟩) (by assumption) ?_; rotate_left; · (intro w' hSw; (try dsimp only at hSw); go_simp; (try with_reducible rfl))
              try simp only [Act.put, List.setIfInBounds_toArray, List.set_cons_zero, List.set_cons_succ]
              refine take_to (i := 38) (d := some 95) (v := ?_) (l' := #[true, true, true, true, true, true, true, true, true, true, true, true, true, true, true, true, true, true, true, true, true, true, true, true, true, true, true, true, true, true, true, true, true, true, true, true, true, false, true, false, false]) rfl rfl (by kernel_rfl) (by kernel_rfl) (by kernel_rfl) (by kernel_rfl) (fun _ _ _ h => h) (Or.inl ⟨by rfl, ?_⟩) (by assumption) ?_; rotate_left; · (intro w' hSw; (try dsimp only at hSw); go_simp; (try with_reducible rfl))
              try simp only [Act.put, List.setIfInBounds_toArray, List.set_cons_zero, List.set_cons_succ]
              refine one_to (i := 37) (l' := #[true, true, true, true, true, true, true, true, true, true, true, true, true, true, true, true, true, true, true, true, true, true, true, true, true, true, true, true, true, true, true, true, true, true, true, true, true, true, true, false, false]) rfl (by kernel_rfl) (by kernel_rfl) (fun K hK => ?_)
              go_simp
              refine ((show DP w.heap.size w hb gb W4.heap.size fb (rept ot n2) s v' (k + 1) XS a2 ((k + 1) * n2) _ from (by repeat (first | exact HV10.out | apply DP.drew | apply DP.alloc | (refine DP.go ?_ (by assumption))))).len).mono ?_
              rintro e w' ⟨rfl, rfl⟩
              dsimp only
              refine hK.out _ _ (by trivial) (fun hHeld => ?_)
              clear hK K
              try simp only [Act.put, List.setIfInBounds_toArray, List.set_cons_zero, List.set_cons_succ]
              refine take_to (i := 39) (d := some 96) (v := ?_) (l' := #[true, true, true, true, true, true, true, true, true, true, true, true, true, true, true, true, true, true, true, true, true, true, true, true, true, true, true, true, true, true, true, true, true, true, true, true, true, true, true, true, false]) rfl rfl (by kernel_rfl) (by kernel_rfl) (by kernel_rfl) (by kernel_rfl) (fun _ _ _ h => h) (Or.inl ⟨by rfl, ?_⟩) (by assumption) ?_; rotate_left; · (intro w' hSw; (try dsimp only at hSw); go_simp; (try with_reducible rfl))
              try simp only [Act.put, List.setIfInBounds_toArray, List.set_cons_zero, List.set_cons_succ]
              refine take_to (i := 40) (d := some 97) (v := ?_) (l' := #[true, true, true, true, true, true, true, true, true, true, true, true, true, true, true, true, true, true, true, true, true, true, true, true, true, true, true, true, true, true, true, true, true, true, true, true, true, true, true, true, true]) rfl rfl (by kernel_rfl) (by kernel_rfl) (by kernel_rfl) (by kernel_rfl) (fun _ _ _ h => h) (Or.inl ⟨by rfl, ?_⟩) (by assumption) ?_; rotate_left; · (intro w' hSw; (try dsimp only at hSw); go_simp; (try with_reducible rfl))
              try simp only [Act.put, List.setIfInBounds_toArray, List.set_cons_zero, List.set_cons_succ]
              refine wpAnyH_done (by kernel_rfl) ?_ _
              refine NoPanic.normal ?_
              have HV11 := Lib.hid (show DP w.heap.size w hb gb W4.heap.size fb (rept ot n2) s v' (k + 1) (slicesOf (upd P k ps) (upd ln k q) (upd C k (c - a)) (k + 1)) a2 ((k + 1) * n2) _ by rw [← slicesOf_more, ← HXS.out]; exact HV10.out)
              clear hHeld hneq hgd HWH HWG HTG HOF HV13 HV5 HV10
              clear hsl hst s1
              go_wp2
              go_roundw
              case rel => exact ⟨k + 1, a2, _, _, _, by omega, by go_num, rfl, ln2, HAPP.out, HV11.out⟩
              case measure => simp [intOf]; omega
          · skip
            go_simp
            refine hK.out _ _ (by trivial) (fun hHeld => ?_)
            clear hK K
            try simp only [Act.put, List.setIfInBounds_toArray, List.set_cons_zero, List.set_cons_succ]
            refine one_to (i := 10) (l' := #[true, true, true, true, true, true, true, true, true, true, true, true, true, true, true, false, false, false, false, false, false, false, false, false, false, false, false, false, false, false, false, false, false, false, false, false, false, false, false, false, false]) rfl (by kernel_rfl) (by kernel_rfl) (fun K hK => ?_)
            go_simp
            refine (HTG.out _ (k * n2) (by repeat (first | exact HV5.out | apply DP.drew | apply DP.alloc | (refine DP.go ?_ (by assumption))))).mono ?_
            rintro e w6 ⟨rfl, hb6⟩
            dsimp only
            refine hK.out _ _ (by trivial) (fun hHeld => ?_)
            clear hK K
            try simp only [Act.put, List.setIfInBounds_toArray, List.set_cons_zero, List.set_cons_succ]
            refine one_to (i := 15) (l' := #[true, true, true, true, true, true, true, true, true, true, true, true, true, true, true, true, false, false, false, false, false, false, false, false, false, false, false, false, false, false, false, false, false, false, false, false, false, false, false, false, false]) rfl (by kernel_rfl) (by kernel_rfl) (fun K hK => ?_)
            go_simp
            refine (HOF.out _ _ (k * n2) (by (try simp only [heap_drew]); repeat (first | (apply laid_at; simp; done) | apply laid_old | (refine laid_go ?_ (by assumption); try simp only [heap_drew]))) (by repeat (first | exact HV5.out | apply DP.drew | apply DP.alloc | (refine DP.go ?_ (by assumption))))).mono ?_
            rintro e w7 ⟨rfl, hb7⟩
            dsimp only
            refine hK.out _ _ (by trivial) (fun hHeld => ?_)
            clear hK K
            try simp only [Act.put, List.setIfInBounds_toArray, List.set_cons_zero, List.set_cons_succ]
            refine take_to (i := 16) (d := some 73) (v := ?_) (l' := #[true, true, true, true, true, true, true, true, true, true, true, true, true, true, true, true, true, false, false, false, false, false, false, false, false, false, false, false, false, false, false, false, false, false, false, false, false, false, false, false, false]) rfl rfl (by kernel_rfl) (by kernel_rfl) (by kernel_rfl) (by kernel_rfl) (fun _ _ _ h => h) (Or.inl ⟨by rfl, ?_⟩) (by assumption) ?_; rotate_left; · (intro w' hSw; (try dsimp only at hSw); go_simp; (try with_reducible rfl))
            try simp only [Act.put, List.setIfInBounds_toArray, List.set_cons_zero, List.set_cons_succ]
            refine take_to (i := 17) (d := some 74) (v := ?_) (l' := #[true, true, true, true, true, true, true, true, true, true, true, true, true, true, true, true, true, true, false, false, false, false, false, false, false, false, false, false, false, false, false, false, false, false, false, false, false, false, false, false, false]) rfl rfl (by kernel_rfl) (by kernel_rfl) (by kernel_rfl) (by kernel_rfl) (fun _ _ _ h => h) (Or.inl ⟨by rfl, ?_⟩) (by assumption) ?_; rotate_left; · (intro w' hSw; (try dsimp only at hSw); go_simp; (try with_reducible rfl))
            try simp only [Act.put, List.setIfInBounds_toArray, List.set_cons_zero, List.set_cons_succ]
            refine take_to (i := 18) (d := some 75) (v := ?_) (l' := #[true, true, true, true, true, true, true, true, true, true, true, true, true, true, true, true, true, true, true, false, false, false, false, false, false, false, false, false, false, false, false, false, false, false, false, false, false, false, false, false, false]) rfl rfl (by kernel_rfl) (by kernel_rfl) (by kernel_rfl) (by kernel_rfl) (fun _ _ _ h => h) (Or.inl ⟨by rfl, ?_⟩) (by assumption) ?_; rotate_left; · (intro w' hSw; (try dsimp only at hSw); go_simp; (try with_reducible rfl))
            try simp only [Act.put, List.setIfInBounds_toArray, List.set_cons_zero, List.set_cons_succ]
            refine take_to (i := 19) (d := some 76) (v := ?_) (l' := #[true, true, true, true, true, true, true, true, true, true, true, true, true, true, true, true, true, true, true, true, false, false, false, false, false, false, false, false, false, false, false, false, false, false, false, false, false, false, false, false, false]) rfl rfl (by kernel_rfl) (by kernel_rfl) (by kernel_rfl) (by kernel_rfl) (fun _ _ _ h => h) (Or.inl ⟨by rfl, ?_⟩) (by assumption) ?_; rotate_left; · (intro w' hSw; (try dsimp only at hSw); go_simp; (try with_reducible rfl))
            try simp only [Act.put, List.setIfInBounds_toArray, List.set_cons_zero, List.set_cons_succ]
            refine take_to (i := 21) (d := some 78) (v := ?_) (l' := #[true, true, true, true, true, true, true, true, true, true, true, true, true, true, true, true, true, true, true, true, false, true, false, false, false, false, false, false, false, false, false, false, false, false, false, false, false, false, false, false, false]) rfl rfl (by kernel_rfl) (by kernel_rfl) (by kernel_rfl) (by kernel_rfl) (fun _ _ _ h => h) (Or.inl ⟨by rfl, ?_⟩) (by assumption) ?_; rotate_left; · (intro w' hSw; (try dsimp only at hSw); go_simp; (try with_reducible rfl))
            try simp only [Act.put, List.setIfInBounds_toArray, List.set_cons_zero, List.set_cons_succ]
            refine take_to (i := 22) (d := some 79) (v := ?_) (l' := #[true, true, true, true, true, true, true, true, true, true, true, true, true, true, true, true, true, true, true, true, false, true, true, false, false, false, false, false, false, false, false, false, false, false, false, false, false, false, false, false, false]) rfl rfl (by kernel_rfl) (by kernel_rfl) (by kernel_rfl) (by kernel_rfl) (fun _ _ _ h => h) (Or.inl ⟨by rfl, ?_⟩) (by assumption) ?_; rotate_left; · (intro w' hSw; (try dsimp only at hSw); go_simp; (try with_reducible rfl))
            try simp only [Act.put, List.setIfInBounds_toArray, List.set_cons_zero, List.set_cons_succ]
            refine take_to (i := 23) (d := some 80) (v := ?_) (l' := #[true, true, true, true, true, true, true, true, true, true, true, true, true, true, true, true, true, true, true, true, false, true, true, true, false, false, false, false, false, false, false, false, false, false, false, false, false, false, false, false, false]) rfl rfl (by kernel_rfl) (by kernel_rfl) (by kernel_rfl) (by kernel_rfl) (fun _ _ _ h => h) (Or.inl ⟨by rfl, ?_⟩) (by assumption) ?_; rotate_left; · (intro w' hSw; (try dsimp only at hSw); go_simp; (try with_reducible rfl))
            try simp only [Act.put, List.setIfInBounds_toArray, List.set_cons_zero, List.set_cons_succ]
            refine two_to (i := 20) (j := 24) (l1 := #[true, true, true, true, true, true, true, true, true, true, true, true, true, true, true, true, true, true, true, true, true, true, true, true, false, false, false, false, false, false, false, false, false, false, false, false, false, false, false, false, false]) (l2 := #[true, true, true, true, true, true, true, true, true, true, true, true, true, true, true, true, true, true, true, true, false, true, true, true, true, false, false, false, false, false, false, false, false, false, false, false, false, false, false, false, false]) rfl rfl (by kernel_rfl) (by kernel_rfl) (by kernel_rfl) (fun K hK => ?_) (fun K hK => ?_)
            · skip
              go_simp
              refine (HTG.out _ (k * n2) (by repeat (first | exact HV5.out | apply DP.drew | apply DP.alloc | (refine DP.go ?_ (by assumption))))).mono ?_
              rintro e w8 ⟨rfl, hb8⟩
              dsimp only
              refine hK.out _ _ (by trivial) (fun hHeld => ?_)
              clear hK K
              try simp only [Act.put, List.setIfInBounds_toArray, List.set_cons_zero, List.set_cons_succ]
              refine one_to (i := 24) (l' := #[true, true, true, true, true, true, true, true, true, true, true, true, true, true, true, true, true, true, true, true, true, true, true, true, true, false, false, false, false, false, false, false, false, false, false, false, false, false, false, false, false]) rfl (by kernel_rfl) (by kernel_rfl) (fun K hK => ?_)
              go_simp
              refine hK.out _ _ (by trivial) (fun hHeld => ?_)
              clear hK K
              try simp only [Act.put, List.setIfInBounds_toArray, List.set_cons_zero, List.set_cons_succ]
              refine one_to (i := 25) (l' := #[true, true, true, true, true, true, true, true, true, true, true, true, true, true, true, true, true, true, true, true, true, true, true, true, true, true, false, false, false, false, false, false, false, false, false, false, false, false, false, false, false]) rfl (by kernel_rfl) (by kernel_rfl) (fun K hK => ?_)
              go_simp
              refine (HOF.out _ _ (k * n2) (by (try simp only [heap_drew]); repeat (first | (apply laid_at; simp; done) | apply laid_old | (refine laid_go ?_ (by assumption); try simp only [heap_drew]))) (by repeat (first | exact HV5.out | apply DP.drew | apply DP.alloc | (refine DP.go ?_ (by assumption))))).mono ?_
              rintro e w9 ⟨rfl, hb9⟩
              dsimp only
              refine hK.out _ _ (by trivial) (fun hHeld => ?_)
              clear hK K
              try simp only [Act.put, List.setIfInBounds_toArray, List.set_cons_zero, List.set_cons_succ]
              refine take_to (i := 26) (d := some 83) (v := ?_) (l' := #[true, true, true, true, true, true, true, true, true, true, true, true, true, true, true, true, true, true, true, true, true, true, true, true, true, true, true, false, false, false, false, false, false, false, false, false, false, false, false, false, false]) rfl rfl (by kernel_rfl) (by kernel_rfl) (by kernel_rfl) (by kernel_rfl) (fun _ _ _ h => h) (Or.inl ⟨by rfl, ?_⟩) (by assumption) ?_; rotate_left; · (intro w' hSw; (try dsimp only at hSw); go_simp; (try with_reducible rfl))
              try simp only [Act.put, List.setIfInBounds_toArray, List.set_cons_zero, List.set_cons_succ]
              refine take_to (i := 27) (d := some 84) (v := ?_) (l' := #[true, true, true, true, true, true, true, true, true, true, true, true, true, true, true, true, true, true, true, true, true, true, true, true, true, true, true, true, false, false, false, false, false, false, false, false, false, false, false, false, false]) rfl rfl (by kernel_rfl) (by kernel_rfl) (by kernel_rfl) (by kernel_rfl) (fun _ _ _ h => h) (Or.inl ⟨by rfl, ?_⟩) (by assumption) ?_; rotate_left; · (intro w' hSw; (try dsimp only at hSw); go_simp; (try with_reducible rfl))
              try simp only [Act.put, List.setIfInBounds_toArray, List.set_cons_zero, List.set_cons_succ]
              refine take_to (i := 28) (d := some 85) (v := ?_) (l' := #[true, true, true, true, true, true, true, true, true, true, true, true, true, true, true, true, true, true, true, true, true, true, true, true, true, true, true, true, true, false, false, false, false, false, false, false, false, false, false, false, false]) rfl rfl (by kernel_rfl) (by kernel_rfl) (by kernel_rfl) (by kernel_rfl) (fun _ _ _ h => h) (Or.inl ⟨by rfl, ?_⟩) (by assumption) ?_; rotate_left; · (intro w' hSw; (try dsimp only at hSw); go_simp; (try with_reducible rfl))
              try simp only [Act.put, List.setIfInBounds_toArray, List.set_cons_zero, List.set_cons_succ]
              refine take_to (i := 29) (d := some 86) (v := ?_) (l' := #[true, true, true, true, true, true, true, true, true, true, true, true, true, true, true, true, true, true, true, true, true, true, true, true, true, true, true, true, true, true, false, false, false, false, false, false, false, false, false, false, false]) rfl rfl (by kernel_rfl) (by kernel_rfl) (by kernel_rfl) (by kernel_rfl) (fun _ _ _ h => h) (Or.inl ⟨by rfl, ?_⟩) (by assumption) ?_; rotate_left; · (intro w' hSw; (try dsimp only at hSw); go_simp; (try with_reducible rfl))
              try simp only [Act.put, List.setIfInBounds_toArray, List.set_cons_zero, List.set_cons_succ]
              refine take_to (i := 30) (d := some 87) (v := ?_) (l' := #[true, true, true, true, true, true, true, true, true, true, true, true, true, true, true, true, true, true, true, true, true, true, true, true, true, true, true, true, true, true, true, false, false, false, false, false, false, false, false, false, false]) rfl rfl (by kernel_rfl) (by kernel_rfl) (by kernel_rfl) (by kernel_rfl) (fun _ _ _ h => h) (Or.inl ⟨by rfl, ?_⟩) (by assumption) ?_; rotate_left; · (intro w' hSw; (try dsimp only at hSw); go_simp; (try with_reducible rfl))
              try simp only [Act.put, List.setIfInBounds_toArray, List.set_cons_zero, List.set_cons_succ]
              refine one_to (i := 31) (l' := #[true, true, true, true, true, true, true, true, true, true, true, true, true, true, true, true, true, true, true, true, true, true, true, true, true, true, true, true, true, true, true, true, false, false, false, false, false, false, false, false, false]) rfl (by kernel_rfl) (by kernel_rfl) (fun K hK => ?_)
              go_simp
              refine hK.out _ _ (by trivial) (fun hHeld => ?_)
              clear hK K
              try simp only [Act.put, List.setIfInBounds_toArray, List.set_cons_zero, List.set_cons_succ]
              refine one_to (i := 32) (l' := #[true, true, true, true, true, true, true, true, true, true, true, true, true, true, true, true, true, true, true, true, true, true, true, true, true, true, true, true, true, true, true, true, true, false, false, false, false, false, false, false, false]) rfl (by kernel_rfl) (by kernel_rfl) (fun K hK => ?_)
              go_simp
              refine (HWG.out _ _ (by (try simp only [heap_drew]); repeat (first | (apply laid_at; simp; done) | apply laid_old | (refine laid_go ?_ (by assumption); try simp only [heap_drew]))) (by simp) (by repeat (first | exact HV5.out | apply DP.drew | apply DP.alloc | (refine DP.go ?_ (by assumption))))).mono ?_
              rintro e w10 ⟨rfl, hv10⟩; have HV10 := Lib.hid hv10; clear hv10
              dsimp only
              refine hK.out _ _ (by trivial) (fun hHeld => ?_)
              clear hK K
              try simp only [Act.put, List.setIfInBounds_toArray, List.set_cons_zero, List.set_cons_succ]
              refine take_to (i := 33) (d := some 90) (v := ?_) (l' := #[true, true, true, true, true, true, true, true, true, true, true, true, true, true, true, true, true, true, true, true, true, true, true, true, true, true, true, true, true, true, true, true, true, true, false, false, false, false, false, false, false]) rfl rfl (by kernel_rfl) (by kernel_rfl) (by kernel_rfl) (by kernel_rfl) (fun _ _ _ h => h) (Or.inl ⟨by rfl, ?_⟩) (by assumption) ?_; rotate_left; · (intro w' hSw; (try dsimp only at hSw); go_simp; (try with_reducible rfl))
              try simp only [Act.put, List.setIfInBounds_toArray, List.set_cons_zero, List.set_cons_succ]
              refine take_to (i := 34) (d := some 91) (v := ?_) (l' := #[true, true, true, true, true, true, true, true, true, true, true, true, true, true, true, true, true, true, true, true, true, true, true, true, true, true, true, true, true, true, true, true, true, true, true, false, false, false, false, false, false]) rfl rfl (by kernel_rfl) (by kernel_rfl) (by kernel_rfl) (by kernel_rfl) (fun _ _ _ h => h) (Or.inl ⟨by rfl, ?_⟩) (by assumption) ?_; rotate_left; · (intro w' hSw; (try dsimp only at hSw); go_simp; (try with_reducible rfl))
              try simp only [Act.put, List.setIfInBounds_toArray, List.set_cons_zero, List.set_cons_succ]
              refine take_to (i := 35) (d := some 92) (v := ?_) (l' := #[true, true, true, true, true, true, true, true, true, true, true, true, true, true, true, true, true, true, true, true, true, true, true, true, true, true, true, true, true, true, true, true, true, true, true, true, false, false, false, false, false]) rfl rfl (by kernel_rfl) (by kernel_rfl) (by kernel_rfl) (by kernel_rfl) (fun _ _ _ h => h) (Or.inl ⟨by rfl, ?_⟩) (by assumption) ?_; rotate_left; · (intro w' hSw; (try dsimp only at hSw); go_simp; (try with_reducible rfl))
              try simp only [Act.put, List.setIfInBounds_toArray, List.set_cons_zero, List.set_cons_succ]
              refine take_to (i := 36) (d := some 93) (v := ?_) (l' := #[true, true, true, true, true, true, true, true, true, true, true, true, true, true, true, true, true, true, true, true, true, true, true, true, true, true, true, true, true, true, true, true, true, true, true, true, true, false, false, false, false]) rfl rfl (by kernel_rfl) (by kernel_rfl) (by kernel_rfl) (by kernel_rfl) (fun _ _ _ h => h) (Or.inl ⟨by rfl, ?_⟩) (by assumption) ?_; rotate_left; · (intro w' hSw; (try dsimp only at hSw); go_simp; (try with_reducible rfl))
              try simp only [Act.put, List.setIfInBounds_toArray, List.set_cons_zero, List.set_cons_succ]
              refine take_to (i := 38) (d := some 95) (v := ?_) (l' := #[true, true, true, true, true, true, true, true, true, true, true, true, true, true, true, true, true, true, true, true, true, true, true, true, true, true, true, true, true, true, true, true, true, true, true, true, true, false, true, false, false]) rfl rfl (by kernel_rfl) (by kernel_rfl) (by kernel_rfl) (by kernel_rfl) (fun _ _ _ h => h) (Or.inl ⟨by rfl, ?_⟩) (by assumption) ?_; rotate_left; · (intro w' hSw; (try dsimp only at hSw); go_simp; (try with_reducible rfl))
              try simp only [Act.put, List.setIfInBounds_toArray, List.set_cons_zero, List.set_cons_succ]
              refine one_to (i := 37) (l' := #[true, true, true, true, true, true, true, true, true, true, true, true, true, true, true, true, true, true, true, true, true, true, true, true, true, true, true, true, true, true, true, true, true, true, true, true, true, true, true, false, false]) rfl (by kernel_rfl) (by kernel_rfl) (fun K hK => ?_)
              go_simp
              refine ((show DP w.heap.size w hb gb W4.heap.size fb (rept ot n2) s v' (k + 1) XS a2 ((k + 1) * n2) _ from (by repeat (first | exact HV10.out | apply DP.drew | apply DP.alloc | (refine DP.go ?_ (by assumption))))).len).mono ?_
              rintro e w' ⟨rfl, rfl⟩
              dsimp only
              refine hK.out _ _ (by trivial) (fun hHeld => ?_)
              clear hK K
              try simp only [Act.put, List.setIfInBounds_toArray, List.set_cons_zero, List.set_cons_succ]
              refine take_to (i := 39) (d := some 96) (v := ?_) (l' := #[true, true, true, true, true, true, true, true, true, true, true, true, true, true, true, true, true, true, true, true, true, true, true, true, true, true, true, true, true, true, true, true, true, true, true, true, true, true, true, true, false]) rfl rfl (by kernel_rfl) (by kernel_rfl) (by kernel_rfl) (by kernel_rfl) (fun _ _ _ h => h) (Or.inl ⟨by rfl, ?_⟩) (by assumption) ?_; rotate_left; · (intro w' hSw; (try dsimp only at hSw); go_simp; (try with_reducible rfl))
              try simp only [Act.put, List.setIfInBounds_toArray, List.set_cons_zero, List.set_cons_succ]
              refine take_to (i := 40) (d := some 97) (v := ?_) (l' := #[true, true, true, true, true, true, true, true, true, true, true, true, true, true, true, true, true, true, true, true, true, true, true, true, true, true, true, true, true, true, true, true, true, true, true, true, true, true, true, true, true]) rfl rfl (by kernel_rfl) (by kernel_rfl) (by kernel_rfl) (by kernel_rfl) (fun _ _ _ h => h) (Or.inl ⟨by rfl, ?_⟩) (by assumption) ?_; rotate_left; · (intro w' hSw; (try dsimp only at hSw); go_simp; (try with_reducible rfl))
              try simp only [Act.put, List.setIfInBounds_toArray, List.set_cons_zero, List.set_cons_succ]
              refine wpAnyH_done (by kernel_rfl) ?_ _
              refine NoPanic.normal ?_
              have HV11 := Lib.hid (show DP w.heap.size w hb gb W4.heap.size fb (rept ot n2) s v' (k + 1) (slicesOf (upd P k ps) (upd ln k q) (upd C k (c - a)) (k + 1)) a2 ((k + 1) * n2) _ by rw [← slicesOf_more, ← HXS.out]; exact HV10.out)
              clear hHeld hneq hgd HWH HWG HTG HOF HV13 HV5 HV10
              clear hsl hst s1
              go_wp2
              go_roundw
              case rel => exact ⟨k + 1, a2, _, _, _, by omega, by go_num, rfl, ln2, HAPP.out, HV11.out⟩
              case measure => simp [intOf]; omega
            · skip
              go_simp
              refine hK.out _ _ (by trivial) (fun hHeld => ?_)
              clear hK K
              try simp only [Act.put, List.setIfInBounds_toArray, List.set_cons_zero, List.set_cons_succ]
              refine one_to (i := 20) (l' := #[true, true, true, true, true, true, true, true, true, true, true, true, true, true, true, true, true, true, true, true, true, true, true, true, true, false, false, false, false, false, false, false, false, false, false, false, false, false, false, false, false]) rfl (by kernel_rfl) (by kernel_rfl) (fun K hK => ?_)
              go_simp
              refine (HTG.out _ (k * n2) (by repeat (first | exact HV5.out | apply DP.drew | apply DP.alloc | (refine DP.go ?_ (by assumption))))).mono ?_
              rintro e w8 ⟨rfl, hb8⟩
              dsimp only
              refine hK.out _ _ (by trivial) (fun hHeld => ?_)
              clear hK K
              try simp only [Act.put, List.setIfInBounds_toArray, List.set_cons_zero, List.set_cons_succ]
              refine one_to (i := 25) (l' := #[true, true, true, true, true, true, true, true, true, true, true, true, true, true, true, true, true, true, true, true, true, true, true, true, true, true, false, false, false, false, false, false, false, false, false, false, false, false, false, false, false]) rfl (by kernel_rfl) (by kernel_rfl) (fun K hK => ?_)
              go_simp
              refine (HOF.out _ _ (k * n2) (by (try simp only [heap_drew]); repeat (first | (apply laid_at; simp; done) | apply laid_old | (refine laid_go ?_ (by assumption); try simp only [heap_drew]))) (by repeat (first | exact HV5.out | apply DP.drew | apply DP.alloc | (refine DP.go ?_ (by assumption))))).mono ?_
              rintro e w9 ⟨rfl, hb9⟩
              dsimp only
              refine hK.out _ _ (by trivial) (fun hHeld => ?_)
              clear hK K
              try simp only [Act.put, List.setIfInBounds_toArray, List.set_cons_zero, List.set_cons_succ]
              refine take_to (i := 26) (d := some 83) (v := ?_) (l' := #[true, true, true, true, true, true, true, true, true, true, true, true, true, true, true, true, true, true, true, true, true, true, true, true, true, true, true, false, false, false, false, false, false, false, false, false, false, false, false, false, false]) rfl rfl (by kernel_rfl) (by kernel_rfl) (by kernel_rfl) (by kernel_rfl) (fun _ _ _ h => h) (Or.inl ⟨by rfl, ?_⟩) (by assumption) ?_; rotate_left; · (intro w' hSw; (try dsimp only at hSw); go_simp; (try with_reducible rfl))
              try simp only [Act.put, List.setIfInBounds_toArray, List.set_cons_zero, List.set_cons_succ]
              refine take_to (i := 27) (d := some 84) (v := ?_) (l' := #[true, true, true, true, true, true, true, true, true, true, true, true, true, true, true, true, true, true, true, true, true, true, true, true, true, true, true, true, false, false, false, false, false, false, false, false, false, false, false, false, false]) rfl rfl (by kernel_rfl) (by kernel_rfl) (by kernel_rfl) (by kernel_rfl) (fun _ _ _ h => h) (Or.inl ⟨by rfl, ?_⟩) (by assumption) ?_; rotate_left; · (intro w' hSw; (try dsimp only at hSw); go_simp; (try with_reducible rfl))
              try simp only [Act.put, List.setIfInBounds_toArray, List.set_cons_zero, List.set_cons_succ]
              refine take_to (i := 28) (d := some 85) (v := ?_) (l' := #[true, true, true, true, true, true, true, true, true, true, true, true, true, true, true, true, true, true, true, true, true, true, true, true, true, true, true, true, true, false, false, false, false, false, false, false, false, false, false, false, false]) rfl rfl (by kernel_rfl) (by kernel_rfl) (by kernel_rfl) (by kernel_rfl) (fun _ _ _ h => h) (Or.inl ⟨by rfl, ?_⟩) (by assumption) ?_; rotate_left; · (intro w' hSw; (try dsimp only at hSw); go_simp; (try with_reducible rfl))
              try simp only [Act.put, List.setIfInBounds_toArray, List.set_cons_zero, List.set_cons_succ]
              refine take_to (i := 29) (d := some 86) (v := ?_) (l' := #[true, true, true, true, true, true, true, true, true, true, true, true, true, true, true, true, true, true, true, true, true, true, true, true, true, true, true, true, true, true, false, false, false, false, false, false, false, false, false, false, false]) rfl rfl (by kernel_rfl) (by kernel_rfl) (by kernel_rfl) (by kernel_rfl) (fun _ _ _ h => h) (Or.inl ⟨by rfl, ?_⟩) (by assumption) ?_; rotate_left; · (intro w' hSw; (try dsimp only at hSw); go_simp; (try with_reducible rfl))
              try simp only [Act.put, List.setIfInBounds_toArray, List.set_cons_zero, List.set_cons_succ]
              refine take_to (i := 30) (d := some 87) (v := ?_) (l' := #[true, true, true, true, true, true, true, true, true, true, true, true, true, true, true, true, true, true, true, true, true, true, true, true, true, true, true, true, true, true, true, false, false, false, false, false, false, false, false, false, false]) rfl rfl (by kernel_rfl) (by kernel_rfl) (by kernel_rfl) (by kernel_rfl) (fun _ _ _ h => h) (Or.inl ⟨by rfl, ?_⟩) (by assumption) ?_; rotate_left; · (intro w' hSw; (try dsimp only at hSw); go_simp; (try with_reducible rfl))
              try simp only [Act.put, List.setIfInBounds_toArray, List.set_cons_zero, List.set_cons_succ]
              refine one_to (i := 31) (l' := #[true, true, true, true, true, true, true, true, true, true, true, true, true, true, true, true, true, true, true, true, true, true, true, true, true, true, true, true, true, true, true, true, false, false, false, false, false, false, false, false, false]) rfl (by kernel_rfl) (by kernel_rfl) (fun K hK => ?_)
              go_simp
              refine hK.out _ _ (by trivial) (fun hHeld => ?_)
              clear hK K
              try simp only [Act.put, List.setIfInBounds_toArray, List.set_cons_zero, List.set_cons_succ]
              refine one_to (i := 32) (l' := #[true, true, true, true, true, true, true, true, true, true, true, true, true, true, true, true, true, true, true, true, true, true, true, true, true, true, true, true, true, true, true, true, true, false, false, false, false, false, false, false, false]) rfl (by kernel_rfl) (by kernel_rfl) (fun K hK => ?_)
              go_simp
              refine (HWG.out _ _ (by (try simp only [heap_drew]); repeat (first | (apply laid_at; simp; done) | apply laid_old | (refine laid_go ?_ (by assumption); try simp only [heap_drew]))) (by simp) (by repeat (first | exact HV5.out | apply DP.drew | apply DP.alloc | (refine DP.go ?_ (by assumption))))).mono ?_
              rintro e w10 ⟨rfl, hv10⟩; have HV10 := Lib.hid hv10; clear hv10
              dsimp only
              refine hK.out _ _ (by trivial) (fun hHeld => ?_)
              clear hK K
              try simp only [Act.put, List.setIfInBounds_toArray, List.set_cons_zero, List.set_cons_succ]
              refine take_to (i := 33) (d := some 90) (v := ?_) (l' := #[true, true, true, true, true, true, true, true, true, true, true, true, true, true, true, true, true, true, true, true, true, true, true, true, true, true, true, true, true, true, true, true, true, true, false, false, false, false, false, false, false]) rfl rfl (by kernel_rfl) (by kernel_rfl) (by kernel_rfl) (by kernel_rfl) (fun _ _ _ h => h) (Or.inl ⟨by rfl, ?_⟩) (by assumption) ?_; rotate_left; · (intro w' hSw; (try dsimp only at hSw); go_simp; (try with_reducible rfl))
              try simp only [Act.put, List.setIfInBounds_toArray, List.set_cons_zero, List.set_cons_succ]
              refine take_to (i := 34) (d := some 91) (v := ?_) (l' := #[true, true, true, true, true, true, true, true, true, true, true, true, true, true, true, true, true, true, true, true, true, true, true, true, true, true, true, true, true, true, true, true, true, true, true, false, false, false, false, false, false]) rfl rfl (by kernel_rfl) (by kernel_rfl) (by kernel_rfl) (by kernel_rfl) (fun _ _ _ h => h) (Or.inl ⟨by rfl, ?_⟩) (by assumption) ?_; rotate_left; · (intro w' hSw; (try dsimp only at hSw); go_simp; (try with_reducible rfl))
              try simp only [Act.put, List.setIfInBounds_toArray, List.set_cons_zero, List.set_cons_succ]
              refine take_to (i := 35) (d := some 92) (v := ?_) (l' := #[true, true, true, true, true, true, true, true, true, true, true, true, true, true, true, true, true, true, true, true, true, true, true, true, true, true, true, true, true, true, true, true, true, true, true, true, false, false, false, false, false]) rfl rfl (by kernel_rfl) (by kernel_rfl) (by kernel_rfl) (by kernel_rfl) (fun _ _ _ h => h) (Or.inl ⟨by rfl, ?_⟩) (by assumption) ?_; rotate_left; · (intro w' hSw; (try dsimp only at hSw); go_simp; (try with_reducible rfl))
              try simp only [Act.put, List.setIfInBounds_toArray, List.set_cons_zero, List.set_cons_succ]
              refine take_to (i := 36) (d := some 93) (v := ?_) (l' := #[true, true, true, true, true, true, true, true, true, true, true, true, true, true, true, true, true, true, true, true, true, true, true, true, true, true, true, true, true, true, true, true, true, true, true, true, true, false, false, false, false]) rfl rfl (by kernel_rfl) (by kernel_rfl) (by kernel_rfl) (by kernel_rfl) (fun _ _ _ h => h) (Or.inl ⟨by rfl, ?_⟩) (by assumption) ?_; rotate_left; · (intro w' hSw; (try dsimp only at hSw); go_simp; (try with_reducible rfl))
              try simp only [Act.put, List.setIfInBounds_toArray, List.set_cons_zero, List.set_cons_succ]
              refine take_to (i := 38) (d := some 95) (v := ?_) (l' := #[true, true, true, true, true, true, true, true, true, true, true, true, true, true, true, true, true, true, true, true, true, true, true, true, true, true, true, true, true, true, true, true, true, true, true, true, true, false, true, false, false]) rfl rfl (by kernel_rfl) (by kernel_rfl) (by kernel_rfl) (by kernel_rfl) (fun _ _ _ h => h) (Or.inl ⟨by rfl, ?_⟩) (by assumption) ?_; rotate_left; · (intro w' hSw; (try dsimp only at hSw); go_simp; (try with_reducible rfl))
              try simp only [Act.put, List.setIfInBounds_toArray, List.set_cons_zero, List.set_cons_succ]
              refine one_to (i := 37) (l' := #[true, true, true, true, true, true, true, true, true, true, true, true, true, true, true, true, true, true, true, true, true, true, true, true, true, true, true, true, true, true, true, true, true, true, true, true, true, true, true, false, false]) rfl (by kernel_rfl) (by kernel_rfl) (fun K hK => ?_)
              go_simp
              refine ((show DP w.heap.size w hb gb W4.heap.size fb (rept ot n2) s v' (k + 1) XS a2 ((k + 1) * n2) _ from (by repeat (first | exact HV10.out | apply DP.drew | apply DP.alloc | (refine DP.go ?_ (by assumption))))).len).mono ?_
              rintro e w' ⟨rfl, rfl⟩
              dsimp only
              refine hK.out _ _ (by trivial) (fun hHeld => ?_)
              clear hK K
              try simp only [Act.put, List.setIfInBounds_toArray, List.set_cons_zero, List.set_cons_succ]
              refine take_to (i := 39) (d := some 96) (v := ?_) (l' := #[true, true, true, true, true, true, true, true, true, true, true, true, true, true, true, true, true, true, true, true, true, true, true, true, true, true, true, true, true, true, true, true, true, true, true, true, true, true, true, true, false]) rfl rfl (by kernel_rfl) (by kernel_rfl) (by kernel_rfl) (by kernel_rfl) (fun _ _ _ h => h) (Or.inl ⟨by rfl, ?_⟩) (by assumption) ?_; rotate_left; · (intro w' hSw; (try dsimp only at hSw); go_simp; (try with_reducible rfl))
              try simp only [Act.put, List.setIfInBounds_toArray, List.set_cons_zero, List.set_cons_succ]
              refine take_to (i := 40) (d := some 97) (v := ?_) (l' := #[true, true, true, true, true, true, true, true, true, true, true, true, true, true, true, true, true, true, true, true, true, true, true, true, true, true, true, true, true, true, true, true, true, true, true, true, true, true, true, true, true]) rfl rfl (by kernel_rfl) (by kernel_rfl) (by kernel_rfl) (by kernel_rfl) (fun _ _ _ h => h) (Or.inl ⟨by rfl, ?_⟩) (by assumption) ?_; rotate_left; · (intro w' hSw; (try dsimp only at hSw); go_simp; (try with_reducible rfl))
              try simp only [Act.put, List.setIfInBounds_toArray, List.set_cons_zero, List.set_cons_succ]
              refine wpAnyH_done (by kernel_rfl) ?_ _
              refine NoPanic.normal ?_
              have HV11 := Lib.hid (show DP w.heap.size w hb gb W4.heap.size fb (rept ot n2) s v' (k + 1) (slicesOf (upd P k ps) (upd ln k q) (upd C k (c - a)) (k + 1)) a2 ((k + 1) * n2) _ by rw [← slicesOf_more, ← HXS.out]; exact HV10.out)
              clear hHeld hneq hgd HWH HWG HTG HOF HV13 HV5 HV10
              clear hsl hst s1
              go_wp2
              go_roundw
              case rel => exact ⟨k + 1, a2, _, _, _, by omega, by go_num, rfl, ln2, HAPP.out, HV11.out⟩
              case measure => simp [intOf]; omega
        · obtain rfl : k = m := by omega
          obtain ⟨pf, hsf, hrf⟩ := slice_from p n c a han hc
          have RF := Lib.hid (hrf _ _ _ HR.out)
          have HAP := Lib.hid (hdp.append 22 [.slice pf (n - a) (c - a), .slice none 0 0] (by intro x hx; simp at hx; rcases hx with rfl | rfl <;> rfl) (by simp; omega))
          have HCUT := Lib.hid hcu
          clear hrf hdp hcu
          go_wp2_with (at_builtin; (obtain ⟨v2, W13, hrun, hdp13⟩ := HAP.out; refine Lib.wpList_append_run _ rfl _ _ _ _ rfl _ _ rfl rfl v2 W13 hrun ?_))
          have hxs : slicesOf P ln C k ++ [.slice pf (n - a) (c - a), .slice none 0 0] = slicesOf (upd (upd P k pf) (k + 1) none) (upd (upd ln k (n - a)) (k + 1) 0) (upd (upd C k (c - a)) (k + 1) 0) (k + 2) := by
            rw [← slicesOf_more, ← slicesOf_more]; simp
          have hcut2 : CUT w fb (k + 2) n (upd (upd P k pf) (k + 1) none) (upd (upd ln k (n - a)) (k + 1) 0) (upd (upd C k (c - a)) (k + 1) 0) := by
            have h1 := HCUT.out.more (n := n - a) (c := c - a) ⟨by omega, by have := M48.out; omega⟩ RF.out
            have h2 := h1.more (n := 0) (c := 0) (p := none) ⟨Nat.le_refl _, by decide⟩ (.inl rfl)
            rw [show a + (n - a) + 0 = n by omega] at h2
            exact h2
          generalize upd (upd P k pf) (k + 1) none = P' at hxs hcut2
          generalize upd (upd ln k (n - a)) (k + 1) 0 = ln' at hxs hcut2
          generalize upd (upd C k (c - a)) (k + 1) 0 = C' at hxs hcut2
          rw [hxs] at hdp13
          obtain ⟨pv, cv, rfl, hrv, hcv, hmv⟩ := owns_reads hdp13.own
          obtain ⟨XS2, hXS⟩ : ∃ XS, XS = slicesOf P' ln' C' (k + 2) := ⟨_, rfl⟩
          have hdp14 : DP w.heap.size w hb gb W4.heap.size fb (rept ot n2) s (.slice pv (k + 2 : Nat) cv) (k + 2) XS2 a (k * n2) W13 := by rw [hXS]; exact hdp13
          have HV17 := Lib.hid hdp14
          have HXS := Lib.hid hXS
          have HC2 := Lib.hid hcut2
          clear hrun hdp13 hdp14 HAP hxs hcut2 hXS hrv HCUT
          obtain ⟨TS, hTS⟩ : ∃ TS, TS = tagV s := ⟨_, rfl⟩
          have heq : ∀ w, (binOp .eql 32 TS TS).run Tryd.prog w = .ok (.bool true) w := by rw [hTS]; exact eql_tag _
          have hgd : ∀ op x y w, (eqGuard op 32 x y TS TS).run Tryd.prog w = .ok () w := by rw [hTS]; exact guard_tag _ _
          have HTS := Lib.hid hTS
          clear hTS
          have HW2 := Lib.hid (show ∀ (W : World) (H : Nat), W.heap[H]? = some (.cells #[.slice pf (n - a) (c - a), .slice none 0 0] 27 (0, 0)) → W.heap.size ≤ H + 1 → DP w.heap.size w hb gb W4.heap.size fb (rept ot n2) s (.slice pv (k + 2 : Nat) cv) (k + 2) XS2 a (k * n2) W →
              Calls Tryd.prog 14 #[.pointer (some ⟨hb, 0, none⟩), .slice (some ⟨H, 0, none⟩) 2 2] W fun e w' => e = .returned (.int .i64 0) ∧ DP w.heap.size w hb gb W4.heap.size fb (rept ot n2) s (.slice pv (k + 2 : Nat) cv) (k + 2) XS2 n (k * n2) w' from fun W H hW hH hV =>
            (write2 w.heap.size W hb H a (n - a) (c - a) 0 0 pf none 27 fb hV.kc hV.ap.1 hV.h hW (by have h1 := hV.ap; have h2 := hV.tag.lt; omega) (by omega) (by have := M48.out; omega) (Nat.le_refl _) (by decide) ((RF.out.below hV.bel).rx hV.ap.1 hV.h.lt) (.inl rfl) (by omega)).mono fun e w' h => ⟨h.1, by have h2 := hV.wroteH h.2.1 h.2.2; rw [show a + (n - a + 0) = n by omega] at h2; exact h2⟩)
          have HTG := Lib.hid (show ∀ (W : World), DP w.heap.size w hb gb W4.heap.size fb (rept ot n2) s (.slice pv (k + 2 : Nat) cv) (k + 2) XS2 n (k * n2) W →
              Calls Tryd.prog 15 #[.pointer (some ⟨hb, 0, none⟩)] W fun e w' => e = .returned TS ∧ Below W.heap.size W w' from fun W hV => by rw [HTS.out, HS.out]; exact hV.asks (by omega))
          have HOR := Lib.hid (show ∀ (W : World), DP w.heap.size w hb gb W4.heap.size fb (rept ot n2) s (.slice pv (k + 2 : Nat) cv) (k + 2) XS2 n (k * n2) W →
              Calls Tryd.prog 19 #[.slice pv (k + 2 : Nat) cv] W fun e w' => e = .returned TS ∧ Below W.heap.size W w' from fun W hV => by
            have ho := hV.own
            rw [HXS.out] at ho
            have h := of_any w.heap.size W fb pv (k + 2) cv P' ln' C' (fun i j => fb (pos ln' i + j)) hV.kc hV.bel.size ⟨owns_reads' ho, HC2.out.cap, fun i hi => ((HC2.out.row i hi).below hV.bel).mono hV.bel.size⟩ (by omega) (by rw [HC2.out.at_]; omega) (fun i hi j hj => rfl)
            rw [HC2.out.at_, ← HS.out, ← HTS.out] at h
            exact h)
          have HLD := Lib.hid (fun (ops : Array Oper) (o : Oper) (ac : Act) (x : Operand) (h1 : Region.wanted o (yielded ops ac.tmps) = true) (h2 : o.op = .load 32 x) (h3 : ac.eval x = .pointer (some ⟨W4.heap.size, 0, none⟩)) => HTS.out ▸ DP.load (S := fun W => BT W W4.heap.size 32 s) (fun _ h => h) h1 h2 h3)
          go_upto_region 18 with (fail)
          refine wp_region_noPanic ?_
          refine wp_region_start (n := 33) (l := #[false, false, false, false, false, false, false, false, false, false, false, false, false, false, false, false, false, false, false, false, false, false, false, false, false, false, false, false, false, false, false, false, false]) (S := (fun W => BT W W4.heap.size 32 s)) (by kernel_rfl) rfl (by kernel_rfl) (by (refine DP.tag (?_ : DP w.heap.size w hb gb W4.heap.size fb (rept ot n2) s (.slice pv (k + 2 : Nat) cv) (k + 2) XS2 a (k * n2) _); repeat (first | exact HV17.out | apply DP.drew | apply DP.alloc | (refine DP.go ?_ (by assumption))))) (fun hHeld => ?_)
          refine take_to (i := 0) (d := some 105) (v := ?_) (l' := #[true, false, false, false, false, false, false, false, false, false, false, false, false, false, false, false, false, false, false, false, false, false, false, false, false, false, false, false, false, false, false, false, false]) rfl rfl (by kernel_rfl) (by kernel_rfl) (by kernel_rfl) (by kernel_rfl) (fun _ _ _ h => h) (Or.inl ⟨by rfl, ?_⟩) (by assumption) ?_; rotate_left; · (intro w' hSw; (try dsimp only at hSw); go_simp; (try with_reducible rfl))
          try simp only [Act.put, List.setIfInBounds_toArray, List.set_cons_zero, List.set_cons_succ]
          refine take_to (i := 1) (d := some 106) (v := ?_) (l' := #[true, true, false, false, false, false, false, false, false, false, false, false, false, false, false, false, false, false, false, false, false, false, false, false, false, false, false, false, false, false, false, false, false]) rfl rfl (by kernel_rfl) (by kernel_rfl) (by kernel_rfl) (by kernel_rfl) (fun _ _ _ h => h) (Or.inl ⟨by rfl, ?_⟩) (by assumption) ?_; rotate_left; · (intro w' hSw; (try dsimp only at hSw); go_simp; (try with_reducible rfl))
          try simp only [Act.put, List.setIfInBounds_toArray, List.set_cons_zero, List.set_cons_succ]
          refine take_to (i := 2) (d := some 107) (v := ?_) (l' := #[true, true, true, false, false, false, false, false, false, false, false, false, false, false, false, false, false, false, false, false, false, false, false, false, false, false, false, false, false, false, false, false, false]) rfl rfl (by kernel_rfl) (by kernel_rfl) (by kernel_rfl) (by kernel_rfl) (fun _ _ _ h => h) (Or.inl ⟨by rfl, ?_⟩) (by assumption) ?_; rotate_left; · (intro w' hSw; (try dsimp only at hSw); go_simp; (try with_reducible rfl))
          try simp only [Act.put, List.setIfInBounds_toArray, List.set_cons_zero, List.set_cons_succ]
          refine take_to (i := 3) (d := some 108) (v := ?_) (l' := #[true, true, true, true, false, false, false, false, false, false, false, false, false, false, false, false, false, false, false, false, false, false, false, false, false, false, false, false, false, false, false, false, false]) rfl rfl (by kernel_rfl) (by kernel_rfl) (by kernel_rfl) (by kernel_rfl) (fun _ _ _ h => h) (Or.inl ⟨by rfl, ?_⟩) (by assumption) ?_; rotate_left; · (intro w' hSw; (try dsimp only at hSw); go_simp; (try with_reducible rfl))
          try simp only [Act.put, List.setIfInBounds_toArray, List.set_cons_zero, List.set_cons_succ]
          refine one_to (i := 4) (l' := #[true, true, true, true, true, false, false, false, false, false, false, false, false, false, false, false, false, false, false, false, false, false, false, false, false, false, false, false, false, false, false, false, false]) rfl (by kernel_rfl) (by kernel_rfl) (fun K hK => ?_)
          go_simp
          refine hK.out _ _ (by (refine DP.tag (?_ : DP w.heap.size w hb gb W4.heap.size fb (rept ot n2) s (.slice pv (k + 2 : Nat) cv) (k + 2) XS2 a (k * n2) _); repeat (first | exact HV17.out | apply DP.drew | apply DP.alloc | (refine DP.go ?_ (by assumption))))) (fun hHeld => ?_)
          clear hK K
          try simp only [Act.put, List.setIfInBounds_toArray, List.set_cons_zero, List.set_cons_succ]
          refine one_to (i := 5) (l' := #[true, true, true, true, true, true, false, false, false, false, false, false, false, false, false, false, false, false, false, false, false, false, false, false, false, false, false, false, false, false, false, false, false]) rfl (by kernel_rfl) (by kernel_rfl) (fun K hK => ?_)
          go_simp
          refine (HW2.out _ _ (by (try simp only [heap_drew]); repeat (first | (apply laid_at; simp; done) | apply laid_old | (refine laid_go ?_ (by assumption); try simp only [heap_drew]))) (by simp) (by repeat (first | exact HV17.out | apply DP.drew | apply DP.alloc | (refine DP.go ?_ (by assumption))))).mono ?_
          rintro e w5 ⟨rfl, hv5⟩; have HV18 := Lib.hid hv5; clear hv5
          dsimp only
          refine hK.out _ _ (by (refine DP.tag (?_ : DP w.heap.size w hb gb W4.heap.size fb (rept ot n2) s (.slice pv (k + 2 : Nat) cv) (k + 2) XS2 n (k * n2) _); repeat (first | exact HV18.out | apply DP.drew | apply DP.alloc | (refine DP.go ?_ (by assumption))))) (fun hHeld => ?_)
          clear hK K
          try simp only [Act.put, List.setIfInBounds_toArray, List.set_cons_zero, List.set_cons_succ]
          refine take_to (i := 6) (d := some 111) (v := ?_) (l' := #[true, true, true, true, true, true, true, false, false, false, false, false, false, false, false, false, false, false, false, false, false, false, false, false, false, false, false, false, false, false, false, false, false]) rfl rfl (by kernel_rfl) (by kernel_rfl) (by kernel_rfl) (by kernel_rfl) (fun _ _ _ h => h) (Or.inl ⟨by rfl, ?_⟩) (by assumption) ?_; rotate_left; · (intro w' hSw; (try dsimp only at hSw); go_simp; (try with_reducible rfl))
          try simp only [Act.put, List.setIfInBounds_toArray, List.set_cons_zero, List.set_cons_succ]
          refine take_to (i := 7) (d := some 112) (v := ?_) (l' := #[true, true, true, true, true, true, true, true, false, false, false, false, false, false, false, false, false, false, false, false, false, false, false, false, false, false, false, false, false, false, false, false, false]) rfl rfl (by kernel_rfl) (by kernel_rfl) (by kernel_rfl) (by kernel_rfl) (fun _ _ _ h => h) (Or.inl ⟨by rfl, ?_⟩) (by assumption) ?_; rotate_left; · (intro w' hSw; (try dsimp only at hSw); go_simp; (try with_reducible rfl))
          try simp only [Act.put, List.setIfInBounds_toArray, List.set_cons_zero, List.set_cons_succ]
          refine take_to (i := 8) (d := some 113) (v := ?_) (l' := #[true, true, true, true, true, true, true, true, true, false, false, false, false, false, false, false, false, false, false, false, false, false, false, false, false, false, false, false, false, false, false, false, false]) rfl rfl (by kernel_rfl) (by kernel_rfl) (by kernel_rfl) (by kernel_rfl) (fun _ _ _ h => h) (Or.inl ⟨by rfl, ?_⟩) (by assumption) ?_; rotate_left; · (intro w' hSw; (try dsimp only at hSw); go_simp; (try with_reducible rfl))
          try simp only [Act.put, List.setIfInBounds_toArray, List.set_cons_zero, List.set_cons_succ]
          refine take_to (i := 10) (d := some 115) (v := TS) (l' := #[true, true, true, true, true, true, true, true, true, false, true, false, false, false, false, false, false, false, false, false, false, false, false, false, false, false, false, false, false, false, false, false, false]) rfl rfl (by kernel_rfl) (by kernel_rfl) (by kernel_rfl) (by kernel_rfl) (fun _ _ _ h => h) ?_ (by assumption) ?_
          · exact HLD.out _ _ _ _ (by rfl) rfl rfl
          try simp only [Act.put, List.setIfInBounds_toArray, List.set_cons_zero, List.set_cons_succ]
          refine one_to (i := 9) (l' := #[true, true, true, true, true, true, true, true, true, true, true, false, false, false, false, false, false, false, false, false, false, false, false, false, false, false, false, false, false, false, false, false, false]) rfl (by kernel_rfl) (by kernel_rfl) (fun K hK => ?_)
          go_simp
          refine (HTG.out _ (by repeat (first | exact HV18.out | apply DP.drew | apply DP.alloc | (refine DP.go ?_ (by assumption))))).mono ?_
          rintro e w6 ⟨rfl, hb6⟩
          dsimp only
          refine hK.out _ _ (by (refine DP.tag (?_ : DP w.heap.size w hb gb W4.heap.size fb (rept ot n2) s (.slice pv (k + 2 : Nat) cv) (k + 2) XS2 n (k * n2) _); repeat (first | exact HV18.out | apply DP.drew | apply DP.alloc | (refine DP.go ?_ (by assumption))))) (fun hHeld => ?_)
          clear hK K
          try simp only [Act.put, List.setIfInBounds_toArray, List.set_cons_zero, List.set_cons_succ]
          refine take_to (i := 11) (d := some 116) (v := ?_) (l' := #[true, true, true, true, true, true, true, true, true, true, true, true, false, false, false, false, false, false, false, false, false, false, false, false, false, false, false, false, false, false, false, false, false]) rfl rfl (by kernel_rfl) (by kernel_rfl) (by kernel_rfl) (by kernel_rfl) (fun _ _ _ h => h) (Or.inl ⟨by rfl, ?_⟩) (by assumption) ?_; rotate_left; · (intro w' hSw; (try dsimp only at hSw); go_simp; (try with_reducible rfl))
          try simp only [Act.put, List.setIfInBounds_toArray, List.set_cons_zero, List.set_cons_succ]
          refine take_to (i := 12) (d := some 117) (v := ?_) (l' := #[true, true, true, true, true, true, true, true, true, true, true, true, true, false, false, false, false, false, false, false, false, false, false, false, false, false, false, false, false, false, false, false, false]) rfl rfl (by kernel_rfl) (by kernel_rfl) (by kernel_rfl) (by kernel_rfl) (fun _ _ _ h => h) (Or.inl ⟨by rfl, ?_⟩) (by assumption) ?_; rotate_left; · (intro w' hSw; (try dsimp only at hSw); go_simp; (try with_reducible rfl))
          try simp only [Act.put, List.setIfInBounds_toArray, List.set_cons_zero, List.set_cons_succ]
          refine take_to (i := 13) (d := some 118) (v := ?_) (l' := #[true, true, true, true, true, true, true, true, true, true, true, true, true, true, false, false, false, false, false, false, false, false, false, false, false, false, false, false, false, false, false, false, false]) rfl rfl (by kernel_rfl) (by kernel_rfl) (by kernel_rfl) (by kernel_rfl) (fun _ _ _ h => h) (Or.inl ⟨by rfl, ?_⟩) (by assumption) ?_; rotate_left; · (intro w' hSw; (try dsimp only at hSw); go_simp; (try with_reducible rfl))
          try simp only [Act.put, List.setIfInBounds_toArray, List.set_cons_zero, List.set_cons_succ]
          refine take_to (i := 14) (d := some 119) (v := ?_) (l' := #[true, true, true, true, true, true, true, true, true, true, true, true, true, true, true, false, false, false, false, false, false, false, false, false, false, false, false, false, false, false, false, false, false]) rfl rfl (by kernel_rfl) (by kernel_rfl) (by kernel_rfl) (by kernel_rfl) (fun _ _ _ h => h) (Or.inl ⟨by rfl, ?_⟩) (by assumption) ?_; rotate_left; · (intro w' hSw; (try dsimp only at hSw); go_simp; (try with_reducible rfl))
          try simp only [Act.put, List.setIfInBounds_toArray, List.set_cons_zero, List.set_cons_succ]
          refine take_to (i := 16) (d := some 121) (v := TS) (l' := #[true, true, true, true, true, true, true, true, true, true, true, true, true, true, true, false, true, false, false, false, false, false, false, false, false, false, false, false, false, false, false, false, false]) rfl rfl (by kernel_rfl) (by kernel_rfl) (by kernel_rfl) (by kernel_rfl) (fun _ _ _ h => h) ?_ (by assumption) ?_
          · exact HLD.out _ _ _ _ (by rfl) rfl rfl
          try simp only [Act.put, List.setIfInBounds_toArray, List.set_cons_zero, List.set_cons_succ]
          refine one_to (i := 15) (l' := #[true, true, true, true, true, true, true, true, true, true, true, true, true, true, true, true, true, false, false, false, false, false, false, false, false, false, false, false, false, false, false, false, false]) rfl (by kernel_rfl) (by kernel_rfl) (fun K hK => ?_)
          go_simp
          refine (HOR.out _ (by repeat (first | exact HV18.out | apply DP.drew | apply DP.alloc | (refine DP.go ?_ (by assumption))))).mono ?_
          rintro e w7 ⟨rfl, hb7⟩
          dsimp only
          refine hK.out _ _ (by (refine DP.tag (?_ : DP w.heap.size w hb gb W4.heap.size fb (rept ot n2) s (.slice pv (k + 2 : Nat) cv) (k + 2) XS2 n (k * n2) _); repeat (first | exact HV18.out | apply DP.drew | apply DP.alloc | (refine DP.go ?_ (by assumption))))) (fun hHeld => ?_)
          clear hK K
          try simp only [Act.put, List.setIfInBounds_toArray, List.set_cons_zero, List.set_cons_succ]
          refine take_to (i := 17) (d := some 122) (v := ?_) (l' := #[true, true, true, true, true, true, true, true, true, true, true, true, true, true, true, true, true, true, false, false, false, false, false, false, false, false, false, false, false, false, false, false, false]) rfl rfl (by kernel_rfl) (by kernel_rfl) (by kernel_rfl) (by kernel_rfl) (fun _ _ _ h => h) (Or.inl ⟨by rfl, ?_⟩) (by assumption) ?_; rotate_left; · (intro w' hSw; (try dsimp only at hSw); go_simp; (try with_reducible rfl))
          try simp only [Act.put, List.setIfInBounds_toArray, List.set_cons_zero, List.set_cons_succ]
          refine take_to (i := 18) (d := some 123) (v := ?_) (l' := #[true, true, true, true, true, true, true, true, true, true, true, true, true, true, true, true, true, true, true, false, false, false, false, false, false, false, false, false, false, false, false, false, false]) rfl rfl (by kernel_rfl) (by kernel_rfl) (by kernel_rfl) (by kernel_rfl) (fun _ _ _ h => h) (Or.inl ⟨by rfl, ?_⟩) (by assumption) ?_; rotate_left; · (intro w' hSw; (try dsimp only at hSw); go_simp; (try with_reducible rfl))
          try simp only [Act.put, List.setIfInBounds_toArray, List.set_cons_zero, List.set_cons_succ]
          refine take_to (i := 19) (d := some 124) (v := ?_) (l' := #[true, true, true, true, true, true, true, true, true, true, true, true, true, true, true, true, true, true, true, true, false, false, false, false, false, false, false, false, false, false, false, false, false]) rfl rfl (by kernel_rfl) (by kernel_rfl) (by kernel_rfl) (by kernel_rfl) (fun _ _ _ h => h) (Or.inl ⟨by rfl, ?_⟩) (by assumption) ?_; rotate_left; · (intro w' hSw; (try dsimp only at hSw); go_simp; (try with_reducible rfl))
          try simp only [Act.put, List.setIfInBounds_toArray, List.set_cons_zero, List.set_cons_succ]
          refine take_to (i := 20) (d := some 125) (v := ?_) (l' := #[true, true, true, true, true, true, true, true, true, true, true, true, true, true, true, true, true, true, true, true, true, false, false, false, false, false, false, false, false, false, false, false, false]) rfl rfl (by kernel_rfl) (by kernel_rfl) (by kernel_rfl) (by kernel_rfl) (fun _ _ _ h => h) (Or.inl ⟨by rfl, ?_⟩) (by assumption) ?_; rotate_left; · (intro w' hSw; (try dsimp only at hSw); go_simp; (try with_reducible rfl))
          try simp only [Act.put, List.setIfInBounds_toArray, List.set_cons_zero, List.set_cons_succ]
          refine take_to (i := 22) (d := some 127) (v := TS) (l' := #[true, true, true, true, true, true, true, true, true, true, true, true, true, true, true, true, true, true, true, true, true, false, true, false, false, false, false, false, false, false, false, false, false]) rfl rfl (by kernel_rfl) (by kernel_rfl) (by kernel_rfl) (by kernel_rfl) (fun _ _ _ h => h) ?_ (by assumption) ?_
          · exact HLD.out _ _ _ _ (by rfl) rfl rfl
          try simp only [Act.put, List.setIfInBounds_toArray, List.set_cons_zero, List.set_cons_succ]
          refine one_to (i := 21) (l' := #[true, true, true, true, true, true, true, true, true, true, true, true, true, true, true, true, true, true, true, true, true, true, true, false, false, false, false, false, false, false, false, false, false]) rfl (by kernel_rfl) (by kernel_rfl) (fun K hK => ?_)
          go_simp
          refine (HTG.out _ (by repeat (first | exact HV18.out | apply DP.drew | apply DP.alloc | (refine DP.go ?_ (by assumption))))).mono ?_
          rintro e w8 ⟨rfl, hb8⟩
          dsimp only
          refine hK.out _ _ (by (refine DP.tag (?_ : DP w.heap.size w hb gb W4.heap.size fb (rept ot n2) s (.slice pv (k + 2 : Nat) cv) (k + 2) XS2 n (k * n2) _); repeat (first | exact HV18.out | apply DP.drew | apply DP.alloc | (refine DP.go ?_ (by assumption))))) (fun hHeld => ?_)
          clear hK K
          try simp only [Act.put, List.setIfInBounds_toArray, List.set_cons_zero, List.set_cons_succ]
          refine take_to (i := 23) (d := some 128) (v := ?_) (l' := #[true, true, true, true, true, true, true, true, true, true, true, true, true, true, true, true, true, true, true, true, true, true, true, true, false, false, false, false, false, false, false, false, false]) rfl rfl (by kernel_rfl) (by kernel_rfl) (by kernel_rfl) (by kernel_rfl) (fun _ _ _ h => h) (Or.inl ⟨by rfl, ?_⟩) (by assumption) ?_; rotate_left; · (intro w' hSw; (try dsimp only at hSw); go_simp; (try with_reducible rfl))
          try simp only [Act.put, List.setIfInBounds_toArray, List.set_cons_zero, List.set_cons_succ]
          refine take_to (i := 24) (d := some 129) (v := ?_) (l' := #[true, true, true, true, true, true, true, true, true, true, true, true, true, true, true, true, true, true, true, true, true, true, true, true, true, false, false, false, false, false, false, false, false]) rfl rfl (by kernel_rfl) (by kernel_rfl) (by kernel_rfl) (by kernel_rfl) (fun _ _ _ h => h) (Or.inl ⟨by rfl, ?_⟩) (by assumption) ?_; rotate_left; · (intro w' hSw; (try dsimp only at hSw); go_simp; (try with_reducible rfl))
          try simp only [Act.put, List.setIfInBounds_toArray, List.set_cons_zero, List.set_cons_succ]
          refine take_to (i := 25) (d := some 130) (v := ?_) (l' := #[true, true, true, true, true, true, true, true, true, true, true, true, true, true, true, true, true, true, true, true, true, true, true, true, true, true, false, false, false, false, false, false, false]) rfl rfl (by kernel_rfl) (by kernel_rfl) (by kernel_rfl) (by kernel_rfl) (fun _ _ _ h => h) (Or.inl ⟨by rfl, ?_⟩) (by assumption) ?_; rotate_left; · (intro w' hSw; (try dsimp only at hSw); go_simp; (try with_reducible rfl))
          try simp only [Act.put, List.setIfInBounds_toArray, List.set_cons_zero, List.set_cons_succ]
          refine take_to (i := 26) (d := some 131) (v := ?_) (l' := #[true, true, true, true, true, true, true, true, true, true, true, true, true, true, true, true, true, true, true, true, true, true, true, true, true, true, true, false, false, false, false, false, false]) rfl rfl (by kernel_rfl) (by kernel_rfl) (by kernel_rfl) (by kernel_rfl) (fun _ _ _ h => h) (Or.inl ⟨by rfl, ?_⟩) (by assumption) ?_; rotate_left; · (intro w' hSw; (try dsimp only at hSw); go_simp; (try with_reducible rfl))
          try simp only [Act.put, List.setIfInBounds_toArray, List.set_cons_zero, List.set_cons_succ]
          refine take_to (i := 28) (d := some 133) (v := ?_) (l' := #[true, true, true, true, true, true, true, true, true, true, true, true, true, true, true, true, true, true, true, true, true, true, true, true, true, true, true, false, true, false, false, false, false]) rfl rfl (by kernel_rfl) (by kernel_rfl) (by kernel_rfl) (by kernel_rfl) (fun _ _ _ h => h) (Or.inl ⟨by rfl, ?_⟩) (by assumption) ?_; rotate_left; · (intro w' hSw; (try dsimp only at hSw); go_simp; (try with_reducible rfl))
          try simp only [Act.put, List.setIfInBounds_toArray, List.set_cons_zero, List.set_cons_succ]
          refine take_to (i := 29) (d := some 134) (v := ?_) (l' := #[true, true, true, true, true, true, true, true, true, true, true, true, true, true, true, true, true, true, true, true, true, true, true, true, true, true, true, false, true, true, false, false, false]) rfl rfl (by kernel_rfl) (by kernel_rfl) (by kernel_rfl) (by kernel_rfl) (fun _ _ _ h => h) (Or.inl ⟨by rfl, ?_⟩) (by assumption) ?_; rotate_left; · (intro w' hSw; (try dsimp only at hSw); go_simp; (try with_reducible rfl))
          try simp only [Act.put, List.setIfInBounds_toArray, List.set_cons_zero, List.set_cons_succ]
          refine one_to (i := 27) (l' := #[true, true, true, true, true, true, true, true, true, true, true, true, true, true, true, true, true, true, true, true, true, true, true, true, true, true, true, true, true, true, false, false, false]) rfl (by kernel_rfl) (by kernel_rfl) (fun K hK => ?_)
          go_simp
          refine ((show DP w.heap.size w hb gb W4.heap.size fb (rept ot n2) s (.slice pv (k + 2 : Nat) cv) (k + 2) XS2 n (k * n2) _ from (by repeat (first | exact HV18.out | apply DP.drew | apply DP.alloc | (refine DP.go ?_ (by assumption))))).len).mono ?_
          rintro e w' ⟨rfl, rfl⟩
          dsimp only
          refine hK.out _ _ (by (refine DP.tag (?_ : DP w.heap.size w hb gb W4.heap.size fb (rept ot n2) s (.slice pv (k + 2 : Nat) cv) (k + 2) XS2 n (k * n2) _); repeat (first | exact HV18.out | apply DP.drew | apply DP.alloc | (refine DP.go ?_ (by assumption))))) (fun hHeld => ?_)
          clear hK K
          try simp only [Act.put, List.setIfInBounds_toArray, List.set_cons_zero, List.set_cons_succ]
          refine take_to (i := 30) (d := some 135) (v := ?_) (l' := #[true, true, true, true, true, true, true, true, true, true, true, true, true, true, true, true, true, true, true, true, true, true, true, true, true, true, true, true, true, true, true, false, false]) rfl rfl (by kernel_rfl) (by kernel_rfl) (by kernel_rfl) (by kernel_rfl) (fun _ _ _ h => h) (Or.inl ⟨by rfl, ?_⟩) (by assumption) ?_; rotate_left; · (intro w' hSw; (try dsimp only at hSw); go_simp; (try with_reducible rfl))
          try simp only [Act.put, List.setIfInBounds_toArray, List.set_cons_zero, List.set_cons_succ]
          refine take_to (i := 31) (d := some 136) (v := ?_) (l' := #[true, true, true, true, true, true, true, true, true, true, true, true, true, true, true, true, true, true, true, true, true, true, true, true, true, true, true, true, true, true, true, true, false]) rfl rfl (by kernel_rfl) (by kernel_rfl) (by kernel_rfl) (by kernel_rfl) (fun _ _ _ h => h) (Or.inl ⟨by rfl, ?_⟩) (by assumption) ?_; rotate_left; · (intro w' hSw; (try dsimp only at hSw); go_simp; (try with_reducible rfl))
          try simp only [Act.put, List.setIfInBounds_toArray, List.set_cons_zero, List.set_cons_succ]
          refine take_to (i := 32) (d := some 6) (v := ?_) (l' := #[true, true, true, true, true, true, true, true, true, true, true, true, true, true, true, true, true, true, true, true, true, true, true, true, true, true, true, true, true, true, true, true, true]) rfl rfl (by kernel_rfl) (by kernel_rfl) (by kernel_rfl) (by kernel_rfl) (fun _ _ _ h => h) (Or.inl ⟨by rfl, ?_⟩) (by assumption) ?_; rotate_left; · (intro w' hSw; (try dsimp only at hSw); go_simp; (try with_reducible rfl))
          try simp only [Act.put, List.setIfInBounds_toArray, List.set_cons_zero, List.set_cons_succ]
          refine wpAnyH_done (by kernel_rfl) ?_ _
          refine NoPanic.normal ?_
          clear hHeld heq hgd HW2 HTG HOR HLD HV17
          go_wp2
          go_ret
          refine ⟨rfl, DP.bel (?_ : DP w.heap.size w hb gb W4.heap.size fb (rept ot n2) s (.slice pv (k + 2 : Nat) cv) (k + 2) XS2 n (k * n2) _)⟩
          repeat (first | exact HV18.out | apply DP.drew | apply DP.alloc | (refine DP.go ?_ (by assumption)))
end Go.Proofs.YtkheljpkbcodfaaDoor
