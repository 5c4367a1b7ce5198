/-
  Merged: Regs, Refuse.
-/
import Derived.Test.YtoocfkaclhgjeaaDoorLast
import Derived.Test.YtoocfkaclhgjeaaDoorG7

namespace Go.Proofs.YtoocfkaclhgjeaaDoor
open Go.RowKit
set_option linter.unusedSimpArgs false
set_option linter.unusedVariables false
section
variable {P : Program} {ops : Array Oper} {Q : Exit → Act → World → Prop} {md : Region.Mode}
/-- the beginning of a region that draws: nothing is listed -/
theorem wp_region_start {S : World → Prop} {id n : Nat} {l : Array Bool} {a : Act} {w : World} (hm : P.follows .mixedOrders = true) (hsz : ops.size = n) (hl : Array.replicate n false = l) (hS : S w.drew)
    (h : S w.drew → wpAnyH P .any ops Q S n l a w.drew) : (Code.region id ops true).wp P Q a w := by
  subst hsz hl
  exact wp_region_held_drew hm hS h
/-- an operation is taken first; its slot, and what is listed behind it, are named -/
theorem take_to {S : World → Prop} {i : Nat} {oi : Oper} {d : Option Tmp} {v : Value} {fuel : Nat} {listed l' : Array Bool} {a : Act} {w : World} (hi : ops[i]? = some oi) (hd : oi.dst = d)
    (hs : Region.noSelect ops = true) (hf : Region.free md ops listed i = true) (hr : (Region.ready md ops listed).contains i = true) (hl : listed.setIfInBounds i true = l')
    (hQ : ∀ c a w, Q (.panic c) (a.put d v) w → Q (.panic c) a w) (hy : YieldsIf P ops S oi v a) (hS : S w)
    (h : wpAnyH P md ops Q S fuel l' (a.put d v) w) : wpAnyH P md ops Q S (fuel + 1) listed a w := by
  subst hd hl
  exact wpAnyH_take hi hs hf hr hQ hy hS h
/-- one operation alone may come up -/
theorem one_to {S : World → Prop} {i : Nat} {o : Oper} {fuel : Nat} {listed l' : Array Bool} {a : Act} {w : World} (ho : ops[i]? = some o) (hr : Region.ready md ops listed = [i]) (hl : listed.setIfInBounds i true = l')
    (h : ∀ K' : Act → World → Prop, Shut (∀ a w, S w → (S w → wpAnyH P md ops Q S fuel l' a w) → K' a w) → if Region.wanted o (yielded ops a.tmps) = true then Oper.wp P o a w K' Q else K' (a.put o.dst undef) w) : wpAnyH P md ops Q S (fuel + 1) listed a w := by
  subst hl
  exact wpAnyH_ready hr (by simp) (AllReadyH.cons ho h AllReadyH.nil)
/-- two may come up -/
theorem two_to {S : World → Prop} {i j : Nat} {o o2 : Oper} {fuel : Nat} {listed l1 l2 : Array Bool} {a : Act} {w : World} (ho : ops[i]? = some o) (ho2 : ops[j]? = some o2) (hr : Region.ready md ops listed = [i, j]) (hl : listed.setIfInBounds i true = l1) (hl2 : listed.setIfInBounds j true = l2)
    (h : ∀ K' : Act → World → Prop, Shut (∀ a w, S w → (S w → wpAnyH P md ops Q S fuel l1 a w) → K' a w) → if Region.wanted o (yielded ops a.tmps) = true then Oper.wp P o a w K' Q else K' (a.put o.dst undef) w)
    (h2 : ∀ K' : Act → World → Prop, Shut (∀ a w, S w → (S w → wpAnyH P md ops Q S fuel l2 a w) → K' a w) → if Region.wanted o2 (yielded ops a.tmps) = true then Oper.wp P o2 a w K' Q else K' (a.put o2.dst undef) w) : wpAnyH P md ops Q S (fuel + 1) listed a w := by
  subst hl hl2
  exact wpAnyH_ready hr (by simp) (AllReadyH.cons ho h (AllReadyH.cons ho2 h2 AllReadyH.nil))
end
end Go.Proofs.YtoocfkaclhgjeaaDoor

namespace Go.Proofs.YtoocfkaclhgjeaaDoor
open Go.RowKit
set_option linter.unusedSimpArgs false
set_option linter.unusedVariables false

theorem tmod_lo (a n : Int) (hn : 0 < n) : -n < a.tmod n ∧ a.tmod n < n ∧ (0 ≤ a.tmod n ∨ a.tmod n < 0) := by
  have h1 := Int.tmod_lt_of_pos a hn
  have h2 : -n < a.tmod n := by
    have := Int.lt_tmod_of_pos a hn
    omega
  omega
set_option maxHeartbeats 400000 in
theorem pick_any (a n : Int) (w : World) (hn : 0 < n) (hn2 : n ≤ 1000000000) :
    Calls Tryd.prog 15 #[.int .i64 a, .int .i64 n] w fun e w' => (∃ q : Nat, (q : Int) < n ∧ e = .returned (.int .i64 (q : Int))) ∧ w = w' := by
  obtain ⟨h1, h2, _⟩ := tmod_lo a n hn
  by_cases h0 : a.tmod n < 0
  · have s1 : IntKind.i64.wrap (a.tmod n + n) = a.tmod n + n := IntWalk.i64_in _ (by omega)
    go_enter Tryd.func15, Tryd.ntmps15
    go_wp2
    go_ret
    exact ⟨⟨(a.tmod n + n).toNat, by omega, by show Ending.returned (Value.int .i64 (a.tmod n + n)) = _; rw [show (((a.tmod n + n).toNat : Nat) : Int) = a.tmod n + n by omega]⟩, rfl⟩
  · go_enter Tryd.func15, Tryd.ntmps15
    go_wp2
    go_ret
    exact ⟨⟨(a.tmod n).toNat, by omega, by show Ending.returned (Value.int .i64 (a.tmod n)) = _; rw [show (((a.tmod n).toNat : Nat) : Int) = a.tmod n by omega]⟩, rfl⟩
theorem laid_go {W W' : World} {H : Nat} {o : Obj} (h : W.heap[H]? = some o) (b : Below W.heap.size W W') : W'.heap[H]? = some o :=
  (b.block H (Array.getElem?_eq_some_iff.1 h).1).trans h
/-- what stays while a law asks a hasher of the first n0 of g -/
structure RV (B : Nat) (w : World) (hb : Nat) (g : Nat → BitVec 8) (n0 : Nat) (W : World) : Prop where
  hh : HH W hb g n0 (some ⟨hb, 0, none⟩)
  kc : Kc B W
  bel : Below w.heap.size w W
  sz : w.heap.size ≤ W.heap.size
  lo : B ≤ w.heap.size
  hi : w.heap.size ≤ hb
section
variable {B hb n0 : Nat} {w W W' : World} {g : Nat → BitVec 8}
theorem RV.drew (h : RV B w hb g n0 W) : RV B w hb g n0 W.drew := ⟨h.hh.drew, h.kc.below (Below.refl _ _).drew, h.bel.drew, h.sz, h.lo, h.hi⟩
theorem RV.go (h : RV B w hb g n0 W) (b : Below W.heap.size W W') : RV B w hb g n0 W' :=
  ⟨h.hh.below' b, h.kc.below (b.mono (Nat.le_trans h.lo h.sz)), h.bel.trans (b.mono h.sz), Nat.le_trans h.sz b.size, h.lo, h.hi⟩
theorem RV.alloc (h : RV B w hb g n0 W) (o : Obj) : RV B w hb g n0 (W.alloc o) := h.go ((Below.refl _ _).alloc (Nat.le_refl _) o)
theorem RV.wrote {m : Nat} (h : RV B w hb g n0 W) (b : W.grownBy W' (some hb)) (hh : HH W' hb g m (some ⟨hb, 0, none⟩)) : RV B w hb g m W' :=
  ⟨hh, h.kc.below (gr_below b (Nat.le_trans h.lo h.hi) (Nat.le_trans h.lo h.sz)), h.bel.grown b h.sz (by rintro k ⟨⟩; exact h.hi), Nat.le_trans h.sz b.size, h.lo, h.hi⟩
theorem RV.reads {p : Option Addr} {n : Nat} {f : Nat → Value} (h : RV B w hb g n0 W) (r : Reads w.heap.size w p n f) : Reads W.heap.size W p n f := (r.below h.bel).mono h.sz
theorem RV.rx {p : Option Addr} {n : Nat} {f : Nat → Value} (h : RV B w hb g n0 W) (r : Reads w.heap.size w p n f) : RX hb W p n f := (r.below h.bel).rx h.hi h.hh.lt
theorem RV.asks (h : RV B w hb g n0 W) (hn : n0 ≤ 2147483648) :
    Calls Tryd.prog 43 #[.pointer (some ⟨hb, 0, none⟩)] W fun e w' => e = .returned (tagV (sha g n0)) ∧ Below W.heap.size W w' := tagOf_any B W hb g n0 h.kc (Nat.le_trans h.lo h.hi) h.hh hn
end
theorem RV.of1 {B hb n0 H n c : Nat} {w W : World} {g : Nat → BitVec 8} {p : Option Addr} {t : TypeId} (h : RV B w hb g n0 W) (hW : W.heap[H]? = some (.cells #[.slice p n c] t (0, 0))) (hc : n ≤ c) (hm : c ≤ maxLen) (hr : Reads w.heap.size w p n (fun j => .int .u8 (ub (g j)))) (hn : n ≤ 2147483648) :
    Calls Tryd.prog 29 #[.slice (some ⟨H, 0, none⟩) 1 1] W fun e w' => e = .returned (tagV (sha g n)) ∧ Below W.heap.size W w' := Go.Proofs.YtoocfkaclhgjeaaDoor.of1 B W H n c p t g h.kc (Nat.le_trans h.lo h.sz) hW hc hm (h.reads hr) hn
theorem RV.of2 {B hb n0 H n c n2 c2 : Nat} {w W : World} {g : Nat → BitVec 8} {p p2 : Option Addr} {t : TypeId} (h : RV B w hb g n0 W) (hW : W.heap[H]? = some (.cells #[.slice p n c, .slice p2 n2 c2] t (0, 0))) (hc : n ≤ c) (hm : c ≤ maxLen) (hc2 : n2 ≤ c2) (hm2 : c2 ≤ maxLen)
    (hr : Reads w.heap.size w p n (fun j => .int .u8 (ub (g j)))) (hr2 : Reads w.heap.size w p2 n2 (fun j => .int .u8 (ub (g (n + j))))) (hn : n + n2 ≤ 2147483648) :
    Calls Tryd.prog 29 #[.slice (some ⟨H, 0, none⟩) 2 2] W fun e w' => e = .returned (tagV (sha g (n + n2))) ∧ Below W.heap.size W w' := Go.Proofs.YtoocfkaclhgjeaaDoor.of2 B W H n c n2 c2 p p2 t g h.kc (Nat.le_trans h.lo h.sz) hW hc hm hc2 hm2 (h.reads hr) (h.reads hr2) hn
/-- a row of noughts -/
theorem made_row (n : Nat) : ∃ C : Array Value, (∀ i, i < n → C[i]? = some (.int .u8 (ub 0#8))) ∧ ∀ W : World, (Instr.makeSlice 23 (.int .i64 (n : Int)) (.int .i64 (n : Int))).run Tryd.prog W = (if n ≤ 281474976710656 then .ok (.slice (some ⟨W.heap.size, 0, none⟩) n n) (W.alloc (.cells C 5)) else (Instr.makeSlice 23 (.int .i64 (n : Int)) (.int .i64 (n : Int))).run Tryd.prog W) := by
  obtain ⟨i0, hi, hz0, hz1, hz2⟩ := info_parts Tryd.infoB
  refine ⟨madeCells (Value.int .u8 0).cells (n * i0.size), fun i hi2 => ?_, fun W => ?_⟩
  · rw [hz1, Nat.mul_one]
    have h := toList_madeCells_one (.int .u8 0) n
    rw [← Array.getElem?_toList]
    show (madeCells #[Value.int .u8 0] n).toList[i]? = _
    rw [h]; simp [hi2]; rfl
  · by_cases h : n ≤ 281474976710656
    · rw [if_pos h]
      have := run_make (P := Tryd.prog) W 23 5 i0 (.int .u8 0) Tryd.underlying23 hi hz0 .i64 .i64 (n : Int) (n : Int) (by omega) (by omega) (by rw [hz2]; omega) (by omega)
      rw [show ((n : Int)).toNat = n by omega] at this
      exact this
    · rw [if_neg h]
/-- two rows, one behind the other -/
def cat (f : Nat → BitVec 8) (n : Nat) (f2 : Nat → BitVec 8) : Nat → BitVec 8 := fun i => if i < n then f i else f2 (i - n)
theorem cat_lo {f f2 : Nat → BitVec 8} {n i : Nat} (h : i < n) : cat f n f2 i = f i := by unfold cat; rw [if_pos h]
theorem cat_hi {f f2 : Nat → BitVec 8} {n i : Nat} : cat f n f2 (n + i) = f2 i := by unfold cat; rw [if_neg (by omega), show n + i - n = i by omega]

end Go.Proofs.YtoocfkaclhgjeaaDoor
