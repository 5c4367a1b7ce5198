/-
  Merged: SqA, SqR, SqB.
-/
import Derived.Test.YtldepimkbnodpaaDoorSq
import Derived.Deep.Cut
import Derived.Deep.CutRange
import Derived.Deep.RegionWith
import Derived.Deep.RegionHeld3
import Derived.Laws.IdiomStrings

namespace Go.Proofs.YtldepimkbnodpaaDoor
open Go.RowKit
set_option linter.unusedSimpArgs false
set_option linter.unusedVariables false

theorem size_place (w : World) : (sizeOf 77).run Tryd.prog w = .ok 2 w := by
  obtain ⟨i, hi, hz⟩ : ∃ i, Tryd.prog.info? 77 = some i ∧ i.size = 2 := by
    have h := infoPlace
    cases hi : Tryd.prog.info? 77 with
    | none => rw [hi] at h; cases h
    | some i => rw [hi] at h; exact ⟨i, rfl, Option.some.inj h⟩
  simp [sizeOf, typeInfo, hi, hz]
theorem field_place (x y z : Int) (w : World) : (Instr.field 79 (.agg #[.int .i64 x, .int .i64 y, .int .i64 z]) 0).run Tryd.prog w = .ok (.agg #[.int .i64 x, .int .i64 y]) w := by
  simp [Instr.field, asAgg, part, isAgg, run_underlying Tryd.underlying79, run_underlying Tryd.underlying77, size_place]
theorem field_number (x y z : Int) (w : World) : (Instr.field 79 (.agg #[.int .i64 x, .int .i64 y, .int .i64 z]) 1).run Tryd.prog w = .ok (.int .i64 z) w := by
  simp [Instr.field, asAgg, part, isAgg, run_underlying Tryd.underlying79, run_underlying Tryd.underlying3]
theorem field_file (x y : Int) (w : World) : (Instr.field 77 (.agg #[.int .i64 x, .int .i64 y]) 0).run Tryd.prog w = .ok (.int .i64 x) w := by
  simp [Instr.field, asAgg, part, isAgg, run_underlying Tryd.underlying77, run_underlying Tryd.underlying3]
theorem field_rank (x y : Int) (w : World) : (Instr.field 77 (.agg #[.int .i64 x, .int .i64 y]) 1).run Tryd.prog w = .ok (.int .i64 y) w := by
  simp [Instr.field, asAgg, part, isAgg, run_underlying Tryd.underlying77, run_underlying Tryd.underlying3]
attribute [go_sem] field_place field_number field_file field_rank

theorem is_any (s : Int) (w : World) :
    Calls Tryd.prog 39 #[.int .i64 s] w fun e w' => e = .returned (.bool (sq s)) ∧ Below w.heap.size w w' := by
  go_enter Tryd.func39, Tryd.ntmps39
  go_wp2_with fail
  refine (spotOf_any s _).mono ?_
  rintro e w1 ⟨rfl, hb1⟩
  go_wp2_with fail
  refine (onBsq_any s _).mono ?_
  rintro e w2 ⟨rfl, hb2⟩
  go_wp2
  go_ret
  exact ⟨rfl, hb1.trans (hb2.mono hb1.size)⟩
theorem at_any (f r : Int) (w : World) :
    Calls Tryd.prog 52 #[.int .i64 f, .int .i64 r] w fun e w' => e = .returned (.int .i64 (sAt f r)) ∧ Below w.heap.size w w' := by
  have hN : sN (sAt f r) = sAt f r := by
    rcases sAt_cases f r with ⟨_, e⟩ | ⟨h0, h1, h2, h3, _, e⟩
    · rw [e]; rfl
    · rw [e]; exact sN_at h0 h1 h2 h3
  have HN := Lib.hid hN
  clear hN
  go_enter Tryd.func52, Tryd.ntmps52
  go_wp2_with fail
  refine (spotAt_any f r _).mono ?_
  rw [HN.out]
  rintro e w1 ⟨rfl, hb1⟩
  go_wp2
  go_ret
  exact ⟨rfl, hb1⟩
theorem file_any (s : Int) (w : World) :
    Calls Tryd.prog 53 #[.int .i64 s] w fun e w' => e = .returned (.int .i64 (sF s)) ∧ Below w.heap.size w w' := by
  go_enter Tryd.func53, Tryd.ntmps53
  go_wp2_with fail
  refine (spotOf_any s _).mono ?_
  rintro e w1 ⟨rfl, hb1⟩
  go_wp2
  go_ret
  exact ⟨rfl, hb1⟩
theorem rank_any (s : Int) (w : World) :
    Calls Tryd.prog 54 #[.int .i64 s] w fun e w' => e = .returned (.int .i64 (sR s)) ∧ Below w.heap.size w w' := by
  go_enter Tryd.func54, Tryd.ntmps54
  go_wp2_with fail
  refine (spotOf_any s _).mono ?_
  rintro e w1 ⟨rfl, hb1⟩
  go_wp2
  go_ret
  exact ⟨rfl, hb1⟩
theorem stp_sN {s : Int} (a b : Int) : sN (stp s a b) = stp s a b := by
  cases h : (sq s && onB (s % 8 + a) (s / 8 + b))
  · unfold stp; rw [h]; rfl
  · rw [Bool.and_eq_true] at h
    obtain ⟨u0, u1, u2, u3⟩ := (onB_iff _ _).1 h.2
    obtain ⟨v0, v1⟩ := (sq_iff _).1 h.1
    unfold stp
    rw [h.1, h.2]
    simp only [Bool.and_self, if_true]
    unfold sN
    rw [if_pos ((sq_iff _).2 (by omega))]
theorem step_any (s a b : Int) (w : World) (ha : I64 a) (hb : I64 b) :
    Calls Tryd.prog 75 #[.int .i64 s, .int .i64 a, .int .i64 b] w fun e w' => e = .returned (.int .i64 (stp s a b)) ∧ Below w.heap.size w w' := by
  have HN := Lib.hid (stp_sN (s := s) a b)
  go_enter Tryd.func75, Tryd.ntmps75
  go_wp2_with fail
  refine (spotOf_any s _).mono ?_
  rintro e w1 ⟨rfl, hb1⟩
  go_wp2_with fail
  refine (next_any s a b _ ha hb).mono ?_
  rw [HN.out]
  rintro e w2 ⟨rfl, hb2⟩
  go_wp2
  go_ret
  exact ⟨rfl, hb1.trans (hb2.mono hb1.size)⟩
end Go.Proofs.YtldepimkbnodpaaDoor

namespace Go.Proofs.YtldepimkbnodpaaDoor
open Go.RowKit
set_option linter.unusedSimpArgs false
set_option linter.unusedVariables false
section
variable {P : Program} {ops : Array Oper} {Q : Exit → Act → World → Prop} {md : Region.Mode}
/-- the beginning of a region that draws: nothing is listed -/
theorem wp_region_start {S : World → Prop} {id n : Nat} {l : Array Bool} {a : Act} {w : World} (hm : P.follows .mixedOrders = true) (hsz : ops.size = n) (hl : Array.replicate n false = l) (hS : S w.drew)
    (h : S w.drew → wpAnyH P .any ops Q S n l a w.drew) : (Code.region id ops true).wp P Q a w := by
  subst hsz hl
  exact wp_region_held_drew hm hS h
/-- an operation is taken first; its slot, and what is listed behind it, are named -/
theorem take_to {S : World → Prop} {i : Nat} {oi : Oper} {d : Option Tmp} {v : Value} {fuel : Nat} {listed l' : Array Bool} {a : Act} {w : World} (hi : ops[i]? = some oi) (hd : oi.dst = d)
    (hs : Region.noSelect ops = true) (hf : Region.free md ops listed i = true) (hr : (Region.ready md ops listed).contains i = true) (hl : listed.setIfInBounds i true = l')
    (hQ : ∀ c a w, Q (.panic c) (a.put d v) w → Q (.panic c) a w) (hy : YieldsIf P ops S oi v a) (hS : S w)
    (h : wpAnyH P md ops Q S fuel l' (a.put d v) w) : wpAnyH P md ops Q S (fuel + 1) listed a w := by
  subst hd hl
  exact wpAnyH_take hi hs hf hr hQ hy hS h
/-- one operation alone may come up -/
theorem one_to {S : World → Prop} {i : Nat} {o : Oper} {fuel : Nat} {listed l' : Array Bool} {a : Act} {w : World} (ho : ops[i]? = some o) (hr : Region.ready md ops listed = [i]) (hl : listed.setIfInBounds i true = l')
    (h : ∀ K' : Act → World → Prop, Shut (∀ a w, S w → (S w → wpAnyH P md ops Q S fuel l' a w) → K' a w) → if Region.wanted o (yielded ops a.tmps) = true then Oper.wp P o a w K' Q else K' (a.put o.dst undef) w) : wpAnyH P md ops Q S (fuel + 1) listed a w := by
  subst hl
  exact wpAnyH_ready hr (by simp) (AllReadyH.cons ho h AllReadyH.nil)
/-- two may come up -/
theorem two_to {S : World → Prop} {i j : Nat} {o o2 : Oper} {fuel : Nat} {listed l1 l2 : Array Bool} {a : Act} {w : World} (ho : ops[i]? = some o) (ho2 : ops[j]? = some o2) (hr : Region.ready md ops listed = [i, j]) (hl : listed.setIfInBounds i true = l1) (hl2 : listed.setIfInBounds j true = l2)
    (h : ∀ K' : Act → World → Prop, Shut (∀ a w, S w → (S w → wpAnyH P md ops Q S fuel l1 a w) → K' a w) → if Region.wanted o (yielded ops a.tmps) = true then Oper.wp P o a w K' Q else K' (a.put o.dst undef) w)
    (h2 : ∀ K' : Act → World → Prop, Shut (∀ a w, S w → (S w → wpAnyH P md ops Q S fuel l2 a w) → K' a w) → if Region.wanted o2 (yielded ops a.tmps) = true then Oper.wp P o2 a w K' Q else K' (a.put o2.dst undef) w) : wpAnyH P md ops Q S (fuel + 1) listed a w := by
  subst hl hl2
  exact wpAnyH_ready hr (by simp) (AllReadyH.cons ho h (AllReadyH.cons ho2 h2 AllReadyH.nil))
end
end Go.Proofs.YtldepimkbnodpaaDoor

namespace Go.Proofs.YtldepimkbnodpaaDoor
open Go.RowKit
set_option linter.unusedSimpArgs false
set_option linter.unusedVariables false

/-- a byte of a small number -/
def ch (n : Int) : UInt8 := UInt8.ofNat n.toNat
theorem ch_nat {n : Int} (h0 : 0 ≤ n) (h1 : n < 256) : ((ch n).toNat : Int) = n := by
  unfold ch; rw [UInt8.toNat_ofNat']; omega
/-- a square's name -/
def nm (s : Int) : ByteArray := ⟨#[ch (97 + s % 8), ch (49 + s / 8)]⟩
def nmV (s : Int) : ByteArray := if sq s then nm s else ⟨#[]⟩
theorem q_t {a b : Int} {c : Bool} (h : a = b) : Ending.returned (.tuple #[.int .i64 a, .bool c]) = .returned (.tuple #[.int .i64 b, .bool c]) := by rw [h]
/-- the bytes of a string, as numbers -/
def nb (S : ByteArray) (i : Nat) : Int := ((S.data.toList.getD i 0).toNat : Int)
/-- is it a square's name, and which? -/
def isN (S : ByteArray) : Bool := decide (S.size = 2) && onB (nb S 0 - 97) (nb S 1 - 49)
def nN (S : ByteArray) : Int := if isN S then 8 * (nb S 1 - 49) + (nb S 0 - 97) else 0
end Go.Proofs.YtldepimkbnodpaaDoor
