/-
  Merged: SqA, SqR.
-/
import Derived.Test.YtkdhkljnpalajaaSq
import Derived.Deep.Cut
import Derived.Deep.CutRange
import Derived.Deep.RegionWith
import Derived.Deep.RegionHeld3

namespace Go.Proofs.Ytkdhkljnpalajaa
open Go.RowKit
set_option linter.unusedSimpArgs false
set_option linter.unusedVariables false

theorem size_place (w : World) : (sizeOf 65).run Try.prog w = .ok 2 w := by
  obtain ⟨i, hi, hz⟩ : ∃ i, Try.prog.info? 65 = some i ∧ i.size = 2 := by
    have h := infoPlace
    cases hi : Try.prog.info? 65 with
    | none => rw [hi] at h; cases h
    | some i => rw [hi] at h; exact ⟨i, rfl, Option.some.inj h⟩
  simp [sizeOf, typeInfo, hi, hz]
theorem field_place (x y z : Int) (w : World) : (Instr.field 67 (.agg #[.int .i64 x, .int .i64 y, .int .i64 z]) 0).run Try.prog w = .ok (.agg #[.int .i64 x, .int .i64 y]) w := by
  simp [Instr.field, asAgg, part, isAgg, run_underlying Try.underlying67, run_underlying Try.underlying65, size_place]
theorem field_number (x y z : Int) (w : World) : (Instr.field 67 (.agg #[.int .i64 x, .int .i64 y, .int .i64 z]) 1).run Try.prog w = .ok (.int .i64 z) w := by
  simp [Instr.field, asAgg, part, isAgg, run_underlying Try.underlying67, run_underlying Try.underlying3]
theorem field_file (x y : Int) (w : World) : (Instr.field 65 (.agg #[.int .i64 x, .int .i64 y]) 0).run Try.prog w = .ok (.int .i64 x) w := by
  simp [Instr.field, asAgg, part, isAgg, run_underlying Try.underlying65, run_underlying Try.underlying3]
theorem field_rank (x y : Int) (w : World) : (Instr.field 65 (.agg #[.int .i64 x, .int .i64 y]) 1).run Try.prog w = .ok (.int .i64 y) w := by
  simp [Instr.field, asAgg, part, isAgg, run_underlying Try.underlying65, run_underlying Try.underlying3]
attribute [go_sem] field_place field_number field_file field_rank

theorem is_any (s : Int) (w : World) :
    Calls Try.prog 30 #[.int .i64 s] w fun e w' => e = .returned (.bool (sq s)) ∧ Below w.heap.size w w' := by
  go_enter Try.func30, Try.ntmps30
  go_wp2_with fail
  refine (spotOf_any s _).mono ?_
  rintro e w1 ⟨rfl, hb1⟩
  go_wp2_with fail
  refine (onBsq_any s _).mono ?_
  rintro e w2 ⟨rfl, hb2⟩
  go_wp2
  go_ret
  exact ⟨rfl, hb1.trans (hb2.mono hb1.size)⟩
theorem at_any (f r : Int) (w : World) :
    Calls Try.prog 31 #[.int .i64 f, .int .i64 r] w fun e w' => e = .returned (.int .i64 (sAt f r)) ∧ Below w.heap.size w w' := by
  have hN : sN (sAt f r) = sAt f r := by
    rcases sAt_cases f r with ⟨_, e⟩ | ⟨h0, h1, h2, h3, _, e⟩
    · rw [e]; rfl
    · rw [e]; exact sN_at h0 h1 h2 h3
  have HN := Lib.hid hN
  clear hN
  go_enter Try.func31, Try.ntmps31
  go_wp2_with fail
  refine (spotAt_any f r _).mono ?_
  rw [HN.out]
  rintro e w1 ⟨rfl, hb1⟩
  go_wp2
  go_ret
  exact ⟨rfl, hb1⟩
theorem file_any (s : Int) (w : World) :
    Calls Try.prog 32 #[.int .i64 s] w fun e w' => e = .returned (.int .i64 (sF s)) ∧ Below w.heap.size w w' := by
  go_enter Try.func32, Try.ntmps32
  go_wp2_with fail
  refine (spotOf_any s _).mono ?_
  rintro e w1 ⟨rfl, hb1⟩
  go_wp2
  go_ret
  exact ⟨rfl, hb1⟩
theorem rank_any (s : Int) (w : World) :
    Calls Try.prog 33 #[.int .i64 s] w fun e w' => e = .returned (.int .i64 (sR s)) ∧ Below w.heap.size w w' := by
  go_enter Try.func33, Try.ntmps33
  go_wp2_with fail
  refine (spotOf_any s _).mono ?_
  rintro e w1 ⟨rfl, hb1⟩
  go_wp2
  go_ret
  exact ⟨rfl, hb1⟩
set_option maxHeartbeats 1000000 in
theorem darkSq_any (s : Int) (w : World) :
    Calls Try.prog 28 #[.int .i64 s] w fun e w' => e = .returned (.bool (dark s)) ∧ Below w.heap.size w w' := by
  cases hs : sq s
  · have hd : dark s = false := by unfold dark; rw [hs]; rfl
    rw [hd]
    have HS := Lib.hid hs
    clear hs hd
    go_enter Try.func28, Try.ntmps28
    go_wp2_with fail
    refine (spotOf_any s _).mono ?_
    rintro e w1 ⟨rfl, hb1⟩
    go_wp2_with fail
    refine (onBsq_any s _).mono ?_
    rw [HS.out]
    rintro e w2 ⟨rfl, hb2⟩
    go_wp2
    go_ret
    exact ⟨rfl, hb1.trans (((below_new _).trans (hb2.mono (by simp))).mono hb1.size)⟩
  · obtain ⟨h0, h1⟩ := (sq_iff s).1 hs
    have hF : sF s = s % 8 := by unfold sF; rw [if_pos hs]
    have hR : sR s = s / 8 := by unfold sR; rw [if_pos hs]
    have hd : dark s = decide ((sF s + sR s) % 2 = 0) := by unfold dark; rw [hs, hF, hR]; rfl
    have hF2 : 0 ≤ sF s ∧ sF s < 8 := by rw [hF]; omega
    have hR2 : 0 ≤ sR s ∧ sR s < 8 := by rw [hR]; omega
    rw [hd]
    obtain ⟨d, hdd⟩ : ∃ d, decide ((sF s + sR s) % 2 = 0) = d := ⟨_, rfl⟩
    rw [hdd]
    have HD := Lib.hid hdd
    have HS := Lib.hid hs
    clear hs hd hdd hF hR h0 h1
    go_enter Try.func28, Try.ntmps28
    go_wp2_with fail
    refine (spotOf_any s _).mono ?_
    rintro e w1 ⟨rfl, hb1⟩
    have l1 : (w1.alloc (.cells #[.int .i64 (sF s), .int .i64 (sR s), .int .i64 (sN s)] 67)).heap[w1.heap.size]? = some (.cells #[.int .i64 (sF s), .int .i64 (sR s), .int .i64 (sN s)] 67 (0, 0)) := sl_at rfl
    go_wp2_with fail
    refine (onBsq_any s _).mono ?_
    rw [HS.out]
    rintro e w2 ⟨rfl, hb2⟩
    obtain ⟨p0, p1, p2, _, pz⟩ := row3 (sl_go l1 hb2)
    go_wp2_with fail
    refine (dark_any (sF s) (sR s) _ hF2.1 hF2.2 hR2.1 hR2.2).mono ?_
    rw [HD.out]
    rintro e w3 ⟨rfl, hb3⟩
    go_wp2
    go_ret
    exact ⟨rfl, hb1.trans ((((below_new _).trans (hb2.mono (by simp))).trans (hb3.mono (by omega))).mono hb1.size)⟩
end Go.Proofs.Ytkdhkljnpalajaa

namespace Go.Proofs.Ytkdhkljnpalajaa
open Go.RowKit
set_option linter.unusedSimpArgs false
set_option linter.unusedVariables false
section
variable {P : Program} {ops : Array Oper} {Q : Exit → Act → World → Prop} {md : Region.Mode}
/-- the beginning of a region that draws: nothing is listed -/
theorem wp_region_start {S : World → Prop} {id n : Nat} {l : Array Bool} {a : Act} {w : World} (hm : P.follows .mixedOrders = true) (hsz : ops.size = n) (hl : Array.replicate n false = l) (hS : S w.drew)
    (h : S w.drew → wpAnyH P .any ops Q S n l a w.drew) : (Code.region id ops true).wp P Q a w := by
  subst hsz hl
  exact wp_region_held_drew hm hS h
/-- an operation is taken first; its slot, and what is listed behind it, are named -/
theorem take_to {S : World → Prop} {i : Nat} {oi : Oper} {d : Option Tmp} {v : Value} {fuel : Nat} {listed l' : Array Bool} {a : Act} {w : World} (hi : ops[i]? = some oi) (hd : oi.dst = d)
    (hs : Region.noSelect ops = true) (hf : Region.free md ops listed i = true) (hr : (Region.ready md ops listed).contains i = true) (hl : listed.setIfInBounds i true = l')
    (hQ : ∀ c a w, Q (.panic c) (a.put d v) w → Q (.panic c) a w) (hy : YieldsIf P ops S oi v a) (hS : S w)
    (h : wpAnyH P md ops Q S fuel l' (a.put d v) w) : wpAnyH P md ops Q S (fuel + 1) listed a w := by
  subst hd hl
  exact wpAnyH_take hi hs hf hr hQ hy hS h
/-- one operation alone may come up -/
theorem one_to {S : World → Prop} {i : Nat} {o : Oper} {fuel : Nat} {listed l' : Array Bool} {a : Act} {w : World} (ho : ops[i]? = some o) (hr : Region.ready md ops listed = [i]) (hl : listed.setIfInBounds i true = l')
    (h : ∀ K' : Act → World → Prop, Shut (∀ a w, S w → (S w → wpAnyH P md ops Q S fuel l' a w) → K' a w) → if Region.wanted o (yielded ops a.tmps) = true then Oper.wp P o a w K' Q else K' (a.put o.dst undef) w) : wpAnyH P md ops Q S (fuel + 1) listed a w := by
  subst hl
  exact wpAnyH_ready hr (by simp) (AllReadyH.cons ho h AllReadyH.nil)
/-- two may come up -/
theorem two_to {S : World → Prop} {i j : Nat} {o o2 : Oper} {fuel : Nat} {listed l1 l2 : Array Bool} {a : Act} {w : World} (ho : ops[i]? = some o) (ho2 : ops[j]? = some o2) (hr : Region.ready md ops listed = [i, j]) (hl : listed.setIfInBounds i true = l1) (hl2 : listed.setIfInBounds j true = l2)
    (h : ∀ K' : Act → World → Prop, Shut (∀ a w, S w → (S w → wpAnyH P md ops Q S fuel l1 a w) → K' a w) → if Region.wanted o (yielded ops a.tmps) = true then Oper.wp P o a w K' Q else K' (a.put o.dst undef) w)
    (h2 : ∀ K' : Act → World → Prop, Shut (∀ a w, S w → (S w → wpAnyH P md ops Q S fuel l2 a w) → K' a w) → if Region.wanted o2 (yielded ops a.tmps) = true then Oper.wp P o2 a w K' Q else K' (a.put o2.dst undef) w) : wpAnyH P md ops Q S (fuel + 1) listed a w := by
  subst hl hl2
  exact wpAnyH_ready hr (by simp) (AllReadyH.cons ho h (AllReadyH.cons ho2 h2 AllReadyH.nil))
end
theorem aP (a : Act) (d : Tmp) (v : Value) : a.put (some d) v = { a with tmps := a.tmps.setIfInBounds d v } := rfl
theorem sA {α : Type} (l : List α) (i : Nat) (a : α) : l.toArray.setIfInBounds i a = (l.set i a).toArray := List.setIfInBounds_toArray ..
theorem sZ {α : Type} (x y : α) (l : List α) : (x :: l).set 0 y = y :: l := rfl
theorem sS {α : Type} (x y : α) (l : List α) (n : Nat) : (x :: l).set (n + 1) y = x :: l.set n y := rfl
section
variable {P : Program} {md : Region.Mode} {ops : Array Oper} {Q : Exit → Act → World → Prop} {S : World → Prop} {fuel : Nat} {listed : Array Bool} {a : Act} {w : World}
theorem tg {i : Nat} {oi : Oper} {d : Option Tmp} {v : Value} (hi : ops[i]? = some oi) (hd : oi.dst = d) (hy : YieldsIf P ops S oi v a) (h : wpAnyH P md ops Q S fuel (listed.setIfInBounds i true) (a.put d v) w)
    (hs : Region.noSelect ops = true := by kernel_rfl) (hf : Region.free md ops listed i = true := by kernel_rfl) (hr : (Region.ready md ops listed).contains i = true := by kernel_rfl)
    (hQ : ∀ c a w, Q (.panic c) (a.put d v) w → Q (.panic c) a w := by exact fun _ _ _ h => h) (hS : S w := by assumption) : wpAnyH P md ops Q S (fuel + 1) listed a w := take_to hi hd hs hf hr rfl hQ hy hS h
theorem tq {i : Nat} {oi : Oper} {d : Option Tmp} {v : Value} (hi : ops[i]? = some oi) (hd : oi.dst = d) (h : wpAnyH P md ops Q S fuel (listed.setIfInBounds i true) (a.put d v) w)
    (hy : YieldsIf P ops S oi v a := by (refine Or.inl ⟨by rfl, ?_⟩; intro w' hSw; (try dsimp only at hSw); go_simp; (try with_reducible rfl)))
    (hs : Region.noSelect ops = true := by kernel_rfl) (hf : Region.free md ops listed i = true := by kernel_rfl) (hr : (Region.ready md ops listed).contains i = true := by kernel_rfl)
    (hQ : ∀ c a w, Q (.panic c) (a.put d v) w → Q (.panic c) a w := by exact fun _ _ _ h => h) (hS : S w := by assumption) : wpAnyH P md ops Q S (fuel + 1) listed a w := take_to hi hd hs hf hr rfl hQ hy hS h
theorem og {i : Nat} {o : Oper} (ho : ops[i]? = some o) (hr : Region.ready md ops listed = [i])
    (h : ∀ K' : Act → World → Prop, Shut (∀ a w, S w → (S w → wpAnyH P md ops Q S fuel (listed.setIfInBounds i true) a w) → K' a w) → if Region.wanted o (yielded ops a.tmps) = true then Oper.wp P o a w K' Q else K' (a.put o.dst undef) w) : wpAnyH P md ops Q S (fuel + 1) listed a w := one_to ho hr rfl h
theorem wg {i j : Nat} {o o2 : Oper} (ho : ops[i]? = some o) (ho2 : ops[j]? = some o2) (hr : Region.ready md ops listed = [i, j])
    (h : ∀ K' : Act → World → Prop, Shut (∀ a w, S w → (S w → wpAnyH P md ops Q S fuel (listed.setIfInBounds i true) a w) → K' a w) → if Region.wanted o (yielded ops a.tmps) = true then Oper.wp P o a w K' Q else K' (a.put o.dst undef) w)
    (h2 : ∀ K' : Act → World → Prop, Shut (∀ a w, S w → (S w → wpAnyH P md ops Q S fuel (listed.setIfInBounds j true) a w) → K' a w) → if Region.wanted o2 (yielded ops a.tmps) = true then Oper.wp P o2 a w K' Q else K' (a.put o2.dst undef) w) : wpAnyH P md ops Q S (fuel + 1) listed a w := two_to ho ho2 hr rfl rfl h h2
end
end Go.Proofs.Ytkdhkljnpalajaa
