/-
  A region that draws its order, within a round too: its first m operations only read, in whatever order; the others wait for all of them.
-/
import Derived.Test.YtjhlombbkodpaaaDoorG5
import Derived.Sort.QuietIn
import Derived.RegionIn
import Derived.RangeFuncCalls
namespace Go.Proofs.YtjhlombbkodpaaaDoor
open Go.RowKit
set_option linter.unusedSimpArgs false
set_option linter.unusedVariables false
set_option maxRecDepth 20000
section
variable {F : Fence} {n : Nat} {P : Program} {ops : Array Oper} {Q Q' : Exit → Act → World → Prop} {md : Region.Mode}

theorem wpAnyIn_fuel : ∀ (fuel : Nat) (listed : Array Bool) (a : Act) (w : World), wpAnyIn F n P md ops Q fuel listed a w → wpAnyIn F n P md ops Q (fuel + 1) listed a w
  | 0, _, _, _, ⟨h, hq⟩ => ⟨fun _ => hq, by rw [h]; simp⟩
  | fuel + 1, _, _, _, ⟨h1, h2⟩ => ⟨h1, fun i hi => wpOpIn_mono (fun a w h => wpAnyIn_fuel fuel _ a w h) (h2 i hi)⟩
theorem wpAnyIn_fuels (k fuel : Nat) (listed : Array Bool) (a : Act) (w : World) (h : wpAnyIn F n P md ops Q fuel listed a w) : wpAnyIn F n P md ops Q (fuel + k) listed a w := by
  induction k with
  | zero => exact h
  | succ k ih => exact wpAnyIn_fuel _ _ _ _ ih
/-- an operation that is no defer statement, in a round, as outside -/
theorem wpAnyIn_round (l : Nat) (hro : F.round = none) (hd : ∀ (i : Nat) (o : Oper), ops[i]? = some o → ∀ c, o.op ≠ .defer c) : ∀ (fuel : Nat) (listed : Array Bool) (a : Act) (w : World),
    wpAnyIn F n P md ops Q fuel listed a w → wpAnyIn (F.inRound l) n P md ops Q fuel listed a w := by
  have hop : ∀ (i : Nat) (K : Act → World → Prop) (a : Act) (w : World), wpOpIn F n P ops Q i K a w → wpOpIn (F.inRound l) n P ops Q i K a w := by
    intro i K a w h
    unfold wpOpIn at *
    split
    · simp_all
    · rename_i o ho
      simp only [ho] at h
      split
      · rename_i hw
        simp only [hw, if_true] at h
        refine ⟨h.1, ?_⟩
        have h2 := h.2
        rw [Oper.semAt_eq _ _ _ (hd i o ho)] at h2
        rw [Oper.semAt_eq _ _ _ (hd i o ho)]
        exact h2
      · rename_i hw
        simp only [hw] at h
        exact h
  intro fuel
  induction fuel with
  | zero => exact fun _ _ _ h => h
  | succ fuel ih => exact fun listed a w h => ⟨h.1, fun i hi => hop _ _ _ _ (wpOpIn_mono (fun a w h => ih _ a w h) (h.2 i hi))⟩
theorem wpOpIn_ends (hp : ∀ c a w, Q' (.panic c) a w → Q (.panic c) a w) (ho : ∀ a w, Q' .outgrown a w → Q .outgrown a w) {i : Nat} {a : Act} {w : World} {K : Act → World → Prop}
    (h : wpOpIn F n P ops Q' i K a w) : wpOpIn F n P ops Q i K a w := by
  unfold wpOpIn at *
  split
  · simp_all
  · rename_i o hoi
    simp only [hoi] at h
    split
    · rename_i hw
      simp only [hw, if_true] at h
      refine ⟨h.1, ?_⟩
      have h2 := h.2
      generalize (o.semAt F.round a.eval).run P w = r at *
      cases r with
      | ok x w' =>
        cases x <;> simp only [Oper.uponIn] at h2 ⊢
        case value u => exact h2
        case skip => exact h2
        case defer d => exact h2
        case enter f args => exact ⟨h2.1, CallsIn.mono h2.2 fun e w'' he => by cases e <;> first | exact he | exact hp _ _ _ he | exact (let ⟨a, w, q⟩ := he; ⟨a, w, ho _ _ q⟩)⟩
        case row row args => exact h2
        case round l f tmps assign body => exact ⟨h2.1, RoundIn.mono h2.2 fun e w'' he => by cases e <;> first | exact he | exact hp _ _ _ he | exact (let ⟨a, w, q⟩ := he; ⟨a, w, ho _ _ q⟩)⟩
      | halt x w' =>
        cases x <;> simp only [Oper.uponIn] at h2 ⊢
        case panic u => exact hp _ _ _ h2
    · rename_i hw
      simp only [hw] at h
      exact h
/-- each operation waits for earlier ones alone; each below m is waited for by one up to m; each behind m waits for one from m on -/
def tailOk (md : Region.Mode) (ops : Array Oper) (m : Nat) : Bool := decide (m < ops.size) && (List.range ops.size).all fun j =>
  (((ops[j]?).map fun o => o.after.all fun e => !Region.binds md e || decide (e.on < j)).getD false) &&
  (if j < m then (List.range (m + 1)).any fun s => decide (j < s) && ((ops[s]?).map fun o => o.after.any fun e => Region.binds md e && e.on == j).getD false
   else j == m || ((ops[j]?).map fun o => o.after.any fun e => Region.binds md e && decide (m ≤ e.on)).getD false)
/-- M is L, all from m on listed -/
def Marked (m : Nat) (L M : Array Bool) : Prop := L.size = M.size ∧ ∀ j, M.getD j true = if j < m then L.getD j true else true
def firstOf (s m : Nat) : Array Bool := ((List.range s).map fun j => decide (j < m)).toArray
/-- nothing below m is listed ahead of what it waits for; nothing from m on is -/
def Low (md : Region.Mode) (ops : Array Oper) (m : Nat) (L : Array Bool) : Prop :=
  (∀ j o, ops[j]? = some o → j < m → L.getD j true = true → ∀ e ∈ o.after, Region.binds md e = true → L.getD e.on false = true) ∧ ∀ j, m ≤ j → j < ops.size → L.getD j true = false
/-- in the region's first m operations any order, and then the others -/
def Cut (F : Fence) (n : Nat) (P : Program) (md : Region.Mode) (ops : Array Oper) (Q : Exit → Act → World → Prop) (m : Nat) : Exit → Act → World → Prop
  | .normal, a, w => wpAnyIn F n P md ops Q (ops.size - m) (firstOf ops.size m) a w
  | e, a, w => Q e a w
theorem wpAnyIn_cut {m : Nat} (hk : tailOk md ops m = true) : ∀ (fuel : Nat) (L M : Array Bool) (a : Act) (w : World), L.size = ops.size → Marked m L M → Low md ops m L →
    wpAnyIn F n P md ops (Cut F n P md ops Q m) fuel M a w → wpAnyIn F n P md ops Q (fuel + (ops.size - m)) L a w := by
  unfold tailOk at hk
  simp only [Bool.and_eq_true, decide_eq_true_eq, List.all_eq_true, List.mem_range] at hk
  obtain ⟨hm, hk⟩ := hk
  have back : ∀ j o, ops[j]? = some o → ∀ e ∈ o.after, Region.binds md e = true → e.on < j := by
    intro j o ho e he hb
    have h := (hk j (Array.getElem?_eq_some_iff.1 ho).1).1
    rw [ho] at h
    simp only [Option.map_some, Option.getD_some, Array.all_eq_true_iff_forall_mem, Bool.or_eq_true, Bool.not_eq_true', decide_eq_true_eq] at h
    rcases h e he with h1 | h1
    · rw [hb] at h1; cases h1
    · exact h1
  have succ : ∀ j, j < m → ∃ s o, j < s ∧ s ≤ m ∧ ops[s]? = some o ∧ ∃ e ∈ o.after, Region.binds md e = true ∧ e.on = j := by
    intro j hj
    have h := (hk j (by omega)).2
    rw [if_pos hj] at h
    obtain ⟨s, hs, h2⟩ := List.any_eq_true.1 h
    simp only [Bool.and_eq_true, decide_eq_true_eq] at h2
    obtain ⟨h3, h4⟩ := h2
    have hs2 := List.mem_range.1 hs
    obtain ⟨o, ho⟩ : ∃ o, ops[s]? = some o := ⟨_, Array.getElem?_eq_getElem (show s < ops.size by omega)⟩
    rw [ho] at h4
    simp only [Option.map_some, Option.getD_some, Array.any_eq_true] at h4
    obtain ⟨q, hq, h5⟩ := h4
    simp only [Bool.and_eq_true, beq_iff_eq] at h5
    exact ⟨s, o, h3, by omega, ho, _, Array.getElem_mem hq, h5.1, h5.2⟩
  have pred : ∀ j o, ops[j]? = some o → m < j → ∃ e ∈ o.after, Region.binds md e = true ∧ m ≤ e.on := by
    intro j o ho hj
    have h := (hk j (Array.getElem?_eq_some_iff.1 ho).1).2
    rw [if_neg (by omega), ho] at h
    simp only [Option.map_some, Option.getD_some, Array.any_eq_true, Bool.or_eq_true, beq_iff_eq] at h
    rcases h with h | ⟨q, hq, h5⟩
    · omega
    · simp only [Bool.and_eq_true, decide_eq_true_eq] at h5
      exact ⟨_, Array.getElem_mem hq, h5.1, h5.2⟩
  -- where m may come up, all below it are listed
  have all : ∀ (L : Array Bool), L.size = ops.size → Low md ops m L → (∀ o, ops[m]? = some o → ∀ e ∈ o.after, Region.binds md e = true → L.getD e.on false = true) → ∀ k j, m ≤ j + k → j < m → L.getD j false = true := by
    intro L hs hl hr k
    induction k with
    | zero => intro j h1 h2; omega
    | succ k ih =>
      intro j h1 h2
      obtain ⟨s, o, hjs, hsm, ho, e, he, hb, rfl⟩ := succ j h2
      rcases (show s = m ∨ s < m by omega) with rfl | h3
      · exact hr o ho e he hb
      · refine hl.1 s o ho h3 ?_ e he hb
        rw [getD_both (by omega) true false]
        exact ih s (by omega) h3
  -- some below m is not listed: some below m may come up; nothing else does
  have some_ready : ∀ (L : Array Bool), L.size = ops.size → ∀ k j, j < k → j < m → L.getD j true = false → ∃ i, i < m ∧ i ∈ Region.ready md ops L := by
    intro L hs k
    induction k with
    | zero => intro j h; omega
    | succ k ih =>
      intro j hjk hjm hu
      obtain ⟨o, ho⟩ : ∃ o, ops[j]? = some o := ⟨_, Array.getElem?_eq_getElem (show j < ops.size by omega)⟩
      by_cases hall : ∀ e ∈ o.after, Region.binds md e = true → L.getD e.on false = true
      · exact ⟨j, hjm, mem_ready.2 ⟨hu, o, ho, hall⟩⟩
      · simp only [Classical.not_forall] at hall
        obtain ⟨e, he, hb, hne⟩ := hall
        have hlt := back j o ho e he hb
        refine ih e.on (by omega) (by omega) ?_
        rw [getD_both (by omega) true false]
        cases hx : L.getD e.on false with
        | false => rfl
        | true => exact absurd hx hne
  have readyEq : ∀ (L M : Array Bool), L.size = ops.size → Marked m L M → ∀ i, i < m → (i ∈ Region.ready md ops M ↔ i ∈ Region.ready md ops L) := by
    intro L M hs hM i hi
    rw [mem_ready, mem_ready, hM.2 i, if_pos hi]
    refine and_congr Iff.rfl ⟨?_, ?_⟩
    · rintro ⟨o, ho, h⟩
      refine ⟨o, ho, fun e he hb => ?_⟩
      have h1 := back i o ho e he hb
      have h2 := h e he hb
      rw [getD_both (by rw [← hM.1]; omega) false true, hM.2, if_pos (by omega)] at h2
      rwa [getD_both (by omega) false true]
    · rintro ⟨o, ho, h⟩
      refine ⟨o, ho, fun e he hb => ?_⟩
      have h1 := back i o ho e he hb
      have h2 := h e he hb
      rw [getD_both (by omega) false true] at h2
      rw [getD_both (by rw [← hM.1]; omega) false true, hM.2, if_pos (by omega)]
      exact h2
  have highM : ∀ (L M : Array Bool), Marked m L M → ∀ i, i ∈ Region.ready md ops M → i < m := by
    intro L M hM i hi
    have h := (mem_ready.1 hi).1
    rw [hM.2] at h
    by_cases h1 : i < m
    · exact h1
    · rw [if_neg h1] at h; cases h
  have done : ∀ (L : Array Bool), L.size = ops.size → Low md ops m L → (∀ j, j < m → L.getD j true = true) → L = firstOf ops.size m := by
    intro L hs hl h
    apply Array.ext
    · simp [firstOf, hs]
    · intro j h1 h2
      have e : L.getD j true = L[j] := by simp [Array.getD, h1]
      rw [← e]
      simp only [firstOf, List.getElem_toArray, List.getElem_map, List.getElem_range]
      by_cases hj : j < m
      · rw [h j hj]; simp [hj]
      · rw [hl.2 j (by omega) (by omega)]; simp [hj]
  have hlow : ∀ (L : Array Bool), L.size = ops.size → Low md ops m L → (∃ j, j < m ∧ L.getD j true = false) → ∀ i, i ∈ Region.ready md ops L → i < m := by
    rintro L hs hl ⟨j, hj, hu⟩ i hi
    obtain ⟨h0, o, ho, h⟩ := mem_ready.1 hi
    rcases (show i < m ∨ i = m ∨ m < i by omega) with h1 | rfl | h1
    · exact h1
    · have h2 := all L hs hl (fun o' ho' e he hb => by rw [ho] at ho'; cases ho'; exact h e he hb) i j (by omega) hj
      rw [getD_both (by omega) false true, hu] at h2
      cases h2
    · obtain ⟨e, he, hb, hme⟩ := pred i o ho h1
      have h2 := h e he hb
      have h3 := back i o ho e he hb
      have h4 := (Array.getElem?_eq_some_iff.1 ho).1
      rw [getD_both (by omega) false true, hl.2 e.on hme (by omega)] at h2
      cases h2
  intro fuel
  induction fuel with
  | zero =>
    intro L M a w hs hM hl h
    have hall : ∀ j, j < m → L.getD j true = true := fun j hj => by
      cases hx : L.getD j true with
      | true => rfl
      | false =>
        obtain ⟨i, hi, hr⟩ := some_ready L hs (j + 1) j (by omega) hj hx
        have h2 := (readyEq L M hs hM i hi).2 hr
        rw [h.1] at h2
        cases h2
    rw [done L hs hl hall, Nat.zero_add]
    exact h.2
  | succ fuel ih =>
    intro L M a w hs hM hl h
    by_cases hall : ∀ j, j < m → L.getD j true = true
    · have hr : Region.ready md ops M = [] := by
        apply List.eq_nil_iff_forall_not_mem.2
        intro i hi
        have h1 := highM L M hM i hi
        have h2 := (mem_ready.1 hi).1
        rw [hM.2, if_pos h1, hall i h1] at h2
        cases h2
      rw [done L hs hl hall, Nat.add_comm]
      exact wpAnyIn_fuels _ _ _ _ _ (h.1 hr)
    · simp only [Classical.not_forall] at hall
      obtain ⟨j, hj, hne⟩ := hall
      have hu : L.getD j true = false := by
        cases hx : L.getD j true with
        | false => rfl
        | true => exact absurd hx hne
      obtain ⟨i0, hi0, hr0⟩ := some_ready L hs (j + 1) j (by omega) hj hu
      rw [show fuel + 1 + (ops.size - m) = (fuel + (ops.size - m)) + 1 by omega]
      refine ⟨fun h0 => (by rw [h0] at hr0; cases hr0), fun i hi => ?_⟩
      have him := hlow L hs hl ⟨j, hj, hu⟩ i hi
      have h1 := h.2 i ((readyEq L M hs hM i him).2 hi)
      refine wpOpIn_ends (Q' := Cut F n P md ops Q m) (fun _ _ _ h => h) (fun _ _ h => h) (wpOpIn_mono (fun a' w' h3 => ih (L.setIfInBounds i true) (M.setIfInBounds i true) a' w' (by simpa using hs) ?_ ?_ h3) h1)
      · refine ⟨by simpa using hM.1, fun q => ?_⟩
        by_cases hq : i = q
        · subst hq
          rw [if_pos him]
          have h5 : i < L.size := by omega
          have h6 : i < M.size := by rw [← hM.1]; omega
          simp [h5, h6]
        · rw [getD_set_ne true hq, getD_set_ne true hq]; exact hM.2 q
      · refine ⟨fun q o ho hqm hlq e he hb => ?_, fun q hq hqs => ?_⟩
        · by_cases hqi : q = i
          · subst hqi
            obtain ⟨_, o', ho', hall'⟩ := mem_ready.1 hi
            rw [ho] at ho'
            cases ho'
            exact getD_set_true (hall' e he hb)
          · rw [getD_set_ne true (Ne.symm hqi)] at hlq
            exact getD_set_true (hl.1 q o ho hqm hlq e he hb)
        · rw [getD_set_ne true (by omega)]; exact hl.2 q hq hqs
/-- may the first m be walked in the text's order -/
def lexCut (ops : Array Oper) (m : Nat) : Bool := Region.noSelect ops && Region.lexFrom .any ops m 0 ((List.range ops.size).map fun j => decide (m ≤ j)).toArray
theorem wpAnyQIn_lexB {C : World → Prop} {Q : Act → Prop} (hs : Region.noSelect ops = true) : ∀ (l : List Oper) (k : Nat) (listed : Array Bool) (a : Act), (∀ j, j < l.length → l[j]? = ops[k + j]?) →
    Region.lexFrom md ops l.length k listed = true → wpQuietIn F n P ops C Q l a → wpAnyQIn F n P md ops C Q l.length listed a
  | [], _, _, _, _, hB, h => ⟨by simpa [Region.lexFrom] using hB, h⟩
  | o :: l, k, listed, a, hl, hB, h => by
    have h0 : ops[k]? = some o := by simpa using (hl 0 (by simp)).symm
    simp only [List.length_cons, Region.lexFrom, Bool.and_eq_true] at hB
    obtain ⟨⟨hr, hf⟩, hB'⟩ := hB
    have hst : qOpIn F n P ops C k (wpQuietIn F n P ops C Q l) a := by unfold qOpIn; simp only [h0]; exact h
    obtain ⟨v, hy, hK⟩ := yieldsQuiet_of_qOpIn h0 hst
    exact wpAnyQIn_first h0 (Region.noSelect_spec hs) l.length listed a (Region.free_spec h0 hf) (by simpa using hr) hy
      (wpAnyQIn_lexB hs l (k + 1) _ _ (fun j hj => by have := hl (j + 1) (by simpa using hj); simpa [Nat.add_assoc, Nat.add_comm 1 j] using this) hB' hK)
/-- THE LAW, outside a round -/
theorem wpIn_region_cut {a : Act} {w : World} {L : List Oper} (m r : Nat) (M0 : Array Bool) (hr : L.length - m = r) (hM : firstOf L.length m = M0) (hro : F.round = none) (hm : P.follows .mixedOrders = true) (hk : tailOk .any L.toArray m = true) (hB : lexCut L.toArray m = true)
    (h : wpQuietIn F n P L.toArray (fun w' => ∃ k, w' = w.drewN k) (fun a' => ∀ w', (∃ k, w' = w.drewN k) → wpAnyIn F n P .any L.toArray Q r M0 a' w') (L.take m) a) :
    wpAnyIn F n P .any L.toArray Q L.toArray.size (Array.replicate L.toArray.size false) a w.drew := by
  subst hr hM
  have hml : m < L.length := by
    unfold tailOk at hk
    simp only [Bool.and_eq_true, decide_eq_true_eq, List.size_toArray] at hk
    exact hk.1
  unfold lexCut at hB
  simp only [Bool.and_eq_true] at hB
  have hlen : (L.take m).length = m := by simp; omega
  have e1 : L.toArray.size = m + (L.toArray.size - m) := by simp; omega
  rw [show wpAnyIn F n P .any L.toArray Q L.toArray.size = wpAnyIn F n P .any L.toArray Q (m + (L.toArray.size - m)) from congrArg _ e1]
  have hq := wpAnyQIn_lexB (F := F) (n := n) (P := P) (md := .any) (C := fun w' => ∃ k, w' = w.drewN k) hB.1 (L.take m) 0 ((List.range L.toArray.size).map fun j => decide (m ≤ j)).toArray a (fun j hj => by
    rw [List.getElem?_toArray, Nat.zero_add, List.getElem?_take_of_lt (by omega)]) (by rw [hlen]; exact hB.2) h
  rw [hlen] at hq
  refine wpAnyIn_cut (Q := Q) hk m (Array.replicate L.toArray.size false) ((List.range L.toArray.size).map fun j => decide (m ≤ j)).toArray a w.drew (by simp) ⟨by simp, fun j => ?_⟩ ⟨?_, ?_⟩ (wpAnyIn_of_quiet (F := F) hro ?_ m _ a w.drew ⟨1, rfl⟩ hq)
  · by_cases hj : j < L.length
    · simp [hj]
      by_cases h2 : j < m <;> simp [h2] <;> omega
    · simp [hj]
  · intro j o ho hj hl
    have h2 : j < L.length := by omega
    simp [h2] at hl
  · intro j h1 h2
    simp at h2
    simp [h2]
  · intro a' w' hw' h'
    have := h' w' hw'
    simpa [Cut] using this
/-- .. and within one -/
theorem wpIn_region_cut_round {l : Nat} {id : Nat} {a : Act} {w : World} {L : List Oper} (m r : Nat) (M0 : Array Bool) (hr : L.length - m = r) (hM : firstOf L.length m = M0) (hro : F.round = none) (hm : P.follows .mixedOrders = true) (hk : tailOk .any L.toArray m = true) (hB : lexCut L.toArray m = true)
    (hd : L.all (fun o => match o.op with | .defer _ => false | _ => true) = true)
    (h : wpQuietIn F n P L.toArray (fun w' => ∃ k, w' = w.drewN k) (fun a' => ∀ w', (∃ k, w' = w.drewN k) → wpAnyIn F n P .any L.toArray Q r M0 a' w') (L.take m) a) :
    (Code.region id L.toArray true).wpIn (F.inRound l) n P Q a w := by
  refine wpIn_region_any hm (wpAnyIn_round l hro (fun i o ho c e => ?_) _ _ _ _ (wpIn_region_cut m r M0 hr hM hro hm hk hB h))
  rw [List.getElem?_toArray] at ho
  have h1 := List.all_eq_true.1 hd o (List.mem_of_getElem? ho)
  rw [e] at h1
  cases h1
end
end Go.Proofs.YtjhlombbkodpaaaDoor
