/-
  Merged: Df, Dg.
-/
import Derived.Test.YtkncfeijlmomaaaGreatDoorG3
import Derived.Sort.QuietIn
import Derived.RegionIn
import Derived.RangeFuncCalls
import Derived.Test.YtkncfeijlmomaaaGreatDoorG6

namespace Go.Proofs.YtkncfeijlmomaaaGreatDoor
open Go.RowKit
set_option linter.unusedSimpArgs false
set_option linter.unusedVariables false
set_option maxRecDepth 20000
section
variable {F : Fence} {n : Nat} {P : Program} {ops : Array Oper} {Q Q' : Exit → Act → World → Prop} {md : Region.Mode}

theorem wpAnyIn_fuel : ∀ (fuel : Nat) (listed : Array Bool) (a : Act) (w : World), wpAnyIn F n P md ops Q fuel listed a w → wpAnyIn F n P md ops Q (fuel + 1) listed a w
  | 0, _, _, _, ⟨h, hq⟩ => ⟨fun _ => hq, by rw [h]; simp⟩
  | fuel + 1, _, _, _, ⟨h1, h2⟩ => ⟨h1, fun i hi => wpOpIn_mono (fun a w h => wpAnyIn_fuel fuel _ a w h) (h2 i hi)⟩
theorem wpAnyIn_fuels (k fuel : Nat) (listed : Array Bool) (a : Act) (w : World) (h : wpAnyIn F n P md ops Q fuel listed a w) : wpAnyIn F n P md ops Q (fuel + k) listed a w := by
  induction k with
  | zero => exact h
  | succ k ih => exact wpAnyIn_fuel _ _ _ _ ih
/-- an operation that is no defer statement, in a round, as outside -/
theorem wpAnyIn_round (l : Nat) (hro : F.round = none) (hd : ∀ (i : Nat) (o : Oper), ops[i]? = some o → ∀ c, o.op ≠ .defer c) : ∀ (fuel : Nat) (listed : Array Bool) (a : Act) (w : World),
    wpAnyIn F n P md ops Q fuel listed a w → wpAnyIn (F.inRound l) n P md ops Q fuel listed a w := by
  have hop : ∀ (i : Nat) (K : Act → World → Prop) (a : Act) (w : World), wpOpIn F n P ops Q i K a w → wpOpIn (F.inRound l) n P ops Q i K a w := by
    intro i K a w h
    unfold wpOpIn at *
    split
    · simp_all
    · rename_i o ho
      simp only [ho] at h
      split
      · rename_i hw
        simp only [hw, if_true] at h
        refine ⟨h.1, ?_⟩
        have h2 := h.2
        rw [Oper.semAt_eq _ _ _ (hd i o ho)] at h2
        rw [Oper.semAt_eq _ _ _ (hd i o ho)]
        exact h2
      · rename_i hw
        simp only [hw] at h
        exact h
  intro fuel
  induction fuel with
  | zero => exact fun _ _ _ h => h
  | succ fuel ih => exact fun listed a w h => ⟨h.1, fun i hi => hop _ _ _ _ (wpOpIn_mono (fun a w h => ih _ a w h) (h.2 i hi))⟩
theorem wpOpIn_ends (hp : ∀ c a w, Q' (.panic c) a w → Q (.panic c) a w) (ho : ∀ a w, Q' .outgrown a w → Q .outgrown a w) {i : Nat} {a : Act} {w : World} {K : Act → World → Prop}
    (h : wpOpIn F n P ops Q' i K a w) : wpOpIn F n P ops Q i K a w := by
  unfold wpOpIn at *
  split
  · simp_all
  · rename_i o hoi
    simp only [hoi] at h
    split
    · rename_i hw
      simp only [hw, if_true] at h
      refine ⟨h.1, ?_⟩
      have h2 := h.2
      generalize (o.semAt F.round a.eval).run P w = r at *
      cases r with
      | ok x w' =>
        cases x <;> simp only [Oper.uponIn] at h2 ⊢
        case value u => exact h2
        case skip => exact h2
        case defer d => exact h2
        case enter f args => exact ⟨h2.1, CallsIn.mono h2.2 fun e w'' he => by cases e <;> first | exact he | exact hp _ _ _ he | exact (let ⟨a, w, q⟩ := he; ⟨a, w, ho _ _ q⟩)⟩
        case row row args => exact h2
        case round l f tmps assign body => exact ⟨h2.1, RoundIn.mono h2.2 fun e w'' he => by cases e <;> first | exact he | exact hp _ _ _ he | exact (let ⟨a, w, q⟩ := he; ⟨a, w, ho _ _ q⟩)⟩
      | halt x w' =>
        cases x <;> simp only [Oper.uponIn] at h2 ⊢
        case panic u => exact hp _ _ _ h2
    · rename_i hw
      simp only [hw] at h
      exact h
/-- each operation waits for earlier ones alone; each below m is waited for by one up to m; each behind m waits for one from m on -/
def tailOk (md : Region.Mode) (ops : Array Oper) (m : Nat) : Bool := decide (m < ops.size) && (List.range ops.size).all fun j =>
  (((ops[j]?).map fun o => o.after.all fun e => !Region.binds md e || decide (e.on < j)).getD false) &&
  (if j < m then (List.range (m + 1)).any fun s => decide (j < s) && ((ops[s]?).map fun o => o.after.any fun e => Region.binds md e && e.on == j).getD false
   else j == m || ((ops[j]?).map fun o => o.after.any fun e => Region.binds md e && decide (m ≤ e.on)).getD false)
/-- M is L, all from m on listed -/
def Marked (m : Nat) (L M : Array Bool) : Prop := L.size = M.size ∧ ∀ j, M.getD j true = if j < m then L.getD j true else true
def firstOf (s m : Nat) : Array Bool := ((List.range s).map fun j => decide (j < m)).toArray
/-- nothing below m is listed ahead of what it waits for; nothing from m on is -/
def Low (md : Region.Mode) (ops : Array Oper) (m : Nat) (L : Array Bool) : Prop :=
  (∀ j o, ops[j]? = some o → j < m → L.getD j true = true → ∀ e ∈ o.after, Region.binds md e = true → L.getD e.on false = true) ∧ ∀ j, m ≤ j → j < ops.size → L.getD j true = false
/-- in the region's first m operations any order, and then the others -/
def Cut (F : Fence) (n : Nat) (P : Program) (md : Region.Mode) (ops : Array Oper) (Q : Exit → Act → World → Prop) (m : Nat) : Exit → Act → World → Prop
  | .normal, a, w => wpAnyIn F n P md ops Q (ops.size - m) (firstOf ops.size m) a w
  | e, a, w => Q e a w
theorem wpAnyIn_cut {m : Nat} (hk : tailOk md ops m = true) : ∀ (fuel : Nat) (L M : Array Bool) (a : Act) (w : World), L.size = ops.size → Marked m L M → Low md ops m L →
    wpAnyIn F n P md ops (Cut F n P md ops Q m) fuel M a w → wpAnyIn F n P md ops Q (fuel + (ops.size - m)) L a w := by
  unfold tailOk at hk
  simp only [Bool.and_eq_true, decide_eq_true_eq, List.all_eq_true, List.mem_range] at hk
  obtain ⟨hm, hk⟩ := hk
  have back : ∀ j o, ops[j]? = some o → ∀ e ∈ o.after, Region.binds md e = true → e.on < j := by
    intro j o ho e he hb
    have h := (hk j (Array.getElem?_eq_some_iff.1 ho).1).1
    rw [ho] at h
    simp only [Option.map_some, Option.getD_some, Array.all_eq_true_iff_forall_mem, Bool.or_eq_true, Bool.not_eq_true', decide_eq_true_eq] at h
    rcases h e he with h1 | h1
    · rw [hb] at h1; cases h1
    · exact h1
  have succ : ∀ j, j < m → ∃ s o, j < s ∧ s ≤ m ∧ ops[s]? = some o ∧ ∃ e ∈ o.after, Region.binds md e = true ∧ e.on = j := by
    intro j hj
    have h := (hk j (by omega)).2
    rw [if_pos hj] at h
    obtain ⟨s, hs, h2⟩ := List.any_eq_true.1 h
    simp only [Bool.and_eq_true, decide_eq_true_eq] at h2
    obtain ⟨h3, h4⟩ := h2
    have hs2 := List.mem_range.1 hs
    obtain ⟨o, ho⟩ : ∃ o, ops[s]? = some o := ⟨_, Array.getElem?_eq_getElem (show s < ops.size by omega)⟩
    rw [ho] at h4
    simp only [Option.map_some, Option.getD_some, Array.any_eq_true] at h4
    obtain ⟨q, hq, h5⟩ := h4
    simp only [Bool.and_eq_true, beq_iff_eq] at h5
    exact ⟨s, o, h3, by omega, ho, _, Array.getElem_mem hq, h5.1, h5.2⟩
  have pred : ∀ j o, ops[j]? = some o → m < j → ∃ e ∈ o.after, Region.binds md e = true ∧ m ≤ e.on := by
    intro j o ho hj
    have h := (hk j (Array.getElem?_eq_some_iff.1 ho).1).2
    rw [if_neg (by omega), ho] at h
    simp only [Option.map_some, Option.getD_some, Array.any_eq_true, Bool.or_eq_true, beq_iff_eq] at h
    rcases h with h | ⟨q, hq, h5⟩
    · omega
    · simp only [Bool.and_eq_true, decide_eq_true_eq] at h5
      exact ⟨_, Array.getElem_mem hq, h5.1, h5.2⟩
  -- where m may come up, all below it are listed
  have all : ∀ (L : Array Bool), L.size = ops.size → Low md ops m L → (∀ o, ops[m]? = some o → ∀ e ∈ o.after, Region.binds md e = true → L.getD e.on false = true) → ∀ k j, m ≤ j + k → j < m → L.getD j false = true := by
    intro L hs hl hr k
    induction k with
    | zero => intro j h1 h2; omega
    | succ k ih =>
      intro j h1 h2
      obtain ⟨s, o, hjs, hsm, ho, e, he, hb, rfl⟩ := succ j h2
      rcases (show s = m ∨ s < m by omega) with rfl | h3
      · exact hr o ho e he hb
      · refine hl.1 s o ho h3 ?_ e he hb
        rw [getD_both (by omega) true false]
        exact ih s (by omega) h3
  -- some below m is not listed: some below m may come up; nothing else does
  have some_ready : ∀ (L : Array Bool), L.size = ops.size → ∀ k j, j < k → j < m → L.getD j true = false → ∃ i, i < m ∧ i ∈ Region.ready md ops L := by
    intro L hs k
    induction k with
    | zero => intro j h; omega
    | succ k ih =>
      intro j hjk hjm hu
      obtain ⟨o, ho⟩ : ∃ o, ops[j]? = some o := ⟨_, Array.getElem?_eq_getElem (show j < ops.size by omega)⟩
      by_cases hall : ∀ e ∈ o.after, Region.binds md e = true → L.getD e.on false = true
      · exact ⟨j, hjm, mem_ready.2 ⟨hu, o, ho, hall⟩⟩
      · simp only [Classical.not_forall] at hall
        obtain ⟨e, he, hb, hne⟩ := hall
        have hlt := back j o ho e he hb
        refine ih e.on (by omega) (by omega) ?_
        rw [getD_both (by omega) true false]
        cases hx : L.getD e.on false with
        | false => rfl
        | true => exact absurd hx hne
  have readyEq : ∀ (L M : Array Bool), L.size = ops.size → Marked m L M → ∀ i, i < m → (i ∈ Region.ready md ops M ↔ i ∈ Region.ready md ops L) := by
    intro L M hs hM i hi
    rw [mem_ready, mem_ready, hM.2 i, if_pos hi]
    refine and_congr Iff.rfl ⟨?_, ?_⟩
    · rintro ⟨o, ho, h⟩
      refine ⟨o, ho, fun e he hb => ?_⟩
      have h1 := back i o ho e he hb
      have h2 := h e he hb
      rw [getD_both (by rw [← hM.1]; omega) false true, hM.2, if_pos (by omega)] at h2
      rwa [getD_both (by omega) false true]
    · rintro ⟨o, ho, h⟩
      refine ⟨o, ho, fun e he hb => ?_⟩
      have h1 := back i o ho e he hb
      have h2 := h e he hb
      rw [getD_both (by omega) false true] at h2
      rw [getD_both (by rw [← hM.1]; omega) false true, hM.2, if_pos (by omega)]
      exact h2
  have highM : ∀ (L M : Array Bool), Marked m L M → ∀ i, i ∈ Region.ready md ops M → i < m := by
    intro L M hM i hi
    have h := (mem_ready.1 hi).1
    rw [hM.2] at h
    by_cases h1 : i < m
    · exact h1
    · rw [if_neg h1] at h; cases h
  have done : ∀ (L : Array Bool), L.size = ops.size → Low md ops m L → (∀ j, j < m → L.getD j true = true) → L = firstOf ops.size m := by
    intro L hs hl h
    apply Array.ext
    · simp [firstOf, hs]
    · intro j h1 h2
      have e : L.getD j true = L[j] := by simp [Array.getD, h1]
      rw [← e]
      simp only [firstOf, List.getElem_toArray, List.getElem_map, List.getElem_range]
      by_cases hj : j < m
      · rw [h j hj]; simp [hj]
      · rw [hl.2 j (by omega) (by omega)]; simp [hj]
  have hlow : ∀ (L : Array Bool), L.size = ops.size → Low md ops m L → (∃ j, j < m ∧ L.getD j true = false) → ∀ i, i ∈ Region.ready md ops L → i < m := by
    rintro L hs hl ⟨j, hj, hu⟩ i hi
    obtain ⟨h0, o, ho, h⟩ := mem_ready.1 hi
    rcases (show i < m ∨ i = m ∨ m < i by omega) with h1 | rfl | h1
    · exact h1
    · have h2 := all L hs hl (fun o' ho' e he hb => by rw [ho] at ho'; cases ho'; exact h e he hb) i j (by omega) hj
      rw [getD_both (by omega) false true, hu] at h2
      cases h2
    · obtain ⟨e, he, hb, hme⟩ := pred i o ho h1
      have h2 := h e he hb
      have h3 := back i o ho e he hb
      have h4 := (Array.getElem?_eq_some_iff.1 ho).1
      rw [getD_both (by omega) false true, hl.2 e.on hme (by omega)] at h2
      cases h2
  intro fuel
  induction fuel with
  | zero =>
    intro L M a w hs hM hl h
    have hall : ∀ j, j < m → L.getD j true = true := fun j hj => by
      cases hx : L.getD j true with
      | true => rfl
      | false =>
        obtain ⟨i, hi, hr⟩ := some_ready L hs (j + 1) j (by omega) hj hx
        have h2 := (readyEq L M hs hM i hi).2 hr
        rw [h.1] at h2
        cases h2
    rw [done L hs hl hall, Nat.zero_add]
    exact h.2
  | succ fuel ih =>
    intro L M a w hs hM hl h
    by_cases hall : ∀ j, j < m → L.getD j true = true
    · have hr : Region.ready md ops M = [] := by
        apply List.eq_nil_iff_forall_not_mem.2
        intro i hi
        have h1 := highM L M hM i hi
        have h2 := (mem_ready.1 hi).1
        rw [hM.2, if_pos h1, hall i h1] at h2
        cases h2
      rw [done L hs hl hall, Nat.add_comm]
      exact wpAnyIn_fuels _ _ _ _ _ (h.1 hr)
    · simp only [Classical.not_forall] at hall
      obtain ⟨j, hj, hne⟩ := hall
      have hu : L.getD j true = false := by
        cases hx : L.getD j true with
        | false => rfl
        | true => exact absurd hx hne
      obtain ⟨i0, hi0, hr0⟩ := some_ready L hs (j + 1) j (by omega) hj hu
      rw [show fuel + 1 + (ops.size - m) = (fuel + (ops.size - m)) + 1 by omega]
      refine ⟨fun h0 => (by rw [h0] at hr0; cases hr0), fun i hi => ?_⟩
      have him := hlow L hs hl ⟨j, hj, hu⟩ i hi
      have h1 := h.2 i ((readyEq L M hs hM i him).2 hi)
      refine wpOpIn_ends (Q' := Cut F n P md ops Q m) (fun _ _ _ h => h) (fun _ _ h => h) (wpOpIn_mono (fun a' w' h3 => ih (L.setIfInBounds i true) (M.setIfInBounds i true) a' w' (by simpa using hs) ?_ ?_ h3) h1)
      · refine ⟨by simpa using hM.1, fun q => ?_⟩
        by_cases hq : i = q
        · subst hq
          rw [if_pos him]
          have h5 : i < L.size := by omega
          have h6 : i < M.size := by rw [← hM.1]; omega
          simp [h5, h6]
        · rw [getD_set_ne true hq, getD_set_ne true hq]; exact hM.2 q
      · refine ⟨fun q o ho hqm hlq e he hb => ?_, fun q hq hqs => ?_⟩
        · by_cases hqi : q = i
          · subst hqi
            obtain ⟨_, o', ho', hall'⟩ := mem_ready.1 hi
            rw [ho] at ho'
            cases ho'
            exact getD_set_true (hall' e he hb)
          · rw [getD_set_ne true (Ne.symm hqi)] at hlq
            exact getD_set_true (hl.1 q o ho hqm hlq e he hb)
        · rw [getD_set_ne true (by omega)]; exact hl.2 q hq hqs
/-- may the first m be walked in the text's order -/
def lexCut (ops : Array Oper) (m : Nat) : Bool := Region.noSelect ops && Region.lexFrom .any ops m 0 ((List.range ops.size).map fun j => decide (m ≤ j)).toArray
theorem wpAnyQIn_lexB {C : World → Prop} {Q : Act → Prop} (hs : Region.noSelect ops = true) : ∀ (l : List Oper) (k : Nat) (listed : Array Bool) (a : Act), (∀ j, j < l.length → l[j]? = ops[k + j]?) →
    Region.lexFrom md ops l.length k listed = true → wpQuietIn F n P ops C Q l a → wpAnyQIn F n P md ops C Q l.length listed a
  | [], _, _, _, _, hB, h => ⟨by simpa [Region.lexFrom] using hB, h⟩
  | o :: l, k, listed, a, hl, hB, h => by
    have h0 : ops[k]? = some o := by simpa using (hl 0 (by simp)).symm
    simp only [List.length_cons, Region.lexFrom, Bool.and_eq_true] at hB
    obtain ⟨⟨hr, hf⟩, hB'⟩ := hB
    have hst : qOpIn F n P ops C k (wpQuietIn F n P ops C Q l) a := by unfold qOpIn; simp only [h0]; exact h
    obtain ⟨v, hy, hK⟩ := yieldsQuiet_of_qOpIn h0 hst
    exact wpAnyQIn_first h0 (Region.noSelect_spec hs) l.length listed a (Region.free_spec h0 hf) (by simpa using hr) hy
      (wpAnyQIn_lexB hs l (k + 1) _ _ (fun j hj => by have := hl (j + 1) (by simpa using hj); simpa [Nat.add_assoc, Nat.add_comm 1 j] using this) hB' hK)
/-- THE LAW, outside a round -/
theorem wpIn_region_cut {a : Act} {w : World} {L : List Oper} (m r : Nat) (M0 : Array Bool) (hr : L.length - m = r) (hM : firstOf L.length m = M0) (hro : F.round = none) (hm : P.follows .mixedOrders = true) (hk : tailOk .any L.toArray m = true) (hB : lexCut L.toArray m = true)
    (h : wpQuietIn F n P L.toArray (fun w' => ∃ k, w' = w.drewN k) (fun a' => ∀ w', (∃ k, w' = w.drewN k) → wpAnyIn F n P .any L.toArray Q r M0 a' w') (L.take m) a) :
    wpAnyIn F n P .any L.toArray Q L.toArray.size (Array.replicate L.toArray.size false) a w.drew := by
  subst hr hM
  have hml : m < L.length := by
    unfold tailOk at hk
    simp only [Bool.and_eq_true, decide_eq_true_eq, List.size_toArray] at hk
    exact hk.1
  unfold lexCut at hB
  simp only [Bool.and_eq_true] at hB
  have hlen : (L.take m).length = m := by simp; omega
  have e1 : L.toArray.size = m + (L.toArray.size - m) := by simp; omega
  rw [show wpAnyIn F n P .any L.toArray Q L.toArray.size = wpAnyIn F n P .any L.toArray Q (m + (L.toArray.size - m)) from congrArg _ e1]
  have hq := wpAnyQIn_lexB (F := F) (n := n) (P := P) (md := .any) (C := fun w' => ∃ k, w' = w.drewN k) hB.1 (L.take m) 0 ((List.range L.toArray.size).map fun j => decide (m ≤ j)).toArray a (fun j hj => by
    rw [List.getElem?_toArray, Nat.zero_add, List.getElem?_take_of_lt (by omega)]) (by rw [hlen]; exact hB.2) h
  rw [hlen] at hq
  refine wpAnyIn_cut (Q := Q) hk m (Array.replicate L.toArray.size false) ((List.range L.toArray.size).map fun j => decide (m ≤ j)).toArray a w.drew (by simp) ⟨by simp, fun j => ?_⟩ ⟨?_, ?_⟩ (wpAnyIn_of_quiet (F := F) hro ?_ m _ a w.drew ⟨1, rfl⟩ hq)
  · by_cases hj : j < L.length
    · simp [hj]
      by_cases h2 : j < m <;> simp [h2] <;> omega
    · simp [hj]
  · intro j o ho hj hl
    have h2 : j < L.length := by omega
    simp [h2] at hl
  · intro j h1 h2
    simp at h2
    simp [h2]
  · intro a' w' hw' h'
    have := h' w' hw'
    simpa [Cut] using this
/-- .. and within one -/
theorem wpIn_region_cut_round {l : Nat} {id : Nat} {a : Act} {w : World} {L : List Oper} (m r : Nat) (M0 : Array Bool) (hr : L.length - m = r) (hM : firstOf L.length m = M0) (hro : F.round = none) (hm : P.follows .mixedOrders = true) (hk : tailOk .any L.toArray m = true) (hB : lexCut L.toArray m = true)
    (hd : L.all (fun o => match o.op with | .defer _ => false | _ => true) = true)
    (h : wpQuietIn F n P L.toArray (fun w' => ∃ k, w' = w.drewN k) (fun a' => ∀ w', (∃ k, w' = w.drewN k) → wpAnyIn F n P .any L.toArray Q r M0 a' w') (L.take m) a) :
    (Code.region id L.toArray true).wpIn (F.inRound l) n P Q a w := by
  refine wpIn_region_any hm (wpAnyIn_round l hro (fun i o ho c e => ?_) _ _ _ _ (wpIn_region_cut m r M0 hr hM hro hm hk hB h))
  rw [List.getElem?_toArray] at ho
  have h1 := List.all_eq_true.1 hd o (List.mem_of_getElem? ho)
  rw [e] at h1
  cases h1
end
end Go.Proofs.YtkncfeijlmomaaaGreatDoor

namespace Go.Proofs.YtkncfeijlmomaaaGreatDoor
open Go.RowKit Go.Sort
set_option linter.unusedSimpArgs false
set_option linter.unusedVariables false
set_option maxRecDepth 20000
attribute [local go_sem] Oper.semAt_some

/-- the pieces of a kind that attack a square -/
def isIt (P : Nat → Int) (k d t : Int) : Bool := pe (P (2 * t.toNat)) (P (2 * t.toNat + 1)) k d
def atkK (P : Nat → Int) (s d : Int) (k : Nat) : List Int := (attL P s k (oth d)).filter (isIt P k d)
def atkUp (P : Nat → Int) (s d : Int) (n : Nat) : List Int := (List.range n).flatMap fun i => atkK P s d (i + 1)
/-- all that attack it, kind by kind -/
def atkL (P : Nat → Int) (s d : Int) : List Int := if sideB d then atkUp P s d 6 else []
theorem atkUp_succ (P : Nat → Int) (s d : Int) (n : Nat) : atkUp P s d (n + 1) = atkUp P s d n ++ atkK P s d (n + 1) := by
  unfold atkUp; rw [List.range_succ, List.flatMap_append]; simp
theorem atkUp_pre (P : Nat → Int) (s d : Int) {n m : Nat} (h : n ≤ m) : atkUp P s d n <+: atkUp P s d m := by
  induction m with
  | zero => obtain rfl : n = 0 := by omega
            exact List.prefix_refl _
  | succ m ih =>
    rcases (show n ≤ m ∨ n = m + 1 by omega) with h1 | rfl
    · rw [atkUp_succ]; exact (ih h1).trans (List.prefix_append _ _)
    · exact List.prefix_refl _
/-- what the iterator reads -/
structure BR (b fb sb bb : Nat) (P : Nat → Int) (s d : Int) (W : World) : Prop where
  a : AR b fb sb P s W
  y : W.heap[bb]? = some (.cells #[.int .i64 d] 23 (0, 0))
theorem BR.same {b fb sb bb : Nat} {P : Nat → Int} {s d : Int} {A B : World} (h : BR b fb sb bb P s d A) (hs : A.heap.size ≤ B.heap.size) (hx : ∀ k, AN b fb sb bb k → B.heap[k]? = A.heap[k]?) : BR b fb sb bb P s d B :=
  ⟨⟨(hx _ (.inr (.inl rfl))).trans h.a.f, (hx _ (.inr (.inr (.inl rfl)))).trans h.a.s, h.a.p.same hs (hx _ (.inl rfl)), (h.a.t.same (hx _ (.inr (.inr (.inr (.inr rfl)))))).mono hs⟩, (hx _ (.inr (.inr (.inr (.inl rfl))))).trans h.y⟩
theorem BR.lt {b fb sb bb : Nat} {P : Nat → Int} {s d : Int} {A : World} (h : BR b fb sb bb P s d A) : ∀ k, AN b fb sb bb k → k < A.heap.size := by
  rintro q (rfl | rfl | rfl | rfl | rfl)
  · exact h.a.p.lt
  · exact al_lt h.a.f
  · exact al_lt h.a.s
  · exact al_lt h.y
  · exact h.a.t.lt
theorem BR.reads (b fb sb bb : Nat) (P : Nat → Int) (s d : Int) : ∀ Y A B, BR b fb sb bb P s d A → (∀ q, Y q → ¬ AN b fb sb bb q) → Turns Y A B → BR b fb sb bb P s d B := fun Y A B h hx ht =>
  h.same ht.size fun k hk => ht.block k (h.lt k hk) (fun e => hx k e hk)
theorem BR.go {b fb sb bb : Nat} {P : Nat → Int} {s d : Int} {A B : World} (h : BR b fb sb bb P s d A) (g : Below A.heap.size A B) : BR b fb sb bb P s d B := h.same g.size fun k hk => g.block k (h.lt k hk)
theorem attackers_any (b : Nat) (s d : Int) (w : World) :
    Calls Tryz.prog 153 #[.pointer (some ⟨b, 0, none⟩), .int .i64 s, .int .i64 d] w fun e w' =>
      e = .returned (.func (.func 176) #[] #[.pointer (some ⟨w.heap.size + 2, 0, none⟩), .pointer (some ⟨w.heap.size, 0, none⟩), .pointer (some ⟨w.heap.size + 1, 0, none⟩)]) ∧
      w' = ((w.alloc (.cells #[.pointer (some ⟨b, 0, none⟩)] 186)).alloc (.cells #[.int .i64 s] 3)).alloc (.cells #[.int .i64 d] 23) := by
  go_enter Tryz.func153, Tryz.ntmps153
  go_wp2
  go_ret
  exact ⟨rfl, rfl⟩
theorem below_drewN (w : World) (n : Nat) : Below w.heap.size w (w.drewN n) := by
  induction n with
  | zero => exact Below.refl _ _
  | succ n ih => exact ih.trans (Below.refl _ _).drew
theorem al_lt' {W : World} {p : Nat × Obj} (h : W.heap[p.1]? = some p.2) : p.1 < W.heap.size := (Array.getElem?_eq_some_iff.1 h).1
def kindAt (a : Act) (w : World) : Int := match a.tmps.getD 5 undef with
  | .pointer (some p) => intOf ((w.cell? p).getD undef)
  | _ => 0
set_option maxHeartbeats 8000000 in
set_option maxRecDepth 100000 in
theorem attackers_comes (b fb sb bb : Nat) (P : Nat → Int) (s by' : Int) (w : World) (hbr : BR b fb sb bb P s by' w) :
    Comes Tryz.prog 176 #[.pointer (some ⟨bb, 0, none⟩), .pointer (some ⟨fb, 0, none⟩), .pointer (some ⟨sb, 0, none⟩)] (AN b fb sb bb) (Value.int .i64) (atkL P s by') w := by
  refine ⟨hbr.lt, fun l J Jx X W hW hXN hJ hJx hlt hY h0 => ?_⟩
  have HB0 := Lib.hid (hbr.go hW)
  obtain ⟨y0, yf, _⟩ := row1 (sl_go hbr.y hW)
  have HJ := Lib.hid hJ
  have HJX := Lib.hid hJx
  have HLT := Lib.hid hlt
  have HY := Lib.hid hY
  have HR := Lib.hid (BR.reads b fb sb bb P s by')
  have HK := Lib.hid (show Keep J (BR b fb sb bb P s by') (AN b fb sb bb) [] [] X W from ⟨h0, HB0.out, fun p hp => (by cases hp), fun q hq => ⟨hXN q hq, fun p hp => (by cases hp)⟩⟩)
  have HL := Lib.hid (show atkL P s by' = if sideB by' then atkUp P s by' 6 else [] from rfl)
  have HW0 := Lib.hid (Nat.le_refl W.heap.size)
  clear hJ hJx hlt hY h0 hXN hW hbr
  refine calls_of_marks Tryz.func176 rfl ?_
  simp only [Tryz.ntmps176, List.size_toArray, List.length_cons, List.length_nil, Nat.reduceAdd, Nat.reduceSub, Array.replicate_succ, Array.replicate_zero, List.push_toArray, List.append_toArray, List.nil_append, List.cons_append]
  go_wp2_with fail
  refine (aSide_any by' _).mono ?_
  cases hsd : sideB by'
  · have HE := Lib.hid (show atkL P s by' = [] by rw [HL.out, hsd]; rfl)
    clear hsd
    rintro e w1 ⟨rfl, rfl⟩
    have HK1 := Lib.hid (HK.out.go HR.out HJ.out (below_new (w := W) (.cells #[.func (.yield l) #[] #[]] 118)))
    clear HK HB0 y0 yf
    go_wp2
    exact ⟨_, results_none rfl _ _ _, ⟨⟨_, rfl⟩, X, .inl (by rw [HE.out]; exact HK1.out.j)⟩⟩
  · have HE := Lib.hid (show atkL P s by' = atkUp P s by' 6 by rw [HL.out, hsd]; rfl)
    have HSD := Lib.hid hsd
    clear hsd HL
    rintro e w1 ⟨rfl, rfl⟩
    have HK1 := Lib.hid (HK.out.add (t := W.heap.size) (o := .cells #[.func (.yield l) #[] #[]] 118) HR.out HJ.out HLT.out rfl)
    have HK2 := Lib.hid (HK1.out.add (t := W.heap.size + 1) (o := .cells #[.int .i64 1] 22) HR.out HJ.out HLT.out (by simp))
    clear HK HB0 y0 yf HK1
    go_wp2
    obtain ⟨yb, hyb⟩ : ∃ y, W.heap.size = y := ⟨_, rfl⟩
    rw [hyb] at HK2 HW0 HJ HJX
    simp only [hyb]
    refine wp_loop (fun a w => ∃ (k kb : Nat) (Ds : List Nat) (Y : Nat → Prop) (u6 u10 u11 u12 u13 u14 u15 u16 u17 u18 u19 u20 u21 u22 u23 u24 u25 u26 u27 u28 u29 u30 u31 u32 u33 u34 u35 u36 u37 u38 u39 : Value), 1 ≤ k ∧ k ≤ 7 ∧ Ds.Nodup ∧ (∀ D ∈ Ds, yb ≤ D) ∧ yb ≤ w.heap.size ∧ a = { tmps := #[.func (.yield l) #[] #[], .pointer (some ⟨bb, 0, none⟩), .pointer (some ⟨fb, 0, none⟩), .pointer (some ⟨sb, 0, none⟩), .pointer (some ⟨yb, 0, none⟩), .pointer (some ⟨kb, 0, none⟩), u6, .int .i64 by', .bool true, .bool false, u10, u11, u12, u13, u14, u15, u16, u17, u18, u19, u20, u21, u22, u23, u24, u25, u26, u27, u28, u29, u30, u31, u32, u33, u34, u35, u36, u37, u38, u39], defers := Ds.map markOf } ∧ Keep J (BR b fb sb bb P s by') (AN b fb sb bb) ((kb, .cells #[.int .i64 k] 22 (0, 0)) :: (yb, .cells #[.func (.yield l) #[] #[]] 118 (0, 0)) :: Ds.map fun D => (D, .deferred (some []))) (atkUp P s by' (k - 1)) Y w)
      (fun a w => 7 - (kindAt a w).toNat) ?start ?round
    case start => exact ⟨1, yb + 1, [], X, undef, undef, undef, undef, undef, undef, undef, undef, undef, undef, undef, undef, undef, undef, undef, undef, undef, undef, undef, undef, undef, undef, undef, undef, undef, undef, undef, undef, undef, undef, undef, by omega, by omega, List.nodup_nil, (fun D hD => by cases hD), by simp; omega, rfl, HK2.out⟩
    case round =>
      clear HK2 HW0
      rintro a wr ⟨k, kb, Ds, Y, u6, u10, u11, u12, u13, u14, u15, u16, u17, u18, u19, u20, u21, u22, u23, u24, u25, u26, u27, u28, u29, u30, u31, u32, u33, u34, u35, u36, u37, u38, u39, hk1, hk7, hnd, hdy, hyw, rfl, hkeep⟩
      have HK := Lib.hid hkeep
      have HND := Lib.hid hnd
      have HDY := Lib.hid hdy
      have HYW := Lib.hid hyw
      have hh := hkeep.head
      dsimp only at hh
      obtain ⟨k0, kf, _⟩ := row1 hh
      have hmu : kindAt { tmps := #[.func (.yield l) #[] #[], .pointer (some ⟨bb, 0, none⟩), .pointer (some ⟨fb, 0, none⟩), .pointer (some ⟨sb, 0, none⟩), .pointer (some ⟨yb, 0, none⟩), .pointer (some ⟨kb, 0, none⟩), u6, .int .i64 by', .bool true, .bool false, u10, u11, u12, u13, u14, u15, u16, u17, u18, u19, u20, u21, u22, u23, u24, u25, u26, u27, u28, u29, u30, u31, u32, u33, u34, u35, u36, u37, u38, u39], defers := Ds.map markOf } wr = (k : Int) := by simp [kindAt, k0, intOf]
      have HMU := Lib.hid hmu
      clear hkeep hnd hdy hyw hh hmu
      by_cases hlt : k < 7
      · have m1 : (k : Int) ≤ 6 := by omega
        have m0 : (1 : Int) ≤ k := by omega
        obtain ⟨f0, ff, _⟩ := row1 HK.out.r.a.f
        obtain ⟨s0, sf, _⟩ := row1 HK.out.r.a.s
        obtain ⟨d0, df, _⟩ := row1 HK.out.r.y
        go_upto_region 5 with (fail)
        have c0 := cell_regrown k0
        have c1 := cell_regrown f0
        have c2 := cell_regrown s0
        have c3 := cell_regrown d0
        have c18 := regrown_same (w := wr) (fun W => other_any by' W)
        refine wp_region_quiet_store 6 (by kernel_rfl) rfl rfl (by kernel_rfl) (by kernel_rfl) (C := fun W' => ∃ p : Regrown, W' = grow (redrawn wr p.d) p.os) (regrown_self _) ?_
        simp only [List.take_succ_cons, List.take_zero]
        repeat (quiet_step (exact c18 _ _))
        refine wpQuiet_nil ?_
        rintro W4 ⟨q, rfl⟩
        refine ⟨by rfl, ?_⟩
        have b4 := below_regrown wr q.d q.os
        have HK4 := Lib.hid (HK.out.go HR.out HJ.out b4)
        have HYW4 := Lib.hid (Nat.le_trans HYW.out b4.size)
        clear b4 c0 c1 c2 c3 c18 f0 ff s0 sf d0 df k0 kf HK HYW
        generalize grow (redrawn wr q.d) q.os = W4 at *
        go_simp
        refine (attacked_any b s k (oth by') W4).mono ?_
        rintro e w5 ⟨rfl, hw5⟩
        obtain ⟨H, hH⟩ : ∃ h, W4.heap.size = h := ⟨_, rfl⟩
        have hb5 : Below W4.heap.size W4 w5 := by rw [hw5]; exact ((below_new _).alloc (by simp) _).alloc (by simp; omega) _
        have hz5 : w5.heap.size = W4.heap.size + 3 := by rw [hw5]; simp
        have hfb : w5.heap[H]? = some (.cells #[.pointer (some ⟨b, 0, none⟩)] 186 (0, 0)) := by rw [hw5]; exact al_old (al_old (sl_at hH.symm) _) _
        have hsb : w5.heap[H + 1]? = some (.cells #[.int .i64 s] 3 (0, 0)) := by rw [hw5]; exact al_old (sl_at (by simp [hH])) _
        have hxb : w5.heap[H + 2]? = some (.cells #[.int .i64 k, .int .i64 (oth by')] 25 (0, 0)) := by rw [hw5]; exact sl_at (by simp [hH])
        have HK5 := Lib.hid (HK4.out.go HR.out HJ.out hb5)
        have hk4 := HK4.out
        have har : AR b H (H + 1) P s w5 := ⟨hfb, hsb, hk4.r.a.p.go hb5, (hk4.r.a.t.below hb5).mono hb5.size⟩
        have HDJ := Lib.hid (show ∀ q, Y q → ¬ AN b H (H + 1) (H + 2) q from fun q hq hn => by
          have h1 := HLT.out _ _ _ hk4.j q hq
          have h2 := (hk4.x q hq).1
          rcases hn with e | e | e | e | e
          · exact h2 (.inl e)
          · omega
          · omega
          · omega
          · exact h2 (.inr (.inr (.inr (.inr e)))))
        have HO := Lib.hid (fun p hp => Nat.lt_of_lt_of_le (al_lt' (hk4.o p hp)) hb5.size)
        have HN := Lib.hid (fun q hq => Nat.lt_of_lt_of_le (hk4.r.lt q hq) hb5.size)
        have HYW5 := Lib.hid (Nat.le_trans HYW4.out hb5.size)
        have HC := Lib.hid (attacked_comes b H (H + 1) (H + 2) P s k (oth by') w5 har hxb)
        rw [hH]
        clear hb5 hz5 hfb hsb hxb hk4 har HK4 hH hw5 HYW4
        go_wp2
        refine wp_range_over (gf := 204) (lb := #[.pointer (some ⟨H + 2, 0, none⟩), .pointer (some ⟨H + 1, 0, none⟩), .pointer (some ⟨H, 0, none⟩)]) rfl (enters_of Tryz.func204 (by kernel_rfl) rfl) HC.out (Below.refl _ _) rfl
          (fun pi Z W => Keep J (BR b fb sb bb P s by') (AN b fb sb bb) ((kb, .cells #[.int .i64 k] 22 (0, 0)) :: (yb, .cells #[.func (.yield l) #[] #[]] 118 (0, 0)) :: Ds.map fun D => (D, .deferred (some []))) (atkUp P s by' (k - 1) ++ pi.filter (isIt P k by')) Z W)
          (fun c pi Z W => c = .ret ∧ Jx (atkUp P s by' (k - 1) ++ pi.filter (isIt P k by')) Z W ∧ atkUp P s by' (k - 1) ++ pi.filter (isIt P k by') <+: atkL P s by' ∧ ∀ D ∈ Ds, W.heap[D]? = some (.deferred (some [])) ∧ ¬ Z D)
          (fun pi Z A B h hs => h.spare (fun _ _ hz hx h => h.same hz hx) HJ.out HYW5.out HN.out h.r.lt HO.out hs)
          (fun c pi Z A B h hs => ⟨h.1, HJX.out _ _ _ _ h.2.1 (hs.mono HYW5.out), h.2.2.1, fun D hD => ⟨(hs.block D (Array.getElem?_eq_some_iff.1 (h.2.2.2 D hD).1).1 (.inl (HO.out (D, .deferred (some [])) (List.mem_cons_of_mem _ (List.mem_cons_of_mem _ (List.mem_map.2 ⟨D, hD, rfl⟩)))))).trans (h.2.2.2 D hD).1, (h.2.2.2 D hD).2⟩⟩)
          (fun pi Z A h => HLT.out _ _ _ h.j) (X0 := Y) (by rw [List.filter_nil, List.append_nil]; exact HK5.out) HDJ.out
          (fun x => { tmps := #[.func (.yield l) #[] #[], .pointer (some ⟨bb, 0, none⟩), .pointer (some ⟨fb, 0, none⟩), .pointer (some ⟨sb, 0, none⟩), .pointer (some ⟨yb, 0, none⟩), .pointer (some ⟨kb, 0, none⟩), .int .i64 x, .int .i64 by', .bool true, .bool false, .int .i64 (k : Int), .bool true, u12, u13, .pointer (some ⟨b, 0, none⟩), .int .i64 s, .int .i64 (k : Int), .int .i64 by', .int .i64 (oth by'), .agg #[.int .i64 (k : Int), .int .i64 (oth by')], .func (.func 204) #[] #[.pointer (some ⟨H + 2, 0, none⟩), .pointer (some ⟨H + 1, 0, none⟩), .pointer (some ⟨H, 0, none⟩)], .int .i64 x, u22, u23, u24, u25, u26, u27, u28, u29, u30, u31, u32, u33, u34, u35, u36, u37, u38, u39], defers := [] }) ?assign ?body ?done ?stop
        case assign =>
          intro l' x W' K hK
          gi_wp2
          exact hK
        case body =>
          clear HK5 HDJ HC
          intro l' pi x Z W' hk hpre hzw
          have hsq := attL_sq P s k (oth by') x (hpre.subset (by simp))
          obtain ⟨x0, x1⟩ := (sq_iff x).1 hsq
          obtain ⟨n, rfl⟩ := Int.eq_ofNat_of_zero_le x0
          have HKB := Lib.hid hk
          have hh := hk.head
          have hy := hk.next
          dsimp only at hh hy
          obtain ⟨k0, kf, _⟩ := row1 hh
          obtain ⟨y0, yf, _⟩ := row1 hy
          obtain ⟨f0, ff, _⟩ := row1 hk.r.a.f
          obtain ⟨d0, df, _⟩ := row1 hk.r.y
          have hn64 : n < 64 := by omega
          have e1 := hk.r.a.p.cell (n * 2) (by omega)
          have e2 := hk.r.a.p.cell (n * 2 + 1) (by omega)
          have HIT := Lib.hid (show isIt P k by' n = pe (P (n * 2)) (P (n * 2 + 1)) k by' by unfold isIt; rw [Int.toNat_natCast, Nat.mul_comm 2 n])
          generalize P (n * 2) = pk at e1 HIT
          generalize P (n * 2 + 1) = pd at e2 HIT
          have HPF := Lib.hid (show isIt P k by' n = true → atkUp P s by' (k - 1) ++ pi.filter (isIt P k by') ++ [(n : Int)] <+: atkL P s by' from fun ht => by
            have h1 : pi.filter (isIt P k by') ++ [(n : Int)] <+: atkK P s by' k := by
              have h2 := hpre.filter (isIt P k by')
              rw [List.filter_append, List.filter_cons_of_pos ht, List.filter_nil] at h2
              exact h2
            have h3 : atkUp P s by' k = atkUp P s by' (k - 1) ++ atkK P s by' k := by
              have h4 := atkUp_succ P s by' (k - 1)
              rw [show k - 1 + 1 = k by omega] at h4
              exact h4
            rw [HE.out]
            refine List.IsPrefix.trans ?_ (atkUp_pre P s by' (show k ≤ 6 by omega))
            rw [h3, List.append_assoc]
            exact (List.prefix_append_right_inj _).2 h1)
          have HFI := Lib.hid (show pi.filter (isIt P k by') ++ (if isIt P k by' n then [(n : Int)] else []) = (pi ++ [(n : Int)]).filter (isIt P k by') by
            rw [List.filter_append]; cases hit : isIt P k by' n <;> simp [hit])
          clear hh hy hk hpre hsq
          obtain ⟨v, hv⟩ : ∃ v, pe pk pd k by' = v := ⟨_, rfl⟩
          rw [hv] at HIT
          rw [HIT.out] at HPF HFI
          clear HIT
          gi_wp2
          refine wpIn_region_cut_round 14 3 #[true, true, true, true, true, true, true, true, true, true, true, true, true, true, false, false, false] (by rfl) (by kernel_rfl) rfl (by kernel_rfl) (by kernel_rfl) (by kernel_rfl) (by rfl) ?_
          simp only [List.take_succ_cons, List.take_zero]
          cases v
          · repeat (gi_big_quiet_step (fail))
            refine wpQuietIn_nil ?_
            rintro _ ⟨nq, rfl⟩
            have HKD := Lib.hid (HKB.out.go HR.out HJ.out (below_drewN _ nq))
            have HB2 := Lib.hid (below_drewN W' nq)
            generalize W'.drewN nq = W7 at *
            refine wpAnyIn_ready (rs := [14]) (by kernel_rfl) (by simp) (AllReadyIn.cons rfl (fun K hK => ?_) AllReadyIn.nil)
            go_simp
            (try refine ⟨fun _ _ => trivial, ?_⟩)
            refine hK _ _ ?_
            clear hK K
            refine wpAnyIn_ready (rs := [15]) (by kernel_rfl) (by simp) (AllReadyIn.cons rfl (fun K hK => ?_) AllReadyIn.nil)
            go_simp
            (try refine ⟨fun _ _ => trivial, ?_⟩)
            refine hK _ _ ?_
            clear hK K
            refine wpAnyIn_ready (rs := [16]) (by kernel_rfl) (by simp) (AllReadyIn.cons rfl (fun K hK => ?_) AllReadyIn.nil)
            go_simp
            (try refine ⟨fun _ _ => trivial, ?_⟩)
            refine hK _ _ ?_
            clear hK K
            refine wpAnyIn_done (by kernel_rfl) ?_ _
            gi_wp2
            exact ⟨Z, Turns.of_below HB2.out, fun q hq => .inl hq, by dsimp only; rw [← HFI.out]; simpa using HKD.out⟩
          · repeat (gi_big_quiet_step (fail))
            refine wpQuietIn_nil ?_
            rintro _ ⟨nq, rfl⟩
            have HKD := Lib.hid (HKB.out.go HR.out HJ.out (below_drewN _ nq))
            have HB2 := Lib.hid (below_drewN W' nq)
            generalize W'.drewN nq = W7 at *
            obtain ⟨fn, tmps, assign, body, hy, hR8⟩ := HY.out _ (n : Int) Z W7 HKD.out.j (HPF.out rfl)
            refine wpAnyIn_ready (rs := [14]) (by kernel_rfl) (by simp) (AllReadyIn.cons rfl (fun K hK => ?_) AllReadyIn.nil)
            go_simp
            refine ⟨rfl, (roundIn_wide hR8).mono ?_⟩
            clear hR8 hy
            rintro e B ⟨Z2, hT, hZ2, (⟨rfl, hJB⟩ | ⟨rfl, hJB⟩)⟩
            · have HK8 := Lib.hid (HKD.out.turn HR.out HKD.out.r.lt hT hZ2 hJB)
              have HT8 := Lib.hid ((Turns.of_below (X := Z) HB2.out).trans hT fun q hq => .inl hq)
              have HZ8 := Lib.hid (show ∀ q, Z2 q → Z q ∨ W'.heap.size ≤ q from fun q hq => (hZ2 q hq).imp id fun h => Nat.le_trans HB2.out.size h)
              clear hT hZ2 hJB HKB HKD HB2
              refine hK _ _ ?_
              clear hK K
              refine wpAnyIn_ready (rs := [15]) (by kernel_rfl) (by simp) (AllReadyIn.cons rfl (fun K hK => ?_) AllReadyIn.nil)
              go_simp
              (try refine ⟨fun _ _ => trivial, ?_⟩)
              refine hK _ _ ?_
              clear hK K
              refine wpAnyIn_ready (rs := [16]) (by kernel_rfl) (by simp) (AllReadyIn.cons rfl (fun K hK => ?_) AllReadyIn.nil)
              go_simp
              (try refine ⟨fun _ _ => trivial, ?_⟩)
              refine hK _ _ ?_
              clear hK K
              refine wpAnyIn_done (by kernel_rfl) ?_ _
              gi_wp2
              exact ⟨Z2, HT8.out, HZ8.out, by dsimp only; rw [← HFI.out, ← List.append_assoc]; exact HK8.out⟩
            · have HT8 := Lib.hid ((Turns.of_below (X := Z) HB2.out).trans hT fun q hq => .inl hq)
              have HZ8 := Lib.hid (show ∀ q, Z2 q → Z q ∨ W'.heap.size ≤ q from fun q hq => (hZ2 q hq).imp id fun h => Nat.le_trans HB2.out.size h)
              have HJ8 := Lib.hid hJB
              have HD8 := Lib.hid (show ∀ D ∈ Ds, B.heap[D]? = some (.deferred (some [])) ∧ ¬ Z2 D from fun D hD => by
                have hm : (D, Obj.deferred (some [])) ∈ ((kb, .cells #[.int .i64 k] 22 (0, 0)) :: (yb, .cells #[.func (.yield l) #[] #[]] 118 (0, 0)) :: Ds.map fun D => (D, .deferred (some []))) := List.mem_cons_of_mem _ (List.mem_cons_of_mem _ (List.mem_map.2 ⟨D, hD, rfl⟩))
                have h1 := HKD.out.o _ hm
                have hnz : ¬ Z D := fun hz => (HKD.out.x D hz).2 _ hm rfl
                have hlt := (Array.getElem?_eq_some_iff.1 h1).1
                exact ⟨(hT.block D hlt hnz).trans h1, fun hz => by rcases hZ2 D hz with h2 | h2; exact hnz h2; exact absurd h2 (by simpa using hlt)⟩)
              clear hT hZ2 hJB HKB HKD HB2
              refine hK _ _ ?_
              clear hK K
              refine wpAnyIn_ready (rs := [15]) (by kernel_rfl) (by simp) (AllReadyIn.cons rfl (fun K hK => ?_) AllReadyIn.nil)
              go_simp
              (try refine ⟨fun _ _ => trivial, ?_⟩)
              refine hK _ _ ?_
              clear hK K
              refine wpAnyIn_ready (rs := [16]) (by kernel_rfl) (by simp) (AllReadyIn.cons rfl (fun K hK => ?_) AllReadyIn.nil)
              go_simp
              (try refine ⟨fun _ _ => trivial, ?_⟩)
              refine hK _ _ ?_
              clear hK K
              refine wpAnyIn_done (by kernel_rfl) ?_ _
              gi_wp2
              refine ⟨Z2, HT8.out, HZ8.out, rfl, ?_, ?_, HD8.out⟩
              · rw [← HFI.out, ← List.append_assoc]; exact HJ8.out
              · rw [← HFI.out, ← List.append_assoc]; exact HPF.out (by first | rfl | trivial)
        case done =>
          intro Y2 B hk hd hny _
          have hh := hk.head
          dsimp only at hh
          obtain ⟨k0, kf, _⟩ := row1 hh
          have HK6 := Lib.hid (((hk.drop).put (p := (w5.heap.size, .deferred (some []))) hd hny).add (t := B.heap.size) (o := .cells #[.int .i64 ((k + 1 : Nat) : Int)] 22 (0, 0)) HR.out HJ.out HLT.out rfl)
          have HND2 := Lib.hid (show (w5.heap.size :: Ds).Nodup from List.nodup_cons.2 ⟨fun hm => by
            have := HO.out (w5.heap.size, .deferred (some [])) (List.mem_cons_of_mem _ (List.mem_cons_of_mem _ (List.mem_map.2 ⟨_, hm, rfl⟩)))
            simp at this, HND.out⟩)
          have HZB := Lib.hid (show yb ≤ B.heap.size by have h1 := (Array.getElem?_eq_some_iff.1 hd).1; have := HYW5.out; omega)
          have HUP := Lib.hid (show atkUp P s by' (k + 1 - 1) = atkUp P s by' (k - 1) ++ (attL P s k (oth by')).filter (isIt P k by') by
            have h4 := atkUp_succ P s by' (k - 1)
            rw [show k - 1 + 1 = k by omega] at h4
            rw [Nat.add_sub_cancel, h4]; rfl)
          clear hh hd hny HK5 HDJ HC hk
          go_wp2
          refine ⟨⟨k + 1, B.heap.size, w5.heap.size :: Ds, Y2, u6, .int .i64 (k : Int), .bool true, .int .i64 (k : Int), .int .i64 ((k : Int) + 1), .pointer (some ⟨b, 0, none⟩), .int .i64 s, .int .i64 (k : Int), .int .i64 by', .int .i64 (oth by'), .agg #[.int .i64 (k : Int), .int .i64 (oth by')], .func (.func 204) #[] #[.pointer (some ⟨H + 2, 0, none⟩), .pointer (some ⟨H + 1, 0, none⟩), .pointer (some ⟨H, 0, none⟩)], u21, u22, u23, u24, u25, u26, u27, u28, u29, u30, u31, u32, u33, u34, u35, u36, u37, u38, .int .i64 (k : Int), by omega, by omega, HND2.out, ?_, by simp; have := HZB.out; omega, by go_num, ?_⟩, ?_⟩
          · intro D hD
            rcases List.mem_cons.1 hD with rfl | hD
            · exact HYW5.out
            · exact HDY.out D hD
          · rw [HUP.out]
            refine HK6.out.sub fun p hp => ?_
            rcases List.mem_cons.1 hp with rfl | hp
            · exact List.mem_cons_self ..
            · rcases List.mem_cons.1 hp with rfl | hp
              · exact List.mem_cons_of_mem _ (List.mem_cons_of_mem _ (List.mem_cons_self ..))
              · rcases List.mem_cons.1 hp with rfl | hp
                · exact List.mem_cons_of_mem _ (List.mem_cons_self ..)
                · exact List.mem_cons_of_mem _ (List.mem_cons_of_mem _ (List.mem_cons_of_mem _ hp))
          · rw [HMU.out]
            have hnew : kindAt { tmps := #[.func (.yield l) #[] #[], .pointer (some ⟨bb, 0, none⟩), .pointer (some ⟨fb, 0, none⟩), .pointer (some ⟨sb, 0, none⟩), .pointer (some ⟨yb, 0, none⟩), .pointer (some ⟨B.heap.size, 0, none⟩), u6, .int .i64 by', .bool true, .bool false, .int .i64 (k : Int), .bool true, .int .i64 (k : Int), .int .i64 ((k : Int) + 1), .pointer (some ⟨b, 0, none⟩), .int .i64 s, .int .i64 (k : Int), .int .i64 by', .int .i64 (oth by'), .agg #[.int .i64 (k : Int), .int .i64 (oth by')], .func (.func 204) #[] #[.pointer (some ⟨H + 2, 0, none⟩), .pointer (some ⟨H + 1, 0, none⟩), .pointer (some ⟨H, 0, none⟩)], u21, u22, u23, u24, u25, u26, u27, u28, u29, u30, u31, u32, u33, u34, u35, u36, u37, u38, .int .i64 (k : Int)], defers := { target := .collected w5.heap.size, args := #[] } :: Ds.map markOf } (B.alloc (.cells #[.int .i64 ((k : Int) + 1)] 22)) = (k : Int) + 1 := by
              unfold kindAt
              simp only [Array.getD_eq_getD_getElem?, List.getElem?_toArray, List.getElem?_cons_succ, List.getElem?_cons_zero, Option.getD_some]
              rw [(row1 (sl_at (W := B) (o := .cells #[.int .i64 ((k : Int) + 1)] 22 (0, 0)) rfl)).1]
              rfl
            rw [hnew]
            omega
        case stop =>
          rintro c pi Y2 B hpre ⟨rfl, hj, hp2, hds⟩ hd hny _
          have HND2 := Lib.hid (show (w5.heap.size :: Ds).Nodup from List.nodup_cons.2 ⟨fun hm => by
            have := HO.out (w5.heap.size, .deferred (some [])) (List.mem_cons_of_mem _ (List.mem_cons_of_mem _ (List.mem_map.2 ⟨_, hm, rfl⟩)))
            simp at this, HND.out⟩)
          have HJ8 := Lib.hid hj
          have HP8 := Lib.hid hp2
          have HD8 := Lib.hid hds
          have HD9 := Lib.hid hd
          have HY9 := Lib.hid hny
          clear HK5 HDJ HC hj hp2 hpre hds hd hny
          go_wp2
          refine leaves_marks (T := fun W' => Jx (atkUp P s by' (k - 1) ++ pi.filter (isIt P k by')) Y2 W') (G := fun D => ¬ Y2 D ∧ yb ≤ D) (fun D W' hg hj _ => HJX.out _ _ _ _ hj (spares_putObj _ hg.2 hg.1)) (fun W' hj => ⟨_, results_none rfl _ _ _, ⟨⟨_, rfl⟩, Y2, .inr ⟨_, HP8.out, hj⟩⟩⟩) (w5.heap.size :: Ds) _ HND2.out (fun D hD => ?_) HJ8.out
          rcases List.mem_cons.1 hD with rfl | hD
          · exact ⟨HD9.out, HY9.out, HYW5.out⟩
          · exact ⟨(HD8.out D hD).1, (HD8.out D hD).2, HDY.out D hD⟩
      · obtain rfl : k = 7 := by omega
        go_wp2
        refine leaves_marks (T := fun W' => J (atkUp P s by' 6) Y W') (G := fun D => ¬ Y D ∧ yb ≤ D) (fun D W' hg hj _ => HJ.out _ _ _ _ hj (spares_putObj _ hg.2 hg.1)) (fun W' hj => ⟨_, results_none rfl _ _ _, ⟨⟨_, rfl⟩, Y, .inl (by rw [HE.out]; exact hj)⟩⟩) Ds _ HND.out (fun D hD => ?_) HK.out.j
        have hm : (D, Obj.deferred (some [])) ∈ (kb, Obj.cells #[.int .i64 7] 22 (0, 0)) :: (yb, Obj.cells #[.func (.yield l) #[] #[]] 118 (0, 0)) :: Ds.map fun D => (D, Obj.deferred (some [])) := List.mem_cons_of_mem _ (List.mem_cons_of_mem _ (List.mem_map.2 ⟨D, hD, rfl⟩))
        exact ⟨HK.out.o _ hm, fun hy => (HK.out.x D hy).2 _ hm rfl, HDY.out D hD⟩
end Go.Proofs.YtkncfeijlmomaaaGreatDoor
