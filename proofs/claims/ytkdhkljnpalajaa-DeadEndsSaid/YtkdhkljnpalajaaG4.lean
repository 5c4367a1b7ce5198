/-
  Merged: Tail, Bq.
-/
import Derived.Test.YtkdhkljnpalajaaProg
import Derived.WalkKit
import Derived.WalkSpells
import Derived.Deep.RegionHeld3
import Derived.Deep.MidRow
import Derived.Test.YtkdhkljnpalajaaG3
import Derived.BigQuiet

namespace Go.Proofs.Ytkdhkljnpalajaa
open Go.RowKit
set_option linter.unusedSimpArgs false
set_option linter.unusedVariables false
section
variable {P : Program} {ops : Array Oper} {Q Q' : Exit → Act → World → Prop} {md : Region.Mode}

/-- t waits for all others: each other one is waited for by a later one; all wait for earlier ones -/
def lastOk (md : Region.Mode) (ops : Array Oper) (t : Nat) : Bool :=
  (List.range ops.size).all fun j =>
    (((ops[j]?).map fun o => o.after.all fun e => !Region.binds md e || decide (e.on < j)).getD false) &&
    (j == t || (List.range ops.size).any fun s => decide (j < s) && ((ops[s]?).map fun o => o.after.any fun e => Region.binds md e && e.on == j).getD false)
/-- nothing is listed ahead of what it waits for -/
def Closed (md : Region.Mode) (ops : Array Oper) (t : Nat) (listed : Array Bool) : Prop :=
  ∀ j o, ops[j]? = some o → j ≠ t → listed.getD j true = true → ∀ e ∈ o.after, Region.binds md e = true → listed.getD e.on false = true
theorem getD_both {listed : Array Bool} {i : Nat} (h : i < listed.size) (a b : Bool) : listed.getD i a = listed.getD i b := by
  simp [Array.getD, h]
theorem upon_panics (hp : ∀ c a w, Q' (.panic c) a w → Q (.panic c) a w) (ho : ∀ a w, Q' .outgrown a w → Q .outgrown a w) {o : Oper} {a : Act} {K : Act → World → Prop} {r : Result Next}
    (h : o.upon P a K Q' r) : o.upon P a K Q r := by
  cases r with
  | ok n w' =>
    cases n <;> simp only [Oper.upon] at h ⊢
    case value u => exact h
    case skip => exact h
    case defer d => exact h
    case enter f args =>
      refine Calls.mono h fun e w'' he => ?_
      cases e with
      | returned u => exact he
      | panicked c => exact hp _ _ _ he
      | outgrown => exact let ⟨a, w, q⟩ := he; ⟨a, w, ho _ _ q⟩
    case row row args => exact h
  | halt x w' =>
    cases x <;> simp only [Oper.upon] at h ⊢
    case panic u => exact hp _ _ _ h
theorem wpOp_panics (hp : ∀ c a w, Q' (.panic c) a w → Q (.panic c) a w) (ho : ∀ a w, Q' .outgrown a w → Q .outgrown a w) {i : Nat} {a : Act} {w : World} {K : Act → World → Prop}
    (h : wpOp P ops Q' i K a w) : wpOp P ops Q i K a w := by
  unfold wpOp at *
  split
  · simp_all
  · rename_i o hoi
    simp only [hoi] at h
    split
    · rename_i hw
      simp only [hw, if_true] at h
      rcases h with h | ⟨h1, a1, w1, h2⟩
      · exact .inl (upon_panics hp ho h)
      · exact .inr ⟨h1, a1, w1, ho _ _ h2⟩
    · rename_i hw
      simp only [hw] at h
      exact h
/-- where t is at hand, nothing else is left -/
theorem last_all {t : Nat} {listed : Array Bool} (hk : lastOk md ops t = true) (hs : listed.size = ops.size) (hc : Closed md ops t listed) (ht : t ∈ Region.ready md ops listed) :
    ∀ d j, ops.size - j ≤ d → j < ops.size → j ≠ t → listed.getD j true = true := by
  obtain ⟨_, ot, hot, hall⟩ := mem_ready.1 ht
  intro d
  induction d with
  | zero => intro j h1 h2; omega
  | succ d ih =>
    intro j h1 h2 hne
    have h := (List.all_eq_true.1 hk) j (List.mem_range.2 h2)
    simp only [Bool.and_eq_true, Bool.or_eq_true, beq_iff_eq] at h
    rcases h.2 with h3 | h3
    · exact absurd h3 hne
    obtain ⟨s, hsr, hs2⟩ := List.any_eq_true.1 h3
    simp only [Bool.and_eq_true, decide_eq_true_eq] at hs2
    obtain ⟨hjs, hs3⟩ := hs2
    have hslt := List.mem_range.1 hsr
    obtain ⟨o, ho⟩ : ∃ o, ops[s]? = some o := ⟨_, Array.getElem?_eq_getElem hslt⟩
    rw [ho] at hs3
    simp only [Option.map_some, Option.getD_some, Array.any_eq_true] at hs3
    obtain ⟨e, he, hb⟩ : ∃ e, e ∈ o.after ∧ (Region.binds md e && e.on == j) = true := let ⟨q, hq, hb⟩ := hs3; ⟨_, Array.getElem_mem hq, hb⟩
    simp only [Bool.and_eq_true, beq_iff_eq] at hb
    rw [getD_both (by omega) true false]
    by_cases hst : s = t
    · subst hst
      rw [hot] at ho
      cases ho
      rw [← hb.2]; exact hall e he hb.1
    · rw [← hb.2]
      exact hc s o ho hst (ih s (by omega) hslt hst) e he hb.1
theorem wpAny_last {t : Nat} (hp : ∀ c a w, Q' (.panic c) a w → Q (.panic c) a w) (ho : ∀ a w, Q' .outgrown a w → Q .outgrown a w) (hn : ∀ a w, Q' .normal a w → wpOp P ops Q t (Q .normal) a w)
    (hk : lastOk md ops t = true) (htl : t < ops.size) : ∀ (fuel : Nat) (listed : Array Bool) (a : Act) (w : World),
    listed.size = ops.size → Closed md ops t listed → listed.getD t true = false → wpAny P md ops Q' fuel (listed.setIfInBounds t true) a w → wpAny P md ops Q (fuel + 1) listed a w := by
  intro fuel
  have hready : ∀ listed : Array Bool, listed.size = ops.size → listed.getD t true = false → Region.ready md ops listed ≠ [] := by
    intro listed hs hf h0
    -- the least that is not listed is ready
    have : ∀ n, ∀ j, j < n → j < ops.size → listed.getD j true = true := by
      intro n
      induction n with
      | zero => intro j hj; omega
      | succ n ih =>
        intro j hj hjs
        by_cases hjn : j < n
        · exact ih j hjn hjs
        · have : j = n := by omega
          subst this
          cases hl : listed.getD j true with
          | true => rfl
          | false =>
            exfalso
            obtain ⟨o, hoj⟩ : ∃ o, ops[j]? = some o := ⟨_, Array.getElem?_eq_getElem hjs⟩
            have hm : j ∈ Region.ready md ops listed := by
              rw [mem_ready]
              refine ⟨hl, o, hoj, fun e he hb => ?_⟩
              have h := (List.all_eq_true.1 hk) j (List.mem_range.2 hjs)
              simp only [Bool.and_eq_true] at h
              have h1 := h.1
              rw [hoj] at h1
              simp only [Option.map_some, Option.getD_some, Array.all_eq_true_iff_forall_mem, Bool.or_eq_true, Bool.not_eq_true', decide_eq_true_eq] at h1
              have h2 := h1 e he
              have h3 : e.on < j := by
                rcases h2 with h2 | h2
                · rw [hb] at h2; cases h2
                · exact h2
              rw [← getD_both (by omega) true false]
              exact ih e.on h3 (by omega)
            rw [h0] at hm
            cases hm
    rw [this ops.size t htl htl] at hf
    cases hf
  have hdone : ∀ listed : Array Bool, listed.size = ops.size → Closed md ops t listed → t ∈ Region.ready md ops listed → Region.ready md ops (listed.setIfInBounds t true) = [] := by
    intro listed hs hc ht
    apply List.eq_nil_iff_forall_not_mem.2
    intro j hj
    obtain ⟨h1, o, ho, _⟩ := mem_ready.1 hj
    have hjs : j < ops.size := (Array.getElem?_eq_some_iff.1 ho).1
    by_cases e : j = t
    · subst e
      simp [hs, hjs] at h1
    · rw [getD_set_ne true (Ne.symm e), last_all hk hs hc ht _ j (Nat.le_refl _) hjs e] at h1
      cases h1
  induction fuel with
  | zero =>
    intro listed a w hs hc hf H
    refine ⟨fun h => absurd h (hready listed hs hf), fun i hi => ?_⟩
    by_cases e : i = t
    · subst e
      exact wpOp_mono (fun a w h => wpAny_done (hdone listed hs hc hi) h 0) (hn _ _ H.2)
    · have := ready_mono hi e
      rw [H.1] at this
      cases this
  | succ fuel ih =>
    intro listed a w hs hc hf H
    refine ⟨fun h => absurd h (hready listed hs hf), fun i hi => ?_⟩
    by_cases e : i = t
    · subst e
      exact wpOp_mono (fun a w h => wpAny_done (hdone listed hs hc hi) h _) (hn _ _ (H.1 (hdone listed hs hc hi)))
    · have h1 := H.2 i (ready_mono hi e)
      have hil := (mem_ready.1 hi)
      refine wpOp_panics hp ho (wpOp_mono (fun a' w' h3 => ih (listed.setIfInBounds i true) a' w' (by simpa using hs) ?_ ?_ ?_) h1)
      · intro j o hoj hjt hlj e2 he2 hb2
        by_cases hji : j = i
        · subst hji
          obtain ⟨_, o', ho', hall⟩ := hil
          rw [hoj] at ho'
          cases ho'
          exact getD_set_true (hall e2 he2 hb2)
        · rw [getD_set_ne true (Ne.symm hji)] at hlj
          exact getD_set_true (hc j o hoj hjt hlj e2 he2 hb2)
      · rw [getD_set_ne true e]; exact hf
      · rw [Array.setIfInBounds_comm _ _ e]; exact h3
/-- what stands behind the others: the store -/
def Behind (P : Program) (ops : Array Oper) (t : Nat) (Q : Exit → Act → World → Prop) : Exit → Act → World → Prop
  | .normal, a, w => wpOp P ops Q t (Q .normal) a w
  | e, a, w => Q e a w
theorem wp_region_last {S : World → Prop} {id n : Nat} {a : Act} {w : World} (t : Nat) (hm : P.follows .mixedOrders = true) (hsz : ops.size = n + 1) (hk : lastOk .any ops t = true) (htl : t < ops.size) (hS : S w.drew)
    (h : S w.drew → wpAnyH P .any ops (Behind P ops t Q) S n ((Array.replicate (n + 1) false).setIfInBounds t true) a w.drew) : (Code.region id ops true).wp P Q a w := by
  refine wp_region_any hm ?_
  rw [hsz]
  refine wpAny_last (Q := Q) (Q' := Behind P ops t Q) (fun _ _ _ h => h) (fun _ _ h => h) (fun _ _ h => h) hk htl n _ a w.drew (by simp [hsz]) ?_ (by have h2 := htl; rw [hsz] at h2; simp [h2]) (wpAny_of_held _ _ _ _ (h hS))
  · intro j o hoj hjt hl
    have : j < n + 1 := by rw [← hsz]; exact (Array.getElem?_eq_some_iff.1 hoj).1
    simp [this] at hl
theorem results_cell_mid {fn : Func} {p : Tmp} {ty : TypeId} (h : fn.results = #[.cell p ty]) (tmps : Array Value) (w : World) (g : Nat) (cs : List Value) (d : TypeDesc)
    (hp : tmps.getD p undef = .pointer (some ⟨g, 0, none⟩)) (hc : w.rangeAt g 0 cs) (hu : P.underlying ty = some d) (hd : d.isRow = true) (hi : (P.info? ty).map (·.size) = some cs.length) :
    (results fn tmps).run P w = .ok (.agg cs.toArray) w := by
  have hp' : tmps[p]?.getD undef = .pointer (some ⟨g, 0, none⟩) := by simpa using hp
  simp [results, h, hp', asAddr, run_loadVar_mid w g 0 ty cs d hc hu hd hi]
theorem behind_go {t : Nat} {a : Act} {w : World} {o : Oper} (ho : ops[t]? = some o) (hw : Region.wanted o (yielded ops a.tmps) = true) (h : o.wp P a w (Q .normal) Q) : Behind P ops t Q .normal a w := by
  show wpOp P ops Q t (Q .normal) a w
  unfold wpOp; simp only [ho, hw, if_true]; exact .inl h
end
end Go.Proofs.Ytkdhkljnpalajaa

namespace Go.Proofs.Ytkdhkljnpalajaa
open Go.RowKit Go.Sort
set_option linter.unusedSimpArgs false
set_option linter.unusedVariables false
section
variable {P : Program} {ops : Array Oper} {C : World → Prop} {Q : Act → Prop} {md : Region.Mode}

/-- a whole row is loaded in a walk of the text's order -/
theorem wpQuiet_rows {rest : List Oper} {o : Oper} {a : Act} {b : Nat} {ty : TypeId} {x : Operand} {cs : List Value} {d : TypeDesc} (hc : ∀ W, C W → W.rangeAt b 0 cs) (hu : P.underlying ty = some d) (hd : d.isRow = true)
    (hi : (P.info? ty).map (·.size) = some cs.length) (hw : Region.wanted o (yielded ops a.tmps) = true) (ho : o.op = .load ty x) (hx : a.eval x = .pointer (some ⟨b, 0, none⟩))
    (h : wpQuiet P ops C Q rest (a.put o.dst (.agg cs.toArray))) : wpQuiet P ops C Q (o :: rest) a :=
  BigFrame.wpQuiet_want hw fun K hK => ⟨.agg cs.toArray, fun W hW => by
    unfold Oper.quietAt execOp
    simp only [ho, hx, Instr.loadAt, Instr.sureAddr, Sem.run_bind, Sem.run_pure, Result.andThen_ok, run_loadVar_mid W b 0 ty cs d (hc W hW) hu hd hi]
    exact ⟨rfl, rfl⟩, hK _ h⟩
theorem wpQuiet_mono_B {Q Q' : Act → Prop} (h : ∀ a, Q a → Q' a) : ∀ (l : List Oper) (a : Act), wpQuiet P ops C Q l a → wpQuiet P ops C Q' l a
  | [], a, hh => h a hh
  | o :: l, a, hh => by
    unfold wpQuiet at hh ⊢
    split at hh
    · rename_i hw; rw [if_pos hw]; exact Oper.quiet_mono (wpQuiet_mono_B h l) hh
    · rename_i hw; rw [if_neg hw]; exact wpQuiet_mono_B h l _ hh
theorem wpAnyQ_lexB {Q : Act → Prop} (hs : Region.noSelect ops = true) : ∀ (l : List Oper) (k : Nat) (listed : Array Bool) (a : Act), (∀ j, j < l.length → l[j]? = ops[k + j]?) →
    Region.lexFrom md ops l.length k listed = true → wpQuiet P ops C Q l a → wpAnyQ P md ops C Q l.length listed a
  | [], _, _, _, _, hB, h => ⟨by simpa [Region.lexFrom] using hB, h⟩
  | o :: l, k, listed, a, hl, hB, h => by
    have h0 : ops[k]? = some o := by simpa using (hl 0 (by simp)).symm
    simp only [List.length_cons, Region.lexFrom, Bool.and_eq_true] at hB
    obtain ⟨⟨hr, hf⟩, hB'⟩ := hB
    have hst : qOp P ops C k (wpQuiet P ops C Q l) a := by unfold qOp; simp only [h0]; exact h
    obtain ⟨v, hy, hK⟩ := yieldsIn_of_qOp h0 hst
    exact wpAnyQ_first h0 (Region.noSelect_spec hs) l.length listed a (Region.free_spec h0 hf) (by simpa using hr) hy
      (wpAnyQ_lexB hs l (k + 1) _ _ (fun j hj => by have := hl (j + 1) (by simpa using hj); simpa [Nat.add_assoc, Nat.add_comm 1 j] using this) hB' hK)
/-- may all but the last be walked in the text's order -/
def lexLast (n : Nat) (ops : Array Oper) : Bool := Region.noSelect ops && Region.lexFrom .any ops n 0 ((Array.replicate (n + 1) false).setIfInBounds n true)
theorem wp_region_quiet_last {id n : Nat} {Q : Exit → Act → World → Prop} {a : Act} {w : World} {l : List Oper} {o : Oper} (hm : P.follows .mixedOrders = true) (hln : l.length = n) (hk : lastOk .any (l ++ [o]).toArray n = true) (hB : lexLast n (l ++ [o]).toArray = true) (hC : C w.drew)
    (h : wpQuiet P (l ++ [o]).toArray C (fun a' => ∀ w', C w' → Behind P (l ++ [o]).toArray n Q .normal a' w') l a) : (Code.region id (l ++ [o]).toArray true).wp P Q a w := by
  subst hln
  unfold lexLast at hB
  simp only [Bool.and_eq_true] at hB
  refine wp_region_any hm ?_
  rw [show (l ++ [o]).toArray.size = l.length + 1 by simp]
  refine wpAny_last (Q := Q) (Q' := Behind P (l ++ [o]).toArray l.length Q) (fun _ _ _ h => h) (fun _ _ h => h) (fun _ _ h => h) hk (by simp) l.length _ a w.drew (by simp) ?_ (by simp)
    (wpAny_of_quiet (Q := fun a' => ∀ w', C w' → Behind P (l ++ [o]).toArray l.length Q .normal a' w') (fun _ w' hw' h => h w' hw') _ _ _ _ hC ?_)
  · intro j o' hoj hjt hl
    have : j < l.length + 1 := by have := (Array.getElem?_eq_some_iff.1 hoj).1; simpa using this
    simp [this] at hl
  · exact wpAnyQ_lexB hB.1 l 0 _ a (fun j hj => by rw [List.getElem?_toArray, Nat.zero_add, List.getElem?_append_left hj]) hB.2 h
/-- .. the store's own walk at the end -/
theorem wp_region_quiet_store {id : Nat} {Q : Exit → Act → World → Prop} {a : Act} {w : World} {L : List Oper} {o : Oper} (n : Nat) (hm : P.follows .mixedOrders = true) (hn : L.length = n + 1) (ho : L[n]? = some o) (hk : lastOk .any L.toArray n = true) (hB : lexLast n L.toArray = true) (hC : C w.drew)
    (h : wpQuiet P L.toArray C (fun a' => ∀ w', C w' → Region.wanted o (yielded L.toArray a'.tmps) = true ∧ o.wp P a' w' (Q .normal) Q) (L.take n) a) : (Code.region id L.toArray true).wp P Q a w := by
  have hL : L = L.take n ++ [o] := by
    have h1 := List.take_append_drop n L
    have h2 : L.drop n = [o] := by
      have hlt : n < L.length := by omega
      rw [List.drop_eq_getElem_cons hlt, List.drop_eq_nil_of_le (by omega)]
      rw [List.getElem?_eq_getElem hlt] at ho
      rw [Option.some.inj ho]
    rw [h2] at h1
    exact h1.symm
  generalize hl : L.take n = l at hL h
  subst hL
  have hlen : l.length = n := by simp at hn; exact hn
  refine wp_region_quiet_last hm hlen hk hB hC ?_
  refine wpQuiet_mono_B (fun a' h' w' hw' => ?_) l a h
  obtain ⟨h1, h2⟩ := h' w' hw'
  exact behind_go (by rw [List.getElem?_toArray]; exact ho) h1 h2
end
/-- a callee's contract, in a world behind others -/
theorem regrown_call {P : Program} {f : FuncId} {args : Array Value} {w : World} {v : Value}
    (h : ∀ W, Calls P f args W fun e w' => e = .returned v ∧ Below W.heap.size W w') (d : Nat) (os : Array Obj) : Calls P f args (grow (redrawn w d) os) fun e w'' => e = .returned v ∧ ∃ p : Regrown, w'' = grow (redrawn w p.d) p.os :=
  Calls.regrown_of (h _)
theorem regrown_same {P : Program} {f : FuncId} {args : Array Value} {w : World} {v : Value}
    (h : ∀ W, Calls P f args W fun e w' => e = .returned v ∧ W = w') (d : Nat) (os : Array Obj) : Calls P f args (grow (redrawn w d) os) fun e w'' => e = .returned v ∧ ∃ p : Regrown, w'' = grow (redrawn w p.d) p.os :=
  (h _).mono fun _ _ ⟨he, hb⟩ => ⟨he, ⟨d, os⟩, hb.symm⟩
theorem regrown_self (w : World) : ∃ p : Regrown, w.drew = grow (redrawn w p.d) p.os := ⟨⟨w.drawn + 1, #[]⟩, by rw [grow_empty]; rfl⟩
theorem PB.regrown {w : World} {b : Nat} {P : Nat → Int} (h : PB w b P) : ∀ W, (∃ p : Regrown, W = grow (redrawn w p.d) p.os) → PB W b P := by
  rintro W ⟨p, rfl⟩
  exact h.go (below_regrown w p.d p.os)
end Go.Proofs.Ytkdhkljnpalajaa
