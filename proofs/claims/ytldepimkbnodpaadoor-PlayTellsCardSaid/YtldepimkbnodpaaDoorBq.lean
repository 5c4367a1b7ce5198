/-
  Regions that draw their order, hold calls that make memory, and read whole positions: one walk of the text's order; with a last operation that waits for all.
-/
import Derived.Test.YtldepimkbnodpaaDoorG5
import Derived.Test.YtldepimkbnodpaaDoorTail
import Derived.BigQuiet
namespace Go.Proofs.YtldepimkbnodpaaDoor
open Go.RowKit Go.Sort
set_option linter.unusedSimpArgs false
set_option linter.unusedVariables false
section
variable {P : Program} {ops : Array Oper} {C : World → Prop} {Q : Act → Prop} {md : Region.Mode}

/-- a whole row is loaded in a walk of the text's order -/
theorem wpQuiet_rows {rest : List Oper} {o : Oper} {a : Act} {b : Nat} {ty : TypeId} {x : Operand} {cs : List Value} {d : TypeDesc} (hc : ∀ W, C W → W.rangeAt b 0 cs) (hu : P.underlying ty = some d) (hd : d.isRow = true)
    (hi : (P.info? ty).map (·.size) = some cs.length) (hw : Region.wanted o (yielded ops a.tmps) = true) (ho : o.op = .load ty x) (hx : a.eval x = .pointer (some ⟨b, 0, none⟩))
    (h : wpQuiet P ops C Q rest (a.put o.dst (.agg cs.toArray))) : wpQuiet P ops C Q (o :: rest) a :=
  BigFrame.wpQuiet_want hw fun K hK => ⟨.agg cs.toArray, fun W hW => by
    unfold Oper.quietAt execOp
    simp only [ho, hx, Instr.loadAt, Instr.sureAddr, Sem.run_bind, Sem.run_pure, Result.andThen_ok, run_loadVar_mid W b 0 ty cs d (hc W hW) hu hd hi]
    exact ⟨rfl, rfl⟩, hK _ h⟩
theorem wpQuiet_mono_B {Q Q' : Act → Prop} (h : ∀ a, Q a → Q' a) : ∀ (l : List Oper) (a : Act), wpQuiet P ops C Q l a → wpQuiet P ops C Q' l a
  | [], a, hh => h a hh
  | o :: l, a, hh => by
    unfold wpQuiet at hh ⊢
    split at hh
    · rename_i hw; rw [if_pos hw]; exact Oper.quiet_mono (wpQuiet_mono_B h l) hh
    · rename_i hw; rw [if_neg hw]; exact wpQuiet_mono_B h l _ hh
theorem wpAnyQ_lexB {Q : Act → Prop} (hs : Region.noSelect ops = true) : ∀ (l : List Oper) (k : Nat) (listed : Array Bool) (a : Act), (∀ j, j < l.length → l[j]? = ops[k + j]?) →
    Region.lexFrom md ops l.length k listed = true → wpQuiet P ops C Q l a → wpAnyQ P md ops C Q l.length listed a
  | [], _, _, _, _, hB, h => ⟨by simpa [Region.lexFrom] using hB, h⟩
  | o :: l, k, listed, a, hl, hB, h => by
    have h0 : ops[k]? = some o := by simpa using (hl 0 (by simp)).symm
    simp only [List.length_cons, Region.lexFrom, Bool.and_eq_true] at hB
    obtain ⟨⟨hr, hf⟩, hB'⟩ := hB
    have hst : qOp P ops C k (wpQuiet P ops C Q l) a := by unfold qOp; simp only [h0]; exact h
    obtain ⟨v, hy, hK⟩ := yieldsIn_of_qOp h0 hst
    exact wpAnyQ_first h0 (Region.noSelect_spec hs) l.length listed a (Region.free_spec h0 hf) (by simpa using hr) hy
      (wpAnyQ_lexB hs l (k + 1) _ _ (fun j hj => by have := hl (j + 1) (by simpa using hj); simpa [Nat.add_assoc, Nat.add_comm 1 j] using this) hB' hK)
/-- may all but the last be walked in the text's order -/
def lexLast (n : Nat) (ops : Array Oper) : Bool := Region.noSelect ops && Region.lexFrom .any ops n 0 ((Array.replicate (n + 1) false).setIfInBounds n true)
theorem wp_region_quiet_last {id n : Nat} {Q : Exit → Act → World → Prop} {a : Act} {w : World} {l : List Oper} {o : Oper} (hm : P.follows .mixedOrders = true) (hln : l.length = n) (hk : lastOk .any (l ++ [o]).toArray n = true) (hB : lexLast n (l ++ [o]).toArray = true) (hC : C w.drew)
    (h : wpQuiet P (l ++ [o]).toArray C (fun a' => ∀ w', C w' → Behind P (l ++ [o]).toArray n Q .normal a' w') l a) : (Code.region id (l ++ [o]).toArray true).wp P Q a w := by
  subst hln
  unfold lexLast at hB
  simp only [Bool.and_eq_true] at hB
  refine wp_region_any hm ?_
  rw [show (l ++ [o]).toArray.size = l.length + 1 by simp]
  refine wpAny_last (Q := Q) (Q' := Behind P (l ++ [o]).toArray l.length Q) (fun _ _ _ h => h) (fun _ _ h => h) (fun _ _ h => h) hk (by simp) l.length _ a w.drew (by simp) ?_ (by simp)
    (wpAny_of_quiet (Q := fun a' => ∀ w', C w' → Behind P (l ++ [o]).toArray l.length Q .normal a' w') (fun _ w' hw' h => h w' hw') _ _ _ _ hC ?_)
  · intro j o' hoj hjt hl
    have : j < l.length + 1 := by have := (Array.getElem?_eq_some_iff.1 hoj).1; simpa using this
    simp [this] at hl
  · exact wpAnyQ_lexB hB.1 l 0 _ a (fun j hj => by rw [List.getElem?_toArray, Nat.zero_add, List.getElem?_append_left hj]) hB.2 h
/-- .. the store's own walk at the end -/
theorem wp_region_quiet_store {id : Nat} {Q : Exit → Act → World → Prop} {a : Act} {w : World} {L : List Oper} {o : Oper} (n : Nat) (hm : P.follows .mixedOrders = true) (hn : L.length = n + 1) (ho : L[n]? = some o) (hk : lastOk .any L.toArray n = true) (hB : lexLast n L.toArray = true) (hC : C w.drew)
    (h : wpQuiet P L.toArray C (fun a' => ∀ w', C w' → Region.wanted o (yielded L.toArray a'.tmps) = true ∧ o.wp P a' w' (Q .normal) Q) (L.take n) a) : (Code.region id L.toArray true).wp P Q a w := by
  have hL : L = L.take n ++ [o] := by
    have h1 := List.take_append_drop n L
    have h2 : L.drop n = [o] := by
      have hlt : n < L.length := by omega
      rw [List.drop_eq_getElem_cons hlt, List.drop_eq_nil_of_le (by omega)]
      rw [List.getElem?_eq_getElem hlt] at ho
      rw [Option.some.inj ho]
    rw [h2] at h1
    exact h1.symm
  generalize hl : L.take n = l at hL h
  subst hL
  have hlen : l.length = n := by simp at hn; exact hn
  refine wp_region_quiet_last hm hlen hk hB hC ?_
  refine wpQuiet_mono_B (fun a' h' w' hw' => ?_) l a h
  obtain ⟨h1, h2⟩ := h' w' hw'
  exact behind_go (by rw [List.getElem?_toArray]; exact ho) h1 h2
end
/-- a callee's contract, in a world behind others -/
theorem regrown_call {P : Program} {f : FuncId} {args : Array Value} {w : World} {v : Value}
    (h : ∀ W, Calls P f args W fun e w' => e = .returned v ∧ Below W.heap.size W w') (d : Nat) (os : Array Obj) : Calls P f args (grow (redrawn w d) os) fun e w'' => e = .returned v ∧ ∃ p : Regrown, w'' = grow (redrawn w p.d) p.os :=
  Calls.regrown_of (h _)
theorem regrown_same {P : Program} {f : FuncId} {args : Array Value} {w : World} {v : Value}
    (h : ∀ W, Calls P f args W fun e w' => e = .returned v ∧ W = w') (d : Nat) (os : Array Obj) : Calls P f args (grow (redrawn w d) os) fun e w'' => e = .returned v ∧ ∃ p : Regrown, w'' = grow (redrawn w p.d) p.os :=
  (h _).mono fun _ _ ⟨he, hb⟩ => ⟨he, ⟨d, os⟩, hb.symm⟩
theorem regrown_self (w : World) : ∃ p : Regrown, w.drew = grow (redrawn w p.d) p.os := ⟨⟨w.drawn + 1, #[]⟩, by rw [grow_empty]; rfl⟩
theorem PB.regrown {w : World} {b : Nat} {P : Nat → Int} (h : PB w b P) : ∀ W, (∃ p : Regrown, W = grow (redrawn w p.d) p.os) → PB W b P := by
  rintro W ⟨p, rfl⟩
  exact h.go (below_regrown w p.d p.os)
end Go.Proofs.YtldepimkbnodpaaDoor
