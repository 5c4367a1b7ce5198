/-
  Merged: Eight, Tail, Last.
-/
import Derived.Test.YtejknkgbkkdaiaaGreatDoorG5
import Derived.LaidEqlPtr
import Derived.Test.YtejknkgbkkdaiaaGreatDoorProg
import Derived.WalkKit
import Derived.WalkSpells
import Derived.Deep.RegionHeld3
import Derived.Deep.MidRow

namespace Go.Proofs.YtejknkgbkkdaiaaGreatDoor
open Go.RowKit
set_option linter.unusedSimpArgs false
set_option linter.unusedVariables false

theorem laid_at {W : World} {o : Obj} {H : Nat} (e : H = W.heap.size) : (W.alloc o).heap[H]? = some o := by subst e; exact heap_alloc_new _ _
theorem laid_old {W : World} {o o' : Obj} {H : Nat} (h : W.heap[H]? = some o') : (W.alloc o).heap[H]? = some o' :=
  (heap_alloc_old W o (Array.getElem?_eq_some_iff.1 h).1).trans h
/-- a row that stands in a block -/
theorem reads_laid {W : World} {H : Nat} {cs : Array Value} {t : TypeId} {n : Nat} {f : Nat → Value} (hW : W.heap[H]? = some (.cells cs t (0, 0))) (h : ∀ i, i < n → cs[i]? = some (f i)) :
    Reads (H + 1) W (some ⟨H, 0, none⟩) n f :=
  .inr ⟨H, 0, rfl, by omega, fun i hi => by rw [Nat.zero_add, cell_of_row W H i cs t (0, 0) hW]; exact h i hi⟩
/-- the first five of a row -/
def fst5 {α : Type} (x y z p q : α) : Nat → α
  | 0 => x
  | 1 => y
  | 2 => z
  | 3 => p
  | _ => q
theorem fst5_at {α β : Type} (x y z p q : α) (v : α → β) (i : Nat) (hi : i < 5) : (#[v x, v y, v z, v p, v q] : Array β)[i]? = some (v (fst5 x y z p q i)) := by
  match i, hi with
  | 0, _ => rfl
  | 1, _ => rfl
  | 2, _ => rfl
  | 3, _ => rfl
  | 4, _ => rfl
theorem mix2_at (x : BitVec 32) (i j : Int) (W : World) (H : Nat) (t : TypeId) (hW : W.heap[H]? = some (.cells #[.int .i64 i, .int .i64 j] t (0, 0))) (a b : Nat) (hi : (i % 32).toNat = a) (hj : (j % 32).toNat = b) :
    Calls Tryz.prog 105 #[.int .u32 (u x), .slice (some ⟨H, 0, none⟩) 2 2] W fun e w' => e = .returned (.int .u32 (u (turn x a ^^^ turn x b))) ∧ W = w' := by
  subst hi hj
  have h := mix_any _ x (some ⟨H, 0, none⟩) 2 2 (fst3 i j j) W (by omega) (reads_laid hW (fun k hk => fst2_at i j j (fun q => Value.int .i64 q) 2 (by omega) k hk))
  have e : mixTo x (fst3 i j j) 2 = turn x (i % 32).toNat ^^^ turn x (j % 32).toNat := by simp [mixTo, fst3]
  rw [e] at h
  exact h
theorem mix3_at (x : BitVec 32) (i j k : Int) (W : World) (H : Nat) (t : TypeId) (hW : W.heap[H]? = some (.cells #[.int .i64 i, .int .i64 j, .int .i64 k] t (0, 0))) (a b c : Nat) (hi : (i % 32).toNat = a) (hj : (j % 32).toNat = b) (hk : (k % 32).toNat = c) :
    Calls Tryz.prog 105 #[.int .u32 (u x), .slice (some ⟨H, 0, none⟩) 3 3] W fun e w' => e = .returned (.int .u32 (u (mix3 x a b c))) ∧ W = w' := by
  subst hi hj hk
  have h := mix_any _ x (some ⟨H, 0, none⟩) 3 3 (fst3 i j k) W (by omega) (reads_laid hW (fun m hm => fst3_at i j k (fun q => Value.int .i64 q) 3 (by omega) m hm))
  have e : mixTo x (fst3 i j k) 3 = mix3 x (i % 32).toNat (j % 32).toNat (k % 32).toNat := by simp [mixTo, fst3, mix3]
  rw [e] at h
  exact h
theorem maj_at (x y z : BitVec 32) (W : World) (H : Nat) (t : TypeId) (hW : W.heap[H]? = some (.cells #[.int .u32 (u x), .int .u32 (u y), .int .u32 (u z)] t (0, 0))) :
    Calls Tryz.prog 107 #[.slice (some ⟨H, 0, none⟩) 3 3] W fun e w' => e = .returned (.int .u32 (u (maj x y z))) ∧ W = w' := by
  have h := most_any _ (some ⟨H, 0, none⟩) 3 3 (fst3 x y z) W (by omega) (reads_laid hW (fun m hm => fst3_at x y z (fun q => Value.int .u32 (u q)) 3 (by omega) m hm))
  rw [most3_maj] at h
  exact h
theorem sum2_at (x y : BitVec 32) (W : World) (H : Nat) (t : TypeId) (hW : W.heap[H]? = some (.cells #[.int .u32 (u x), .int .u32 (u y)] t (0, 0))) :
    Calls Tryz.prog 101 #[.slice (some ⟨H, 0, none⟩) 2 2] W fun e w' => e = .returned (.int .u32 (u (x + y))) ∧ W = w' := by
  have h := sum_any _ (some ⟨H, 0, none⟩) 2 2 (fst3 x y y) W (by omega) (reads_laid hW (fun m hm => fst2_at x y y (fun q => Value.int .u32 (u q)) 2 (by omega) m hm))
  have e : sumTo (fst3 x y y) 2 = x + y := by simp [sumTo, fst3]
  rw [e] at h
  exact h
theorem sum4_at (x y z p : BitVec 32) (W : World) (H : Nat) (t : TypeId) (hW : W.heap[H]? = some (.cells #[.int .u32 (u x), .int .u32 (u y), .int .u32 (u z), .int .u32 (u p)] t (0, 0))) :
    Calls Tryz.prog 101 #[.slice (some ⟨H, 0, none⟩) 4 4] W fun e w' => e = .returned (.int .u32 (u (x + y + z + p))) ∧ W = w' := by
  have h := sum_any _ (some ⟨H, 0, none⟩) 4 4 (fst4 x y z p) W (by omega) (reads_laid hW (fun m hm => fst4_at x y z p (fun q => Value.int .u32 (u q)) m hm))
  have e : sumTo (fst4 x y z p) 4 = x + y + z + p := by simp [sumTo, fst4]
  rw [e] at h
  exact h
theorem sum5_at (x y z p q : BitVec 32) (W : World) (H : Nat) (t : TypeId) (hW : W.heap[H]? = some (.cells #[.int .u32 (u x), .int .u32 (u y), .int .u32 (u z), .int .u32 (u p), .int .u32 (u q)] t (0, 0))) :
    Calls Tryz.prog 101 #[.slice (some ⟨H, 0, none⟩) 5 5] W fun e w' => e = .returned (.int .u32 (u (x + y + z + p + q))) ∧ W = w' := by
  have h := sum_any _ (some ⟨H, 0, none⟩) 5 5 (fst5 x y z p q) W (by omega) (reads_laid hW (fun m hm => fst5_at x y z p q (fun q => Value.int .u32 (u q)) m hm))
  have e : sumTo (fst5 x y z p q) 5 = x + y + z + p + q := by simp [sumTo, fst5]
  rw [e] at h
  exact h
set_option maxHeartbeats 400000 in
theorem small_any (x : BitVec 32) (i j k : Int) (w : World) (a b c : Nat) (hi : (i % 32).toNat = a) (hj : (j % 32).toNat = b) (hk0 : 0 ≤ k) (hk1 : k ≤ 9223372036854775807) (hk : k.toNat = c) :
    Calls Tryz.prog 104 #[.int .u32 (u x), .int .i64 i, .int .i64 j, .int .i64 k] w fun e w' => e = .returned (.int .u32 (u (sml x a b c))) ∧ Below w.heap.size w w' := by
  have hs : u (if k < 0 then x else x >>> k.toNat) = u (x >>> c) := by rw [if_neg (by omega), hk]
  have HS := Lib.hid hs
  clear hs
  go_enter Tryz.func104, Tryz.ntmps104
  go_wp2_with fail
  refine (mix2_at x i j _ _ _ (laid_at rfl) a b hi hj).mono ?_
  rintro e w' ⟨rfl, rfl⟩
  go_wp2_with fail
  refine (shift_any x k _ hk1).mono ?_
  rintro e w' ⟨rfl, rfl⟩
  rw [HS.out]
  go_wp2
  go_ret
  exact ⟨rfl, (Below.refl _ _).alloc (Nat.le_refl _) _⟩
theorem infoEight : (Tryz.prog.info? 107).map (·.size) = some 8 := by kernel_rfl
theorem infoHasher : (Tryz.prog.info? 110).isSome = true := by kernel_rfl
theorem neq_own (w : World) (a : Addr) : (binOp .neq 81 (.pointer (some a)) (.pointer (some a))).run Tryz.prog w = .ok (.bool false) w := by
  obtain ⟨j, hj⟩ := Option.isSome_iff_exists.1 infoHasher
  have h : ∀ d : Nat, (Op.equalIn (d + 1) 81 (.pointer (some a)) (.pointer (some a))).run Tryz.prog w = .ok true w := fun d => by
    simp [Op.equalIn, run_underlying Tryz.underlying81, sizeOf, typeInfo, hj, run_sameAddr_same]
  simp only [binOp]
  simp [Op.equal, Op.maxDepth, h 9999]
set_option maxHeartbeats 400000 in
theorem begin_any (w : World) :
    Calls Tryz.prog 76 #[] w fun e w' => e = .returned (.agg ((List.range 8).map fun i => .int .u32 (u (beg i))).toArray) ∧ Below w.heap.size w w' := by
  go_enter Tryz.func76, Tryz.ntmps76
  go_wp2
  refine bodyPost_ret (v := .agg ((List.range 8).map fun i => .int .u32 (u (beg i))).toArray) ?_ rfl ⟨rfl, (Below.refl _ _).alloc (Nat.le_refl _) _⟩
  exact results_cell_row (p := 0) (ty := 107) rfl _ _ w.heap.size 107 _ (0, 0) _ rfl (heap_alloc_new _ _) Tryz.underlying107 rfl infoEight
set_option maxHeartbeats 400000 in
theorem none_any (w : World) (hb : Nat) (st : Nat → BitVec 32) (op : Nat → BitVec 8) (n : Nat) (h : HS w hb st op n (some ⟨hb, 0, none⟩)) :
    Calls Tryz.prog 78 #[.pointer (some ⟨hb, 0, none⟩)] w fun e w' => e = .returned (.bool false) ∧ w = w' := by
  have h1 := h.own
  have h2 := neq_own w ⟨hb, 0, none⟩
  clear h
  go_enter Tryz.func78, Tryz.ntmps78
  go_wp2
  go_ret
  exact ⟨rfl, rfl⟩
set_option maxHeartbeats 400000 in
theorem new_any (w : World) :
    Calls Tryz.prog 53 #[] w fun e w' => ∃ hb, e = .returned (.pointer (some ⟨hb, 0, none⟩)) ∧ w.heap.size ≤ hb ∧ Below w.heap.size w w' ∧ ∀ g, HH w' hb g 0 (some ⟨hb, 0, none⟩) := by
  go_enter Tryz.func53, Tryz.ntmps53
  go_wp2_with fail
  refine (begin_any w).mono ?_
  rintro e w1 ⟨rfl, hb1⟩
  go_wp2
  go_ret
  have z1 := hb1.size
  refine ⟨_, rfl, z1, hb1.alloc z1 _, fun g => ⟨fun _ => 0#8, HS.of_cells (t := 110) ?_, fun j hj => by omega⟩⟩
  rw [heap_alloc_new]
  rfl
end Go.Proofs.YtejknkgbkkdaiaaGreatDoor

namespace Go.Proofs.YtejknkgbkkdaiaaGreatDoor
open Go.RowKit
set_option linter.unusedSimpArgs false
set_option linter.unusedVariables false
section
variable {P : Program} {ops : Array Oper} {Q Q' : Exit → Act → World → Prop} {md : Region.Mode}

/-- t waits for all others: each other one is waited for by a later one; all wait for earlier ones -/
def lastOk (md : Region.Mode) (ops : Array Oper) (t : Nat) : Bool :=
  (List.range ops.size).all fun j =>
    (((ops[j]?).map fun o => o.after.all fun e => !Region.binds md e || decide (e.on < j)).getD false) &&
    (j == t || (List.range ops.size).any fun s => decide (j < s) && ((ops[s]?).map fun o => o.after.any fun e => Region.binds md e && e.on == j).getD false)
/-- nothing is listed ahead of what it waits for -/
def Closed (md : Region.Mode) (ops : Array Oper) (t : Nat) (listed : Array Bool) : Prop :=
  ∀ j o, ops[j]? = some o → j ≠ t → listed.getD j true = true → ∀ e ∈ o.after, Region.binds md e = true → listed.getD e.on false = true
theorem getD_both {listed : Array Bool} {i : Nat} (h : i < listed.size) (a b : Bool) : listed.getD i a = listed.getD i b := by
  simp [Array.getD, h]
theorem upon_panics (hp : ∀ c a w, Q' (.panic c) a w → Q (.panic c) a w) (ho : ∀ a w, Q' .outgrown a w → Q .outgrown a w) {o : Oper} {a : Act} {K : Act → World → Prop} {r : Result Next}
    (h : o.upon P a K Q' r) : o.upon P a K Q r := by
  cases r with
  | ok n w' =>
    cases n <;> simp only [Oper.upon] at h ⊢
    case value u => exact h
    case skip => exact h
    case defer d => exact h
    case enter f args =>
      refine Calls.mono h fun e w'' he => ?_
      cases e with
      | returned u => exact he
      | panicked c => exact hp _ _ _ he
      | outgrown => exact let ⟨a, w, q⟩ := he; ⟨a, w, ho _ _ q⟩
    case row row args => exact h
  | halt x w' =>
    cases x <;> simp only [Oper.upon] at h ⊢
    case panic u => exact hp _ _ _ h
theorem wpOp_panics (hp : ∀ c a w, Q' (.panic c) a w → Q (.panic c) a w) (ho : ∀ a w, Q' .outgrown a w → Q .outgrown a w) {i : Nat} {a : Act} {w : World} {K : Act → World → Prop}
    (h : wpOp P ops Q' i K a w) : wpOp P ops Q i K a w := by
  unfold wpOp at *
  split
  · simp_all
  · rename_i o hoi
    simp only [hoi] at h
    split
    · rename_i hw
      simp only [hw, if_true] at h
      rcases h with h | ⟨h1, a1, w1, h2⟩
      · exact .inl (upon_panics hp ho h)
      · exact .inr ⟨h1, a1, w1, ho _ _ h2⟩
    · rename_i hw
      simp only [hw] at h
      exact h
/-- where t is at hand, nothing else is left -/
theorem last_all {t : Nat} {listed : Array Bool} (hk : lastOk md ops t = true) (hs : listed.size = ops.size) (hc : Closed md ops t listed) (ht : t ∈ Region.ready md ops listed) :
    ∀ d j, ops.size - j ≤ d → j < ops.size → j ≠ t → listed.getD j true = true := by
  obtain ⟨_, ot, hot, hall⟩ := mem_ready.1 ht
  intro d
  induction d with
  | zero => intro j h1 h2; omega
  | succ d ih =>
    intro j h1 h2 hne
    have h := (List.all_eq_true.1 hk) j (List.mem_range.2 h2)
    simp only [Bool.and_eq_true, Bool.or_eq_true, beq_iff_eq] at h
    rcases h.2 with h3 | h3
    · exact absurd h3 hne
    obtain ⟨s, hsr, hs2⟩ := List.any_eq_true.1 h3
    simp only [Bool.and_eq_true, decide_eq_true_eq] at hs2
    obtain ⟨hjs, hs3⟩ := hs2
    have hslt := List.mem_range.1 hsr
    obtain ⟨o, ho⟩ : ∃ o, ops[s]? = some o := ⟨_, Array.getElem?_eq_getElem hslt⟩
    rw [ho] at hs3
    simp only [Option.map_some, Option.getD_some, Array.any_eq_true] at hs3
    obtain ⟨e, he, hb⟩ : ∃ e, e ∈ o.after ∧ (Region.binds md e && e.on == j) = true := let ⟨q, hq, hb⟩ := hs3; ⟨_, Array.getElem_mem hq, hb⟩
    simp only [Bool.and_eq_true, beq_iff_eq] at hb
    rw [getD_both (by omega) true false]
    by_cases hst : s = t
    · subst hst
      rw [hot] at ho
      cases ho
      rw [← hb.2]; exact hall e he hb.1
    · rw [← hb.2]
      exact hc s o ho hst (ih s (by omega) hslt hst) e he hb.1
theorem wpAny_last {t : Nat} (hp : ∀ c a w, Q' (.panic c) a w → Q (.panic c) a w) (ho : ∀ a w, Q' .outgrown a w → Q .outgrown a w) (hn : ∀ a w, Q' .normal a w → wpOp P ops Q t (Q .normal) a w)
    (hk : lastOk md ops t = true) (htl : t < ops.size) : ∀ (fuel : Nat) (listed : Array Bool) (a : Act) (w : World),
    listed.size = ops.size → Closed md ops t listed → listed.getD t true = false → wpAny P md ops Q' fuel (listed.setIfInBounds t true) a w → wpAny P md ops Q (fuel + 1) listed a w := by
  intro fuel
  have hready : ∀ listed : Array Bool, listed.size = ops.size → listed.getD t true = false → Region.ready md ops listed ≠ [] := by
    intro listed hs hf h0
    -- the least that is not listed is ready
    have : ∀ n, ∀ j, j < n → j < ops.size → listed.getD j true = true := by
      intro n
      induction n with
      | zero => intro j hj; omega
      | succ n ih =>
        intro j hj hjs
        by_cases hjn : j < n
        · exact ih j hjn hjs
        · have : j = n := by omega
          subst this
          cases hl : listed.getD j true with
          | true => rfl
          | false =>
            exfalso
            obtain ⟨o, hoj⟩ : ∃ o, ops[j]? = some o := ⟨_, Array.getElem?_eq_getElem hjs⟩
            have hm : j ∈ Region.ready md ops listed := by
              rw [mem_ready]
              refine ⟨hl, o, hoj, fun e he hb => ?_⟩
              have h := (List.all_eq_true.1 hk) j (List.mem_range.2 hjs)
              simp only [Bool.and_eq_true] at h
              have h1 := h.1
              rw [hoj] at h1
              simp only [Option.map_some, Option.getD_some, Array.all_eq_true_iff_forall_mem, Bool.or_eq_true, Bool.not_eq_true', decide_eq_true_eq] at h1
              have h2 := h1 e he
              have h3 : e.on < j := by
                rcases h2 with h2 | h2
                · rw [hb] at h2; cases h2
                · exact h2
              rw [← getD_both (by omega) true false]
              exact ih e.on h3 (by omega)
            rw [h0] at hm
            cases hm
    rw [this ops.size t htl htl] at hf
    cases hf
  have hdone : ∀ listed : Array Bool, listed.size = ops.size → Closed md ops t listed → t ∈ Region.ready md ops listed → Region.ready md ops (listed.setIfInBounds t true) = [] := by
    intro listed hs hc ht
    apply List.eq_nil_iff_forall_not_mem.2
    intro j hj
    obtain ⟨h1, o, ho, _⟩ := mem_ready.1 hj
    have hjs : j < ops.size := (Array.getElem?_eq_some_iff.1 ho).1
    by_cases e : j = t
    · subst e
      simp [hs, hjs] at h1
    · rw [getD_set_ne true (Ne.symm e), last_all hk hs hc ht _ j (Nat.le_refl _) hjs e] at h1
      cases h1
  induction fuel with
  | zero =>
    intro listed a w hs hc hf H
    refine ⟨fun h => absurd h (hready listed hs hf), fun i hi => ?_⟩
    by_cases e : i = t
    · subst e
      exact wpOp_mono (fun a w h => wpAny_done (hdone listed hs hc hi) h 0) (hn _ _ H.2)
    · have := ready_mono hi e
      rw [H.1] at this
      cases this
  | succ fuel ih =>
    intro listed a w hs hc hf H
    refine ⟨fun h => absurd h (hready listed hs hf), fun i hi => ?_⟩
    by_cases e : i = t
    · subst e
      exact wpOp_mono (fun a w h => wpAny_done (hdone listed hs hc hi) h _) (hn _ _ (H.1 (hdone listed hs hc hi)))
    · have h1 := H.2 i (ready_mono hi e)
      have hil := (mem_ready.1 hi)
      refine wpOp_panics hp ho (wpOp_mono (fun a' w' h3 => ih (listed.setIfInBounds i true) a' w' (by simpa using hs) ?_ ?_ ?_) h1)
      · intro j o hoj hjt hlj e2 he2 hb2
        by_cases hji : j = i
        · subst hji
          obtain ⟨_, o', ho', hall⟩ := hil
          rw [hoj] at ho'
          cases ho'
          exact getD_set_true (hall e2 he2 hb2)
        · rw [getD_set_ne true (Ne.symm hji)] at hlj
          exact getD_set_true (hc j o hoj hjt hlj e2 he2 hb2)
      · rw [getD_set_ne true e]; exact hf
      · rw [Array.setIfInBounds_comm _ _ e]; exact h3
/-- what stands behind the others: the store -/
def Behind (P : Program) (ops : Array Oper) (t : Nat) (Q : Exit → Act → World → Prop) : Exit → Act → World → Prop
  | .normal, a, w => wpOp P ops Q t (Q .normal) a w
  | e, a, w => Q e a w
theorem wp_region_last {S : World → Prop} {id n : Nat} {a : Act} {w : World} (t : Nat) (hm : P.follows .mixedOrders = true) (hsz : ops.size = n + 1) (hk : lastOk .any ops t = true) (htl : t < ops.size) (hS : S w.drew)
    (h : S w.drew → wpAnyH P .any ops (Behind P ops t Q) S n ((Array.replicate (n + 1) false).setIfInBounds t true) a w.drew) : (Code.region id ops true).wp P Q a w := by
  refine wp_region_any hm ?_
  rw [hsz]
  refine wpAny_last (Q := Q) (Q' := Behind P ops t Q) (fun _ _ _ h => h) (fun _ _ h => h) (fun _ _ h => h) hk htl n _ a w.drew (by simp [hsz]) ?_ (by have h2 := htl; rw [hsz] at h2; simp [h2]) (wpAny_of_held _ _ _ _ (h hS))
  · intro j o hoj hjt hl
    have : j < n + 1 := by rw [← hsz]; exact (Array.getElem?_eq_some_iff.1 hoj).1
    simp [this] at hl
/-- an operation is taken first; its slot is named -/
theorem take_at {S : World → Prop} {i : Nat} {oi : Oper} {d : Option Tmp} {v : Value} {fuel : Nat} {listed : Array Bool} {a : Act} {w : World} (hi : ops[i]? = some oi) (hd : oi.dst = d)
    (hs : Region.noSelect ops = true) (hf : Region.free md ops listed i = true) (hr : (Region.ready md ops listed).contains i = true)
    (hQ : ∀ c a w, Q (.panic c) (a.put d v) w → Q (.panic c) a w) (hy : YieldsIf P ops S oi v a) (hS : S w)
    (h : wpAnyH P md ops Q S fuel (listed.setIfInBounds i true) (a.put d v) w) : wpAnyH P md ops Q S (fuel + 1) listed a w := by
  subst hd
  exact wpAnyH_take hi hs hf hr hQ hy hS h
theorem results_cell_mid {fn : Func} {p : Tmp} {ty : TypeId} (h : fn.results = #[.cell p ty]) (tmps : Array Value) (w : World) (g : Nat) (cs : List Value) (d : TypeDesc)
    (hp : tmps.getD p undef = .pointer (some ⟨g, 0, none⟩)) (hc : w.rangeAt g 0 cs) (hu : P.underlying ty = some d) (hd : d.isRow = true) (hi : (P.info? ty).map (·.size) = some cs.length) :
    (results fn tmps).run P w = .ok (.agg cs.toArray) w := by
  have hp' : tmps[p]?.getD undef = .pointer (some ⟨g, 0, none⟩) := by simpa using hp
  simp [results, h, hp', asAddr, run_loadVar_mid w g 0 ty cs d hc hu hd hi]
theorem behind_go {t : Nat} {a : Act} {w : World} {o : Oper} (ho : ops[t]? = some o) (hw : Region.wanted o (yielded ops a.tmps) = true) (h : o.wp P a w (Q .normal) Q) : Behind P ops t Q .normal a w := by
  show wpOp P ops Q t (Q .normal) a w
  unfold wpOp; simp only [ho, hw, if_true]; exact .inl h
end
end Go.Proofs.YtejknkgbkkdaiaaGreatDoor

namespace Go.Proofs.YtejknkgbkkdaiaaGreatDoor
end Go.Proofs.YtejknkgbkkdaiaaGreatDoor
