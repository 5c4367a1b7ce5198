/-
  Rows and bytes that are lent; how many rows and bytes there are; a tag that is stored.
-/
import Derived.Test.YtoocfkaclhgjeaaDoorG4
import Derived.Test.YtoocfkaclhgjeaaDoorConcat
namespace Go.Proofs.YtoocfkaclhgjeaaDoor.LentBytes
open Go.RowKit
set_option linter.unusedSimpArgs false
set_option linter.unusedVariables false

end Go.Proofs.YtoocfkaclhgjeaaDoor.LentBytes
namespace Go.Proofs.YtoocfkaclhgjeaaDoor
open Go.RowKit
set_option linter.unusedSimpArgs false
set_option linter.unusedVariables false
/-- what size answers: how many rows and bytes there are, or more than are gone through -/
def SizeIs (w w' : World) (m s : Nat) (e : Ending) : Prop := ∃ x : Nat, e = .returned (.int .i64 (x : Int)) ∧ ((s ≤ 700 ∧ x = s) ∨ (700 < s ∧ 700 < x)) ∧ w = w' ∧ x ≤ 281474976710656
end Go.Proofs.YtoocfkaclhgjeaaDoor
namespace Go.Proofs.YtoocfkaclhgjeaaDoor
open Go.RowKit
set_option linter.unusedVariables false
set_option linter.unusedSimpArgs false

theorem owns_below {w w' : World} {base : Nat} {e : TypeId} {k : Nat} {v : Value} {n : Nat} {xs : List Value} (h : w.ownsRow base e k v n xs) (hb : Below w.heap.size w w') : w'.ownsRow base e k v n xs := by
  refine ⟨h.1, ?_⟩
  rcases h.2 with h2 | ⟨g, cap, cur, h1, h2, h3, h4⟩
  · exact .inl h2
  · exact .inr ⟨g, cap, cur, h1, h2, (hb.block g (Array.getElem?_eq_some_iff.1 h3).1).trans h3, h4⟩
/-- a row that is lent -/
def srow (G ln : Nat → Nat) (i : Nat) : Value := .slice (some ⟨G i, 0, none⟩) (ln i) (ln i + 12)
theorem owns_gr {w w' : World} {base : Nat} {e : TypeId} {k : Nat} {v : Value} {n : Nat} {xs : List Value} {row : Option Nat} (h : w.ownsRow base e k v n xs) (hg : w.grownBy w' row) (hne : ∀ q, row = some q → v.ownBlock ≠ some q) : w'.ownsRow base e k v n xs := by
  refine ⟨h.1, ?_⟩
  rcases h.2 with h2 | ⟨g, cap, cur, rfl, h2, h3, h4⟩
  · exact .inl h2
  · refine .inr ⟨g, cap, cur, rfl, h2, (hg.block g (Array.getElem?_eq_some_iff.1 h3).1 ?_).trans h3, h4⟩
    intro e
    exact hne g e.symm rfl
/-- two owned rows of unlike types lie apart -/
theorem owns_apart {w : World} {base base' : Nat} {e e' : TypeId} {k k' n n' : Nat} {v v' : Value} {xs xs' : List Value} (h : w.ownsRow base e k v n xs) (h' : w.ownsRow base' e' k' v' n' xs') (he : e ≠ e') (q : Nat) (hq : v'.ownBlock = some q) : v.ownBlock ≠ some q := by
  intro hv
  rcases h.2 with ⟨rfl, _⟩ | ⟨g, cap, cur, rfl, _, h3, _⟩
  · cases hv
  rcases h'.2 with ⟨rfl, _⟩ | ⟨g', cap', cur', rfl, _, h3', _⟩
  · cases hq
  have e1 : g = q := by simpa [Value.ownBlock] using hv
  have e2 : g' = q := by simpa [Value.ownBlock] using hq
  subst e1
  subst e2
  rw [h3] at h3'
  injection h3' with h4
  injection h4 with _ h5
  exact he h5
/-- v holds the first j rows, each lent -/
structure LR (w0 w : World) (v : Value) (j : Nat) (G ln : Nat → Nat) (h : Nat → Nat → Int) : Prop where
  bel : Below w0.heap.size w0 w
  own : w.ownsRow w0.heap.size 23 1 v j ((List.range j).map (srow G ln))
  row : ∀ i, i < j → w.ownsRow w0.heap.size 5 1 (.slice (some ⟨G i, 0, none⟩) (ln i + 12) (ln i + 12)) (ln i + 12) ((List.range (ln i + 12)).map (LentBytes.ext (ln i) (h i)))
section
variable {w0 w w' : World} {v : Value} {j : Nat} {G ln : Nat → Nat} {h : Nat → Nat → Int}
theorem LR.nil (w : World) (G ln : Nat → Nat) (h : Nat → Nat → Int) : LR w w (.slice none 0 0) 0 G ln h := ⟨Below.refl _ _, World.ownsRow_nil _ _ _ _, fun i hi => by omega⟩
theorem LR.go (H : LR w0 w v j G ln h) (g : Below w.heap.size w w') : LR w0 w' v j G ln h := ⟨H.bel.trans (g.mono H.bel.size), owns_below H.own g, fun i hi => owns_below (H.row i hi) g⟩
theorem LR.alloc (H : LR w0 w v j G ln h) (o : Obj) : LR w0 (w.alloc o) v j G ln h := H.go ((Below.refl _ _).alloc (Nat.le_refl _) _)
theorem LR.drew (H : LR w0 w v j G ln h) : LR w0 w.drew v j G ln h := ⟨H.bel.drew, H.own, H.row⟩
theorem LR.reads (H : LR w0 w v j G ln h) (i : Nat) (hi : i < j) : Reads w.heap.size w (some ⟨G i, 0, none⟩) (ln i + 12) (LentBytes.ext (ln i) (h i)) := by
  obtain ⟨p, c, he, hr, _⟩ := owns_reads (H.row i hi)
  cases he
  exact hr
theorem LR.congr {G' : Nat → Nat} (H : LR w0 w v j G ln h) (e : ∀ i, i < j → G i = G' i) : LR w0 w v j G' ln h :=
  ⟨H.bel, by rw [List.map_congr_left (g := srow G ln) fun i hi => by unfold srow; rw [e i (List.mem_range.1 hi)]]; exact H.own, fun i hi => by rw [← e i hi]; exact H.row i hi⟩
/-- one more -/
theorem LR.append (H : LR w0 w v j G ln h) (g : Nat) (hg : G j = g) (ty : TypeId) (hr : w.ownsRow w0.heap.size 5 1 (.slice (some ⟨g, 0, none⟩) (ln j + 12) (ln j + 12)) (ln j + 12) ((List.range (ln j + 12)).map (LentBytes.ext (ln j) (h j)))) (hj : j + 1 ≤ 4294967296) :
    ∃ v' w', (Builtin.append_ #[24, 24] ty #[v, .slice (some ⟨w.heap.size, 0, none⟩) 1 1]).run Tryd.prog (w.alloc (.cells #[.slice (some ⟨g, 0, none⟩) (ln j) (ln j + 12)] 23)) = .ok v' w' ∧ LR w0 w' v' (j + 1) G ln h := by
  obtain ⟨i0, hi, hz0, hz1, hz2⟩ := info_parts infoBs
  have hsz := H.bel.size
  have Ha := H.alloc (.cells #[.slice (some ⟨g, 0, none⟩) (ln j) (ln j + 12)] 23)
  have hra := owns_below hr ((Below.refl _ _).alloc (Nat.le_refl _) (.cells #[.slice (some ⟨g, 0, none⟩) (ln j) (ln j + 12)] 23))
  obtain ⟨v', w', h1, h2, h3⟩ := append_reads (P := Tryd.prog) (w.alloc (.cells #[.slice (some ⟨g, 0, none⟩) (ln j) (ln j + 12)] 23)) w0.heap.size _ 24 ty 23 i0 (.slice none 0 0) 24 Tryd.underlying24 hi hz0 hz1 hz2 rfl _ _ _ Ha.own (some ⟨w.heap.size, 0, none⟩) 1 1 (fun _ => .slice (some ⟨g, 0, none⟩) (ln j) (ln j + 12))
    (reads_laid (laid_at rfl) (fun i hi => by rw [show i = 0 by omega]; rfl)) (fun _ _ => rfl) (by unfold maxLen; omega) (by omega) (by simp; omega)
  refine ⟨v', w', h1, Ha.bel.grown h3 Ha.bel.size (fun q e => (Ha.own.lt q e).1), ?_, fun i hi => ?_⟩
  · rw [List.range_succ, List.map_append, List.map_singleton, show srow G ln j = .slice (some ⟨g, 0, none⟩) (ln j) (ln j + 12) by unfold srow; rw [hg]]
    simpa using h2
  · by_cases e : i = j
    · subst e
      rw [hg]
      exact owns_gr hra h3 fun q e => owns_apart hra Ha.own (by decide) q e
    · have hro := Ha.row i (by omega)
      exact owns_gr hro h3 fun q e => owns_apart hro Ha.own (by decide) q e
end
end Go.Proofs.YtoocfkaclhgjeaaDoor
namespace Go.Proofs.YtoocfkaclhgjeaaDoor
def upd' {α : Type} (f : Nat → α) (k : Nat) (x : α) : Nat → α := fun i => if i = k then x else f i
theorem upd_at' {α : Type} (f : Nat → α) (k : Nat) (x : α) : upd' f k x k = x := by unfold upd'; rw [if_pos rfl]
theorem upd_lt' {α : Type} (f : Nat → α) (k i : Nat) (x : α) (h : i < k) : upd' f k x i = f i := by unfold upd'; rw [if_neg (by omega)]
end Go.Proofs.YtoocfkaclhgjeaaDoor
namespace Go.Proofs.YtoocfkaclhgjeaaDoor
open Go.RowKit
set_option linter.unusedVariables false
set_option linter.unusedSimpArgs false

theorem owns_base {w : World} {base base' : Nat} {e : TypeId} {k : Nat} {v : Value} {n : Nat} {xs : List Value} (h : w.ownsRow base e k v n xs) (hb : base' ≤ base) : w.ownsRow base' e k v n xs := by
  refine ⟨h.1, ?_⟩
  rcases h.2 with h2 | ⟨g, cap, cur, h1, h2, h3⟩
  · exact .inl h2
  · exact .inr ⟨g, cap, cur, h1, Nat.le_trans hb h2, h3⟩
/-- all rows' bytes, one behind the other -/
theorem joined_ex (ln : Nat → Nat) (f : Nat → Nat → BitVec 8) (m : Nat) : ∃ g : Nat → BitVec 8, ∀ i, i < m → ∀ q, q < ln i → f i q = g (pos ln i + q) := by
  induction m with
  | zero => exact ⟨fun _ => 0#8, fun i hi => by omega⟩
  | succ m ih =>
    obtain ⟨g, hg⟩ := ih
    refine ⟨fun x => if x < pos ln m then g x else f m (x - pos ln m), fun i hi q hq => ?_⟩
    by_cases e : i = m
    · subst e
      simp only [show ¬ (pos ln i + q < pos ln i) by omega, if_false]
      rw [show pos ln i + q - pos ln i = q by omega]
    · have h1 := pos_mono ln (show i + 1 ≤ m by omega)
      have h2 : pos ln (i + 1) = pos ln i + ln i := rfl
      simp only [show pos ln i + q < pos ln m by omega, if_true]
      exact hg i (by omega) q hq
theorem pos_ge (ln : Nat → Nat) (m j : Nat) (h : j < m) : ln j ≤ pos ln m := by
  induction m with
  | zero => omega
  | succ m ih =>
    have e : pos ln (m + 1) = pos ln m + ln m := rfl
    by_cases hj : j = m
    · subst hj; omega
    · have := ih (by omega); omega
theorem zero_atL (n i : Nat) (hi : i < n) : (List.replicate n (Value.int .u8 0)).toArray[i]? = some (.int .u8 (ub 0#8)) := by
  rw [List.getElem?_toArray, List.getElem?_replicate, if_pos hi]; rfl
theorem tag_there (w3 : World) : (w3.alloc (.cells (List.replicate 32 (Value.int .u8 0)).toArray 33)).there w3.heap.size 0 32 := there_block (laid_at rfl) (by simp)
theorem tag_store (w3 : World) (s : Nat → BitVec 8) : BT ((w3.alloc (.cells (List.replicate 32 (Value.int .u8 0)).toArray 33)).setCells w3.heap.size 0 (tagC s)) w3.heap.size 32 s ∧ Below w3.heap.size w3 ((w3.alloc (.cells (List.replicate 32 (Value.int .u8 0)).toArray 33)).setCells w3.heap.size 0 (tagC s)) := by
  have ht0 : BT (w3.alloc (.cells (List.replicate 32 (Value.int .u8 0)).toArray 33)) w3.heap.size 32 (fun _ => 0#8) := BT.of_cells (laid_at rfl) (fun i hi => zero_atL 32 i hi)
  exact ⟨ht0.setFirst 32 (Nat.le_refl _) _ rfl fun j h1 h2 => by omega, ((Below.refl _ _).alloc (Nat.le_refl _) _).grown (gr_setCells (hb := w3.heap.size) (tagC s) 0 _) (by simp) (by rintro q ⟨⟩; exact Nat.le_refl _)⟩
end Go.Proofs.YtoocfkaclhgjeaaDoor
