/-
  Contracts: the document's words of a block, and its tag.
-/
import Derived.Test.YthhjieagdkimfaaDoorRefSha
import Derived.Test.YthhjieagdkimfaaDoorRegs
import Derived.Test.YthhjieagdkimfaaDoorSpread
namespace Go.Proofs.YthhjieagdkimfaaDoor
open Go.RowKit
set_option linter.unusedVariables false
set_option linter.unusedSimpArgs false

/-- behind an append what was appended to is as it was -/
theorem append_keeps {P : Program} (w : World) (base : Nat) (t ty e : TypeId) (i : TypeInfo) (z : Value) (bytes : Nat) (ht : P.underlying t = some (.slice e)) (hi : P.info? e = some i) (hz : i.zero = some z)
    (hsize : i.size = 1) (hby : i.bytes = bytes) (hzs : z.cells.size = 1) (v : Value) (n : Nat) (xs : List Value) (hown : w.ownsRow base e 1 v n xs)
    (a : Addr) (m c : Nat) (news : List Value) (hl : news.length = m * 1) (hnews : ∀ j u, news[j]? = some u → w.cell? (a.add j) = some u) (h1 : ∀ u ∈ news, u.oneCell' = true)
    (h63 : n + m ≤ maxLen) (hbytes : (n + m) * bytes ≤ 140737488355328) (hbase : base ≤ w.heap.size) :
    ∃ v' w', (Builtin.append_ #[t, t] ty #[v, .slice (some a) m c]).run P w = .ok v' w' ∧ w'.ownsRow base e 1 v' (n + m) (xs ++ news) ∧ w'.ownsRow base e 1 v n xs ∧ w.grownBy w' v.ownBlock := by
  obtain ⟨v', w', hr, h2, h3, _⟩ := run_append_own (P := P) w base t ty e i z 1 bytes ht hi hz hsize hby hzs (by omega) v n xs hown a m c news hl hnews h1 h63 hbytes hbase
  refine ⟨v', w', hr, h2, ?_, h3⟩
  rcases hown.2 with ⟨rfl, rfl⟩ | ⟨g, cap, cur, rfl, hbg, hg, hnc, hcm, hcs, htake⟩
  · have hx : xs = [] := List.eq_nil_of_length_eq_zero (by simpa using hown.1)
    subst hx
    exact World.ownsRow_nil _ _ _ _
  · by_cases hroom : n + m ≤ cap
    · have hr2 := run_append_room (P := P) w t ty e i ht hi g n cap cur hg a m c news (by rw [hsize]; exact hl) hnews h1 hroom (by rw [hsize, hl, hcs]; omega)
      have he := hr.symm.trans hr2
      injection he with e1 e2
      subst e2
      refine ⟨hown.1, .inr ⟨g, cap, _, rfl, hbg, setRow_heap w g cur _ e _ hg, hnc, hcm, ?_, ?_⟩⟩
      · rw [hsize]
        simp only [List.size_toArray, List.length_append, List.length_take, List.length_drop, Array.length_toList]
        omega
      · rw [hsize, htake, List.append_assoc, ← hown.1]
        exact List.take_left
    · have hr2 := run_append_grow (P := P) w t ty e i z ht hi hz ⟨g, 0, none⟩ n cap xs (by rw [hsize]; exact hown.1) (hown.cells (g := g) rfl) a m c news (by rw [hsize]; exact hl) hnews (by omega) (by unfold maxLen at h63; omega) (growslice_fits (by omega) (by rw [hby]; exact hbytes))
      have he := hr.symm.trans hr2
      injection he with e1 e2
      subst e2
      exact (World.ownsRow.drew hown).alloc _

/-! the constants, the beginning -/
/-- a block of n words -/
structure WT (w : World) (tb n : Nat) (f : Nat → BitVec 32) : Prop where
  lt : tb < w.heap.size
  word : ∀ i, i < n → w.cell? ⟨tb, i, none⟩ = some (.int .u32 (u (f i)))
  free : ∀ i, w.frozen? ⟨tb, i, none⟩ = false
section
variable {w w' : World} {tb n : Nat} {f f' : Nat → BitVec 32}
theorem WT.of_block (h : WT w tb n f) (hs : w.heap.size ≤ w'.heap.size) (e : w'.heap[tb]? = w.heap[tb]?) : WT w' tb n f :=
  ⟨Nat.lt_of_lt_of_le h.lt hs, fun i hi => (World.cell?_of_block (a := ⟨tb, i, none⟩) e).trans (h.word i hi), fun i => (World.frozen?_of_block (a := ⟨tb, i, none⟩) e).trans (h.free i)⟩
theorem WT.below' (h : WT w tb n f) (g : Below w.heap.size w w') : WT w' tb n f := h.of_block g.size (g.block tb h.lt)
theorem WT.alloc (h : WT w tb n f) (o : Obj) : WT (w.alloc o) tb n f := h.of_block (by simp) (heap_alloc_old w o h.lt)
theorem WT.drew (h : WT w tb n f) : WT w.drew tb n f := h.of_block (Nat.le_refl _) rfl
theorem WT.gr {hb : Nat} (h : WT w tb n f) (g : w.grownBy w' (some hb)) (hne : tb ≠ hb) : WT w' tb n f := h.of_block g.size (g.block tb h.lt (by simpa using hne))
theorem WT.congr (h : WT w tb n f) (e : ∀ i, i < n → f i = f' i) : WT w tb n f' := ⟨h.lt, fun i hi => by rw [← e i hi]; exact h.word i hi, h.free⟩
theorem WT.set (h : WT w tb n f) (i : Nat) (hi : i < n) (x : BitVec 32) (hx : f' i = x) (ho : ∀ j, j < n → j ≠ i → f' j = f j) : WT (w.setCell ⟨tb, i, none⟩ (.int .u32 (u x))) tb n f' := by
  refine ⟨by simpa [World.setCell] using h.lt, fun j hj => ?_, fun i => fro_eq.trans (h.free i)⟩
  by_cases e : j = i
  · subst e
    rw [World.cell?_setCell_same' _ _ _ (by rw [h.word j hj]; rfl), hx]
  · rw [cell_ne (Ne.symm e), ho j hj e]; exact h.word j hj
theorem WT.of_cells {t : TypeId} {C : Array Value} (h : w.heap[tb]? = some (.cells C t (0, 0))) (hC : ∀ i, i < n → C[i]? = some (.int .u32 (u (f i)))) : WT w tb n f := by
  refine ⟨(Array.getElem?_eq_some_iff.1 h).1, fun i hi => ?_, fun i => frozen_of_row w tb i _ t h⟩
  rw [cell_of_row w tb i _ t (0, 0) h, hC i hi]
theorem WT.reads (h : WT w tb n f) : Reads w.heap.size w (some ⟨tb, 0, none⟩) n (fun i => .int .u32 (u (f i))) :=
  .inr ⟨tb, 0, rfl, h.lt, fun i hi => by rw [Nat.zero_add]; exact h.word i hi⟩
end
def klA : Array Value := (kl.map fun x => Value.int .u32 (u x)).toArray
set_option maxHeartbeats 1000000 in
set_option maxRecDepth 100000 in
theorem consts_any (w : World) : Calls Tryd.prog 46 #[] w fun e w' => ∃ H, e = .returned (.slice (some ⟨H, 0, none⟩) 64 64) ∧ w.heap.size ≤ H ∧ Below w.heap.size w w' ∧ WT w' H 64 kc := by
  go_enter Tryd.func46, Tryd.ntmps46
  go_wp2
  go_ret
  refine ⟨_, rfl, Nat.le_refl _, (Below.refl _ _).alloc (Nat.le_refl _) _, WT.of_cells (C := klA) (by exact laid_at rfl) fun i hi => ?_⟩
  unfold klA kc
  simp [List.getD, show i < kl.length from hi]
set_option maxHeartbeats 1000000 in
set_option maxRecDepth 100000 in
theorem refBegin_any (w : World) : Calls Tryd.prog 47 #[] w fun e w' => ∃ H, e = .returned (.slice (some ⟨H, 0, none⟩) 8 8) ∧ w.heap.size ≤ H ∧ Below w.heap.size w w' ∧ WT w' H 8 beg := by
  go_enter Tryd.func47, Tryd.ntmps47
  go_wp2
  go_ret
  refine ⟨_, rfl, Nat.le_refl _, (Below.refl _ _).alloc (Nat.le_refl _) _, WT.of_cells (by exact laid_at rfl) fun i hi => ?_⟩
  match i, hi with
  | 0, _ => rfl
  | 1, _ => rfl
  | 2, _ => rfl
  | 3, _ => rfl
  | 4, _ => rfl
  | 5, _ => rfl
  | 6, _ => rfl
  | 7, _ => rfl
end Go.Proofs.YthhjieagdkimfaaDoor
