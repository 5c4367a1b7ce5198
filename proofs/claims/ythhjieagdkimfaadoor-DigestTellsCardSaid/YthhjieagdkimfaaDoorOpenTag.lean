/-
  What the arguments of a law are: tags, rows of bytes.
-/
import Derived.Test.YthhjieagdkimfaaDoorOpen
import Derived.Test.YthhjieagdkimfaaDoorOf
namespace Go.Proofs.YthhjieagdkimfaaDoor
open Go.RowKit Go.ChangeShapes Go.WideShapes
set_option linter.unusedVariables false
set_option linter.unusedSimpArgs false

section
variable {H : Type} {enc : TypeId × Value → H} {w : World} {base : Nat}
theorem vals_at {a : Addr} {n : Nat} {V : Nat → Value} (h : ∀ i, i < n → w.cell? (a.add i) = some (V i)) (hp : 0 < n) :
    ∃ b off, a = ⟨b, off, none⟩ ∧ ∀ j, j < n → w.cell? ⟨b, off + j, none⟩ = some (V j) := by
  obtain ⟨b, off, spot⟩ := a
  have hspot : spot = none := by simpa [Addr.add] using World.cell?_spot (h 0 hp)
  subst hspot
  exact ⟨b, off, rfl, fun j hj => by rw [← Go.WideShapes.add_plain]; exact h j hj⟩
set_option maxRecDepth 100000 in
theorem view_tag {r : Reach} {b0 : Nat} {v : Value} {d : DataW H} {p : List MemPlace} (hv : Value.okWide Tryd.prog w r b0 32 v) (h : DataW.Trod enc Tryd.prog w base (fun _ => true) true 32 v d p) : ∃ s, v = tagV s := by
  have hu := Tryd.underlying32
  simp only [Value.okWide, hu] at hv
  obtain ⟨cs, rfl, hs, _⟩ := hv
  rw [show Tryd.prog.cellsOf 32 = 32 by kernel_rfl] at hs
  obtain ⟨fuel, hf⟩ := h
  have hz : ∀ i, i < 32 → ∃ z, cs[i]? = some (.int .u8 z) ∧ (Lit.int .u8 z).wf = true := fun i hi => by
    simpa [Value.cells] using arr_ints hu Tryd.underlying5 (by kernel_rfl) hf i hi
  obtain ⟨Z, hZ⟩ := Go.Deep.choose_lt hz
  refine ⟨fun i => BitVec.ofNat 8 (Z i).toNat, ?_⟩
  unfold tagV
  congr 1
  apply Array.ext
  · simp [hs, tagC]
  · intro i h1 h2
    have hi : i < 32 := by omega
    have hc := hZ i hi
    rw [Array.getElem?_eq_getElem h1] at hc
    rw [Option.some.inj hc.1]
    simp only [tagC, List.getElem_toArray, List.getElem_map, List.getElem_range]
    rw [← u8_wf hc.2]
set_option maxRecDepth 100000 in
/-- rows of bytes -/
theorem view_rows {r : Reach} {b0 : Nat} {v : Value} {d : DataW H} {p : List MemPlace} (hv : Value.okWide Tryd.prog w r b0 22 v) (h : DataW.Trod enc Tryd.prog w base (fun _ => true) true 22 v d p) (hz : ∀ x ∈ d.weights Tryd.prog 22, x ≤ reachBytes) :
    ∃ (a : Option Addr) (len cap : Nat) (P : Nat → Option Addr) (L C : Nat → Nat) (f : Nat → Nat → BitVec 8), v = .slice a len cap ∧ len ≤ cap ∧ cap ≤ 5864062014634 ∧ RI w a len P L C f ∧ (a = none → cap = 0) ∧ (∀ i, i < len → P i = none → C i = 0) ∧ ∀ i, i < len → C i ≤ 140737488351232 := by
  obtain ⟨a, len, cap, rfl⟩ := okWide_slice Tryd.underlying22 hv
  obtain ⟨fuel, hf⟩ := h
  rcases Go.Deep.open_int_rows Tryd.underlying22 Tryd.underlying27 Tryd.underlying5 (by kernel_rfl) (by kernel_rfl) hf with ⟨hcs, _⟩ | ⟨x, l, c, A, L, C, Z, hcs, hb, hl, hm, hx, hrow⟩
  · simp [Value.cells] at hcs
    obtain ⟨rfl, rfl, rfl⟩ := hcs
    exact ⟨none, 0, 0, fun _ => none, fun _ => 0, fun _ => 0, fun _ _ => 0#8, rfl, Nat.le_refl _, by omega, ⟨.inl rfl, fun i hi => by omega, fun i hi => by omega⟩, fun _ => rfl, fun i hi => by omega, fun i hi => by omega⟩
  · simp [Value.cells] at hcs
    obtain ⟨rfl, rfl, rfl⟩ := hcs
    have hd := (Prod.mk.inj hx).1
    rw [hd] at hz
    obtain ⟨hs, hin⟩ := slice_small Tryd.underlying22 hz
    rw [show Tryd.prog.bytesOf 27 = 24 by kernel_rfl] at hs
    simp only [List.length_map, List.length_range, reachBytes] at hs
    have hC : ∀ i, i < len → C i ≤ 140737488351232 := fun i hi => by
      obtain ⟨_, _, _, h3, _, h5, _⟩ := hrow i (by omega)
      cases hA : A i with
      | none => have := h5 hA; omega
      | some a' =>
        have h := hin _ (List.mem_map.2 ⟨i, List.mem_range.2 hi, rfl⟩)
        unfold Go.Deep.intRow at h
        simp only [hA] at h
        have h2 := (slice_small Tryd.underlying27 h).1
        rw [show Tryd.prog.bytesOf 5 = 1 by kernel_rfl] at h2
        simp only [lits, List.length_map, List.length_take, List.length_drop, reachBytes] at h2
        omega
    refine ⟨some x, len, cap, A, L, C, fun i j => BitVec.ofNat 8 ((Z i).getD j 0).toNat, rfl, hl, by omega, ⟨?_, fun i hi => ⟨(hrow i (by omega)).2.1, (hrow i (by omega)).2.2.1⟩, fun i hi => ?_⟩, fun e => (by cases e), fun i hi => (hrow i (by omega)).2.2.2.2.2.1, hC⟩
    · by_cases h0 : len = 0
      · exact .inl h0
      · have hc := fun i hi => (hrow i hi).1
        obtain ⟨b, off, rfl, hc2⟩ := vals_at hc (by omega)
        exact .inr ⟨b, off, rfl, World.block_lt_of_cell? w ⟨b, off + 0, none⟩ (hc2 0 (by omega)), fun i hi => hc2 i (by omega)⟩
    · obtain ⟨_, h1, h2, h3, h4, h5, h6⟩ := hrow i (by omega)
      cases hA : A i with
      | none => exact .inl (by have := h5 hA; omega)
      | some a' =>
        obtain ⟨_, hcell⟩ := h6 a' hA
        obtain ⟨r1, _, _, r4⟩ := row_reads (k := .u8) (w := w) (a := some a') (len := L i) (cap := C i) (zs := Z i) (.inr ⟨a', rfl, h1, h2, h3, fun j hj => hcell j (by omega), h4⟩)
        exact r1.mono' (Nat.le_refl _) fun j hj => by rw [← u8_wf (r4 j hj)]
end
end Go.Proofs.YthhjieagdkimfaaDoor
