/-
  What the arguments of a law are, out of what the frame says of them.
-/
import Derived.Test.YtoocfkaclhgjeaaDoorG4
import Derived.Test.YtoocfkaclhgjeaaDoorG5
import Derived.Lib.LaidU8
import Derived.Deep.Matrix
import Derived.Handed
namespace Go.Proofs.YtoocfkaclhgjeaaDoor
open Go.RowKit Go.ChangeShapes Go.WideShapes
set_option linter.unusedVariables false
set_option linter.unusedSimpArgs false

section
variable {H : Type} {enc : TypeId × Value → H} {w : World} {base : Nat}
theorem arr_ints {P : Program} {sp : Nat → Bool} {held : Bool} {t e : TypeId} {n : Nat} {k : IntKind} {fuel : Nat} {cs : List Value} {x : DataW H × List MemPlace} (ht : P.underlying t = some (.array n e)) (he : P.underlying e = some (.int k)) (hc : P.cellsOf e = 1)
    (h : DataW.trod enc P w base sp held fuel t cs = some x) (i : Nat) (hi : i < n) : ∃ z, cs[i]? = some (.int k z) ∧ (Lit.int k z).wf = true := by
  cases fuel with
  | zero => simp [DataW.trod] at h
  | succ fuel =>
    simp only [DataW.trod, ht] at h
    split at h
    · obtain ⟨xs, hm, hx⟩ := Option.map_eq_some_iff.1 h
      obtain ⟨b, hb, hf⟩ := Lib.mapM_at hm i i (by simp [hi])
      obtain ⟨z, hz, hx2, hw⟩ := DataW.trod_int he hf
      refine ⟨z, ?_, hw⟩
      rw [hc] at hz
      have := congrArg (·[0]?) hz
      simpa [List.getElem?_take, List.getElem?_drop] using this
    · cases h
/-- bytes of a number that fits -/
theorem u8_wf {z : Int} (h : (Lit.int .u8 z).wf = true) : z = ub (BitVec.ofNat 8 z.toNat) := by
  simp [Lit.wf, IntKind.min, IntKind.max, IntKind.signed, IntKind.bits] at h
  unfold ub; rw [BitVec.toNat_ofNat]; omega
theorem weights_all {P : Program} {e : TypeId} {l : List (DataW H)} {d : DataW H} (hd : d ∈ l) {x : Nat} (hx : x ∈ d.weights P e) : x ∈ DataW.weightsAll P e l := by
  induction l with
  | nil => cases hd
  | cons a r ih =>
    rw [DataW.weightsAll]
    rcases List.mem_cons.1 hd with rfl | h
    · exact List.mem_append_left _ hx
    · exact List.mem_append_right _ (ih h)
theorem slice_small {P : Program} {t e : TypeId} {xs ys : List (DataW H)} (ht : P.underlying t = some (.slice e)) (hz : ∀ x ∈ (DataW.slice xs ys).weights P t, x ≤ reachBytes) : (xs.length + ys.length) * P.bytesOf e ≤ reachBytes ∧ ∀ d ∈ xs, ∀ x ∈ d.weights P e, x ≤ reachBytes := by
  rw [DataW.weights, ht] at hz
  exact ⟨hz _ (List.mem_cons_self), fun d hd x hx => hz x (List.mem_cons_of_mem _ (List.mem_append_left _ (weights_all hd hx)))⟩
set_option maxRecDepth 100000 in
/-- a slice of bytes -/
theorem view_bytes {r : Reach} {b0 : Nat} {v : Value} {d : DataW H} {p : List MemPlace} (hv : Value.okWide Tryd.prog w r b0 23 v) (h : DataW.Trod enc Tryd.prog w base (fun _ => true) true 23 v d p) (hz : ∀ x ∈ d.weights Tryd.prog 23, x ≤ reachBytes) :
    ∃ (a : Option Addr) (len cap : Nat) (f : Nat → BitVec 8), v = .slice a len cap ∧ len ≤ cap ∧ cap ≤ 140737488351232 ∧ Reads w.heap.size w a len (fun i => .int .u8 (ub (f i))) ∧ (a = none → cap = 0) := by
  obtain ⟨a, len, cap, rfl⟩ := okWide_slice Tryd.underlying23 hv
  obtain ⟨fuel, hf⟩ := h
  rcases open_ints Tryd.underlying23 Tryd.underlying5 (by kernel_rfl) hf with ⟨hcs, _⟩ | ⟨x, l, c, zs, hcs, _, hl, hm, hlz, hx, hcell, hwz⟩
  · simp [Value.cells] at hcs
    obtain ⟨rfl, rfl, rfl⟩ := hcs
    exact ⟨none, 0, 0, fun _ => 0#8, rfl, Nat.le_refl _, by omega, .inl rfl, fun _ => rfl⟩
  · simp [Value.cells] at hcs
    obtain ⟨rfl, rfl, rfl⟩ := hcs
    obtain ⟨r1, _, _, r4⟩ := row_reads (k := .u8) (w := w) (a := some x) (len := len) (cap := cap) (zs := zs) (.inr ⟨x, rfl, hl, hm, by simpa using hlz, hcell, hwz⟩)
    obtain ⟨f, _, hr⟩ := row_bytes r1 r4
    simp only [if_true] at hlz
    have hd := (Prod.mk.inj hx).1
    rw [hd] at hz
    have hs := (slice_small Tryd.underlying23 hz).1
    rw [show Tryd.prog.bytesOf 5 = 1 by kernel_rfl] at hs
    simp only [lits, List.length_map, List.length_take, List.length_drop, reachBytes] at hs
    exact ⟨some x, len, cap, f, rfl, hl, by omega, hr, (fun e => by cases e)⟩
set_option maxRecDepth 100000 in
/-- a slice of numbers -/
theorem view_ints {r : Reach} {b0 : Nat} {v : Value} {d : DataW H} {p : List MemPlace} (hv : Value.okWide Tryd.prog w r b0 122 v) (h : DataW.Trod enc Tryd.prog w base (fun _ => true) true 122 v d p) (hz : ∀ x ∈ d.weights Tryd.prog 122, x ≤ reachBytes) :
    ∃ (a : Option Addr) (len cap : Nat) (f : Nat → Int), v = .slice a len cap ∧ len ≤ cap ∧ cap ≤ 17592186043904 ∧ Reads w.heap.size w a len (fun i => .int .i64 (f i)) ∧ (a = none → cap = 0) ∧ ∀ i, i < len → -9223372036854775808 ≤ f i ∧ f i ≤ 9223372036854775807 := by
  obtain ⟨a, len, cap, rfl⟩ := okWide_slice Tryd.underlying122 hv
  obtain ⟨fuel, hf⟩ := h
  rcases open_ints Tryd.underlying122 Tryd.underlying3 (by kernel_rfl) hf with ⟨hcs, _⟩ | ⟨x, l, c, zs, hcs, _, hl, hm, hlz, hx, hcell, hwz⟩
  · simp [Value.cells] at hcs
    obtain ⟨rfl, rfl, rfl⟩ := hcs
    exact ⟨none, 0, 0, fun _ => 0, rfl, Nat.le_refl _, by omega, .inl rfl, fun _ => rfl, fun i hi => by omega⟩
  · simp [Value.cells] at hcs
    obtain ⟨rfl, rfl, rfl⟩ := hcs
    obtain ⟨r1, _, _, r4⟩ := row_reads (k := .i64) (w := w) (a := some x) (len := len) (cap := cap) (zs := zs) (.inr ⟨x, rfl, hl, hm, by simpa using hlz, hcell, hwz⟩)
    simp only [if_true] at hlz
    have hd := (Prod.mk.inj hx).1
    rw [hd] at hz
    have hs := (slice_small Tryd.underlying122 hz).1
    rw [show Tryd.prog.bytesOf 3 = 8 by kernel_rfl] at hs
    simp only [lits, List.length_map, List.length_take, List.length_drop, reachBytes] at hs
    exact ⟨some x, len, cap, _, rfl, hl, by omega, r1, (fun e => by cases e), fun i hi => i64_wf (r4 i hi)⟩
end
end Go.Proofs.YtoocfkaclhgjeaaDoor
