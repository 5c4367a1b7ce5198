/-
  Merged: OpenTag, Abc.
-/
import Derived.Test.YtoocfkaclhgjeaaDoorOpen
import Derived.Test.YtoocfkaclhgjeaaDoorOf
import Derived.Lib.SlBytesConst

namespace Go.Proofs.YtoocfkaclhgjeaaDoor
open Go.RowKit Go.ChangeShapes Go.WideShapes
set_option linter.unusedVariables false
set_option linter.unusedSimpArgs false

section
variable {H : Type} {enc : TypeId × Value → H} {w : World} {base : Nat}
theorem vals_at {a : Addr} {n : Nat} {V : Nat → Value} (h : ∀ i, i < n → w.cell? (a.add i) = some (V i)) (hp : 0 < n) :
    ∃ b off, a = ⟨b, off, none⟩ ∧ ∀ j, j < n → w.cell? ⟨b, off + j, none⟩ = some (V j) := by
  obtain ⟨b, off, spot⟩ := a
  have hspot : spot = none := by simpa [Addr.add] using World.cell?_spot (h 0 hp)
  subst hspot
  exact ⟨b, off, rfl, fun j hj => by rw [← Go.WideShapes.add_plain]; exact h j hj⟩
set_option maxRecDepth 100000 in
theorem view_tag {r : Reach} {b0 : Nat} {v : Value} {d : DataW H} {p : List MemPlace} (hv : Value.okWide Tryd.prog w r b0 33 v) (h : DataW.Trod enc Tryd.prog w base (fun _ => true) true 33 v d p) : ∃ s, v = tagV s := by
  have hu := Tryd.underlying33
  simp only [Value.okWide, hu] at hv
  obtain ⟨cs, rfl, hs, _⟩ := hv
  rw [show Tryd.prog.cellsOf 33 = 32 by kernel_rfl] at hs
  obtain ⟨fuel, hf⟩ := h
  have hz : ∀ i, i < 32 → ∃ z, cs[i]? = some (.int .u8 z) ∧ (Lit.int .u8 z).wf = true := fun i hi => by
    simpa [Value.cells] using arr_ints hu Tryd.underlying5 (by kernel_rfl) hf i hi
  obtain ⟨Z, hZ⟩ := Go.Deep.choose_lt hz
  refine ⟨fun i => BitVec.ofNat 8 (Z i).toNat, ?_⟩
  unfold tagV
  congr 1
  apply Array.ext
  · simp [hs, tagC]
  · intro i h1 h2
    have hi : i < 32 := by omega
    have hc := hZ i hi
    rw [Array.getElem?_eq_getElem h1] at hc
    rw [Option.some.inj hc.1]
    simp only [tagC, List.getElem_toArray, List.getElem_map, List.getElem_range]
    rw [← u8_wf hc.2]
set_option maxRecDepth 100000 in
/-- rows of bytes -/
theorem view_rows {r : Reach} {b0 : Nat} {v : Value} {d : DataW H} {p : List MemPlace} (hv : Value.okWide Tryd.prog w r b0 24 v) (h : DataW.Trod enc Tryd.prog w base (fun _ => true) true 24 v d p) (hz : ∀ x ∈ d.weights Tryd.prog 24, x ≤ reachBytes) :
    ∃ (a : Option Addr) (len cap : Nat) (P : Nat → Option Addr) (L C : Nat → Nat) (f : Nat → Nat → BitVec 8), v = .slice a len cap ∧ len ≤ cap ∧ cap ≤ 5864062014634 ∧ RI w a len P L C f ∧ (a = none → cap = 0) ∧ (∀ i, i < len → P i = none → C i = 0) ∧ ∀ i, i < len → C i ≤ 140737488351232 := by
  obtain ⟨a, len, cap, rfl⟩ := okWide_slice Tryd.underlying24 hv
  obtain ⟨fuel, hf⟩ := h
  rcases Go.Deep.open_int_rows Tryd.underlying24 Tryd.underlying23 Tryd.underlying5 (by kernel_rfl) (by kernel_rfl) hf with ⟨hcs, _⟩ | ⟨x, l, c, A, L, C, Z, hcs, hb, hl, hm, hx, hrow⟩
  · simp [Value.cells] at hcs
    obtain ⟨rfl, rfl, rfl⟩ := hcs
    exact ⟨none, 0, 0, fun _ => none, fun _ => 0, fun _ => 0, fun _ _ => 0#8, rfl, Nat.le_refl _, by omega, ⟨.inl rfl, fun i hi => by omega, fun i hi => by omega⟩, fun _ => rfl, fun i hi => by omega, fun i hi => by omega⟩
  · simp [Value.cells] at hcs
    obtain ⟨rfl, rfl, rfl⟩ := hcs
    have hd := (Prod.mk.inj hx).1
    rw [hd] at hz
    obtain ⟨hs, hin⟩ := slice_small Tryd.underlying24 hz
    rw [show Tryd.prog.bytesOf 23 = 24 by kernel_rfl] at hs
    simp only [List.length_map, List.length_range, reachBytes] at hs
    have hC : ∀ i, i < len → C i ≤ 140737488351232 := fun i hi => by
      obtain ⟨_, _, _, h3, _, h5, _⟩ := hrow i (by omega)
      cases hA : A i with
      | none => have := h5 hA; omega
      | some a' =>
        have h := hin _ (List.mem_map.2 ⟨i, List.mem_range.2 hi, rfl⟩)
        unfold Go.Deep.intRow at h
        simp only [hA] at h
        have h2 := (slice_small Tryd.underlying23 h).1
        rw [show Tryd.prog.bytesOf 5 = 1 by kernel_rfl] at h2
        simp only [lits, List.length_map, List.length_take, List.length_drop, reachBytes] at h2
        omega
    refine ⟨some x, len, cap, A, L, C, fun i j => BitVec.ofNat 8 ((Z i).getD j 0).toNat, rfl, hl, by omega, ⟨?_, fun i hi => ⟨(hrow i (by omega)).2.1, (hrow i (by omega)).2.2.1⟩, fun i hi => ?_⟩, fun e => (by cases e), fun i hi => (hrow i (by omega)).2.2.2.2.2.1, hC⟩
    · by_cases h0 : len = 0
      · exact .inl h0
      · have hc := fun i hi => (hrow i hi).1
        obtain ⟨b, off, rfl, hc2⟩ := vals_at hc (by omega)
        exact .inr ⟨b, off, rfl, World.block_lt_of_cell? w ⟨b, off + 0, none⟩ (hc2 0 (by omega)), fun i hi => hc2 i (by omega)⟩
    · obtain ⟨_, h1, h2, h3, h4, h5, h6⟩ := hrow i (by omega)
      cases hA : A i with
      | none => exact .inl (by have := h5 hA; omega)
      | some a' =>
        obtain ⟨_, hcell⟩ := h6 a' hA
        obtain ⟨r1, _, _, r4⟩ := row_reads (k := .u8) (w := w) (a := some a') (len := L i) (cap := C i) (zs := Z i) (.inr ⟨a', rfl, h1, h2, h3, fun j hj => hcell j (by omega), h4⟩)
        exact r1.mono' (Nat.le_refl _) fun j hj => by rw [← u8_wf (r4 j hj)]
end
end Go.Proofs.YtoocfkaclhgjeaaDoor

namespace Go.Proofs.YtoocfkaclhgjeaaDoor
open Go.RowKit
set_option linter.unusedSimpArgs false
set_option linter.unusedVariables false

theorem infoB1 : ∃ i, Tryd.prog.info? 5 = some i ∧ i.size = 1 := by
  have h : (Tryd.prog.info? 5).map (·.size) = some 1 := by kernel_rfl
  cases hq : Tryd.prog.info? 5 with
  | none => rw [hq] at h; cases h
  | some i => exact ⟨i, rfl, by rw [hq] at h; simpa using h⟩
theorem equal_tag (s : Nat → BitVec 8) (d : Nat) (w : World) : (Op.equalIn (d + 2) 33 (tagV s) (tagV s)).run Tryd.prog w = .ok true w := by
  obtain ⟨i, hi, hs⟩ := infoB1
  unfold tagV
  rw [Op.equalIn]
  simp only [Sem.run_bind, run_underlying Tryd.underlying33, Result.andThen_ok, sizeOf, typeInfo, hi, hs, Std.Legacy.Range.forIn_eq_forIn_range', Std.Legacy.Range.size, Nat.sub_zero, Nat.add_sub_cancel, Nat.div_one]
  simp only [Sem.run_pure, Sem.run_bind, Result.andThen_ok, run_program, hi, hs]
  have hl : ∀ j ∈ List.range' 0 32 1, j < 32 := fun j hj => by simpa using (List.mem_range'_1.1 hj).2
  generalize List.range' 0 32 1 = l at hl ⊢
  induction l with
  | nil => simp
  | cons j l ih =>
    have hj : j < 32 := hl j (by simp)
    have px : (Go.part 5 (tagC s).toArray (j * 1)).run Tryd.prog w = .ok (.int .u8 (ub (s j))) w := by
      simp [Go.part, isAgg, run_underlying Tryd.underlying5, tagC, hj]
    have pe : (Op.equalIn (d + 1) 5 (.int .u8 (ub (s j))) (.int .u8 (ub (s j)))).run Tryd.prog w = .ok true w := by
      rw [run_equalIn_int w d 5 .u8 .u8 _ _ Tryd.underlying5]; simp
    simp only [List.forIn_cons, Sem.run_bind, px, pe, Result.andThen_ok, Bool.not_true, Bool.false_eq_true, if_false, Sem.run_pure]
    exact ih fun k hk => hl k (by simp [hk])
theorem eql_tag (s : Nat → BitVec 8) (w : World) : (binOp .eql 33 (tagV s) (tagV s)).run Tryd.prog w = .ok (.bool true) w := by
  have h := run_eql_struct (P := Tryd.prog) w 33 (tagC s).toArray (tagC s).toArray
  have e := equal_tag s 9998 w
  unfold tagV at e ⊢
  rw [h, e]; rfl
theorem neq_tag (s : Nat → BitVec 8) (w : World) : (binOp .neq 33 (tagV s) (tagV s)).run Tryd.prog w = .ok (.bool false) w := by
  have h := run_neq_struct (P := Tryd.prog) w 33 (tagC s).toArray (tagC s).toArray
  have e := equal_tag s 9998 w
  unfold tagV at e ⊢
  rw [h, e]; rfl
theorem guard_tag (s s' : Nat → BitVec 8) (op : BinOp) (x y : Operand) (w : World) : (eqGuard op 33 x y (tagV s) (tagV s')).run Tryd.prog w = .ok () w :=
  run_eqGuard_agg w op 33 x y _ _ (by kernel_rfl)
/-- the example's tag -/
def abcS (i : Nat) : BitVec 8 := abcT.getD i 0#8

def abcL : List Value := [Value.int .u8 186, Value.int .u8 120, Value.int .u8 22, Value.int .u8 191, Value.int .u8 143, Value.int .u8 1, Value.int .u8 207, Value.int .u8 234, Value.int .u8 65, Value.int .u8 65, Value.int .u8 64, Value.int .u8 222, Value.int .u8 93, Value.int .u8 174, Value.int .u8 34, Value.int .u8 35, Value.int .u8 176, Value.int .u8 3, Value.int .u8 97, Value.int .u8 163, Value.int .u8 150, Value.int .u8 23, Value.int .u8 122, Value.int .u8 156, Value.int .u8 180, Value.int .u8 16, Value.int .u8 255, Value.int .u8 97, Value.int .u8 242, Value.int .u8 0, Value.int .u8 21, Value.int .u8 173]
theorem abcL_one : abcL.toArray.all (·.oneCell') = true := by kernel_rfl
theorem abc_val : tagV abcS = .agg abcL.toArray := by kernel_rfl
theorem wpList_build_at {P : Program} {ops : Array Oper} {rest : List Oper} {o : Oper} {a : Act} {w : World} {Q : Exit → Act → World → Prop} (hg : o.guard = none) (t : TypeId) (parts : Array (Nat × Operand)) (ho : o.op = .build t parts) (cells : Array Value)
    (hb : P.built t (parts.map fun (i, x) => (i, a.eval x)).toList = some cells) (h : wpList P ops Q rest (a.put o.dst (.agg cells)) w) : wpList P ops Q (o :: rest) a w := by
  refine wpList_build hg t parts ho (by rw [hb]; rfl) ?_
  rw [hb]; exact h
theorem sha_abc {g : Nat → BitVec 8} (hg : ∀ i, i < 3 → g i = abcB i) : tagV (sha g 3) = tagV abcS := by
  unfold tagV tagC
  congr 2
  apply List.map_congr_left
  intro i hi
  rw [sha_congr 3 hg, abc_sha i (List.mem_range.1 hi)]
  rfl

end Go.Proofs.YtoocfkaclhgjeaaDoor
