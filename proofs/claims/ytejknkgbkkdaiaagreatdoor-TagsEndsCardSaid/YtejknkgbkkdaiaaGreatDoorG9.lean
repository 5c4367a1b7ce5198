/-
  Merged: OpenTag, Abc, Same.
-/
import Derived.Test.YtejknkgbkkdaiaaGreatDoorG4
import Derived.Test.YtejknkgbkkdaiaaGreatDoorG8
import Derived.Lib.SlBytesConst
import Derived.Deep.QuietTactic
import Derived.BigQuiet

namespace Go.Proofs.YtejknkgbkkdaiaaGreatDoor
open Go.RowKit Go.ChangeShapes Go.WideShapes
set_option linter.unusedVariables false
set_option linter.unusedSimpArgs false

section
variable {H : Type} {enc : TypeId × Value → H} {w : World} {base : Nat}
theorem vals_at {a : Addr} {n : Nat} {V : Nat → Value} (h : ∀ i, i < n → w.cell? (a.add i) = some (V i)) (hp : 0 < n) :
    ∃ b off, a = ⟨b, off, none⟩ ∧ ∀ j, j < n → w.cell? ⟨b, off + j, none⟩ = some (V j) := by
  obtain ⟨b, off, spot⟩ := a
  have hspot : spot = none := by simpa [Addr.add] using World.cell?_spot (h 0 hp)
  subst hspot
  exact ⟨b, off, rfl, fun j hj => by rw [← Go.WideShapes.add_plain]; exact h j hj⟩
set_option maxRecDepth 100000 in
theorem view_tag {r : Reach} {b0 : Nat} {v : Value} {d : DataW H} {p : List MemPlace} (hv : Value.okWide Tryz.prog w r b0 25 v) (h : DataW.Trod enc Tryz.prog w base (fun _ => true) true 25 v d p) : ∃ s, v = tagV s := by
  have hu := Tryz.underlying25
  simp only [Value.okWide, hu] at hv
  obtain ⟨cs, rfl, hs, _⟩ := hv
  rw [show Tryz.prog.cellsOf 25 = 32 by kernel_rfl] at hs
  obtain ⟨fuel, hf⟩ := h
  have hz : ∀ i, i < 32 → ∃ z, cs[i]? = some (.int .u8 z) ∧ (Lit.int .u8 z).wf = true := fun i hi => by
    simpa [Value.cells] using arr_ints hu Tryz.underlying5 (by kernel_rfl) hf i hi
  obtain ⟨Z, hZ⟩ := Go.Deep.choose_lt hz
  refine ⟨fun i => BitVec.ofNat 8 (Z i).toNat, ?_⟩
  unfold tagV
  congr 1
  apply Array.ext
  · simp [hs, tagC]
  · intro i h1 h2
    have hi : i < 32 := by omega
    have hc := hZ i hi
    rw [Array.getElem?_eq_getElem h1] at hc
    rw [Option.some.inj hc.1]
    simp only [tagC, List.getElem_toArray, List.getElem_map, List.getElem_range]
    rw [← u8_wf hc.2]
set_option maxRecDepth 100000 in
/-- rows of bytes -/
theorem view_rows {r : Reach} {b0 : Nat} {v : Value} {d : DataW H} {p : List MemPlace} (hv : Value.okWide Tryz.prog w r b0 36 v) (h : DataW.Trod enc Tryz.prog w base (fun _ => true) true 36 v d p) (hz : ∀ x ∈ d.weights Tryz.prog 36, x ≤ reachBytes) :
    ∃ (a : Option Addr) (len cap : Nat) (P : Nat → Option Addr) (L C : Nat → Nat) (f : Nat → Nat → BitVec 8), v = .slice a len cap ∧ len ≤ cap ∧ cap ≤ 5864062014634 ∧ RI w a len P L C f ∧ (a = none → cap = 0) ∧ (∀ i, i < len → P i = none → C i = 0) ∧ ∀ i, i < len → C i ≤ 140737488351232 := by
  obtain ⟨a, len, cap, rfl⟩ := okWide_slice Tryz.underlying36 hv
  obtain ⟨fuel, hf⟩ := h
  rcases Go.Deep.open_int_rows Tryz.underlying36 Tryz.underlying22 Tryz.underlying5 (by kernel_rfl) (by kernel_rfl) hf with ⟨hcs, _⟩ | ⟨x, l, c, A, L, C, Z, hcs, hb, hl, hm, hx, hrow⟩
  · simp [Value.cells] at hcs
    obtain ⟨rfl, rfl, rfl⟩ := hcs
    exact ⟨none, 0, 0, fun _ => none, fun _ => 0, fun _ => 0, fun _ _ => 0#8, rfl, Nat.le_refl _, by omega, ⟨.inl rfl, fun i hi => by omega, fun i hi => by omega⟩, fun _ => rfl, fun i hi => by omega, fun i hi => by omega⟩
  · simp [Value.cells] at hcs
    obtain ⟨rfl, rfl, rfl⟩ := hcs
    have hd := (Prod.mk.inj hx).1
    rw [hd] at hz
    obtain ⟨hs, hin⟩ := slice_small Tryz.underlying36 hz
    rw [show Tryz.prog.bytesOf 22 = 24 by kernel_rfl] at hs
    simp only [List.length_map, List.length_range, reachBytes] at hs
    have hC : ∀ i, i < len → C i ≤ 140737488351232 := fun i hi => by
      obtain ⟨_, _, _, h3, _, h5, _⟩ := hrow i (by omega)
      cases hA : A i with
      | none => have := h5 hA; omega
      | some a' =>
        have h := hin _ (List.mem_map.2 ⟨i, List.mem_range.2 hi, rfl⟩)
        unfold Go.Deep.intRow at h
        simp only [hA] at h
        have h2 := (slice_small Tryz.underlying22 h).1
        rw [show Tryz.prog.bytesOf 5 = 1 by kernel_rfl] at h2
        simp only [lits, List.length_map, List.length_take, List.length_drop, reachBytes] at h2
        omega
    refine ⟨some x, len, cap, A, L, C, fun i j => BitVec.ofNat 8 ((Z i).getD j 0).toNat, rfl, hl, by omega, ⟨?_, fun i hi => ⟨(hrow i (by omega)).2.1, (hrow i (by omega)).2.2.1⟩, fun i hi => ?_⟩, fun e => (by cases e), fun i hi => (hrow i (by omega)).2.2.2.2.2.1, hC⟩
    · by_cases h0 : len = 0
      · exact .inl h0
      · have hc := fun i hi => (hrow i hi).1
        obtain ⟨b, off, rfl, hc2⟩ := vals_at hc (by omega)
        exact .inr ⟨b, off, rfl, World.block_lt_of_cell? w ⟨b, off + 0, none⟩ (hc2 0 (by omega)), fun i hi => hc2 i (by omega)⟩
    · obtain ⟨_, h1, h2, h3, h4, h5, h6⟩ := hrow i (by omega)
      cases hA : A i with
      | none => exact .inl (by have := h5 hA; omega)
      | some a' =>
        obtain ⟨_, hcell⟩ := h6 a' hA
        obtain ⟨r1, _, _, r4⟩ := row_reads (k := .u8) (w := w) (a := some a') (len := L i) (cap := C i) (zs := Z i) (.inr ⟨a', rfl, h1, h2, h3, fun j hj => hcell j (by omega), h4⟩)
        exact r1.mono' (Nat.le_refl _) fun j hj => by rw [← u8_wf (r4 j hj)]
end
end Go.Proofs.YtejknkgbkkdaiaaGreatDoor

namespace Go.Proofs.YtejknkgbkkdaiaaGreatDoor
open Go.RowKit
set_option linter.unusedSimpArgs false
set_option linter.unusedVariables false

theorem infoB1 : ∃ i, Tryz.prog.info? 5 = some i ∧ i.size = 1 := by
  have h : (Tryz.prog.info? 5).map (·.size) = some 1 := by kernel_rfl
  cases hq : Tryz.prog.info? 5 with
  | none => rw [hq] at h; cases h
  | some i => exact ⟨i, rfl, by rw [hq] at h; simpa using h⟩
theorem equal_tag (s : Nat → BitVec 8) (d : Nat) (w : World) : (Op.equalIn (d + 2) 25 (tagV s) (tagV s)).run Tryz.prog w = .ok true w := by
  obtain ⟨i, hi, hs⟩ := infoB1
  unfold tagV
  rw [Op.equalIn]
  simp only [Sem.run_bind, run_underlying Tryz.underlying25, Result.andThen_ok, sizeOf, typeInfo, hi, hs, Std.Legacy.Range.forIn_eq_forIn_range', Std.Legacy.Range.size, Nat.sub_zero, Nat.add_sub_cancel, Nat.div_one]
  simp only [Sem.run_pure, Sem.run_bind, Result.andThen_ok, run_program, hi, hs]
  have hl : ∀ j ∈ List.range' 0 32 1, j < 32 := fun j hj => by simpa using (List.mem_range'_1.1 hj).2
  generalize List.range' 0 32 1 = l at hl ⊢
  induction l with
  | nil => simp
  | cons j l ih =>
    have hj : j < 32 := hl j (by simp)
    have px : (Go.part 5 (tagC s).toArray (j * 1)).run Tryz.prog w = .ok (.int .u8 (ub (s j))) w := by
      simp [Go.part, isAgg, run_underlying Tryz.underlying5, tagC, hj]
    have pe : (Op.equalIn (d + 1) 5 (.int .u8 (ub (s j))) (.int .u8 (ub (s j)))).run Tryz.prog w = .ok true w := by
      rw [run_equalIn_int w d 5 .u8 .u8 _ _ Tryz.underlying5]; simp
    simp only [List.forIn_cons, Sem.run_bind, px, pe, Result.andThen_ok, Bool.not_true, Bool.false_eq_true, if_false, Sem.run_pure]
    exact ih fun k hk => hl k (by simp [hk])
theorem eql_tag (s : Nat → BitVec 8) (w : World) : (binOp .eql 25 (tagV s) (tagV s)).run Tryz.prog w = .ok (.bool true) w := by
  have h := run_eql_struct (P := Tryz.prog) w 25 (tagC s).toArray (tagC s).toArray
  have e := equal_tag s 9998 w
  unfold tagV at e ⊢
  rw [h, e]; rfl
theorem neq_tag (s : Nat → BitVec 8) (w : World) : (binOp .neq 25 (tagV s) (tagV s)).run Tryz.prog w = .ok (.bool false) w := by
  have h := run_neq_struct (P := Tryz.prog) w 25 (tagC s).toArray (tagC s).toArray
  have e := equal_tag s 9998 w
  unfold tagV at e ⊢
  rw [h, e]; rfl
theorem guard_tag (s s' : Nat → BitVec 8) (op : BinOp) (x y : Operand) (w : World) : (eqGuard op 25 x y (tagV s) (tagV s')).run Tryz.prog w = .ok () w :=
  run_eqGuard_agg w op 25 x y _ _ (by kernel_rfl)
/-- the example's tag -/
def abcS (i : Nat) : BitVec 8 := abcT.getD i 0#8

def abcL : List Value := [Value.int .u8 186, Value.int .u8 120, Value.int .u8 22, Value.int .u8 191, Value.int .u8 143, Value.int .u8 1, Value.int .u8 207, Value.int .u8 234, Value.int .u8 65, Value.int .u8 65, Value.int .u8 64, Value.int .u8 222, Value.int .u8 93, Value.int .u8 174, Value.int .u8 34, Value.int .u8 35, Value.int .u8 176, Value.int .u8 3, Value.int .u8 97, Value.int .u8 163, Value.int .u8 150, Value.int .u8 23, Value.int .u8 122, Value.int .u8 156, Value.int .u8 180, Value.int .u8 16, Value.int .u8 255, Value.int .u8 97, Value.int .u8 242, Value.int .u8 0, Value.int .u8 21, Value.int .u8 173]
theorem abcL_one : abcL.toArray.all (·.oneCell') = true := by kernel_rfl
theorem abc_val : tagV abcS = .agg abcL.toArray := by kernel_rfl
theorem wpList_build_at {P : Program} {ops : Array Oper} {rest : List Oper} {o : Oper} {a : Act} {w : World} {Q : Exit → Act → World → Prop} (hg : o.guard = none) (t : TypeId) (parts : Array (Nat × Operand)) (ho : o.op = .build t parts) (cells : Array Value)
    (hb : P.built t (parts.map fun (i, x) => (i, a.eval x)).toList = some cells) (h : wpList P ops Q rest (a.put o.dst (.agg cells)) w) : wpList P ops Q (o :: rest) a w := by
  refine wpList_build hg t parts ho (by rw [hb]; rfl) ?_
  rw [hb]; exact h
theorem sha_abc {g : Nat → BitVec 8} (hg : ∀ i, i < 3 → g i = abcB i) : tagV (sha g 3) = tagV abcS := by
  unfold tagV tagC
  congr 2
  apply List.map_congr_left
  intro i hi
  rw [sha_congr 3 hg, abc_sha i (List.mem_range.1 hi)]
  rfl

end Go.Proofs.YtejknkgbkkdaiaaGreatDoor

namespace Go.Proofs.YtejknkgbkkdaiaaGreatDoor
open Go.RowKit
set_option linter.unusedVariables false
set_option linter.unusedSimpArgs false

theorem ub_inj {x y : BitVec 8} : ub x = ub y ↔ x = y := by
  unfold ub; rw [Int.ofNat_inj]; exact BitVec.toNat_inj
theorem of_ub (x : BitVec 8) : BitVec.ofInt 8 (ub x) = x := by
  unfold ub; rw [BitVec.ofInt_natCast]; simp
theorem ub_wrap (x : BitVec 8) : IntKind.u8.wrap (x.toNat : Int) = ub x := by
  unfold ub; rw [IntKind.wrap_u8]; have := x.isLt; omega
theorem xor_ub (x y : BitVec 8) : bits .xor .u8 (ub x) (ub y) = ub (x ^^^ y) := by
  show IntKind.u8.wrap ((BitVec.ofInt 8 (ub x) ^^^ BitVec.ofInt 8 (ub y)).toNat : Int) = _
  rw [of_ub, of_ub, ub_wrap]
theorem or_ub (x y : BitVec 8) : bits .or .u8 (ub x) (ub y) = ub (x ||| y) := by
  show IntKind.u8.wrap ((BitVec.ofInt 8 (ub x) ||| BitVec.ofInt 8 (ub y)).toNat : Int) = _
  rw [of_ub, of_ub, ub_wrap]
theorem ub_zero (x : BitVec 8) : (ub x == 0) = (x == 0#8) := by
  rw [Bool.eq_iff_iff, beq_iff_eq, beq_iff_eq]; exact (@ub_inj x 0#8)
theorem u8_plain : IntKind.u8.signed = false := rfl
theorem ub_beq (x y : BitVec 8) : (ub x == ub y) = (x == y) := by
  rw [Bool.eq_iff_iff, beq_iff_eq, beq_iff_eq]; exact ub_inj
attribute [go_sem] xor_ub or_ub ub_zero u8_plain ub_beq

/-- are the first k bytes the same -/
def teqTo (s t : Nat → BitVec 8) : Nat → Bool
  | 0 => true
  | k + 1 => teqTo s t k && s k == t k
def teq (s t : Nat → BitVec 8) : Bool := teqTo s t 32
theorem teqTo_iff (s t : Nat → BitVec 8) (k : Nat) : teqTo s t k = true ↔ ∀ i, i < k → s i = t i := by
  induction k with
  | zero => simp [teqTo]
  | succ k ih =>
    simp only [teqTo, Bool.and_eq_true, ih, beq_iff_eq]
    constructor
    · rintro ⟨h1, h2⟩ i hi
      rcases (show i < k ∨ i = k by omega) with h | rfl
      · exact h1 i h
      · exact h2
    · exact fun h => ⟨fun i hi => h i (by omega), h k (by omega)⟩
theorem teq_iff (s t : Nat → BitVec 8) : teq s t = true ↔ ∀ i, i < 32 → s i = t i := teqTo_iff s t 32
theorem teq_self (s : Nat → BitVec 8) : teq s s = true := (teq_iff s s).2 fun _ _ => rfl
theorem teq_comm (s t : Nat → BitVec 8) : teq s t = teq t s := by
  rw [Bool.eq_iff_iff, teq_iff, teq_iff]; exact ⟨fun h i hi => (h i hi).symm, fun h i hi => (h i hi).symm⟩
theorem teq_congr {s t s' t' : Nat → BitVec 8} (h : ∀ i, i < 32 → s i = s' i) (h2 : ∀ i, i < 32 → t i = t' i) : teq s t = teq s' t' := by
  rw [Bool.eq_iff_iff, teq_iff, teq_iff]
  exact ⟨fun e i hi => by rw [← h i hi, ← h2 i hi]; exact e i hi, fun e i hi => by rw [h i hi, h2 i hi]; exact e i hi⟩
/-- what is unlike in the first k bytes -/
def orTo (s t : Nat → BitVec 8) : Nat → BitVec 8
  | 0 => 0#8
  | k + 1 => orTo s t k ||| (s k ^^^ t k)
theorem or_zero8 (x y : BitVec 8) : (x ||| y == 0#8) = (x == 0#8 && y == 0#8) := by
  rw [Bool.eq_iff_iff, Bool.and_eq_true, beq_iff_eq, beq_iff_eq, beq_iff_eq]
  constructor
  · intro h
    constructor <;> (apply BitVec.eq_of_getLsbD_eq; intro i hi; have := congrArg (fun z => z.getLsbD i) h; simp only [BitVec.getLsbD_or, BitVec.getLsbD_zero, Bool.or_eq_false_iff] at this; simp [this.1, this.2])
  · rintro ⟨rfl, rfl⟩; rfl
theorem xor_zero8 (x y : BitVec 8) : (x ^^^ y == 0#8) = (x == y) := by
  rw [Bool.eq_iff_iff, beq_iff_eq, beq_iff_eq]
  constructor
  · intro h
    have h2 : x ^^^ y ^^^ y = 0#8 ^^^ y := by rw [h]
    rw [BitVec.xor_assoc, BitVec.xor_self, BitVec.xor_zero, BitVec.zero_xor] at h2
    exact h2
  · rintro rfl; exact BitVec.xor_self
theorem orTo_teq (s t : Nat → BitVec 8) (k : Nat) : (orTo s t k == 0#8) = teqTo s t k := by
  induction k with
  | zero => rfl
  | succ k ih => simp only [orTo, teqTo]; rw [or_zero8, ih, xor_zero8]
theorem tagC_get (s : Nat → BitVec 8) (i : Nat) (hi : i < 32) : (tagC s).toArray[i]? = some (.int .u8 (ub (s i))) := by simp [tagC, hi]

/-! == on tags -/
theorem equal_tags (s t : Nat → BitVec 8) (d : Nat) (w : World) : (Op.equalIn (d + 2) 25 (tagV s) (tagV t)).run Tryz.prog w = .ok (teq s t) w := by
  obtain ⟨i, hi, hs⟩ := infoB1
  unfold tagV
  rw [Op.equalIn]
  simp only [Sem.run_bind, run_underlying Tryz.underlying25, Result.andThen_ok, sizeOf, typeInfo, hi, hs, Std.Legacy.Range.forIn_eq_forIn_range', Std.Legacy.Range.size, Nat.sub_zero, Nat.add_sub_cancel, Nat.div_one]
  simp only [Sem.run_pure, Sem.run_bind, Result.andThen_ok, run_program, hi, hs]
  have hall : teq s t = (List.range' 0 32 1).all fun j => s j == t j := by
    rw [Bool.eq_iff_iff, teq_iff, List.all_eq_true]
    constructor
    · intro h j hj; rw [beq_iff_eq]; exact h j (by simpa using (List.mem_range'_1.1 hj).2)
    · intro h j hj; exact beq_iff_eq.1 (h j (List.mem_range'_1.2 ⟨by omega, by omega⟩))
  rw [hall]
  have hl : ∀ j ∈ List.range' 0 32 1, j < 32 := fun j hj => by simpa using (List.mem_range'_1.1 hj).2
  generalize List.range' 0 32 1 = l at hl ⊢
  induction l with
  | nil => simp
  | cons j l ih =>
    have hj : j < 32 := hl j (by simp)
    have px : ∀ s : Nat → BitVec 8, (Go.part 5 (tagC s).toArray (j * 1)).run Tryz.prog w = .ok (.int .u8 (ub (s j))) w := fun s => by
      simp [Go.part, isAgg, run_underlying Tryz.underlying5, tagC, hj]
    have pe : (Op.equalIn (d + 1) 5 (.int .u8 (ub (s j))) (.int .u8 (ub (t j)))).run Tryz.prog w = .ok (s j == t j) w := by
      rw [run_equalIn_int w d 5 .u8 .u8 _ _ Tryz.underlying5, ub_beq]
    simp only [List.forIn_cons, Sem.run_bind, px, pe, Result.andThen_ok]
    cases he : s j == t j with
    | false => simp [he]
    | true =>
      simp only [Bool.not_true, Bool.false_eq_true, if_false, Sem.run_pure, Result.andThen_ok, List.all_cons, he, Bool.true_and]
      exact ih fun k hk => hl k (by simp [hk])
theorem eql_tags (s t : Nat → BitVec 8) (w : World) : (binOp .eql 25 (tagV s) (tagV t)).run Tryz.prog w = .ok (.bool (teq s t)) w := by
  have h := run_eql_struct (P := Tryz.prog) w 25 (tagC s).toArray (tagC t).toArray
  have e := equal_tags s t 9998 w
  unfold tagV at e ⊢
  rw [h, e]; rfl
theorem neq_tags (s t : Nat → BitVec 8) (w : World) : (binOp .neq 25 (tagV s) (tagV t)).run Tryz.prog w = .ok (.bool (!teq s t)) w := by
  have h := run_neq_struct (P := Tryz.prog) w 25 (tagC s).toArray (tagC t).toArray
  have e := equal_tags s t 9998 w
  unfold tagV at e ⊢
  rw [h, e]; rfl

/-! Same -/
end Go.Proofs.YtejknkgbkkdaiaaGreatDoor
