/-
  Contracts: whether two tags are the same, by the program and by ==.
-/
import Derived.Test.YtoocfkaclhgjeaaDoorG7
import Derived.Deep.QuietTactic
import Derived.BigQuiet
namespace Go.Proofs.YtoocfkaclhgjeaaDoor
open Go.RowKit
set_option linter.unusedVariables false
set_option linter.unusedSimpArgs false

theorem ub_inj {x y : BitVec 8} : ub x = ub y ↔ x = y := by
  unfold ub; rw [Int.ofNat_inj]; exact BitVec.toNat_inj
theorem of_ub (x : BitVec 8) : BitVec.ofInt 8 (ub x) = x := by
  unfold ub; rw [BitVec.ofInt_natCast]; simp
theorem ub_wrap (x : BitVec 8) : IntKind.u8.wrap (x.toNat : Int) = ub x := by
  unfold ub; rw [IntKind.wrap_u8]; have := x.isLt; omega
theorem xor_ub (x y : BitVec 8) : bits .xor .u8 (ub x) (ub y) = ub (x ^^^ y) := by
  show IntKind.u8.wrap ((BitVec.ofInt 8 (ub x) ^^^ BitVec.ofInt 8 (ub y)).toNat : Int) = _
  rw [of_ub, of_ub, ub_wrap]
theorem or_ub (x y : BitVec 8) : bits .or .u8 (ub x) (ub y) = ub (x ||| y) := by
  show IntKind.u8.wrap ((BitVec.ofInt 8 (ub x) ||| BitVec.ofInt 8 (ub y)).toNat : Int) = _
  rw [of_ub, of_ub, ub_wrap]
theorem ub_zero (x : BitVec 8) : (ub x == 0) = (x == 0#8) := by
  rw [Bool.eq_iff_iff, beq_iff_eq, beq_iff_eq]; exact (@ub_inj x 0#8)
theorem u8_plain : IntKind.u8.signed = false := rfl
theorem ub_beq (x y : BitVec 8) : (ub x == ub y) = (x == y) := by
  rw [Bool.eq_iff_iff, beq_iff_eq, beq_iff_eq]; exact ub_inj
attribute [go_sem] xor_ub or_ub ub_zero u8_plain ub_beq

/-- are the first k bytes the same -/
def teqTo (s t : Nat → BitVec 8) : Nat → Bool
  | 0 => true
  | k + 1 => teqTo s t k && s k == t k
def teq (s t : Nat → BitVec 8) : Bool := teqTo s t 32
theorem teqTo_iff (s t : Nat → BitVec 8) (k : Nat) : teqTo s t k = true ↔ ∀ i, i < k → s i = t i := by
  induction k with
  | zero => simp [teqTo]
  | succ k ih =>
    simp only [teqTo, Bool.and_eq_true, ih, beq_iff_eq]
    constructor
    · rintro ⟨h1, h2⟩ i hi
      rcases (show i < k ∨ i = k by omega) with h | rfl
      · exact h1 i h
      · exact h2
    · exact fun h => ⟨fun i hi => h i (by omega), h k (by omega)⟩
theorem teq_iff (s t : Nat → BitVec 8) : teq s t = true ↔ ∀ i, i < 32 → s i = t i := teqTo_iff s t 32
theorem teq_self (s : Nat → BitVec 8) : teq s s = true := (teq_iff s s).2 fun _ _ => rfl
theorem teq_comm (s t : Nat → BitVec 8) : teq s t = teq t s := by
  rw [Bool.eq_iff_iff, teq_iff, teq_iff]; exact ⟨fun h i hi => (h i hi).symm, fun h i hi => (h i hi).symm⟩
theorem teq_congr {s t s' t' : Nat → BitVec 8} (h : ∀ i, i < 32 → s i = s' i) (h2 : ∀ i, i < 32 → t i = t' i) : teq s t = teq s' t' := by
  rw [Bool.eq_iff_iff, teq_iff, teq_iff]
  exact ⟨fun e i hi => by rw [← h i hi, ← h2 i hi]; exact e i hi, fun e i hi => by rw [h i hi, h2 i hi]; exact e i hi⟩
/-- what is unlike in the first k bytes -/
def orTo (s t : Nat → BitVec 8) : Nat → BitVec 8
  | 0 => 0#8
  | k + 1 => orTo s t k ||| (s k ^^^ t k)
theorem or_zero8 (x y : BitVec 8) : (x ||| y == 0#8) = (x == 0#8 && y == 0#8) := by
  rw [Bool.eq_iff_iff, Bool.and_eq_true, beq_iff_eq, beq_iff_eq, beq_iff_eq]
  constructor
  · intro h
    constructor <;> (apply BitVec.eq_of_getLsbD_eq; intro i hi; have := congrArg (fun z => z.getLsbD i) h; simp only [BitVec.getLsbD_or, BitVec.getLsbD_zero, Bool.or_eq_false_iff] at this; simp [this.1, this.2])
  · rintro ⟨rfl, rfl⟩; rfl
theorem xor_zero8 (x y : BitVec 8) : (x ^^^ y == 0#8) = (x == y) := by
  rw [Bool.eq_iff_iff, beq_iff_eq, beq_iff_eq]
  constructor
  · intro h
    have h2 : x ^^^ y ^^^ y = 0#8 ^^^ y := by rw [h]
    rw [BitVec.xor_assoc, BitVec.xor_self, BitVec.xor_zero, BitVec.zero_xor] at h2
    exact h2
  · rintro rfl; exact BitVec.xor_self
theorem orTo_teq (s t : Nat → BitVec 8) (k : Nat) : (orTo s t k == 0#8) = teqTo s t k := by
  induction k with
  | zero => rfl
  | succ k ih => simp only [orTo, teqTo]; rw [or_zero8, ih, xor_zero8]
theorem tagC_get (s : Nat → BitVec 8) (i : Nat) (hi : i < 32) : (tagC s).toArray[i]? = some (.int .u8 (ub (s i))) := by simp [tagC, hi]

/-! == on tags -/
theorem equal_tags (s t : Nat → BitVec 8) (d : Nat) (w : World) : (Op.equalIn (d + 2) 33 (tagV s) (tagV t)).run Tryd.prog w = .ok (teq s t) w := by
  obtain ⟨i, hi, hs⟩ := infoB1
  unfold tagV
  rw [Op.equalIn]
  simp only [Sem.run_bind, run_underlying Tryd.underlying33, Result.andThen_ok, sizeOf, typeInfo, hi, hs, Std.Legacy.Range.forIn_eq_forIn_range', Std.Legacy.Range.size, Nat.sub_zero, Nat.add_sub_cancel, Nat.div_one]
  simp only [Sem.run_pure, Sem.run_bind, Result.andThen_ok, run_program, hi, hs]
  have hall : teq s t = (List.range' 0 32 1).all fun j => s j == t j := by
    rw [Bool.eq_iff_iff, teq_iff, List.all_eq_true]
    constructor
    · intro h j hj; rw [beq_iff_eq]; exact h j (by simpa using (List.mem_range'_1.1 hj).2)
    · intro h j hj; exact beq_iff_eq.1 (h j (List.mem_range'_1.2 ⟨by omega, by omega⟩))
  rw [hall]
  have hl : ∀ j ∈ List.range' 0 32 1, j < 32 := fun j hj => by simpa using (List.mem_range'_1.1 hj).2
  generalize List.range' 0 32 1 = l at hl ⊢
  induction l with
  | nil => simp
  | cons j l ih =>
    have hj : j < 32 := hl j (by simp)
    have px : ∀ s : Nat → BitVec 8, (Go.part 5 (tagC s).toArray (j * 1)).run Tryd.prog w = .ok (.int .u8 (ub (s j))) w := fun s => by
      simp [Go.part, isAgg, run_underlying Tryd.underlying5, tagC, hj]
    have pe : (Op.equalIn (d + 1) 5 (.int .u8 (ub (s j))) (.int .u8 (ub (t j)))).run Tryd.prog w = .ok (s j == t j) w := by
      rw [run_equalIn_int w d 5 .u8 .u8 _ _ Tryd.underlying5, ub_beq]
    simp only [List.forIn_cons, Sem.run_bind, px, pe, Result.andThen_ok]
    cases he : s j == t j with
    | false => simp [he]
    | true =>
      simp only [Bool.not_true, Bool.false_eq_true, if_false, Sem.run_pure, Result.andThen_ok, List.all_cons, he, Bool.true_and]
      exact ih fun k hk => hl k (by simp [hk])
theorem eql_tags (s t : Nat → BitVec 8) (w : World) : (binOp .eql 33 (tagV s) (tagV t)).run Tryd.prog w = .ok (.bool (teq s t)) w := by
  have h := run_eql_struct (P := Tryd.prog) w 33 (tagC s).toArray (tagC t).toArray
  have e := equal_tags s t 9998 w
  unfold tagV at e ⊢
  rw [h, e]; rfl
theorem neq_tags (s t : Nat → BitVec 8) (w : World) : (binOp .neq 33 (tagV s) (tagV t)).run Tryd.prog w = .ok (.bool (!teq s t)) w := by
  have h := run_neq_struct (P := Tryd.prog) w 33 (tagC s).toArray (tagC t).toArray
  have e := equal_tags s t 9998 w
  unfold tagV at e ⊢
  rw [h, e]; rfl

/-! Same -/
end Go.Proofs.YtoocfkaclhgjeaaDoor
