/-
  TagsTell: things of the document, compared.
-/
import Derived.Test.YtejknkgbkkdaiaaGreatDoorFra
import Derived.Laws.OwnMore
namespace Go.Proofs.YtejknkgbkkdaiaaGreatDoor
open Go.RowKit
set_option linter.unusedVariables false
set_option linter.unusedSimpArgs false

/-- == on the document's things -/
theorem equal_thR (x y : Thing) (n : Nat) (w : World) : (Op.equalIn (n + 2) 77 x.val y.val).run Tryz.prog w = .ok (decide (x = y)) w := by
  obtain ⟨a, b, c, d⟩ := x
  obtain ⟨a', b', c', d'⟩ := y
  unfold Thing.val thV
  rw [run_equalIn_agg w (n + 1) 77 _ _ (by kernel_rfl) (by kernel_rfl)]
  have hf : (Tryz.prog.fieldsOf 77).toList.map (fun f => (f.name, f.type, f.offset)) = [("What", 3, 0), ("Key", 9, 1), ("B", 9, 2), ("K", 3, 3)] := by kernel_rfl
  generalize (Tryz.prog.fieldsOf 77).toList = fs at hf ⊢
  obtain ⟨f, fs, rfl, hf1, hf⟩ := List.map_eq_cons_iff.1 hf
  obtain ⟨g, fs, rfl, hf2, hf⟩ := List.map_eq_cons_iff.1 hf
  obtain ⟨h, fs, rfl, hf3, hf⟩ := List.map_eq_cons_iff.1 hf
  obtain ⟨k, fs, rfl, hf4, hf⟩ := List.map_eq_cons_iff.1 hf
  obtain rfl := List.map_eq_nil_iff.1 hf
  simp only [Prod.mk.injEq] at hf1 hf2 hf3 hf4
  obtain ⟨n1, t1, o1⟩ := hf1
  obtain ⟨n2, t2, o2⟩ := hf2
  obtain ⟨n3, t3, o3⟩ := hf3
  obtain ⟨n4, t4, o4⟩ := hf4
  have p1 : ∀ (a d : Int) (b c : ByteArray), (Go.part 3 #[.int .i64 a, .string b, .string c, .int .i64 d] 0).run Tryz.prog w = .ok (.int .i64 a) w := fun a d b c => by
    simp [Go.part, isAgg, run_underlying Tryz.underlying3]
  have p2 : ∀ (a d : Int) (b c : ByteArray), (Go.part 9 #[.int .i64 a, .string b, .string c, .int .i64 d] 1).run Tryz.prog w = .ok (.string b) w := fun a d b c => by
    simp [Go.part, isAgg, run_underlying Tryz.underlying9]
  have p3 : ∀ (a d : Int) (b c : ByteArray), (Go.part 9 #[.int .i64 a, .string b, .string c, .int .i64 d] 2).run Tryz.prog w = .ok (.string c) w := fun a d b c => by
    simp [Go.part, isAgg, run_underlying Tryz.underlying9]
  have p4 : ∀ (a d : Int) (b c : ByteArray), (Go.part 3 #[.int .i64 a, .string b, .string c, .int .i64 d] 3).run Tryz.prog w = .ok (.int .i64 d) w := fun a d b c => by
    simp [Go.part, isAgg, run_underlying Tryz.underlying3]
  have e1 : ∀ a b : Int, (Op.equalIn (n + 1) 3 (.int .i64 a) (.int .i64 b)).run Tryz.prog w = .ok (a == b) w := fun a b => run_equalIn_int w n 3 .i64 .i64 a b Tryz.underlying3
  have e2 : ∀ a b : ByteArray, (Op.equalIn (n + 1) 9 (.string a) (.string b)).run Tryz.prog w = .ok (a.toList == b.toList) w := fun a b => run_equalIn_string w n 9 a b Tryz.underlying9
  have n1' : f.name ≠ "_" := by rw [n1]; decide
  have n2' : g.name ≠ "_" := by rw [n2]; decide
  have n3' : h.name ≠ "_" := by rw [n3]; decide
  have n4' : k.name ≠ "_" := by rw [n4]; decide
  have hb : ∀ b b' : List UInt8, ((⟨b.toArray⟩ : ByteArray).toList == (⟨b'.toArray⟩ : ByteArray).toList) = decide (b = b') := fun b b' => by
    rw [ByteArray.toList_eq, ByteArray.toList_eq, Bool.eq_iff_iff]; simp
  have hi : ∀ a b : Int, (a == b) = decide (a = b) := fun a b => by rw [Bool.eq_iff_iff]; simp
  simp only [Op.eqFields, Sem.run_bind, Sem.run_ite, n1', n2', n3', n4', ne_eq, not_false_eq_true, if_true, t1, t2, t3, t4, o1, o2, o3, o4, p1, p2, p3, p4, e1, e2, Result.andThen_ok, hb, hi]
  by_cases h1 : a = a' <;> by_cases h2 : b = b' <;> by_cases h3 : c = c' <;> by_cases h4 : d = d' <;> simp [h1, h2, h3, h4]
theorem eql_thR (x y : Thing) (w : World) : (binOp .eql 77 x.val y.val).run Tryz.prog w = .ok (.bool (decide (x = y))) w := by
  have e := equal_thR x y 9998 w
  unfold Thing.val thV at e ⊢
  rw [run_eql_struct, e]; rfl
theorem guard_thR (x y : Thing) (op : BinOp) (a b : Operand) (w : World) : (eqGuard op 77 a b x.val y.val).run Tryz.prog w = .ok () w :=
  run_eqGuard_agg w op 77 a b _ _ (by kernel_rfl)
/-- told, one number behind the other -/
theorem told_any_num (n : Nat) (t : Nat → BitVec 8) (hn : n ≤ lim64) : toldB n t = true ↔ ∃ i, i < n ∧ teq (numT i) t = true := by
  unfold toldB
  constructor
  · intro h
    simp only [Bool.and_eq_true, decide_eq_true_eq] at h
    refine ⟨val8 t 8, h.1, ?_⟩
    rw [teq_iff] at h ⊢
    exact fun j hj => (h.2 j hj).symm
  · rintro ⟨i, hi, h⟩
    have h1 := (teq_iff _ _).1 h
    have h2 : val8 t 8 = i := by rw [← val8_congr (s := numT i) h1 8 (Nat.le_refl _)]; exact val8_num i (by omega)
    rw [h2]
    simp only [Bool.and_eq_true, decide_eq_true_eq]
    exact ⟨hi, (teq_iff _ _).2 fun j hj => (h1 j hj).symm⟩
end Go.Proofs.YtejknkgbkkdaiaaGreatDoor
