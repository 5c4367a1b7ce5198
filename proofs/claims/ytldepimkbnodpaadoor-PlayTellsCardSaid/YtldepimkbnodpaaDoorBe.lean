/-
  == on positions.
-/
import Derived.Test.YtldepimkbnodpaaDoorBd
namespace Go.Proofs.YtldepimkbnodpaaDoor
open Go.RowKit
set_option linter.unusedSimpArgs false
set_option linter.unusedVariables false

theorem part_sqs (P : Nat → Int) (w : World) : (part 26 (pc P).toArray 0).run Tryd.prog w = .ok (.agg (nums P 0 128).toArray) w := by
  have h : (pc P).toArray.extract 0 (0 + 128) = (nums P 0 128).toArray := nums_cut P 0 133 0 (0 + 128) (by omega) (by omega)
  simp only [part, isAgg, Sem.run_bind, run_underlying Tryd.underlying26, Result.andThen_ok, Sem.run_pure, if_true, size_of_info infoSqs, h]
theorem part_num (P : Nat → Int) (X : Array Value) (w : World) (hX : X = (pc P).toArray) (t : TypeId) (k : Nat) (x : TypeDesc) (hu : Tryd.prog.underlying t = some x) (hx : x.isRow = false) (hk : k < 133) : (part t X k).run Tryd.prog w = .ok (.int .i64 (P k)) w := by
  have hg : X[k]? = some (.int .i64 (P k)) := by rw [hX, List.getElem?_toArray]; exact pc_get P k hk
  cases x <;> simp_all [part, isAgg, run_underlying hu, TypeDesc.isRow]
theorem eq_fields (X Y : Array Value) (A0 B0 : Value) (a b : Nat → Int) (n : Nat) (w : World) (e0 : Bool)
    (p0x : (part 26 X 0).run Tryd.prog w = .ok A0 w) (p0y : (part 26 Y 0).run Tryd.prog w = .ok B0 w)
    (h0 : (Op.equalIn n 26 A0 B0).run Tryd.prog w = .ok e0 w)
    (px : ∀ (t : TypeId) (k : Nat) (x : TypeDesc), Tryd.prog.underlying t = some x → x.isRow = false → k < 133 → (part t X k).run Tryd.prog w = .ok (.int .i64 (a k)) w)
    (py : ∀ (t : TypeId) (k : Nat) (x : TypeDesc), Tryd.prog.underlying t = some x → x.isRow = false → k < 133 → (part t Y k).run Tryd.prog w = .ok (.int .i64 (b k)) w)
    (e1 : ∀ (t : TypeId) (a b : Int), Tryd.prog.underlying t = some (.int .i64) → (Op.equalIn n t (.int .i64 a) (.int .i64 b)).run Tryd.prog w = .ok (a == b) w) :
    (Op.equalIn (n + 1) 29 (.agg X) (.agg Y)).run Tryd.prog w = .ok (e0 && (a 128 == b 128) && (a 129 == b 129) && (a 130 == b 130) && (a 131 == b 131) && (a 132 == b 132)) w := by
  rw [run_equalIn_agg w n 29 _ _ (by kernel_rfl) (by kernel_rfl)]
  have hf : (Tryd.prog.fieldsOf 29).toList.map (fun f => (f.name, f.type, f.offset)) = [("Squares", 26, 0), ("Side", 23, 128), ("Castle", 27, 129), ("Over", 3, 130), ("Half", 3, 131), ("Full", 3, 132)] := by kernel_rfl
  generalize (Tryd.prog.fieldsOf 29).toList = fs at hf ⊢
  · obtain ⟨f0, fs, rfl, hf0, hf⟩ := List.map_eq_cons_iff.1 hf
    obtain ⟨f1, fs, rfl, hf1, hf⟩ := List.map_eq_cons_iff.1 hf
    obtain ⟨f2, fs, rfl, hf2, hf⟩ := List.map_eq_cons_iff.1 hf
    obtain ⟨f3, fs, rfl, hf3, hf⟩ := List.map_eq_cons_iff.1 hf
    obtain ⟨f4, fs, rfl, hf4, hf⟩ := List.map_eq_cons_iff.1 hf
    obtain ⟨f5, fs, rfl, hf5, hf⟩ := List.map_eq_cons_iff.1 hf
    obtain rfl := List.map_eq_nil_iff.1 hf
    simp only [Prod.mk.injEq] at hf0 hf1 hf2 hf3 hf4 hf5
    obtain ⟨n0, t0, o0⟩ := hf0
    obtain ⟨n1, t1, o1⟩ := hf1
    obtain ⟨n2, t2, o2⟩ := hf2
    obtain ⟨n3, t3, o3⟩ := hf3
    obtain ⟨n4, t4, o4⟩ := hf4
    obtain ⟨n5, t5, o5⟩ := hf5
    have m0 : f0.name ≠ "_" := by rw [n0]; decide
    have m1 : f1.name ≠ "_" := by rw [n1]; decide
    have m2 : f2.name ≠ "_" := by rw [n2]; decide
    have m3 : f3.name ≠ "_" := by rw [n3]; decide
    have m4 : f4.name ≠ "_" := by rw [n4]; decide
    have m5 : f5.name ≠ "_" := by rw [n5]; decide
    have x1 := px _ 128 _ Tryd.underlying23 rfl (by omega)
    have x2 := px _ 129 _ Tryd.underlying27 rfl (by omega)
    have x3 := px _ 130 _ Tryd.underlying3 rfl (by omega)
    have x4 := px _ 131 _ Tryd.underlying3 rfl (by omega)
    have x5 := px _ 132 _ Tryd.underlying3 rfl (by omega)
    have y1 := py _ 128 _ Tryd.underlying23 rfl (by omega)
    have y2 := py _ 129 _ Tryd.underlying27 rfl (by omega)
    have y3 := py _ 130 _ Tryd.underlying3 rfl (by omega)
    have y4 := py _ 131 _ Tryd.underlying3 rfl (by omega)
    have y5 := py _ 132 _ Tryd.underlying3 rfl (by omega)
    have z1 := fun a b => e1 _ a b Tryd.underlying23
    have z2 := fun a b => e1 _ a b Tryd.underlying27
    have z3 := fun a b => e1 _ a b Tryd.underlying3
    clear px py e1
    simp only [Op.eqFields, Sem.run_bind, Sem.run_ite, m0, m1, m2, m3, m4, m5, ne_eq, not_false_eq_true, if_true, t0, t1, t2, t3, t4, t5, o0, o1, o2, o3, o4, o5, p0x, p0y, x1, x2, x3, x4, x5, y1, y2, y3, y4, y5, z1, z2, z3, h0, Result.andThen_ok]
    generalize (a 128 == b 128) = q1
    generalize (a 129 == b 129) = q2
    generalize (a 130 == b 130) = q3
    generalize (a 131 == b 131) = q4
    generalize (a 132 == b 132) = q5
    cases e0 <;> cases q1 <;> cases q2 <;> cases q3 <;> cases q4 <;> cases q5 <;> simp
theorem equal_pos (P Q : Nat → Int) (n : Nat) (w : World) : (Op.equalIn (n + 4) 29 (posV P) (posV Q)).run Tryd.prog w = .ok (posEq P Q) w :=
  eq_fields (pc P).toArray (pc Q).toArray _ _ P Q (n + 3) w (sqEq P Q) (part_sqs P w) (part_sqs Q w) (equal_sqs P Q n w)
    (fun t k x => part_num P _ w rfl t k x) (fun t k x => part_num Q _ w rfl t k x) (fun t a b hu => run_equalIn_int w (n + 2) t .i64 .i64 a b hu)
theorem eql_pos (P Q : Nat → Int) (w : World) : (binOp .eql 29 (.agg (pc P).toArray) (.agg (pc Q).toArray)).run Tryd.prog w = .ok (.bool (posEq P Q)) w := by
  have e := equal_pos P Q 9996 w
  unfold posV at e
  rw [run_eql_struct, e]; rfl
theorem neq_pos (P Q : Nat → Int) (w : World) : (binOp .neq 29 (.agg (pc P).toArray) (.agg (pc Q).toArray)).run Tryd.prog w = .ok (.bool (!posEq P Q)) w := by
  have e := equal_pos P Q 9996 w
  unfold posV at e
  rw [run_neq_struct, e]; rfl
end Go.Proofs.YtldepimkbnodpaaDoor
