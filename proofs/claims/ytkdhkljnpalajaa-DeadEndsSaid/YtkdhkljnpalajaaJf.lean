/-
  Contracts: == of what is left; the chapter's examples.
-/
import Derived.Test.YtkdhkljnpalajaaJe
namespace Go.Proofs.Ytkdhkljnpalajaa
open Go.RowKit Go.Sort
set_option linter.unusedSimpArgs false
set_option linter.unusedVariables false
set_option maxRecDepth 20000

def lfe (a b c d a' b' c' d' : Int) : Bool := a == a' && (b == b' && (c == c' && d == d'))
theorem lfe_iff (a b c d a' b' c' d' : Int) : lfe a b c d a' b' c' d' = true ↔ a = a' ∧ b = b' ∧ c = c' ∧ d = d' := by unfold lfe; simp
theorem equal_left (a b c d a' b' c' d' : Int) (n : Nat) (w : World) :
    (Op.equalIn (n + 2) 31 (.agg #[.int .i64 a, .int .i64 b, .int .i64 c, .int .i64 d]) (.agg #[.int .i64 a', .int .i64 b', .int .i64 c', .int .i64 d'])).run Try.prog w = .ok (lfe a b c d a' b' c' d') w := by
  unfold lfe
  rw [run_equalIn_agg w (n + 1) 31 _ _ (by kernel_rfl) (by kernel_rfl)]
  have hf : (Try.prog.fieldsOf 31).toList.map (fun f => (f.name, f.type, f.offset)) = [("Heavy", 3, 0), ("Knights", 3, 1), ("Dark", 3, 2), ("Light", 3, 3)] := by kernel_rfl
  generalize (Try.prog.fieldsOf 31).toList = fs at hf ⊢
  obtain ⟨f1, fs, rfl, hf1, hf⟩ := List.map_eq_cons_iff.1 hf
  obtain ⟨f2, fs, rfl, hf2, hf⟩ := List.map_eq_cons_iff.1 hf
  obtain ⟨f3, fs, rfl, hf3, hf⟩ := List.map_eq_cons_iff.1 hf
  obtain ⟨f4, fs, rfl, hf4, hf⟩ := List.map_eq_cons_iff.1 hf
  obtain rfl := List.map_eq_nil_iff.1 hf
  simp only [Prod.mk.injEq] at hf1 hf2 hf3 hf4
  obtain ⟨n1, t1, o1⟩ := hf1
  obtain ⟨n2, t2, o2⟩ := hf2
  obtain ⟨n3, t3, o3⟩ := hf3
  obtain ⟨n4, t4, o4⟩ := hf4
  have p1 : ∀ a b c d : Int, (part 3 #[.int .i64 a, .int .i64 b, .int .i64 c, .int .i64 d] 0).run Try.prog w = .ok (.int .i64 a) w := fun a b c d => by simp [part, isAgg, run_underlying Try.underlying3]
  have p2 : ∀ a b c d : Int, (part 3 #[.int .i64 a, .int .i64 b, .int .i64 c, .int .i64 d] 1).run Try.prog w = .ok (.int .i64 b) w := fun a b c d => by simp [part, isAgg, run_underlying Try.underlying3]
  have p3 : ∀ a b c d : Int, (part 3 #[.int .i64 a, .int .i64 b, .int .i64 c, .int .i64 d] 2).run Try.prog w = .ok (.int .i64 c) w := fun a b c d => by simp [part, isAgg, run_underlying Try.underlying3]
  have p4 : ∀ a b c d : Int, (part 3 #[.int .i64 a, .int .i64 b, .int .i64 c, .int .i64 d] 3).run Try.prog w = .ok (.int .i64 d) w := fun a b c d => by simp [part, isAgg, run_underlying Try.underlying3]
  have e1 : ∀ a b : Int, (Op.equalIn (n + 1) 3 (.int .i64 a) (.int .i64 b)).run Try.prog w = .ok (a == b) w := fun a b => run_equalIn_int w n 3 .i64 .i64 a b Try.underlying3
  have n1' : f1.name ≠ "_" := by rw [n1]; decide
  have n2' : f2.name ≠ "_" := by rw [n2]; decide
  have n3' : f3.name ≠ "_" := by rw [n3]; decide
  have n4' : f4.name ≠ "_" := by rw [n4]; decide
  simp only [Op.eqFields, Sem.run_bind, Sem.run_ite, n1', n2', n3', n4', ne_eq, not_false_eq_true, if_true, t1, t2, t3, t4, o1, o2, o3, o4, p1, p2, p3, p4, e1, Result.andThen_ok]
  cases a == a' <;> cases b == b' <;> cases c == c' <;> cases d == d' <;> simp
@[go_sem high] theorem eql_left (a b c d a' b' c' d' : Int) (w : World) : (binOp .eql 31 (.agg #[.int .i64 a, .int .i64 b, .int .i64 c, .int .i64 d]) (.agg #[.int .i64 a', .int .i64 b', .int .i64 c', .int .i64 d'])).run Try.prog w = .ok (.bool (lfe a b c d a' b' c' d')) w := by
  have e := equal_left a b c d a' b' c' d' 9998 w
  rw [run_eql_struct, e]; rfl
@[go_sem high] theorem neq_left (a b c d a' b' c' d' : Int) (w : World) : (binOp .neq 31 (.agg #[.int .i64 a, .int .i64 b, .int .i64 c, .int .i64 d]) (.agg #[.int .i64 a', .int .i64 b', .int .i64 c', .int .i64 d'])).run Try.prog w = .ok (.bool (!lfe a b c d a' b' c' d')) w := by
  have e := equal_left a b c d a' b' c' d' 9998 w
  rw [run_neq_struct, e]; rfl
theorem reads_one {W : World} {H : Nat} {a : Int} {t : TypeId} (h : W.heap[H]? = some (.cells #[.int .i64 a] t (0, 0))) (f : Nat → Int) (h0 : f 0 = a) : Reads W.heap.size W (some ⟨H, 0, none⟩) 1 (fun i => .int .i64 (f i)) :=
  .inr ⟨H, 0, rfl, (Array.getElem?_eq_some_iff.1 h).1, fun i hi => by
    obtain rfl : i = 0 := by omega
    rw [cell_of_row W H _ _ _ (0, 0) h]; subst h0; rfl⟩
theorem reads_two {W : World} {H : Nat} {a b : Int} {t : TypeId} (h : W.heap[H]? = some (.cells #[.int .i64 a, .int .i64 b] t (0, 0))) (f : Nat → Int) (h0 : f 0 = a) (h1 : f 1 = b) : Reads W.heap.size W (some ⟨H, 0, none⟩) 2 (fun i => .int .i64 (f i)) :=
  .inr ⟨H, 0, rfl, (Array.getElem?_eq_some_iff.1 h).1, fun i hi => by
    rcases (show i = 0 ∨ i = 1 by omega) with rfl | rfl
    · rw [cell_of_row W H _ _ _ (0, 0) h]; subst h0; rfl
    · rw [cell_of_row W H _ _ _ (0, 0) h]; subst h1; rfl⟩
theorem reads_three {W : World} {H : Nat} {a b c : Int} {t : TypeId} (h : W.heap[H]? = some (.cells #[.int .i64 a, .int .i64 b, .int .i64 c] t (0, 0))) (f : Nat → Int) (h0 : f 0 = a) (h1 : f 1 = b) (h2 : f 2 = c) : Reads W.heap.size W (some ⟨H, 0, none⟩) 3 (fun i => .int .i64 (f i)) :=
  .inr ⟨H, 0, rfl, (Array.getElem?_eq_some_iff.1 h).1, fun i hi => by
    rcases (show i = 0 ∨ i = 1 ∨ i = 2 by omega) with rfl | rfl | rfl
    · rw [cell_of_row W H _ _ _ (0, 0) h]; subst h0; rfl
    · rw [cell_of_row W H _ _ _ (0, 0) h]; subst h1; rfl
    · rw [cell_of_row W H _ _ _ (0, 0) h]; subst h2; rfl⟩
def sq2 (a b : Nat) (i : Nat) : Nat := if i = 0 then a else b
def iq2 (a b : Int) (i : Nat) : Int := if i = 0 then a else b
theorem kings2_any (a b : Int) (s t : Nat) (hs : s < 64) (ht : t < 64) {X : Array Value} (hX : (pc (kgN (iq2 a b) (sq2 s t) 2)).toArray = X) {W : World} {H1 H2 : Nat} {t1 t2 : TypeId} (h1 : W.heap[H1]? = some (.cells #[.int .i64 a, .int .i64 b] t1 (0, 0))) (h2 : W.heap[H2]? = some (.cells #[.int .i64 (s : Int), .int .i64 (t : Int)] t2 (0, 0))) (c1 c2 : Nat) :
    Calls Try.prog 16 #[.slice (some ⟨H1, 0, none⟩) 2 c1, .slice (some ⟨H2, 0, none⟩) 2 c2] W fun e w' => e = .returned (.agg X) ∧ Below W.heap.size W w' := by
  subst hX
  exact kings_any _ _ 2 c1 c2 (iq2 a b) (sq2 s t) W (by omega) (fun i _ => by unfold sq2; split <;> omega) (reads_two h1 _ rfl rfl) (reads_two h2 (fun i => (sq2 s t i : Int)) rfl rfl)
set_option maxHeartbeats 4000000 in
set_option maxRecDepth 100000 in
theorem awake13_any (w : World) :
    Calls Try.prog 7 #[] w fun e w' => e = .returned (.bool true) ∧ Below w.heap.size w w' := by
  obtain ⟨X1, hX1⟩ : ∃ X, (pc (kgN (iq2 3 3) (sq2 2 61) 2)).toArray = X := ⟨_, rfl⟩
  obtain ⟨X2, hX2⟩ : ∃ X, (pc (kgN (fun _ => 0) (fun _ => 0) 0)).toArray = X := ⟨_, rfl⟩
  obtain ⟨X3, hX3⟩ : ∃ X, (pc (kgN (iq2 2 2) (sq2 9 9) 1)).toArray = X := ⟨_, rfl⟩
  obtain ⟨X4, hX4⟩ : ∃ X, (pc (kgN (iq2 2 2) (sq2 9 10) 2)).toArray = X := ⟨_, rfl⟩
  have OF1 := Lib.hid (fun W => of13_any (kgN (iq2 3 3) (sq2 2 61) 2) W)
  have IS2 := Lib.hid (fun W => is13_any (kgN (fun _ => 0) (fun _ => 0) 0) W)
  have IS3 := Lib.hid (fun W => is13_any (kgN (iq2 2 2) (sq2 9 9) 1) W)
  have IS4 := Lib.hid (fun W => is13_any (kgN (iq2 2 2) (sq2 9 10) 2) W)
  rw [hX1, show cntD (kgN (iq2 3 3) (sq2 2 61) 2) 64 = ⟨0, 0, 2, 0⟩ by kernel_rfl] at OF1
  rw [hX2, show deadB (cntD (kgN (fun _ => 0) (fun _ => 0) 0) 64) = true by kernel_rfl] at IS2
  rw [hX3, show deadB (cntD (kgN (iq2 2 2) (sq2 9 9) 1) 64) = true by kernel_rfl] at IS3
  rw [hX4, show deadB (cntD (kgN (iq2 2 2) (sq2 9 10) 2) 64) = false by kernel_rfl] at IS4
  have KI2 := Lib.hid (fun W => kings_any none none 0 0 0 (fun _ => 0) (fun _ => 0) W (by omega) (fun i h => by omega) (.inl rfl) (.inl rfl))
  rw [hX2] at KI2
  have KI3 := Lib.hid (fun (W : World) (H1 H2 : Nat) (t1 t2 : TypeId) (h1 : W.heap[H1]? = some (.cells #[.int .i64 2] t1 (0, 0))) (h2 : W.heap[H2]? = some (.cells #[.int .i64 9] t2 (0, 0))) => kings_any _ _ 1 1 1 (iq2 2 2) (sq2 9 9) W (by omega) (fun i h => by unfold sq2; split <;> omega) (reads_one h1 _ rfl) (reads_one h2 (fun i => (sq2 9 9 i : Int)) rfl))
  rw [hX3] at KI3
  have KI1 := Lib.hid hX1
  have KI4 := Lib.hid hX4
  have LD := Lib.hid (fun W => deadL_any ⟨0, 0, 2, 0⟩ W)
  rw [show deadB ⟨0, 0, 2, 0⟩ = true by kernel_rfl] at LD
  unfold lfA at OF1 LD
  dsimp only at OF1 LD
  clear hX1 hX2 hX3 hX4
  have hee : lfe 0 0 2 0 0 0 2 0 = true := rfl
  go_enter Try.func7, Try.ntmps7
  go_upto_region 2 with (fail)
  go_wp2_with fail
  refine (kings2_any 3 3 2 61 (by omega) (by omega) KI1.out (sl_go (sl_at rfl) (below_new _)) (sl_at (by simp)) 2 2).mono ?_
  rintro e w1 ⟨rfl, hb⟩
  have HB := Lib.hid (((below_new _).alloc (by simp) _).trans (hb.mono (by simp; omega)) : Below w.heap.size w w1)
  clear hb
  go_wp2_with fail
  refine (OF1.out _).mono ?_
  rintro e w2 ⟨rfl, hb⟩
  replace HB := Lib.hid (HB.out.trans (hb.mono HB.out.size))
  clear hb
  go_upto_region 3 with (fail)
  refine forget_B (fun W => TB 31 W w2.heap.size ⟨0, 0, 2, 0⟩ ∧ Below w.heap.size w W) ⟨sl_at rfl, HB.out.alloc HB.out.size _⟩ ?_
  clear HB OF1
  rintro W ⟨h1, h2⟩
  have HL := Lib.hid h1
  have HB := Lib.hid h2
  clear h1 h2
  go_wp2_with fail
  refine (KI2.out _).mono ?_
  rintro e v1 ⟨rfl, hb⟩
  replace HL := Lib.hid (HL.out.go hb)
  replace HB := Lib.hid (HB.out.trans (hb.mono HB.out.size))
  clear hb
  go_wp2_with fail
  refine (IS2.out _).mono ?_
  rintro e v2 ⟨rfl, hb⟩
  replace HL := Lib.hid (HL.out.go hb)
  replace HB := Lib.hid (HB.out.trans (hb.mono HB.out.size))
  clear hb KI2 IS2
  go_wp2_with fail
  refine (KI3.out _ _ _ _ _ (sl_go (sl_at rfl) (below_new _)) (sl_at (by simp))).mono ?_
  rintro e v3 ⟨rfl, hb⟩
  replace HL := Lib.hid (((HL.out.go (below_new _)).go (below_new _)).go hb)
  replace HB := Lib.hid (((HB.out.alloc HB.out.size _).alloc (by have := HB.out.size; simp; omega) _).trans (hb.mono (by have := HB.out.size; simp; omega)))
  clear hb
  go_wp2_with fail
  refine (IS3.out _).mono ?_
  rintro e v4 ⟨rfl, hb⟩
  replace HL := Lib.hid (HL.out.go hb)
  replace HB := Lib.hid (HB.out.trans (hb.mono HB.out.size))
  clear hb KI3 IS3
  go_wp2_with fail
  refine (kings2_any 2 2 9 10 (by omega) (by omega) KI4.out (sl_go (sl_at rfl) (below_new _)) (sl_at (by simp)) 2 2).mono ?_
  rintro e v5 ⟨rfl, hb⟩
  replace HL := Lib.hid (((HL.out.go (below_new _)).go (below_new _)).go hb)
  replace HB := Lib.hid (((HB.out.alloc HB.out.size _).alloc (by have := HB.out.size; simp; omega) _).trans (hb.mono (by have := HB.out.size; simp; omega)))
  clear hb
  go_wp2_with fail
  refine (IS4.out _).mono ?_
  rintro e v6 ⟨rfl, hb⟩
  replace HL := Lib.hid (HL.out.go hb)
  replace HB := Lib.hid (HB.out.trans (hb.mono HB.out.size))
  clear hb IS4
  obtain ⟨e0, e1, e2, e3, ef, ez⟩ := row4c HL.out
  clear ef ez
  go_wp2_with fail
  refine (LD.out _).mono ?_
  rintro e v7 ⟨rfl, hb⟩
  replace HB := Lib.hid (HB.out.trans (hb.mono HB.out.size))
  clear hb LD HL e0 e1 e2 e3
  go_wp2
  go_ret
  exact ⟨rfl, HB.out⟩
end Go.Proofs.Ytkdhkljnpalajaa
