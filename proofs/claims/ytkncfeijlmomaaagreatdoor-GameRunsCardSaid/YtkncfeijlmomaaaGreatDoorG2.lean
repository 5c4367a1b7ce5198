/-
  Merged: Bd, Be, SqD.
-/
import Derived.Test.YtkncfeijlmomaaaGreatDoorG1
import Derived.Deep.MidRow
import Derived.Lib.QuietBelow

namespace Go.Proofs.YtkncfeijlmomaaaGreatDoor
open Go.RowKit
set_option linter.unusedSimpArgs false
set_option linter.unusedVariables false

theorem gr1_B {hb i : Nat} {w : World} (v : Value) : w.grownBy (w.setCell ⟨hb, i, none⟩ v) (some hb) :=
  ⟨rfl, rfl, rfl, by simp [World.setCell], fun k _ hk => Below.heap_setCell w _ v k (fun e => hk (by rw [e]))⟩
theorem grs_B {hb : Nat} (vs : List Value) : ∀ (o : Nat) (w : World), w.grownBy (w.setCells hb o vs) (some hb) := by
  induction vs with
  | nil => intro o w; exact World.grownBy.refl _ _
  | cons v r ih => intro o w; exact (gr1_B v).trans (ih (o + 1) _)
theorem sizes_B {hb : Nat} (vs : List Value) : ∀ (o : Nat) (w : World), (w.setCells hb o vs).heap.size = w.heap.size := by
  induction vs with
  | nil => intro o w; rfl
  | cons v r ih => intro o w; exact (ih _ _).trans (by simp [World.setCell])
/-- n numbers from a place on -/
def nums (P : Nat → Int) (a n : Nat) : List Value := (List.range n).map fun i => .int .i64 (P (a + i))
theorem nums_len (P : Nat → Int) (a n : Nat) : (nums P a n).length = n := by simp [nums]
theorem nums_size (P : Nat → Int) (a n : Nat) : (nums P a n).toArray.size = n := by simp [nums]
theorem nums_get (P : Nat → Int) (a n i : Nat) (h : i < n) : (nums P a n)[i]? = some (.int .i64 (P (a + i))) := by simp [nums, h]
theorem nums_at (P : Nat → Int) (a n i : Nat) (h : i < n) : (nums P a n).toArray[i]? = some (.int .i64 (P (a + i))) := by simp [nums, h]
theorem nums_one (P : Nat → Int) (a n : Nat) : (nums P a n).toArray.all (·.oneCell') = true :=
  all_oneCell_toArray fun v hv => by
    obtain ⟨i, _, rfl⟩ := List.mem_map.1 hv
    rfl
theorem nums_cut (P : Nat → Int) (a n x y : Nat) (hxy : x ≤ y) (hy : y ≤ n) : (nums P a n).toArray.extract x y = (nums P (a + x) (y - x)).toArray := by
  apply Array.ext_getElem?
  intro i
  rw [Array.getElem?_extract]
  split
  · rename_i h
    rw [nums_size] at h
    rw [nums_at _ _ _ _ (by omega), nums_at _ _ _ _ (by omega), Nat.add_assoc]
  · rename_i h
    rw [nums_size] at h
    rw [Array.getElem?_eq_none (by rw [nums_size]; omega)]
/-- the cells of a position -/
def pc (P : Nat → Int) : List Value := nums P 0 133
/-- a position -/
def posV (P : Nat → Int) : Value := .agg (pc P).toArray
theorem pc_len (P : Nat → Int) : (pc P).length = 133 := nums_len P 0 133
theorem pc_size (P : Nat → Int) : (pc P).toArray.size = 133 := nums_size P 0 133
theorem pc_get (P : Nat → Int) (i : Nat) (h : i < 133) : (pc P)[i]? = some (.int .i64 (P i)) := by
  unfold pc; rw [nums_get _ _ _ _ h, Nat.zero_add]
theorem pc_one (P : Nat → Int) : (pc P).toArray.all (·.oneCell') = true := nums_one P 0 133
/-- a piece -/
def pieV (k d : Int) : Value := .agg #[.int .i64 k, .int .i64 d]
theorem nums_two (P : Nat → Int) (a : Nat) : (nums P a 2).toArray = #[.int .i64 (P a), .int .i64 (P (a + 1))] := rfl

theorem infoPos : (Tryz.prog.info? 29).map (·.size) = some 133 := by kernel_rfl
theorem infoSqs : (Tryz.prog.info? 26).map (·.size) = some 128 := by kernel_rfl
theorem infoPie : (Tryz.prog.info? 25).map (·.size) = some 2 := by kernel_rfl
theorem size_of_info {t : TypeId} {n : Nat} (h : (Tryz.prog.info? t).map (·.size) = some n) (w : World) : (sizeOf t).run Tryz.prog w = .ok n w := by
  cases hi : Tryz.prog.info? t with
  | none => rw [hi] at h; cases h
  | some i =>
    rw [hi] at h
    have hz : i.size = n := Option.some.inj h
    simp [sizeOf, typeInfo, hi, hz]

/-- a position in a block of its own -/
structure PB (w : World) (b : Nat) (P : Nat → Int) : Prop where
  lt : b < w.heap.size
  cell : ∀ i, i < 133 → w.cell? ⟨b, i, none⟩ = some (.int .i64 (P i))
  fr : ∀ i, w.frozen? ⟨b, i, none⟩ = false
theorem PB.range {w : World} {b : Nat} {P : Nat → Int} (h : PB w b P) : w.rangeAt b 0 (pc P) := fun j v hv => by
  have hj : j < 133 := by have := (List.getElem?_eq_some_iff.1 hv).1; rwa [pc_len] at this
  rw [pc_get _ _ hj] at hv
  rw [Nat.zero_add, h.cell j hj, hv]
theorem PB.squares {w : World} {b : Nat} {P : Nat → Int} (h : PB w b P) : w.rangeAt b 0 (nums P 0 128) := fun j v hv => by
  have hj : j < 128 := by have := (List.getElem?_eq_some_iff.1 hv).1; rwa [nums_len] at this
  rw [nums_get _ _ _ _ hj, Nat.zero_add] at hv
  rw [Nat.zero_add, h.cell j (by omega), hv]
theorem PB.there {w : World} {b : Nat} {P : Nat → Int} (h : PB w b P) : w.there b 0 133 := fun j hj => by
  rw [Nat.zero_add]; exact ⟨by rw [h.cell j hj]; rfl, h.fr j⟩
theorem PB.below {B : Nat} {w w' : World} {b : Nat} {P : Nat → Int} (h : PB w b P) (g : Below B w w') (hb : b < B) : PB w' b P :=
  ⟨Nat.lt_of_lt_of_le h.lt g.size, fun i hi => by rw [g.cell (p := ⟨b, i, none⟩) hb]; exact h.cell i hi, fun i => by rw [g.frozen (p := ⟨b, i, none⟩) hb]; exact h.fr i⟩
theorem PB.go {w w' : World} {b : Nat} {P : Nat → Int} (h : PB w b P) (g : Below w.heap.size w w') : PB w' b P := h.below g h.lt
theorem PB.drew {w : World} {b : Nat} {P : Nat → Int} (h : PB w b P) : PB w.drew b P := h.go (Below.refl _ _).drew
theorem PB.alloc {w : World} {b : Nat} {P : Nat → Int} (h : PB w b P) (o : Obj) : PB (w.alloc o) b P := h.go ((Below.refl _ _).alloc (Nat.le_refl _) o)
theorem PB.of_block {w : World} {b : Nat} {P : Nat → Int} {t : TypeId} (h : w.heap[b]? = some (.cells (pc P).toArray t (0, 0))) : PB w b P :=
  ⟨(Array.getElem?_eq_some_iff.1 h).1, fun i hi => by rw [cell_of_row w b i _ _ (0, 0) h]; have := pc_get P i hi; rwa [← List.getElem?_toArray] at this, fun i => frozen_of_row w b i _ _ h⟩
theorem PB.new {w : World} {P : Nat → Int} {t : TypeId} {H : Nat} (e : H = w.heap.size) : PB (w.alloc (.cells (pc P).toArray t)) H P := PB.of_block (sl_at e)
theorem PB.store {w : World} {b : Nat} {P Q : Nat → Int} (h : PB w b P) : PB (w.setCells b 0 (pc Q)) b Q :=
  ⟨by rw [sizes_B]; exact h.lt, fun i hi => by
    have := World.rangeAt_setCells_same w b 0 (pc Q) (by rw [pc_len]; exact h.there) i _ (pc_get Q i hi)
    rwa [Nat.zero_add] at this, fun i => (World.frozen?_setCells _ _ _ _ _).trans (h.fr i)⟩
/-- one of the numbers is another -/
def setN (P : Nat → Int) (i : Nat) (x : Int) : Nat → Int := fun j => if j = i then x else P j
/-- another piece on a square -/
def setP (P : Nat → Int) (s : Nat) (k d : Int) : Nat → Int := fun j => if j = 2 * s then k else if j = 2 * s + 1 then d else P j
theorem PB.set {w : World} {b : Nat} {P : Nat → Int} (h : PB w b P) (i : Nat) (x : Int) (hi : i < 133) : PB (w.setCell ⟨b, i, none⟩ (.int .i64 x)) b (setN P i x) :=
  ⟨by rw [World.size_setCell]; exact h.lt, fun j hj => by
    unfold setN
    by_cases e : j = i
    · subst e; rw [if_pos rfl, World.cell?_setCell_same _ _ _ (h.cell j hj)]
    · rw [if_neg e, World.cell?_setCell_other _ _ _ _ (by intro hh; injection hh with _ h2; omega)]; exact h.cell j hj, fun j => by rw [World.frozen?_setCell]; exact h.fr j⟩
theorem PB.congr {w : World} {b : Nat} {P Q : Nat → Int} (h : PB w b P) (e : ∀ i, i < 133 → P i = Q i) : PB w b Q :=
  ⟨h.lt, fun i hi => by rw [← e i hi]; exact h.cell i hi, h.fr⟩
/-! == on pieces and on positions -/
def pe (k d k' d' : Int) : Bool := k == k' && d == d'
theorem pe_iff (k d k' d' : Int) : pe k d k' d' = true ↔ k = k' ∧ d = d' := by unfold pe; simp
theorem equal_pie (k d k' d' : Int) (n : Nat) (w : World) : (Op.equalIn (n + 2) 25 (pieV k d) (pieV k' d')).run Tryz.prog w = .ok (pe k d k' d') w := by
  unfold pieV pe
  rw [run_equalIn_agg w (n + 1) 25 _ _ (by kernel_rfl) (by kernel_rfl)]
  have hf : (Tryz.prog.fieldsOf 25).toList.map (fun f => (f.name, f.type, f.offset)) = [("Kind", 22, 0), ("Side", 23, 1)] := by kernel_rfl
  generalize (Tryz.prog.fieldsOf 25).toList = fs at hf ⊢
  · obtain ⟨f, fs, rfl, hf1, hf⟩ := List.map_eq_cons_iff.1 hf
    obtain ⟨g, fs, rfl, hf2, hf⟩ := List.map_eq_cons_iff.1 hf
    obtain rfl := List.map_eq_nil_iff.1 hf
    simp only [Prod.mk.injEq] at hf1 hf2
    obtain ⟨n1, t1, o1⟩ := hf1
    obtain ⟨n2, t2, o2⟩ := hf2
    have p1 : ∀ a b : Int, (part 22 #[.int .i64 a, .int .i64 b] 0).run Tryz.prog w = .ok (.int .i64 a) w := fun a b => by
      simp [part, isAgg, run_underlying Tryz.underlying22]
    have p2 : ∀ a b : Int, (part 23 #[.int .i64 a, .int .i64 b] 1).run Tryz.prog w = .ok (.int .i64 b) w := fun a b => by
      simp [part, isAgg, run_underlying Tryz.underlying23]
    have e1 : ∀ a b : Int, (Op.equalIn (n + 1) 22 (.int .i64 a) (.int .i64 b)).run Tryz.prog w = .ok (a == b) w := fun a b => run_equalIn_int w n 22 .i64 .i64 a b Tryz.underlying22
    have e2 : ∀ a b : Int, (Op.equalIn (n + 1) 23 (.int .i64 a) (.int .i64 b)).run Tryz.prog w = .ok (a == b) w := fun a b => run_equalIn_int w n 23 .i64 .i64 a b Tryz.underlying23
    have n1' : f.name ≠ "_" := by rw [n1]; decide
    have n2' : g.name ≠ "_" := by rw [n2]; decide
    simp only [Op.eqFields, Sem.run_bind, Sem.run_ite, n1', n2', ne_eq, not_false_eq_true, if_true, t1, t2, o1, o2, p1, p2, e1, e2, Result.andThen_ok]
    cases k == k' <;> cases d == d' <;> simp
@[go_sem high] theorem eql_pie (k d k' d' : Int) (w : World) : (binOp .eql 25 (.agg #[.int .i64 k, .int .i64 d]) (.agg #[.int .i64 k', .int .i64 d'])).run Tryz.prog w = .ok (.bool (pe k d k' d')) w := by
  have e := equal_pie k d k' d' 9998 w
  unfold pieV at e
  rw [run_eql_struct, e]; rfl
@[go_sem high] theorem neq_pie (k d k' d' : Int) (w : World) : (binOp .neq 25 (.agg #[.int .i64 k, .int .i64 d]) (.agg #[.int .i64 k', .int .i64 d'])).run Tryz.prog w = .ok (.bool (!pe k d k' d')) w := by
  have e := equal_pie k d k' d' 9998 w
  unfold pieV at e
  rw [run_neq_struct, e]; rfl
/-- are two positions the same -/
def sqEq (P Q : Nat → Int) : Bool := (List.range 64).all fun i => pe (P (2 * i)) (P (2 * i + 1)) (Q (2 * i)) (Q (2 * i + 1))
def posEq (P Q : Nat → Int) : Bool := sqEq P Q && (P 128 == Q 128) && (P 129 == Q 129) && (P 130 == Q 130) && (P 131 == Q 131) && (P 132 == Q 132)
theorem equal_sqs (P Q : Nat → Int) (n : Nat) (w : World) : (Op.equalIn (n + 3) 26 (.agg (nums P 0 128).toArray) (.agg (nums Q 0 128).toArray)).run Tryz.prog w = .ok (sqEq P Q) w := by
  rw [Op.equalIn]
  simp only [Sem.run_bind, run_underlying Tryz.underlying26, Result.andThen_ok, size_of_info infoPie, Std.Legacy.Range.forIn_eq_forIn_range', Std.Legacy.Range.size, Nat.sub_zero, Nat.add_sub_cancel, Nat.div_one]
  have hall : sqEq P Q = (List.range' 0 64 1).all fun i => pe (P (2 * i)) (P (2 * i + 1)) (Q (2 * i)) (Q (2 * i + 1)) := by
    unfold sqEq; rw [List.range_eq_range']
  rw [hall]
  have hl : ∀ j ∈ List.range' 0 64 1, j < 64 := fun j hj => by simpa using (List.mem_range'_1.1 hj).2
  generalize List.range' 0 64 1 = l at hl ⊢
  induction l with
  | nil => simp
  | cons j l ih =>
    have hj : j < 64 := hl j (by simp)
    have px : ∀ P : Nat → Int, (Go.part 25 (nums P 0 128).toArray (j * 2)).run Tryz.prog w = .ok (pieV (P (2 * j)) (P (2 * j + 1))) w := fun P => by
      simp only [Go.part, isAgg, Sem.run_bind, run_underlying Tryz.underlying25, Result.andThen_ok, Sem.run_pure, if_true, size_of_info infoPie, nums_cut P 0 128 (j * 2) (j * 2 + 2) (by omega) (by omega)]
      rw [show j * 2 + 2 - j * 2 = 2 by omega, nums_two, Nat.zero_add, Nat.mul_comm j 2]; rfl
    simp only [List.forIn_cons, Sem.run_bind, px, equal_pie, Result.andThen_ok]
    cases he : pe (P (2 * j)) (P (2 * j + 1)) (Q (2 * j)) (Q (2 * j + 1)) with
    | false => simp [he]
    | true =>
      simp only [Bool.not_true, Bool.false_eq_true, if_false, Sem.run_pure, Result.andThen_ok, List.all_cons, he, Bool.true_and]
      exact ih fun k hk => hl k (by simp [hk])
/-- the piece on a square of a row of squares -/
theorem index_sqs (P : Nat → Int) (j : Nat) (hj : j < 64) (w : World) : (Instr.index 26 (.agg (nums P 0 128).toArray) (.int .i64 (j : Int))).run Tryz.prog w = .ok (.agg #[.int .i64 (P (2 * j)), .int .i64 (P (2 * j + 1))]) w := by
  have px : (Go.part 25 (nums P 0 128).toArray (j * 2)).run Tryz.prog w = .ok (pieV (P (2 * j)) (P (2 * j + 1))) w := by
    simp only [Go.part, isAgg, Sem.run_bind, run_underlying Tryz.underlying25, Result.andThen_ok, Sem.run_pure, if_true, size_of_info infoPie, nums_cut P 0 128 (j * 2) (j * 2 + 2) (by omega) (by omega)]
    rw [show j * 2 + 2 - j * 2 = 2 by omega, nums_two, Nat.zero_add, Nat.mul_comm j 2]; rfl
  have hr : 0 ≤ (j : Int) ∧ (j : Int) < (64 : Nat) := by omega
  simp only [Instr.index, asIntOf, Sem.run_bind, Sem.run_pure, Result.andThen_ok, run_underlying Tryz.underlying26, hr, and_self, if_true, size_of_info infoPie, Int.toNat_natCast, px]
  rfl
/-- behind a position that is stored -/
theorem below_store {B b : Nat} {w0 w : World} (Q : Nat → Int) (h : Below B w0 w) (hB : B ≤ b) (hs : B ≤ w.heap.size) : Below B w0 (w.setCells b 0 (pc Q)) :=
  h.grown (grs_B (hb := b) (pc Q) 0 w) hs (by rintro k ⟨⟩; exact hB)
end Go.Proofs.YtkncfeijlmomaaaGreatDoor

namespace Go.Proofs.YtkncfeijlmomaaaGreatDoor
open Go.RowKit
set_option linter.unusedSimpArgs false
set_option linter.unusedVariables false

theorem part_sqs (P : Nat → Int) (w : World) : (part 26 (pc P).toArray 0).run Tryz.prog w = .ok (.agg (nums P 0 128).toArray) w := by
  have h : (pc P).toArray.extract 0 (0 + 128) = (nums P 0 128).toArray := nums_cut P 0 133 0 (0 + 128) (by omega) (by omega)
  simp only [part, isAgg, Sem.run_bind, run_underlying Tryz.underlying26, Result.andThen_ok, Sem.run_pure, if_true, size_of_info infoSqs, h]
theorem part_num (P : Nat → Int) (X : Array Value) (w : World) (hX : X = (pc P).toArray) (t : TypeId) (k : Nat) (x : TypeDesc) (hu : Tryz.prog.underlying t = some x) (hx : x.isRow = false) (hk : k < 133) : (part t X k).run Tryz.prog w = .ok (.int .i64 (P k)) w := by
  have hg : X[k]? = some (.int .i64 (P k)) := by rw [hX, List.getElem?_toArray]; exact pc_get P k hk
  cases x <;> simp_all [part, isAgg, run_underlying hu, TypeDesc.isRow]
theorem eq_fields (X Y : Array Value) (A0 B0 : Value) (a b : Nat → Int) (n : Nat) (w : World) (e0 : Bool)
    (p0x : (part 26 X 0).run Tryz.prog w = .ok A0 w) (p0y : (part 26 Y 0).run Tryz.prog w = .ok B0 w)
    (h0 : (Op.equalIn n 26 A0 B0).run Tryz.prog w = .ok e0 w)
    (px : ∀ (t : TypeId) (k : Nat) (x : TypeDesc), Tryz.prog.underlying t = some x → x.isRow = false → k < 133 → (part t X k).run Tryz.prog w = .ok (.int .i64 (a k)) w)
    (py : ∀ (t : TypeId) (k : Nat) (x : TypeDesc), Tryz.prog.underlying t = some x → x.isRow = false → k < 133 → (part t Y k).run Tryz.prog w = .ok (.int .i64 (b k)) w)
    (e1 : ∀ (t : TypeId) (a b : Int), Tryz.prog.underlying t = some (.int .i64) → (Op.equalIn n t (.int .i64 a) (.int .i64 b)).run Tryz.prog w = .ok (a == b) w) :
    (Op.equalIn (n + 1) 29 (.agg X) (.agg Y)).run Tryz.prog w = .ok (e0 && (a 128 == b 128) && (a 129 == b 129) && (a 130 == b 130) && (a 131 == b 131) && (a 132 == b 132)) w := by
  rw [run_equalIn_agg w n 29 _ _ (by kernel_rfl) (by kernel_rfl)]
  have hf : (Tryz.prog.fieldsOf 29).toList.map (fun f => (f.name, f.type, f.offset)) = [("Squares", 26, 0), ("Side", 23, 128), ("Castle", 27, 129), ("Over", 3, 130), ("Half", 3, 131), ("Full", 3, 132)] := by kernel_rfl
  generalize (Tryz.prog.fieldsOf 29).toList = fs at hf ⊢
  · obtain ⟨f0, fs, rfl, hf0, hf⟩ := List.map_eq_cons_iff.1 hf
    obtain ⟨f1, fs, rfl, hf1, hf⟩ := List.map_eq_cons_iff.1 hf
    obtain ⟨f2, fs, rfl, hf2, hf⟩ := List.map_eq_cons_iff.1 hf
    obtain ⟨f3, fs, rfl, hf3, hf⟩ := List.map_eq_cons_iff.1 hf
    obtain ⟨f4, fs, rfl, hf4, hf⟩ := List.map_eq_cons_iff.1 hf
    obtain ⟨f5, fs, rfl, hf5, hf⟩ := List.map_eq_cons_iff.1 hf
    obtain rfl := List.map_eq_nil_iff.1 hf
    simp only [Prod.mk.injEq] at hf0 hf1 hf2 hf3 hf4 hf5
    obtain ⟨n0, t0, o0⟩ := hf0
    obtain ⟨n1, t1, o1⟩ := hf1
    obtain ⟨n2, t2, o2⟩ := hf2
    obtain ⟨n3, t3, o3⟩ := hf3
    obtain ⟨n4, t4, o4⟩ := hf4
    obtain ⟨n5, t5, o5⟩ := hf5
    have m0 : f0.name ≠ "_" := by rw [n0]; decide
    have m1 : f1.name ≠ "_" := by rw [n1]; decide
    have m2 : f2.name ≠ "_" := by rw [n2]; decide
    have m3 : f3.name ≠ "_" := by rw [n3]; decide
    have m4 : f4.name ≠ "_" := by rw [n4]; decide
    have m5 : f5.name ≠ "_" := by rw [n5]; decide
    have x1 := px _ 128 _ Tryz.underlying23 rfl (by omega)
    have x2 := px _ 129 _ Tryz.underlying27 rfl (by omega)
    have x3 := px _ 130 _ Tryz.underlying3 rfl (by omega)
    have x4 := px _ 131 _ Tryz.underlying3 rfl (by omega)
    have x5 := px _ 132 _ Tryz.underlying3 rfl (by omega)
    have y1 := py _ 128 _ Tryz.underlying23 rfl (by omega)
    have y2 := py _ 129 _ Tryz.underlying27 rfl (by omega)
    have y3 := py _ 130 _ Tryz.underlying3 rfl (by omega)
    have y4 := py _ 131 _ Tryz.underlying3 rfl (by omega)
    have y5 := py _ 132 _ Tryz.underlying3 rfl (by omega)
    have z1 := fun a b => e1 _ a b Tryz.underlying23
    have z2 := fun a b => e1 _ a b Tryz.underlying27
    have z3 := fun a b => e1 _ a b Tryz.underlying3
    clear px py e1
    simp only [Op.eqFields, Sem.run_bind, Sem.run_ite, m0, m1, m2, m3, m4, m5, ne_eq, not_false_eq_true, if_true, t0, t1, t2, t3, t4, t5, o0, o1, o2, o3, o4, o5, p0x, p0y, x1, x2, x3, x4, x5, y1, y2, y3, y4, y5, z1, z2, z3, h0, Result.andThen_ok]
    generalize (a 128 == b 128) = q1
    generalize (a 129 == b 129) = q2
    generalize (a 130 == b 130) = q3
    generalize (a 131 == b 131) = q4
    generalize (a 132 == b 132) = q5
    cases e0 <;> cases q1 <;> cases q2 <;> cases q3 <;> cases q4 <;> cases q5 <;> simp
theorem equal_pos (P Q : Nat → Int) (n : Nat) (w : World) : (Op.equalIn (n + 4) 29 (posV P) (posV Q)).run Tryz.prog w = .ok (posEq P Q) w :=
  eq_fields (pc P).toArray (pc Q).toArray _ _ P Q (n + 3) w (sqEq P Q) (part_sqs P w) (part_sqs Q w) (equal_sqs P Q n w)
    (fun t k x => part_num P _ w rfl t k x) (fun t k x => part_num Q _ w rfl t k x) (fun t a b hu => run_equalIn_int w (n + 2) t .i64 .i64 a b hu)
theorem eql_pos (P Q : Nat → Int) (w : World) : (binOp .eql 29 (.agg (pc P).toArray) (.agg (pc Q).toArray)).run Tryz.prog w = .ok (.bool (posEq P Q)) w := by
  have e := equal_pos P Q 9996 w
  unfold posV at e
  rw [run_eql_struct, e]; rfl
theorem neq_pos (P Q : Nat → Int) (w : World) : (binOp .neq 29 (.agg (pc P).toArray) (.agg (pc Q).toArray)).run Tryz.prog w = .ok (.bool (!posEq P Q)) w := by
  have e := equal_pos P Q 9996 w
  unfold posV at e
  rw [run_neq_struct, e]; rfl
end Go.Proofs.YtkncfeijlmomaaaGreatDoor

namespace Go.Proofs.YtkncfeijlmomaaaGreatDoor
open Go.RowKit
set_option linter.unusedSimpArgs false
set_option linter.unusedVariables false
set_option maxRecDepth 20000

/-- the squares on a way: the i-th step's -/
def rq (s a b : Int) : Nat → Int
  | 0 => stp s a b
  | i + 1 => stp (rq s a b i) a b
/-- there are n of them -/
def RayN (s a b : Int) (n : Nat) : Prop := (∀ i, i < n → sq (rq s a b i) = true) ∧ sq (rq s a b n) = false
theorem infoInt : (Tryz.prog.info? 3).map (fun i => (i.zero, i.size, i.bytes)) = some (some (.int .i64 0), 1, 8) := by kernel_rfl
/-- the row of the first n -/
def rqC (s a b : Int) (n : Nat) : List Value := (List.range n).map fun i => .int .i64 (rq s a b i)
theorem rqC_succ (s a b : Int) (n : Nat) : rqC s a b n ++ [.int .i64 (rq s a b n)] = rqC s a b (n + 1) := by
  unfold rqC; rw [List.range_succ, List.map_append]; rfl

theorem infoI : ∃ i, Tryz.prog.info? 3 = some i ∧ i.size = 1 := by
  have h := infoInt
  cases hi : Tryz.prog.info? 3 with
  | none => rw [hi] at h; cases h
  | some i => rw [hi] at h; exact ⟨i, rfl, by simpa using congrArg (fun x => x.map fun y => y.2.1) h⟩
theorem equal_step (T : TypeId) (hu : Tryz.prog.underlying T = some (.array 2 3)) (x y x' y' : Int) (d : Nat) (w : World) : (Op.equalIn (d + 2) T (.agg #[.int .i64 x, .int .i64 y]) (.agg #[.int .i64 x', .int .i64 y'])).run Tryz.prog w = .ok (x == x' && y == y') w := by
  obtain ⟨i, hi, hs⟩ := infoI
  rw [Op.equalIn]
  simp only [Sem.run_bind, run_underlying hu, Result.andThen_ok, sizeOf, typeInfo, hi, hs, Std.Legacy.Range.forIn_eq_forIn_range', Std.Legacy.Range.size, Nat.sub_zero, Nat.add_sub_cancel, Nat.div_one]
  simp only [Sem.run_pure, Sem.run_bind, Result.andThen_ok, run_program, hi, hs]
  have px : ∀ u v : Int, (Go.part 3 #[.int .i64 u, .int .i64 v] (0 * 1)).run Tryz.prog w = .ok (.int .i64 u) w := fun u v => by
    simp [Go.part, isAgg, run_underlying Tryz.underlying3]
  have py : ∀ u v : Int, (Go.part 3 #[.int .i64 u, .int .i64 v] (1 * 1)).run Tryz.prog w = .ok (.int .i64 v) w := fun u v => by
    simp [Go.part, isAgg, run_underlying Tryz.underlying3]
  have pe : ∀ u v : Int, (Op.equalIn (d + 1) 3 (.int .i64 u) (.int .i64 v)).run Tryz.prog w = .ok (u == v) w := fun u v => run_equalIn_int w d 3 .i64 .i64 _ _ Tryz.underlying3
  have hl : List.range' 0 2 1 = [0, 1] := rfl
  rw [hl]
  simp only [List.forIn_cons, Sem.run_bind, px, py, pe, Result.andThen_ok]
  cases h1 : x == x' <;> simp [px, py, pe]
  cases h2 : y == y' <;> simp
  all_goals simpa using h2
theorem eql_step (x y x' y' : Int) (w : World) : (binOp .eql 206 (.agg #[.int .i64 x, .int .i64 y]) (.agg #[.int .i64 x', .int .i64 y'])).run Tryz.prog w = .ok (.bool (x == x' && y == y')) w := by
  rw [run_eql_struct, equal_step 206 Tryz.underlying206 x y x' y' 9998 w]; rfl
/-- how long a row is -/
def vlen : Value → Nat
  | .slice _ n _ => n
  | _ => 0
theorem owns_go {w w' : World} {base : Nat} {e : TypeId} {k : Nat} {v : Value} {n : Nat} {xs : List Value} (h : w.ownsRow base e k v n xs) (hb : Below w.heap.size w w') : w'.ownsRow base e k v n xs := by
  refine ⟨h.1, ?_⟩
  rcases h.2 with h0 | ⟨g, cap, cur, h1, h2, h3, h4⟩
  · exact .inl h0
  · exact .inr ⟨g, cap, cur, h1, h2, sl_go h3 hb, h4⟩
theorem owns_off {w : World} {base : Nat} {e t : TypeId} {k n H : Nat} {v : Value} {xs : List Value} {cs : Array Value} {fr : Nat × Nat} (h : w.ownsRow base e k v n xs) (hl : w.heap[H]? = some (.cells cs t fr)) (hne : e ≠ t) : v.ownBlock ≠ some H := by
  rcases h.2 with ⟨rfl, _⟩ | ⟨g, cap, cur, rfl, _, hc, _⟩
  · simp [Value.ownBlock]
  · intro hq
    have hg : g = H := by simpa [Value.ownBlock] using hq
    subst hg
    rw [hl] at hc
    simp only [Option.some.injEq, Obj.cells.injEq] at hc
    exact hne hc.2.1.symm
theorem sl_grown {w w' : World} {row : Option Nat} {H : Nat} {o : Obj} (h : w.heap[H]? = some o) (hg : w.grownBy w' row) (hne : row ≠ some H) : w'.heap[H]? = some o :=
  (hg.block H (Array.getElem?_eq_some_iff.1 h).1 (fun e => hne e.symm)).trans h
theorem put3_far {W : World} {H G : Nat} {o : Obj} (x y z : Value) (h : W.heap[G]? = some o) (hne : G ≠ H) :
    (((W.setCell ⟨H, 0, none⟩ x).setCell ⟨H, 1, none⟩ y).setCell ⟨H, 2, none⟩ z).heap[G]? = some o := by
  rw [Below.heap_setCell _ _ _ _ hne, Below.heap_setCell _ _ _ _ hne, Below.heap_setCell _ _ _ _ hne]; exact h
theorem own_len {w : World} {base : Nat} {e : TypeId} {k n : Nat} {v : Value} {xs : List Value} (h : w.ownsRow base e k v n xs) : vlen v = n := by
  rcases h.2 with ⟨rfl, h0⟩ | ⟨g, cap, cur, rfl, _⟩
  · exact h0.symm
  · rfl
theorem owns_put3 {W : World} {H : Nat} {base : Nat} {e t : TypeId} {k n : Nat} {v : Value} {xs : List Value} {cs : Array Value} {fr : Nat × Nat} (x y z : Value) (h : W.ownsRow base e k v n xs) (hl : W.heap[H]? = some (.cells cs t fr)) (hne : e ≠ t) :
    (((W.setCell ⟨H, 0, none⟩ x).setCell ⟨H, 1, none⟩ y).setCell ⟨H, 2, none⟩ z).ownsRow base e k v n xs := by
  have hoff := owns_off h hl hne
  refine ⟨h.1, ?_⟩
  rcases h.2 with h0 | ⟨g, cap, cur, rfl, h2, h3, h4⟩
  · exact .inl h0
  · exact .inr ⟨g, cap, cur, rfl, h2, put3_far x y z h3 (fun e => hoff (by rw [e]; rfl)), h4⟩
theorem row2' {W : World} {H : Nat} {a b : Value} {t : TypeId} (h : W.heap[H]? = some (.cells #[a, b] t (0, 0))) : W.cell? ⟨H, 0, none⟩ = some a ∧ W.cell? ⟨H, 1, none⟩ = some b := ⟨(row2 h).1, (row2 h).2.1⟩
theorem al_new {B : Nat} {w W : World} (_ : Below B w W) (o : Obj) : (W.alloc o).heap[W.heap.size]? = some o := sl_at rfl
theorem al_old {W : World} {H : Nat} {o : Obj} (h : W.heap[H]? = some o) (o' : Obj) : (W.alloc o').heap[H]? = some o := (heap_alloc_old W o' (Array.getElem?_eq_some_iff.1 h).1).trans h
theorem al_lt {W : World} {H : Nat} {o : Obj} (h : W.heap[H]? = some o) : H < W.heap.size := (Array.getElem?_eq_some_iff.1 h).1
set_option maxHeartbeats 1000000 in
theorem ray_any (s a b : Int) (n : Nat) (w : World) (ha : I64 a) (hb : I64 b) (hab : ¬ (a = 0 ∧ b = 0)) (hn : RayN s a b n) (h7 : n ≤ 7) :
    Calls Tryz.prog 248 #[.int .i64 s, .int .i64 a, .int .i64 b] w fun e w' => ∃ v, e = .returned v ∧ Below w.heap.size w w' ∧ w'.ownsRow w.heap.size 3 1 v n (rqC s a b n) := by
  obtain ⟨i0, hi, hz0, hz1, hz2⟩ := info_parts infoInt
  have he : ∀ w : World, (binOp .eql 206 (.agg #[.int .i64 a, .int .i64 b]) (.agg #[.int .i64 0, .int .i64 0])).run Tryz.prog w = .ok (.bool false) w := fun w => by
    rw [eql_step]
    have : (a == 0 && b == 0) = false := by
      cases h1 : a == 0 <;> cases h2 : b == 0 <;> simp at h1 h2 ⊢
      exact hab ⟨h1, h2⟩
    rw [this]
  go_enter Tryz.func248, Tryz.ntmps248
  go_upto_region 5 with (fail)
  have HT := Lib.hid (show (w.alloc (.cells #[.int .i64 a, .int .i64 b] 206)).heap[w.heap.size]? = some (.cells #[.int .i64 a, .int .i64 b] 206 (0, 0)) from sl_at rfl)
  have HBel := Lib.hid (below_new (w := w) (.cells #[.int .i64 a, .int .i64 b] 206))
  generalize w.alloc (.cells #[.int .i64 a, .int .i64 b] 206) = V at HT HBel ⊢
  go_cut [9] from 16 to 19 (fun v wx => ∃ H, v = .pointer (some ⟨H, 0, none⟩) ∧ Below w.heap.size w wx ∧ wx.heap[w.heap.size]? = some (.cells #[.int .i64 a, .int .i64 b] 206 (0, 0)) ∧ wx.heap[H]? = some (.cells #[.int .i64 (sF (stp s a b)), .int .i64 (sR (stp s a b)), .int .i64 (sN (stp s a b))] 144 (0, 0)) ∧ w.heap.size < H)
  case first =>
    refine wp_region_noPanic ?_
    refine wp_region_start (n := 6) (l := #[false, false, false, false, false, false]) (S := (fun W => W.cell? ⟨w.heap.size, 0, none⟩ = some (.int .i64 a) ∧ W.cell? ⟨w.heap.size, 1, none⟩ = some (.int .i64 b))) (by kernel_rfl) rfl (by kernel_rfl) (by exact row2' HT.out) (fun hHeld => ?_)
    replace HT := Lib.hid (show V.drew.heap[w.heap.size]? = some (.cells #[.int .i64 a, .int .i64 b] 206 (0, 0)) from HT.out)
    replace HBel := Lib.hid HBel.out.drew
    generalize V.drew = V' at hHeld HT HBel ⊢
    refine tq (i := 0) (d := some 16) rfl rfl ?_
    try simp only [aP, sA, sZ, sS]
    refine tq (i := 2) (d := some 18) rfl rfl ?_
    try simp only [aP, sA, sZ, sS]
    refine wg (i := 1) (j := 4) rfl rfl (by kernel_rfl) (fun K hK => ?_) (fun K hK => ?_)
    · skip
      go_simp
      refine (spotOf_any s _).mono ?_
      rintro e w1 ⟨rfl, hb1⟩
      replace HT := Lib.hid (sl_go HT.out hb1)
      try replace HL := Lib.hid (sl_go HL.out hb1)
      replace HBel := Lib.hid (HBel.out.trans (hb1.mono HBel.out.size))
      clear hb1
      dsimp only
      refine hK.out _ _ (by exact row2' HT.out) (fun hHeld => ?_)
      clear hK K
      try simp only [aP, sA, sZ, sS]
      refine wg (i := 3) (j := 4) rfl rfl (by kernel_rfl) (fun K hK => ?_) (fun K hK => ?_)
      · skip
        go_simp
        refine (next_any s a b _ ha hb).mono ?_
        rintro e w2 ⟨rfl, hb1⟩
        replace HT := Lib.hid (sl_go HT.out hb1)
        try replace HL := Lib.hid (sl_go HL.out hb1)
        replace HBel := Lib.hid (HBel.out.trans (hb1.mono HBel.out.size))
        clear hb1
        dsimp only
        refine hK.out _ _ (by exact row2' HT.out) (fun hHeld => ?_)
        clear hK K
        try simp only [aP, sA, sZ, sS]
        refine og (i := 4) rfl (by kernel_rfl) (fun K hK => ?_)
        go_simp
        have HL := Lib.hid (al_new HBel.out (.cells #[.int .i64 0, .int .i64 0, .int .i64 0] 144))
        have HLT := Lib.hid (al_lt HT.out)
        replace HT := Lib.hid (al_old HT.out (.cells #[.int .i64 0, .int .i64 0, .int .i64 0] 144))
        replace HBel := Lib.hid (HBel.out.alloc HBel.out.size (.cells #[.int .i64 0, .int .i64 0, .int .i64 0] 144))
        first
          | generalize w2.alloc (.cells #[.int .i64 0, .int .i64 0, .int .i64 0] 144) = WA at HT HL HBel ⊢
          | generalize w1.alloc (.cells #[.int .i64 0, .int .i64 0, .int .i64 0] 144) = WA at HT HL HBel ⊢
          | generalize V'.alloc (.cells #[.int .i64 0, .int .i64 0, .int .i64 0] 144) = WA at HT HL HBel ⊢
        refine hK.out _ _ (by exact row2' HT.out) (fun hHeld => ?_)
        clear hK K
        try simp only [aP, sA, sZ, sS]
        refine og (i := 5) rfl (by kernel_rfl) (fun K hK => ?_)
        obtain ⟨c0, c1, c2, fr, hz1⟩ := row3 HL.out
        replace HT := Lib.hid (put3_far (.int .i64 (sF (stp s a b))) (.int .i64 (sR (stp s a b))) (.int .i64 (sN (stp s a b))) HT.out (Nat.ne_of_lt HLT.out))
        replace HBel := Lib.hid (below_put3 (.int .i64 (sF (stp s a b))) (.int .i64 (sR (stp s a b))) (.int .i64 (sN (stp s a b))) HBel.out (Nat.le_of_lt HLT.out))
        replace HL := Lib.hid (put3 (.int .i64 (sF (stp s a b))) (.int .i64 (sR (stp s a b))) (.int .i64 (sN (stp s a b))) HL.out)
        go_simp
        clear c0 c1 c2 fr hz1
        refine hK.out _ _ (by exact row2' HT.out) (fun hHeld => ?_)
        clear hK K
        try simp only [aP, sA, sZ, sS]
        refine wpAnyH_done (by kernel_rfl) ?_ _
        refine NoPanic.normal ?_
        clear hHeld
        go_wp2_with fail
        go_meet
        exact ⟨_, rfl, HBel.out, HT.out, HL.out, HLT.out⟩
      · skip
        go_simp
        have HL := Lib.hid (al_new HBel.out (.cells #[.int .i64 0, .int .i64 0, .int .i64 0] 144))
        have HLT := Lib.hid (al_lt HT.out)
        replace HT := Lib.hid (al_old HT.out (.cells #[.int .i64 0, .int .i64 0, .int .i64 0] 144))
        replace HBel := Lib.hid (HBel.out.alloc HBel.out.size (.cells #[.int .i64 0, .int .i64 0, .int .i64 0] 144))
        first
          | generalize w2.alloc (.cells #[.int .i64 0, .int .i64 0, .int .i64 0] 144) = WA at HT HL HBel ⊢
          | generalize w1.alloc (.cells #[.int .i64 0, .int .i64 0, .int .i64 0] 144) = WA at HT HL HBel ⊢
          | generalize V'.alloc (.cells #[.int .i64 0, .int .i64 0, .int .i64 0] 144) = WA at HT HL HBel ⊢
        refine hK.out _ _ (by exact row2' HT.out) (fun hHeld => ?_)
        clear hK K
        try simp only [aP, sA, sZ, sS]
        refine og (i := 3) rfl (by kernel_rfl) (fun K hK => ?_)
        go_simp
        refine (next_any s a b _ ha hb).mono ?_
        rintro e w2 ⟨rfl, hb1⟩
        replace HT := Lib.hid (sl_go HT.out hb1)
        try replace HL := Lib.hid (sl_go HL.out hb1)
        replace HBel := Lib.hid (HBel.out.trans (hb1.mono HBel.out.size))
        clear hb1
        dsimp only
        refine hK.out _ _ (by exact row2' HT.out) (fun hHeld => ?_)
        clear hK K
        try simp only [aP, sA, sZ, sS]
        refine og (i := 5) rfl (by kernel_rfl) (fun K hK => ?_)
        obtain ⟨c0, c1, c2, fr, hz1⟩ := row3 HL.out
        replace HT := Lib.hid (put3_far (.int .i64 (sF (stp s a b))) (.int .i64 (sR (stp s a b))) (.int .i64 (sN (stp s a b))) HT.out (Nat.ne_of_lt HLT.out))
        replace HBel := Lib.hid (below_put3 (.int .i64 (sF (stp s a b))) (.int .i64 (sR (stp s a b))) (.int .i64 (sN (stp s a b))) HBel.out (Nat.le_of_lt HLT.out))
        replace HL := Lib.hid (put3 (.int .i64 (sF (stp s a b))) (.int .i64 (sR (stp s a b))) (.int .i64 (sN (stp s a b))) HL.out)
        go_simp
        clear c0 c1 c2 fr hz1
        refine hK.out _ _ (by exact row2' HT.out) (fun hHeld => ?_)
        clear hK K
        try simp only [aP, sA, sZ, sS]
        refine wpAnyH_done (by kernel_rfl) ?_ _
        refine NoPanic.normal ?_
        clear hHeld
        go_wp2_with fail
        go_meet
        exact ⟨_, rfl, HBel.out, HT.out, HL.out, HLT.out⟩
    · skip
      go_simp
      have HL := Lib.hid (al_new HBel.out (.cells #[.int .i64 0, .int .i64 0, .int .i64 0] 144))
      have HLT := Lib.hid (al_lt HT.out)
      replace HT := Lib.hid (al_old HT.out (.cells #[.int .i64 0, .int .i64 0, .int .i64 0] 144))
      replace HBel := Lib.hid (HBel.out.alloc HBel.out.size (.cells #[.int .i64 0, .int .i64 0, .int .i64 0] 144))
      first
        | generalize w2.alloc (.cells #[.int .i64 0, .int .i64 0, .int .i64 0] 144) = WA at HT HL HBel ⊢
        | generalize w1.alloc (.cells #[.int .i64 0, .int .i64 0, .int .i64 0] 144) = WA at HT HL HBel ⊢
        | generalize V'.alloc (.cells #[.int .i64 0, .int .i64 0, .int .i64 0] 144) = WA at HT HL HBel ⊢
      refine hK.out _ _ (by exact row2' HT.out) (fun hHeld => ?_)
      clear hK K
      try simp only [aP, sA, sZ, sS]
      refine og (i := 1) rfl (by kernel_rfl) (fun K hK => ?_)
      go_simp
      refine (spotOf_any s _).mono ?_
      rintro e w1 ⟨rfl, hb1⟩
      replace HT := Lib.hid (sl_go HT.out hb1)
      try replace HL := Lib.hid (sl_go HL.out hb1)
      replace HBel := Lib.hid (HBel.out.trans (hb1.mono HBel.out.size))
      clear hb1
      dsimp only
      refine hK.out _ _ (by exact row2' HT.out) (fun hHeld => ?_)
      clear hK K
      try simp only [aP, sA, sZ, sS]
      refine og (i := 3) rfl (by kernel_rfl) (fun K hK => ?_)
      go_simp
      refine (next_any s a b _ ha hb).mono ?_
      rintro e w2 ⟨rfl, hb1⟩
      replace HT := Lib.hid (sl_go HT.out hb1)
      try replace HL := Lib.hid (sl_go HL.out hb1)
      replace HBel := Lib.hid (HBel.out.trans (hb1.mono HBel.out.size))
      clear hb1
      dsimp only
      refine hK.out _ _ (by exact row2' HT.out) (fun hHeld => ?_)
      clear hK K
      try simp only [aP, sA, sZ, sS]
      refine og (i := 5) rfl (by kernel_rfl) (fun K hK => ?_)
      obtain ⟨c0, c1, c2, fr, hz1⟩ := row3 HL.out
      replace HT := Lib.hid (put3_far (.int .i64 (sF (stp s a b))) (.int .i64 (sR (stp s a b))) (.int .i64 (sN (stp s a b))) HT.out (Nat.ne_of_lt HLT.out))
      replace HBel := Lib.hid (below_put3 (.int .i64 (sF (stp s a b))) (.int .i64 (sR (stp s a b))) (.int .i64 (sN (stp s a b))) HBel.out (Nat.le_of_lt HLT.out))
      replace HL := Lib.hid (put3 (.int .i64 (sF (stp s a b))) (.int .i64 (sR (stp s a b))) (.int .i64 (sN (stp s a b))) HL.out)
      go_simp
      clear c0 c1 c2 fr hz1
      refine hK.out _ _ (by exact row2' HT.out) (fun hHeld => ?_)
      clear hK K
      try simp only [aP, sA, sZ, sS]
      refine wpAnyH_done (by kernel_rfl) ?_ _
      refine NoPanic.normal ?_
      clear hHeld
      go_wp2_with fail
      go_meet
      exact ⟨_, rfl, HBel.out, HT.out, HL.out, HLT.out⟩
  case rest =>
    obtain ⟨H, rfl, hB1, hT1, hL1, hlt1⟩ := hcut
    clear HT HBel
    go_wp2
    go_loopw [8, 9] (fun v p wr => ∃ k H : Nat, k ≤ n ∧ p = .pointer (some ⟨H, 0, none⟩) ∧ Below w.heap.size w wr ∧ wr.heap[w.heap.size]? = some (.cells #[.int .i64 a, .int .i64 b] 206 (0, 0)) ∧ wr.heap[H]? = some (.cells #[.int .i64 (sF (rq s a b k)), .int .i64 (sR (rq s a b k)), .int .i64 (sN (rq s a b k))] 144 (0, 0)) ∧ w.heap.size < H ∧ wr.ownsRow w.heap.size 3 1 v k (rqC s a b k)) (fun v _ _ => n - vlen v)
    case atStart => exact ⟨0, H, Nat.zero_le _, rfl, hB1, hT1, hL1, hlt1, World.ownsRow_nil _ _ _ _⟩
    case round =>
      obtain ⟨k, H, hk, rfl, hB1, hT1, hL1, hlt1, hown⟩ := hrel
      have hsn : sN (rq s a b k) = rq s a b k := by cases k with
        | zero => exact stp_sN a b
        | succ k => exact stp_sN a b
      by_cases hlt : k < n
      · have hsq := hn.1 k hlt
        have hrs := rqC_succ s a b k
        have hnx : stp (rq s a b k) a b = rq s a b (k + 1) := rfl
        obtain ⟨x, hx⟩ : ∃ x, rq s a b k = x := ⟨_, rfl⟩
        obtain ⟨y, hy⟩ : ∃ y, rq s a b (k + 1) = y := ⟨_, rfl⟩
        rw [hx] at hsq hrs hnx hsn hL1
        rw [hy] at hnx
        have HY := Lib.hid hy
        have HSQ := Lib.hid hsq
        have HRS := Lib.hid hrs
        have HNX := Lib.hid hnx
        clear hx hsq hrs hnx hy
        have HVL := Lib.hid (own_len hown)
        have HOW := Lib.hid hown
        have HB := Lib.hid hB1
        have HT := Lib.hid hT1
        have HL := Lib.hid hL1
        clear hown hB1 hT1
        obtain ⟨p0, p1, p2, pfr, pz⟩ := row3 hL1
        clear hL1
        go_wp2_with fail
        refine (onBsq_any x _).mono ?_
        rw [HSQ.out]
        rintro e w2 ⟨rfl, hb2⟩
        clear p0 p1 p2 pfr pz
        replace HB := Lib.hid (HB.out.trans (hb2.mono HB.out.size))
        replace HT := Lib.hid (sl_go HT.out hb2)
        replace HL := Lib.hid (sl_go HL.out hb2)
        replace HOW := Lib.hid (owns_go HOW.out hb2)
        clear hb2
        obtain ⟨p0, p1, p2, pfr, pz⟩ := row3 HL.out
        rw [hsn] at p2
        have hm1 : k + 1 ≤ maxLen := by unfold maxLen; omega
        go_wp2_with (at_builtin; refine wpList_append_lies _ rfl (.tmp 26) (.tmp 29) 63 rfl w.heap.size 3 i0 (.int .i64 0) 1 8 Tryz.underlying63 hi hz0 hz1 hz2 rfl (by decide) _ k (rqC s a b k) rfl (HOW.out.alloc _) ⟨w2.heap.size, 0, none⟩ 1 1 [.int .i64 x] rfl rfl (World.news_of_block (heap_alloc_new _ _)) ?c2 (by decide) hm1 (by omega) (by simp; have := HB.out.size; omega) (w2.heap.size + 1) (by simp) ?next)
        case c2 => intro y hy; simp at hy; subst hy; rfl
        case next =>
          intro g1 cap1 w3 hown1 hgrow1 hat1 hlt3
          rw [HRS.out] at hown1
          have hoff := owns_off HOW.out HL.out (by decide)
          have hofT := owns_off HOW.out HT.out (by decide)
          have hb3 : Below w.heap.size w w3 := (HB.out.alloc HB.out.size _).grown hgrow1 (by simp; have := HB.out.size; omega) (fun b e => (HOW.out.lt b e).1)
          have ht3 := sl_grown (al_old HT.out _) hgrow1 hofT
          have hl3 := sl_grown (al_old HL.out _) hgrow1 hoff
          have HOW3 := Lib.hid hown1
          have HB3 := Lib.hid hb3
          have HT3 := Lib.hid ht3
          clear HOW HB HT HL p0 p1 p2 pfr pz hgrow1 hown1 hat1 hb3
          obtain ⟨p0, p1, p2, pfr, pz⟩ := row3 hl3
          rw [hsn] at p2
          obtain ⟨t0, t1, tfr, tz⟩ := row2 ht3
          clear hl3 ht3
          have hc5 := next_any x a b (w3.alloc (.cells #[.int .i64 (sF x), .int .i64 (sR x), .int .i64 x] 144)) ha hb
          rw [hsn, HNX.out] at hc5
          have HC5 := Lib.hid hc5
          clear hc5
          go_wp2_with fail
          refine HC5.out.mono ?_
          rintro e w5 ⟨rfl, hb5⟩
          have hl5 := sl_go (sl_at (W := w3) (o := .cells #[.int .i64 (sF x), .int .i64 (sR x), .int .i64 x] 144) rfl) hb5
          have hz3 := al_lt HT3.out
          have HT5 := Lib.hid (put3_far (.int .i64 (sF y)) (.int .i64 (sR y)) (.int .i64 (sN y)) (sl_go (al_old HT3.out _) hb5) (Nat.ne_of_lt hz3))
          have HL5 := Lib.hid (put3 (.int .i64 (sF y)) (.int .i64 (sR y)) (.int .i64 (sN y)) hl5)
          have HB5 := Lib.hid (below_put3 (.int .i64 (sF y)) (.int .i64 (sR y)) (.int .i64 (sN y)) ((HB3.out.alloc HB3.out.size _).trans (hb5.mono (by simp; have := HB3.out.size; omega))) (Nat.le_of_lt hz3))
          have HO5 := Lib.hid (owns_put3 (.int .i64 (sF y)) (.int .i64 (sR y)) (.int .i64 (sN y)) (owns_go (HOW3.out.alloc _) hb5) hl5 (by decide))
          obtain ⟨c0, c1, c2, fr, hz5⟩ := row3 hl5
          clear hl5 hb5 p0 p1 p2 pfr pz t0 t1 tfr tz HOW3 HB3 HT3 HC5 HRS HNX
          go_wp2
          go_roundw
          case rel => exact ⟨k + 1, w3.heap.size, by omega, rfl, HB5.out, HT5.out, by rw [HY.out]; exact HL5.out, hz3, HO5.out⟩
          case measure => rw [HVL.out]; show n - (k + 1) < n - k; omega
      · obtain rfl : k = n := by omega
        have HSQ := Lib.hid hn.2
        obtain ⟨p0, p1, p2, pfr, pz⟩ := row3 hL1
        go_wp2_with fail
        refine (onBsq_any (rq s a b k) _).mono ?_
        rw [HSQ.out]
        rintro e w2 ⟨rfl, hb2⟩
        have HB := Lib.hid (hB1.trans (hb2.mono hB1.size))
        have HO := Lib.hid (owns_go hown hb2)
        clear p0 p1 p2 pfr pz hb2 hB1 hown hT1 hL1
        go_wp2
        go_ret
        exact ⟨_, rfl, HB.out, HO.out⟩
end Go.Proofs.YtkncfeijlmomaaaGreatDoor
