/-
  Positions as values and in memory.
-/
import Derived.Test.YtkdhkljnpalajaaG2
import Derived.Deep.MidRow
import Derived.Lib.QuietBelow
namespace Go.Proofs.Ytkdhkljnpalajaa
open Go.RowKit
set_option linter.unusedSimpArgs false
set_option linter.unusedVariables false
/-- a great type's zero cells -/
def Try.zeroCells29 : Array Value := Array.replicate 133 (.int .i64 0)
theorem Try.zeroInfo29 : (Try.prog.info? 29).map (·.zero) = some (some (.agg Try.zeroCells29)) := by kernel_rfl
@[simp high, go_sem high] theorem Try.zeroValue29 (w : World) : (zeroValue 29).run Try.prog w = .ok (.agg Try.zeroCells29) w := by
  have h := Try.zeroInfo29
  generalize Try.zeroCells29 = Z at h ⊢
  cases hi : Try.prog.info? 29 with
  | none => rw [hi] at h; cases h
  | some i =>
    rw [hi] at h
    have hz : i.zero = some (.agg Z) := Option.some.inj h
    simp [zeroValue, typeInfo, hi, hz]
theorem Try.zeroCells29_size : Try.zeroCells29.size = 133 := by kernel_rfl
@[simp high] theorem Try.zeroCells29_ne : Try.zeroCells29 ≠ #[] := fun e => by
  have h := Try.zeroCells29_size
  rw [e] at h
  cases h

theorem gr1_B {hb i : Nat} {w : World} (v : Value) : w.grownBy (w.setCell ⟨hb, i, none⟩ v) (some hb) :=
  ⟨rfl, rfl, rfl, by simp [World.setCell], fun k _ hk => Below.heap_setCell w _ v k (fun e => hk (by rw [e]))⟩
theorem grs_B {hb : Nat} (vs : List Value) : ∀ (o : Nat) (w : World), w.grownBy (w.setCells hb o vs) (some hb) := by
  induction vs with
  | nil => intro o w; exact World.grownBy.refl _ _
  | cons v r ih => intro o w; exact (gr1_B v).trans (ih (o + 1) _)
theorem sizes_B {hb : Nat} (vs : List Value) : ∀ (o : Nat) (w : World), (w.setCells hb o vs).heap.size = w.heap.size := by
  induction vs with
  | nil => intro o w; rfl
  | cons v r ih => intro o w; exact (ih _ _).trans (by simp [World.setCell])
/-- n numbers from a place on -/
def nums (P : Nat → Int) (a n : Nat) : List Value := (List.range n).map fun i => .int .i64 (P (a + i))
theorem nums_len (P : Nat → Int) (a n : Nat) : (nums P a n).length = n := by simp [nums]
theorem nums_size (P : Nat → Int) (a n : Nat) : (nums P a n).toArray.size = n := by simp [nums]
theorem nums_get (P : Nat → Int) (a n i : Nat) (h : i < n) : (nums P a n)[i]? = some (.int .i64 (P (a + i))) := by simp [nums, h]
theorem nums_at (P : Nat → Int) (a n i : Nat) (h : i < n) : (nums P a n).toArray[i]? = some (.int .i64 (P (a + i))) := by simp [nums, h]
theorem nums_one (P : Nat → Int) (a n : Nat) : (nums P a n).toArray.all (·.oneCell') = true :=
  all_oneCell_toArray fun v hv => by
    obtain ⟨i, _, rfl⟩ := List.mem_map.1 hv
    rfl
theorem nums_cut (P : Nat → Int) (a n x y : Nat) (hxy : x ≤ y) (hy : y ≤ n) : (nums P a n).toArray.extract x y = (nums P (a + x) (y - x)).toArray := by
  apply Array.ext_getElem?
  intro i
  rw [Array.getElem?_extract]
  split
  · rename_i h
    rw [nums_size] at h
    rw [nums_at _ _ _ _ (by omega), nums_at _ _ _ _ (by omega), Nat.add_assoc]
  · rename_i h
    rw [nums_size] at h
    rw [Array.getElem?_eq_none (by rw [nums_size]; omega)]
/-- the cells of a position -/
def pc (P : Nat → Int) : List Value := nums P 0 133
theorem pc_len (P : Nat → Int) : (pc P).length = 133 := nums_len P 0 133
theorem pc_size (P : Nat → Int) : (pc P).toArray.size = 133 := nums_size P 0 133
theorem pc_get (P : Nat → Int) (i : Nat) (h : i < 133) : (pc P)[i]? = some (.int .i64 (P i)) := by
  unfold pc; rw [nums_get _ _ _ _ h, Nat.zero_add]
theorem pc_one (P : Nat → Int) : (pc P).toArray.all (·.oneCell') = true := nums_one P 0 133
/-- a piece -/
def pieV (k d : Int) : Value := .agg #[.int .i64 k, .int .i64 d]
theorem nums_two (P : Nat → Int) (a : Nat) : (nums P a 2).toArray = #[.int .i64 (P a), .int .i64 (P (a + 1))] := rfl

theorem infoPos : (Try.prog.info? 29).map (·.size) = some 133 := by kernel_rfl
theorem infoSqs : (Try.prog.info? 26).map (·.size) = some 128 := by kernel_rfl
theorem infoPie : (Try.prog.info? 25).map (·.size) = some 2 := by kernel_rfl
theorem size_of_info {t : TypeId} {n : Nat} (h : (Try.prog.info? t).map (·.size) = some n) (w : World) : (sizeOf t).run Try.prog w = .ok n w := by
  cases hi : Try.prog.info? t with
  | none => rw [hi] at h; cases h
  | some i =>
    rw [hi] at h
    have hz : i.size = n := Option.some.inj h
    simp [sizeOf, typeInfo, hi, hz]

/-- a position in a block of its own -/
structure PB (w : World) (b : Nat) (P : Nat → Int) : Prop where
  lt : b < w.heap.size
  cell : ∀ i, i < 133 → w.cell? ⟨b, i, none⟩ = some (.int .i64 (P i))
  fr : ∀ i, w.frozen? ⟨b, i, none⟩ = false
theorem PB.range {w : World} {b : Nat} {P : Nat → Int} (h : PB w b P) : w.rangeAt b 0 (pc P) := fun j v hv => by
  have hj : j < 133 := by have := (List.getElem?_eq_some_iff.1 hv).1; rwa [pc_len] at this
  rw [pc_get _ _ hj] at hv
  rw [Nat.zero_add, h.cell j hj, hv]
theorem PB.squares {w : World} {b : Nat} {P : Nat → Int} (h : PB w b P) : w.rangeAt b 0 (nums P 0 128) := fun j v hv => by
  have hj : j < 128 := by have := (List.getElem?_eq_some_iff.1 hv).1; rwa [nums_len] at this
  rw [nums_get _ _ _ _ hj, Nat.zero_add] at hv
  rw [Nat.zero_add, h.cell j (by omega), hv]
theorem PB.there {w : World} {b : Nat} {P : Nat → Int} (h : PB w b P) : w.there b 0 133 := fun j hj => by
  rw [Nat.zero_add]; exact ⟨by rw [h.cell j hj]; rfl, h.fr j⟩
theorem PB.below {B : Nat} {w w' : World} {b : Nat} {P : Nat → Int} (h : PB w b P) (g : Below B w w') (hb : b < B) : PB w' b P :=
  ⟨Nat.lt_of_lt_of_le h.lt g.size, fun i hi => by rw [g.cell (p := ⟨b, i, none⟩) hb]; exact h.cell i hi, fun i => by rw [g.frozen (p := ⟨b, i, none⟩) hb]; exact h.fr i⟩
theorem PB.go {w w' : World} {b : Nat} {P : Nat → Int} (h : PB w b P) (g : Below w.heap.size w w') : PB w' b P := h.below g h.lt
theorem PB.drew {w : World} {b : Nat} {P : Nat → Int} (h : PB w b P) : PB w.drew b P := h.go (Below.refl _ _).drew
theorem PB.alloc {w : World} {b : Nat} {P : Nat → Int} (h : PB w b P) (o : Obj) : PB (w.alloc o) b P := h.go ((Below.refl _ _).alloc (Nat.le_refl _) o)
theorem PB.of_block {w : World} {b : Nat} {P : Nat → Int} {t : TypeId} (h : w.heap[b]? = some (.cells (pc P).toArray t (0, 0))) : PB w b P :=
  ⟨(Array.getElem?_eq_some_iff.1 h).1, fun i hi => by rw [cell_of_row w b i _ _ (0, 0) h]; have := pc_get P i hi; rwa [← List.getElem?_toArray] at this, fun i => frozen_of_row w b i _ _ h⟩
theorem PB.new {w : World} {P : Nat → Int} {t : TypeId} {H : Nat} (e : H = w.heap.size) : PB (w.alloc (.cells (pc P).toArray t)) H P := PB.of_block (sl_at e)
theorem PB.store {w : World} {b : Nat} {P Q : Nat → Int} (h : PB w b P) : PB (w.setCells b 0 (pc Q)) b Q :=
  ⟨by rw [sizes_B]; exact h.lt, fun i hi => by
    have := World.rangeAt_setCells_same w b 0 (pc Q) (by rw [pc_len]; exact h.there) i _ (pc_get Q i hi)
    rwa [Nat.zero_add] at this, fun i => (World.frozen?_setCells _ _ _ _ _).trans (h.fr i)⟩
/-- one of the numbers is another -/
def setN (P : Nat → Int) (i : Nat) (x : Int) : Nat → Int := fun j => if j = i then x else P j
/-- another piece on a square -/
def setP (P : Nat → Int) (s : Nat) (k d : Int) : Nat → Int := fun j => if j = 2 * s then k else if j = 2 * s + 1 then d else P j
theorem PB.set {w : World} {b : Nat} {P : Nat → Int} (h : PB w b P) (i : Nat) (x : Int) (hi : i < 133) : PB (w.setCell ⟨b, i, none⟩ (.int .i64 x)) b (setN P i x) :=
  ⟨by rw [World.size_setCell]; exact h.lt, fun j hj => by
    unfold setN
    by_cases e : j = i
    · subst e; rw [if_pos rfl, World.cell?_setCell_same _ _ _ (h.cell j hj)]
    · rw [if_neg e, World.cell?_setCell_other _ _ _ _ (by intro hh; injection hh with _ h2; omega)]; exact h.cell j hj, fun j => by rw [World.frozen?_setCell]; exact h.fr j⟩
theorem PB.congr {w : World} {b : Nat} {P Q : Nat → Int} (h : PB w b P) (e : ∀ i, i < 133 → P i = Q i) : PB w b Q :=
  ⟨h.lt, fun i hi => by rw [← e i hi]; exact h.cell i hi, h.fr⟩
/-! == on pieces and on positions -/
def pe (k d k' d' : Int) : Bool := k == k' && d == d'
theorem equal_pie (k d k' d' : Int) (n : Nat) (w : World) : (Op.equalIn (n + 2) 25 (pieV k d) (pieV k' d')).run Try.prog w = .ok (pe k d k' d') w := by
  unfold pieV pe
  rw [run_equalIn_agg w (n + 1) 25 _ _ (by kernel_rfl) (by kernel_rfl)]
  have hf : (Try.prog.fieldsOf 25).toList.map (fun f => (f.name, f.type, f.offset)) = [("Kind", 22, 0), ("Side", 23, 1)] := by kernel_rfl
  generalize (Try.prog.fieldsOf 25).toList = fs at hf ⊢
  · obtain ⟨f, fs, rfl, hf1, hf⟩ := List.map_eq_cons_iff.1 hf
    obtain ⟨g, fs, rfl, hf2, hf⟩ := List.map_eq_cons_iff.1 hf
    obtain rfl := List.map_eq_nil_iff.1 hf
    simp only [Prod.mk.injEq] at hf1 hf2
    obtain ⟨n1, t1, o1⟩ := hf1
    obtain ⟨n2, t2, o2⟩ := hf2
    have p1 : ∀ a b : Int, (part 22 #[.int .i64 a, .int .i64 b] 0).run Try.prog w = .ok (.int .i64 a) w := fun a b => by
      simp [part, isAgg, run_underlying Try.underlying22]
    have p2 : ∀ a b : Int, (part 23 #[.int .i64 a, .int .i64 b] 1).run Try.prog w = .ok (.int .i64 b) w := fun a b => by
      simp [part, isAgg, run_underlying Try.underlying23]
    have e1 : ∀ a b : Int, (Op.equalIn (n + 1) 22 (.int .i64 a) (.int .i64 b)).run Try.prog w = .ok (a == b) w := fun a b => run_equalIn_int w n 22 .i64 .i64 a b Try.underlying22
    have e2 : ∀ a b : Int, (Op.equalIn (n + 1) 23 (.int .i64 a) (.int .i64 b)).run Try.prog w = .ok (a == b) w := fun a b => run_equalIn_int w n 23 .i64 .i64 a b Try.underlying23
    have n1' : f.name ≠ "_" := by rw [n1]; decide
    have n2' : g.name ≠ "_" := by rw [n2]; decide
    simp only [Op.eqFields, Sem.run_bind, Sem.run_ite, n1', n2', ne_eq, not_false_eq_true, if_true, t1, t2, o1, o2, p1, p2, e1, e2, Result.andThen_ok]
    cases k == k' <;> cases d == d' <;> simp
@[go_sem high] theorem eql_pie (k d k' d' : Int) (w : World) : (binOp .eql 25 (.agg #[.int .i64 k, .int .i64 d]) (.agg #[.int .i64 k', .int .i64 d'])).run Try.prog w = .ok (.bool (pe k d k' d')) w := by
  have e := equal_pie k d k' d' 9998 w
  unfold pieV at e
  rw [run_eql_struct, e]; rfl
@[go_sem high] theorem neq_pie (k d k' d' : Int) (w : World) : (binOp .neq 25 (.agg #[.int .i64 k, .int .i64 d]) (.agg #[.int .i64 k', .int .i64 d'])).run Try.prog w = .ok (.bool (!pe k d k' d')) w := by
  have e := equal_pie k d k' d' 9998 w
  unfold pieV at e
  rw [run_neq_struct, e]; rfl
/-- the piece on a square of a row of squares -/
theorem index_sqs (P : Nat → Int) (j : Nat) (hj : j < 64) (w : World) : (Instr.index 26 (.agg (nums P 0 128).toArray) (.int .i64 (j : Int))).run Try.prog w = .ok (.agg #[.int .i64 (P (2 * j)), .int .i64 (P (2 * j + 1))]) w := by
  have px : (Go.part 25 (nums P 0 128).toArray (j * 2)).run Try.prog w = .ok (pieV (P (2 * j)) (P (2 * j + 1))) w := by
    simp only [Go.part, isAgg, Sem.run_bind, run_underlying Try.underlying25, Result.andThen_ok, Sem.run_pure, if_true, size_of_info infoPie, nums_cut P 0 128 (j * 2) (j * 2 + 2) (by omega) (by omega)]
    rw [show j * 2 + 2 - j * 2 = 2 by omega, nums_two, Nat.zero_add, Nat.mul_comm j 2]; rfl
  have hr : 0 ≤ (j : Int) ∧ (j : Int) < (64 : Nat) := by omega
  simp only [Instr.index, asIntOf, Sem.run_bind, Sem.run_pure, Result.andThen_ok, run_underlying Try.underlying26, hr, and_self, if_true, size_of_info infoPie, Int.toNat_natCast, px]
  rfl
theorem load_pos {w : World} {b : Nat} {P : Nat → Int} (h : PB w b P) : (Instr.loadAt 29 (.pointer (some ⟨b, 0, none⟩))).run Try.prog w = .ok (.agg (pc P).toArray) w :=
  run_loadAt_mid w b 0 _ (pc P) _ h.range Try.underlying29 rfl (by rw [infoPos, pc_len])
theorem load_sqs {w : World} {b : Nat} {P : Nat → Int} (h : PB w b P) : (Instr.loadAt 26 (.pointer (some ⟨b, 0, none⟩))).run Try.prog w = .ok (.agg (nums P 0 128).toArray) w :=
  run_loadAt_mid w b 0 _ (nums P 0 128) _ h.squares Try.underlying26 rfl (by rw [infoSqs, nums_len])
theorem store_pos {w : World} {b : Nat} {P Q : Nat → Int} (h : PB w b P) : (Instr.storeAt 29 (.pointer (some ⟨b, 0, none⟩)) (.agg (pc Q).toArray)).run Try.prog w = .ok () (w.setCells b 0 (pc Q)) := by
  have := run_storeAt_mid (P := Try.prog) w b 0 29 (pc Q).toArray (by rw [pc_size]; exact h.there) (by rw [infoPos, pc_size]) (pc_one Q)
  rwa [List.toList_toArray] at this
/-- behind a position that is stored -/
theorem below_store {B b : Nat} {w0 w : World} (Q : Nat → Int) (h : Below B w0 w) (hB : B ≤ b) (hs : B ≤ w.heap.size) : Below B w0 (w.setCells b 0 (pc Q)) :=
  h.grown (grs_B (hb := b) (pc Q) 0 w) hs (by rintro k ⟨⟩; exact hB)
end Go.Proofs.Ytkdhkljnpalajaa
