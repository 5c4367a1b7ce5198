/-
  Contracts: the document's filled bytes, joined rows, words of a block.
-/
import Derived.Test.YtoocfkaclhgjeaaDoorConcat
import Derived.Test.YtoocfkaclhgjeaaDoorG8
import Derived.Test.YtoocfkaclhgjeaaDoorG5
namespace Go.Proofs.YtoocfkaclhgjeaaDoor
open Go.RowKit
set_option linter.unusedVariables false
set_option linter.unusedSimpArgs false

theorem owns_nil_alloc {w : World} {e : TypeId} : (w.alloc (.cells #[] e)).ownsRow w.heap.size e 1 (.slice (some ⟨w.heap.size, 0, none⟩) 0 0) 0 [] := World.ownsRow_lit w #[] 0 (Nat.le_refl _) (by decide) rfl
theorem cellsOf_congr {f g : Nat → BitVec 8} {n : Nat} (h : ∀ i, i < n → f i = g i) : cellsOf f n = cellsOf g n :=
  List.map_congr_left fun i hi => by rw [h i (List.mem_range.1 hi)]
theorem cellsOf_add (f : Nat → BitVec 8) (n m : Nat) : cellsOf f n ++ (List.range m).map (fun j => .int .u8 (ub (f (n + j)))) = cellsOf f (n + m) := by
  unfold cellsOf
  rw [List.range_add, List.map_append, List.map_map]
  rfl

/-! rows, one behind the other -/
set_option maxHeartbeats 1000000 in
set_option maxRecDepth 100000 in
theorem join_any (B : Nat) (w : World) (p : Option Addr) (m c : Nat) (P : Nat → Option Addr) (ln C : Nat → Nat) (f : Nat → Nat → BitVec 8) (g : Nat → BitVec 8) (hB : B ≤ w.heap.size) (hm : m ≤ 4294967295) (hn : pos ln m ≤ 4294967295)
    (hp : Reads B w p m (fun i => .slice (P i) (ln i) (C i))) (hr : ∀ i, i < m → Reads B w (P i) (ln i) (fun j => .int .u8 (ub (f i j)))) (hg : ∀ i, i < m → ∀ j, j < ln i → f i j = g (pos ln i + j)) :
    Calls Tryd.prog 14 #[.slice p m c] w fun e w' => ∃ v, e = .returned v ∧ Below w.heap.size w w' ∧ w'.ownsRow w.heap.size 5 1 v (pos ln m) (cellsOf g (pos ln m)) := by
  obtain ⟨i0, hi, hz0, hz1, hz2⟩ := info_parts Tryd.infoB
  have HP := Lib.hid hp
  have HR := Lib.hid hr
  have HG := Lib.hid hg
  have HN := Lib.hid hn
  have how := owns_nil_alloc (w := w) (e := 5)
  have HO := Lib.hid how
  clear hp hr hg hn how
  go_enter Tryd.func14, Tryd.ntmps14
  go_wp2
  go_loopw [3, 4] (fun v i wr => ∃ k : Nat, k ≤ m ∧ i = .int .i64 (k : Int) ∧ Below w.heap.size w wr ∧ wr.ownsRow w.heap.size 5 1 v (pos ln k) (cellsOf g (pos ln k))) (fun _ i _ => m - (intOf i).toNat)
  case atStart => exact ⟨0, Nat.zero_le _, rfl, (Below.refl _ _).alloc (Nat.le_refl _) _, HO.out⟩
  case round =>
    clear HO
    obtain ⟨k, hk, rfl, hb, hown⟩ := hrel
    by_cases hlt : k < m
    · rcases HP.out.below (hb.mono hB) with h0 | ⟨b, off, rfl, hbb, hcp⟩
      · omega
      have hcell := hcp k hlt
      have hmo := pos_mono ln (show k + 1 ≤ m by omega)
      simp only [pos] at hmo
      have hsz := hb.size
      have hle := HN.out
      have hap := fun ty => append_reads (P := Tryd.prog) wr w.heap.size B 23 ty 5 i0 (.int .u8 0) 1 Tryd.underlying23 hi hz0 hz1 hz2 rfl _ _ _ hown (P k) (ln k) (C k) _ ((HR.out k hlt).below (hb.mono hB)) (fun _ _ => rfl) (by unfold maxLen; omega) (by omega) hsz
      have HAP := Lib.hid hap
      have HB := Lib.hid hb
      have HO := Lib.hid hown
      clear hcp hap hb hown hmo hle
      go_wp2_with (at_builtin; (obtain ⟨v', w1, hrun, hown1, hgr1⟩ := HAP.out _; refine Lib.wpList_append_run _ rfl _ _ _ _ rfl _ _ rfl rfl v' w1 hrun ?_))
      have H2 := Lib.hid (HB.out.grown hgr1 hsz (fun q e => (HO.out.lt q e).1))
      have H3 := Lib.hid (show w1.ownsRow w.heap.size 5 1 v' (pos ln (k + 1)) (cellsOf g (pos ln (k + 1))) by
        rw [show (List.range (ln k)).map (fun j => Value.int .u8 (ub (f k j))) = (List.range (ln k)).map (fun j => Value.int .u8 (ub (g (pos ln k + j)))) from List.map_congr_left fun j hj => by rw [HG.out k hlt j (List.mem_range.1 hj)], cellsOf_add] at hown1
        exact hown1)
      clear hrun hown1 hgr1 hcell
      go_wp2
      go_roundw
      case rel => exact ⟨k + 1, by omega, by go_num, H2.out, H3.out⟩
      case measure => simp [intOf]; omega
    · obtain rfl : k = m := by omega
      have H2 := Lib.hid hb
      have H3 := Lib.hid hown
      clear hb hown
      go_wp2
      go_ret
      exact ⟨_, rfl, H2.out, H3.out⟩

/-! the filled bytes -/
/-- how many elements a slice has -/
def lenOf : Value → Nat
  | .slice _ n _ => n
  | _ => 0
theorem owns_slice {w : World} {base : Nat} {e : TypeId} {size : Nat} {v : Value} {n : Nat} {xs : List Value} (h : w.ownsRow base e size v n xs) : ∃ p c, v = .slice p n c ∧ n ≤ c ∧ c ≤ maxLen := by
  rcases h.2 with ⟨rfl, rfl⟩ | ⟨g, cap, cur, rfl, h1, h2, h3, h4, _⟩
  · exact ⟨none, 0, rfl, Nat.le_refl _, by unfold maxLen; omega⟩
  · exact ⟨_, cap, rfl, h3, h4⟩
theorem full_lo (n : Nat) : n + 1 ≤ full n - 8 ∧ full n - 8 ≤ n + 64 ∧ (full n - 8) % 64 = 56 ∧ 8 ≤ full n := by unfold full; omega
theorem full_at (n j : Nat) (h1 : n + 1 ≤ j) (h2 : j ≤ full n - 8) : (j % 64 = 56) ↔ j = full n - 8 := by unfold full at *; omega
/-- one byte is appended to an owned row -/
theorem append_byte (w : World) (base : Nat) (ty : TypeId) (v : Value) (n : Nat) (f : Nat → BitVec 8) (hown : w.ownsRow base 5 1 v n (cellsOf f n)) (x : Value) (hx : x = .int .u8 (ub (f n))) (hn : n + 1 ≤ 4294967296) (hbase : base ≤ w.heap.size) :
    ∃ v' w', (Builtin.append_ #[23, 23] ty #[v, .slice (some ⟨w.heap.size, 0, none⟩) 1 1]).run Tryd.prog (w.alloc (.cells #[x] 5)) = .ok v' w' ∧ w'.ownsRow base 5 1 v' (n + 1) (cellsOf f (n + 1)) ∧ w.grownBy w' v.ownBlock := by
  obtain ⟨i0, hi, hz0, hz1, hz2⟩ := info_parts Tryd.infoB
  subst hx
  obtain ⟨v', w', h1, h2, h3⟩ := append_reads (P := Tryd.prog) (w.alloc (.cells #[.int .u8 (ub (f n))] 5)) base _ 23 ty 5 i0 (.int .u8 0) 1 Tryd.underlying23 hi hz0 hz1 hz2 rfl _ _ _ (hown.alloc _) (some ⟨w.heap.size, 0, none⟩) 1 1 (fun _ => .int .u8 (ub (f n)))
    (reads_laid (laid_at rfl) (fun i hi => by rw [show i = 0 by omega]; rfl)) (fun _ _ => rfl) (by unfold maxLen; omega) (by omega) (by simp; omega)
  refine ⟨v', w', h1, ?_, (World.grownBy_alloc w _ _).trans h3⟩
  rw [show (List.range 1).map (fun _ : Nat => Value.int .u8 (ub (f n))) = [Value.int .u8 (ub (f n))] from rfl, cellsOf_succ] at h2
  exact h2
theorem len_byte (n m : Nat) (hn : n ≤ 4294967296) (hm : m < 8) : IntKind.u8.wrap ((8 * (n : Int)) / 2 ^ (8 * (7 - m))) = ub (wb (lenw n) m) := by
  unfold ub wb lenw
  rw [IntKind.wrap_u8, BitVec.toNat_setWidth, BitVec.toNat_ushiftRight, Nat.shiftRight_eq_div_pow]
  match m, hm with
  | 0, _ => simp only [fst3, BitVec.toNat_ofNat, Nat.reduceMod, Nat.reduceMul, Nat.reduceSub, Nat.reducePow, Nat.reduceDiv, Int.reducePow, Nat.reduceAdd]; omega
  | 1, _ => simp only [fst3, BitVec.toNat_ofNat, Nat.reduceMod, Nat.reduceMul, Nat.reduceSub, Nat.reducePow, Nat.reduceDiv, Int.reducePow, Nat.reduceAdd]; omega
  | 2, _ => simp only [fst3, BitVec.toNat_ofNat, Nat.reduceMod, Nat.reduceMul, Nat.reduceSub, Nat.reducePow, Nat.reduceDiv, Int.reducePow, Nat.reduceAdd]; omega
  | 3, _ => simp only [fst3, BitVec.toNat_ofNat, Nat.reduceMod, Nat.reduceMul, Nat.reduceSub, Nat.reducePow, Nat.reduceDiv, Int.reducePow, Nat.reduceAdd]; omega
  | 4, _ => simp only [fst3, BitVec.toNat_ofNat, Nat.reduceMod, Nat.reduceMul, Nat.reduceSub, Nat.reducePow, Nat.reduceDiv, Int.reducePow, Nat.reduceAdd]; omega
  | 5, _ => simp only [fst3, BitVec.toNat_ofNat, Nat.reduceMod, Nat.reduceMul, Nat.reduceSub, Nat.reducePow, Nat.reduceDiv, Int.reducePow, Nat.reduceAdd]; omega
  | 6, _ => simp only [fst3, BitVec.toNat_ofNat, Nat.reduceMod, Nat.reduceMul, Nat.reduceSub, Nat.reducePow, Nat.reduceDiv, Int.reducePow, Nat.reduceAdd]; omega
  | 7, _ => simp only [fst3, BitVec.toNat_ofNat, Nat.reduceMod, Nat.reduceMul, Nat.reduceSub, Nat.reducePow, Nat.reduceDiv, Int.reducePow, Nat.reduceAdd]; omega
/-! a block's words -/
end Go.Proofs.YtoocfkaclhgjeaaDoor
