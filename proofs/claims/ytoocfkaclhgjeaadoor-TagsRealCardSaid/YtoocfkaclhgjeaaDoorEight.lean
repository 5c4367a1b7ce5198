/-
  Contracts: the begin, small, and the questions to a hasher that make nothing.
-/
import Derived.Test.YtoocfkaclhgjeaaDoorHash
import Derived.LaidEqlPtr
namespace Go.Proofs.YtoocfkaclhgjeaaDoor
open Go.RowKit
set_option linter.unusedSimpArgs false
set_option linter.unusedVariables false

theorem laid_at {W : World} {o : Obj} {H : Nat} (e : H = W.heap.size) : (W.alloc o).heap[H]? = some o := by subst e; exact heap_alloc_new _ _
theorem laid_old {W : World} {o o' : Obj} {H : Nat} (h : W.heap[H]? = some o') : (W.alloc o).heap[H]? = some o' :=
  (heap_alloc_old W o (Array.getElem?_eq_some_iff.1 h).1).trans h
/-- a row that stands in a block -/
theorem reads_laid {W : World} {H : Nat} {cs : Array Value} {t : TypeId} {n : Nat} {f : Nat → Value} (hW : W.heap[H]? = some (.cells cs t (0, 0))) (h : ∀ i, i < n → cs[i]? = some (f i)) :
    Reads (H + 1) W (some ⟨H, 0, none⟩) n f :=
  .inr ⟨H, 0, rfl, by omega, fun i hi => by rw [Nat.zero_add, cell_of_row W H i cs t (0, 0) hW]; exact h i hi⟩
/-- the first five of a row -/
def fst5 {α : Type} (x y z p q : α) : Nat → α
  | 0 => x
  | 1 => y
  | 2 => z
  | 3 => p
  | _ => q
theorem fst5_at {α β : Type} (x y z p q : α) (v : α → β) (i : Nat) (hi : i < 5) : (#[v x, v y, v z, v p, v q] : Array β)[i]? = some (v (fst5 x y z p q i)) := by
  match i, hi with
  | 0, _ => rfl
  | 1, _ => rfl
  | 2, _ => rfl
  | 3, _ => rfl
  | 4, _ => rfl
theorem mix2_at (x : BitVec 32) (i j : Int) (W : World) (H : Nat) (t : TypeId) (hW : W.heap[H]? = some (.cells #[.int .i64 i, .int .i64 j] t (0, 0))) (a b : Nat) (hi : (i % 32).toNat = a) (hj : (j % 32).toNat = b) :
    Calls Tryd.prog 75 #[.int .u32 (u x), .slice (some ⟨H, 0, none⟩) 2 2] W fun e w' => e = .returned (.int .u32 (u (turn x a ^^^ turn x b))) ∧ W = w' := by
  subst hi hj
  have h := mix_any _ x (some ⟨H, 0, none⟩) 2 2 (fst3 i j j) W (by omega) (reads_laid hW (fun k hk => fst2_at i j j (fun q => Value.int .i64 q) 2 (by omega) k hk))
  have e : mixTo x (fst3 i j j) 2 = turn x (i % 32).toNat ^^^ turn x (j % 32).toNat := by simp [mixTo, fst3]
  rw [e] at h
  exact h
theorem mix3_at (x : BitVec 32) (i j k : Int) (W : World) (H : Nat) (t : TypeId) (hW : W.heap[H]? = some (.cells #[.int .i64 i, .int .i64 j, .int .i64 k] t (0, 0))) (a b c : Nat) (hi : (i % 32).toNat = a) (hj : (j % 32).toNat = b) (hk : (k % 32).toNat = c) :
    Calls Tryd.prog 75 #[.int .u32 (u x), .slice (some ⟨H, 0, none⟩) 3 3] W fun e w' => e = .returned (.int .u32 (u (mix3 x a b c))) ∧ W = w' := by
  subst hi hj hk
  have h := mix_any _ x (some ⟨H, 0, none⟩) 3 3 (fst3 i j k) W (by omega) (reads_laid hW (fun m hm => fst3_at i j k (fun q => Value.int .i64 q) 3 (by omega) m hm))
  have e : mixTo x (fst3 i j k) 3 = mix3 x (i % 32).toNat (j % 32).toNat (k % 32).toNat := by simp [mixTo, fst3, mix3]
  rw [e] at h
  exact h
theorem maj_at (x y z : BitVec 32) (W : World) (H : Nat) (t : TypeId) (hW : W.heap[H]? = some (.cells #[.int .u32 (u x), .int .u32 (u y), .int .u32 (u z)] t (0, 0))) :
    Calls Tryd.prog 77 #[.slice (some ⟨H, 0, none⟩) 3 3] W fun e w' => e = .returned (.int .u32 (u (maj x y z))) ∧ W = w' := by
  have h := most_any _ (some ⟨H, 0, none⟩) 3 3 (fst3 x y z) W (by omega) (reads_laid hW (fun m hm => fst3_at x y z (fun q => Value.int .u32 (u q)) 3 (by omega) m hm))
  rw [most3_maj] at h
  exact h
theorem sum2_at (x y : BitVec 32) (W : World) (H : Nat) (t : TypeId) (hW : W.heap[H]? = some (.cells #[.int .u32 (u x), .int .u32 (u y)] t (0, 0))) :
    Calls Tryd.prog 71 #[.slice (some ⟨H, 0, none⟩) 2 2] W fun e w' => e = .returned (.int .u32 (u (x + y))) ∧ W = w' := by
  have h := sum_any _ (some ⟨H, 0, none⟩) 2 2 (fst3 x y y) W (by omega) (reads_laid hW (fun m hm => fst2_at x y y (fun q => Value.int .u32 (u q)) 2 (by omega) m hm))
  have e : sumTo (fst3 x y y) 2 = x + y := by simp [sumTo, fst3]
  rw [e] at h
  exact h
theorem sum4_at (x y z p : BitVec 32) (W : World) (H : Nat) (t : TypeId) (hW : W.heap[H]? = some (.cells #[.int .u32 (u x), .int .u32 (u y), .int .u32 (u z), .int .u32 (u p)] t (0, 0))) :
    Calls Tryd.prog 71 #[.slice (some ⟨H, 0, none⟩) 4 4] W fun e w' => e = .returned (.int .u32 (u (x + y + z + p))) ∧ W = w' := by
  have h := sum_any _ (some ⟨H, 0, none⟩) 4 4 (fst4 x y z p) W (by omega) (reads_laid hW (fun m hm => fst4_at x y z p (fun q => Value.int .u32 (u q)) m hm))
  have e : sumTo (fst4 x y z p) 4 = x + y + z + p := by simp [sumTo, fst4]
  rw [e] at h
  exact h
theorem sum5_at (x y z p q : BitVec 32) (W : World) (H : Nat) (t : TypeId) (hW : W.heap[H]? = some (.cells #[.int .u32 (u x), .int .u32 (u y), .int .u32 (u z), .int .u32 (u p), .int .u32 (u q)] t (0, 0))) :
    Calls Tryd.prog 71 #[.slice (some ⟨H, 0, none⟩) 5 5] W fun e w' => e = .returned (.int .u32 (u (x + y + z + p + q))) ∧ W = w' := by
  have h := sum_any _ (some ⟨H, 0, none⟩) 5 5 (fst5 x y z p q) W (by omega) (reads_laid hW (fun m hm => fst5_at x y z p q (fun q => Value.int .u32 (u q)) m hm))
  have e : sumTo (fst5 x y z p q) 5 = x + y + z + p + q := by simp [sumTo, fst5]
  rw [e] at h
  exact h
set_option maxHeartbeats 400000 in
theorem small_any (x : BitVec 32) (i j k : Int) (w : World) (a b c : Nat) (hi : (i % 32).toNat = a) (hj : (j % 32).toNat = b) (hk0 : 0 ≤ k) (hk1 : k ≤ 9223372036854775807) (hk : k.toNat = c) :
    Calls Tryd.prog 74 #[.int .u32 (u x), .int .i64 i, .int .i64 j, .int .i64 k] w fun e w' => e = .returned (.int .u32 (u (sml x a b c))) ∧ Below w.heap.size w w' := by
  have hs : u (if k < 0 then x else x >>> k.toNat) = u (x >>> c) := by rw [if_neg (by omega), hk]
  have HS := Lib.hid hs
  clear hs
  go_enter Tryd.func74, Tryd.ntmps74
  go_wp2_with fail
  refine (mix2_at x i j _ _ _ (laid_at rfl) a b hi hj).mono ?_
  rintro e w' ⟨rfl, rfl⟩
  go_wp2_with fail
  refine (shift_any x k _ hk1).mono ?_
  rintro e w' ⟨rfl, rfl⟩
  rw [HS.out]
  go_wp2
  go_ret
  exact ⟨rfl, (Below.refl _ _).alloc (Nat.le_refl _) _⟩
theorem infoEight : (Tryd.prog.info? 86).map (·.size) = some 8 := by kernel_rfl
theorem infoHasher : (Tryd.prog.info? 89).isSome = true := by kernel_rfl
theorem neq_own (w : World) (a : Addr) : (binOp .neq 68 (.pointer (some a)) (.pointer (some a))).run Tryd.prog w = .ok (.bool false) w := by
  obtain ⟨j, hj⟩ := Option.isSome_iff_exists.1 infoHasher
  have h : ∀ d : Nat, (Op.equalIn (d + 1) 68 (.pointer (some a)) (.pointer (some a))).run Tryd.prog w = .ok true w := fun d => by
    simp [Op.equalIn, run_underlying Tryd.underlying68, sizeOf, typeInfo, hj, run_sameAddr_same]
  simp only [binOp]
  simp [Op.equal, Op.maxDepth, h 9999]
set_option maxHeartbeats 400000 in
theorem begin_any (w : World) :
    Calls Tryd.prog 53 #[] w fun e w' => e = .returned (.agg ((List.range 8).map fun i => .int .u32 (u (beg i))).toArray) ∧ Below w.heap.size w w' := by
  go_enter Tryd.func53, Tryd.ntmps53
  go_wp2
  refine bodyPost_ret (v := .agg ((List.range 8).map fun i => .int .u32 (u (beg i))).toArray) ?_ rfl ⟨rfl, (Below.refl _ _).alloc (Nat.le_refl _) _⟩
  exact results_cell_row (p := 0) (ty := 86) rfl _ _ w.heap.size 86 _ (0, 0) _ rfl (heap_alloc_new _ _) Tryd.underlying86 rfl infoEight
set_option maxHeartbeats 400000 in
theorem none_any (w : World) (hb : Nat) (st : Nat → BitVec 32) (op : Nat → BitVec 8) (n : Nat) (h : HS w hb st op n (some ⟨hb, 0, none⟩)) :
    Calls Tryd.prog 55 #[.pointer (some ⟨hb, 0, none⟩)] w fun e w' => e = .returned (.bool false) ∧ w = w' := by
  have h1 := h.own
  have h2 := neq_own w ⟨hb, 0, none⟩
  clear h
  go_enter Tryd.func55, Tryd.ntmps55
  go_wp2
  go_ret
  exact ⟨rfl, rfl⟩
set_option maxHeartbeats 400000 in
theorem new_any (w : World) :
    Calls Tryd.prog 41 #[] w fun e w' => ∃ hb, e = .returned (.pointer (some ⟨hb, 0, none⟩)) ∧ w.heap.size ≤ hb ∧ Below w.heap.size w w' ∧ ∀ g, HH w' hb g 0 (some ⟨hb, 0, none⟩) := by
  go_enter Tryd.func41, Tryd.ntmps41
  go_wp2_with fail
  refine (begin_any w).mono ?_
  rintro e w1 ⟨rfl, hb1⟩
  go_wp2
  go_ret
  have z1 := hb1.size
  refine ⟨_, rfl, z1, hb1.alloc z1 _, fun g => ⟨fun _ => 0#8, HS.of_cells (t := 89) ?_, fun j hj => by omega⟩⟩
  rw [heap_alloc_new]
  rfl
end Go.Proofs.YtoocfkaclhgjeaaDoor
