/-
  Contracts: the words of bytes, by the package and by the document.
-/
import Derived.Test.YtoocfkaclhgjeaaDoorG4
import Derived.StillTailTactics
namespace Go.Proofs.YtoocfkaclhgjeaaDoor
open Go.RowKit
set_option linter.unusedSimpArgs false
set_option linter.unusedVariables false

theorem shl8 (x : BitVec 32) : (u x * (256 : Int)) % (4294967296 : Int) = u (x <<< (8 : Nat)) := shl_mod x 8
theorem ub_u32 (b : BitVec 8) : IntKind.u32.wrap (ub b) = u (b.setWidth 32) := by
  unfold u ub; rw [IntKind.wrap_u32, BitVec.toNat_setWidth]; have := b.isLt; omega
attribute [go_sem] shl8 ub_u32
theorem own_mono {w : World} {base base' : Nat} {e : TypeId} {size : Nat} {v : Value} {n : Nat} {xs : List Value} (h : w.ownsRow base e size v n xs) (hb : base' ≤ base) : w.ownsRow base' e size v n xs := by
  refine ⟨h.1, ?_⟩
  rcases h.2 with h | ⟨g, cap, cur, h1, h2, h3⟩
  · exact .inl h
  · exact .inr ⟨g, cap, cur, h1, Nat.le_trans hb h2, h3⟩
/-- the word of the first of four bytes that stand behind 4 n others -/
def bwTo (g : Nat → BitVec 8) (n : Nat) : Nat → BitVec 32
  | 0 => 0#32
  | i + 1 => bwTo g n i <<< 8 ||| (g (4 * n + i)).setWidth 32
def bw (g : Nat → BitVec 8) (n : Nat) : BitVec 32 := bwTo g n 4

set_option maxHeartbeats 400000 in
theorem word_any (B ob oo n c k : Nat) (p : Option Addr) (g : Nat → BitVec 8) (w : World) (hn : n ≤ 9223372036854775807) (hk4 : 4 * k + 4 ≤ n) (ho : w.cell? ⟨ob, oo, none⟩ = some (.slice p n c)) (hr : Reads B w p n (fun i => .int .u8 (ub (g i)))) :
    Calls Tryd.prog 85 #[.pointer (some ⟨ob, oo, none⟩), .int .i64 (k : Int)] w fun e w' => e = .returned (.int .u32 (u (bw g k))) ∧ w = w' := by
  rcases hr with h0 | ⟨b, off, rfl, hb, hc⟩
  · omega
  have HC := Lib.hid hc
  clear hc
  go_enter Tryd.func85, Tryd.ntmps85
  go_wp2
  go_loop [5, 7] (fun t i => ∃ m : Nat, m ≤ 4 ∧ i = .int .i64 m ∧ t = .int .u32 (u (bwTo g k m))) (fun _ i => 4 - (intOf i).toNat)
  case atStart => exact ⟨0, Nat.zero_le _, rfl, rfl⟩
  case round =>
    obtain ⟨m, hm, rfl, rfl⟩ := hrel
    by_cases hlt : m < 4
    · have hcell : w.cell? ⟨b, off + (4 * k + m), none⟩ = some (.int .u8 (ub (g (4 * k + m)))) := HC.out (4 * k + m) (by omega)
      go_wp2
      go_round
      case rel => exact ⟨m + 1, by omega, by go_num, rfl⟩
      case measure => simp [intOf]; omega
    · obtain rfl : m = 4 := by omega
      go_wp2
      go_ret
      exact ⟨rfl, rfl⟩

/-- a row of words of which the first k have been put -/
def part (f : Nat → BitVec 32) (k i : Nat) : Value := .int .u32 (if i < k then u (f i) else 0)
theorem part_step (f : Nat → BitVec 32) (n k : Nat) (hk : k < n) : ((List.range n).map (part f k)).set k (.int .u32 (u (f k))) = (List.range n).map (part f (k + 1)) := by
  apply List.ext_getElem?
  intro i
  rw [List.getElem?_set]
  by_cases e : k = i
  · subst e; simp [hk, part]
  · rw [if_neg e]
    by_cases hi : i < n
    · simp [hi, part, show (i < k + 1 ↔ i < k) by omega]
    · simp [hi]
theorem part_all (f : Nat → BitVec 32) (n : Nat) : (List.range n).map (part f n) = (List.range n).map (fun i => Value.int .u32 (u (f i))) :=
  List.map_congr_left fun i hi => by unfold part; rw [if_pos (List.mem_range.1 hi)]
theorem part_none (f : Nat → BitVec 32) (n : Nat) : (madeCells #[Value.int .u32 0] n).toList = (List.range n).map (part f 0) := by
  rw [toList_madeCells_one]
  apply List.ext_getElem?
  intro i
  by_cases hi : i < n <;> simp [hi, part]
theorem infoW : (Tryd.prog.info? 84).map (fun i => (i.zero, i.size, i.bytes)) = some (some (.int .u32 0), 1, 4) := by kernel_rfl

set_option maxHeartbeats 400000 in
theorem count_any (ob oo q c : Nat) (p : Option Addr) (w : World) (hq : q ≤ 1073741823) (ho : w.cell? ⟨ob, oo, none⟩ = some (.slice p (4 * q) c)) :
    Calls Tryd.prog 84 #[.pointer (some ⟨ob, oo, none⟩)] w fun e w' => e = .returned (.int .i64 (q : Int)) ∧ w = w' := by
  have hd : 4 * (q : Int) / 4 = (q : Int) := by omega
  go_enter Tryd.func84, Tryd.ntmps84
  go_wp2
  go_ret
  exact ⟨rfl, rfl⟩

set_option maxHeartbeats 1000000 in
set_option maxRecDepth 100000 in
theorem read_any (B ob oo q c : Nat) (p : Option Addr) (g : Nat → BitVec 8) (w : World) (hn : q ≤ 1073741823) (hob : ob < w.heap.size) (ho : w.cell? ⟨ob, oo, none⟩ = some (.slice p (4 * q) c)) (hB : B ≤ w.heap.size) (hr : Reads B w p (4 * q) (fun i => .int .u8 (ub (g i)))) :
    Calls Tryd.prog 80 #[.pointer (some ⟨ob, oo, none⟩)] w fun e w' => ∃ v, e = .returned v ∧ Below w.heap.size w w' ∧ w'.ownsRow w.heap.size 84 1 v q ((List.range q).map (fun i => .int .u32 (u (bw g i)))) := by
  obtain ⟨i0, hi, hz0, hz1, hz2⟩ := info_parts infoW
  obtain ⟨w1, hmk, hown, hgr⟩ := run_make_full (P := Tryd.prog) w w.heap.size 99 84 i0 (.int .u32 0) 1 Tryd.underlying99 hi hz0 hz1 .i64 .i64 q (by rw [hz2]; omega) (by unfold maxLen; omega) (Nat.le_refl _)
  have hb0 : Below w.heap.size w w1 := (Below.refl _ _).grown hgr (Nat.le_refl _) (fun k e => by cases e)
  have hown1 : w1.ownsRow w.heap.size 84 1 (.slice (some ⟨w.heap.size, 0, none⟩) q q) q ((List.range q).map (part (bw g) 0)) := by
    rw [← part_none]; simpa [Value.cells] using hown
  clear hown hgr
  have HO := Lib.hid ho
  have HR := Lib.hid hr
  clear hr ho
  go_enter Tryd.func80, Tryd.ntmps80
  go_wp2_with (go_at_call 84; refine (count_any ob oo q c p _ hn HO.out).mono ?_; rintro e w' ⟨rfl, rfl⟩)
  go_loopw [12] (fun i wr => ∃ k : Nat, k ≤ q ∧ i = .int .i64 k ∧ wr.ownsRow w.heap.size 84 1 (.slice (some ⟨w.heap.size, 0, none⟩) q q) q ((List.range q).map (part (bw g) k)) ∧ Below w.heap.size w wr) (fun i _ => q - (intOf i).toNat)
  case atStart => exact ⟨0, Nat.zero_le _, rfl, hown1, hb0⟩
  case round =>
    obtain ⟨k, hk, rfl, hown, hbel⟩ := hrel
    clear hown1 hb0 hmk
    have hsz := hbel.size
    by_cases hlt : k < q
    · have ho2 := (hbel.cell (p := ⟨ob, oo, none⟩) hob).trans HO.out
      have hr2 := HR.out.below (hbel.mono hB)
      have hcell : wr.cell? ⟨w.heap.size, k, none⟩ = some (part (bw g) k k) := by
        rw [hown.cellAt k (by omega)]; simp [hlt]
      have hfr := hown.frozenAt k
      have hst := hown.stored k (.int .u32 (u (bw g k)))
      rw [part_step _ _ _ hlt] at hst
      have hb2 : Below w.heap.size w (wr.setCell ⟨w.heap.size, k, none⟩ (.int .u32 (u (bw g k)))) := hbel.setCell (Nat.le_refl _) _
      have HS := Lib.hid hst.1
      have HB2 := Lib.hid hb2
      have HW := Lib.hid (word_any B ob oo (4 * q) c k p g wr (by omega) (by omega) ho2 hr2)
      clear hst hb2 hown ho2 hr2 hbel
      go_wp2_with (go_at_call 85; refine (HW.out).mono ?_; rintro e w' ⟨rfl, rfl⟩)
      go_roundw
      case rel => exact ⟨k + 1, by omega, by go_num, HS.out, HB2.out⟩
      case measure => simp [intOf]; omega
    · obtain rfl : k = q := by omega
      rw [part_all] at hown
      go_wp2
      go_ret
      exact ⟨_, rfl, hbel, hown⟩

set_option maxHeartbeats 400000 in
theorem whole_any (ob oo n c : Nat) (p : Option Addr) (b : Bool) (w : World) (hn : n ≤ 9223372036854775807) (hb : ((n : Int) % 4 == 0) = b) (ho : w.cell? ⟨ob, oo, none⟩ = some (.slice p n c)) :
    Calls Tryd.prog 79 #[.pointer (some ⟨ob, oo, none⟩)] w fun e w' => e = .returned (.bool b) ∧ w = w' := by
  go_enter Tryd.func79, Tryd.ntmps79
  go_wp2
  go_ret
  exact ⟨rfl, rfl⟩

set_option maxHeartbeats 400000 in
theorem words_no (n c : Nat) (p : Option Addr) (w : World) (hn : n ≤ 9223372036854775807) (h4 : n % 4 ≠ 0) :
    Calls Tryd.prog 73 #[.slice p n c] w fun e w' => e = .returned (.tuple #[.slice none 0 0, .int .i64 4]) ∧ Below w.heap.size w w' := by
  have hd : ((n : Int) % 4 == 0) = false := by simp; omega
  have HD := Lib.hid hd
  clear hd
  go_enter Tryd.func73, Tryd.ntmps73
  go_wp2_with (go_at_call 79; refine (whole_any _ 0 n c p false _ hn HD.out (by go_cell)).mono ?_; rintro e w' ⟨rfl, rfl⟩)
  go_ret2
  exact ⟨rfl, (Below.refl _ _).alloc (Nat.le_refl _) _⟩
set_option maxHeartbeats 400000 in
theorem words_yes (B q c : Nat) (p : Option Addr) (g : Nat → BitVec 8) (w : World) (hn : q ≤ 1073741823) (hB : B ≤ w.heap.size) (hr : Reads B w p (4 * q) (fun i => .int .u8 (ub (g i)))) :
    Calls Tryd.prog 73 #[.slice p (4 * q) c] w fun e w' => ∃ v, e = .returned (.tuple #[v, .int .i64 0]) ∧ Below w.heap.size w w' ∧ w'.ownsRow w.heap.size 84 1 v q ((List.range q).map (fun i => .int .u32 (u (bw g i)))) := by
  have hd : (((4 * q : Nat) : Int) % 4 == 0) = true := by simp
  have HD := Lib.hid hd
  have hr2 := hr.below (((Below.refl _ w).alloc hB (.cells #[.slice p (4 * q) c] 110)))
  have HR := Lib.hid hr2
  clear hd hr hr2
  go_enter Tryd.func73, Tryd.ntmps73
  go_wp2_with (first | (go_at_call 79; refine (whole_any _ 0 (4 * q) c p true _ (by omega) HD.out (by go_cell)).mono ?_; rintro e w' ⟨rfl, rfl⟩) | (go_at_call 80; refine (read_any B _ 0 q c p g _ hn (by simp) (by go_cell) (by simp; omega) HR.out).mono ?_; rintro e w1 ⟨v, rfl, hb1, hown⟩))
  go_ret2
  exact ⟨v, rfl, ((Below.refl _ _).alloc (Nat.le_refl _) _).trans (hb1.mono (by simp)), own_mono hown (by simp)⟩
end Go.Proofs.YtoocfkaclhgjeaaDoor
