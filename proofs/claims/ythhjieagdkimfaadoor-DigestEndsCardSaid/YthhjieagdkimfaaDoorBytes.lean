/-
  Contracts: the bytes of words; whether two rows of bytes are the same.
-/
import Derived.Test.YthhjieagdkimfaaDoorPut
namespace Go.Proofs.YthhjieagdkimfaaDoor
open Go.RowKit
set_option linter.unusedSimpArgs false
set_option linter.unusedVariables false

/-- byte i of the bytes of words -/
def wb (f : Nat → BitVec 32) (i : Nat) : BitVec 8 := (f (i / 4) >>> (24 - 8 * (i % 4))).setWidth 8

set_option maxHeartbeats 400000 in
theorem write_any (base ob oo : Nat) (p : Option Addr) (n cap : Nat) (f : Nat → BitVec 32) (w : World) (hn : n ≤ 536870000) (hb : base ≤ ob) (hob : ob < w.heap.size)
    (hr : Reads base w p n (fun i => .int .u32 (u (f i)))) (ho : Oct w base ob oo (wb f) 0) :
    Calls Tryd.prog 95 #[.pointer (some ⟨ob, oo, none⟩), .slice p n cap] w fun e w' => e = .returned (.tuple #[]) ∧ Below base w w' ∧ Oct w' base ob oo (wb f) (4 * n) := by
  go_enter Tryd.func95, Tryd.ntmps95
  go_wp2
  go_loopw [8] (fun i wr => ∃ k : Nat, k ≤ n ∧ i = .int .i64 k ∧ Oct wr base ob oo (wb f) (4 * k) ∧ Below base w wr) (fun i _ => n - (intOf i).toNat)
  case atStart => exact ⟨0, Nat.zero_le _, rfl, ho, Below.refl _ _⟩
  case round =>
    obtain ⟨k, hk, rfl, hoct, hbel⟩ := hrel
    by_cases hlt : k < n
    · rcases hr.below hbel with h0 | ⟨b, off, rfl, hb', hc⟩
      · omega
      · have hcell := hc k hlt
        have hsz := hbel.size
        clear hc hr
        have hput := put_any base ob oo (4 * k) (f k) (wb f) wr (by omega) hb (by omega) hoct (fun i hi => by
          unfold wb; rw [show (4 * k + i) / 4 = k by omega, show (4 * k + i) % 4 = i by omega])
        have HP := Lib.hid hput
        clear hput
        go_wp2_with (go_at_call 109; refine (HP.out).mono ?_; rintro e w1 ⟨rfl, hb1, ho1⟩)
        go_roundw
        case rel => exact ⟨k + 1, by omega, by go_num, by simpa [Nat.mul_add] using ho1, hbel.trans hb1⟩
        case measure => simp [intOf]; omega
    · obtain rfl : k = n := by omega
      go_wp2
      go_end0
      exact ⟨rfl, hbel, hoct⟩

set_option maxHeartbeats 400000 in
theorem bytes_any (p : Option Addr) (n cap : Nat) (f : Nat → BitVec 32) (w : World) (hn : n ≤ 536870000)
    (hr : Reads w.heap.size w p n (fun i => .int .u32 (u (f i)))) :
    Calls Tryd.prog 73 #[.slice p n cap] w fun e w' => ∃ v, e = .returned v ∧ Below w.heap.size w w' ∧ w'.ownsRow w.heap.size 5 1 v (4 * n) (cellsOf (wb f) (4 * n)) := by
  obtain ⟨i0, hi, hz0, hz1, hz2⟩ := info_parts Tryd.infoB
  have hmk := run_make (P := Tryd.prog) w 27 5 i0 (.int .u8 0) Tryd.underlying27 hi hz0 .i64 .i64 0 (4 * n) (by omega) (by omega) (by rw [hz2]; omega) (by omega)
  have hsC : (madeCells (Value.int .u8 0).cells ((4 * (n : Int)).toNat * i0.size)).size = 4 * n := by rw [size_madeCells, hz1]; omega
  rw [show (4 * (n : Int)).toNat = 4 * n by omega, Int.toNat_zero] at hmk
  rw [show (4 * (n : Int)).toNat = 4 * n by omega] at hsC
  generalize madeCells (Value.int .u8 0).cells (4 * n * i0.size) = C at hmk hsC
  have hown := World.ownsRow_made (e := 5) (size := 1) w C (4 * n) (Nat.le_refl _) (by unfold maxLen; omega) (by omega)
  have hb0 : Below w.heap.size w (w.alloc (.cells C 5)) := (Below.refl _ _).alloc (Nat.le_refl _) _
  have HC := Lib.hid hsC
  clear hsC
  go_enter Tryd.func73, Tryd.ntmps73
  go_wp2_with fail
  refine (write_any w.heap.size (w.heap.size + 1) 0 p n cap f _ hn (by omega) (by simp) (hr.below (hb0.alloc (by simp) _)) ⟨_, World.cell?_alloc_at _ _ _ _ (by simp), World.frozen?_alloc_at _ _ _ _ (by simp), by simp [Value.ownBlock], hown.alloc _⟩).mono ?_
  rintro e w1 ⟨rfl, hb1, v, hv, hf, hne, hown1⟩
  go_wp2
  go_ret
  exact ⟨v, rfl, (hb0.alloc (by simp) _).trans hb1, hown1⟩

set_option maxHeartbeats 400000 in
theorem same_bytes (B : Nat) (p q : Option Addr) (n m c d : Nat) (f g : Nat → BitVec 8) (w : World) (hn : n ≤ 9223372036854775807) (hm : m ≤ 9223372036854775807)
    (hp : Reads B w p n (fun i => .int .u8 (ub (f i)))) (hq : Reads B w q m (fun i => .int .u8 (ub (g i)))) (he : n = m) (hs : ∀ i, i < n → f i = g i) :
    Calls Tryd.prog 65 #[.slice p n c, .slice q m d] w fun e w' => e = .returned (.bool true) ∧ Below w.heap.size w w' := by
  subst he
  go_enter Tryd.func65, Tryd.ntmps65
  go_wp2
  go_loopw [5] (fun i wr => ∃ k : Nat, k ≤ n ∧ i = .int .i64 k ∧ Below w.heap.size w wr ∧ Below B w wr) (fun i _ => n - (intOf i).toNat)
  case atStart => exact ⟨0, Nat.zero_le _, rfl, Below.refl _ _, Below.refl _ _⟩
  case round =>
    obtain ⟨k, hk, rfl, hb, hb2⟩ := hrel
    by_cases hlt : k < n
    · rcases hp.below hb2 with h0 | ⟨b, off, rfl, hb', hc⟩
      · omega
      rcases hq.below hb2 with h0 | ⟨b2, off2, rfl, hb2', hc2⟩
      · omega
      have hcell := hc k hlt
      have hcell2 : wr.cell? ⟨b2, off2 + k, none⟩ = some (.int .u8 (ub (f k))) := by rw [hs k hlt]; exact hc2 k hlt
      clear hc hc2 hs hp hq
      go_wp2
      go_region
      go_wp2
      go_roundw
      case rel => exact ⟨k + 1, by omega, by go_num, hb.drew, hb2.drew⟩
      case measure => simp [intOf]; omega
    · obtain rfl : k = n := by omega
      clear hs
      go_wp2
      go_ret
      exact ⟨rfl, hb⟩
end Go.Proofs.YthhjieagdkimfaaDoor
