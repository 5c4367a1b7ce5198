/-
  Merged: WordsOf, RefBytes, Places, BytesLaw, Open.
-/
import Derived.Test.YtejknkgbkkdaiaaGreatDoorG3
import Derived.StillTailTactics
import Derived.Deep.RegionHeld3
import Derived.Lib.LaidU8
import Derived.Deep.Matrix
import Derived.Handed

namespace Go.Proofs.YtejknkgbkkdaiaaGreatDoor
open Go.RowKit
set_option linter.unusedSimpArgs false
set_option linter.unusedVariables false

theorem shl8 (x : BitVec 32) : (u x * (256 : Int)) % (4294967296 : Int) = u (x <<< (8 : Nat)) := shl_mod x 8
theorem ub_u32 (b : BitVec 8) : IntKind.u32.wrap (ub b) = u (b.setWidth 32) := by
  unfold u ub; rw [IntKind.wrap_u32, BitVec.toNat_setWidth]; have := b.isLt; omega
attribute [go_sem] shl8 ub_u32
theorem own_mono {w : World} {base base' : Nat} {e : TypeId} {size : Nat} {v : Value} {n : Nat} {xs : List Value} (h : w.ownsRow base e size v n xs) (hb : base' ≤ base) : w.ownsRow base' e size v n xs := by
  refine ⟨h.1, ?_⟩
  rcases h.2 with h | ⟨g, cap, cur, h1, h2, h3⟩
  · exact .inl h
  · exact .inr ⟨g, cap, cur, h1, Nat.le_trans hb h2, h3⟩
/-- the word of the first of four bytes that stand behind 4 n others -/
def bwTo (g : Nat → BitVec 8) (n : Nat) : Nat → BitVec 32
  | 0 => 0#32
  | i + 1 => bwTo g n i <<< 8 ||| (g (4 * n + i)).setWidth 32
def bw (g : Nat → BitVec 8) (n : Nat) : BitVec 32 := bwTo g n 4

set_option maxHeartbeats 400000 in
theorem word_any (B ob oo n c k : Nat) (p : Option Addr) (g : Nat → BitVec 8) (w : World) (hn : n ≤ 9223372036854775807) (hk4 : 4 * k + 4 ≤ n) (ho : w.cell? ⟨ob, oo, none⟩ = some (.slice p n c)) (hr : Reads B w p n (fun i => .int .u8 (ub (g i)))) :
    Calls Tryz.prog 115 #[.pointer (some ⟨ob, oo, none⟩), .int .i64 (k : Int)] w fun e w' => e = .returned (.int .u32 (u (bw g k))) ∧ w = w' := by
  rcases hr with h0 | ⟨b, off, rfl, hb, hc⟩
  · omega
  have HC := Lib.hid hc
  clear hc
  go_enter Tryz.func115, Tryz.ntmps115
  go_wp2
  go_loop [5, 7] (fun t i => ∃ m : Nat, m ≤ 4 ∧ i = .int .i64 m ∧ t = .int .u32 (u (bwTo g k m))) (fun _ i => 4 - (intOf i).toNat)
  case atStart => exact ⟨0, Nat.zero_le _, rfl, rfl⟩
  case round =>
    obtain ⟨m, hm, rfl, rfl⟩ := hrel
    by_cases hlt : m < 4
    · have hcell : w.cell? ⟨b, off + (4 * k + m), none⟩ = some (.int .u8 (ub (g (4 * k + m)))) := HC.out (4 * k + m) (by omega)
      go_wp2
      go_round
      case rel => exact ⟨m + 1, by omega, by go_num, rfl⟩
      case measure => simp [intOf]; omega
    · obtain rfl : m = 4 := by omega
      go_wp2
      go_ret
      exact ⟨rfl, rfl⟩

/-- a row of words of which the first k have been put -/
def part (f : Nat → BitVec 32) (k i : Nat) : Value := .int .u32 (if i < k then u (f i) else 0)
theorem part_step (f : Nat → BitVec 32) (n k : Nat) (hk : k < n) : ((List.range n).map (part f k)).set k (.int .u32 (u (f k))) = (List.range n).map (part f (k + 1)) := by
  apply List.ext_getElem?
  intro i
  rw [List.getElem?_set]
  by_cases e : k = i
  · subst e; simp [hk, part]
  · rw [if_neg e]
    by_cases hi : i < n
    · simp [hi, part, show (i < k + 1 ↔ i < k) by omega]
    · simp [hi]
theorem part_all (f : Nat → BitVec 32) (n : Nat) : (List.range n).map (part f n) = (List.range n).map (fun i => Value.int .u32 (u (f i))) :=
  List.map_congr_left fun i hi => by unfold part; rw [if_pos (List.mem_range.1 hi)]
theorem part_none (f : Nat → BitVec 32) (n : Nat) : (madeCells #[Value.int .u32 0] n).toList = (List.range n).map (part f 0) := by
  rw [toList_madeCells_one]
  apply List.ext_getElem?
  intro i
  by_cases hi : i < n <;> simp [hi, part]
theorem infoW : (Tryz.prog.info? 96).map (fun i => (i.zero, i.size, i.bytes)) = some (some (.int .u32 0), 1, 4) := by kernel_rfl

set_option maxHeartbeats 400000 in
theorem count_any (ob oo q c : Nat) (p : Option Addr) (w : World) (hq : q ≤ 1073741823) (ho : w.cell? ⟨ob, oo, none⟩ = some (.slice p (4 * q) c)) :
    Calls Tryz.prog 114 #[.pointer (some ⟨ob, oo, none⟩)] w fun e w' => e = .returned (.int .i64 (q : Int)) ∧ w = w' := by
  have hd : 4 * (q : Int) / 4 = (q : Int) := by omega
  go_enter Tryz.func114, Tryz.ntmps114
  go_wp2
  go_ret
  exact ⟨rfl, rfl⟩

set_option maxHeartbeats 1000000 in
set_option maxRecDepth 100000 in
theorem read_any (B ob oo q c : Nat) (p : Option Addr) (g : Nat → BitVec 8) (w : World) (hn : q ≤ 1073741823) (hob : ob < w.heap.size) (ho : w.cell? ⟨ob, oo, none⟩ = some (.slice p (4 * q) c)) (hB : B ≤ w.heap.size) (hr : Reads B w p (4 * q) (fun i => .int .u8 (ub (g i)))) :
    Calls Tryz.prog 110 #[.pointer (some ⟨ob, oo, none⟩)] w fun e w' => ∃ v, e = .returned v ∧ Below w.heap.size w w' ∧ w'.ownsRow w.heap.size 96 1 v q ((List.range q).map (fun i => .int .u32 (u (bw g i)))) := by
  obtain ⟨i0, hi, hz0, hz1, hz2⟩ := info_parts infoW
  obtain ⟨w1, hmk, hown, hgr⟩ := run_make_full (P := Tryz.prog) w w.heap.size 93 96 i0 (.int .u32 0) 1 Tryz.underlying93 hi hz0 hz1 .i64 .i64 q (by rw [hz2]; omega) (by unfold maxLen; omega) (Nat.le_refl _)
  have hb0 : Below w.heap.size w w1 := (Below.refl _ _).grown hgr (Nat.le_refl _) (fun k e => by cases e)
  have hown1 : w1.ownsRow w.heap.size 96 1 (.slice (some ⟨w.heap.size, 0, none⟩) q q) q ((List.range q).map (part (bw g) 0)) := by
    rw [← part_none]; simpa [Value.cells] using hown
  clear hown hgr
  have HO := Lib.hid ho
  have HR := Lib.hid hr
  clear hr ho
  go_enter Tryz.func110, Tryz.ntmps110
  go_wp2_with (go_at_call 114; refine (count_any ob oo q c p _ hn HO.out).mono ?_; rintro e w' ⟨rfl, rfl⟩)
  go_loopw [12] (fun i wr => ∃ k : Nat, k ≤ q ∧ i = .int .i64 k ∧ wr.ownsRow w.heap.size 96 1 (.slice (some ⟨w.heap.size, 0, none⟩) q q) q ((List.range q).map (part (bw g) k)) ∧ Below w.heap.size w wr) (fun i _ => q - (intOf i).toNat)
  case atStart => exact ⟨0, Nat.zero_le _, rfl, hown1, hb0⟩
  case round =>
    obtain ⟨k, hk, rfl, hown, hbel⟩ := hrel
    clear hown1 hb0 hmk
    have hsz := hbel.size
    by_cases hlt : k < q
    · have ho2 := (hbel.cell (p := ⟨ob, oo, none⟩) hob).trans HO.out
      have hr2 := HR.out.below (hbel.mono hB)
      have hcell : wr.cell? ⟨w.heap.size, k, none⟩ = some (part (bw g) k k) := by
        rw [hown.cellAt k (by omega)]; simp [hlt]
      have hfr := hown.frozenAt k
      have hst := hown.stored k (.int .u32 (u (bw g k)))
      rw [part_step _ _ _ hlt] at hst
      have hb2 : Below w.heap.size w (wr.setCell ⟨w.heap.size, k, none⟩ (.int .u32 (u (bw g k)))) := hbel.setCell (Nat.le_refl _) _
      have HS := Lib.hid hst.1
      have HB2 := Lib.hid hb2
      have HW := Lib.hid (word_any B ob oo (4 * q) c k p g wr (by omega) (by omega) ho2 hr2)
      clear hst hb2 hown ho2 hr2 hbel
      go_wp2_with (go_at_call 115; refine (HW.out).mono ?_; rintro e w' ⟨rfl, rfl⟩)
      go_roundw
      case rel => exact ⟨k + 1, by omega, by go_num, HS.out, HB2.out⟩
      case measure => simp [intOf]; omega
    · obtain rfl : k = q := by omega
      rw [part_all] at hown
      go_wp2
      go_ret
      exact ⟨_, rfl, hbel, hown⟩

set_option maxHeartbeats 400000 in
theorem whole_any (ob oo n c : Nat) (p : Option Addr) (b : Bool) (w : World) (hn : n ≤ 9223372036854775807) (hb : ((n : Int) % 4 == 0) = b) (ho : w.cell? ⟨ob, oo, none⟩ = some (.slice p n c)) :
    Calls Tryz.prog 109 #[.pointer (some ⟨ob, oo, none⟩)] w fun e w' => e = .returned (.bool b) ∧ w = w' := by
  go_enter Tryz.func109, Tryz.ntmps109
  go_wp2
  go_ret
  exact ⟨rfl, rfl⟩

set_option maxHeartbeats 400000 in
theorem words_no (n c : Nat) (p : Option Addr) (w : World) (hn : n ≤ 9223372036854775807) (h4 : n % 4 ≠ 0) :
    Calls Tryz.prog 103 #[.slice p n c] w fun e w' => e = .returned (.tuple #[.slice none 0 0, .int .i64 4]) ∧ Below w.heap.size w w' := by
  have hd : ((n : Int) % 4 == 0) = false := by simp; omega
  have HD := Lib.hid hd
  clear hd
  go_enter Tryz.func103, Tryz.ntmps103
  go_wp2_with (go_at_call 109; refine (whole_any _ 0 n c p false _ hn HD.out (by go_cell)).mono ?_; rintro e w' ⟨rfl, rfl⟩)
  go_ret2
  exact ⟨rfl, (Below.refl _ _).alloc (Nat.le_refl _) _⟩
set_option maxHeartbeats 400000 in
theorem words_yes (B q c : Nat) (p : Option Addr) (g : Nat → BitVec 8) (w : World) (hn : q ≤ 1073741823) (hB : B ≤ w.heap.size) (hr : Reads B w p (4 * q) (fun i => .int .u8 (ub (g i)))) :
    Calls Tryz.prog 103 #[.slice p (4 * q) c] w fun e w' => ∃ v, e = .returned (.tuple #[v, .int .i64 0]) ∧ Below w.heap.size w w' ∧ w'.ownsRow w.heap.size 96 1 v q ((List.range q).map (fun i => .int .u32 (u (bw g i)))) := by
  have hd : (((4 * q : Nat) : Int) % 4 == 0) = true := by simp
  have HD := Lib.hid hd
  have hr2 := hr.below (((Below.refl _ w).alloc hB (.cells #[.slice p (4 * q) c] 137)))
  have HR := Lib.hid hr2
  clear hd hr hr2
  go_enter Tryz.func103, Tryz.ntmps103
  go_wp2_with (first | (go_at_call 109; refine (whole_any _ 0 (4 * q) c p true _ (by omega) HD.out (by go_cell)).mono ?_; rintro e w' ⟨rfl, rfl⟩) | (go_at_call 110; refine (read_any B _ 0 q c p g _ hn (by simp) (by go_cell) (by simp; omega) HR.out).mono ?_; rintro e w1 ⟨v, rfl, hb1, hown⟩))
  go_ret2
  exact ⟨v, rfl, ((Below.refl _ _).alloc (Nat.le_refl _) _).trans (hb1.mono (by simp)), own_mono hown (by simp)⟩
end Go.Proofs.YtejknkgbkkdaiaaGreatDoor

namespace Go.Proofs.YtejknkgbkkdaiaaGreatDoor
open Go.RowKit
set_option linter.unusedSimpArgs false
set_option linter.unusedVariables false

theorem u_tmod256 (x : BitVec 32) : (u x).tmod 256 = u x % 256 := Int.tmod_eq_emod_of_nonneg (u_lo x)
theorem u_mod256 (x : BitVec 32) : IntKind.u8.wrap (u x % 256) = ub (x.setWidth 8) := by
  unfold u ub; rw [IntKind.wrap_u8, BitVec.toNat_setWidth]; omega
theorem wb_at (f : Nat → BitVec 32) (k m : Nat) (hm : m < 4) : wb f (4 * k + m) = (f k >>> (24 - 8 * m)).setWidth 8 := by
  unfold wb; rw [show (4 * k + m) / 4 = k by omega, show (4 * k + m) % 4 = m by omega]

set_option maxHeartbeats 1000000 in
set_option maxRecDepth 100000 in
theorem ref_bytes (B : Nat) (p : Option Addr) (n cap : Nat) (f : Nat → BitVec 32) (w : World) (hn : n ≤ 536870000) (hB : B ≤ w.heap.size) (hr : Reads B w p n (fun i => .int .u32 (u (f i)))) :
    Calls Tryz.prog 67 #[.slice p n cap] w fun e w' => ∃ v, e = .returned v ∧ Below w.heap.size w w' ∧ w'.ownsRow w.heap.size 5 1 v (4 * n) (cellsOf (wb f) (4 * n)) := by
  obtain ⟨i0, hi, hz0, hz1, hz2⟩ := info_parts Tryz.infoB
  have HR := Lib.hid hr
  clear hr
  go_enter Tryz.func67, Tryz.ntmps67
  go_wp2
  go_loopw [3, 4] (fun v i wr => ∃ k : Nat, k ≤ n ∧ i = .int .i64 k ∧ wr.ownsRow w.heap.size 5 1 v (4 * k) (cellsOf (wb f) (4 * k)) ∧ Below w.heap.size w wr) (fun _ i _ => n - (intOf i).toNat)
  case atStart => exact ⟨0, Nat.zero_le _, rfl, World.ownsRow_nil _ _ _ _, Below.refl _ _⟩
  case round =>
    obtain ⟨k, hk, rfl, hown, hbel⟩ := hrel
    by_cases hlt : k < n
    · go_wp2
      obtain ⟨wo, hwo⟩ : ∃ wo : World, wo = wr := ⟨_, rfl⟩
      subst hwo
      go_loopw [3, 5] (fun v i wr => ∃ m : Nat, m ≤ 4 ∧ i = .int .i64 (3 - m) ∧ wr.ownsRow w.heap.size 5 1 v (4 * k + m) (cellsOf (wb f) (4 * k + m)) ∧ Below w.heap.size w wr) (fun _ i _ => (intOf i + 1).toNat)
      case atStart => exact ⟨0, Nat.zero_le _, by go_num, hown, hbel⟩
      case round =>
        clear hown hbel
        obtain ⟨m, hm, rfl, hown, hbel⟩ := hrel
        have hsz := hbel.size
        by_cases hm4 : m < 4
        · rcases HR.out.below (hbel.mono hB) with h0 | ⟨b, off, rfl, hb, hc⟩
          · omega
          have hcell := hc k hlt
          clear hc
          have hbyte : (u (f k >>> (8 * (3 - m)))).tmod 256 % 256 = ub (wb f (4 * k + m)) := by
            rw [u_tmod256, wb_at f k m hm4, show 8 * (3 - m) = 24 - 8 * m by omega, ← u_mod256, IntKind.wrap_u8]
          have HBY := Lib.hid hbyte
          clear hbyte
          have hm1 : 4 * k + m + 1 ≤ maxLen := by unfold maxLen; omega
          go_wp2_with (at_builtin; refine wpList_append_lies _ rfl (.tmp 16) (.tmp 26) 22 rfl w.heap.size 5 i0 (.int .u8 0) 1 1 Tryz.underlying22 hi hz0 hz1 hz2 rfl (by decide) _ (4 * k + m) (cellsOf (wb f) (4 * k + m)) rfl (hown.alloc _) ⟨wr.heap.size, 0, none⟩ 1 1 [.int .u8 ((u (f k >>> (8 * (3 - m)))).tmod 256 % 256)] rfl rfl (World.news_of_block (heap_alloc_new _ _)) ?c2 (by decide) hm1 (by omega) (by simp; omega) (wr.heap.size + 1) (by simp) ?next)
          case c2 => first | rfl | (intro y hy; simp at hy; subst hy; rfl)
          case next =>
            intro g1 cap1 w1 hown1 hgrow1 hat1 hlt1
            have hbel1 : Below w.heap.size w w1 := (hbel.alloc hsz _).grown hgrow1 (by simp; omega) (fun b e => (hown.lt b e).1)
            rw [HBY.out, cellsOf_succ] at hown1
            clear hgrow1 hown hbel
            go_wp2
            go_roundw
            case rel => exact ⟨m + 1, by omega, by go_num, hown1, hbel1⟩
            case measure => simp [intOf]; omega
        · obtain rfl : m = 4 := by omega
          go_wp2
          go_roundw
          case rel => exact ⟨k + 1, by omega, by go_num, hown, hbel⟩
          case measure => simp [intOf]; omega
    · obtain rfl : k = n := by omega
      go_wp2
      go_ret
      exact ⟨_, rfl, hbel, hown⟩

/-- the document's word: its four bytes, each at its weight -/
def dw (g : Nat → BitVec 8) (n : Nat) : BitVec 32 := (g (4 * n)).setWidth 32 * 16777216#32 + (g (4 * n + 1)).setWidth 32 * 65536#32 + (g (4 * n + 2)).setWidth 32 * 256#32 + (g (4 * n + 3)).setWidth 32
theorem mul_u (x : BitVec 32) (c : Nat) (hc : c < 4294967296) : IntKind.u32.wrap (u x * (c : Int)) = u (x * BitVec.ofNat 32 c) := by
  unfold u
  have h : c % 2 ^ 32 = c := Nat.mod_eq_of_lt (by omega)
  rw [IntKind.wrap_u32, BitVec.toNat_mul, BitVec.toNat_ofNat, h]
  rw [Int.natCast_emod, Int.natCast_mul]; rfl
theorem mul_24 (x : BitVec 32) : IntKind.u32.wrap (u x * 16777216) = u (x * 16777216#32) := mul_u x 16777216 (by omega)
theorem mul_16 (x : BitVec 32) : IntKind.u32.wrap (u x * 65536) = u (x * 65536#32) := mul_u x 65536 (by omega)
theorem mul_8 (x : BitVec 32) : IntKind.u32.wrap (u x * 256) = u (x * 256#32) := mul_u x 256 (by omega)
attribute [go_sem] mul_24 mul_16 mul_8

set_option maxHeartbeats 400000 in
theorem ref_words_no (n c : Nat) (p : Option Addr) (w : World) (hn : n ≤ 9223372036854775807) (h4 : n % 4 ≠ 0) :
    Calls Tryz.prog 85 #[.slice p n c] w fun e w' => e = .returned (.tuple #[.slice none 0 0, .int .i64 4]) ∧ w = w' := by
  have hd : ((n : Int) % 4 != 0) = true := by simp; omega
  go_enter Tryz.func85, Tryz.ntmps85
  go_wp2
  go_ret2
  exact ⟨rfl, rfl⟩
set_option maxHeartbeats 1000000 in
set_option maxRecDepth 100000 in
theorem ref_words (B q c : Nat) (p : Option Addr) (g : Nat → BitVec 8) (w : World) (hn : q ≤ 1073741823) (hB : B ≤ w.heap.size) (hr : Reads B w p (4 * q) (fun i => .int .u8 (ub (g i)))) :
    Calls Tryz.prog 85 #[.slice p (4 * q) c] w fun e w' => ∃ v, e = .returned (.tuple #[v, .int .i64 0]) ∧ Below w.heap.size w w' ∧ w'.ownsRow w.heap.size 96 1 v q ((List.range q).map (fun i => .int .u32 (u (dw g i)))) := by
  obtain ⟨i0, hi, hz0, hz1, hz2⟩ := info_parts infoW
  have HR := Lib.hid hr
  clear hr
  have hd : (4 * (q : Int) % 4 != 0) = false := by simp
  go_enter Tryz.func85, Tryz.ntmps85
  go_wp2
  go_loopw [4, 5] (fun v i wr => ∃ k : Nat, k ≤ q ∧ i = .int .i64 (4 * (k : Int)) ∧ wr.ownsRow w.heap.size 96 1 v k ((List.range k).map (fun i => .int .u32 (u (dw g i)))) ∧ Below w.heap.size w wr) (fun _ i _ => (4 * (q : Int) - intOf i).toNat)
  case atStart => exact ⟨0, Nat.zero_le _, rfl, World.ownsRow_nil _ _ _ _, Below.refl _ _⟩
  case round =>
    obtain ⟨k, hk, rfl, hown, hbel⟩ := hrel
    have hsz := hbel.size
    by_cases hlt : k < q
    · rcases HR.out.below (hbel.mono hB) with h0 | ⟨b, off, rfl, hb, hc⟩
      · omega
      have c0 : wr.cell? ⟨b, off + 4 * k, none⟩ = some (.int .u8 (ub (g (4 * k)))) := hc (4 * k) (by omega)
      have c1 : wr.cell? ⟨b, off + (4 * k + 1), none⟩ = some (.int .u8 (ub (g (4 * k + 1)))) := hc (4 * k + 1) (by omega)
      have c2 : wr.cell? ⟨b, off + (4 * k + 2), none⟩ = some (.int .u8 (ub (g (4 * k + 2)))) := hc (4 * k + 2) (by omega)
      have c3 : wr.cell? ⟨b, off + (4 * k + 3), none⟩ = some (.int .u8 (ub (g (4 * k + 3)))) := hc (4 * k + 3) (by omega)
      clear hc
      have s1 : IntKind.i64.wrap (4 * (k : Int) + 1) = 4 * (k : Int) + 1 := IntWalk.i64_in _ (by omega)
      have s2 : IntKind.i64.wrap (4 * (k : Int) + 2) = 4 * (k : Int) + 2 := IntWalk.i64_in _ (by omega)
      have s3 : IntKind.i64.wrap (4 * (k : Int) + 3) = 4 * (k : Int) + 3 := IntWalk.i64_in _ (by omega)
      have hm1 : k + 1 ≤ maxLen := by unfold maxLen; omega
      have i0' : (0 : Int) ≤ 4 * (k : Int) := by omega
      have i1' : (0 : Int) ≤ 4 * (k : Int) + 1 := by omega
      have i2' : (0 : Int) ≤ 4 * (k : Int) + 2 := by omega
      have i3' : (0 : Int) ≤ 4 * (k : Int) + 3 := by omega
      have t1 : (4 * (k : Int) + 1).toNat = 4 * k + 1 := by omega
      have t2 : (4 * (k : Int) + 2).toNat = 4 * k + 2 := by omega
      have t3 : (4 * (k : Int) + 3).toNat = 4 * k + 3 := by omega
      have t0 : (4 * (k : Int)).toNat = 4 * k := by omega
      have l0 : 4 * (k : Int) < 4 * (q : Int) := by omega
      have l1 : 4 * (k : Int) + 1 < 4 * (q : Int) := by omega
      have l2 : 4 * (k : Int) + 2 < 4 * (q : Int) := by omega
      have l3 : 4 * (k : Int) + 3 < 4 * (q : Int) := by omega
      go_wp2
      have ak : u4.ownBlock ≠ some b := fun e => by have := (hown.lt b e).1; omega
      have hbs : b < wr.heap.size := by omega
      go_region_held3 (fun w' => w'.cell? ⟨b, off + 4 * k, none⟩ = some (.int .u8 (ub (g (4 * k)))) ∧ w'.cell? ⟨b, off + (4 * k + 1), none⟩ = some (.int .u8 (ub (g (4 * k + 1)))) ∧
          w'.cell? ⟨b, off + (4 * k + 2), none⟩ = some (.int .u8 (ub (g (4 * k + 2)))) ∧ w'.cell? ⟨b, off + (4 * k + 3), none⟩ = some (.int .u8 (ub (g (4 * k + 3)))))
        (first
          | go_keep
          | (go_split_ands
             refine ⟨?_, ?_, ?_, ?_⟩
             · (rw [hgrow1.cell_far _ (by simp; omega) (Ne.symm ak)]; assumption)
             · (rw [hgrow1.cell_far _ (by simp; omega) (Ne.symm ak)]; assumption)
             · (rw [hgrow1.cell_far _ (by simp; omega) (Ne.symm ak)]; assumption)
             · (rw [hgrow1.cell_far _ (by simp; omega) (Ne.symm ak)]; assumption)))
        ((refine step_append_lies _ (by rfl) _ _ _ (by rfl) w.heap.size 96 i0 (.int .u32 0) 1 4 Tryz.underlying93 hi hz0 hz1 hz2 rfl (by decide) u4 k ((List.range k).map (fun i => .int .u32 (u (dw g i)))) (by rfl) ((hown.alloc _).drew) ⟨wr.heap.size, 0, none⟩ 1 1 [.int .u32 (u (BitVec.setWidth 32 (g (4 * k)) * 16777216#32 + BitVec.setWidth 32 (g (4 * k + 1)) * 65536#32 + BitVec.setWidth 32 (g (4 * k + 2)) * 256#32 + BitVec.setWidth 32 (g (4 * k + 3))))] (by rfl) (by rfl) (World.news_of_block (heap_alloc_new _ _)) (by intro y hy; simp at hy; subst hy; rfl) (by decide) hm1 (by omega) (by simp; omega) (wr.heap.size + 1) (by simp) ?_; intro g1 cap1 w1 hown1 hgrow1 hat1 hlt1))
      all_goals
        have hbel1 : Below w.heap.size w w1 := ((hbel.alloc hsz _).drew).grown hgrow1 (by simp; omega) (fun b e => (hown.lt b e).1)
        have hown2 : w1.ownsRow w.heap.size 96 1 (.slice (some ⟨g1, 0, none⟩) (k + 1) cap1) (k + 1) ((List.range (k + 1)).map (fun i => .int .u32 (u (dw g i)))) := by
          rw [List.range_succ, List.map_append]; exact hown1
        clear hgrow1 hown hbel hown1
        go_wp2
        go_roundw
        case rel => exact ⟨k + 1, by omega, by go_num, hown2, hbel1⟩
        case measure => simp [intOf]; omega
    · obtain rfl : k = q := by omega
      go_wp2
      go_ret2
      exact ⟨_, rfl, hbel, hown⟩
end Go.Proofs.YtejknkgbkkdaiaaGreatDoor

namespace Go.Proofs.YtejknkgbkkdaiaaGreatDoor
open Go.RowKit Go.ChangeShapes Go.WideShapes
set_option linter.unusedSimpArgs false
set_option linter.unusedVariables false
set_option maxRecDepth 20000

theorem choose_pl (x a b : BitVec 32) : pl (fun k => x.getLsbD k && a.getLsbD k || !x.getLsbD k && b.getLsbD k) 32 = x &&& a ||| ~~~x &&& b :=
  pl_eq _ _ fun j hj => by
    simp only [BitVec.getLsbD_or, BitVec.getLsbD_and, BitVec.getLsbD_not, hj, decide_true, Bool.true_and]
theorem most_pl (n : Nat) (f : Nat → BitVec 32) : pl (fun c => decide (n < 2 * onesTo c f n)) 32 = mostTo n f 32 :=
  pl_eq _ _ fun j hj => by rw [most_bit n f 32 j (by omega) hj]; simp [hj]

end Go.Proofs.YtejknkgbkkdaiaaGreatDoor

namespace Go.Proofs.YtejknkgbkkdaiaaGreatDoor
open Go.RowKit
set_option linter.unusedSimpArgs false
set_option linter.unusedVariables false

theorem push8 (x : BitVec 32) (b : BitVec 8) (hx : x.toNat < 16777216) : (x <<< 8 ||| b.setWidth 32).toNat = x.toNat * 256 + b.toNat := by
  have hb := b.isLt
  rw [BitVec.toNat_or, BitVec.toNat_shiftLeft, BitVec.toNat_setWidth, Nat.shiftLeft_eq, Nat.mod_eq_of_lt (by omega), Nat.mod_eq_of_lt (by omega), ← Nat.shiftLeft_eq, ← Nat.shiftLeft_add_eq_or_of_lt hb, Nat.shiftLeft_eq]
theorem bw_nat (g : Nat → BitVec 8) (n : Nat) : (bw g n).toNat = (((g (4 * n)).toNat * 256 + (g (4 * n + 1)).toNat) * 256 + (g (4 * n + 2)).toNat) * 256 + (g (4 * n + 3)).toNat := by
  have h0 := (g (4 * n)).isLt
  have h1 := (g (4 * n + 1)).isLt
  have h2 := (g (4 * n + 2)).isLt
  have h3 := (g (4 * n + 3)).isLt
  have e1 : (bwTo g n 1).toNat = (g (4 * n)).toNat := by
    simp only [bwTo]; rw [push8 _ _ (by decide)]; simp
  have e2 : (bwTo g n 2).toNat = (g (4 * n)).toNat * 256 + (g (4 * n + 1)).toNat := by
    show (bwTo g n 1 <<< 8 ||| _).toNat = _
    rw [push8 _ _ (by omega), e1]
  have e3 : (bwTo g n 3).toNat = ((g (4 * n)).toNat * 256 + (g (4 * n + 1)).toNat) * 256 + (g (4 * n + 2)).toNat := by
    show (bwTo g n 2 <<< 8 ||| _).toNat = _
    rw [push8 _ _ (by omega), e2]
  show (bwTo g n 3 <<< 8 ||| _).toNat = _
  rw [push8 _ _ (by omega), e3]
theorem mul_nat (b : BitVec 8) (c : Nat) (hc : c ≤ 16777216) : (b.setWidth 32 * BitVec.ofNat 32 c).toNat = b.toNat * c := by
  have hb := b.isLt
  have h1 : b.toNat * c ≤ 255 * 16777216 := Nat.mul_le_mul (by omega) hc
  rw [BitVec.toNat_mul, BitVec.toNat_setWidth, BitVec.toNat_ofNat, Nat.mod_eq_of_lt (show b.toNat < 2 ^ 32 by omega), Nat.mod_eq_of_lt (show c < 2 ^ 32 by omega), Nat.mod_eq_of_lt (by omega)]
theorem add_nat (x y : BitVec 32) (m n : Nat) (hx : x.toNat = m) (hy : y.toNat = n) (h : m + n < 4294967296) : (x + y).toNat = m + n := by
  rw [BitVec.toNat_add, hx, hy, Nat.mod_eq_of_lt h]
theorem dw_bw (g : Nat → BitVec 8) (n : Nat) : dw g n = bw g n := by
  apply BitVec.eq_of_toNat_eq
  rw [bw_nat]
  have h0 := (g (4 * n)).isLt
  have h1 := (g (4 * n + 1)).isLt
  have h2 := (g (4 * n + 2)).isLt
  have h3 := (g (4 * n + 3)).isLt
  have p0 := mul_nat (g (4 * n)) 16777216 (by omega)
  have p1 := mul_nat (g (4 * n + 1)) 65536 (by omega)
  have p2 := mul_nat (g (4 * n + 2)) 256 (by omega)
  have p3 : ((g (4 * n + 3)).setWidth 32).toNat = (g (4 * n + 3)).toNat := by rw [BitVec.toNat_setWidth, Nat.mod_eq_of_lt (by omega)]
  have q1 := add_nat _ _ _ _ p0 p1 (by omega)
  have q2 := add_nat _ _ _ _ q1 p2 (by omega)
  have q3 := add_nat _ _ _ _ q2 p3 (by omega)
  unfold dw
  rw [q3]
  omega
theorem wb_nat (f : Nat → BitVec 32) (k m : Nat) (hm : m < 4) : (wb f (4 * k + m)).toNat = (f k).toNat / 2 ^ (24 - 8 * m) % 256 := by
  rw [wb_at f k m hm, BitVec.toNat_setWidth, BitVec.toNat_ushiftRight, Nat.shiftRight_eq_div_pow]
theorem bw_wb (f : Nat → BitVec 32) (k : Nat) : bw (wb f) k = f k := by
  apply BitVec.eq_of_toNat_eq
  have h := (f k).isLt
  have e0 := wb_nat f k 0 (by omega)
  have e1 := wb_nat f k 1 (by omega)
  have e2 := wb_nat f k 2 (by omega)
  have e3 := wb_nat f k 3 (by omega)
  rw [bw_nat, e1, e2, e3, show 4 * k = 4 * k + 0 from rfl, e0]
  omega
theorem wb_bw (g : Nat → BitVec 8) (j : Nat) : wb (bw g) j = g j := by
  apply BitVec.eq_of_toNat_eq
  obtain ⟨k, m, hm, rfl⟩ : ∃ k m, m < 4 ∧ j = 4 * k + m := ⟨j / 4, j % 4, by omega, by omega⟩
  rw [wb_nat _ _ _ hm, bw_nat]
  have h0 := (g (4 * k)).isLt
  have h1 := (g (4 * k + 1)).isLt
  have h2 := (g (4 * k + 2)).isLt
  have h3 := (g (4 * k + 3)).isLt
  match m, hm with
  | 0, _ => show _ / 16777216 % 256 = (g (4 * k)).toNat; omega
  | 1, _ => show _ / 65536 % 256 = _; omega
  | 2, _ => show _ / 256 % 256 = _; omega
  | 3, _ => show _ / 1 % 256 = _; omega

theorem own_below {w w' : World} {base : Nat} {e : TypeId} {size : Nat} {v : Value} {n : Nat} {xs : List Value} (h : w.ownsRow base e size v n xs) (hb : Below w.heap.size w w') : w'.ownsRow base e size v n xs :=
  h.kept (row := none) ⟨hb.os, hb.tape, hb.output, hb.size, fun k hk _ => hb.block k hk⟩ (by cases e : v.ownBlock <;> simp)
/-- bytes that came in -/
theorem row_bytes {w : World} {a : Option Addr} {len : Nat} {h : Nat → Int} (hr : Reads w.heap.size w a len (fun i => .int .u8 (h i))) (hw : ∀ i, i < len → (Lit.int .u8 (h i)).wf = true) :
    ∃ f : Nat → BitVec 8, (∀ i, i < len → h i = ub (f i)) ∧ Reads w.heap.size w a len (fun i => .int .u8 (ub (f i))) := by
  have hf : ∀ i, i < len → h i = ub (BitVec.ofNat 8 (h i).toNat) := fun i hi => by
    have := hw i hi
    simp [Lit.wf, IntKind.min, IntKind.max, IntKind.signed, IntKind.bits] at this
    unfold ub; rw [BitVec.toNat_ofNat]; omega
  exact ⟨fun i => BitVec.ofNat 8 (h i).toNat, hf, hr.mono' (Nat.le_refl _) fun i hi => by rw [← hf i hi]⟩
/-- the words of bytes, or none where there is no whole number of them: what both Words answer -/
def WordsAre (w w' : World) (n : Nat) (g : Nat → BitVec 8) (e : Ending) : Prop :=
  ∃ v q x, e = .returned (.tuple #[v, .int .i64 x]) ∧ Below w.heap.size w w' ∧ w'.ownsRow w.heap.size 96 1 v q ((List.range q).map (fun i => .int .u32 (u (bw g i)))) ∧ ((n % 4 ≠ 0 ∧ q = 0 ∧ x = 4) ∨ (n = 4 * q ∧ x = 0))
theorem words_any (B n c : Nat) (p : Option Addr) (g : Nat → BitVec 8) (w : World) (hn : n ≤ 4294967292) (hB : B ≤ w.heap.size) (hr : Reads B w p n (fun i => .int .u8 (ub (g i)))) :
    Calls Tryz.prog 103 #[.slice p n c] w (fun e w' => WordsAre w w' n g e) := by
  by_cases h4 : n % 4 = 0
  · obtain ⟨q, rfl⟩ : ∃ q, n = 4 * q := ⟨n / 4, by omega⟩
    refine (words_yes B q c p g w (by omega) hB hr).mono ?_
    rintro e w' ⟨v, rfl, hb, hown⟩
    exact ⟨v, q, 0, rfl, hb, hown, .inr ⟨rfl, rfl⟩⟩
  · refine (words_no n c p w (by omega) h4).mono ?_
    rintro e w' ⟨rfl, hb⟩
    exact ⟨_, 0, 4, rfl, hb, World.ownsRow_nil _ _ _ _, .inl ⟨h4, rfl, rfl⟩⟩
theorem ref_words_any (B n c : Nat) (p : Option Addr) (g : Nat → BitVec 8) (w : World) (hn : n ≤ 4294967292) (hB : B ≤ w.heap.size) (hr : Reads B w p n (fun i => .int .u8 (ub (g i)))) :
    Calls Tryz.prog 85 #[.slice p n c] w (fun e w' => WordsAre w w' n g e) := by
  by_cases h4 : n % 4 = 0
  · obtain ⟨q, rfl⟩ : ∃ q, n = 4 * q := ⟨n / 4, by omega⟩
    refine (ref_words B q c p g w (by omega) hB hr).mono ?_
    rintro e w' ⟨v, rfl, hb, hown⟩
    simp only [dw_bw] at hown
    exact ⟨v, q, 0, rfl, hb, hown, .inr ⟨rfl, rfl⟩⟩
  · refine (ref_words_no n c p w (by omega) h4).mono ?_
    rintro e w' ⟨rfl, rfl⟩
    exact ⟨_, 0, 4, rfl, Below.refl _ _, World.ownsRow_nil _ _ _ _, .inl ⟨h4, rfl, rfl⟩⟩

/-- what is made later lies in another block -/
theorem own_apart {w w' : World} {base e1 e2 s1 s2 : Nat} {v v' : Value} {n n' : Nat} {xs xs' : List Value} (h : w.ownsRow base e1 s1 v n xs) (h' : w'.ownsRow w.heap.size e2 s2 v' n' xs') : v'.ownBlock = none ∨ v'.ownBlock ≠ v.ownBlock := by
  cases e : v'.ownBlock with
  | none => exact .inl rfl
  | some b =>
    right
    intro e'
    have h1 := (h'.lt b e).1
    have h2 := (h.lt b e'.symm).2
    omega

end Go.Proofs.YtejknkgbkkdaiaaGreatDoor

namespace Go.Proofs.YtejknkgbkkdaiaaGreatDoor
open Go.RowKit Go.ChangeShapes Go.WideShapes
set_option linter.unusedVariables false
set_option linter.unusedSimpArgs false

section
variable {H : Type} {enc : TypeId × Value → H} {w : World} {base : Nat}
theorem arr_ints {P : Program} {sp : Nat → Bool} {held : Bool} {t e : TypeId} {n : Nat} {k : IntKind} {fuel : Nat} {cs : List Value} {x : DataW H × List MemPlace} (ht : P.underlying t = some (.array n e)) (he : P.underlying e = some (.int k)) (hc : P.cellsOf e = 1)
    (h : DataW.trod enc P w base sp held fuel t cs = some x) (i : Nat) (hi : i < n) : ∃ z, cs[i]? = some (.int k z) ∧ (Lit.int k z).wf = true := by
  cases fuel with
  | zero => simp [DataW.trod] at h
  | succ fuel =>
    simp only [DataW.trod, ht] at h
    split at h
    · obtain ⟨xs, hm, hx⟩ := Option.map_eq_some_iff.1 h
      obtain ⟨b, hb, hf⟩ := Lib.mapM_at hm i i (by simp [hi])
      obtain ⟨z, hz, hx2, hw⟩ := DataW.trod_int he hf
      refine ⟨z, ?_, hw⟩
      rw [hc] at hz
      have := congrArg (·[0]?) hz
      simpa [List.getElem?_take, List.getElem?_drop] using this
    · cases h
/-- bytes of a number that fits -/
theorem u8_wf {z : Int} (h : (Lit.int .u8 z).wf = true) : z = ub (BitVec.ofNat 8 z.toNat) := by
  simp [Lit.wf, IntKind.min, IntKind.max, IntKind.signed, IntKind.bits] at h
  unfold ub; rw [BitVec.toNat_ofNat]; omega
theorem weights_all {P : Program} {e : TypeId} {l : List (DataW H)} {d : DataW H} (hd : d ∈ l) {x : Nat} (hx : x ∈ d.weights P e) : x ∈ DataW.weightsAll P e l := by
  induction l with
  | nil => cases hd
  | cons a r ih =>
    rw [DataW.weightsAll]
    rcases List.mem_cons.1 hd with rfl | h
    · exact List.mem_append_left _ hx
    · exact List.mem_append_right _ (ih h)
theorem slice_small {P : Program} {t e : TypeId} {xs ys : List (DataW H)} (ht : P.underlying t = some (.slice e)) (hz : ∀ x ∈ (DataW.slice xs ys).weights P t, x ≤ reachBytes) : (xs.length + ys.length) * P.bytesOf e ≤ reachBytes ∧ ∀ d ∈ xs, ∀ x ∈ d.weights P e, x ≤ reachBytes := by
  rw [DataW.weights, ht] at hz
  exact ⟨hz _ (List.mem_cons_self), fun d hd x hx => hz x (List.mem_cons_of_mem _ (List.mem_append_left _ (weights_all hd hx)))⟩
set_option maxRecDepth 100000 in
/-- a slice of bytes -/
theorem view_bytes {r : Reach} {b0 : Nat} {v : Value} {d : DataW H} {p : List MemPlace} (hv : Value.okWide Tryz.prog w r b0 22 v) (h : DataW.Trod enc Tryz.prog w base (fun _ => true) true 22 v d p) (hz : ∀ x ∈ d.weights Tryz.prog 22, x ≤ reachBytes) :
    ∃ (a : Option Addr) (len cap : Nat) (f : Nat → BitVec 8), v = .slice a len cap ∧ len ≤ cap ∧ cap ≤ 140737488351232 ∧ Reads w.heap.size w a len (fun i => .int .u8 (ub (f i))) ∧ (a = none → cap = 0) := by
  obtain ⟨a, len, cap, rfl⟩ := okWide_slice Tryz.underlying22 hv
  obtain ⟨fuel, hf⟩ := h
  rcases open_ints Tryz.underlying22 Tryz.underlying5 (by kernel_rfl) hf with ⟨hcs, _⟩ | ⟨x, l, c, zs, hcs, _, hl, hm, hlz, hx, hcell, hwz⟩
  · simp [Value.cells] at hcs
    obtain ⟨rfl, rfl, rfl⟩ := hcs
    exact ⟨none, 0, 0, fun _ => 0#8, rfl, Nat.le_refl _, by omega, .inl rfl, fun _ => rfl⟩
  · simp [Value.cells] at hcs
    obtain ⟨rfl, rfl, rfl⟩ := hcs
    obtain ⟨r1, _, _, r4⟩ := row_reads (k := .u8) (w := w) (a := some x) (len := len) (cap := cap) (zs := zs) (.inr ⟨x, rfl, hl, hm, by simpa using hlz, hcell, hwz⟩)
    obtain ⟨f, _, hr⟩ := row_bytes r1 r4
    simp only [if_true] at hlz
    have hd := (Prod.mk.inj hx).1
    rw [hd] at hz
    have hs := (slice_small Tryz.underlying22 hz).1
    rw [show Tryz.prog.bytesOf 5 = 1 by kernel_rfl] at hs
    simp only [lits, List.length_map, List.length_take, List.length_drop, reachBytes] at hs
    exact ⟨some x, len, cap, f, rfl, hl, by omega, hr, (fun e => by cases e)⟩
set_option maxRecDepth 100000 in
/-- a slice of numbers -/
theorem view_ints {r : Reach} {b0 : Nat} {v : Value} {d : DataW H} {p : List MemPlace} (hv : Value.okWide Tryz.prog w r b0 46 v) (h : DataW.Trod enc Tryz.prog w base (fun _ => true) true 46 v d p) (hz : ∀ x ∈ d.weights Tryz.prog 46, x ≤ reachBytes) :
    ∃ (a : Option Addr) (len cap : Nat) (f : Nat → Int), v = .slice a len cap ∧ len ≤ cap ∧ cap ≤ 17592186043904 ∧ Reads w.heap.size w a len (fun i => .int .i64 (f i)) ∧ (a = none → cap = 0) ∧ ∀ i, i < len → -9223372036854775808 ≤ f i ∧ f i ≤ 9223372036854775807 := by
  obtain ⟨a, len, cap, rfl⟩ := okWide_slice Tryz.underlying46 hv
  obtain ⟨fuel, hf⟩ := h
  rcases open_ints Tryz.underlying46 Tryz.underlying3 (by kernel_rfl) hf with ⟨hcs, _⟩ | ⟨x, l, c, zs, hcs, _, hl, hm, hlz, hx, hcell, hwz⟩
  · simp [Value.cells] at hcs
    obtain ⟨rfl, rfl, rfl⟩ := hcs
    exact ⟨none, 0, 0, fun _ => 0, rfl, Nat.le_refl _, by omega, .inl rfl, fun _ => rfl, fun i hi => by omega⟩
  · simp [Value.cells] at hcs
    obtain ⟨rfl, rfl, rfl⟩ := hcs
    obtain ⟨r1, _, _, r4⟩ := row_reads (k := .i64) (w := w) (a := some x) (len := len) (cap := cap) (zs := zs) (.inr ⟨x, rfl, hl, hm, by simpa using hlz, hcell, hwz⟩)
    simp only [if_true] at hlz
    have hd := (Prod.mk.inj hx).1
    rw [hd] at hz
    have hs := (slice_small Tryz.underlying46 hz).1
    rw [show Tryz.prog.bytesOf 3 = 8 by kernel_rfl] at hs
    simp only [lits, List.length_map, List.length_take, List.length_drop, reachBytes] at hs
    exact ⟨some x, len, cap, _, rfl, hl, by omega, r1, (fun e => by cases e), fun i hi => i64_wf (r4 i hi)⟩
end
end Go.Proofs.YtejknkgbkkdaiaaGreatDoor
