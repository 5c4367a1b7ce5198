/-
  Contracts: the document's bytes of words, and words of bytes.
-/
import Derived.Test.YthhjieagdkimfaaDoorWordsOf
import Derived.Deep.RegionHeld3
namespace Go.Proofs.YthhjieagdkimfaaDoor
open Go.RowKit
set_option linter.unusedSimpArgs false
set_option linter.unusedVariables false

theorem u_tmod256 (x : BitVec 32) : (u x).tmod 256 = u x % 256 := Int.tmod_eq_emod_of_nonneg (u_lo x)
theorem u_mod256 (x : BitVec 32) : IntKind.u8.wrap (u x % 256) = ub (x.setWidth 8) := by
  unfold u ub; rw [IntKind.wrap_u8, BitVec.toNat_setWidth]; omega
theorem wb_at (f : Nat → BitVec 32) (k m : Nat) (hm : m < 4) : wb f (4 * k + m) = (f k >>> (24 - 8 * m)).setWidth 8 := by
  unfold wb; rw [show (4 * k + m) / 4 = k by omega, show (4 * k + m) % 4 = m by omega]

set_option maxHeartbeats 1000000 in
set_option maxRecDepth 100000 in
theorem ref_bytes (B : Nat) (p : Option Addr) (n cap : Nat) (f : Nat → BitVec 32) (w : World) (hn : n ≤ 536870000) (hB : B ≤ w.heap.size) (hr : Reads B w p n (fun i => .int .u32 (u (f i)))) :
    Calls Tryd.prog 53 #[.slice p n cap] w fun e w' => ∃ v, e = .returned v ∧ Below w.heap.size w w' ∧ w'.ownsRow w.heap.size 5 1 v (4 * n) (cellsOf (wb f) (4 * n)) := by
  obtain ⟨i0, hi, hz0, hz1, hz2⟩ := info_parts Tryd.infoB
  have HR := Lib.hid hr
  clear hr
  go_enter Tryd.func53, Tryd.ntmps53
  go_wp2
  go_loopw [3, 4] (fun v i wr => ∃ k : Nat, k ≤ n ∧ i = .int .i64 k ∧ wr.ownsRow w.heap.size 5 1 v (4 * k) (cellsOf (wb f) (4 * k)) ∧ Below w.heap.size w wr) (fun _ i _ => n - (intOf i).toNat)
  case atStart => exact ⟨0, Nat.zero_le _, rfl, World.ownsRow_nil _ _ _ _, Below.refl _ _⟩
  case round =>
    obtain ⟨k, hk, rfl, hown, hbel⟩ := hrel
    by_cases hlt : k < n
    · go_wp2
      obtain ⟨wo, hwo⟩ : ∃ wo : World, wo = wr := ⟨_, rfl⟩
      subst hwo
      go_loopw [3, 5] (fun v i wr => ∃ m : Nat, m ≤ 4 ∧ i = .int .i64 (3 - m) ∧ wr.ownsRow w.heap.size 5 1 v (4 * k + m) (cellsOf (wb f) (4 * k + m)) ∧ Below w.heap.size w wr) (fun _ i _ => (intOf i + 1).toNat)
      case atStart => exact ⟨0, Nat.zero_le _, by go_num, hown, hbel⟩
      case round =>
        clear hown hbel
        obtain ⟨m, hm, rfl, hown, hbel⟩ := hrel
        have hsz := hbel.size
        by_cases hm4 : m < 4
        · rcases HR.out.below (hbel.mono hB) with h0 | ⟨b, off, rfl, hb, hc⟩
          · omega
          have hcell := hc k hlt
          clear hc
          have hbyte : (u (f k >>> (8 * (3 - m)))).tmod 256 % 256 = ub (wb f (4 * k + m)) := by
            rw [u_tmod256, wb_at f k m hm4, show 8 * (3 - m) = 24 - 8 * m by omega, ← u_mod256, IntKind.wrap_u8]
          have HBY := Lib.hid hbyte
          clear hbyte
          have hm1 : 4 * k + m + 1 ≤ maxLen := by unfold maxLen; omega
          go_wp2_with (at_builtin; refine wpList_append_lies _ rfl (.tmp 16) (.tmp 26) 27 rfl w.heap.size 5 i0 (.int .u8 0) 1 1 Tryd.underlying27 hi hz0 hz1 hz2 rfl (by decide) _ (4 * k + m) (cellsOf (wb f) (4 * k + m)) rfl (hown.alloc _) ⟨wr.heap.size, 0, none⟩ 1 1 [.int .u8 ((u (f k >>> (8 * (3 - m)))).tmod 256 % 256)] rfl rfl (World.news_of_block (heap_alloc_new _ _)) ?c2 (by decide) hm1 (by omega) (by simp; omega) (wr.heap.size + 1) (by simp) ?next)
          case c2 => first | rfl | (intro y hy; simp at hy; subst hy; rfl)
          case next =>
            intro g1 cap1 w1 hown1 hgrow1 hat1 hlt1
            have hbel1 : Below w.heap.size w w1 := (hbel.alloc hsz _).grown hgrow1 (by simp; omega) (fun b e => (hown.lt b e).1)
            rw [HBY.out, cellsOf_succ] at hown1
            clear hgrow1 hown hbel
            go_wp2
            go_roundw
            case rel => exact ⟨m + 1, by omega, by go_num, hown1, hbel1⟩
            case measure => simp [intOf]; omega
        · obtain rfl : m = 4 := by omega
          go_wp2
          go_roundw
          case rel => exact ⟨k + 1, by omega, by go_num, hown, hbel⟩
          case measure => simp [intOf]; omega
    · obtain rfl : k = n := by omega
      go_wp2
      go_ret
      exact ⟨_, rfl, hbel, hown⟩

/-- the document's word: its four bytes, each at its weight -/
def dw (g : Nat → BitVec 8) (n : Nat) : BitVec 32 := (g (4 * n)).setWidth 32 * 16777216#32 + (g (4 * n + 1)).setWidth 32 * 65536#32 + (g (4 * n + 2)).setWidth 32 * 256#32 + (g (4 * n + 3)).setWidth 32
theorem mul_u (x : BitVec 32) (c : Nat) (hc : c < 4294967296) : IntKind.u32.wrap (u x * (c : Int)) = u (x * BitVec.ofNat 32 c) := by
  unfold u
  have h : c % 2 ^ 32 = c := Nat.mod_eq_of_lt (by omega)
  rw [IntKind.wrap_u32, BitVec.toNat_mul, BitVec.toNat_ofNat, h]
  rw [Int.natCast_emod, Int.natCast_mul]; rfl
theorem mul_24 (x : BitVec 32) : IntKind.u32.wrap (u x * 16777216) = u (x * 16777216#32) := mul_u x 16777216 (by omega)
theorem mul_16 (x : BitVec 32) : IntKind.u32.wrap (u x * 65536) = u (x * 65536#32) := mul_u x 65536 (by omega)
theorem mul_8 (x : BitVec 32) : IntKind.u32.wrap (u x * 256) = u (x * 256#32) := mul_u x 256 (by omega)
attribute [go_sem] mul_24 mul_16 mul_8

set_option maxHeartbeats 400000 in
theorem ref_words_no (n c : Nat) (p : Option Addr) (w : World) (hn : n ≤ 9223372036854775807) (h4 : n % 4 ≠ 0) :
    Calls Tryd.prog 74 #[.slice p n c] w fun e w' => e = .returned (.tuple #[.slice none 0 0, .int .i64 4]) ∧ w = w' := by
  have hd : ((n : Int) % 4 != 0) = true := by simp; omega
  go_enter Tryd.func74, Tryd.ntmps74
  go_wp2
  go_ret2
  exact ⟨rfl, rfl⟩
set_option maxHeartbeats 1000000 in
set_option maxRecDepth 100000 in
theorem ref_words (B q c : Nat) (p : Option Addr) (g : Nat → BitVec 8) (w : World) (hn : q ≤ 1073741823) (hB : B ≤ w.heap.size) (hr : Reads B w p (4 * q) (fun i => .int .u8 (ub (g i)))) :
    Calls Tryd.prog 74 #[.slice p (4 * q) c] w fun e w' => ∃ v, e = .returned (.tuple #[v, .int .i64 0]) ∧ Below w.heap.size w w' ∧ w'.ownsRow w.heap.size 60 1 v q ((List.range q).map (fun i => .int .u32 (u (dw g i)))) := by
  obtain ⟨i0, hi, hz0, hz1, hz2⟩ := info_parts infoW
  have HR := Lib.hid hr
  clear hr
  have hd : (4 * (q : Int) % 4 != 0) = false := by simp
  go_enter Tryd.func74, Tryd.ntmps74
  go_wp2
  go_loopw [4, 5] (fun v i wr => ∃ k : Nat, k ≤ q ∧ i = .int .i64 (4 * (k : Int)) ∧ wr.ownsRow w.heap.size 60 1 v k ((List.range k).map (fun i => .int .u32 (u (dw g i)))) ∧ Below w.heap.size w wr) (fun _ i _ => (4 * (q : Int) - intOf i).toNat)
  case atStart => exact ⟨0, Nat.zero_le _, rfl, World.ownsRow_nil _ _ _ _, Below.refl _ _⟩
  case round =>
    obtain ⟨k, hk, rfl, hown, hbel⟩ := hrel
    have hsz := hbel.size
    by_cases hlt : k < q
    · rcases HR.out.below (hbel.mono hB) with h0 | ⟨b, off, rfl, hb, hc⟩
      · omega
      have c0 : wr.cell? ⟨b, off + 4 * k, none⟩ = some (.int .u8 (ub (g (4 * k)))) := hc (4 * k) (by omega)
      have c1 : wr.cell? ⟨b, off + (4 * k + 1), none⟩ = some (.int .u8 (ub (g (4 * k + 1)))) := hc (4 * k + 1) (by omega)
      have c2 : wr.cell? ⟨b, off + (4 * k + 2), none⟩ = some (.int .u8 (ub (g (4 * k + 2)))) := hc (4 * k + 2) (by omega)
      have c3 : wr.cell? ⟨b, off + (4 * k + 3), none⟩ = some (.int .u8 (ub (g (4 * k + 3)))) := hc (4 * k + 3) (by omega)
      clear hc
      have s1 : IntKind.i64.wrap (4 * (k : Int) + 1) = 4 * (k : Int) + 1 := IntWalk.i64_in _ (by omega)
      have s2 : IntKind.i64.wrap (4 * (k : Int) + 2) = 4 * (k : Int) + 2 := IntWalk.i64_in _ (by omega)
      have s3 : IntKind.i64.wrap (4 * (k : Int) + 3) = 4 * (k : Int) + 3 := IntWalk.i64_in _ (by omega)
      have hm1 : k + 1 ≤ maxLen := by unfold maxLen; omega
      have i0' : (0 : Int) ≤ 4 * (k : Int) := by omega
      have i1' : (0 : Int) ≤ 4 * (k : Int) + 1 := by omega
      have i2' : (0 : Int) ≤ 4 * (k : Int) + 2 := by omega
      have i3' : (0 : Int) ≤ 4 * (k : Int) + 3 := by omega
      have t1 : (4 * (k : Int) + 1).toNat = 4 * k + 1 := by omega
      have t2 : (4 * (k : Int) + 2).toNat = 4 * k + 2 := by omega
      have t3 : (4 * (k : Int) + 3).toNat = 4 * k + 3 := by omega
      have t0 : (4 * (k : Int)).toNat = 4 * k := by omega
      have l0 : 4 * (k : Int) < 4 * (q : Int) := by omega
      have l1 : 4 * (k : Int) + 1 < 4 * (q : Int) := by omega
      have l2 : 4 * (k : Int) + 2 < 4 * (q : Int) := by omega
      have l3 : 4 * (k : Int) + 3 < 4 * (q : Int) := by omega
      go_wp2
      have ak : u4.ownBlock ≠ some b := fun e => by have := (hown.lt b e).1; omega
      have hbs : b < wr.heap.size := by omega
      go_region_held3 (fun w' => w'.cell? ⟨b, off + 4 * k, none⟩ = some (.int .u8 (ub (g (4 * k)))) ∧ w'.cell? ⟨b, off + (4 * k + 1), none⟩ = some (.int .u8 (ub (g (4 * k + 1)))) ∧
          w'.cell? ⟨b, off + (4 * k + 2), none⟩ = some (.int .u8 (ub (g (4 * k + 2)))) ∧ w'.cell? ⟨b, off + (4 * k + 3), none⟩ = some (.int .u8 (ub (g (4 * k + 3)))))
        (first
          | go_keep
          | (go_split_ands
             refine ⟨?_, ?_, ?_, ?_⟩
             · (rw [hgrow1.cell_far _ (by simp; omega) (Ne.symm ak)]; assumption)
             · (rw [hgrow1.cell_far _ (by simp; omega) (Ne.symm ak)]; assumption)
             · (rw [hgrow1.cell_far _ (by simp; omega) (Ne.symm ak)]; assumption)
             · (rw [hgrow1.cell_far _ (by simp; omega) (Ne.symm ak)]; assumption)))
        ((refine step_append_lies _ (by rfl) _ _ _ (by rfl) w.heap.size 60 i0 (.int .u32 0) 1 4 Tryd.underlying69 hi hz0 hz1 hz2 rfl (by decide) u4 k ((List.range k).map (fun i => .int .u32 (u (dw g i)))) (by rfl) ((hown.alloc _).drew) ⟨wr.heap.size, 0, none⟩ 1 1 [.int .u32 (u (BitVec.setWidth 32 (g (4 * k)) * 16777216#32 + BitVec.setWidth 32 (g (4 * k + 1)) * 65536#32 + BitVec.setWidth 32 (g (4 * k + 2)) * 256#32 + BitVec.setWidth 32 (g (4 * k + 3))))] (by rfl) (by rfl) (World.news_of_block (heap_alloc_new _ _)) (by intro y hy; simp at hy; subst hy; rfl) (by decide) hm1 (by omega) (by simp; omega) (wr.heap.size + 1) (by simp) ?_; intro g1 cap1 w1 hown1 hgrow1 hat1 hlt1))
      all_goals
        have hbel1 : Below w.heap.size w w1 := ((hbel.alloc hsz _).drew).grown hgrow1 (by simp; omega) (fun b e => (hown.lt b e).1)
        have hown2 : w1.ownsRow w.heap.size 60 1 (.slice (some ⟨g1, 0, none⟩) (k + 1) cap1) (k + 1) ((List.range (k + 1)).map (fun i => .int .u32 (u (dw g i)))) := by
          rw [List.range_succ, List.map_append]; exact hown1
        clear hgrow1 hown hbel hown1
        go_wp2
        go_roundw
        case rel => exact ⟨k + 1, by omega, by go_num, hown2, hbel1⟩
        case measure => simp [intOf]; omega
    · obtain rfl : k = q := by omega
      go_wp2
      go_ret2
      exact ⟨_, rfl, hbel, hown⟩
end Go.Proofs.YthhjieagdkimfaaDoor
