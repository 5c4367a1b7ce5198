/-
  Contracts: the mark of a table's tags in a row of bytes: the program's answer and the document's.
-/
import Derived.Test.YtejknkgbkkdaiaaGreatDoorGh
import Derived.Test.YtejknkgbkkdaiaaGreatDoorFrb
namespace Go.Proofs.YtejknkgbkkdaiaaGreatDoor
open Go.RowKit
set_option linter.unusedVariables false
set_option linter.unusedSimpArgs false

def mrkU : List UInt8 := [122, 117, 103, 122, 119, 97, 110, 103]
/-- the bytes have the mark -/
def mkS (f : Nat → BitVec 8) (n : Nat) : Bool := Lib.contains (byL f n) mrkU
theorem bytesOf_ub (f : Nat → BitVec 8) (n : Nat) : Lib.bytesOf ((List.range n).map fun i => ub (f i)) = byL f n := by
  unfold Lib.bytesOf byL
  rw [List.map_map]
  exact List.map_congr_left fun i _ => by
    show UInt8.ofNat (ub (f i)).toNat = _
    unfold ub
    rw [Int.toNat_natCast]
    apply UInt8.toNat_inj.1
    simp
theorem byL_drop (f : Nat → BitVec 8) (n i : Nat) (h : i ≤ n) : (byL f n).drop i = byL (fun j => f (i + j)) (n - i) := by
  have e := byL_add f i (n - i)
  rw [show i + (n - i) = n by omega] at e
  rw [← e, List.drop_left' (byL_len f i)]
theorem occ_mark (f : Nat → BitVec 8) (n i : Nat) (h : i ≤ n) : Lib.occAt (byL f n) mrkU i = true ↔ i + 8 ≤ n ∧ byL (fun j => f (i + j)) 8 = mrkU := by
  unfold Lib.occAt
  rw [byL_drop f n i h, List.isPrefixOf_iff_prefix]
  constructor
  · rintro ⟨t, ht⟩
    have hl := congrArg List.length ht
    rw [List.length_append, byL_len, show mrkU.length = 8 from rfl] at hl
    have e := byL_add (fun j => f (i + j)) 8 (n - i - 8)
    rw [show 8 + (n - i - 8) = n - i by omega] at e
    rw [← e] at ht
    exact ⟨by omega, ((List.append_inj ht (by rw [byL_len]; rfl)).1).symm⟩
  · rintro ⟨h1, h2⟩
    have e := byL_add (fun j => f (i + j)) 8 (n - i - 8)
    rw [show 8 + (n - i - 8) = n - i by omega, h2] at e
    exact ⟨_, e⟩
theorem mkS_iff (f : Nat → BitVec 8) (n : Nat) : mkS f n = true ↔ ∃ i, i + 8 ≤ n ∧ byL (fun j => f (i + j)) 8 = mrkU := by
  unfold mkS Lib.contains
  rcases Lib.index_spec (byL f n) mrkU with ⟨h1, h2⟩ | ⟨i, h1, h2, h3, h4⟩
  · rw [h1]
    constructor
    · intro h; cases h
    · rintro ⟨i, hi, he⟩
      have := h2 i (by rw [byL_len]; omega)
      rw [(occ_mark f n i (by omega)).2 ⟨hi, he⟩] at this
      cases this
  · rw [byL_len] at h2
    rw [h1]
    constructor
    · intro _; exact ⟨i, (occ_mark f n i h2).1 h3⟩
    · intro _; simp
set_option maxHeartbeats 1000000 in
theorem tmarkG_any (B : Nat) (p : Option Addr) (n c : Nat) (f : Nat → BitVec 8) (mx : Int) (w : World) (hr : Reads B w p n (fun i => .int .u8 (ub (f i)))) (hz : p = none → c = 0) (hnc : n ≤ c) (hs : n ≤ 4294967000) (hm : w.cell? ⟨mk_lays_ren.g 1, 0, none⟩ = some (.int .i64 mx)) :
    Calls Tryz.prog 17 #[.slice p n c] w fun e w' => e = .returned (.bool (mkS f n)) ∧ Below w.heap.size w w' := by
  have kc := fun (w : World) (C : Array Value) (n c : Nat) => Lib.run_convert_bytes_const (P := Tryz.prog) w 22 5 C n c Tryz.underlying22 Tryz.underlying5
  have hcon : Calls Tryz.prog 35 #[.slice p n c, .slice (some ⟨w.heap.size, 0, none⟩) 8 8] (w.alloc (.cells #[.int .u8 122, .int .u8 117, .int .u8 103, .int .u8 122, .int .u8 119, .int .u8 97, .int .u8 110, .int .u8 103] 5 (8, 9))) fun e w' => e = .returned (.bool (mkS f n)) ∧ ∃ q, w' = (w.alloc (.cells #[.int .u8 122, .int .u8 117, .int .u8 103, .int .u8 122, .int .u8 119, .int .u8 97, .int .u8 110, .int .u8 103] 5 (8, 9))).drewN q := by
    cases p with
    | none =>
      have h0 := hz rfl
      subst h0
      obtain rfl : n = 0 := by omega
      have := Any.bytes_Contains_nil { mk_lays with } (some ⟨w.heap.size, 0, none⟩) 8 8 (w.alloc (.cells #[.int .u8 122, .int .u8 117, .int .u8 103, .int .u8 122, .int .u8 119, .int .u8 97, .int .u8 110, .int .u8 103] 5 (8, 9))) (by decide) (fun h => absurd h (by decide))
      refine this.mono ?_
      rintro e w' ⟨rfl, rfl⟩
      exact ⟨by rw [show mkS f 0 = false from rfl]; rfl, 0, rfl⟩
    | some a =>
      have := Any.bytes_Contains_at { mk_lays with } a ⟨w.heap.size, 0, none⟩ n c 8 8 ((List.range n).map fun i => ub (f i)) [122, 117, 103, 122, 119, 97, 110, 103] mx (w.alloc (.cells #[.int .u8 122, .int .u8 117, .int .u8 103, .int .u8 122, .int .u8 119, .int .u8 97, .int .u8 110, .int .u8 103] 5 (8, 9))) (by simp) rfl (by intro x hx; obtain ⟨i, _, rfl⟩ := List.mem_map.1 hx; exact ub_range _) (by decide)
        (fun i hi => by
          rcases hr with h | ⟨b, o, he, hb, hc⟩
          · omega
          · cases he
            rw [Go.WideShapes.add_plain, show ((List.range n).map fun i => ub (f i)).getD i 0 = ub (f i) from by simp [hi]]
            exact Lib.cell?_alloc_marked _ (hc i hi))
        (fun i hi => by
          have : i = 0 ∨ i = 1 ∨ i = 2 ∨ i = 3 ∨ i = 4 ∨ i = 5 ∨ i = 6 ∨ i = 7 := by omega
          rw [Go.WideShapes.add_plain, Nat.zero_add, World.cell?_alloc_mark]
          rcases this with rfl | rfl | rfl | rfl | rfl | rfl | rfl | rfl <;> rfl)
        hnc (by omega) (by omega) (Lib.cell?_alloc_marked _ hm)
      rw [show Lib.bytesOf [122, 117, 103, 122, 119, 97, 110, 103] = mrkU from by decide, bytesOf_ub] at this
      exact this
  clear hr hm hz hnc hs
  obtain ⟨r, hr⟩ : ∃ r, mkS f n = r := ⟨_, rfl⟩
  rw [hr] at hcon ⊢
  clear hr
  go_enter Tryz.func17, Tryz.ntmps17
  go_wp2_with fail
  refine hcon.mono ?_
  rintro e w' ⟨rfl, q, rfl⟩
  go_wp2
  go_ret
  exact ⟨rfl, below_drewN ((Below.refl _ w).alloc (Nat.le_refl _) _) q⟩
set_option maxHeartbeats 1000000 in
theorem rmark_any (B : Nat) (p : Option Addr) (n c : Nat) (f : Nat → BitVec 8) (w : World) (hr : Reads B w p n (fun i => .int .u8 (ub (f i)))) (hnc : n ≤ c) (hs : c ≤ maxLen) (hn : n ≤ 4294967000) :
    Calls Tryz.prog 18 #[.slice p n c] w fun e w' => e = .returned (.bool (mkS f n)) ∧ Below w.heap.size w w' := by
  unfold maxLen at hs
  have HR := Lib.hid hr
  obtain ⟨r, hrr⟩ : ∃ r, mkS f n = r := ⟨_, rfl⟩
  have HIFF := Lib.hid (mkS_iff f n)
  rw [hrr] at HIFF ⊢
  clear hr hrr
  go_enter Tryz.func18, Tryz.ntmps18
  go_wp2
  go_loopw [4] (fun iv wr => ∃ i : Nat, i ≤ n ∧ iv = .int .i64 (i : Int) ∧ wr = w ∧ ∀ j, j < i → byL (fun q => f (j + q)) 8 ≠ mrkU) (fun iv _ => n - (intOf iv).toNat)
  case atStart => exact ⟨0, Nat.zero_le _, rfl, rfl, fun j hj => absurd hj (Nat.not_lt_zero _)⟩
  case round =>
    obtain ⟨i, hi, rfl, rfl, hno⟩ := hrel
    have HNO := Lib.hid hno
    clear hno
    by_cases hlt : i + 8 ≤ n
    · rcases HR.out with h0 | ⟨b, off, rfl, hb, hc⟩
      · omega
      have hcv := conv_str wr B (some ⟨b, off + i, none⟩) 8 (c - i) (fun q => f (i + q)) (.inr ⟨b, off + i, rfl, hb, fun q hq => by rw [show off + i + q = off + (i + q) by omega]; exact hc (i + q) (by omega)⟩) (fun e => by cases e)
      obtain ⟨l, hl⟩ : ∃ l, byL (fun q => f (i + q)) 8 = l := ⟨_, rfl⟩
      rw [hl] at hcv
      have HLL := Lib.hid hl
      have hi2 : (i : Int) + 8 ≤ (n : Int) := by omega
      clear hc hl
      by_cases hq : l = mrkU
      · have hq2 : (l == [122, 117, 103, 122, 119, 97, 110, 103]) = true := by rw [hq]; decide
        have hr2 := HIFF.out.2 ⟨i, hlt, by rw [HLL.out]; exact hq⟩
        subst hr2
        clear hq
        go_wp2
        go_ret
        exact ⟨rfl, Below.refl _ _⟩
      · have hq2 : (l == [122, 117, 103, 122, 119, 97, 110, 103]) = false := beq_false_of_ne hq
        have HQ := Lib.hid hq
        clear hq
        go_wp2
        go_roundw
        case rel => exact ⟨i + 1, by omega, by go_num, (by first | rfl | trivial), fun j hj => by
          by_cases e : j = i
          · subst e; rw [HLL.out]; exact HQ.out
          · exact HNO.out j (by omega)⟩
        case measure => simp [intOf]; omega
    · have hi2 : ¬ ((i : Int) + 8 ≤ (n : Int)) := by omega
      have hr2 : r = false := by
        cases hrr : r
        · rfl
        · obtain ⟨j, hj, h2⟩ := HIFF.out.1 hrr
          exact absurd h2 (HNO.out j (by omega))
      subst hr2
      go_wp2
      go_ret
      exact ⟨rfl, Below.refl _ _⟩
end Go.Proofs.YtejknkgbkkdaiaaGreatDoor
