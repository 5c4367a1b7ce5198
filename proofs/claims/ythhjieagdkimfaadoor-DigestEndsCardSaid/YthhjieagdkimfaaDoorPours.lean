/-
  Contracts: rows of rows are put into a hasher, where they fit.
-/
import Derived.Test.YthhjieagdkimfaaDoorFill
namespace Go.Proofs.YthhjieagdkimfaaDoor
open Go.RowKit
set_option linter.unusedSimpArgs false
set_option linter.unusedVariables false

/-- where the rows begin, one behind the other -/
def pos (ln : Nat → Nat) : Nat → Nat
  | 0 => 0
  | i + 1 => pos ln i + ln i
theorem pos_mono (ln : Nat → Nat) {i j : Nat} (h : i ≤ j) : pos ln i ≤ pos ln j := by
  induction j with
  | zero => rw [show i = 0 by omega]; exact Nat.le_refl _
  | succ j ih =>
    by_cases e : i = j + 1
    · rw [e]; exact Nat.le_refl _
    · have := ih (by omega); simp only [pos]; omega
/-- m rows, each in another block than the hasher's -/
structure RR (hb : Nat) (w : World) (p : Option Addr) (m : Nat) (P : Nat → Option Addr) (ln C : Nat → Nat) (f : Nat → Nat → BitVec 8) : Prop where
  rows : RX hb w p m (fun i => .slice (P i) (ln i) (C i))
  cap : ∀ i, i < m → ln i ≤ C i ∧ C i ≤ maxLen
  row : ∀ i, i < m → RX hb w (P i) (ln i) (fun j => .int .u8 (ub (f i j)))
theorem RR.gr {hb : Nat} {w w' : World} {p : Option Addr} {m : Nat} {P : Nat → Option Addr} {ln C : Nat → Nat} {f : Nat → Nat → BitVec 8} (h : RR hb w p m P ln C f) (g : w.grownBy w' (some hb)) : RR hb w' p m P ln C f :=
  ⟨h.rows.gr g, h.cap, fun i hi => (h.row i hi).gr g⟩
theorem RX.at {hb : Nat} {w : World} {p : Option Addr} {m : Nat} {f : Nat → Value} (h : RX hb w p m f) {i : Nat} (hi : i < m) : ∃ b off, p = some ⟨b, off, none⟩ ∧ w.cell? ⟨b, off + i, none⟩ = some (f i) := by
  rcases h with h | ⟨b, off, h1, h2, h3, h4⟩
  · omega
  · exact ⟨b, off, h1, h4 i hi⟩

set_option maxHeartbeats 1000000 in
set_option maxRecDepth 100000 in
theorem fill_any (B : Nat) (w : World) (hb : Nat) (g : Nat → BitVec 8) (n : Nat) (own : Option Addr) (p : Option Addr) (m c : Nat) (P : Nat → Option Addr) (ln C : Nat → Nat) (f : Nat → Nat → BitVec 8)
    (hk : Kc B w) (hB : B ≤ hb) (h : HH w hb g n own) (hr : RR hb w p m P ln C f) (hm : m ≤ 4294967296) (hn : n + pos ln m ≤ 4294967296) (hg : ∀ i, i < m → ∀ j, j < ln i → f i j = g (n + pos ln i + j)) :
    Calls Tryd.prog 42 #[.pointer (some ⟨hb, 0, none⟩), .slice p m c] w fun e w' => e = .returned (.tuple #[]) ∧ w.grownBy w' (some hb) ∧ HH w' hb g (n + pos ln m) own := by
  have H0w : B ≤ w.heap.size := by obtain ⟨op, hs, _⟩ := h; have := hs.lt; omega
  have HK := Lib.hid hk
  have H0 := Lib.hid h
  have HR := Lib.hid hr
  have HN := Lib.hid hn
  have HGG := Lib.hid hg
  clear hk h hr hn hg
  go_enter Tryd.func42, Tryd.ntmps42
  go_wp2
  go_loopw [8] (fun i wr => ∃ k : Nat, k ≤ m ∧ i = .int .i64 (k : Int) ∧ HH wr hb g (n + pos ln k) own ∧ w.grownBy wr (some hb)) (fun i _ => (m - intOf i).toNat)
  case atStart => exact ⟨0, Nat.zero_le _, rfl, H0.out, World.grownBy.refl _ _⟩
  case round =>
    obtain ⟨k, hk, rfl, hh, hgr⟩ := hrel
    by_cases hlt : k < m
    · have hrr := HR.out.gr hgr
      obtain ⟨b, off, rfl, hcell⟩ := hrr.rows.at hlt
      have HRR := Lib.hid hrr
      have H1 := Lib.hid hh
      have HG := Lib.hid hgr
      have HL := Lib.hid (show n + pos ln k + ln k ≤ 4294967296 from by have := pos_mono ln (show k + 1 ≤ m by omega); simp only [pos] at this; have := HN.out; omega)
      clear hrr hh hgr
      go_wp2_with fail
      refine (put_bytes B wr hb g (n + pos ln k) own (P k) (ln k) (C k) (HK.out.below (gr_below HG.out hB H0w)) hB H1.out HL.out (HRR.out.cap k hlt).1 (HRR.out.cap k hlt).2 ((HRR.out.row k hlt).congr fun j hj => by rw [HGG.out k hlt j hj])).mono ?_
      rintro e w2 ⟨rfl, hg2, hh2⟩
      have H2 := Lib.hid hh2
      have HG2 := Lib.hid (HG.out.trans hg2)
      clear hh2 hg2 hcell
      go_wp2
      go_roundw
      case rel => exact ⟨k + 1, by omega, by go_num, by simp only [pos]; rw [← Nat.add_assoc]; exact H2.out, HG2.out⟩
      case measure => simp [intOf]; omega
    · obtain rfl : k = m := by omega
      have H9 := Lib.hid hh
      clear hh
      go_wp2
      go_end0
      exact ⟨rfl, hgr, H9.out⟩

set_option maxHeartbeats 1000000 in
set_option maxRecDepth 100000 in
theorem fits_any (w : World) (hb : Nat) (st : Nat → BitVec 32) (op : Nat → BitVec 8) (n : Nat) (own : Option Addr) (p : Option Addr) (m c : Nat) (P : Nat → Option Addr) (ln C : Nat → Nat) (f : Nat → Nat → BitVec 8)
    (h : HS w hb st op n own) (hr : RR hb w p m P ln C f) (hm : m ≤ 4294967296) (hn : n ≤ 1048576) :
    Calls Tryd.prog 41 #[.pointer (some ⟨hb, 0, none⟩), .slice p m c] w fun e w' => e = .returned (.bool (decide (n + pos ln m ≤ 1048576))) ∧ w = w' := by
  have hlen := h.len
  have HR := Lib.hid hr
  have s0 : IntKind.i64.wrap (1048576 - (n : Int)) = 1048576 - (n : Int) := IntWalk.i64_in _ (by omega)
  clear h hr
  go_enter Tryd.func41, Tryd.ntmps41
  go_wp2
  clear s0
  go_loop [5, 15] (fun r i => ∃ k : Nat, k ≤ m ∧ i = .int .i64 (k : Int) ∧ ∃ q : Int, r = .int .i64 q ∧ 0 ≤ q ∧ q ≤ 1048576 ∧ q = 1048576 - (n : Int) - (pos ln k : Int)) (fun _ i => (m - intOf i).toNat)
  case atStart => exact ⟨0, Nat.zero_le _, rfl, _, rfl, by omega, by omega, by simp [pos]⟩
  case round =>
    obtain ⟨k, hk, rfl, q, rfl, hq0, hq1, hq⟩ := hrel
    by_cases hlt : k < m
    · obtain ⟨b, off, rfl, hcell⟩ := HR.out.rows.at hlt
      have hcap := HR.out.cap k hlt
      unfold maxLen at hcap
      have hnx : pos ln (k + 1) = pos ln k + ln k := rfl
      have hmo := pos_mono ln (show k + 1 ≤ m by omega)
      by_cases hbig : q < (ln k : Int)
      · have hres : decide (n + pos ln m ≤ 1048576) = false := by simp; omega
        have HRES := Lib.hid hres
        clear hq hnx hmo hres
        go_wp2
        go_ret
        exact ⟨(congrArg (fun b => Ending.returned (Value.bool b)) HRES.out).symm, rfl⟩
      · have s1 : IntKind.i64.wrap (q - (ln k : Int)) = q - (ln k : Int) := IntWalk.i64_in _ (by omega)
        have HQ := Lib.hid hq
        have HNX := Lib.hid hnx
        clear hq hnx hmo
        go_wp2
        go_round
        case rel => exact ⟨k + 1, by omega, by go_num, _, rfl, by omega, by omega, by rw [HNX.out]; have := HQ.out; omega⟩
        case measure => simp [intOf]; omega
    · obtain rfl : k = m := by omega
      have hres : decide (n + pos ln k ≤ 1048576) = true := by simp; omega
      have HRES := Lib.hid hres
      clear hq hres
      go_wp2
      go_ret
      exact ⟨(congrArg (fun b => Ending.returned (Value.bool b)) HRES.out).symm, rfl⟩
theorem HH.own {w : World} {hb n : Nat} {g : Nat → BitVec 8} {own : Option Addr} (h : HH w hb g n own) : ∃ st op, HS w hb st op n own := let ⟨op, hs, _⟩ := h; ⟨_, op, hs⟩
set_option maxHeartbeats 1000000 in
set_option maxRecDepth 100000 in
theorem write_ok (B : Nat) (w : World) (hb : Nat) (g : Nat → BitVec 8) (n : Nat) (p : Option Addr) (m c : Nat) (P : Nat → Option Addr) (ln C : Nat → Nat) (f : Nat → Nat → BitVec 8)
    (hk : Kc B w) (hB : B ≤ hb) (h : HH w hb g n (some ⟨hb, 0, none⟩)) (hr : RR hb w p m P ln C f) (hm : m ≤ 4294967296) (hn : n + pos ln m ≤ 1048576) (hg : ∀ i, i < m → ∀ j, j < ln i → f i j = g (n + pos ln i + j)) :
    Calls Tryd.prog 12 #[.pointer (some ⟨hb, 0, none⟩), .slice p m c] w fun e w' => e = .returned (.int .i64 0) ∧ w.grownBy w' (some hb) ∧ HH w' hb g (n + pos ln m) (some ⟨hb, 0, none⟩) := by
  obtain ⟨st, op, hs⟩ := h.own
  have HS := Lib.hid hs
  have H0 := Lib.hid h
  have HR := Lib.hid hr
  have HK := Lib.hid hk
  have HGG := Lib.hid hg
  have hd : decide (n + pos ln m ≤ 1048576) = true := by simp; omega
  have HD := Lib.hid hd
  have HN := Lib.hid hn
  clear h hr hk hs hg hd hn
  go_enter Tryd.func12, Tryd.ntmps12
  go_wp2_with fail
  refine (none_any w hb st op n HS.out).mono ?_
  rintro e w' ⟨rfl, rfl⟩
  go_wp2_with fail
  refine (fits_any w hb st op n _ p m c P ln C f HS.out HR.out hm (by have := HN.out; omega)).mono ?_
  rintro e w' ⟨rfl, rfl⟩
  rw [HD.out]
  go_wp2_with fail
  refine (fill_any B w hb g n _ p m c P ln C f HK.out hB H0.out HR.out hm (by have := HN.out; omega) HGG.out).mono ?_
  rintro e w2 ⟨rfl, hg2, hh2⟩
  have H2 := Lib.hid hh2
  clear hh2
  go_wp2
  go_ret
  exact ⟨rfl, hg2, H2.out⟩
set_option maxHeartbeats 1000000 in
set_option maxRecDepth 100000 in
theorem write_long (w : World) (hb : Nat) (g : Nat → BitVec 8) (n : Nat) (p : Option Addr) (m c : Nat) (P : Nat → Option Addr) (ln C : Nat → Nat) (f : Nat → Nat → BitVec 8)
    (h : HH w hb g n (some ⟨hb, 0, none⟩)) (hr : RR hb w p m P ln C f) (hm : m ≤ 4294967296) (hn0 : n ≤ 1048576) (hn : 1048576 < n + pos ln m) :
    Calls Tryd.prog 12 #[.pointer (some ⟨hb, 0, none⟩), .slice p m c] w fun e w' => e = .returned (.int .i64 3) ∧ w = w' := by
  obtain ⟨st, op, hs⟩ := h.own
  have HS := Lib.hid hs
  have HR := Lib.hid hr
  have hd : decide (n + pos ln m ≤ 1048576) = false := by simp; omega
  have HD := Lib.hid hd
  clear h hr hs hd hn
  go_enter Tryd.func12, Tryd.ntmps12
  go_wp2_with fail
  refine (none_any w hb st op n HS.out).mono ?_
  rintro e w' ⟨rfl, rfl⟩
  go_wp2_with fail
  refine (fits_any w hb st op n _ p m c P ln C f HS.out HR.out hm hn0).mono ?_
  rintro e w' ⟨rfl, rfl⟩
  rw [HD.out]
  go_wp2
  go_ret
  exact ⟨rfl, rfl⟩
end Go.Proofs.YthhjieagdkimfaaDoor
