/-
  Merged: Fill, Pours, End.
-/
import Derived.Test.YtejknkgbkkdaiaaGreatDoorTake

namespace Go.Proofs.YtejknkgbkkdaiaaGreatDoor
open Go.RowKit
set_option linter.unusedSimpArgs false
set_option linter.unusedVariables false

/-- n elements that are read through p, in another block than the hasher's -/
def RX (hb : Nat) (w : World) (p : Option Addr) (n : Nat) (f : Nat → Value) : Prop :=
  n = 0 ∨ ∃ b off, p = some ⟨b, off, none⟩ ∧ b ≠ hb ∧ b < w.heap.size ∧ ∀ i, i < n → w.cell? ⟨b, off + i, none⟩ = some (f i)
theorem RX.gr {hb : Nat} {w w' : World} {p : Option Addr} {n : Nat} {f : Nat → Value} (h : RX hb w p n f) (g : w.grownBy w' (some hb)) : RX hb w' p n f := by
  rcases h with h | ⟨b, off, h1, h2, h3, h4⟩
  · exact .inl h
  · exact .inr ⟨b, off, h1, h2, Nat.lt_of_lt_of_le h3 g.size, fun i hi => (World.cell?_of_block (a := ⟨b, off + i, none⟩) (g.block b h3 (by simpa using h2))).trans (h4 i hi)⟩
theorem Reads.rx {B hb : Nat} {w : World} {p : Option Addr} {n : Nat} {f : Nat → Value} (h : Reads B w p n f) (hB : B ≤ hb) (hs : hb < w.heap.size) : RX hb w p n f := by
  rcases h with h | ⟨b, off, h1, h2, h3⟩
  · exact .inl h
  · exact .inr ⟨b, off, h1, by omega, by omega, h3⟩
theorem RX.congr {hb : Nat} {w : World} {p : Option Addr} {n : Nat} {f g : Nat → Value} (h : RX hb w p n f) (e : ∀ i, i < n → f i = g i) : RX hb w p n g := by
  rcases h with h | ⟨b, off, h1, h2, h3, h4⟩
  · exact .inl h
  · exact .inr ⟨b, off, h1, h2, h3, fun i hi => by rw [← e i hi]; exact h4 i hi⟩
/-- the open block, of which some bytes are laid anew -/
def over8 (op : Nat → BitVec 8) (lo cnt : Nat) (f : Nat → BitVec 8) : Nat → BitVec 8 := fun j => if lo ≤ j ∧ j < lo + cnt then f (j - lo) else op j

/-- how many elements are left -/
def restOf : Value → Nat
  | .slice _ q _ => q
  | _ => 0
theorem HH.some_more {w : World} {hb n k r cnt lo : Nat} {g : Nat → BitVec 8} {op : Nat → BitVec 8} {own : Option Addr} (hr : r = n + k) (hlo : r % 64 = lo) (hop : ∀ j, j < lo → op j = g (64 * (r / 64) + j)) (hlt : lo + cnt < 64)
    (h : HS w hb (mid g (r / 64)) (over8 op lo cnt fun i => g (r + i)) (r + cnt) own) : HH w hb g (n + (k + cnt)) own := by
  rw [show n + (k + cnt) = r + cnt by omega]
  refine ⟨over8 op lo cnt fun i => g (r + i), ?_, fun j hj => ?_⟩
  · rw [show (r + cnt) / 64 = r / 64 by omega]; exact h
  · rw [show (r + cnt) / 64 = r / 64 by omega]
    unfold over8
    by_cases h1 : lo ≤ j ∧ j < lo + cnt
    · rw [if_pos h1]; show g (r + (j - lo)) = _; rw [show r + (j - lo) = 64 * (r / 64) + j by omega]
    · rw [if_neg h1]; exact hop j (by omega)
theorem HH.whole {w : World} {hb n k r cnt lo : Nat} {g : Nat → BitVec 8} {op : Nat → BitVec 8} {own : Option Addr} (hr : r = n + k) (hlo : r % 64 = lo) (hop : ∀ j, j < lo → op j = g (64 * (r / 64) + j)) (hlt : lo + cnt = 64)
    (h : HS w hb (comp (mid g (r / 64)) (over8 op lo cnt fun i => g (r + i))) (over8 op lo cnt fun i => g (r + i)) (r + cnt) own) : HH w hb g (n + (k + cnt)) own := by
  rw [show n + (k + cnt) = r + cnt by omega]
  refine ⟨over8 op lo cnt fun i => g (r + i), ?_, fun j hj => by omega⟩
  have e : comp (mid g (r / 64)) (over8 op lo cnt fun i => g (r + i)) = mid g (r / 64 + 1) := by
    show _ = comp (mid g (r / 64)) (blk g (r / 64))
    refine comp_congr _ fun j hj => ?_
    unfold over8 blk
    by_cases h1 : lo ≤ j ∧ j < lo + cnt
    · rw [if_pos h1]; show g (r + (j - lo)) = _; rw [show r + (j - lo) = 64 * (r / 64) + j by omega]
    · rw [if_neg h1]; exact hop j (by omega)
  rw [show (r + cnt) / 64 = r / 64 + 1 by omega, ← e]
  exact h
theorem RX.skip {hb : Nat} {w : World} {b off q cnt r k n : Nat} {g : Nat → BitVec 8} (h : RX hb w (some ⟨b, off, none⟩) q (fun i => .int .u8 (ub (g (r + i))))) (hr : r = n + k) (hc : cnt ≤ q) :
    RX hb w (some ⟨b, off + cnt, none⟩) (q - cnt) (fun i => .int .u8 (ub (g (n + (k + cnt) + i)))) := by
  rcases h with h | ⟨b', off', h1, h2, h3, h4⟩
  · exact .inl (by omega)
  · cases h1
    refine .inr ⟨b, off + cnt, rfl, h2, h3, fun i hi => ?_⟩
    rw [Nat.add_assoc, h4 (cnt + i) (by omega)]
    show some (Value.int .u8 (ub (g (r + (cnt + i))))) = some (Value.int .u8 (ub (g (n + (k + cnt) + i))))
    rw [show n + (k + cnt) + i = r + (cnt + i) by omega]

set_option maxHeartbeats 4000000 in
set_option maxRecDepth 100000 in
theorem put_bytes (B : Nat) (w : World) (hb : Nat) (g : Nat → BitVec 8) (n : Nat) (own : Option Addr) (p : Option Addr) (m c : Nat) (hk : Kc B w) (hB : B ≤ hb) (h : HH w hb g n own) (hn : n + m ≤ 4294967296) (hc : m ≤ c) (hcm : c ≤ maxLen)
    (hr : RX hb w p m (fun i => .int .u8 (ub (g (n + i))))) :
    Calls Tryz.prog 77 #[.pointer (some ⟨hb, 0, none⟩), .slice p m c] w fun e w' => e = .returned (.tuple #[]) ∧ w.grownBy w' (some hb) ∧ HH w' hb g (n + m) own := by
  have HK := Lib.hid hk
  have H0 := Lib.hid h
  have HR0 := Lib.hid hr
  clear hk h hr
  unfold maxLen at hcm
  have H0w : B ≤ w.heap.size := by obtain ⟨op, hs, _⟩ := H0.out; have := hs.lt; omega
  go_enter Tryz.func77, Tryz.ntmps77
  go_wp2
  go_loopw [1] (fun v wr => ∃ k q d : Nat, ∃ p' : Option Addr, k + q = m ∧ v = .slice p' q d ∧ q ≤ d ∧ d ≤ 9223372036854775807 ∧ RX hb wr p' q (fun i => .int .u8 (ub (g (n + k + i)))) ∧ HH wr hb g (n + k) own ∧ w.grownBy wr (some hb)) (fun v _ => restOf v)
  case atStart => exact ⟨0, m, c, p, by omega, rfl, hc, by omega, HR0.out, H0.out, World.grownBy.refl _ _⟩
  case round =>
    obtain ⟨k, q, d, p', hkq, rfl, hqd, hd48, hrx, hh, hgr⟩ := hrel
    by_cases hq : 0 < q
    · rcases hrx with h0 | ⟨b2, off2, rfl, hne, hb2, hc2⟩
      · omega
      obtain ⟨op, hs, hop⟩ := hh
      obtain ⟨r, hr⟩ : ∃ r, r = n + k := ⟨_, rfl⟩
      rw [← hr] at hs hop hc2
      have hlen := hs.len
      have hrr : (r : Int) % 64 = ((r % 64 : Nat) : Int) := by omega
      have hlo : r % 64 < 64 := by omega
      generalize hlo' : r % 64 = lo at *
      obtain ⟨cnt, hcnt⟩ : ∃ cnt, cnt = Nat.min q (64 - lo) := ⟨_, rfl⟩
      have hc1 : 0 < cnt ∧ cnt ≤ q ∧ lo + cnt ≤ 64 ∧ (cnt = q ∨ lo + cnt = 64) := by
        rw [hcnt]; show 0 < min q (64 - lo) ∧ min q (64 - lo) ≤ q ∧ lo + min q (64 - lo) ≤ 64 ∧ (min q (64 - lo) = q ∨ lo + min q (64 - lo) = 64)
        omega
      have hcp : ∀ ty, (Builtin.copy_ #[22, 22] ty #[.slice (some ⟨hb, 8 + lo, none⟩) (64 - lo) (64 - lo), .slice (some ⟨b2, off2, none⟩) q d]).run Tryz.prog wr.drew = .ok (goInt cnt) (wr.drew.setCells hb (8 + lo) ((List.range cnt).map fun i => .int .u8 (ub (g (r + i))))) := fun ty => by
        have := run_copy_cells (P := Tryz.prog) wr.drew 22 22 ty 5 hb (8 + lo) (64 - lo) (64 - lo) ⟨b2, off2, none⟩ q d ((List.range cnt).map fun i => .int .u8 (ub (g (r + i)))) Tryz.underlying22 (by kernel_rfl) (by simp [hcnt]) (fun j v hv => by
          have hj : j < cnt := by have := (List.getElem?_eq_some_iff.1 hv).1; simpa using this
          have e : wr.drew.cell? ⟨b2, off2 + j, none⟩ = _ := hc2 j (by omega)
          rw [Addr.add_mid, e, ← hv]; simp [hj]) (fun j hj => (hs.there (8 + lo) cnt (by omega) j (by simpa using hj)).1) (fun j hj => (hs.there (8 + lo) cnt (by omega) j (by simpa using hj)).2) (fun v hv => by
          obtain ⟨i, _, rfl⟩ := List.mem_map.1 hv
          rfl)
        simpa using this
      have hs2 : HS (wr.drew.setCells hb (8 + lo) ((List.range cnt).map fun i => .int .u8 (ub (g (r + i))))) hb (mid g (r / 64)) (over8 op lo cnt (fun i => g (r + i))) r own :=
        hs.drew.setBytes lo cnt hc1.2.2.1 _ (by apply List.map_congr_left; intro i hi; have := List.mem_range.1 hi; unfold over8; rw [if_pos (by omega), show lo + i - lo = i by omega]) (fun j hj => by unfold over8; rw [if_neg (by omega)])
      have hg2 : w.grownBy (wr.drew.setCells hb (8 + lo) ((List.range cnt).map fun i => .int .u8 (ub (g (r + i))))) (some hb) := (hgr.trans gr_drew).trans (gr_setCells _ _ _)
      have hx2 : RX hb (wr.drew.setCells hb (8 + lo) ((List.range cnt).map fun i => .int .u8 (ub (g (r + i))))) (some ⟨b2, off2, none⟩) q (fun i => .int .u8 (ub (g (r + i)))) :=
        RX.gr (RX.gr (.inr ⟨b2, off2, rfl, hne, hb2, hc2⟩) gr_drew) (gr_setCells _ _ _)
      generalize wr.drew.setCells hb (8 + lo) ((List.range cnt).map fun i => .int .u8 (ub (g (r + i)))) = w2 at hcp hs2 hg2 hx2
      have HR := Lib.hid hr
      have HS := Lib.hid hs2
      have HOP := Lib.hid hop
      have HX := Lib.hid hx2
      have HG := Lib.hid hg2
      have HCN := Lib.hid hcnt
      have HLO := Lib.hid hlo'
      have hb64 : ((lo : Int)).toNat = lo := by omega
      have l64 : (lo : Int) < 64 := by omega
      have l64' : (lo : Int) ≤ 64 := by omega
      clear hs hs2 hop hc2 hgr hg2 hx2 hcnt hr hlo'
      go_wp2
      go_region
      have hlen2 := HS.out.len
      have hfr2 := HS.out.free 72
      have sadd : IntKind.i64.wrap ((r : Int) + (cnt : Int)) = (r : Int) + (cnt : Int) := IntWalk.i64_in _ (by have := HR.out; omega)
      have lc : (cnt : Int) ≤ (q : Int) := by omega
      have lc2 : (q : Int) ≤ (d : Int) := by omega
      clear hcp hlen
      have hs3 := HS.out.setLen (r + cnt) (.int .i64 ((r : Int) + (cnt : Int))) (by simp)
      have hg3 := HG.out.trans (gr_setCell (hb := hb) (i := 72) (.int .i64 ((r : Int) + (cnt : Int))))
      have hx3 := HX.out.gr (gr_setCell (hb := hb) (i := 72) (.int .i64 ((r : Int) + (cnt : Int))))
      have HS3 := Lib.hid hs3
      have HG3 := Lib.hid hg3
      have HX3 := Lib.hid hx3
      have HK3 := Lib.hid (HK.out.below (gr_below hg3 hB H0w))
      clear hs3 hg3 hx3
      by_cases hfull : lo + cnt = 64
      · have hz : ((r : Int) + (cnt : Int)) % 64 = 0 := by omega
        have hu49 := Tryz.underlying87
        have hi49 := info64b
        by_cases hdc : d = cnt
        all_goals
          go_wp2
          go_region_held3 (fun w' => w'.rangeAt hb 8 ((List.range 64).map fun i => .int .u8 (ub (over8 op lo cnt (fun i => g (r + i)) i))))
            (first | exact HS3.out.drew.bytesAt | exact hs5.bytesAt)
            ((go_at_call 93; refine (take_any B _ hb (mid g (r / 64)) (over8 op lo cnt fun i => g (r + i)) (r + cnt) own (over8 op lo cnt fun i => g (r + i)) (HK3.out.below ((Below.refl _ _).drew)) hB HS3.out.drew).mono ?_; rintro e w5 ⟨rfl, hg5, hs5⟩))
          have HS5 := Lib.hid hs5
          have HG5 := Lib.hid ((HG3.out.trans gr_drew).trans hg5)
          have HX5 := Lib.hid ((HX3.out.gr gr_drew).gr hg5)
          clear hs5 hg5
          go_wp2
          go_roundw
          case rel => first
            | exact ⟨k + cnt, q - cnt, _, _, by omega, rfl, by omega, by omega, .inl (by omega), HH.whole HR.out HLO.out HOP.out hfull HS5.out, HG5.out⟩
            | exact ⟨k + cnt, q - cnt, _, _, by omega, rfl, by omega, by omega, HX5.out.skip HR.out hc1.2.1, HH.whole HR.out HLO.out HOP.out hfull HS5.out, HG5.out⟩
          case measure => simp [restOf]; omega
      · have hz : (((r : Int) + (cnt : Int)) % 64 == 0) = false := by simp; have := HR.out; omega
        by_cases hdc : d = cnt
        all_goals
          go_wp2
          go_roundw
          case rel => first
            | exact ⟨k + cnt, q - cnt, _, _, by omega, rfl, by omega, by omega, .inl (by omega), HH.some_more HR.out HLO.out HOP.out (by omega) HS3.out, HG3.out⟩
            | exact ⟨k + cnt, q - cnt, _, _, by omega, rfl, by omega, by omega, HX3.out.skip HR.out hc1.2.1, HH.some_more HR.out HLO.out HOP.out (by omega) HS3.out, HG3.out⟩
          case measure => simp [restOf]; omega
    · obtain rfl : q = 0 := by omega
      obtain rfl : k = m := by omega
      have HH9 := Lib.hid hh
      clear hrx hh
      go_wp2
      go_end0
      exact ⟨rfl, hgr, HH9.out⟩
end Go.Proofs.YtejknkgbkkdaiaaGreatDoor

namespace Go.Proofs.YtejknkgbkkdaiaaGreatDoor
open Go.RowKit
set_option linter.unusedSimpArgs false
set_option linter.unusedVariables false
set_option maxRecDepth 20000

/-- where the rows begin, one behind the other -/
def pos (ln : Nat → Nat) : Nat → Nat
  | 0 => 0
  | i + 1 => pos ln i + ln i
theorem pos_mono (ln : Nat → Nat) {i j : Nat} (h : i ≤ j) : pos ln i ≤ pos ln j := by
  induction j with
  | zero => rw [show i = 0 by omega]; exact Nat.le_refl _
  | succ j ih =>
    by_cases e : i = j + 1
    · rw [e]; exact Nat.le_refl _
    · have := ih (by omega); simp only [pos]; omega
/-- m rows, each in another block than the hasher's -/
structure RR (hb : Nat) (w : World) (p : Option Addr) (m : Nat) (P : Nat → Option Addr) (ln C : Nat → Nat) (f : Nat → Nat → BitVec 8) : Prop where
  rows : RX hb w p m (fun i => .slice (P i) (ln i) (C i))
  cap : ∀ i, i < m → ln i ≤ C i ∧ C i ≤ maxLen
  row : ∀ i, i < m → RX hb w (P i) (ln i) (fun j => .int .u8 (ub (f i j)))
theorem RR.gr {hb : Nat} {w w' : World} {p : Option Addr} {m : Nat} {P : Nat → Option Addr} {ln C : Nat → Nat} {f : Nat → Nat → BitVec 8} (h : RR hb w p m P ln C f) (g : w.grownBy w' (some hb)) : RR hb w' p m P ln C f :=
  ⟨h.rows.gr g, h.cap, fun i hi => (h.row i hi).gr g⟩
theorem RX.at {hb : Nat} {w : World} {p : Option Addr} {m : Nat} {f : Nat → Value} (h : RX hb w p m f) {i : Nat} (hi : i < m) : ∃ b off, p = some ⟨b, off, none⟩ ∧ w.cell? ⟨b, off + i, none⟩ = some (f i) := by
  rcases h with h | ⟨b, off, h1, h2, h3, h4⟩
  · omega
  · exact ⟨b, off, h1, h4 i hi⟩

set_option maxHeartbeats 1000000 in
set_option maxRecDepth 100000 in
theorem fill_any (B : Nat) (w : World) (hb : Nat) (g : Nat → BitVec 8) (n : Nat) (own : Option Addr) (p : Option Addr) (m c : Nat) (P : Nat → Option Addr) (ln C : Nat → Nat) (f : Nat → Nat → BitVec 8)
    (hk : Kc B w) (hB : B ≤ hb) (h : HH w hb g n own) (hr : RR hb w p m P ln C f) (hm : m ≤ 4294967296) (hn : n + pos ln m ≤ 4294967296) (hg : ∀ i, i < m → ∀ j, j < ln i → f i j = g (n + pos ln i + j)) :
    Calls Tryz.prog 54 #[.pointer (some ⟨hb, 0, none⟩), .slice p m c] w fun e w' => e = .returned (.tuple #[]) ∧ w.grownBy w' (some hb) ∧ HH w' hb g (n + pos ln m) own := by
  have H0w : B ≤ w.heap.size := by obtain ⟨op, hs, _⟩ := h; have := hs.lt; omega
  have HK := Lib.hid hk
  have H0 := Lib.hid h
  have HR := Lib.hid hr
  have HN := Lib.hid hn
  have HGG := Lib.hid hg
  clear hk h hr hn hg
  go_enter Tryz.func54, Tryz.ntmps54
  go_wp2
  go_loopw [8] (fun i wr => ∃ k : Nat, k ≤ m ∧ i = .int .i64 (k : Int) ∧ HH wr hb g (n + pos ln k) own ∧ w.grownBy wr (some hb)) (fun i _ => (m - intOf i).toNat)
  case atStart => exact ⟨0, Nat.zero_le _, rfl, H0.out, World.grownBy.refl _ _⟩
  case round =>
    obtain ⟨k, hk, rfl, hh, hgr⟩ := hrel
    by_cases hlt : k < m
    · have hrr := HR.out.gr hgr
      obtain ⟨b, off, rfl, hcell⟩ := hrr.rows.at hlt
      have HRR := Lib.hid hrr
      have H1 := Lib.hid hh
      have HG := Lib.hid hgr
      have HL := Lib.hid (show n + pos ln k + ln k ≤ 4294967296 from by have := pos_mono ln (show k + 1 ≤ m by omega); simp only [pos] at this; have := HN.out; omega)
      clear hrr hh hgr
      go_wp2_with fail
      refine (put_bytes B wr hb g (n + pos ln k) own (P k) (ln k) (C k) (HK.out.below (gr_below HG.out hB H0w)) hB H1.out HL.out (HRR.out.cap k hlt).1 (HRR.out.cap k hlt).2 ((HRR.out.row k hlt).congr fun j hj => by rw [HGG.out k hlt j hj])).mono ?_
      rintro e w2 ⟨rfl, hg2, hh2⟩
      have H2 := Lib.hid hh2
      have HG2 := Lib.hid (HG.out.trans hg2)
      clear hh2 hg2 hcell
      go_wp2
      go_roundw
      case rel => exact ⟨k + 1, by omega, by go_num, by simp only [pos]; rw [← Nat.add_assoc]; exact H2.out, HG2.out⟩
      case measure => simp [intOf]; omega
    · obtain rfl : k = m := by omega
      have H9 := Lib.hid hh
      clear hh
      go_wp2
      go_end0
      exact ⟨rfl, hgr, H9.out⟩

theorem HH.own {w : World} {hb n : Nat} {g : Nat → BitVec 8} {own : Option Addr} (h : HH w hb g n own) : ∃ st op, HS w hb st op n own := let ⟨op, hs, _⟩ := h; ⟨_, op, hs⟩
end Go.Proofs.YtejknkgbkkdaiaaGreatDoor

namespace Go.Proofs.YtejknkgbkkdaiaaGreatDoor
open Go.RowKit
set_option linter.unusedSimpArgs false
set_option linter.unusedVariables false

theorem HH.filled {w : World} {hb n : Nat} {g : Nat → BitVec 8} {own : Option Addr} (h : HH w hb g n own) : HH w hb (fillB g n) n own := by
  obtain ⟨op, hs, hop⟩ := h
  refine ⟨op, ?_, fun j hj => ?_⟩
  · rw [← mid_congr (g := g) (n / 64) (fun i hi => by unfold fillB; rw [if_pos (by omega)])]; exact hs
  · rw [hop j hj]; unfold fillB; rw [if_pos (by omega)]
theorem fill_at (g : Nat → BitVec 8) (n : Nat) : fillB g n n = 128#8 := by unfold fillB; rw [if_neg (by omega), if_pos rfl]
theorem fill_mid (g : Nat → BitVec 8) (n k : Nat) (h1 : n < k) (h2 : k < full n - 8) : fillB g n k = 0#8 := by unfold fillB; rw [if_neg (by omega), if_neg (by omega), if_pos h2]
theorem fill_end (g : Nat → BitVec 8) (n i : Nat) (hi : i < 8) : fillB g n (full n - 8 + i) = wb (lenw n) i := by
  unfold fillB full
  rw [if_neg (by omega), if_neg (by omega), if_neg (by omega)]; congr 1; omega
/-- the length that a hasher's cells tell -/
def lenAt (hb : Nat) (w : World) : Nat :=
  match w.cell? ⟨hb, 72, none⟩ with
  | some (.int _ q) => q.toNat
  | _ => 0
theorem HH.lenAt {w : World} {hb n : Nat} {g : Nat → BitVec 8} {own : Option Addr} (h : HH w hb g n own) : lenAt hb w = n := by
  obtain ⟨op, hs, _⟩ := h
  unfold Go.Proofs.YtejknkgbkkdaiaaGreatDoor.lenAt
  rw [hs.len]; simp

set_option maxHeartbeats 2000000 in
set_option maxRecDepth 100000 in
theorem end_any (B : Nat) (w : World) (hb : Nat) (g : Nat → BitVec 8) (n : Nat) (own : Option Addr) (hk : Kc B w) (hB : B ≤ hb) (h : HH w hb g n own) (hn : n ≤ 2147483648) :
    Calls Tryz.prog 79 #[.pointer (some ⟨hb, 0, none⟩)] w fun e w' => e = .returned (.tuple #[]) ∧ w.grownBy w' (some hb) ∧ HH w' hb (fillB g n) (full n) own := by
  have H0 := Lib.hid h.filled
  obtain ⟨op, hs, _⟩ := h
  have hlen := hs.len
  have hlt := hs.lt
  have HK := Lib.hid hk
  have e1 : IntKind.u64.wrap (n : Int) = (n : Int) := by rw [IntKind.wrap_u64]; omega
  have e2 : IntKind.u64.wrap ((n : Int) * 8) = (n : Int) * 8 := by rw [IntKind.wrap_u64]; omega
  clear hk hs
  go_enter Tryz.func79, Tryz.ntmps79
  go_wp2_with fail
  have hw0 : ((n : Int) * 8 / 4294967296) = u (lenw n 0) := by
    show _ = u (BitVec.ofNat 32 (8 * n / 4294967296))
    unfold u; rw [BitVec.toNat_ofNat, Nat.mod_eq_of_lt (by omega)]; omega
  have hw1 : ((n : Int) * 8 % 4294967296) = u (lenw n 1) := by
    show _ = u (BitVec.ofNat 32 (8 * n))
    unfold u; rw [BitVec.toNat_ofNat]; omega
  refine (bytes_any (some ⟨w.heap.size, 0, none⟩) 2 2 (lenw n) _ (by omega) ((reads_laid (H := w.heap.size) (t := 96) (laid_at rfl) (fun i hi => by
    match i, hi with
    | 0, _ => rw [← hw0]; rfl
    | 1, _ => rw [← hw1]; rfl)).mono (by simp))).mono ?_
  rintro e w1 ⟨v, rfl, hb1, hown⟩
  have hown1 := own_mono hown (show w.heap.size + 1 ≤ _ by simp)
  obtain ⟨p1, c1, rfl, hrd1, hcap1⟩ := owns_reads hown1
  have hg1 : w.grownBy w1 (some hb) := (World.grownBy_alloc w _ _).trans (below_gr hb1 _)
  have hh1 := H0.out
  have hh1' : HH w1 hb (fillB g n) n own := let ⟨op, hs, ho⟩ := hh1; ⟨op, hs.gr (World.grownBy_alloc w _ none |>.trans (below_gr hb1 none)) (by simp), ho⟩
  have hb1lt : hb < w1.heap.size := by have := hb1.size; simp at this; omega
  have hB1 : B ≤ w1.heap.size := by have := hb1.size; simp at this; omega
  have hk1 : Kc B w1 := HK.out.below (gr_below hg1 hB (by omega))
  have hx1 : RX hb w1 p1 (4 * 2) (fun i => .int .u8 (ub (wb (lenw n) i))) := by
    rcases hown1.2 with ⟨h, _⟩ | ⟨gb, cap, cur, h, h1, h2, _⟩
    · cases h
    · cases h
      rcases hrd1 with h0 | ⟨b, off, h0, h3, h4⟩
      · omega
      · cases h0
        exact .inr ⟨_, _, rfl, by omega, h3, h4⟩
  have HX1 := Lib.hid hx1
  have HH1 := Lib.hid hh1'
  have HG1 := Lib.hid hg1
  have HK1 := Lib.hid hk1
  clear hown hown1 hrd1 hg1 hh1 hh1' hk1 hx1 hw0 hw1 hb1 hlen e1 e2
  go_wp2_with fail
  refine (put_bytes B (w1.alloc _) hb (fillB g n) n own (some ⟨w1.heap.size, 0, none⟩) 1 1 (HK1.out.below ((Below.refl _ _).alloc hB1 _)) hB (let ⟨op, hs, ho⟩ := HH1.out; ⟨op, hs.alloc _, ho⟩) (by omega) (by omega) (by decide)
    (.inr ⟨w1.heap.size, 0, rfl, by omega, by simp, fun i hi => by
      rw [show i = 0 by omega, cell_of_row _ w1.heap.size (0 + 0) _ _ (0, 0) (laid_at rfl)]
      show _ = some (Value.int .u8 (ub (fillB g n n)))
      rw [fill_at]; rfl⟩)).mono ?_
  rintro e w2 ⟨rfl, hg2, hh2⟩
  have HH2 := Lib.hid hh2
  have HG2 := Lib.hid ((World.grownBy_alloc w1 _ _).trans hg2)
  clear hh2 hg2
  have hz2 : ∃ z : Nat, z = w2.heap.size := ⟨_, rfl⟩
  go_wp2
  go_loopw [] (fun wr => ∃ k : Nat, n < k ∧ k ≤ full n - 8 ∧ HH wr hb (fillB g n) k own ∧ w1.grownBy wr (some hb)) (fun wr => full n - lenAt hb wr)
  case atStart => exact ⟨n + 1, by omega, by unfold full; omega, HH2.out, HG2.out⟩
  case round =>
    obtain ⟨k, hk1, hk2, hh, hg⟩ := hrel
    have hlen : ∃ op, HS wr hb (mid (fillB g n) (k / 64)) op k own := let ⟨op, hs, _⟩ := hh; ⟨op, hs⟩
    obtain ⟨op2, hs2⟩ := hlen
    have hcl := hs2.len
    have hltr := hs2.lt
    have hla := hh.lenAt
    have s1 : IntKind.i64.wrap ((k : Int) + 8) = (k : Int) + 8 := IntWalk.i64_in _ (by unfold full at hk2; omega)
    have HHk := Lib.hid hh
    have HGk := Lib.hid hg
    have HLA := Lib.hid hla
    have HF := Lib.hid (show full n = 64 * ((n + 8) / 64 + 1) from rfl)
    clear hs2 hh hg hla
    by_cases hmore : k < full n - 8
    · have hz : (((k : Int) + 8) % 64 != 0) = true := by simp; have := HF.out; omega
      go_wp2_with fail
      refine (put_bytes B (wr.alloc _) hb (fillB g n) k own (some ⟨wr.heap.size, 0, none⟩) 1 1 ((HK1.out.below (gr_below HGk.out hB hB1)).below ((Below.refl _ _).alloc (by have := HGk.out.size; omega) _)) hB (let ⟨op, hs, ho⟩ := HHk.out; ⟨op, hs.alloc _, ho⟩) (by have := HF.out; omega) (by omega) (by decide)
        (.inr ⟨wr.heap.size, 0, rfl, by omega, by simp, fun i hi => by
          rw [show i = 0 by omega, cell_of_row _ wr.heap.size (0 + 0) _ _ (0, 0) (laid_at rfl)]
          show _ = some (Value.int .u8 (ub (fillB g n k)))
          rw [fill_mid g n k hk1 hmore]; rfl⟩)).mono ?_
      rintro e w3 ⟨rfl, hg3, hh3⟩
      have HH3 := Lib.hid hh3
      have HG3 := Lib.hid ((HGk.out.trans (World.grownBy_alloc wr _ _)).trans hg3)
      clear hh3 hg3 hcl hz s1
      go_wp2
      go_roundw
      case rel => exact ⟨k + 1, by omega, by omega, HH3.out, HG3.out⟩
      case measure => rw [HLA.out, HH3.out.lenAt]; have := HF.out; omega
    · have hk3 : k = full n - 8 := by omega
      have HP := Lib.hid (show Calls Tryz.prog 77 #[.pointer (some ⟨hb, 0, none⟩), .slice p1 8 c1] wr fun e w' => e = .returned (.tuple #[]) ∧ wr.grownBy w' (some hb) ∧ HH w' hb (fillB g n) (full n) own by
        have h := put_bytes B wr hb (fillB g n) k own p1 8 c1 (HK1.out.below (gr_below HGk.out hB hB1)) hB HHk.out (by have := HF.out; omega) hcap1.1 hcap1.2 ((HX1.out.gr HGk.out).congr fun i hi => by rw [hk3, fill_end g n i hi])
        rw [show k + 8 = full n by have := HF.out; omega] at h
        exact h)
      have hz : (((k : Int) + 8) % 64 != 0) = false := by simp; have := HF.out; omega
      clear hk3
      go_wp2_with fail
      refine (HP.out).mono ?_
      rintro e w3 ⟨rfl, hg3, hh3⟩
      have HH3 := Lib.hid hh3
      have HG3 := Lib.hid ((HG1.out.trans HGk.out).trans hg3)
      clear hh3 hg3 hcl hz s1
      go_wp2
      go_end0
      exact ⟨rfl, HG3.out, HH3.out⟩
end Go.Proofs.YtejknkgbkkdaiaaGreatDoor
