/-
  Contracts: rows are put into a hasher.
-/
import Derived.Test.YtoocfkaclhgjeaaDoorTake
namespace Go.Proofs.YtoocfkaclhgjeaaDoor
open Go.RowKit
set_option linter.unusedSimpArgs false
set_option linter.unusedVariables false

/-- n elements that are read through p, in another block than the hasher's -/
def RX (hb : Nat) (w : World) (p : Option Addr) (n : Nat) (f : Nat → Value) : Prop :=
  n = 0 ∨ ∃ b off, p = some ⟨b, off, none⟩ ∧ b ≠ hb ∧ b < w.heap.size ∧ ∀ i, i < n → w.cell? ⟨b, off + i, none⟩ = some (f i)
theorem RX.gr {hb : Nat} {w w' : World} {p : Option Addr} {n : Nat} {f : Nat → Value} (h : RX hb w p n f) (g : w.grownBy w' (some hb)) : RX hb w' p n f := by
  rcases h with h | ⟨b, off, h1, h2, h3, h4⟩
  · exact .inl h
  · exact .inr ⟨b, off, h1, h2, Nat.lt_of_lt_of_le h3 g.size, fun i hi => (World.cell?_of_block (a := ⟨b, off + i, none⟩) (g.block b h3 (by simpa using h2))).trans (h4 i hi)⟩
theorem Reads.rx {B hb : Nat} {w : World} {p : Option Addr} {n : Nat} {f : Nat → Value} (h : Reads B w p n f) (hB : B ≤ hb) (hs : hb < w.heap.size) : RX hb w p n f := by
  rcases h with h | ⟨b, off, h1, h2, h3⟩
  · exact .inl h
  · exact .inr ⟨b, off, h1, by omega, by omega, h3⟩
theorem RX.congr {hb : Nat} {w : World} {p : Option Addr} {n : Nat} {f g : Nat → Value} (h : RX hb w p n f) (e : ∀ i, i < n → f i = g i) : RX hb w p n g := by
  rcases h with h | ⟨b, off, h1, h2, h3, h4⟩
  · exact .inl h
  · exact .inr ⟨b, off, h1, h2, h3, fun i hi => by rw [← e i hi]; exact h4 i hi⟩
/-- the open block, of which some bytes are laid anew -/
def over8 (op : Nat → BitVec 8) (lo cnt : Nat) (f : Nat → BitVec 8) : Nat → BitVec 8 := fun j => if lo ≤ j ∧ j < lo + cnt then f (j - lo) else op j

/-- how many elements are left -/
def restOf : Value → Nat
  | .slice _ q _ => q
  | _ => 0
theorem HH.some_more {w : World} {hb n k r cnt lo : Nat} {g : Nat → BitVec 8} {op : Nat → BitVec 8} {own : Option Addr} (hr : r = n + k) (hlo : r % 64 = lo) (hop : ∀ j, j < lo → op j = g (64 * (r / 64) + j)) (hlt : lo + cnt < 64)
    (h : HS w hb (mid g (r / 64)) (over8 op lo cnt fun i => g (r + i)) (r + cnt) own) : HH w hb g (n + (k + cnt)) own := by
  rw [show n + (k + cnt) = r + cnt by omega]
  refine ⟨over8 op lo cnt fun i => g (r + i), ?_, fun j hj => ?_⟩
  · rw [show (r + cnt) / 64 = r / 64 by omega]; exact h
  · rw [show (r + cnt) / 64 = r / 64 by omega]
    unfold over8
    by_cases h1 : lo ≤ j ∧ j < lo + cnt
    · rw [if_pos h1]; show g (r + (j - lo)) = _; rw [show r + (j - lo) = 64 * (r / 64) + j by omega]
    · rw [if_neg h1]; exact hop j (by omega)
theorem HH.whole {w : World} {hb n k r cnt lo : Nat} {g : Nat → BitVec 8} {op : Nat → BitVec 8} {own : Option Addr} (hr : r = n + k) (hlo : r % 64 = lo) (hop : ∀ j, j < lo → op j = g (64 * (r / 64) + j)) (hlt : lo + cnt = 64)
    (h : HS w hb (comp (mid g (r / 64)) (over8 op lo cnt fun i => g (r + i))) (over8 op lo cnt fun i => g (r + i)) (r + cnt) own) : HH w hb g (n + (k + cnt)) own := by
  rw [show n + (k + cnt) = r + cnt by omega]
  refine ⟨over8 op lo cnt fun i => g (r + i), ?_, fun j hj => by omega⟩
  have e : comp (mid g (r / 64)) (over8 op lo cnt fun i => g (r + i)) = mid g (r / 64 + 1) := by
    show _ = comp (mid g (r / 64)) (blk g (r / 64))
    refine comp_congr _ fun j hj => ?_
    unfold over8 blk
    by_cases h1 : lo ≤ j ∧ j < lo + cnt
    · rw [if_pos h1]; show g (r + (j - lo)) = _; rw [show r + (j - lo) = 64 * (r / 64) + j by omega]
    · rw [if_neg h1]; exact hop j (by omega)
  rw [show (r + cnt) / 64 = r / 64 + 1 by omega, ← e]
  exact h
theorem RX.skip {hb : Nat} {w : World} {b off q cnt r k n : Nat} {g : Nat → BitVec 8} (h : RX hb w (some ⟨b, off, none⟩) q (fun i => .int .u8 (ub (g (r + i))))) (hr : r = n + k) (hc : cnt ≤ q) :
    RX hb w (some ⟨b, off + cnt, none⟩) (q - cnt) (fun i => .int .u8 (ub (g (n + (k + cnt) + i)))) := by
  rcases h with h | ⟨b', off', h1, h2, h3, h4⟩
  · exact .inl (by omega)
  · cases h1
    refine .inr ⟨b, off + cnt, rfl, h2, h3, fun i hi => ?_⟩
    rw [Nat.add_assoc, h4 (cnt + i) (by omega)]
    show some (Value.int .u8 (ub (g (r + (cnt + i))))) = some (Value.int .u8 (ub (g (n + (k + cnt) + i))))
    rw [show n + (k + cnt) + i = r + (cnt + i) by omega]

set_option maxHeartbeats 4000000 in
set_option maxRecDepth 100000 in
theorem put_bytes (B : Nat) (w : World) (hb : Nat) (g : Nat → BitVec 8) (n : Nat) (own : Option Addr) (p : Option Addr) (m c : Nat) (hk : Kc B w) (hB : B ≤ hb) (h : HH w hb g n own) (hn : n + m ≤ 4294967296) (hc : m ≤ c) (hcm : c ≤ maxLen)
    (hr : RX hb w p m (fun i => .int .u8 (ub (g (n + i))))) :
    Calls Tryd.prog 54 #[.pointer (some ⟨hb, 0, none⟩), .slice p m c] w fun e w' => e = .returned (.tuple #[]) ∧ w.grownBy w' (some hb) ∧ HH w' hb g (n + m) own := by
  have HK := Lib.hid hk
  have H0 := Lib.hid h
  have HR0 := Lib.hid hr
  clear hk h hr
  unfold maxLen at hcm
  have H0w : B ≤ w.heap.size := by obtain ⟨op, hs, _⟩ := H0.out; have := hs.lt; omega
  go_enter Tryd.func54, Tryd.ntmps54
  go_wp2
  go_loopw [1] (fun v wr => ∃ k q d : Nat, ∃ p' : Option Addr, k + q = m ∧ v = .slice p' q d ∧ q ≤ d ∧ d ≤ 9223372036854775807 ∧ RX hb wr p' q (fun i => .int .u8 (ub (g (n + k + i)))) ∧ HH wr hb g (n + k) own ∧ w.grownBy wr (some hb)) (fun v _ => restOf v)
  case atStart => exact ⟨0, m, c, p, by omega, rfl, hc, by omega, HR0.out, H0.out, World.grownBy.refl _ _⟩
  case round =>
    obtain ⟨k, q, d, p', hkq, rfl, hqd, hd48, hrx, hh, hgr⟩ := hrel
    by_cases hq : 0 < q
    · rcases hrx with h0 | ⟨b2, off2, rfl, hne, hb2, hc2⟩
      · omega
      obtain ⟨op, hs, hop⟩ := hh
      obtain ⟨r, hr⟩ : ∃ r, r = n + k := ⟨_, rfl⟩
      rw [← hr] at hs hop hc2
      have hlen := hs.len
      have hrr : (r : Int) % 64 = ((r % 64 : Nat) : Int) := by omega
      have hlo : r % 64 < 64 := by omega
      generalize hlo' : r % 64 = lo at *
      obtain ⟨cnt, hcnt⟩ : ∃ cnt, cnt = Nat.min q (64 - lo) := ⟨_, rfl⟩
      have hc1 : 0 < cnt ∧ cnt ≤ q ∧ lo + cnt ≤ 64 ∧ (cnt = q ∨ lo + cnt = 64) := by
        rw [hcnt]; show 0 < min q (64 - lo) ∧ min q (64 - lo) ≤ q ∧ lo + min q (64 - lo) ≤ 64 ∧ (min q (64 - lo) = q ∨ lo + min q (64 - lo) = 64)
        omega
      have hcp : ∀ ty, (Builtin.copy_ #[23, 23] ty #[.slice (some ⟨hb, 8 + lo, none⟩) (64 - lo) (64 - lo), .slice (some ⟨b2, off2, none⟩) q d]).run Tryd.prog wr.drew = .ok (goInt cnt) (wr.drew.setCells hb (8 + lo) ((List.range cnt).map fun i => .int .u8 (ub (g (r + i))))) := fun ty => by
        have := run_copy_cells (P := Tryd.prog) wr.drew 23 23 ty 5 hb (8 + lo) (64 - lo) (64 - lo) ⟨b2, off2, none⟩ q d ((List.range cnt).map fun i => .int .u8 (ub (g (r + i)))) Tryd.underlying23 (by kernel_rfl) (by simp [hcnt]) (fun j v hv => by
          have hj : j < cnt := by have := (List.getElem?_eq_some_iff.1 hv).1; simpa using this
          have e : wr.drew.cell? ⟨b2, off2 + j, none⟩ = _ := hc2 j (by omega)
          rw [Addr.add_mid, e, ← hv]; simp [hj]) (fun j hj => (hs.there (8 + lo) cnt (by omega) j (by simpa using hj)).1) (fun j hj => (hs.there (8 + lo) cnt (by omega) j (by simpa using hj)).2) (fun v hv => by
          obtain ⟨i, _, rfl⟩ := List.mem_map.1 hv
          rfl)
        simpa using this
      have hs2 : HS (wr.drew.setCells hb (8 + lo) ((List.range cnt).map fun i => .int .u8 (ub (g (r + i))))) hb (mid g (r / 64)) (over8 op lo cnt (fun i => g (r + i))) r own :=
        hs.drew.setBytes lo cnt hc1.2.2.1 _ (by apply List.map_congr_left; intro i hi; have := List.mem_range.1 hi; unfold over8; rw [if_pos (by omega), show lo + i - lo = i by omega]) (fun j hj => by unfold over8; rw [if_neg (by omega)])
      have hg2 : w.grownBy (wr.drew.setCells hb (8 + lo) ((List.range cnt).map fun i => .int .u8 (ub (g (r + i))))) (some hb) := (hgr.trans gr_drew).trans (gr_setCells _ _ _)
      have hx2 : RX hb (wr.drew.setCells hb (8 + lo) ((List.range cnt).map fun i => .int .u8 (ub (g (r + i))))) (some ⟨b2, off2, none⟩) q (fun i => .int .u8 (ub (g (r + i)))) :=
        RX.gr (RX.gr (.inr ⟨b2, off2, rfl, hne, hb2, hc2⟩) gr_drew) (gr_setCells _ _ _)
      generalize wr.drew.setCells hb (8 + lo) ((List.range cnt).map fun i => .int .u8 (ub (g (r + i)))) = w2 at hcp hs2 hg2 hx2
      have HR := Lib.hid hr
      have HS := Lib.hid hs2
      have HOP := Lib.hid hop
      have HX := Lib.hid hx2
      have HG := Lib.hid hg2
      have HCN := Lib.hid hcnt
      have HLO := Lib.hid hlo'
      have hb64 : ((lo : Int)).toNat = lo := by omega
      have l64 : (lo : Int) < 64 := by omega
      have l64' : (lo : Int) ≤ 64 := by omega
      clear hs hs2 hop hc2 hgr hg2 hx2 hcnt hr hlo'
      go_wp2
      go_region
      have hlen2 := HS.out.len
      have hfr2 := HS.out.free 72
      have sadd : IntKind.i64.wrap ((r : Int) + (cnt : Int)) = (r : Int) + (cnt : Int) := IntWalk.i64_in _ (by have := HR.out; omega)
      have lc : (cnt : Int) ≤ (q : Int) := by omega
      have lc2 : (q : Int) ≤ (d : Int) := by omega
      clear hcp hlen
      have hs3 := HS.out.setLen (r + cnt) (.int .i64 ((r : Int) + (cnt : Int))) (by simp)
      have hg3 := HG.out.trans (gr_setCell (hb := hb) (i := 72) (.int .i64 ((r : Int) + (cnt : Int))))
      have hx3 := HX.out.gr (gr_setCell (hb := hb) (i := 72) (.int .i64 ((r : Int) + (cnt : Int))))
      have HS3 := Lib.hid hs3
      have HG3 := Lib.hid hg3
      have HX3 := Lib.hid hx3
      have HK3 := Lib.hid (HK.out.below (gr_below hg3 hB H0w))
      clear hs3 hg3 hx3
      by_cases hfull : lo + cnt = 64
      · have hz : ((r : Int) + (cnt : Int)) % 64 = 0 := by omega
        have hu49 := Tryd.underlying74
        have hi49 := info64b
        by_cases hdc : d = cnt
        all_goals
          go_wp2
          go_region_held3 (fun w' => w'.rangeAt hb 8 ((List.range 64).map fun i => .int .u8 (ub (over8 op lo cnt (fun i => g (r + i)) i))))
            (first | exact HS3.out.drew.bytesAt | exact hs5.bytesAt)
            ((go_at_call 64; refine (take_any B _ hb (mid g (r / 64)) (over8 op lo cnt fun i => g (r + i)) (r + cnt) own (over8 op lo cnt fun i => g (r + i)) (HK3.out.below ((Below.refl _ _).drew)) hB HS3.out.drew).mono ?_; rintro e w5 ⟨rfl, hg5, hs5⟩))
          have HS5 := Lib.hid hs5
          have HG5 := Lib.hid ((HG3.out.trans gr_drew).trans hg5)
          have HX5 := Lib.hid ((HX3.out.gr gr_drew).gr hg5)
          clear hs5 hg5
          go_wp2
          go_roundw
          case rel => first
            | exact ⟨k + cnt, q - cnt, _, _, by omega, rfl, by omega, by omega, .inl (by omega), HH.whole HR.out HLO.out HOP.out hfull HS5.out, HG5.out⟩
            | exact ⟨k + cnt, q - cnt, _, _, by omega, rfl, by omega, by omega, HX5.out.skip HR.out hc1.2.1, HH.whole HR.out HLO.out HOP.out hfull HS5.out, HG5.out⟩
          case measure => simp [restOf]; omega
      · have hz : (((r : Int) + (cnt : Int)) % 64 == 0) = false := by simp; have := HR.out; omega
        by_cases hdc : d = cnt
        all_goals
          go_wp2
          go_roundw
          case rel => first
            | exact ⟨k + cnt, q - cnt, _, _, by omega, rfl, by omega, by omega, .inl (by omega), HH.some_more HR.out HLO.out HOP.out (by omega) HS3.out, HG3.out⟩
            | exact ⟨k + cnt, q - cnt, _, _, by omega, rfl, by omega, by omega, HX3.out.skip HR.out hc1.2.1, HH.some_more HR.out HLO.out HOP.out (by omega) HS3.out, HG3.out⟩
          case measure => simp [restOf]; omega
    · obtain rfl : q = 0 := by omega
      obtain rfl : k = m := by omega
      have HH9 := Lib.hid hh
      clear hrx hh
      go_wp2
      go_end0
      exact ⟨rfl, hgr, HH9.out⟩
end Go.Proofs.YtoocfkaclhgjeaaDoor
