/-
  Merged: Bt, Bu, Bv, Bw, By, Ref, LentLimbs, Rules, Turns, BV, Slices.
-/
import Derived.Test.YtkdhkljnpalajaaG5
import Derived.Test.YtkdhkljnpalajaaBx
import Derived.Test.YtkdhkljnpalajaaG2
import Derived.ProofKit
import Derived.OpenShut
import Derived.Test.YtkdhkljnpalajaaRows
import Derived.LaidLaws
import Derived.Handed
import Derived.Deep.Slices
import Derived.Deep.Fields
import Derived.Deep.Matrix
import Derived.ChangeSame
import Derived.Deep.DeepLaidRun

namespace Go.Proofs.Ytkdhkljnpalajaa
open Go.RowKit Go.Sort
set_option linter.unusedSimpArgs false
set_option linter.unusedVariables false

end Go.Proofs.Ytkdhkljnpalajaa

namespace Go.Proofs.Ytkdhkljnpalajaa
open Go.RowKit Go.Sort
set_option linter.unusedSimpArgs false
set_option linter.unusedVariables false

end Go.Proofs.Ytkdhkljnpalajaa

namespace Go.Proofs.Ytkdhkljnpalajaa
open Go.RowKit Go.Sort
set_option linter.unusedSimpArgs false
set_option linter.unusedVariables false

end Go.Proofs.Ytkdhkljnpalajaa

namespace Go.Proofs.Ytkdhkljnpalajaa
open Go.RowKit Go.Sort
set_option linter.unusedSimpArgs false
set_option linter.unusedVariables false

end Go.Proofs.Ytkdhkljnpalajaa

namespace Go.Proofs.Ytkdhkljnpalajaa
open Go.RowKit Go.Sort
set_option linter.unusedSimpArgs false
set_option linter.unusedVariables false

theorem tmod_pos (n : Int) (hn : 0 < n) (a : Int) : a % n = if a.tmod n < 0 then a.tmod n + n else a.tmod n := by
  rcases Int.lt_or_le a 0 with h | h
  · have e : a.tmod n = -((-a) % n) := by
      rw [← Int.tmod_eq_emod_of_nonneg (show 0 ≤ -a by omega), Int.neg_tmod, Int.neg_neg]
    rw [e]
    have h1 := Int.emod_nonneg (-a) (show n ≠ 0 by omega)
    have h2 := Int.emod_lt_of_pos (-a) hn
    have h5 := Int.emod_add_mul_ediv (-a) n
    by_cases h0 : (-a) % n = 0
    · rw [h0, if_neg (by omega)]
      have h3 : n ∣ -a := Int.dvd_of_emod_eq_zero h0
      have h4 : n ∣ a := (Int.dvd_neg).1 h3
      rw [Int.emod_eq_zero_of_dvd h4]; rfl
    · rw [if_pos (by omega)]
      have h6 : a = (n - (-a) % n) + n * (-((-a) / n) - 1) := by rw [Int.mul_sub, Int.mul_neg]; omega
      rw [h6, Int.add_mul_emod_self_left, Int.emod_eq_of_lt (by omega) (by omega)]
      rw [← h6]; omega
  · rw [Int.tmod_eq_emod_of_nonneg h]
    have h1 := Int.emod_nonneg a (show n ≠ 0 by omega)
    rw [if_neg (by omega)]
end Go.Proofs.Ytkdhkljnpalajaa

namespace Go.Proofs.Ytkdhkljnpalajaa
open Go.RowKit
set_option linter.unusedSimpArgs false
set_option linter.unusedVariables false

theorem u_tmod2 (x : BitVec 32) : (u x).tmod 2 = u x % 2 := Int.tmod_eq_emod_of_nonneg (u_lo x)
theorem u_odd (x : BitVec 32) : (u x % 2 == 1) = x.getLsbD 0 := by
  unfold u
  have h : x.getLsbD 0 = decide (x.toNat % 2 = 1) := by
    rw [BitVec.getLsbD, Nat.testBit_zero]
  rw [h, Bool.eq_iff_iff]
  simp; omega
attribute [go_sem] u_tmod2 u_odd

theorem u_addmod (a b : BitVec 32) : (u a + u b) % 4294967296 = u (a + b) := by
  unfold u; rw [BitVec.toNat_add]; omega
theorem u_keep (a : BitVec 32) : IntKind.u32.wrap (u a) = u a := by
  unfold u; rw [IntKind.wrap_u32]; have := a.isLt; omega
attribute [go_sem] u_addmod u_keep

end Go.Proofs.Ytkdhkljnpalajaa

namespace Go.Proofs.Ytkdhkljnpalajaa.LentLimbs
open Go.RowKit
set_option linter.unusedSimpArgs false
set_option linter.unusedVariables false

/-- what stands behind the list's own elements -/
def mk (i : Nat) : Int := 8000024 + (i : Int)
end Go.Proofs.Ytkdhkljnpalajaa.LentLimbs

namespace Go.Proofs.Ytkdhkljnpalajaa
open Go.RowKit
set_option linter.unusedSimpArgs false
set_option linter.unusedVariables false

end Go.Proofs.Ytkdhkljnpalajaa

namespace Go.Proofs.Ytkdhkljnpalajaa
open Go.RowKit Go.ChangeShapes Go.WideShapes
set_option linter.unusedSimpArgs false
set_option linter.unusedVariables false

/-- a slice of numbers that came in, as the guide's shell tells it -/
theorem row_reads {k : IntKind} {w : World} {a : Option Addr} {len cap : Nat} {zs : List Int} (h : (a = none ∧ len = 0 ∧ cap = 0 ∧ zs = []) ∨
    ∃ x, a = some x ∧ len ≤ cap ∧ cap ≤ maxLen ∧ zs.length = cap ∧ (∀ i, i < zs.length → w.cell? (x.add i) = some (.int k (zs.getD i 0))) ∧ ∀ n ∈ zs, (Lit.int k n).wf = true) :
    Reads w.heap.size w a len (fun i => .int k (zs.getD i 0)) ∧ (a = none → len = 0 ∧ cap = 0) ∧ len ≤ maxLen ∧ ∀ i, i < len → (Lit.int k (zs.getD i 0)).wf = true := by
  rcases h with ⟨rfl, rfl, rfl, rfl⟩ | ⟨x, rfl, h1, h2, h3, h4, h5⟩
  · exact ⟨.inl rfl, fun _ => ⟨rfl, rfl⟩, by unfold maxLen; omega, fun i hi => by omega⟩
  · refine ⟨?_, fun e => (by cases e), Nat.le_trans h1 h2, fun i hi => h5 _ ?_⟩
    · by_cases h0 : len = 0
      · exact .inl h0
      · obtain ⟨b, off, rfl, hc⟩ := ints_at h4 (by omega)
        refine .inr ⟨b, off, rfl, ?_, fun i hi => hc i (by omega)⟩
        exact World.block_lt_of_cell? w ⟨b, off + 0, none⟩ (hc 0 (by omega))
    · have : zs.getD i 0 = zs[i] := by simp [List.getD, show i < zs.length by omega]
      rw [this]; exact List.getElem_mem _
end Go.Proofs.Ytkdhkljnpalajaa

namespace Go.Proofs.Ytkdhkljnpalajaa
open Go.RowKit Go.ChangeShapes Go.WideShapes
set_option linter.unusedSimpArgs false
set_option linter.unusedVariables false

section
variable {H : Type} {enc : TypeId × Value → H} {w : World} {base : Nat}
theorem one_int {sp : Nat → Bool} {held : Bool} {fuel : Nat} {t : TypeId} {cs : List Value} {x : DataW H × List MemPlace} {o : Nat} (ht : Try.prog.underlying t = some (.int .i64)) (hc : Try.prog.cellsOf t = 1)
    (h : DataW.trod enc Try.prog w base sp held fuel t ((cs.drop o).take (Try.prog.cellsOf t)) = some x) : ∃ z, cs[o]? = some (.int .i64 z) ∧ (Lit.int .i64 z).wf = true := by
  obtain ⟨z, hz, _, hw⟩ := DataW.trod_int ht h
  rw [hc] at hz
  refine ⟨z, ?_, hw⟩
  have := congrArg (·[0]?) hz
  simpa [List.getElem?_take, List.getElem?_drop] using this
theorem piece_ints {sp : Nat → Bool} {held : Bool} {fuel : Nat} {cs : List Value} {x : DataW H × List MemPlace} (h : DataW.trod enc Try.prog w base sp held fuel 25 cs = some x) :
    (∃ z, cs[0]? = some (.int .i64 z) ∧ (Lit.int .i64 z).wf = true) ∧ ∃ z, cs[1]? = some (.int .i64 z) ∧ (Lit.int .i64 z).wf = true := by
  obtain ⟨xs, n, _, rfl, hl, hlen, hf⟩ := DataW.trod_struct Try.underlying25 h
  match xs, hlen with
  | [y0, y1], _ =>
    exact ⟨one_int Try.underlying22 (by kernel_rfl) (hf 0 _ rfl), one_int Try.underlying23 (by kernel_rfl) (hf 1 _ rfl)⟩
set_option maxRecDepth 100000 in
theorem view_pos {r : Reach} {b0 : Nat} {v : Value} {d : DataW H} {p : List MemPlace} (hv : Value.okWide Try.prog w r b0 29 v) (h : DataW.Trod enc Try.prog w base (fun _ => true) true 29 v d p) : ∃ P, v = .agg (pc P).toArray := by
  have hu := Try.underlying29
  simp only [Value.okWide, hu] at hv
  obtain ⟨cs, rfl, hs, _⟩ := hv
  rw [show Try.prog.cellsOf 29 = 133 by kernel_rfl] at hs
  obtain ⟨fuel, hf⟩ := h
  obtain ⟨xs, n, _, _, hl, hlen, hfs⟩ := DataW.trod_struct hu hf
  have key : ∀ i, i < 133 → ∃ z, cs.toList[i]? = some (.int .i64 z) := fun i hi => by
    simp only [Value.cells] at hfs
    match xs, hlen with
    | [y0, y1, y2, y3, y4, y5], _ =>
      by_cases h128 : i < 128
      · have hf0 : DataW.trod enc Try.prog w base (fun _ => true) true n 26 ((cs.toList.drop 0).take (Try.prog.cellsOf 26)) = some y0 := hfs 0 _ rfl
        obtain ⟨ys, m, _, _, _, hyl, hat⟩ := DataW.trod_array Try.underlying26 hf0
        have h1 := hat (i / 2) (by omega)
        have hx : ys[i / 2]? = some (ys[i / 2]'(by omega)) := List.getElem?_eq_getElem (by omega)
        obtain ⟨⟨a, ha, _⟩, ⟨b, hb, _⟩⟩ := piece_ints (h1.trans hx)
        rw [show Try.prog.cellsOf 25 = 2 by kernel_rfl, show Try.prog.cellsOf 26 = 128 by kernel_rfl] at ha hb
        simp only [List.getElem?_take, List.getElem?_drop, Nat.zero_add, Nat.add_zero, List.drop_zero] at ha hb
        rcases (show i = i / 2 * 2 ∨ i = i / 2 * 2 + 1 by omega) with e | e
        · refine ⟨a, ?_⟩
          rw [e]
          have hlt : i / 2 * 2 < 128 := by omega
          simpa [hlt] using ha
        · refine ⟨b, ?_⟩
          rw [e]
          have hlt : i / 2 * 2 + 1 < 128 := by omega
          simpa [hlt] using hb
      · rcases (show i = 128 ∨ i = 129 ∨ i = 130 ∨ i = 131 ∨ i = 132 by omega) with rfl | rfl | rfl | rfl | rfl
        · obtain ⟨z, hz, _⟩ := one_int Try.underlying23 (by kernel_rfl) (hfs 1 _ rfl); exact ⟨z, hz⟩
        · obtain ⟨z, hz, _⟩ := one_int Try.underlying27 (by kernel_rfl) (hfs 2 _ rfl); exact ⟨z, hz⟩
        · obtain ⟨z, hz, _⟩ := one_int Try.underlying3 (by kernel_rfl) (hfs 3 _ rfl); exact ⟨z, hz⟩
        · obtain ⟨z, hz, _⟩ := one_int Try.underlying3 (by kernel_rfl) (hfs 4 _ rfl); exact ⟨z, hz⟩
        · obtain ⟨z, hz, _⟩ := one_int Try.underlying3 (by kernel_rfl) (hfs 5 _ rfl); exact ⟨z, hz⟩
  obtain ⟨Z, hZ⟩ := Go.Deep.choose_lt key
  refine ⟨Z, ?_⟩
  congr 1
  apply Array.ext_getElem?
  intro i
  by_cases hi : i < 133
  · have e : cs[i]? = some (.int .i64 (Z i)) := by rw [← Array.getElem?_toList]; exact hZ i hi
    rw [e, List.getElem?_toArray, pc_get _ _ hi]
  · rw [Array.getElem?_eq_none (by omega), Array.getElem?_eq_none (by rw [pc_size]; omega)]
theorem view_nums {r : Reach} {b0 : Nat} {v : Value} {d : DataW H} {p : List MemPlace} (hv : Value.okWide Try.prog w r b0 43 v) (h : DataW.Trod enc Try.prog w base (fun _ => true) true 43 v d p) :
    ∃ (a : Option Addr) (len cap : Nat) (f : Nat → Int), v = .slice a len cap ∧ Reads w.heap.size w a len (fun i => .int .i64 (f i)) ∧ (a = none → len = 0 ∧ cap = 0) := by
  obtain ⟨a, len, cap, rfl⟩ := okWide_slice Try.underlying43 hv
  obtain ⟨fuel, hf⟩ := h
  rcases open_ints Try.underlying43 Try.underlying3 (by kernel_rfl) hf with ⟨hcs, _⟩ | ⟨x, l, c, zs, hcs, _, hl, hm, hlz, hx, hcell, hwz⟩
  · simp [Value.cells] at hcs
    obtain ⟨rfl, rfl, rfl⟩ := hcs
    exact ⟨none, 0, 0, fun _ => 0, rfl, .inl rfl, fun _ => ⟨rfl, rfl⟩⟩
  · simp [Value.cells] at hcs
    obtain ⟨rfl, rfl, rfl⟩ := hcs
    obtain ⟨r1, _, _, r4⟩ := row_reads (k := .i64) (w := w) (a := some x) (len := len) (cap := cap) (zs := zs) (.inr ⟨x, rfl, hl, hm, by simpa using hlz, hcell, hwz⟩)
    exact ⟨some x, len, cap, _, rfl, r1, fun e => by cases e⟩
end

/-! ### what the row lays -/
end Go.Proofs.Ytkdhkljnpalajaa

namespace Go.Proofs.Ytkdhkljnpalajaa
open Go.RowKit
set_option linter.unusedVariables false
set_option linter.unusedSimpArgs false

theorem infoU8 : (Try.prog.info? 5).map (·.size) = some 1 := by kernel_rfl
theorem piece_addr {B : Nat} {W : World} {p : Option Addr} {n c q : Nat} {f : Nat → Value} (hc : n ≤ c) (m : Nat) (hq : q + m ≤ n) (x : Nat) (hx : x ≤ c) (hxm : q + m ≤ x) (hr : Reads B W p n f) :
    Reads B W (if x = q then p else p.map (·.add (q * 1))) m (fun i => f (q + i)) := by
  by_cases hm : m = 0
  · exact .inl hm
  · rcases hr with h | ⟨b, off, rfl, hb, hcell⟩
    · omega
    · rw [if_neg (by omega)]
      refine .inr ⟨b, off + q, ?_, hb, fun i hi => ?_⟩
      · simp [Addr.add_lit]
      · rw [Nat.add_assoc]; exact hcell (q + i) (by omega)
end Go.Proofs.Ytkdhkljnpalajaa
