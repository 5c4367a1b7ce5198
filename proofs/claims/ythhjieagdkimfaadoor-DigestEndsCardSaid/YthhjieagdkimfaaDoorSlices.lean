/-
  Pieces of rows of bytes: their values under one name each, and what they read as.
-/
import Derived.Test.YthhjieagdkimfaaDoorBits
namespace Go.Proofs.YthhjieagdkimfaaDoor
open Go.RowKit
set_option linter.unusedVariables false
set_option linter.unusedSimpArgs false

theorem sliceElem : Tryd.prog.underlying 27 = some (.slice (Tryd.prog.elem 27)) := by kernel_rfl
theorem sliceSize : Tryd.prog.elem 27 = 5 := by kernel_rfl
theorem infoU8 : (Tryd.prog.info? 5).map (·.size) = some 1 := by kernel_rfl
theorem sizeU8 (w : World) : (sizeOf 5).run Tryd.prog w = .ok 1 w := by
  cases hq : Tryd.prog.info? 5 with
  | none => have := infoU8; rw [hq] at this; cases this
  | some i =>
    have h := infoU8
    rw [hq] at h
    have hs : i.size = 1 := by simpa using h
    simp [sizeOf, typeInfo, hq, hs]
theorem piece_addr {B : Nat} {W : World} {p : Option Addr} {n c q : Nat} {f : Nat → Value} (hc : n ≤ c) (m : Nat) (hq : q + m ≤ n) (x : Nat) (hx : x ≤ c) (hxm : q + m ≤ x) (hr : Reads B W p n f) :
    Reads B W (if x = q then p else p.map (·.add (q * 1))) m (fun i => f (q + i)) := by
  by_cases hm : m = 0
  · exact .inl hm
  · rcases hr with h | ⟨b, off, rfl, hb, hcell⟩
    · omega
    · rw [if_neg (by omega)]
      refine .inr ⟨b, off + q, ?_, hb, fun i hi => ?_⟩
      · simp [Addr.add_lit]
      · rw [Nat.add_assoc]; exact hcell (q + i) (by omega)
/-- s[:q] -/
theorem slice_to (p : Option Addr) (n c q : Nat) (hq : q ≤ n) (hc : n ≤ c) :
    ∃ p1, (∀ W, (Instr.slice 27 (.slice p n c) none (some (.int .i64 (q : Int))) none).run Tryd.prog W = .ok (.slice p1 q c) W) ∧ ∀ B W f, Reads B W p n f → Reads B W p1 q f := by
  refine ⟨if c = 0 then p else p.map (·.add (0 * 1)), fun W => ?_, fun B W f hr => ?_⟩
  · rw [run_slice_h W 27 p n c sliceElem .i64 q (by omega) (by omega), sliceSize, sizeU8]
    simp [sliced]
  · have := piece_addr (q := 0) hc q (by omega) c (Nat.le_refl _) (by omega) hr
    simpa using this
/-- s[q:] -/
theorem slice_from (p : Option Addr) (n c q : Nat) (hq : q ≤ n) (hc : n ≤ c) :
    ∃ p1, (∀ W, (Instr.slice 27 (.slice p n c) (some (.int .i64 (q : Int))) none none).run Tryd.prog W = .ok (.slice p1 (n - q) (c - q)) W) ∧ ∀ B W f, Reads B W p n f → Reads B W p1 (n - q) (fun i => f (q + i)) := by
  refine ⟨if c = q then p else p.map (·.add (q * 1)), fun W => ?_, fun B W f hr => piece_addr hc (n - q) (by omega) c (Nat.le_refl _) (by omega) hr⟩
  rw [run_slice_l W 27 p n c sliceElem .i64 q (by omega) (by omega), sliceSize, sizeU8]
  simp [sliced]
/-- s[q:r] -/
theorem slice_mid (p : Option Addr) (n c q r : Nat) (hq : q ≤ r) (hr : r ≤ n) (hc : n ≤ c) :
    ∃ p1, (∀ W, (Instr.slice 27 (.slice p n c) (some (.int .i64 (q : Int))) (some (.int .i64 (r : Int))) none).run Tryd.prog W = .ok (.slice p1 (r - q) (c - q)) W) ∧ ∀ B W f, Reads B W p n f → Reads B W p1 (r - q) (fun i => f (q + i)) := by
  refine ⟨if c = q then p else p.map (·.add (q * 1)), fun W => ?_, fun B W f h => piece_addr hc (r - q) (by omega) c (Nat.le_refl _) (by omega) h⟩
  rw [run_slice_lh W 27 p n c sliceElem .i64 .i64 q r (by omega) (by omega) (by omega), sliceSize, sizeU8]
  simp [sliced]
end Go.Proofs.YthhjieagdkimfaaDoor
