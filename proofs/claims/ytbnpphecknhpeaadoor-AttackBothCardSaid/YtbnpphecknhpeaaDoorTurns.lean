/-
  The walks of the laws BitsTurns and BitsPlaces.
-/
import Derived.Test.YtbnpphecknhpeaaDoorG5
import Derived.Test.YtbnpphecknhpeaaDoorLentInts
import Derived.ProofKit
import Derived.OpenShut
namespace Go.Proofs.YtbnpphecknhpeaaDoor
open Go.RowKit Go.ChangeShapes Go.WideShapes
set_option linter.unusedSimpArgs false
set_option linter.unusedVariables false

theorem turn_bit (x : BitVec 32) (r j : Nat) (hr : r < 32) (hj : j < 32) : (turn x r).getLsbD j = x.getLsbD ((j + r) % 32) := by
  unfold turn
  rw [BitVec.getLsbD_or, BitVec.getLsbD_ushiftRight, BitVec.getLsbD_shiftLeft]
  by_cases h : j + r < 32
  · rw [Nat.mod_eq_of_lt h, Nat.add_comm r j]
    simp [show j < 32 - r by omega]
  · rw [show (j + r) % 32 = j - (32 - r) by omega, BitVec.getLsbD_of_ge x (r + j) (by omega)]
    simp [hj, show ¬ j < 32 - r by omega]
theorem turn_pl (x : BitVec 32) (n : Int) : pl (fun j => x.getLsbD ((j + (n % 32).toNat) % 32)) 32 = turn x (n % 32).toNat :=
  pl_eq _ _ fun j hj => (turn_bit x _ j (by omega) hj).symm
theorem mix_bit (x : BitVec 32) (h : Nat → Int) (j : Nat) (hj : j < 32) (n : Nat) : (mixTo x h n).getLsbD j = par x h j n := by
  induction n with
  | zero => simp [mixTo, par]
  | succ n ih => simp only [mixTo, par, BitVec.getLsbD_xor, ih]; rw [turn_bit x _ j (by omega) hj]
theorem mix_pl (x : BitVec 32) (h : Nat → Int) (n : Nat) : pl (fun k => par x h k n) 32 = mixTo x h n :=
  pl_eq _ _ fun j hj => (mix_bit x h j hj n).symm
theorem shift_pl (x : BitVec 32) (n : Int) : (if n < 0 then x else pl (fun k => decide (n < 32 - (k : Int)) && x.getLsbD (k + n.toNat)) 32) = if n < 0 then x else x >>> n.toNat := by
  by_cases h : n < 0
  · rw [if_pos h, if_pos h]
  · rw [if_neg h, if_neg h]
    refine pl_eq _ _ fun j hj => ?_
    show (decide _ && _) = _
    rw [BitVec.getLsbD_ushiftRight]
    by_cases hd : n < 32 - (j : Int)
    · simp [hd, Nat.add_comm]
    · rw [BitVec.getLsbD_of_ge x (n.toNat + j) (by omega)]; simp [hd]

/-- a slice of numbers that came in, as the guide's shell tells it -/
theorem row_reads {k : IntKind} {w : World} {a : Option Addr} {len cap : Nat} {zs : List Int} (h : (a = none ∧ len = 0 ∧ cap = 0 ∧ zs = []) ∨
    ∃ x, a = some x ∧ len ≤ cap ∧ cap ≤ maxLen ∧ zs.length = cap ∧ (∀ i, i < zs.length → w.cell? (x.add i) = some (.int k (zs.getD i 0))) ∧ ∀ n ∈ zs, (Lit.int k n).wf = true) :
    Reads w.heap.size w a len (fun i => .int k (zs.getD i 0)) ∧ (a = none → len = 0 ∧ cap = 0) ∧ len ≤ maxLen ∧ ∀ i, i < len → (Lit.int k (zs.getD i 0)).wf = true := by
  rcases h with ⟨rfl, rfl, rfl, rfl⟩ | ⟨x, rfl, h1, h2, h3, h4, h5⟩
  · exact ⟨.inl rfl, fun _ => ⟨rfl, rfl⟩, by unfold maxLen; omega, fun i hi => by omega⟩
  · refine ⟨?_, fun e => (by cases e), Nat.le_trans h1 h2, fun i hi => h5 _ ?_⟩
    · by_cases h0 : len = 0
      · exact .inl h0
      · obtain ⟨b, off, rfl, hc⟩ := ints_at h4 (by omega)
        refine .inr ⟨b, off, rfl, ?_, fun i hi => hc i (by omega)⟩
        exact World.block_lt_of_cell? w ⟨b, off + 0, none⟩ (hc 0 (by omega))
    · have : zs.getD i 0 = zs[i] := by simp [List.getD, show i < zs.length by omega]
      rw [this]; exact List.getElem_mem _
theorem row_words {w : World} {a : Option Addr} {len : Nat} {h : Nat → Int} (hr : Reads w.heap.size w a len (fun i => .int .u32 (h i))) (hw : ∀ i, i < len → (Lit.int .u32 (h i)).wf = true) :
    ∃ f : Nat → BitVec 32, (∀ i, i < len → h i = u (f i)) ∧ Reads w.heap.size w a len (fun i => .int .u32 (u (f i))) := by
  have hf : ∀ i, i < len → h i = u (BitVec.ofNat 32 (h i).toNat) := fun i hi => by
    obtain ⟨x, hx⟩ := u_wf (hw i hi)
    rw [hx]; unfold u; congr 1; simp
  exact ⟨fun i => BitVec.ofNat 32 (h i).toNat, hf, hr.mono' (Nat.le_refl _) fun i hi => by rw [← hf i hi]⟩
theorem i64_wf {n : Int} (h : (Lit.int .i64 n).wf = true) : -9223372036854775808 ≤ n ∧ n ≤ 9223372036854775807 := by
  simp [Lit.wf, IntKind.min, IntKind.max, IntKind.signed, IntKind.bits] at h; omega

end Go.Proofs.YtbnpphecknhpeaaDoor
