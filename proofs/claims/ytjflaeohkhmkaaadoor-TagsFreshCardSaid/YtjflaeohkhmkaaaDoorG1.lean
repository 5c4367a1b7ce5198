/-
  Merged: Bits, Words, Loops, Put, Bytes, Awake, Math, Ref, Marks, LentInts, LentLimbs, Rules, Turns.
-/
import Derived.Test.YtjflaeohkhmkaaaDoorProg
import Derived.WalkKit
import Derived.WalkSpells
import Derived.WalkLawsBesides
import Derived.Lib.Hide
import Derived.Handy
import Derived.Deep.RegionLaw
import Derived.Deep.AppendLies
import Derived.Deep.QuietTactic
import Derived.BigQuiet
import Derived.ProofKit
import Derived.OpenShut

namespace Go.Proofs.YtjflaeohkhmkaaaDoor
open Go.RowKit
set_option linter.unusedVariables false
set_option linter.unusedSimpArgs false

/-- the number of a word -/
def u (x : BitVec 32) : Int := (x.toNat : Int)
theorem u_lo (x : BitVec 32) : 0 ≤ u x := by unfold u; omega
theorem u_inj {x y : BitVec 32} : u x = u y ↔ x = y := by
  unfold u; rw [Int.ofNat_inj]; exact BitVec.toNat_inj
theorem u_beq (x y : BitVec 32) : (u x == u y) = (x == y) := by
  rw [Bool.eq_iff_iff, beq_iff_eq, beq_iff_eq]; exact u_inj
theorem u_bne (x y : BitVec 32) : (u x != u y) = (x != y) := by
  simp only [bne, u_beq]
theorem of_u (x : BitVec 32) : BitVec.ofInt 32 (u x) = x := by
  unfold u; rw [BitVec.ofInt_natCast]; simp
theorem wrap_u32_nat (n : Nat) (h : n < 4294967296) : IntKind.u32.wrap (n : Int) = (n : Int) := by
  rw [IntKind.wrap_u32]; omega
theorem u_wrap (x : BitVec 32) : IntKind.u32.wrap (x.toNat : Int) = u x := wrap_u32_nat _ x.isLt
theorem and_u (x y : BitVec 32) : bits .and .u32 (u x) (u y) = u (x &&& y) := by
  show IntKind.u32.wrap ((BitVec.ofInt 32 (u x) &&& BitVec.ofInt 32 (u y)).toNat : Int) = _
  rw [of_u, of_u, u_wrap]
theorem or_u (x y : BitVec 32) : bits .or .u32 (u x) (u y) = u (x ||| y) := by
  show IntKind.u32.wrap ((BitVec.ofInt 32 (u x) ||| BitVec.ofInt 32 (u y)).toNat : Int) = _
  rw [of_u, of_u, u_wrap]
theorem xor_u (x y : BitVec 32) : bits .xor .u32 (u x) (u y) = u (x ^^^ y) := by
  show IntKind.u32.wrap ((BitVec.ofInt 32 (u x) ^^^ BitVec.ofInt 32 (u y)).toNat : Int) = _
  rw [of_u, of_u, u_wrap]
theorem not_u (x : BitVec 32) : bits .xor .u32 IntKind.u32.max (u x) = u (~~~x) := by
  have h : IntKind.u32.max = u (BitVec.allOnes 32) := by decide
  rw [h, xor_u]
  rw [BitVec.allOnes_xor]
theorem u32_plain : IntKind.u32.signed = false := rfl
theorem add_u (x y : BitVec 32) : IntKind.u32.wrap (u x + u y) = u (x + y) := by
  unfold u; rw [IntKind.wrap_u32, BitVec.toNat_add]; omega
theorem low5 (n : Int) : (IntKind.u64.wrap n).tmod 32 = n % 32 := by
  rw [IntKind.wrap_u64, Int.tmod_eq_emod_of_nonneg (by omega)]; omega
/-- x, turned right by r -/
def turn (x : BitVec 32) (r : Nat) : BitVec 32 := x >>> r ||| x <<< (32 - r)
theorem shr_div (x : BitVec 32) (r : Nat) : u x / 2 ^ r = u (x >>> r) := by
  unfold u
  rw [BitVec.toNat_ushiftRight, Nat.shiftRight_eq_div_pow]
  simp [Int.natCast_pow]
theorem shl_mod (x : BitVec 32) (r : Nat) : u x * 2 ^ r % 4294967296 = u (x <<< r) := by
  unfold u
  rw [BitVec.toNat_shiftLeft, Nat.shiftLeft_eq]
  simp [Int.natCast_pow]
theorem and_one (x : BitVec 32) : bits .and .u32 (u x) 1 = u (x &&& 1#32) := by
  rw [← and_u]; rfl
theorem pow_u (k : Nat) : (2 : Int) ^ k % 4294967296 = u (1#32 <<< k) := by
  have h := shl_mod 1#32 k
  rw [← h, show u 1#32 = 1 from rfl, Int.one_mul]
theorem u_i64 (x : BitVec 32) : IntKind.i64.wrap (u x) = u x := by
  rw [IntKind.wrap_i64]; unfold u; have := x.isLt; omega
theorem u_wrap64 (x : BitVec 32) : wrap64 (u x) = u x := by
  unfold wrap64 u; have := x.isLt; omega
attribute [go_sem] u_beq u_bne and_u or_u xor_u not_u u32_plain add_u low5 shr_div shl_mod pow_u and_one u_i64 u_wrap64

/-- n elements of one cell each, read through p, in a block below B: cell i holds f i -/
def Reads (B : Nat) (w : World) (p : Option Addr) (n : Nat) (f : Nat → Value) : Prop :=
  n = 0 ∨ ∃ b off, p = some ⟨b, off, none⟩ ∧ b < B ∧ ∀ i, i < n → w.cell? ⟨b, off + i, none⟩ = some (f i)
theorem Reads.below {B : Nat} {w w' : World} {p : Option Addr} {n : Nat} {f : Nat → Value} (h : Reads B w p n f) (hb : Below B w w') : Reads B w' p n f := by
  rcases h with h | ⟨b, off, h1, h2, h3⟩
  · exact .inl h
  · exact .inr ⟨b, off, h1, h2, fun i hi => by rw [hb.cell (p := ⟨b, off + i, none⟩) h2]; exact h3 i hi⟩
theorem Reads.mono {B B' : Nat} {w : World} {p : Option Addr} {n : Nat} {f : Nat → Value} (h : Reads B w p n f) (hB : B ≤ B') : Reads B' w p n f := by
  rcases h with h | ⟨b, off, h1, h2, h3⟩
  · exact .inl h
  · exact .inr ⟨b, off, h1, Nat.lt_of_lt_of_le h2 hB, h3⟩
theorem Reads.mono' {B B' : Nat} {w : World} {p : Option Addr} {n : Nat} {f g : Nat → Value} (h : Reads B w p n f) (hB : B ≤ B') (hf : ∀ i, i < n → f i = g i) : Reads B' w p n g := by
  rcases h with h | ⟨b, off, h1, h2, h3⟩
  · exact .inl h
  · exact .inr ⟨b, off, h1, Nat.lt_of_lt_of_le h2 hB, fun i hi => by rw [← hf i hi]; exact h3 i hi⟩
theorem Reads.take {B : Nat} {w : World} {p : Option Addr} {n m : Nat} {f : Nat → Value} (h : Reads B w p n f) (hm : m ≤ n) : Reads B w p m f := by
  rcases h with h | ⟨b, off, h1, h2, h3⟩
  · exact .inl (by omega)
  · exact .inr ⟨b, off, h1, h2, fun i hi => h3 i (by omega)⟩
theorem Reads.nil {B : Nat} {w : World} {p : Option Addr} {f : Nat → Value} : Reads B w p 0 f := .inl rfl
end Go.Proofs.YtjflaeohkhmkaaaDoor

namespace Go.Proofs.YtjflaeohkhmkaaaDoor
open Go.RowKit
set_option linter.unusedVariables false
set_option linter.unusedSimpArgs false

end Go.Proofs.YtjflaeohkhmkaaaDoor

namespace Go.Proofs.YtjflaeohkhmkaaaDoor
open Go.RowKit
set_option linter.unusedSimpArgs false
set_option linter.unusedVariables false

end Go.Proofs.YtjflaeohkhmkaaaDoor

namespace Go.Proofs.YtjflaeohkhmkaaaDoor
open Go.RowKit
set_option linter.unusedVariables false
set_option maxRecDepth 20000
set_option linter.unusedSimpArgs false

/-- the number of a byte -/
def ub (x : BitVec 8) : Int := (x.toNat : Int)
theorem u8_of_u (x : BitVec 32) : IntKind.u8.wrap (u x) = ub (x.setWidth 8) := by
  unfold u ub; rw [IntKind.wrap_u8, BitVec.toNat_setWidth]; omega
attribute [go_sem] u8_of_u
def cellsOf (g : Nat → BitVec 8) (n : Nat) : List Value := (List.range n).map fun i => .int .u8 (ub (g i))
theorem cellsOf_succ (g : Nat → BitVec 8) (n : Nat) : cellsOf g n ++ [.int .u8 (ub (g n))] = cellsOf g (n + 1) := by
  unfold cellsOf; rw [List.range_succ, List.map_append]; rfl
theorem cellsOf_at (g : Nat → BitVec 8) (n i : Nat) (h : i < n) : (cellsOf g n)[i]? = some (.int .u8 (ub (g i))) := by
  unfold cellsOf; simp [h]
theorem Tryd.infoB : (Tryd.prog.info? 5).map (fun i => (i.zero, i.size, i.bytes)) = some (some (.int .u8 0), 1, 1) := by kernel_rfl

theorem own_setCell {w : World} {base : Nat} {e : TypeId} {size : Nat} {v : Value} {n : Nat} {xs : List Value} (h : w.ownsRow base e size v n xs) (p : Addr) (x : Value) (hne : v.ownBlock ≠ some p.block) : (w.setCell p x).ownsRow base e size v n xs :=
  h.kept (row := some p.block) ⟨rfl, rfl, rfl, by simp, fun k _ hk => Below.heap_setCell w p x k (fun e => hk (by rw [e]))⟩ (.inr hne)

end Go.Proofs.YtjflaeohkhmkaaaDoor

namespace Go.Proofs.YtjflaeohkhmkaaaDoor
open Go.RowKit
set_option linter.unusedSimpArgs false
set_option linter.unusedVariables false

end Go.Proofs.YtjflaeohkhmkaaaDoor

namespace Go.Proofs.YtjflaeohkhmkaaaDoor
open Go.RowKit
set_option linter.unusedSimpArgs false
set_option linter.unusedVariables false

/-- the first three of a row -/
def fst3 {α : Type} (x y z : α) : Nat → α
  | 0 => x
  | 1 => y
  | _ => z
/-- what a value that owns a row reads as -/
theorem owns_reads {w : World} {base : Nat} {e : TypeId} {v : Value} {n : Nat} {f : Nat → Value} (h : w.ownsRow base e 1 v n ((List.range n).map f)) :
    ∃ p c, v = .slice p n c ∧ Reads w.heap.size w p n f ∧ n ≤ c ∧ c ≤ maxLen := by
  rcases h.2 with ⟨rfl, rfl⟩ | ⟨g, cap, cur, rfl, h1, h2, h3, h4, h5, h6⟩
  · exact ⟨none, 0, rfl, .inl rfl, Nat.le_refl _, by unfold maxLen; omega⟩
  · refine ⟨_, cap, rfl, .inr ⟨g, 0, rfl, ?_, fun i hi => ?_⟩, h3, h4⟩
    · rcases Nat.lt_or_ge g w.heap.size with h | h
      · exact h
      · rw [Array.getElem?_eq_none h] at h2; cases h2
    · rw [Nat.zero_add, h.cellAt i (by omega)]
      simp [hi]

end Go.Proofs.YtjflaeohkhmkaaaDoor

namespace Go.Proofs.YtjflaeohkhmkaaaDoor
set_option linter.unusedSimpArgs false
set_option linter.unusedVariables false

end Go.Proofs.YtjflaeohkhmkaaaDoor

namespace Go.Proofs.YtjflaeohkhmkaaaDoor
open Go.RowKit
set_option linter.unusedSimpArgs false
set_option linter.unusedVariables false

theorem u_tmod2 (x : BitVec 32) : (u x).tmod 2 = u x % 2 := Int.tmod_eq_emod_of_nonneg (u_lo x)
theorem u_odd (x : BitVec 32) : (u x % 2 == 1) = x.getLsbD 0 := by
  unfold u
  have h : x.getLsbD 0 = decide (x.toNat % 2 = 1) := by
    rw [BitVec.getLsbD, Nat.testBit_zero]
  rw [h, Bool.eq_iff_iff]
  simp; omega
attribute [go_sem] u_tmod2 u_odd

theorem u_addmod (a b : BitVec 32) : (u a + u b) % 4294967296 = u (a + b) := by
  unfold u; rw [BitVec.toNat_add]; omega
theorem u_keep (a : BitVec 32) : IntKind.u32.wrap (u a) = u a := by
  unfold u; rw [IntKind.wrap_u32]; have := a.isLt; omega
attribute [go_sem] u_addmod u_keep

end Go.Proofs.YtjflaeohkhmkaaaDoor

namespace Go.Proofs.YtjflaeohkhmkaaaDoor
open Go.RowKit
set_option linter.unusedSimpArgs false
set_option linter.unusedVariables false

/-- the mark of a place in a list of bytes -/
def markB (k i : Int) : Int := IntKind.u64.wrap ((1000003 * (k + 7) + i) * 11400714819323198485) / 72057594037927936 % 256
end Go.Proofs.YtjflaeohkhmkaaaDoor

namespace Go.Proofs.YtjflaeohkhmkaaaDoor.LentInts
open Go.RowKit
set_option linter.unusedSimpArgs false
set_option linter.unusedVariables false

/-- what stands behind the list's own elements -/
def mk (i : Nat) : Int := 8000024 + (i : Int)
/-- the list, and the marks behind it -/
def ext (n : Nat) (h : Nat → Int) (i : Nat) : Value := .int .i64 (if i < n then h i else mk (i - n))
end Go.Proofs.YtjflaeohkhmkaaaDoor.LentInts

namespace Go.Proofs.YtjflaeohkhmkaaaDoor.LentLimbs
open Go.RowKit
set_option linter.unusedSimpArgs false
set_option linter.unusedVariables false

/-- what stands behind the list's own elements -/
def mk (i : Nat) : Int := 8000024 + (i : Int)
/-- the list, and the marks behind it -/
def ext (n : Nat) (h : Nat → Int) (i : Nat) : Value := .int .u32 (if i < n then h i else mk (i - n))
end Go.Proofs.YtjflaeohkhmkaaaDoor.LentLimbs

namespace Go.Proofs.YtjflaeohkhmkaaaDoor
open Go.RowKit
set_option linter.unusedSimpArgs false
set_option linter.unusedVariables false

end Go.Proofs.YtjflaeohkhmkaaaDoor

namespace Go.Proofs.YtjflaeohkhmkaaaDoor
open Go.RowKit Go.ChangeShapes Go.WideShapes
set_option linter.unusedSimpArgs false
set_option linter.unusedVariables false

/-- a slice of numbers that came in, as the guide's shell tells it -/
theorem row_reads {k : IntKind} {w : World} {a : Option Addr} {len cap : Nat} {zs : List Int} (h : (a = none ∧ len = 0 ∧ cap = 0 ∧ zs = []) ∨
    ∃ x, a = some x ∧ len ≤ cap ∧ cap ≤ maxLen ∧ zs.length = cap ∧ (∀ i, i < zs.length → w.cell? (x.add i) = some (.int k (zs.getD i 0))) ∧ ∀ n ∈ zs, (Lit.int k n).wf = true) :
    Reads w.heap.size w a len (fun i => .int k (zs.getD i 0)) ∧ (a = none → len = 0 ∧ cap = 0) ∧ len ≤ maxLen ∧ ∀ i, i < len → (Lit.int k (zs.getD i 0)).wf = true := by
  rcases h with ⟨rfl, rfl, rfl, rfl⟩ | ⟨x, rfl, h1, h2, h3, h4, h5⟩
  · exact ⟨.inl rfl, fun _ => ⟨rfl, rfl⟩, by unfold maxLen; omega, fun i hi => by omega⟩
  · refine ⟨?_, fun e => (by cases e), Nat.le_trans h1 h2, fun i hi => h5 _ ?_⟩
    · by_cases h0 : len = 0
      · exact .inl h0
      · obtain ⟨b, off, rfl, hc⟩ := ints_at h4 (by omega)
        refine .inr ⟨b, off, rfl, ?_, fun i hi => hc i (by omega)⟩
        exact World.block_lt_of_cell? w ⟨b, off + 0, none⟩ (hc 0 (by omega))
    · have : zs.getD i 0 = zs[i] := by simp [List.getD, show i < zs.length by omega]
      rw [this]; exact List.getElem_mem _
end Go.Proofs.YtjflaeohkhmkaaaDoor
