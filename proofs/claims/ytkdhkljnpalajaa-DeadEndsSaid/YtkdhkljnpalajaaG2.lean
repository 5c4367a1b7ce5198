/-
  Merged: SqB, Bits, SqC, Words, Loops, Put, Bytes, Awake, Math, Marks, LentInts.
-/
import Derived.Test.YtkdhkljnpalajaaG1
import Derived.Laws.IdiomStrings
import Derived.Test.YtkdhkljnpalajaaProg
import Derived.WalkKit
import Derived.WalkSpells
import Derived.WalkLawsBesides
import Derived.Lib.Hide
import Derived.Handy
import Derived.Deep.RegionLaw
import Derived.Deep.AppendLies
import Derived.OwnWalk
import Derived.Deep.QuietTactic
import Derived.BigQuiet

namespace Go.Proofs.Ytkdhkljnpalajaa
open Go.RowKit
set_option linter.unusedSimpArgs false
set_option linter.unusedVariables false

end Go.Proofs.Ytkdhkljnpalajaa

namespace Go.Proofs.Ytkdhkljnpalajaa
open Go.RowKit
set_option linter.unusedVariables false
set_option linter.unusedSimpArgs false

/-- the number of a word -/
def u (x : BitVec 32) : Int := (x.toNat : Int)
theorem u_lo (x : BitVec 32) : 0 ≤ u x := by unfold u; omega
theorem u_inj {x y : BitVec 32} : u x = u y ↔ x = y := by
  unfold u; rw [Int.ofNat_inj]; exact BitVec.toNat_inj
theorem u_beq (x y : BitVec 32) : (u x == u y) = (x == y) := by
  rw [Bool.eq_iff_iff, beq_iff_eq, beq_iff_eq]; exact u_inj
theorem u_bne (x y : BitVec 32) : (u x != u y) = (x != y) := by
  simp only [bne, u_beq]
theorem of_u (x : BitVec 32) : BitVec.ofInt 32 (u x) = x := by
  unfold u; rw [BitVec.ofInt_natCast]; simp
theorem wrap_u32_nat (n : Nat) (h : n < 4294967296) : IntKind.u32.wrap (n : Int) = (n : Int) := by
  rw [IntKind.wrap_u32]; omega
theorem u_wrap (x : BitVec 32) : IntKind.u32.wrap (x.toNat : Int) = u x := wrap_u32_nat _ x.isLt
theorem and_u (x y : BitVec 32) : bits .and .u32 (u x) (u y) = u (x &&& y) := by
  show IntKind.u32.wrap ((BitVec.ofInt 32 (u x) &&& BitVec.ofInt 32 (u y)).toNat : Int) = _
  rw [of_u, of_u, u_wrap]
theorem or_u (x y : BitVec 32) : bits .or .u32 (u x) (u y) = u (x ||| y) := by
  show IntKind.u32.wrap ((BitVec.ofInt 32 (u x) ||| BitVec.ofInt 32 (u y)).toNat : Int) = _
  rw [of_u, of_u, u_wrap]
theorem xor_u (x y : BitVec 32) : bits .xor .u32 (u x) (u y) = u (x ^^^ y) := by
  show IntKind.u32.wrap ((BitVec.ofInt 32 (u x) ^^^ BitVec.ofInt 32 (u y)).toNat : Int) = _
  rw [of_u, of_u, u_wrap]
theorem not_u (x : BitVec 32) : bits .xor .u32 IntKind.u32.max (u x) = u (~~~x) := by
  have h : IntKind.u32.max = u (BitVec.allOnes 32) := by decide
  rw [h, xor_u]
  rw [BitVec.allOnes_xor]
theorem u32_plain : IntKind.u32.signed = false := rfl
theorem add_u (x y : BitVec 32) : IntKind.u32.wrap (u x + u y) = u (x + y) := by
  unfold u; rw [IntKind.wrap_u32, BitVec.toNat_add]; omega
theorem low5 (n : Int) : (IntKind.u64.wrap n).tmod 32 = n % 32 := by
  rw [IntKind.wrap_u64, Int.tmod_eq_emod_of_nonneg (by omega)]; omega
theorem shr_div (x : BitVec 32) (r : Nat) : u x / 2 ^ r = u (x >>> r) := by
  unfold u
  rw [BitVec.toNat_ushiftRight, Nat.shiftRight_eq_div_pow]
  simp [Int.natCast_pow]
theorem shl_mod (x : BitVec 32) (r : Nat) : u x * 2 ^ r % 4294967296 = u (x <<< r) := by
  unfold u
  rw [BitVec.toNat_shiftLeft, Nat.shiftLeft_eq]
  simp [Int.natCast_pow]
theorem and_one (x : BitVec 32) : bits .and .u32 (u x) 1 = u (x &&& 1#32) := by
  rw [← and_u]; rfl
theorem pow_u (k : Nat) : (2 : Int) ^ k % 4294967296 = u (1#32 <<< k) := by
  have h := shl_mod 1#32 k
  rw [← h, show u 1#32 = 1 from rfl, Int.one_mul]
theorem u_i64 (x : BitVec 32) : IntKind.i64.wrap (u x) = u x := by
  rw [IntKind.wrap_i64]; unfold u; have := x.isLt; omega
theorem u_wrap64 (x : BitVec 32) : wrap64 (u x) = u x := by
  unfold wrap64 u; have := x.isLt; omega
attribute [go_sem] u_beq u_bne and_u or_u xor_u not_u u32_plain add_u low5 shr_div shl_mod pow_u and_one u_i64 u_wrap64

/-- n elements of one cell each, read through p, in a block below B: cell i holds f i -/
def Reads (B : Nat) (w : World) (p : Option Addr) (n : Nat) (f : Nat → Value) : Prop :=
  n = 0 ∨ ∃ b off, p = some ⟨b, off, none⟩ ∧ b < B ∧ ∀ i, i < n → w.cell? ⟨b, off + i, none⟩ = some (f i)
theorem Reads.below {B : Nat} {w w' : World} {p : Option Addr} {n : Nat} {f : Nat → Value} (h : Reads B w p n f) (hb : Below B w w') : Reads B w' p n f := by
  rcases h with h | ⟨b, off, h1, h2, h3⟩
  · exact .inl h
  · exact .inr ⟨b, off, h1, h2, fun i hi => by rw [hb.cell (p := ⟨b, off + i, none⟩) h2]; exact h3 i hi⟩
theorem Reads.mono {B B' : Nat} {w : World} {p : Option Addr} {n : Nat} {f : Nat → Value} (h : Reads B w p n f) (hB : B ≤ B') : Reads B' w p n f := by
  rcases h with h | ⟨b, off, h1, h2, h3⟩
  · exact .inl h
  · exact .inr ⟨b, off, h1, Nat.lt_of_lt_of_le h2 hB, h3⟩
theorem Reads.take {B : Nat} {w : World} {p : Option Addr} {n m : Nat} {f : Nat → Value} (h : Reads B w p n f) (hm : m ≤ n) : Reads B w p m f := by
  rcases h with h | ⟨b, off, h1, h2, h3⟩
  · exact .inl (by omega)
  · exact .inr ⟨b, off, h1, h2, fun i hi => h3 i (by omega)⟩
theorem Reads.nil {B : Nat} {w : World} {p : Option Addr} {f : Nat → Value} : Reads B w p 0 f := .inl rfl
end Go.Proofs.Ytkdhkljnpalajaa

namespace Go.Proofs.Ytkdhkljnpalajaa
open Go.RowKit
set_option linter.unusedSimpArgs false
set_option linter.unusedVariables false

theorem tm8 {s : Int} (h : 0 ≤ s) : s.tmod 8 = s % 8 := Int.tmod_eq_emod_of_nonneg h
theorem td8 {s : Int} (h : 0 ≤ s) : s.tdiv 8 = s / 8 := Int.tdiv_eq_ediv_of_nonneg h
end Go.Proofs.Ytkdhkljnpalajaa

namespace Go.Proofs.Ytkdhkljnpalajaa
open Go.RowKit
set_option linter.unusedVariables false
set_option linter.unusedSimpArgs false

end Go.Proofs.Ytkdhkljnpalajaa

namespace Go.Proofs.Ytkdhkljnpalajaa
open Go.RowKit
set_option linter.unusedSimpArgs false
set_option linter.unusedVariables false

end Go.Proofs.Ytkdhkljnpalajaa

namespace Go.Proofs.Ytkdhkljnpalajaa
open Go.RowKit
set_option linter.unusedVariables false
set_option maxRecDepth 20000
set_option linter.unusedSimpArgs false

/-- the number of a byte -/
def ub (x : BitVec 8) : Int := (x.toNat : Int)
theorem u8_of_u (x : BitVec 32) : IntKind.u8.wrap (u x) = ub (x.setWidth 8) := by
  unfold u ub; rw [IntKind.wrap_u8, BitVec.toNat_setWidth]; omega
attribute [go_sem] u8_of_u
def cellsOf (g : Nat → BitVec 8) (n : Nat) : List Value := (List.range n).map fun i => .int .u8 (ub (g i))
end Go.Proofs.Ytkdhkljnpalajaa

namespace Go.Proofs.Ytkdhkljnpalajaa
open Go.RowKit
set_option linter.unusedSimpArgs false
set_option linter.unusedVariables false

end Go.Proofs.Ytkdhkljnpalajaa

namespace Go.Proofs.Ytkdhkljnpalajaa
open Go.RowKit
set_option linter.unusedSimpArgs false
set_option linter.unusedVariables false

end Go.Proofs.Ytkdhkljnpalajaa

namespace Go.Proofs.Ytkdhkljnpalajaa
set_option linter.unusedSimpArgs false
set_option linter.unusedVariables false

end Go.Proofs.Ytkdhkljnpalajaa

namespace Go.Proofs.Ytkdhkljnpalajaa
open Go.RowKit
set_option linter.unusedSimpArgs false
set_option linter.unusedVariables false

end Go.Proofs.Ytkdhkljnpalajaa

namespace Go.Proofs.Ytkdhkljnpalajaa.LentInts
open Go.RowKit
set_option linter.unusedSimpArgs false
set_option linter.unusedVariables false

/-- what stands behind the list's own elements -/
def mk (i : Nat) : Int := 8000024 + (i : Int)
end Go.Proofs.Ytkdhkljnpalajaa.LentInts
