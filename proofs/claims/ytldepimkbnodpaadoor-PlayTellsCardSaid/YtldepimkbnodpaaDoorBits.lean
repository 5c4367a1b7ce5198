/-
  Words of thirty-two bits as the walk meets them: 'u x' is the number of a word x, and what each operation on such numbers comes to.
-/
import Derived.Test.YtldepimkbnodpaaDoorProg
import Derived.WalkKit
import Derived.WalkSpells
import Derived.WalkLawsBesides
import Derived.Lib.Hide
import Derived.Handy
namespace Go.Proofs.YtldepimkbnodpaaDoor
open Go.RowKit
set_option linter.unusedVariables false
set_option linter.unusedSimpArgs false

/-- the number of a word -/
def u (x : BitVec 32) : Int := (x.toNat : Int)
theorem u_lo (x : BitVec 32) : 0 ≤ u x := by unfold u; omega
theorem u_hi (x : BitVec 32) : u x ≤ 4294967295 := by unfold u; have := x.isLt; omega
theorem u_of (n : Int) (h0 : 0 ≤ n) (h1 : n ≤ 4294967295) : ∃ x : BitVec 32, n = u x :=
  ⟨BitVec.ofNat 32 n.toNat, by unfold u; rw [BitVec.toNat_ofNat, Nat.mod_eq_of_lt (by omega)]; omega⟩
theorem u_wf {n : Int} (h : (Lit.int .u32 n).wf = true) : ∃ x : BitVec 32, n = u x :=
  u_of n (by simp [Lit.wf, IntKind.min, IntKind.max, IntKind.signed, IntKind.bits] at h; omega) (by simp [Lit.wf, IntKind.min, IntKind.max, IntKind.signed, IntKind.bits] at h; omega)
theorem u_inj {x y : BitVec 32} : u x = u y ↔ x = y := by
  unfold u; rw [Int.ofNat_inj]; exact BitVec.toNat_inj
theorem u_beq (x y : BitVec 32) : (u x == u y) = (x == y) := by
  rw [Bool.eq_iff_iff, beq_iff_eq, beq_iff_eq]; exact u_inj
theorem u_bne (x y : BitVec 32) : (u x != u y) = (x != y) := by
  simp only [bne, u_beq]
theorem of_u (x : BitVec 32) : BitVec.ofInt 32 (u x) = x := by
  unfold u; rw [BitVec.ofInt_natCast]; simp
theorem wrap_u32_nat (n : Nat) (h : n < 4294967296) : IntKind.u32.wrap (n : Int) = (n : Int) := by
  rw [IntKind.wrap_u32]; omega
theorem u_wrap (x : BitVec 32) : IntKind.u32.wrap (x.toNat : Int) = u x := wrap_u32_nat _ x.isLt
theorem and_u (x y : BitVec 32) : bits .and .u32 (u x) (u y) = u (x &&& y) := by
  show IntKind.u32.wrap ((BitVec.ofInt 32 (u x) &&& BitVec.ofInt 32 (u y)).toNat : Int) = _
  rw [of_u, of_u, u_wrap]
theorem or_u (x y : BitVec 32) : bits .or .u32 (u x) (u y) = u (x ||| y) := by
  show IntKind.u32.wrap ((BitVec.ofInt 32 (u x) ||| BitVec.ofInt 32 (u y)).toNat : Int) = _
  rw [of_u, of_u, u_wrap]
theorem xor_u (x y : BitVec 32) : bits .xor .u32 (u x) (u y) = u (x ^^^ y) := by
  show IntKind.u32.wrap ((BitVec.ofInt 32 (u x) ^^^ BitVec.ofInt 32 (u y)).toNat : Int) = _
  rw [of_u, of_u, u_wrap]
theorem not_u (x : BitVec 32) : bits .xor .u32 IntKind.u32.max (u x) = u (~~~x) := by
  have h : IntKind.u32.max = u (BitVec.allOnes 32) := by decide
  rw [h, xor_u]
  rw [BitVec.allOnes_xor]
theorem u32_plain : IntKind.u32.signed = false := rfl
theorem fdiv_nat (a b : Nat) : (a : Int).fdiv (b : Int) = ((a / b : Nat) : Int) := by
  rw [Int.fdiv_eq_ediv_of_nonneg _ (by omega)]; rfl
theorem pow_min (n k : Nat) : ((2 : Int) ^ (min n k)) = (((2 ^ (min n k)) : Nat) : Int) := by
  simp [Int.natCast_pow]
theorem shr_u {P : Program} {w : World} (x : BitVec 32) (k : IntKind) (y : Int) (h : 0 ≤ y) :
    (Op.shift .shr .u32 (u x) k y).run P w = .ok (.int .u32 (u (x >>> y.toNat))) w := by
  unfold Op.shift
  rw [if_neg (by omega)]
  have hx := x.isLt
  have e : (u x).fdiv (2 ^ (min y.toNat 32)) = u (x >>> y.toNat) := by
    unfold u
    rw [pow_min, fdiv_nat, BitVec.toNat_ushiftRight, Nat.shiftRight_eq_div_pow]
    by_cases hy : y.toNat ≤ 32
    · rw [Nat.min_eq_left hy]
    · rw [Nat.min_eq_right (by omega)]
      have h2 : 2 ^ 32 ≤ 2 ^ y.toNat := Nat.pow_le_pow_right (by omega) (by omega)
      rw [Nat.div_eq_of_lt hx, Nat.div_eq_of_lt (by omega)]
  show (pure (.int .u32 ((u x).fdiv (2 ^ (min y.toNat 32)))) : Sem Value).run P w = _
  rw [e]; rfl
theorem shl_u {P : Program} {w : World} (x : BitVec 32) (k : IntKind) (y : Int) (h : 0 ≤ y) :
    (Op.shift .shl .u32 (u x) k y).run P w = .ok (.int .u32 (u (x <<< y.toNat))) w := by
  unfold Op.shift
  rw [if_neg (by omega)]
  have e : IntKind.u32.wrap (u x * 2 ^ (min y.toNat 32)) = u (x <<< y.toNat) := by
    unfold u
    rw [pow_min, BitVec.toNat_shiftLeft, Nat.shiftLeft_eq, IntKind.wrap_u32]
    have hm : ((x.toNat : Int) * ((2 ^ min y.toNat 32 : Nat) : Int)) = ((x.toNat * 2 ^ min y.toNat 32 : Nat) : Int) := by simp
    rw [hm]
    by_cases hy : y.toNat ≤ 32
    · rw [Nat.min_eq_left hy]; omega
    · rw [Nat.min_eq_right (by omega)]
      obtain ⟨c, hc⟩ : ∃ c, 2 ^ y.toNat = 2 ^ 32 * c := ⟨2 ^ (y.toNat - 32), by rw [← Nat.pow_add]; congr 1; omega⟩
      rw [hc, ← Nat.mul_assoc, Nat.mul_comm x.toNat, Nat.mul_assoc, Nat.mul_mod_right]
      omega
  show (pure (.int .u32 (IntKind.u32.wrap (u x * 2 ^ (min y.toNat 32)))) : Sem Value).run P w = _
  rw [e]; rfl
theorem add_u (x y : BitVec 32) : IntKind.u32.wrap (u x + u y) = u (x + y) := by
  unfold u; rw [IntKind.wrap_u32, BitVec.toNat_add]; omega
theorem low5 (n : Int) : (IntKind.u64.wrap n).tmod 32 = n % 32 := by
  rw [IntKind.wrap_u64, Int.tmod_eq_emod_of_nonneg (by omega)]; omega
/-- x, turned right by r -/
def turn (x : BitVec 32) (r : Nat) : BitVec 32 := x >>> r ||| x <<< (32 - r)
theorem shr_div (x : BitVec 32) (r : Nat) : u x / 2 ^ r = u (x >>> r) := by
  unfold u
  rw [BitVec.toNat_ushiftRight, Nat.shiftRight_eq_div_pow]
  simp [Int.natCast_pow]
theorem shl_mod (x : BitVec 32) (r : Nat) : u x * 2 ^ r % 4294967296 = u (x <<< r) := by
  unfold u
  rw [BitVec.toNat_shiftLeft, Nat.shiftLeft_eq]
  simp [Int.natCast_pow]
theorem ret_u {a : Int} {x : BitVec 32} (h : a = u x) : Ending.returned (.int .u32 a) = .returned (.int .u32 (u x)) := by rw [h]
theorem turn_u (x : BitVec 32) (n : Int) : u (x >>> (n % 32).toNat ||| x <<< (32 - n % 32).toNat) = u (turn x (n % 32).toNat) := by
  rw [show (32 - n % 32).toNat = 32 - (n % 32).toNat by omega]; rfl
theorem and_one (x : BitVec 32) : bits .and .u32 (u x) 1 = u (x &&& 1#32) := by
  rw [← and_u]; rfl
theorem pow_u (k : Nat) : (2 : Int) ^ k % 4294967296 = u (1#32 <<< k) := by
  have h := shl_mod 1#32 k
  rw [← h, show u 1#32 = 1 from rfl, Int.one_mul]
theorem u_i64 (x : BitVec 32) : IntKind.i64.wrap (u x) = u x := by
  rw [IntKind.wrap_i64]; unfold u; have := x.isLt; omega
theorem u_wrap64 (x : BitVec 32) : wrap64 (u x) = u x := by
  unfold wrap64 u; have := x.isLt; omega
attribute [go_sem] u_beq u_bne and_u or_u xor_u not_u u32_plain add_u low5 shr_div shl_mod pow_u and_one u_i64 u_wrap64

/-- n elements of one cell each, read through p, in a block below B: cell i holds f i -/
def Reads (B : Nat) (w : World) (p : Option Addr) (n : Nat) (f : Nat → Value) : Prop :=
  n = 0 ∨ ∃ b off, p = some ⟨b, off, none⟩ ∧ b < B ∧ ∀ i, i < n → w.cell? ⟨b, off + i, none⟩ = some (f i)
theorem Reads.below {B : Nat} {w w' : World} {p : Option Addr} {n : Nat} {f : Nat → Value} (h : Reads B w p n f) (hb : Below B w w') : Reads B w' p n f := by
  rcases h with h | ⟨b, off, h1, h2, h3⟩
  · exact .inl h
  · exact .inr ⟨b, off, h1, h2, fun i hi => by rw [hb.cell (p := ⟨b, off + i, none⟩) h2]; exact h3 i hi⟩
theorem Reads.mono {B B' : Nat} {w : World} {p : Option Addr} {n : Nat} {f : Nat → Value} (h : Reads B w p n f) (hB : B ≤ B') : Reads B' w p n f := by
  rcases h with h | ⟨b, off, h1, h2, h3⟩
  · exact .inl h
  · exact .inr ⟨b, off, h1, Nat.lt_of_lt_of_le h2 hB, h3⟩
theorem Reads.mono' {B B' : Nat} {w : World} {p : Option Addr} {n : Nat} {f g : Nat → Value} (h : Reads B w p n f) (hB : B ≤ B') (hf : ∀ i, i < n → f i = g i) : Reads B' w p n g := by
  rcases h with h | ⟨b, off, h1, h2, h3⟩
  · exact .inl h
  · exact .inr ⟨b, off, h1, Nat.lt_of_lt_of_le h2 hB, fun i hi => by rw [← hf i hi]; exact h3 i hi⟩
theorem Reads.take {B : Nat} {w : World} {p : Option Addr} {n m : Nat} {f : Nat → Value} (h : Reads B w p n f) (hm : m ≤ n) : Reads B w p m f := by
  rcases h with h | ⟨b, off, h1, h2, h3⟩
  · exact .inl (by omega)
  · exact .inr ⟨b, off, h1, h2, fun i hi => h3 i (by omega)⟩
theorem Reads.nil {B : Nat} {w : World} {p : Option Addr} {f : Nat → Value} : Reads B w p 0 f := .inl rfl
end Go.Proofs.YtldepimkbnodpaaDoor
