/-
  Merged: Bits, Words, Loops, Put.
-/
import Derived.Test.YtejknkgbkkdaiaaGreatDoorProg
import Derived.WalkKit
import Derived.WalkSpells
import Derived.WalkLawsBesides
import Derived.Lib.Hide
import Derived.Handy
import Derived.Deep.RegionLaw
import Derived.Deep.AppendLies

namespace Go.Proofs.YtejknkgbkkdaiaaGreatDoor
open Go.RowKit
set_option linter.unusedVariables false
set_option linter.unusedSimpArgs false

/-- the number of a word -/
def u (x : BitVec 32) : Int := (x.toNat : Int)
theorem u_lo (x : BitVec 32) : 0 ≤ u x := by unfold u; omega
theorem u_hi (x : BitVec 32) : u x ≤ 4294967295 := by unfold u; have := x.isLt; omega
theorem u_of (n : Int) (h0 : 0 ≤ n) (h1 : n ≤ 4294967295) : ∃ x : BitVec 32, n = u x :=
  ⟨BitVec.ofNat 32 n.toNat, by unfold u; rw [BitVec.toNat_ofNat, Nat.mod_eq_of_lt (by omega)]; omega⟩
theorem u_wf {n : Int} (h : (Lit.int .u32 n).wf = true) : ∃ x : BitVec 32, n = u x :=
  u_of n (by simp [Lit.wf, IntKind.min, IntKind.max, IntKind.signed, IntKind.bits] at h; omega) (by simp [Lit.wf, IntKind.min, IntKind.max, IntKind.signed, IntKind.bits] at h; omega)
theorem u_inj {x y : BitVec 32} : u x = u y ↔ x = y := by
  unfold u; rw [Int.ofNat_inj]; exact BitVec.toNat_inj
theorem u_beq (x y : BitVec 32) : (u x == u y) = (x == y) := by
  rw [Bool.eq_iff_iff, beq_iff_eq, beq_iff_eq]; exact u_inj
theorem u_bne (x y : BitVec 32) : (u x != u y) = (x != y) := by
  simp only [bne, u_beq]
theorem of_u (x : BitVec 32) : BitVec.ofInt 32 (u x) = x := by
  unfold u; rw [BitVec.ofInt_natCast]; simp
theorem wrap_u32_nat (n : Nat) (h : n < 4294967296) : IntKind.u32.wrap (n : Int) = (n : Int) := by
  rw [IntKind.wrap_u32]; omega
theorem u_wrap (x : BitVec 32) : IntKind.u32.wrap (x.toNat : Int) = u x := wrap_u32_nat _ x.isLt
theorem and_u (x y : BitVec 32) : bits .and .u32 (u x) (u y) = u (x &&& y) := by
  show IntKind.u32.wrap ((BitVec.ofInt 32 (u x) &&& BitVec.ofInt 32 (u y)).toNat : Int) = _
  rw [of_u, of_u, u_wrap]
theorem or_u (x y : BitVec 32) : bits .or .u32 (u x) (u y) = u (x ||| y) := by
  show IntKind.u32.wrap ((BitVec.ofInt 32 (u x) ||| BitVec.ofInt 32 (u y)).toNat : Int) = _
  rw [of_u, of_u, u_wrap]
theorem xor_u (x y : BitVec 32) : bits .xor .u32 (u x) (u y) = u (x ^^^ y) := by
  show IntKind.u32.wrap ((BitVec.ofInt 32 (u x) ^^^ BitVec.ofInt 32 (u y)).toNat : Int) = _
  rw [of_u, of_u, u_wrap]
theorem not_u (x : BitVec 32) : bits .xor .u32 IntKind.u32.max (u x) = u (~~~x) := by
  have h : IntKind.u32.max = u (BitVec.allOnes 32) := by decide
  rw [h, xor_u]
  rw [BitVec.allOnes_xor]
theorem u32_plain : IntKind.u32.signed = false := rfl
theorem fdiv_nat (a b : Nat) : (a : Int).fdiv (b : Int) = ((a / b : Nat) : Int) := by
  rw [Int.fdiv_eq_ediv_of_nonneg _ (by omega)]; rfl
theorem pow_min (n k : Nat) : ((2 : Int) ^ (min n k)) = (((2 ^ (min n k)) : Nat) : Int) := by
  simp [Int.natCast_pow]
theorem shr_u {P : Program} {w : World} (x : BitVec 32) (k : IntKind) (y : Int) (h : 0 ≤ y) :
    (Op.shift .shr .u32 (u x) k y).run P w = .ok (.int .u32 (u (x >>> y.toNat))) w := by
  unfold Op.shift
  rw [if_neg (by omega)]
  have hx := x.isLt
  have e : (u x).fdiv (2 ^ (min y.toNat 32)) = u (x >>> y.toNat) := by
    unfold u
    rw [pow_min, fdiv_nat, BitVec.toNat_ushiftRight, Nat.shiftRight_eq_div_pow]
    by_cases hy : y.toNat ≤ 32
    · rw [Nat.min_eq_left hy]
    · rw [Nat.min_eq_right (by omega)]
      have h2 : 2 ^ 32 ≤ 2 ^ y.toNat := Nat.pow_le_pow_right (by omega) (by omega)
      rw [Nat.div_eq_of_lt hx, Nat.div_eq_of_lt (by omega)]
  show (pure (.int .u32 ((u x).fdiv (2 ^ (min y.toNat 32)))) : Sem Value).run P w = _
  rw [e]; rfl
theorem shl_u {P : Program} {w : World} (x : BitVec 32) (k : IntKind) (y : Int) (h : 0 ≤ y) :
    (Op.shift .shl .u32 (u x) k y).run P w = .ok (.int .u32 (u (x <<< y.toNat))) w := by
  unfold Op.shift
  rw [if_neg (by omega)]
  have e : IntKind.u32.wrap (u x * 2 ^ (min y.toNat 32)) = u (x <<< y.toNat) := by
    unfold u
    rw [pow_min, BitVec.toNat_shiftLeft, Nat.shiftLeft_eq, IntKind.wrap_u32]
    have hm : ((x.toNat : Int) * ((2 ^ min y.toNat 32 : Nat) : Int)) = ((x.toNat * 2 ^ min y.toNat 32 : Nat) : Int) := by simp
    rw [hm]
    by_cases hy : y.toNat ≤ 32
    · rw [Nat.min_eq_left hy]; omega
    · rw [Nat.min_eq_right (by omega)]
      obtain ⟨c, hc⟩ : ∃ c, 2 ^ y.toNat = 2 ^ 32 * c := ⟨2 ^ (y.toNat - 32), by rw [← Nat.pow_add]; congr 1; omega⟩
      rw [hc, ← Nat.mul_assoc, Nat.mul_comm x.toNat, Nat.mul_assoc, Nat.mul_mod_right]
      omega
  show (pure (.int .u32 (IntKind.u32.wrap (u x * 2 ^ (min y.toNat 32)))) : Sem Value).run P w = _
  rw [e]; rfl
theorem add_u (x y : BitVec 32) : IntKind.u32.wrap (u x + u y) = u (x + y) := by
  unfold u; rw [IntKind.wrap_u32, BitVec.toNat_add]; omega
theorem low5 (n : Int) : (IntKind.u64.wrap n).tmod 32 = n % 32 := by
  rw [IntKind.wrap_u64, Int.tmod_eq_emod_of_nonneg (by omega)]; omega
/-- x, turned right by r -/
def turn (x : BitVec 32) (r : Nat) : BitVec 32 := x >>> r ||| x <<< (32 - r)
theorem shr_div (x : BitVec 32) (r : Nat) : u x / 2 ^ r = u (x >>> r) := by
  unfold u
  rw [BitVec.toNat_ushiftRight, Nat.shiftRight_eq_div_pow]
  simp [Int.natCast_pow]
theorem shl_mod (x : BitVec 32) (r : Nat) : u x * 2 ^ r % 4294967296 = u (x <<< r) := by
  unfold u
  rw [BitVec.toNat_shiftLeft, Nat.shiftLeft_eq]
  simp [Int.natCast_pow]
theorem ret_u {a : Int} {x : BitVec 32} (h : a = u x) : Ending.returned (.int .u32 a) = .returned (.int .u32 (u x)) := by rw [h]
theorem turn_u (x : BitVec 32) (n : Int) : u (x >>> (n % 32).toNat ||| x <<< (32 - n % 32).toNat) = u (turn x (n % 32).toNat) := by
  rw [show (32 - n % 32).toNat = 32 - (n % 32).toNat by omega]; rfl
theorem and_one (x : BitVec 32) : bits .and .u32 (u x) 1 = u (x &&& 1#32) := by
  rw [← and_u]; rfl
theorem pow_u (k : Nat) : (2 : Int) ^ k % 4294967296 = u (1#32 <<< k) := by
  have h := shl_mod 1#32 k
  rw [← h, show u 1#32 = 1 from rfl, Int.one_mul]
theorem u_i64 (x : BitVec 32) : IntKind.i64.wrap (u x) = u x := by
  rw [IntKind.wrap_i64]; unfold u; have := x.isLt; omega
theorem u_wrap64 (x : BitVec 32) : wrap64 (u x) = u x := by
  unfold wrap64 u; have := x.isLt; omega
attribute [go_sem] u_beq u_bne and_u or_u xor_u not_u u32_plain add_u low5 shr_div shl_mod pow_u and_one u_i64 u_wrap64

/-- n elements of one cell each, read through p, in a block below B: cell i holds f i -/
def Reads (B : Nat) (w : World) (p : Option Addr) (n : Nat) (f : Nat → Value) : Prop :=
  n = 0 ∨ ∃ b off, p = some ⟨b, off, none⟩ ∧ b < B ∧ ∀ i, i < n → w.cell? ⟨b, off + i, none⟩ = some (f i)
theorem Reads.below {B : Nat} {w w' : World} {p : Option Addr} {n : Nat} {f : Nat → Value} (h : Reads B w p n f) (hb : Below B w w') : Reads B w' p n f := by
  rcases h with h | ⟨b, off, h1, h2, h3⟩
  · exact .inl h
  · exact .inr ⟨b, off, h1, h2, fun i hi => by rw [hb.cell (p := ⟨b, off + i, none⟩) h2]; exact h3 i hi⟩
theorem Reads.mono {B B' : Nat} {w : World} {p : Option Addr} {n : Nat} {f : Nat → Value} (h : Reads B w p n f) (hB : B ≤ B') : Reads B' w p n f := by
  rcases h with h | ⟨b, off, h1, h2, h3⟩
  · exact .inl h
  · exact .inr ⟨b, off, h1, Nat.lt_of_lt_of_le h2 hB, h3⟩
theorem Reads.mono' {B B' : Nat} {w : World} {p : Option Addr} {n : Nat} {f g : Nat → Value} (h : Reads B w p n f) (hB : B ≤ B') (hf : ∀ i, i < n → f i = g i) : Reads B' w p n g := by
  rcases h with h | ⟨b, off, h1, h2, h3⟩
  · exact .inl h
  · exact .inr ⟨b, off, h1, Nat.lt_of_lt_of_le h2 hB, fun i hi => by rw [← hf i hi]; exact h3 i hi⟩
theorem Reads.take {B : Nat} {w : World} {p : Option Addr} {n m : Nat} {f : Nat → Value} (h : Reads B w p n f) (hm : m ≤ n) : Reads B w p m f := by
  rcases h with h | ⟨b, off, h1, h2, h3⟩
  · exact .inl (by omega)
  · exact .inr ⟨b, off, h1, h2, fun i hi => h3 i (by omega)⟩
theorem Reads.nil {B : Nat} {w : World} {p : Option Addr} {f : Nat → Value} : Reads B w p 0 f := .inl rfl
end Go.Proofs.YtejknkgbkkdaiaaGreatDoor

namespace Go.Proofs.YtejknkgbkkdaiaaGreatDoor
open Go.RowKit
set_option linter.unusedVariables false
set_option linter.unusedSimpArgs false

set_option maxHeartbeats 400000 in
theorem choose_any (x a b : BitVec 32) (w : World) :
    Calls Tryz.prog 106 #[.int .u32 (u x), .int .u32 (u a), .int .u32 (u b)] w fun e w' => e = .returned (.int .u32 (u (x &&& a ||| ~~~x &&& b))) ∧ w = w' := by
  go_enter Tryz.func106, Tryz.ntmps106
  go_wp2
  go_ret
  exact ⟨rfl, rfl⟩
set_option maxHeartbeats 400000 in
theorem turn_any (x : BitVec 32) (n : Int) (w : World) :
    Calls Tryz.prog 112 #[.int .u32 (u x), .int .i64 n] w fun e w' => e = .returned (.int .u32 (u (turn x (n % 32).toNat))) ∧ w = w' := by
  go_enter Tryz.func112, Tryz.ntmps112
  go_wp2
  go_ret
  exact ⟨ret_u (turn_u x n), rfl⟩
set_option maxHeartbeats 400000 in
theorem shift_any (x : BitVec 32) (n : Int) (w : World) (h1 : n ≤ 9223372036854775807) :
    Calls Tryz.prog 111 #[.int .u32 (u x), .int .i64 n] w fun e w' => e = .returned (.int .u32 (u (if n < 0 then x else x >>> n.toNat))) ∧ w = w' := by
  by_cases hn : n < 0
  · go_enter Tryz.func111, Tryz.ntmps111
    go_wp2
    go_ret
    exact ⟨rfl, rfl⟩
  · have hs := shr_u (P := Tryz.prog) (w := w) x .u64 n (by omega)
    have hw : IntKind.u64.wrap n = n := by rw [IntKind.wrap_u64]; omega
    go_enter Tryz.func111, Tryz.ntmps111
    go_wp2
    go_ret
    exact ⟨rfl, rfl⟩
end Go.Proofs.YtejknkgbkkdaiaaGreatDoor

namespace Go.Proofs.YtejknkgbkkdaiaaGreatDoor
open Go.RowKit
set_option linter.unusedSimpArgs false
set_option linter.unusedVariables false

def sumTo (f : Nat → BitVec 32) : Nat → BitVec 32
  | 0 => 0
  | k + 1 => sumTo f k + f k
/-- how many of the first have a 1 at a place -/
def onesTo (c : Nat) (f : Nat → BitVec 32) : Nat → Nat
  | 0 => 0
  | k + 1 => onesTo c f k + (f k >>> c &&& 1#32).toNat
theorem one_le (x : BitVec 32) : (x &&& 1#32).toNat ≤ 1 := by
  rw [BitVec.toNat_and]; exact Nat.and_le_right
theorem onesTo_le (c : Nat) (f : Nat → BitVec 32) (k : Nat) : onesTo c f k ≤ k := by
  induction k with
  | zero => exact Nat.le_refl _
  | succ k ih => have := one_le (f k >>> c); simp only [onesTo]; omega
def mixTo (x : BitVec 32) (g : Nat → Int) : Nat → BitVec 32
  | 0 => 0
  | k + 1 => mixTo x g k ^^^ turn x (g k % 32).toNat
def mostTo (n : Nat) (f : Nat → BitVec 32) : Nat → BitVec 32
  | 0 => 0
  | k + 1 => if n < 2 * onesTo k f n then mostTo n f k ||| 1#32 <<< k else mostTo n f k

set_option maxHeartbeats 400000 in
theorem sum_any (B : Nat) (p : Option Addr) (n cap : Nat) (f : Nat → BitVec 32) (w : World) (hn : n ≤ 9223372036854775807) (hr : Reads B w p n (fun i => .int .u32 (u (f i)))) :
    Calls Tryz.prog 101 #[.slice p n cap] w fun e w' => e = .returned (.int .u32 (u (sumTo f n))) ∧ w = w' := by
  go_enter Tryz.func101, Tryz.ntmps101
  go_wp2
  go_loop [3, 8] (fun t i => ∃ k : Nat, k ≤ n ∧ i = .int .i64 k ∧ t = .int .u32 (u (sumTo f k))) (fun _ i => n - (intOf i).toNat)
  case atStart => exact ⟨0, Nat.zero_le _, rfl, rfl⟩
  case round =>
    obtain ⟨k, hk, rfl, rfl⟩ := hrel
    by_cases hlt : k < n
    · rcases hr with hr | ⟨b, off, rfl, hb, hc⟩
      · omega
      · have hcell := hc k hlt
        clear hc
        go_wp2
        go_round
        case rel => exact ⟨k + 1, by omega, by go_num, rfl⟩
        case measure => simp [intOf]; omega
    · obtain rfl : k = n := by omega
      go_wp2
      go_ret
      exact ⟨rfl, rfl⟩

set_option maxHeartbeats 400000 in
theorem ones_any (B c : Nat) (p : Option Addr) (n cap : Nat) (f : Nat → BitVec 32) (w : World) (hn : n ≤ 9223372036854775807) (hcl : c < 32) (hr : Reads B w p n (fun i => .int .u32 (u (f i)))) :
    Calls Tryz.prog 113 #[.int .i64 c, .slice p n cap] w fun e w' => e = .returned (.int .i64 (onesTo c f n)) ∧ w = w' := by
  go_enter Tryz.func113, Tryz.ntmps113
  go_wp2
  go_loop [5, 10] (fun t i => ∃ k : Nat, k ≤ n ∧ i = .int .i64 k ∧ t = .int .i64 (onesTo c f k)) (fun _ i => n - (intOf i).toNat)
  case atStart => exact ⟨0, Nat.zero_le _, rfl, rfl⟩
  case round =>
    obtain ⟨k, hk, rfl, rfl⟩ := hrel
    by_cases hlt : k < n
    · rcases hr with hr | ⟨b, off, rfl, hb, hc⟩
      · omega
      · have hcell := hc k hlt
        have ho := onesTo_le c f k
        have h1 := one_le (f k >>> c)
        have h2 : u (f k >>> c &&& 1#32) = (((f k >>> c &&& 1#32).toNat : Nat) : Int) := rfl
        have h3 := u_lo (f k >>> c &&& 1#32)
        have H2 := Lib.hid h2
        have h4 : u (f k >>> c &&& 1#32) ≤ 1 := by rw [h2]; omega
        clear hc h2
        go_wp2
        go_round
        case rel => exact ⟨k + 1, by omega, by go_num, by rw [H2.out]; simp [onesTo]⟩
        case measure => simp [intOf]; omega
    · obtain rfl : k = n := by omega
      go_wp2
      go_ret
      exact ⟨rfl, rfl⟩

set_option maxHeartbeats 400000 in
theorem mix_any (B : Nat) (x : BitVec 32) (p : Option Addr) (n cap : Nat) (g : Nat → Int) (w : World) (hn : n ≤ 9223372036854775807) (hr : Reads B w p n (fun i => .int .i64 (g i))) :
    Calls Tryz.prog 105 #[.int .u32 (u x), .slice p n cap] w fun e w' => e = .returned (.int .u32 (u (mixTo x g n))) ∧ w = w' := by
  go_enter Tryz.func105, Tryz.ntmps105
  go_wp2
  go_loop [5, 10] (fun t i => ∃ k : Nat, k ≤ n ∧ i = .int .i64 k ∧ t = .int .u32 (u (mixTo x g k))) (fun _ i => n - (intOf i).toNat)
  case atStart => exact ⟨0, Nat.zero_le _, rfl, rfl⟩
  case round =>
    obtain ⟨k, hk, rfl, rfl⟩ := hrel
    by_cases hlt : k < n
    · rcases hr with hr | ⟨b, off, rfl, hb, hc⟩
      · omega
      · have hcell := hc k hlt
        clear hc
        go_wp2_with (go_at_call 112; refine (turn_any x (g k) _).mono ?_; rintro e w' ⟨rfl, rfl⟩)
        go_round
        case rel => exact ⟨k + 1, by omega, by go_num, rfl⟩
        case measure => simp [intOf]; omega
    · obtain rfl : k = n := by omega
      go_wp2
      go_ret
      exact ⟨rfl, rfl⟩

set_option maxHeartbeats 400000 in
theorem most_any (B : Nat) (p : Option Addr) (n cap : Nat) (f : Nat → BitVec 32) (w : World) (hn : n ≤ 4611686018427387903) (hr : Reads B w p n (fun i => .int .u32 (u (f i)))) :
    Calls Tryz.prog 107 #[.slice p n cap] w fun e w' => e = .returned (.int .u32 (u (mostTo n f 32))) ∧ w = w' := by
  go_enter Tryz.func107, Tryz.ntmps107
  go_wp2
  go_loop [3, 6] (fun t i => ∃ k : Nat, k ≤ 32 ∧ i = .int .i64 k ∧ t = .int .u32 (u (mostTo n f k))) (fun _ i => 32 - (intOf i).toNat)
  case atStart => exact ⟨0, Nat.zero_le _, rfl, rfl⟩
  case round =>
    obtain ⟨k, hk, rfl, rfl⟩ := hrel
    by_cases hlt : k < 32
    · have ho := onesTo_le k f n
      by_cases hm : n < 2 * onesTo k f n
      all_goals
        go_wp2_with (go_at_call 113; refine (ones_any B k p n cap f _ (by omega) hlt hr).mono ?_; rintro e w' ⟨rfl, rfl⟩)
        go_round
        case rel => exact ⟨k + 1, by omega, by go_num, by simp [mostTo, hm]⟩
        case measure => simp [intOf]; omega
    · obtain rfl : k = 32 := by omega
      go_wp2
      go_ret
      exact ⟨rfl, rfl⟩
end Go.Proofs.YtejknkgbkkdaiaaGreatDoor

namespace Go.Proofs.YtejknkgbkkdaiaaGreatDoor
open Go.RowKit
set_option linter.unusedVariables false
set_option maxRecDepth 20000
set_option linter.unusedSimpArgs false

/-- the number of a byte -/
def ub (x : BitVec 8) : Int := (x.toNat : Int)
theorem ub_lo (x : BitVec 8) : 0 ≤ ub x := by unfold ub; omega
theorem ub_hi (x : BitVec 8) : ub x ≤ 255 := by unfold ub; have := x.isLt; omega
theorem u8_of_u (x : BitVec 32) : IntKind.u8.wrap (u x) = ub (x.setWidth 8) := by
  unfold u ub; rw [IntKind.wrap_u8, BitVec.toNat_setWidth]; omega
attribute [go_sem] u8_of_u
def cellsOf (g : Nat → BitVec 8) (n : Nat) : List Value := (List.range n).map fun i => .int .u8 (ub (g i))
theorem cellsOf_succ (g : Nat → BitVec 8) (n : Nat) : cellsOf g n ++ [.int .u8 (ub (g n))] = cellsOf g (n + 1) := by
  unfold cellsOf; rw [List.range_succ, List.map_append]; rfl
theorem cellsOf_at (g : Nat → BitVec 8) (n i : Nat) (h : i < n) : (cellsOf g n)[i]? = some (.int .u8 (ub (g i))) := by
  unfold cellsOf; simp [h]
theorem Tryz.infoB : (Tryz.prog.info? 5).map (fun i => (i.zero, i.size, i.bytes)) = some (some (.int .u8 0), 1, 1) := by kernel_rfl

/-- an octets value at cell ⟨ob, oo⟩ whose bytes are the call's own row g of n -/
def Oct (w : World) (base ob oo : Nat) (g : Nat → BitVec 8) (n : Nat) : Prop :=
  ∃ v, w.cell? ⟨ob, oo, none⟩ = some v ∧ w.frozen? ⟨ob, oo, none⟩ = false ∧ v.ownBlock ≠ some ob ∧ w.ownsRow base 5 1 v n (cellsOf g n)

theorem own_setCell {w : World} {base : Nat} {e : TypeId} {size : Nat} {v : Value} {n : Nat} {xs : List Value} (h : w.ownsRow base e size v n xs) (p : Addr) (x : Value) (hne : v.ownBlock ≠ some p.block) : (w.setCell p x).ownsRow base e size v n xs :=
  h.kept (row := some p.block) ⟨rfl, rfl, rfl, by simp, fun k _ hk => Below.heap_setCell w p x k (fun e => hk (by rw [e]))⟩ (.inr hne)

theorem oct_of {w : World} {base ob oo g1 n cap : Nat} {v : Value} {g : Nat → BitVec 8} (hc : w.cell? ⟨ob, oo, none⟩ = some v) (hf : w.frozen? ⟨ob, oo, none⟩ = false) (hne : g1 ≠ ob)
    (hown : w.ownsRow base 5 1 (.slice (some ⟨g1, 0, none⟩) n cap) n (cellsOf g n)) : Oct (w.setCell ⟨ob, oo, none⟩ (.slice (some ⟨g1, 0, none⟩) n cap)) base ob oo g n :=
  ⟨_, World.cell?_setCell_same' _ _ _ (by rw [hc]; rfl), by rw [World.frozen?_setCell]; exact hf, by simpa [Value.ownBlock] using hne, own_setCell hown _ _ (by simpa [Value.ownBlock] using hne)⟩

set_option maxHeartbeats 1000000 in
set_option maxRecDepth 100000 in
theorem put_any (base ob oo n : Nat) (x : BitVec 32) (g : Nat → BitVec 8) (w : World) (hn : n ≤ 2147483647) (hb : base ≤ ob) (hob : ob < w.heap.size) (ho : Oct w base ob oo g n)
    (hg : ∀ i, i < 4 → g (n + i) = (x >>> (24 - 8 * i)).setWidth 8) :
    Calls Tryz.prog 108 #[.pointer (some ⟨ob, oo, none⟩), .int .u32 (u x)] w fun e w' => e = .returned (.tuple #[]) ∧ Below base w w' ∧ Oct w' base ob oo g (n + 4) := by
  obtain ⟨i0, hi, hz0, hz1, hz2⟩ := info_parts Tryz.infoB
  go_enter Tryz.func108, Tryz.ntmps108
  go_wp2
  go_loopw [5] (fun i wr => ∃ k : Nat, k ≤ 4 ∧ i = .int .i64 k ∧ Oct wr base ob oo g (n + k) ∧ Below base w wr) (fun i _ => 4 - (intOf i).toNat)
  case atStart => exact ⟨0, Nat.zero_le _, rfl, ho, Below.refl _ _⟩
  case round =>
    obtain ⟨k, hk, rfl, ⟨v, hv, hf, hne, hown⟩, hbel⟩ := hrel
    by_cases hlt : k < 4
    · have hgk := Lib.hid (hg k hlt)
      clear hg
      have hsz := hbel.size
      have s1 : IntKind.i64.wrap (↑k + 1) = ↑k + 1 := IntWalk.i64_in _ (by omega)
      have s2 : IntKind.i64.wrap (8 * (↑k + 1)) = 8 * (↑k + 1) := IntWalk.i64_in _ (by omega)
      have s3 : IntKind.i64.wrap (32 - 8 * (↑k + 1)) = 32 - 8 * (↑k + 1) := IntWalk.i64_in _ (by omega)
      have hv2 : ∀ o, (wr.alloc o).cell? ⟨ob, oo, none⟩ = some v := fun o => (World.cell?_alloc_past _ _ _ (by show ob < wr.heap.size; omega)).trans hv
      have hf2 : ∀ o, (wr.alloc o).frozen? ⟨ob, oo, none⟩ = false := fun o => (World.frozen?_alloc_past _ _ _ (by show ob < wr.heap.size; omega)).trans hf
      have hlo : base ≤ wr.heap.size := by omega
      have hm1 : n + k + 1 ≤ maxLen := by unfold maxLen; omega
      go_wp2
      go_region_law (refine step_append_lies _ rfl (.tmp 12) (.tmp 20) 22 rfl base 5 i0 (.int .u8 0) 1 1 Tryz.underlying22 hi hz0 hz1 hz2 rfl (by decide) v (n + k) (cellsOf g (n + k)) (by simp [Act.eval, Act.put]) (hown.drew.alloc _) ⟨wr.heap.size, 0, none⟩ 1 1 [.int .u8 (ub (BitVec.setWidth 8 (x >>> (32 - 8 * ((k : Int) + 1)).toNat)))] (by simp [Act.eval, Act.put]) rfl (World.news_of_block (heap_alloc_new _ _)) (by intro y hy; simp at hy; subst hy; rfl) (by decide) hm1 (by omega) (by simp; omega) (wr.heap.size + 1) (by simp) ?_; intro g1 cap1 w1 hown1 hgrow1 hat1 hlt1; have hc1 := (hgrow1.cell_far ⟨ob, oo, none⟩ (by simp; omega) (Ne.symm hne)).trans (hv2 _); have hf1 := (hgrow1.frozen_far ⟨ob, oo, none⟩ (by simp; omega) (Ne.symm hne)).trans (hf2 _))
      all_goals
        have hfin : Oct (w1.setCell ⟨ob, oo, none⟩ (.slice (some ⟨g1, 0, none⟩) (n + k + 1) cap1)) base ob oo g (n + (k + 1)) ∧ Below base w (w1.setCell ⟨ob, oo, none⟩ (.slice (some ⟨g1, 0, none⟩) (n + k + 1) cap1)) := by
          refine ⟨oct_of hc1 hf1 ?_ ?_, (((hbel.alloc hlo _).drew).grown hgrow1 (by simp; omega) (fun b e => (hown.lt b e).1)).setCell hb _⟩
          · intro e
            rcases hat1 with h | h
            · exact hne (h.trans (by rw [e]))
            · omega
          · have e1 : (32 - 8 * ((k : Int) + 1)).toNat = 24 - 8 * k := by omega
            rw [e1, ← hgk.out, cellsOf_succ] at hown1
            exact hown1
        have HF := Lib.hid hfin
        clear hfin
        go_wp2
        go_roundw
        case rel => exact ⟨k + 1, by omega, by go_num, HF.out.1, HF.out.2⟩
        case measure => simp [intOf]; omega
    · obtain rfl : k = 4 := by omega
      go_wp2
      go_end0
      exact ⟨rfl, hbel, v, hv, hf, hne, hown⟩
end Go.Proofs.YtejknkgbkkdaiaaGreatDoor
