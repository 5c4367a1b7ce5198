/-
  Merged: SqA, SqR, SqB, Bits.
-/
import Derived.Test.YtjhlombbkodpaaaDoorSq
import Derived.Deep.Cut
import Derived.Deep.CutRange
import Derived.Deep.RegionWith
import Derived.Deep.RegionHeld3
import Derived.Laws.IdiomStrings
import Derived.Test.YtjhlombbkodpaaaDoorProg
import Derived.WalkKit
import Derived.WalkSpells
import Derived.WalkLawsBesides
import Derived.Lib.Hide
import Derived.Handy

namespace Go.Proofs.YtjhlombbkodpaaaDoor
open Go.RowKit
set_option linter.unusedSimpArgs false
set_option linter.unusedVariables false

theorem size_place (w : World) : (sizeOf 73).run Tryd.prog w = .ok 2 w := by
  obtain ⟨i, hi, hz⟩ : ∃ i, Tryd.prog.info? 73 = some i ∧ i.size = 2 := by
    have h := infoPlace
    cases hi : Tryd.prog.info? 73 with
    | none => rw [hi] at h; cases h
    | some i => rw [hi] at h; exact ⟨i, rfl, Option.some.inj h⟩
  simp [sizeOf, typeInfo, hi, hz]
theorem field_place (x y z : Int) (w : World) : (Instr.field 75 (.agg #[.int .i64 x, .int .i64 y, .int .i64 z]) 0).run Tryd.prog w = .ok (.agg #[.int .i64 x, .int .i64 y]) w := by
  simp [Instr.field, asAgg, part, isAgg, run_underlying Tryd.underlying75, run_underlying Tryd.underlying73, size_place]
theorem field_number (x y z : Int) (w : World) : (Instr.field 75 (.agg #[.int .i64 x, .int .i64 y, .int .i64 z]) 1).run Tryd.prog w = .ok (.int .i64 z) w := by
  simp [Instr.field, asAgg, part, isAgg, run_underlying Tryd.underlying75, run_underlying Tryd.underlying3]
theorem field_file (x y : Int) (w : World) : (Instr.field 73 (.agg #[.int .i64 x, .int .i64 y]) 0).run Tryd.prog w = .ok (.int .i64 x) w := by
  simp [Instr.field, asAgg, part, isAgg, run_underlying Tryd.underlying73, run_underlying Tryd.underlying3]
theorem field_rank (x y : Int) (w : World) : (Instr.field 73 (.agg #[.int .i64 x, .int .i64 y]) 1).run Tryd.prog w = .ok (.int .i64 y) w := by
  simp [Instr.field, asAgg, part, isAgg, run_underlying Tryd.underlying73, run_underlying Tryd.underlying3]
attribute [go_sem] field_place field_number field_file field_rank

theorem is_any (s : Int) (w : World) :
    Calls Tryd.prog 22 #[.int .i64 s] w fun e w' => e = .returned (.bool (sq s)) ∧ Below w.heap.size w w' := by
  go_enter Tryd.func22, Tryd.ntmps22
  go_wp2_with fail
  refine (spotOf_any s _).mono ?_
  rintro e w1 ⟨rfl, hb1⟩
  go_wp2_with fail
  refine (onBsq_any s _).mono ?_
  rintro e w2 ⟨rfl, hb2⟩
  go_wp2
  go_ret
  exact ⟨rfl, hb1.trans (hb2.mono hb1.size)⟩
theorem at_any (f r : Int) (w : World) :
    Calls Tryd.prog 68 #[.int .i64 f, .int .i64 r] w fun e w' => e = .returned (.int .i64 (sAt f r)) ∧ Below w.heap.size w w' := by
  have hN : sN (sAt f r) = sAt f r := by
    rcases sAt_cases f r with ⟨_, e⟩ | ⟨h0, h1, h2, h3, _, e⟩
    · rw [e]; rfl
    · rw [e]; exact sN_at h0 h1 h2 h3
  have HN := Lib.hid hN
  clear hN
  go_enter Tryd.func68, Tryd.ntmps68
  go_wp2_with fail
  refine (spotAt_any f r _).mono ?_
  rw [HN.out]
  rintro e w1 ⟨rfl, hb1⟩
  go_wp2
  go_ret
  exact ⟨rfl, hb1⟩
theorem file_any (s : Int) (w : World) :
    Calls Tryd.prog 69 #[.int .i64 s] w fun e w' => e = .returned (.int .i64 (sF s)) ∧ Below w.heap.size w w' := by
  go_enter Tryd.func69, Tryd.ntmps69
  go_wp2_with fail
  refine (spotOf_any s _).mono ?_
  rintro e w1 ⟨rfl, hb1⟩
  go_wp2
  go_ret
  exact ⟨rfl, hb1⟩
theorem rank_any (s : Int) (w : World) :
    Calls Tryd.prog 70 #[.int .i64 s] w fun e w' => e = .returned (.int .i64 (sR s)) ∧ Below w.heap.size w w' := by
  go_enter Tryd.func70, Tryd.ntmps70
  go_wp2_with fail
  refine (spotOf_any s _).mono ?_
  rintro e w1 ⟨rfl, hb1⟩
  go_wp2
  go_ret
  exact ⟨rfl, hb1⟩
theorem stp_sN {s : Int} (a b : Int) : sN (stp s a b) = stp s a b := by
  cases h : (sq s && onB (s % 8 + a) (s / 8 + b))
  · unfold stp; rw [h]; rfl
  · rw [Bool.and_eq_true] at h
    obtain ⟨u0, u1, u2, u3⟩ := (onB_iff _ _).1 h.2
    obtain ⟨v0, v1⟩ := (sq_iff _).1 h.1
    unfold stp
    rw [h.1, h.2]
    simp only [Bool.and_self, if_true]
    unfold sN
    rw [if_pos ((sq_iff _).2 (by omega))]
theorem step_any (s a b : Int) (w : World) (ha : I64 a) (hb : I64 b) :
    Calls Tryd.prog 61 #[.int .i64 s, .int .i64 a, .int .i64 b] w fun e w' => e = .returned (.int .i64 (stp s a b)) ∧ Below w.heap.size w w' := by
  have HN := Lib.hid (stp_sN (s := s) a b)
  go_enter Tryd.func61, Tryd.ntmps61
  go_wp2_with fail
  refine (spotOf_any s _).mono ?_
  rintro e w1 ⟨rfl, hb1⟩
  go_wp2_with fail
  refine (next_any s a b _ ha hb).mono ?_
  rw [HN.out]
  rintro e w2 ⟨rfl, hb2⟩
  go_wp2
  go_ret
  exact ⟨rfl, hb1.trans (hb2.mono hb1.size)⟩
end Go.Proofs.YtjhlombbkodpaaaDoor

namespace Go.Proofs.YtjhlombbkodpaaaDoor
open Go.RowKit
set_option linter.unusedSimpArgs false
set_option linter.unusedVariables false
section
variable {P : Program} {ops : Array Oper} {Q : Exit → Act → World → Prop} {md : Region.Mode}
/-- the beginning of a region that draws: nothing is listed -/
theorem wp_region_start {S : World → Prop} {id n : Nat} {l : Array Bool} {a : Act} {w : World} (hm : P.follows .mixedOrders = true) (hsz : ops.size = n) (hl : Array.replicate n false = l) (hS : S w.drew)
    (h : S w.drew → wpAnyH P .any ops Q S n l a w.drew) : (Code.region id ops true).wp P Q a w := by
  subst hsz hl
  exact wp_region_held_drew hm hS h
/-- an operation is taken first; its slot, and what is listed behind it, are named -/
theorem take_to {S : World → Prop} {i : Nat} {oi : Oper} {d : Option Tmp} {v : Value} {fuel : Nat} {listed l' : Array Bool} {a : Act} {w : World} (hi : ops[i]? = some oi) (hd : oi.dst = d)
    (hs : Region.noSelect ops = true) (hf : Region.free md ops listed i = true) (hr : (Region.ready md ops listed).contains i = true) (hl : listed.setIfInBounds i true = l')
    (hQ : ∀ c a w, Q (.panic c) (a.put d v) w → Q (.panic c) a w) (hy : YieldsIf P ops S oi v a) (hS : S w)
    (h : wpAnyH P md ops Q S fuel l' (a.put d v) w) : wpAnyH P md ops Q S (fuel + 1) listed a w := by
  subst hd hl
  exact wpAnyH_take hi hs hf hr hQ hy hS h
/-- one operation alone may come up -/
theorem one_to {S : World → Prop} {i : Nat} {o : Oper} {fuel : Nat} {listed l' : Array Bool} {a : Act} {w : World} (ho : ops[i]? = some o) (hr : Region.ready md ops listed = [i]) (hl : listed.setIfInBounds i true = l')
    (h : ∀ K' : Act → World → Prop, Shut (∀ a w, S w → (S w → wpAnyH P md ops Q S fuel l' a w) → K' a w) → if Region.wanted o (yielded ops a.tmps) = true then Oper.wp P o a w K' Q else K' (a.put o.dst undef) w) : wpAnyH P md ops Q S (fuel + 1) listed a w := by
  subst hl
  exact wpAnyH_ready hr (by simp) (AllReadyH.cons ho h AllReadyH.nil)
/-- two may come up -/
theorem two_to {S : World → Prop} {i j : Nat} {o o2 : Oper} {fuel : Nat} {listed l1 l2 : Array Bool} {a : Act} {w : World} (ho : ops[i]? = some o) (ho2 : ops[j]? = some o2) (hr : Region.ready md ops listed = [i, j]) (hl : listed.setIfInBounds i true = l1) (hl2 : listed.setIfInBounds j true = l2)
    (h : ∀ K' : Act → World → Prop, Shut (∀ a w, S w → (S w → wpAnyH P md ops Q S fuel l1 a w) → K' a w) → if Region.wanted o (yielded ops a.tmps) = true then Oper.wp P o a w K' Q else K' (a.put o.dst undef) w)
    (h2 : ∀ K' : Act → World → Prop, Shut (∀ a w, S w → (S w → wpAnyH P md ops Q S fuel l2 a w) → K' a w) → if Region.wanted o2 (yielded ops a.tmps) = true then Oper.wp P o2 a w K' Q else K' (a.put o2.dst undef) w) : wpAnyH P md ops Q S (fuel + 1) listed a w := by
  subst hl hl2
  exact wpAnyH_ready hr (by simp) (AllReadyH.cons ho h (AllReadyH.cons ho2 h2 AllReadyH.nil))
end
end Go.Proofs.YtjhlombbkodpaaaDoor

namespace Go.Proofs.YtjhlombbkodpaaaDoor
open Go.RowKit
set_option linter.unusedSimpArgs false
set_option linter.unusedVariables false

/-- a byte of a small number -/
def ch (n : Int) : UInt8 := UInt8.ofNat n.toNat
theorem ch_nat {n : Int} (h0 : 0 ≤ n) (h1 : n < 256) : ((ch n).toNat : Int) = n := by
  unfold ch; rw [UInt8.toNat_ofNat']; omega
/-- a square's name -/
def nm (s : Int) : ByteArray := ⟨#[ch (97 + s % 8), ch (49 + s / 8)]⟩
def nmV (s : Int) : ByteArray := if sq s then nm s else ⟨#[]⟩
theorem q_t {a b : Int} {c : Bool} (h : a = b) : Ending.returned (.tuple #[.int .i64 a, .bool c]) = .returned (.tuple #[.int .i64 b, .bool c]) := by rw [h]
/-- the bytes of a string, as numbers -/
def nb (S : ByteArray) (i : Nat) : Int := ((S.data.toList.getD i 0).toNat : Int)
/-- is it a square's name, and which? -/
def isN (S : ByteArray) : Bool := decide (S.size = 2) && onB (nb S 0 - 97) (nb S 1 - 49)
def nN (S : ByteArray) : Int := if isN S then 8 * (nb S 1 - 49) + (nb S 0 - 97) else 0
end Go.Proofs.YtjhlombbkodpaaaDoor

namespace Go.Proofs.YtjhlombbkodpaaaDoor
open Go.RowKit
set_option linter.unusedVariables false
set_option linter.unusedSimpArgs false

/-- the number of a word -/
def u (x : BitVec 32) : Int := (x.toNat : Int)
theorem u_lo (x : BitVec 32) : 0 ≤ u x := by unfold u; omega
theorem u_hi (x : BitVec 32) : u x ≤ 4294967295 := by unfold u; have := x.isLt; omega
theorem u_of (n : Int) (h0 : 0 ≤ n) (h1 : n ≤ 4294967295) : ∃ x : BitVec 32, n = u x :=
  ⟨BitVec.ofNat 32 n.toNat, by unfold u; rw [BitVec.toNat_ofNat, Nat.mod_eq_of_lt (by omega)]; omega⟩
theorem u_wf {n : Int} (h : (Lit.int .u32 n).wf = true) : ∃ x : BitVec 32, n = u x :=
  u_of n (by simp [Lit.wf, IntKind.min, IntKind.max, IntKind.signed, IntKind.bits] at h; omega) (by simp [Lit.wf, IntKind.min, IntKind.max, IntKind.signed, IntKind.bits] at h; omega)
theorem u_inj {x y : BitVec 32} : u x = u y ↔ x = y := by
  unfold u; rw [Int.ofNat_inj]; exact BitVec.toNat_inj
theorem u_beq (x y : BitVec 32) : (u x == u y) = (x == y) := by
  rw [Bool.eq_iff_iff, beq_iff_eq, beq_iff_eq]; exact u_inj
theorem u_bne (x y : BitVec 32) : (u x != u y) = (x != y) := by
  simp only [bne, u_beq]
theorem of_u (x : BitVec 32) : BitVec.ofInt 32 (u x) = x := by
  unfold u; rw [BitVec.ofInt_natCast]; simp
theorem wrap_u32_nat (n : Nat) (h : n < 4294967296) : IntKind.u32.wrap (n : Int) = (n : Int) := by
  rw [IntKind.wrap_u32]; omega
theorem u_wrap (x : BitVec 32) : IntKind.u32.wrap (x.toNat : Int) = u x := wrap_u32_nat _ x.isLt
theorem and_u (x y : BitVec 32) : bits .and .u32 (u x) (u y) = u (x &&& y) := by
  show IntKind.u32.wrap ((BitVec.ofInt 32 (u x) &&& BitVec.ofInt 32 (u y)).toNat : Int) = _
  rw [of_u, of_u, u_wrap]
theorem or_u (x y : BitVec 32) : bits .or .u32 (u x) (u y) = u (x ||| y) := by
  show IntKind.u32.wrap ((BitVec.ofInt 32 (u x) ||| BitVec.ofInt 32 (u y)).toNat : Int) = _
  rw [of_u, of_u, u_wrap]
theorem xor_u (x y : BitVec 32) : bits .xor .u32 (u x) (u y) = u (x ^^^ y) := by
  show IntKind.u32.wrap ((BitVec.ofInt 32 (u x) ^^^ BitVec.ofInt 32 (u y)).toNat : Int) = _
  rw [of_u, of_u, u_wrap]
theorem not_u (x : BitVec 32) : bits .xor .u32 IntKind.u32.max (u x) = u (~~~x) := by
  have h : IntKind.u32.max = u (BitVec.allOnes 32) := by decide
  rw [h, xor_u]
  rw [BitVec.allOnes_xor]
theorem u32_plain : IntKind.u32.signed = false := rfl
theorem fdiv_nat (a b : Nat) : (a : Int).fdiv (b : Int) = ((a / b : Nat) : Int) := by
  rw [Int.fdiv_eq_ediv_of_nonneg _ (by omega)]; rfl
theorem pow_min (n k : Nat) : ((2 : Int) ^ (min n k)) = (((2 ^ (min n k)) : Nat) : Int) := by
  simp [Int.natCast_pow]
theorem shr_u {P : Program} {w : World} (x : BitVec 32) (k : IntKind) (y : Int) (h : 0 ≤ y) :
    (Op.shift .shr .u32 (u x) k y).run P w = .ok (.int .u32 (u (x >>> y.toNat))) w := by
  unfold Op.shift
  rw [if_neg (by omega)]
  have hx := x.isLt
  have e : (u x).fdiv (2 ^ (min y.toNat 32)) = u (x >>> y.toNat) := by
    unfold u
    rw [pow_min, fdiv_nat, BitVec.toNat_ushiftRight, Nat.shiftRight_eq_div_pow]
    by_cases hy : y.toNat ≤ 32
    · rw [Nat.min_eq_left hy]
    · rw [Nat.min_eq_right (by omega)]
      have h2 : 2 ^ 32 ≤ 2 ^ y.toNat := Nat.pow_le_pow_right (by omega) (by omega)
      rw [Nat.div_eq_of_lt hx, Nat.div_eq_of_lt (by omega)]
  show (pure (.int .u32 ((u x).fdiv (2 ^ (min y.toNat 32)))) : Sem Value).run P w = _
  rw [e]; rfl
theorem shl_u {P : Program} {w : World} (x : BitVec 32) (k : IntKind) (y : Int) (h : 0 ≤ y) :
    (Op.shift .shl .u32 (u x) k y).run P w = .ok (.int .u32 (u (x <<< y.toNat))) w := by
  unfold Op.shift
  rw [if_neg (by omega)]
  have e : IntKind.u32.wrap (u x * 2 ^ (min y.toNat 32)) = u (x <<< y.toNat) := by
    unfold u
    rw [pow_min, BitVec.toNat_shiftLeft, Nat.shiftLeft_eq, IntKind.wrap_u32]
    have hm : ((x.toNat : Int) * ((2 ^ min y.toNat 32 : Nat) : Int)) = ((x.toNat * 2 ^ min y.toNat 32 : Nat) : Int) := by simp
    rw [hm]
    by_cases hy : y.toNat ≤ 32
    · rw [Nat.min_eq_left hy]; omega
    · rw [Nat.min_eq_right (by omega)]
      obtain ⟨c, hc⟩ : ∃ c, 2 ^ y.toNat = 2 ^ 32 * c := ⟨2 ^ (y.toNat - 32), by rw [← Nat.pow_add]; congr 1; omega⟩
      rw [hc, ← Nat.mul_assoc, Nat.mul_comm x.toNat, Nat.mul_assoc, Nat.mul_mod_right]
      omega
  show (pure (.int .u32 (IntKind.u32.wrap (u x * 2 ^ (min y.toNat 32)))) : Sem Value).run P w = _
  rw [e]; rfl
theorem add_u (x y : BitVec 32) : IntKind.u32.wrap (u x + u y) = u (x + y) := by
  unfold u; rw [IntKind.wrap_u32, BitVec.toNat_add]; omega
theorem low5 (n : Int) : (IntKind.u64.wrap n).tmod 32 = n % 32 := by
  rw [IntKind.wrap_u64, Int.tmod_eq_emod_of_nonneg (by omega)]; omega
/-- x, turned right by r -/
def turn (x : BitVec 32) (r : Nat) : BitVec 32 := x >>> r ||| x <<< (32 - r)
theorem shr_div (x : BitVec 32) (r : Nat) : u x / 2 ^ r = u (x >>> r) := by
  unfold u
  rw [BitVec.toNat_ushiftRight, Nat.shiftRight_eq_div_pow]
  simp [Int.natCast_pow]
theorem shl_mod (x : BitVec 32) (r : Nat) : u x * 2 ^ r % 4294967296 = u (x <<< r) := by
  unfold u
  rw [BitVec.toNat_shiftLeft, Nat.shiftLeft_eq]
  simp [Int.natCast_pow]
theorem ret_u {a : Int} {x : BitVec 32} (h : a = u x) : Ending.returned (.int .u32 a) = .returned (.int .u32 (u x)) := by rw [h]
theorem turn_u (x : BitVec 32) (n : Int) : u (x >>> (n % 32).toNat ||| x <<< (32 - n % 32).toNat) = u (turn x (n % 32).toNat) := by
  rw [show (32 - n % 32).toNat = 32 - (n % 32).toNat by omega]; rfl
theorem and_one (x : BitVec 32) : bits .and .u32 (u x) 1 = u (x &&& 1#32) := by
  rw [← and_u]; rfl
theorem pow_u (k : Nat) : (2 : Int) ^ k % 4294967296 = u (1#32 <<< k) := by
  have h := shl_mod 1#32 k
  rw [← h, show u 1#32 = 1 from rfl, Int.one_mul]
theorem u_i64 (x : BitVec 32) : IntKind.i64.wrap (u x) = u x := by
  rw [IntKind.wrap_i64]; unfold u; have := x.isLt; omega
theorem u_wrap64 (x : BitVec 32) : wrap64 (u x) = u x := by
  unfold wrap64 u; have := x.isLt; omega
attribute [go_sem] u_beq u_bne and_u or_u xor_u not_u u32_plain add_u low5 shr_div shl_mod pow_u and_one u_i64 u_wrap64

/-- n elements of one cell each, read through p, in a block below B: cell i holds f i -/
def Reads (B : Nat) (w : World) (p : Option Addr) (n : Nat) (f : Nat → Value) : Prop :=
  n = 0 ∨ ∃ b off, p = some ⟨b, off, none⟩ ∧ b < B ∧ ∀ i, i < n → w.cell? ⟨b, off + i, none⟩ = some (f i)
theorem Reads.below {B : Nat} {w w' : World} {p : Option Addr} {n : Nat} {f : Nat → Value} (h : Reads B w p n f) (hb : Below B w w') : Reads B w' p n f := by
  rcases h with h | ⟨b, off, h1, h2, h3⟩
  · exact .inl h
  · exact .inr ⟨b, off, h1, h2, fun i hi => by rw [hb.cell (p := ⟨b, off + i, none⟩) h2]; exact h3 i hi⟩
theorem Reads.mono {B B' : Nat} {w : World} {p : Option Addr} {n : Nat} {f : Nat → Value} (h : Reads B w p n f) (hB : B ≤ B') : Reads B' w p n f := by
  rcases h with h | ⟨b, off, h1, h2, h3⟩
  · exact .inl h
  · exact .inr ⟨b, off, h1, Nat.lt_of_lt_of_le h2 hB, h3⟩
theorem Reads.mono' {B B' : Nat} {w : World} {p : Option Addr} {n : Nat} {f g : Nat → Value} (h : Reads B w p n f) (hB : B ≤ B') (hf : ∀ i, i < n → f i = g i) : Reads B' w p n g := by
  rcases h with h | ⟨b, off, h1, h2, h3⟩
  · exact .inl h
  · exact .inr ⟨b, off, h1, Nat.lt_of_lt_of_le h2 hB, fun i hi => by rw [← hf i hi]; exact h3 i hi⟩
theorem Reads.take {B : Nat} {w : World} {p : Option Addr} {n m : Nat} {f : Nat → Value} (h : Reads B w p n f) (hm : m ≤ n) : Reads B w p m f := by
  rcases h with h | ⟨b, off, h1, h2, h3⟩
  · exact .inl (by omega)
  · exact .inr ⟨b, off, h1, h2, fun i hi => h3 i (by omega)⟩
theorem Reads.nil {B : Nat} {w : World} {p : Option Addr} {f : Nat → Value} : Reads B w p 0 f := .inl rfl
end Go.Proofs.YtjhlombbkodpaaaDoor
