/-
  Merged: RefBytes, Places, BytesLaw.
-/
import Derived.Test.YtoocfkaclhgjeaaDoorWordsOf
import Derived.Deep.RegionHeld3
import Derived.Test.YtoocfkaclhgjeaaDoorG4

namespace Go.Proofs.YtoocfkaclhgjeaaDoor
open Go.RowKit
set_option linter.unusedSimpArgs false
set_option linter.unusedVariables false

theorem u_tmod256 (x : BitVec 32) : (u x).tmod 256 = u x % 256 := Int.tmod_eq_emod_of_nonneg (u_lo x)
theorem u_mod256 (x : BitVec 32) : IntKind.u8.wrap (u x % 256) = ub (x.setWidth 8) := by
  unfold u ub; rw [IntKind.wrap_u8, BitVec.toNat_setWidth]; omega
theorem wb_at (f : Nat → BitVec 32) (k m : Nat) (hm : m < 4) : wb f (4 * k + m) = (f k >>> (24 - 8 * m)).setWidth 8 := by
  unfold wb; rw [show (4 * k + m) / 4 = k by omega, show (4 * k + m) % 4 = m by omega]

/-- the document's word: its four bytes, each at its weight -/
def dw (g : Nat → BitVec 8) (n : Nat) : BitVec 32 := (g (4 * n)).setWidth 32 * 16777216#32 + (g (4 * n + 1)).setWidth 32 * 65536#32 + (g (4 * n + 2)).setWidth 32 * 256#32 + (g (4 * n + 3)).setWidth 32
theorem mul_u (x : BitVec 32) (c : Nat) (hc : c < 4294967296) : IntKind.u32.wrap (u x * (c : Int)) = u (x * BitVec.ofNat 32 c) := by
  unfold u
  have h : c % 2 ^ 32 = c := Nat.mod_eq_of_lt (by omega)
  rw [IntKind.wrap_u32, BitVec.toNat_mul, BitVec.toNat_ofNat, h]
  rw [Int.natCast_emod, Int.natCast_mul]; rfl
theorem mul_24 (x : BitVec 32) : IntKind.u32.wrap (u x * 16777216) = u (x * 16777216#32) := mul_u x 16777216 (by omega)
theorem mul_16 (x : BitVec 32) : IntKind.u32.wrap (u x * 65536) = u (x * 65536#32) := mul_u x 65536 (by omega)
theorem mul_8 (x : BitVec 32) : IntKind.u32.wrap (u x * 256) = u (x * 256#32) := mul_u x 256 (by omega)
attribute [go_sem] mul_24 mul_16 mul_8

end Go.Proofs.YtoocfkaclhgjeaaDoor

namespace Go.Proofs.YtoocfkaclhgjeaaDoor
open Go.RowKit Go.ChangeShapes Go.WideShapes
set_option linter.unusedSimpArgs false
set_option linter.unusedVariables false

theorem choose_pl (x a b : BitVec 32) : pl (fun k => x.getLsbD k && a.getLsbD k || !x.getLsbD k && b.getLsbD k) 32 = x &&& a ||| ~~~x &&& b :=
  pl_eq _ _ fun j hj => by
    simp only [BitVec.getLsbD_or, BitVec.getLsbD_and, BitVec.getLsbD_not, hj, decide_true, Bool.true_and]
theorem most_pl (n : Nat) (f : Nat → BitVec 32) : pl (fun c => decide (n < 2 * onesTo c f n)) 32 = mostTo n f 32 :=
  pl_eq _ _ fun j hj => by rw [most_bit n f 32 j (by omega) hj]; simp [hj]

end Go.Proofs.YtoocfkaclhgjeaaDoor

namespace Go.Proofs.YtoocfkaclhgjeaaDoor
open Go.RowKit
set_option linter.unusedSimpArgs false
set_option linter.unusedVariables false

theorem push8 (x : BitVec 32) (b : BitVec 8) (hx : x.toNat < 16777216) : (x <<< 8 ||| b.setWidth 32).toNat = x.toNat * 256 + b.toNat := by
  have hb := b.isLt
  rw [BitVec.toNat_or, BitVec.toNat_shiftLeft, BitVec.toNat_setWidth, Nat.shiftLeft_eq, Nat.mod_eq_of_lt (by omega), Nat.mod_eq_of_lt (by omega), ← Nat.shiftLeft_eq, ← Nat.shiftLeft_add_eq_or_of_lt hb, Nat.shiftLeft_eq]
theorem bw_nat (g : Nat → BitVec 8) (n : Nat) : (bw g n).toNat = (((g (4 * n)).toNat * 256 + (g (4 * n + 1)).toNat) * 256 + (g (4 * n + 2)).toNat) * 256 + (g (4 * n + 3)).toNat := by
  have h0 := (g (4 * n)).isLt
  have h1 := (g (4 * n + 1)).isLt
  have h2 := (g (4 * n + 2)).isLt
  have h3 := (g (4 * n + 3)).isLt
  have e1 : (bwTo g n 1).toNat = (g (4 * n)).toNat := by
    simp only [bwTo]; rw [push8 _ _ (by decide)]; simp
  have e2 : (bwTo g n 2).toNat = (g (4 * n)).toNat * 256 + (g (4 * n + 1)).toNat := by
    show (bwTo g n 1 <<< 8 ||| _).toNat = _
    rw [push8 _ _ (by omega), e1]
  have e3 : (bwTo g n 3).toNat = ((g (4 * n)).toNat * 256 + (g (4 * n + 1)).toNat) * 256 + (g (4 * n + 2)).toNat := by
    show (bwTo g n 2 <<< 8 ||| _).toNat = _
    rw [push8 _ _ (by omega), e2]
  show (bwTo g n 3 <<< 8 ||| _).toNat = _
  rw [push8 _ _ (by omega), e3]
theorem mul_nat (b : BitVec 8) (c : Nat) (hc : c ≤ 16777216) : (b.setWidth 32 * BitVec.ofNat 32 c).toNat = b.toNat * c := by
  have hb := b.isLt
  have h1 : b.toNat * c ≤ 255 * 16777216 := Nat.mul_le_mul (by omega) hc
  rw [BitVec.toNat_mul, BitVec.toNat_setWidth, BitVec.toNat_ofNat, Nat.mod_eq_of_lt (show b.toNat < 2 ^ 32 by omega), Nat.mod_eq_of_lt (show c < 2 ^ 32 by omega), Nat.mod_eq_of_lt (by omega)]
theorem add_nat (x y : BitVec 32) (m n : Nat) (hx : x.toNat = m) (hy : y.toNat = n) (h : m + n < 4294967296) : (x + y).toNat = m + n := by
  rw [BitVec.toNat_add, hx, hy, Nat.mod_eq_of_lt h]
theorem dw_bw (g : Nat → BitVec 8) (n : Nat) : dw g n = bw g n := by
  apply BitVec.eq_of_toNat_eq
  rw [bw_nat]
  have h0 := (g (4 * n)).isLt
  have h1 := (g (4 * n + 1)).isLt
  have h2 := (g (4 * n + 2)).isLt
  have h3 := (g (4 * n + 3)).isLt
  have p0 := mul_nat (g (4 * n)) 16777216 (by omega)
  have p1 := mul_nat (g (4 * n + 1)) 65536 (by omega)
  have p2 := mul_nat (g (4 * n + 2)) 256 (by omega)
  have p3 : ((g (4 * n + 3)).setWidth 32).toNat = (g (4 * n + 3)).toNat := by rw [BitVec.toNat_setWidth, Nat.mod_eq_of_lt (by omega)]
  have q1 := add_nat _ _ _ _ p0 p1 (by omega)
  have q2 := add_nat _ _ _ _ q1 p2 (by omega)
  have q3 := add_nat _ _ _ _ q2 p3 (by omega)
  unfold dw
  rw [q3]
  omega
theorem wb_nat (f : Nat → BitVec 32) (k m : Nat) (hm : m < 4) : (wb f (4 * k + m)).toNat = (f k).toNat / 2 ^ (24 - 8 * m) % 256 := by
  rw [wb_at f k m hm, BitVec.toNat_setWidth, BitVec.toNat_ushiftRight, Nat.shiftRight_eq_div_pow]
theorem bw_wb (f : Nat → BitVec 32) (k : Nat) : bw (wb f) k = f k := by
  apply BitVec.eq_of_toNat_eq
  have h := (f k).isLt
  have e0 := wb_nat f k 0 (by omega)
  have e1 := wb_nat f k 1 (by omega)
  have e2 := wb_nat f k 2 (by omega)
  have e3 := wb_nat f k 3 (by omega)
  rw [bw_nat, e1, e2, e3, show 4 * k = 4 * k + 0 from rfl, e0]
  omega
theorem wb_bw (g : Nat → BitVec 8) (j : Nat) : wb (bw g) j = g j := by
  apply BitVec.eq_of_toNat_eq
  obtain ⟨k, m, hm, rfl⟩ : ∃ k m, m < 4 ∧ j = 4 * k + m := ⟨j / 4, j % 4, by omega, by omega⟩
  rw [wb_nat _ _ _ hm, bw_nat]
  have h0 := (g (4 * k)).isLt
  have h1 := (g (4 * k + 1)).isLt
  have h2 := (g (4 * k + 2)).isLt
  have h3 := (g (4 * k + 3)).isLt
  match m, hm with
  | 0, _ => show _ / 16777216 % 256 = (g (4 * k)).toNat; omega
  | 1, _ => show _ / 65536 % 256 = _; omega
  | 2, _ => show _ / 256 % 256 = _; omega
  | 3, _ => show _ / 1 % 256 = _; omega

theorem own_below {w w' : World} {base : Nat} {e : TypeId} {size : Nat} {v : Value} {n : Nat} {xs : List Value} (h : w.ownsRow base e size v n xs) (hb : Below w.heap.size w w') : w'.ownsRow base e size v n xs :=
  h.kept (row := none) ⟨hb.os, hb.tape, hb.output, hb.size, fun k hk _ => hb.block k hk⟩ (by cases e : v.ownBlock <;> simp)
/-- bytes that came in -/
theorem row_bytes {w : World} {a : Option Addr} {len : Nat} {h : Nat → Int} (hr : Reads w.heap.size w a len (fun i => .int .u8 (h i))) (hw : ∀ i, i < len → (Lit.int .u8 (h i)).wf = true) :
    ∃ f : Nat → BitVec 8, (∀ i, i < len → h i = ub (f i)) ∧ Reads w.heap.size w a len (fun i => .int .u8 (ub (f i))) := by
  have hf : ∀ i, i < len → h i = ub (BitVec.ofNat 8 (h i).toNat) := fun i hi => by
    have := hw i hi
    simp [Lit.wf, IntKind.min, IntKind.max, IntKind.signed, IntKind.bits] at this
    unfold ub; rw [BitVec.toNat_ofNat]; omega
  exact ⟨fun i => BitVec.ofNat 8 (h i).toNat, hf, hr.mono' (Nat.le_refl _) fun i hi => by rw [← hf i hi]⟩
/-- the words of bytes, or none where there is no whole number of them: what both Words answer -/
def WordsAre (w w' : World) (n : Nat) (g : Nat → BitVec 8) (e : Ending) : Prop :=
  ∃ v q x, e = .returned (.tuple #[v, .int .i64 x]) ∧ Below w.heap.size w w' ∧ w'.ownsRow w.heap.size 84 1 v q ((List.range q).map (fun i => .int .u32 (u (bw g i)))) ∧ ((n % 4 ≠ 0 ∧ q = 0 ∧ x = 4) ∨ (n = 4 * q ∧ x = 0))
theorem words_any (B n c : Nat) (p : Option Addr) (g : Nat → BitVec 8) (w : World) (hn : n ≤ 4294967292) (hB : B ≤ w.heap.size) (hr : Reads B w p n (fun i => .int .u8 (ub (g i)))) :
    Calls Tryd.prog 73 #[.slice p n c] w (fun e w' => WordsAre w w' n g e) := by
  by_cases h4 : n % 4 = 0
  · obtain ⟨q, rfl⟩ : ∃ q, n = 4 * q := ⟨n / 4, by omega⟩
    refine (words_yes B q c p g w (by omega) hB hr).mono ?_
    rintro e w' ⟨v, rfl, hb, hown⟩
    exact ⟨v, q, 0, rfl, hb, hown, .inr ⟨rfl, rfl⟩⟩
  · refine (words_no n c p w (by omega) h4).mono ?_
    rintro e w' ⟨rfl, hb⟩
    exact ⟨_, 0, 4, rfl, hb, World.ownsRow_nil _ _ _ _, .inl ⟨h4, rfl, rfl⟩⟩
/-- what is made later lies in another block -/
theorem own_apart {w w' : World} {base e1 e2 s1 s2 : Nat} {v v' : Value} {n n' : Nat} {xs xs' : List Value} (h : w.ownsRow base e1 s1 v n xs) (h' : w'.ownsRow w.heap.size e2 s2 v' n' xs') : v'.ownBlock = none ∨ v'.ownBlock ≠ v.ownBlock := by
  cases e : v'.ownBlock with
  | none => exact .inl rfl
  | some b =>
    right
    intro e'
    have h1 := (h'.lt b e).1
    have h2 := (h.lt b e'.symm).2
    omega

end Go.Proofs.YtoocfkaclhgjeaaDoor
