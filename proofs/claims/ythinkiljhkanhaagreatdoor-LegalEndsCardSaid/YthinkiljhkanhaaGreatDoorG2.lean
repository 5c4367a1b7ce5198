/-
  Merged: SqC, Words, Loops, Put, Bytes, Awake, Math, Marks, LentInts, Bd, Be.
-/
import Derived.Test.YthinkiljhkanhaaGreatDoorG1
import Derived.Deep.RegionLaw
import Derived.Deep.AppendLies
import Derived.OwnWalk
import Derived.Deep.QuietTactic
import Derived.BigQuiet
import Derived.Deep.MidRow
import Derived.Lib.QuietBelow

namespace Go.Proofs.YthinkiljhkanhaaGreatDoor
open Go.RowKit
set_option linter.unusedSimpArgs false
set_option linter.unusedVariables false

theorem tm8 {s : Int} (h : 0 ≤ s) : s.tmod 8 = s % 8 := Int.tmod_eq_emod_of_nonneg h
theorem td8 {s : Int} (h : 0 ≤ s) : s.tdiv 8 = s / 8 := Int.tdiv_eq_ediv_of_nonneg h
theorem tmod_64 (a : Int) : a % 64 = if a.tmod 64 < 0 then a.tmod 64 + 64 else a.tmod 64 := by
  rcases Int.lt_or_le a 0 with h | h
  · have e : a.tmod 64 = -((-a) % 64) := by
      rw [← Int.tmod_eq_emod_of_nonneg (show 0 ≤ -a by omega), Int.neg_tmod, Int.neg_neg]
    rw [e]
    split <;> omega
  · rw [Int.tmod_eq_emod_of_nonneg h]
    split <;> omega
theorem pick64_any (a : Int) (w : World) :
    Calls Tryz.prog 29 #[.int .i64 a, .int .i64 64] w fun e w' => e = .returned (.int .i64 (a % 64)) ∧ w = w' := by
  have h1 := Int.tmod_lt_of_pos a (b := 64) (by omega)
  have h2 := Int.lt_tmod_of_pos a (b := 64) (by omega)
  have hm := tmod_64 a
  by_cases h0 : a.tmod 64 < 0
  · rw [if_pos h0] at hm
    rw [hm]
    clear hm
    have s1 : IntKind.i64.wrap (a.tmod 64 + 64) = a.tmod 64 + 64 := IntWalk.i64_in _ (by omega)
    go_enter Tryz.func29, Tryz.ntmps29
    go_wp2
    go_ret
    exact ⟨rfl, rfl⟩
  · rw [if_neg h0] at hm
    rw [hm]
    clear hm
    go_enter Tryz.func29, Tryz.ntmps29
    go_wp2
    go_ret
    exact ⟨rfl, rfl⟩
theorem tmod_15 (a : Int) : a % 15 = if a.tmod 15 < 0 then a.tmod 15 + 15 else a.tmod 15 := by
  rcases Int.lt_or_le a 0 with h | h
  · have e : a.tmod 15 = -((-a) % 15) := by
      rw [← Int.tmod_eq_emod_of_nonneg (show 0 ≤ -a by omega), Int.neg_tmod, Int.neg_neg]
    rw [e]
    split <;> omega
  · rw [Int.tmod_eq_emod_of_nonneg h]
    split <;> omega
theorem pick15_any (a : Int) (w : World) :
    Calls Tryz.prog 29 #[.int .i64 a, .int .i64 15] w fun e w' => e = .returned (.int .i64 (a % 15)) ∧ w = w' := by
  have h1 := Int.tmod_lt_of_pos a (b := 15) (by omega)
  have h2 := Int.lt_tmod_of_pos a (b := 15) (by omega)
  have hm := tmod_15 a
  by_cases h0 : a.tmod 15 < 0
  · rw [if_pos h0] at hm
    rw [hm]
    clear hm
    have s1 : IntKind.i64.wrap (a.tmod 15 + 15) = a.tmod 15 + 15 := IntWalk.i64_in _ (by omega)
    go_enter Tryz.func29, Tryz.ntmps29
    go_wp2
    go_ret
    exact ⟨rfl, rfl⟩
  · rw [if_neg h0] at hm
    rw [hm]
    clear hm
    go_enter Tryz.func29, Tryz.ntmps29
    go_wp2
    go_ret
    exact ⟨rfl, rfl⟩

/-- what a value that owns a row reads as -/
theorem sq_reads {w : World} {base : Nat} {e : TypeId} {v : Value} {n : Nat} {f : Nat → Value} (h : w.ownsRow base e 1 v n ((List.range n).map f)) :
    ∃ p c, v = .slice p n c ∧ Reads w.heap.size w p n f ∧ n ≤ c ∧ c ≤ maxLen := by
  rcases h.2 with ⟨rfl, rfl⟩ | ⟨g, cap, cur, rfl, h1, h2, h3, h4, h5, h6⟩
  · exact ⟨none, 0, rfl, .inl rfl, Nat.le_refl _, by unfold maxLen; omega⟩
  · refine ⟨_, cap, rfl, .inr ⟨g, 0, rfl, ?_, fun i hi => ?_⟩, h3, h4⟩
    · rcases Nat.lt_or_ge g w.heap.size with h | h
      · exact h
      · rw [Array.getElem?_eq_none h] at h2; cases h2
    · rw [Nat.zero_add, h.cellAt i (by omega)]
      simp [hi]
theorem stp_hit {s a b t : Int} (hs : sq s = true) (h0 : 0 ≤ t) (h1 : t < 64) (ha : t % 8 - s % 8 = a) (hb : t / 8 - s / 8 = b) : stp s a b = t := by
  obtain ⟨s0, s1⟩ := (sq_iff s).1 hs
  unfold stp
  rw [if_pos (by rw [hs, Bool.true_and]; exact (onB_iff _ _).2 (by omega))]
  omega
theorem stp_miss {s a b : Int} (h : ∀ t : Nat, t < 64 → ¬ ((t : Int) % 8 - s % 8 = a ∧ (t : Int) / 8 - s / 8 = b)) : stp s a b = -1 := by
  unfold stp
  split
  · rename_i hc
    rw [Bool.and_eq_true] at hc
    obtain ⟨s0, s1⟩ := (sq_iff s).1 hc.1
    obtain ⟨u0, u1, u2, u3⟩ := (onB_iff _ _).1 hc.2
    exact absurd ⟨by omega, by omega⟩ (h (s + a + 8 * b).toNat (by omega))
  · rfl
end Go.Proofs.YthinkiljhkanhaaGreatDoor

namespace Go.Proofs.YthinkiljhkanhaaGreatDoor
open Go.RowKit
set_option linter.unusedVariables false
set_option linter.unusedSimpArgs false

end Go.Proofs.YthinkiljhkanhaaGreatDoor

namespace Go.Proofs.YthinkiljhkanhaaGreatDoor
open Go.RowKit
set_option linter.unusedSimpArgs false
set_option linter.unusedVariables false

def sumTo (f : Nat → BitVec 32) : Nat → BitVec 32
  | 0 => 0
  | k + 1 => sumTo f k + f k
/-- how many of the first have a 1 at a place -/
def onesTo (c : Nat) (f : Nat → BitVec 32) : Nat → Nat
  | 0 => 0
  | k + 1 => onesTo c f k + (f k >>> c &&& 1#32).toNat
theorem one_le (x : BitVec 32) : (x &&& 1#32).toNat ≤ 1 := by
  rw [BitVec.toNat_and]; exact Nat.and_le_right
theorem onesTo_le (c : Nat) (f : Nat → BitVec 32) (k : Nat) : onesTo c f k ≤ k := by
  induction k with
  | zero => exact Nat.le_refl _
  | succ k ih => have := one_le (f k >>> c); simp only [onesTo]; omega
def mixTo (x : BitVec 32) (g : Nat → Int) : Nat → BitVec 32
  | 0 => 0
  | k + 1 => mixTo x g k ^^^ turn x (g k % 32).toNat
def mostTo (n : Nat) (f : Nat → BitVec 32) : Nat → BitVec 32
  | 0 => 0
  | k + 1 => if n < 2 * onesTo k f n then mostTo n f k ||| 1#32 <<< k else mostTo n f k

end Go.Proofs.YthinkiljhkanhaaGreatDoor

namespace Go.Proofs.YthinkiljhkanhaaGreatDoor
open Go.RowKit
set_option linter.unusedVariables false
set_option maxRecDepth 20000
set_option linter.unusedSimpArgs false

/-- the number of a byte -/
def ub (x : BitVec 8) : Int := (x.toNat : Int)
theorem ub_lo (x : BitVec 8) : 0 ≤ ub x := by unfold ub; omega
theorem ub_hi (x : BitVec 8) : ub x ≤ 255 := by unfold ub; have := x.isLt; omega
theorem u8_of_u (x : BitVec 32) : IntKind.u8.wrap (u x) = ub (x.setWidth 8) := by
  unfold u ub; rw [IntKind.wrap_u8, BitVec.toNat_setWidth]; omega
attribute [go_sem] u8_of_u
def cellsOf (g : Nat → BitVec 8) (n : Nat) : List Value := (List.range n).map fun i => .int .u8 (ub (g i))
theorem cellsOf_succ (g : Nat → BitVec 8) (n : Nat) : cellsOf g n ++ [.int .u8 (ub (g n))] = cellsOf g (n + 1) := by
  unfold cellsOf; rw [List.range_succ, List.map_append]; rfl
theorem cellsOf_at (g : Nat → BitVec 8) (n i : Nat) (h : i < n) : (cellsOf g n)[i]? = some (.int .u8 (ub (g i))) := by
  unfold cellsOf; simp [h]
theorem Tryz.infoB : (Tryz.prog.info? 5).map (fun i => (i.zero, i.size, i.bytes)) = some (some (.int .u8 0), 1, 1) := by kernel_rfl

/-- an octets value at cell ⟨ob, oo⟩ whose bytes are the call's own row g of n -/
def Oct (w : World) (base ob oo : Nat) (g : Nat → BitVec 8) (n : Nat) : Prop :=
  ∃ v, w.cell? ⟨ob, oo, none⟩ = some v ∧ w.frozen? ⟨ob, oo, none⟩ = false ∧ v.ownBlock ≠ some ob ∧ w.ownsRow base 5 1 v n (cellsOf g n)

theorem own_setCell {w : World} {base : Nat} {e : TypeId} {size : Nat} {v : Value} {n : Nat} {xs : List Value} (h : w.ownsRow base e size v n xs) (p : Addr) (x : Value) (hne : v.ownBlock ≠ some p.block) : (w.setCell p x).ownsRow base e size v n xs :=
  h.kept (row := some p.block) ⟨rfl, rfl, rfl, by simp, fun k _ hk => Below.heap_setCell w p x k (fun e => hk (by rw [e]))⟩ (.inr hne)

theorem oct_of {w : World} {base ob oo g1 n cap : Nat} {v : Value} {g : Nat → BitVec 8} (hc : w.cell? ⟨ob, oo, none⟩ = some v) (hf : w.frozen? ⟨ob, oo, none⟩ = false) (hne : g1 ≠ ob)
    (hown : w.ownsRow base 5 1 (.slice (some ⟨g1, 0, none⟩) n cap) n (cellsOf g n)) : Oct (w.setCell ⟨ob, oo, none⟩ (.slice (some ⟨g1, 0, none⟩) n cap)) base ob oo g n :=
  ⟨_, World.cell?_setCell_same' _ _ _ (by rw [hc]; rfl), by rw [World.frozen?_setCell]; exact hf, by simpa [Value.ownBlock] using hne, own_setCell hown _ _ (by simpa [Value.ownBlock] using hne)⟩

end Go.Proofs.YthinkiljhkanhaaGreatDoor

namespace Go.Proofs.YthinkiljhkanhaaGreatDoor
open Go.RowKit
set_option linter.unusedSimpArgs false
set_option linter.unusedVariables false

/-- byte i of the bytes of words -/
def wb (f : Nat → BitVec 32) (i : Nat) : BitVec 8 := (f (i / 4) >>> (24 - 8 * (i % 4))).setWidth 8

end Go.Proofs.YthinkiljhkanhaaGreatDoor

namespace Go.Proofs.YthinkiljhkanhaaGreatDoor
open Go.RowKit
set_option linter.unusedSimpArgs false
set_option linter.unusedVariables false

theorem reads_lit (w : World) (cs : Array Value) (t : TypeId) (n : Nat) (f : Nat → Value) (h : ∀ i, i < n → cs[i]? = some (f i)) :
    Reads (w.heap.size + 1) (w.alloc (.cells cs t)) (some ⟨w.heap.size, 0, none⟩) n f :=
  .inr ⟨w.heap.size, 0, rfl, by omega, fun i hi => by rw [Nat.zero_add, World.cell?_alloc_at _ _ _ _ rfl]; exact h i hi⟩
/-- the first three of a row -/
def fst3 {α : Type} (x y z : α) : Nat → α
  | 0 => x
  | 1 => y
  | _ => z
theorem fst3_at {α β : Type} (x y z : α) (v : α → β) (n : Nat) (hn : n ≤ 3) (i : Nat) (hi : i < n) : (#[v x, v y, v z] : Array β)[i]? = some (v (fst3 x y z i)) := by
  match i, (show i < 3 by omega) with
  | 0, _ => rfl
  | 1, _ => rfl
  | 2, _ => rfl
theorem fst2_at {α β : Type} (x y z : α) (v : α → β) (n : Nat) (hn : n ≤ 2) (i : Nat) (hi : i < n) : (#[v x, v y] : Array β)[i]? = some (v (fst3 x y z i)) := by
  match i, (show i < 2 by omega) with
  | 0, _ => rfl
  | 1, _ => rfl
theorem fst1_at {α β : Type} (x y z : α) (v : α → β) (n : Nat) (hn : n ≤ 1) (i : Nat) (hi : i < n) : (#[v x] : Array β)[i]? = some (v (fst3 x y z i)) := by
  match i, (show i < 1 by omega) with
  | 0, _ => rfl

/-- what a value that owns a row reads as -/
theorem owns_reads {w : World} {base : Nat} {e : TypeId} {v : Value} {n : Nat} {f : Nat → Value} (h : w.ownsRow base e 1 v n ((List.range n).map f)) :
    ∃ p c, v = .slice p n c ∧ Reads w.heap.size w p n f ∧ n ≤ c ∧ c ≤ maxLen := by
  rcases h.2 with ⟨rfl, rfl⟩ | ⟨g, cap, cur, rfl, h1, h2, h3, h4, h5, h6⟩
  · exact ⟨none, 0, rfl, .inl rfl, Nat.le_refl _, by unfold maxLen; omega⟩
  · refine ⟨_, cap, rfl, .inr ⟨g, 0, rfl, ?_, fun i hi => ?_⟩, h3, h4⟩
    · rcases Nat.lt_or_ge g w.heap.size with h | h
      · exact h
      · rw [Array.getElem?_eq_none h] at h2; cases h2
    · rw [Nat.zero_add, h.cellAt i (by omega)]
      simp [hi]

def fst4 {α : Type} (x y z t : α) : Nat → α
  | 0 => x
  | 1 => y
  | 2 => z
  | _ => t
theorem fst4_at {α β : Type} (x y z t : α) (v : α → β) (i : Nat) (hi : i < 4) : (#[v x, v y, v z, v t] : Array β)[i]? = some (v (fst4 x y z t i)) := by
  match i, hi with
  | 0, _ => rfl
  | 1, _ => rfl
  | 2, _ => rfl
  | 3, _ => rfl
theorem owns_reads' {w : World} {base : Nat} {e : TypeId} {p : Option Addr} {n c : Nat} {f : Nat → Value} (h : w.ownsRow base e 1 (.slice p n c) n ((List.range n).map f)) : Reads w.heap.size w p n f := by
  obtain ⟨p', c', he, hr, _⟩ := owns_reads h
  cases he
  exact hr
end Go.Proofs.YthinkiljhkanhaaGreatDoor

namespace Go.Proofs.YthinkiljhkanhaaGreatDoor
set_option linter.unusedSimpArgs false
set_option linter.unusedVariables false

theorem bit_nat (x : BitVec 32) (c : Nat) : (x >>> c &&& 1#32).toNat = (x.getLsbD c).toNat := by
  have h : x >>> c &&& 1#32 = BitVec.setWidth 32 (BitVec.ofBool (x.getLsbD c)) := by
    apply BitVec.eq_of_getLsbD_eq
    intro i hi
    by_cases h0 : i = 0
    · subst h0; simp
    · simp [h0, BitVec.getLsbD_one]
  rw [h]
  cases x.getLsbD c <;> rfl
theorem most_bit (n : Nat) (f : Nat → BitVec 32) (k j : Nat) (hk : k ≤ 32) (hj : j < 32) :
    (mostTo n f k).getLsbD j = (decide (j < k) && decide (n < 2 * onesTo j f n)) := by
  induction k with
  | zero => simp [mostTo]
  | succ k ih =>
    have ih := ih (by omega)
    have h1 : (1#32 <<< k).getLsbD j = decide (j = k) := by
      rw [BitVec.getLsbD_shiftLeft, BitVec.getLsbD_one]
      by_cases e : j = k
      · subst e; simp [hj]
      · by_cases e2 : j < k
        · simp [e, e2]
        · simp [e, e2]; omega
    simp only [mostTo]
    by_cases e : j = k
    · subst e
      by_cases h : n < 2 * onesTo j f n
      · rw [if_pos h, BitVec.getLsbD_or, h1]; simp [h]
      · rw [if_neg h, ih]; simp [h]
    · have e3 : decide (j < k + 1) = decide (j < k) := by simp; omega
      by_cases h : n < 2 * onesTo k f n
      · rw [if_pos h, BitVec.getLsbD_or, h1, ih, e3]; simp [e]
      · rw [if_neg h, ih, e3]
theorem most_eq (n : Nat) (f : Nat → BitVec 32) (r : BitVec 32) (h : ∀ j, j < 32 → decide (n < 2 * onesTo j f n) = r.getLsbD j) : mostTo n f 32 = r := by
  apply BitVec.eq_of_getLsbD_eq
  intro j hj
  rw [most_bit n f 32 j (by omega) hj, h j hj]
  simp [hj]
theorem ones3 (j : Nat) (x y z : BitVec 32) : onesTo j (fst3 x y z) 3 = (x.getLsbD j).toNat + (y.getLsbD j).toNat + (z.getLsbD j).toNat := by
  simp only [onesTo, bit_nat, fst3]; omega
theorem ones2 (j : Nat) (x y z : BitVec 32) : onesTo j (fst3 x y z) 2 = (x.getLsbD j).toNat + (y.getLsbD j).toNat := by
  simp only [onesTo, bit_nat, fst3]; omega
theorem ones1 (j : Nat) (x y z : BitVec 32) : onesTo j (fst3 x y z) 1 = (x.getLsbD j).toNat := by
  simp only [onesTo, bit_nat, fst3]; omega
/-- most of three, by its places -/
def most3 (x y z : BitVec 32) : BitVec 32 := mostTo 3 (fst3 x y z) 32
theorem most3_bit (x y z : BitVec 32) (j : Nat) (hj : j < 32) : (most3 x y z).getLsbD j = decide (3 < 2 * ((x.getLsbD j).toNat + (y.getLsbD j).toNat + (z.getLsbD j).toNat)) := by
  unfold most3; rw [most_bit _ _ _ _ (by omega) hj, ones3]; simp [hj]
theorem most3_bxa (x a b : BitVec 32) : mostTo 3 (fst3 b x a) 32 = most3 x a b :=
  most_eq _ _ _ fun j hj => by rw [ones3, most3_bit _ _ _ _ hj]; congr 1; rw [Nat.add_comm (b.getLsbD j).toNat, Nat.add_right_comm]
theorem most3_axb (x a b : BitVec 32) : mostTo 3 (fst3 a x b) 32 = most3 x a b :=
  most_eq _ _ _ fun j hj => by rw [ones3, most3_bit _ _ _ _ hj]; congr 1; rw [Nat.add_comm (a.getLsbD j).toNat]
theorem most3_xxa (x a : BitVec 32) : mostTo 3 (fst3 x x a) 32 = x :=
  most_eq _ _ _ fun j hj => by rw [ones3]; cases x.getLsbD j <;> cases a.getLsbD j <;> rfl
theorem most2 (x a z : BitVec 32) : mostTo 2 (fst3 x a z) 32 = x &&& a :=
  most_eq _ _ _ fun j hj => by rw [ones2, BitVec.getLsbD_and]; cases x.getLsbD j <;> cases a.getLsbD j <;> rfl
theorem most1 (x y z : BitVec 32) : mostTo 1 (fst3 x y z) 32 = x :=
  most_eq _ _ _ fun j hj => by rw [ones1]; cases x.getLsbD j <;> rfl
theorem most0 (f : Nat → BitVec 32) : mostTo 0 f 32 = 0#32 :=
  most_eq _ _ _ fun j hj => by simp [onesTo]
theorem choose_same (x a : BitVec 32) : x &&& a ||| ~~~x &&& a = a := by
  apply BitVec.eq_of_getLsbD_eq; intro j hj; simp only [BitVec.getLsbD_or, BitVec.getLsbD_and, BitVec.getLsbD_not]; cases x.getLsbD j <;> cases a.getLsbD j <;> simp [hj]
theorem choose_ones (a b : BitVec 32) : BitVec.allOnes 32 &&& a ||| ~~~(BitVec.allOnes 32) &&& b = a := by
  apply BitVec.eq_of_getLsbD_eq; intro j hj; simp only [BitVec.getLsbD_or, BitVec.getLsbD_and, BitVec.getLsbD_not, BitVec.getLsbD_allOnes]; simp [hj]
theorem choose_none (a b : BitVec 32) : 0#32 &&& a ||| ~~~0#32 &&& b = b := by
  apply BitVec.eq_of_getLsbD_eq; intro j hj; simp only [BitVec.getLsbD_or, BitVec.getLsbD_and, BitVec.getLsbD_not, BitVec.getLsbD_zero]; simp [hj]
theorem choose_turned (x a b : BitVec 32) : (x &&& a ||| ~~~x &&& b) ^^^ (~~~x &&& a ||| ~~~(~~~x) &&& b) = a ^^^ b := by
  apply BitVec.eq_of_getLsbD_eq; intro j hj; simp only [BitVec.getLsbD_or, BitVec.getLsbD_and, BitVec.getLsbD_not, BitVec.getLsbD_xor]; simp only [hj, decide_true, Bool.true_and]; cases x.getLsbD j <;> cases a.getLsbD j <;> cases b.getLsbD j <;> rfl
theorem sum3 (x y z : BitVec 32) : sumTo (fst3 x y z) 3 = x + y + z := by
  simp [sumTo, fst3]
theorem sum2 (x y z : BitVec 32) : sumTo (fst3 x y z) 2 = x + y := by
  simp [sumTo, fst3]
theorem sum_rev (x y z : BitVec 32) : z + y + x = x + y + z := by
  rw [BitVec.add_comm z y, BitVec.add_comm (y + z) x, BitVec.add_assoc]
theorem sum_not (x : BitVec 32) : x + ~~~x + 1#32 = 0#32 := by
  have h : x + ~~~x = BitVec.allOnes 32 := BitVec.add_not_self x
  rw [h]; decide
theorem mix2 (x : BitVec 32) (g : Nat → Int) (h : g 0 = g 1) : mixTo x g 2 = 0#32 := by
  simp [mixTo, h]
theorem mix1 (x : BitVec 32) (g : Nat → Int) : mixTo x g 1 = turn x (g 0 % 32).toNat := by
  simp [mixTo]
end Go.Proofs.YthinkiljhkanhaaGreatDoor

namespace Go.Proofs.YthinkiljhkanhaaGreatDoor
open Go.RowKit
set_option linter.unusedSimpArgs false
set_option linter.unusedVariables false

/-- the mark of a place in a list of bytes -/
def markB (k i : Int) : Int := IntKind.u64.wrap ((1000003 * (k + 7) + i) * 11400714819323198485) / 72057594037927936 % 256
end Go.Proofs.YthinkiljhkanhaaGreatDoor

namespace Go.Proofs.YthinkiljhkanhaaGreatDoor.LentInts
open Go.RowKit
set_option linter.unusedSimpArgs false
set_option linter.unusedVariables false

theorem info : (Tryz.prog.info? 3).map (fun i => (i.zero, i.size, i.bytes)) = some (some (.int .i64 0), 1, 8) := by kernel_rfl
/-- what stands behind the list's own elements -/
def mk (i : Nat) : Int := 8000024 + (i : Int)
/-- what the mark's own call answers -/
def mk' (i : Nat) : Int := 8000024 + (i : Int)
/-- the list, and the marks behind it -/
def ext (n : Nat) (h : Nat → Int) (i : Nat) : Value := .int .i64 (if i < n then h i else mk (i - n))
theorem ext_lt {n : Nat} {h : Nat → Int} {i : Nat} (hi : i < n) : ext n h i = .int .i64 (h i) := by unfold ext; rw [if_pos hi]
theorem ext_ge {n : Nat} {h : Nat → Int} {i : Nat} (hi : n ≤ i) : ext n h i = .int .i64 (mk (i - n)) := by unfold ext; rw [if_neg (by omega)]
theorem ext_row (n : Nat) (h : Nat → Int) : (List.range n).map (fun i => Value.int .i64 (h i)) = (List.range n).map (ext n h) :=
  List.map_congr_left fun i hi => (ext_lt (List.mem_range.1 hi)).symm
theorem ext_step (n k : Nat) (h : Nat → Int) : (List.range (n + k)).map (ext n h) ++ [.int .i64 (mk k)] = (List.range (n + (k + 1))).map (ext n h) := by
  rw [show n + (k + 1) = n + k + 1 by omega, List.range_succ, List.map_append, List.map_singleton, ext_ge (by omega), show n + k - n = k by omega]
theorem row_at {f : Nat → Value} {n : Nat} {j : Nat} {x : Value} (h : ((List.range n).map f)[j]? = some x) : j < n ∧ x = f j := by
  have hj : j < n := by
    have := (List.getElem?_eq_some_iff.1 h).1; simpa using this
  refine ⟨hj, ?_⟩
  rw [List.getElem?_map, List.getElem?_range hj] at h
  simpa using h.symm

end Go.Proofs.YthinkiljhkanhaaGreatDoor.LentInts

namespace Go.Proofs.YthinkiljhkanhaaGreatDoor
open Go.RowKit
set_option linter.unusedSimpArgs false
set_option linter.unusedVariables false

theorem gr1_B {hb i : Nat} {w : World} (v : Value) : w.grownBy (w.setCell ⟨hb, i, none⟩ v) (some hb) :=
  ⟨rfl, rfl, rfl, by simp [World.setCell], fun k _ hk => Below.heap_setCell w _ v k (fun e => hk (by rw [e]))⟩
theorem grs_B {hb : Nat} (vs : List Value) : ∀ (o : Nat) (w : World), w.grownBy (w.setCells hb o vs) (some hb) := by
  induction vs with
  | nil => intro o w; exact World.grownBy.refl _ _
  | cons v r ih => intro o w; exact (gr1_B v).trans (ih (o + 1) _)
theorem sizes_B {hb : Nat} (vs : List Value) : ∀ (o : Nat) (w : World), (w.setCells hb o vs).heap.size = w.heap.size := by
  induction vs with
  | nil => intro o w; rfl
  | cons v r ih => intro o w; exact (ih _ _).trans (by simp [World.setCell])
/-- n numbers from a place on -/
def nums (P : Nat → Int) (a n : Nat) : List Value := (List.range n).map fun i => .int .i64 (P (a + i))
theorem nums_len (P : Nat → Int) (a n : Nat) : (nums P a n).length = n := by simp [nums]
theorem nums_size (P : Nat → Int) (a n : Nat) : (nums P a n).toArray.size = n := by simp [nums]
theorem nums_get (P : Nat → Int) (a n i : Nat) (h : i < n) : (nums P a n)[i]? = some (.int .i64 (P (a + i))) := by simp [nums, h]
theorem nums_at (P : Nat → Int) (a n i : Nat) (h : i < n) : (nums P a n).toArray[i]? = some (.int .i64 (P (a + i))) := by simp [nums, h]
theorem nums_one (P : Nat → Int) (a n : Nat) : (nums P a n).toArray.all (·.oneCell') = true :=
  all_oneCell_toArray fun v hv => by
    obtain ⟨i, _, rfl⟩ := List.mem_map.1 hv
    rfl
theorem nums_cut (P : Nat → Int) (a n x y : Nat) (hxy : x ≤ y) (hy : y ≤ n) : (nums P a n).toArray.extract x y = (nums P (a + x) (y - x)).toArray := by
  apply Array.ext_getElem?
  intro i
  rw [Array.getElem?_extract]
  split
  · rename_i h
    rw [nums_size] at h
    rw [nums_at _ _ _ _ (by omega), nums_at _ _ _ _ (by omega), Nat.add_assoc]
  · rename_i h
    rw [nums_size] at h
    rw [Array.getElem?_eq_none (by rw [nums_size]; omega)]
/-- the cells of a position -/
def pc (P : Nat → Int) : List Value := nums P 0 133
/-- a position -/
def posV (P : Nat → Int) : Value := .agg (pc P).toArray
theorem pc_len (P : Nat → Int) : (pc P).length = 133 := nums_len P 0 133
theorem pc_size (P : Nat → Int) : (pc P).toArray.size = 133 := nums_size P 0 133
theorem pc_get (P : Nat → Int) (i : Nat) (h : i < 133) : (pc P)[i]? = some (.int .i64 (P i)) := by
  unfold pc; rw [nums_get _ _ _ _ h, Nat.zero_add]
theorem pc_one (P : Nat → Int) : (pc P).toArray.all (·.oneCell') = true := nums_one P 0 133
/-- a piece -/
def pieV (k d : Int) : Value := .agg #[.int .i64 k, .int .i64 d]
theorem nums_two (P : Nat → Int) (a : Nat) : (nums P a 2).toArray = #[.int .i64 (P a), .int .i64 (P (a + 1))] := rfl

theorem infoPos : (Tryz.prog.info? 29).map (·.size) = some 133 := by kernel_rfl
theorem infoSqs : (Tryz.prog.info? 26).map (·.size) = some 128 := by kernel_rfl
theorem infoPie : (Tryz.prog.info? 25).map (·.size) = some 2 := by kernel_rfl
theorem size_of_info {t : TypeId} {n : Nat} (h : (Tryz.prog.info? t).map (·.size) = some n) (w : World) : (sizeOf t).run Tryz.prog w = .ok n w := by
  cases hi : Tryz.prog.info? t with
  | none => rw [hi] at h; cases h
  | some i =>
    rw [hi] at h
    have hz : i.size = n := Option.some.inj h
    simp [sizeOf, typeInfo, hi, hz]

/-- a position in a block of its own -/
structure PB (w : World) (b : Nat) (P : Nat → Int) : Prop where
  lt : b < w.heap.size
  cell : ∀ i, i < 133 → w.cell? ⟨b, i, none⟩ = some (.int .i64 (P i))
  fr : ∀ i, w.frozen? ⟨b, i, none⟩ = false
theorem PB.range {w : World} {b : Nat} {P : Nat → Int} (h : PB w b P) : w.rangeAt b 0 (pc P) := fun j v hv => by
  have hj : j < 133 := by have := (List.getElem?_eq_some_iff.1 hv).1; rwa [pc_len] at this
  rw [pc_get _ _ hj] at hv
  rw [Nat.zero_add, h.cell j hj, hv]
theorem PB.squares {w : World} {b : Nat} {P : Nat → Int} (h : PB w b P) : w.rangeAt b 0 (nums P 0 128) := fun j v hv => by
  have hj : j < 128 := by have := (List.getElem?_eq_some_iff.1 hv).1; rwa [nums_len] at this
  rw [nums_get _ _ _ _ hj, Nat.zero_add] at hv
  rw [Nat.zero_add, h.cell j (by omega), hv]
theorem PB.there {w : World} {b : Nat} {P : Nat → Int} (h : PB w b P) : w.there b 0 133 := fun j hj => by
  rw [Nat.zero_add]; exact ⟨by rw [h.cell j hj]; rfl, h.fr j⟩
theorem PB.below {B : Nat} {w w' : World} {b : Nat} {P : Nat → Int} (h : PB w b P) (g : Below B w w') (hb : b < B) : PB w' b P :=
  ⟨Nat.lt_of_lt_of_le h.lt g.size, fun i hi => by rw [g.cell (p := ⟨b, i, none⟩) hb]; exact h.cell i hi, fun i => by rw [g.frozen (p := ⟨b, i, none⟩) hb]; exact h.fr i⟩
theorem PB.go {w w' : World} {b : Nat} {P : Nat → Int} (h : PB w b P) (g : Below w.heap.size w w') : PB w' b P := h.below g h.lt
theorem PB.drew {w : World} {b : Nat} {P : Nat → Int} (h : PB w b P) : PB w.drew b P := h.go (Below.refl _ _).drew
theorem PB.alloc {w : World} {b : Nat} {P : Nat → Int} (h : PB w b P) (o : Obj) : PB (w.alloc o) b P := h.go ((Below.refl _ _).alloc (Nat.le_refl _) o)
theorem PB.of_block {w : World} {b : Nat} {P : Nat → Int} {t : TypeId} (h : w.heap[b]? = some (.cells (pc P).toArray t (0, 0))) : PB w b P :=
  ⟨(Array.getElem?_eq_some_iff.1 h).1, fun i hi => by rw [cell_of_row w b i _ _ (0, 0) h]; have := pc_get P i hi; rwa [← List.getElem?_toArray] at this, fun i => frozen_of_row w b i _ _ h⟩
theorem PB.new {w : World} {P : Nat → Int} {t : TypeId} {H : Nat} (e : H = w.heap.size) : PB (w.alloc (.cells (pc P).toArray t)) H P := PB.of_block (sl_at e)
theorem PB.store {w : World} {b : Nat} {P Q : Nat → Int} (h : PB w b P) : PB (w.setCells b 0 (pc Q)) b Q :=
  ⟨by rw [sizes_B]; exact h.lt, fun i hi => by
    have := World.rangeAt_setCells_same w b 0 (pc Q) (by rw [pc_len]; exact h.there) i _ (pc_get Q i hi)
    rwa [Nat.zero_add] at this, fun i => (World.frozen?_setCells _ _ _ _ _).trans (h.fr i)⟩
/-- one of the numbers is another -/
def setN (P : Nat → Int) (i : Nat) (x : Int) : Nat → Int := fun j => if j = i then x else P j
/-- another piece on a square -/
def setP (P : Nat → Int) (s : Nat) (k d : Int) : Nat → Int := fun j => if j = 2 * s then k else if j = 2 * s + 1 then d else P j
theorem PB.set {w : World} {b : Nat} {P : Nat → Int} (h : PB w b P) (i : Nat) (x : Int) (hi : i < 133) : PB (w.setCell ⟨b, i, none⟩ (.int .i64 x)) b (setN P i x) :=
  ⟨by rw [World.size_setCell]; exact h.lt, fun j hj => by
    unfold setN
    by_cases e : j = i
    · subst e; rw [if_pos rfl, World.cell?_setCell_same _ _ _ (h.cell j hj)]
    · rw [if_neg e, World.cell?_setCell_other _ _ _ _ (by intro hh; injection hh with _ h2; omega)]; exact h.cell j hj, fun j => by rw [World.frozen?_setCell]; exact h.fr j⟩
theorem PB.congr {w : World} {b : Nat} {P Q : Nat → Int} (h : PB w b P) (e : ∀ i, i < 133 → P i = Q i) : PB w b Q :=
  ⟨h.lt, fun i hi => by rw [← e i hi]; exact h.cell i hi, h.fr⟩
theorem pc_congr {P Q : Nat → Int} (e : ∀ i, i < 133 → P i = Q i) : pc P = pc Q := by
  apply List.ext_getElem?
  intro i
  by_cases h : i < 133
  · rw [pc_get _ _ h, pc_get _ _ h, e i h]
  · rw [List.getElem?_eq_none (by rw [pc_len]; omega), List.getElem?_eq_none (by rw [pc_len]; omega)]
theorem posV_congr {P Q : Nat → Int} (e : ∀ i, i < 133 → P i = Q i) : posV P = posV Q := by unfold posV; rw [pc_congr e]

/-! == on pieces and on positions -/
def pe (k d k' d' : Int) : Bool := k == k' && d == d'
theorem pe_iff (k d k' d' : Int) : pe k d k' d' = true ↔ k = k' ∧ d = d' := by unfold pe; simp
theorem equal_pie (k d k' d' : Int) (n : Nat) (w : World) : (Op.equalIn (n + 2) 25 (pieV k d) (pieV k' d')).run Tryz.prog w = .ok (pe k d k' d') w := by
  unfold pieV pe
  rw [run_equalIn_agg w (n + 1) 25 _ _ (by kernel_rfl) (by kernel_rfl)]
  have hf : (Tryz.prog.fieldsOf 25).toList.map (fun f => (f.name, f.type, f.offset)) = [("Kind", 22, 0), ("Side", 23, 1)] := by kernel_rfl
  generalize (Tryz.prog.fieldsOf 25).toList = fs at hf ⊢
  · obtain ⟨f, fs, rfl, hf1, hf⟩ := List.map_eq_cons_iff.1 hf
    obtain ⟨g, fs, rfl, hf2, hf⟩ := List.map_eq_cons_iff.1 hf
    obtain rfl := List.map_eq_nil_iff.1 hf
    simp only [Prod.mk.injEq] at hf1 hf2
    obtain ⟨n1, t1, o1⟩ := hf1
    obtain ⟨n2, t2, o2⟩ := hf2
    have p1 : ∀ a b : Int, (part 22 #[.int .i64 a, .int .i64 b] 0).run Tryz.prog w = .ok (.int .i64 a) w := fun a b => by
      simp [part, isAgg, run_underlying Tryz.underlying22]
    have p2 : ∀ a b : Int, (part 23 #[.int .i64 a, .int .i64 b] 1).run Tryz.prog w = .ok (.int .i64 b) w := fun a b => by
      simp [part, isAgg, run_underlying Tryz.underlying23]
    have e1 : ∀ a b : Int, (Op.equalIn (n + 1) 22 (.int .i64 a) (.int .i64 b)).run Tryz.prog w = .ok (a == b) w := fun a b => run_equalIn_int w n 22 .i64 .i64 a b Tryz.underlying22
    have e2 : ∀ a b : Int, (Op.equalIn (n + 1) 23 (.int .i64 a) (.int .i64 b)).run Tryz.prog w = .ok (a == b) w := fun a b => run_equalIn_int w n 23 .i64 .i64 a b Tryz.underlying23
    have n1' : f.name ≠ "_" := by rw [n1]; decide
    have n2' : g.name ≠ "_" := by rw [n2]; decide
    simp only [Op.eqFields, Sem.run_bind, Sem.run_ite, n1', n2', ne_eq, not_false_eq_true, if_true, t1, t2, o1, o2, p1, p2, e1, e2, Result.andThen_ok]
    cases k == k' <;> cases d == d' <;> simp
@[go_sem high] theorem eql_pie (k d k' d' : Int) (w : World) : (binOp .eql 25 (.agg #[.int .i64 k, .int .i64 d]) (.agg #[.int .i64 k', .int .i64 d'])).run Tryz.prog w = .ok (.bool (pe k d k' d')) w := by
  have e := equal_pie k d k' d' 9998 w
  unfold pieV at e
  rw [run_eql_struct, e]; rfl
@[go_sem high] theorem neq_pie (k d k' d' : Int) (w : World) : (binOp .neq 25 (.agg #[.int .i64 k, .int .i64 d]) (.agg #[.int .i64 k', .int .i64 d'])).run Tryz.prog w = .ok (.bool (!pe k d k' d')) w := by
  have e := equal_pie k d k' d' 9998 w
  unfold pieV at e
  rw [run_neq_struct, e]; rfl
/-- are two positions the same -/
def sqEq (P Q : Nat → Int) : Bool := (List.range 64).all fun i => pe (P (2 * i)) (P (2 * i + 1)) (Q (2 * i)) (Q (2 * i + 1))
def posEq (P Q : Nat → Int) : Bool := sqEq P Q && (P 128 == Q 128) && (P 129 == Q 129) && (P 130 == Q 130) && (P 131 == Q 131) && (P 132 == Q 132)
theorem posEq_iff (P Q : Nat → Int) : posEq P Q = true ↔ ∀ i, i < 133 → P i = Q i := by
  unfold posEq sqEq
  simp only [Bool.and_eq_true, List.all_eq_true, List.mem_range, pe_iff, beq_iff_eq]
  constructor
  · rintro ⟨⟨⟨⟨⟨h, h1⟩, h2⟩, h3⟩, h4⟩, h5⟩ i hi
    rcases (show i < 128 ∨ i = 128 ∨ i = 129 ∨ i = 130 ∨ i = 131 ∨ i = 132 by omega) with hh | rfl | rfl | rfl | rfl | rfl
    · have := h (i / 2) (by omega)
      rcases (show i = 2 * (i / 2) ∨ i = 2 * (i / 2) + 1 by omega) with e | e
      · rw [e]; exact this.1
      · rw [e]; exact this.2
    · exact h1
    · exact h2
    · exact h3
    · exact h4
    · exact h5
  · intro h
    exact ⟨⟨⟨⟨⟨fun i hi => ⟨h _ (by omega), h _ (by omega)⟩, h _ (by omega)⟩, h _ (by omega)⟩, h _ (by omega)⟩, h _ (by omega)⟩, h _ (by omega)⟩
theorem posEq_self (P : Nat → Int) : posEq P P = true := (posEq_iff P P).2 fun _ _ => rfl
theorem equal_sqs (P Q : Nat → Int) (n : Nat) (w : World) : (Op.equalIn (n + 3) 26 (.agg (nums P 0 128).toArray) (.agg (nums Q 0 128).toArray)).run Tryz.prog w = .ok (sqEq P Q) w := by
  rw [Op.equalIn]
  simp only [Sem.run_bind, run_underlying Tryz.underlying26, Result.andThen_ok, size_of_info infoPie, Std.Legacy.Range.forIn_eq_forIn_range', Std.Legacy.Range.size, Nat.sub_zero, Nat.add_sub_cancel, Nat.div_one]
  have hall : sqEq P Q = (List.range' 0 64 1).all fun i => pe (P (2 * i)) (P (2 * i + 1)) (Q (2 * i)) (Q (2 * i + 1)) := by
    unfold sqEq; rw [List.range_eq_range']
  rw [hall]
  have hl : ∀ j ∈ List.range' 0 64 1, j < 64 := fun j hj => by simpa using (List.mem_range'_1.1 hj).2
  generalize List.range' 0 64 1 = l at hl ⊢
  induction l with
  | nil => simp
  | cons j l ih =>
    have hj : j < 64 := hl j (by simp)
    have px : ∀ P : Nat → Int, (Go.part 25 (nums P 0 128).toArray (j * 2)).run Tryz.prog w = .ok (pieV (P (2 * j)) (P (2 * j + 1))) w := fun P => by
      simp only [Go.part, isAgg, Sem.run_bind, run_underlying Tryz.underlying25, Result.andThen_ok, Sem.run_pure, if_true, size_of_info infoPie, nums_cut P 0 128 (j * 2) (j * 2 + 2) (by omega) (by omega)]
      rw [show j * 2 + 2 - j * 2 = 2 by omega, nums_two, Nat.zero_add, Nat.mul_comm j 2]; rfl
    simp only [List.forIn_cons, Sem.run_bind, px, equal_pie, Result.andThen_ok]
    cases he : pe (P (2 * j)) (P (2 * j + 1)) (Q (2 * j)) (Q (2 * j + 1)) with
    | false => simp [he]
    | true =>
      simp only [Bool.not_true, Bool.false_eq_true, if_false, Sem.run_pure, Result.andThen_ok, List.all_cons, he, Bool.true_and]
      exact ih fun k hk => hl k (by simp [hk])
/-- the piece on a square of a row of squares -/
theorem index_sqs (P : Nat → Int) (j : Nat) (hj : j < 64) (w : World) : (Instr.index 26 (.agg (nums P 0 128).toArray) (.int .i64 (j : Int))).run Tryz.prog w = .ok (.agg #[.int .i64 (P (2 * j)), .int .i64 (P (2 * j + 1))]) w := by
  have px : (Go.part 25 (nums P 0 128).toArray (j * 2)).run Tryz.prog w = .ok (pieV (P (2 * j)) (P (2 * j + 1))) w := by
    simp only [Go.part, isAgg, Sem.run_bind, run_underlying Tryz.underlying25, Result.andThen_ok, Sem.run_pure, if_true, size_of_info infoPie, nums_cut P 0 128 (j * 2) (j * 2 + 2) (by omega) (by omega)]
    rw [show j * 2 + 2 - j * 2 = 2 by omega, nums_two, Nat.zero_add, Nat.mul_comm j 2]; rfl
  have hr : 0 ≤ (j : Int) ∧ (j : Int) < (64 : Nat) := by omega
  simp only [Instr.index, asIntOf, Sem.run_bind, Sem.run_pure, Result.andThen_ok, run_underlying Tryz.underlying26, hr, and_self, if_true, size_of_info infoPie, Int.toNat_natCast, px]
  rfl
theorem load_pos {w : World} {b : Nat} {P : Nat → Int} (h : PB w b P) : (Instr.loadAt 29 (.pointer (some ⟨b, 0, none⟩))).run Tryz.prog w = .ok (.agg (pc P).toArray) w :=
  run_loadAt_mid w b 0 _ (pc P) _ h.range Tryz.underlying29 rfl (by rw [infoPos, pc_len])
theorem load_sqs {w : World} {b : Nat} {P : Nat → Int} (h : PB w b P) : (Instr.loadAt 26 (.pointer (some ⟨b, 0, none⟩))).run Tryz.prog w = .ok (.agg (nums P 0 128).toArray) w :=
  run_loadAt_mid w b 0 _ (nums P 0 128) _ h.squares Tryz.underlying26 rfl (by rw [infoSqs, nums_len])
theorem store_pos {w : World} {b : Nat} {P Q : Nat → Int} (h : PB w b P) : (Instr.storeAt 29 (.pointer (some ⟨b, 0, none⟩)) (.agg (pc Q).toArray)).run Tryz.prog w = .ok () (w.setCells b 0 (pc Q)) := by
  have := run_storeAt_mid (P := Tryz.prog) w b 0 29 (pc Q).toArray (by rw [pc_size]; exact h.there) (by rw [infoPos, pc_size]) (pc_one Q)
  rwa [List.toList_toArray] at this
/-- behind a position that is stored -/
theorem below_store {B b : Nat} {w0 w : World} (Q : Nat → Int) (h : Below B w0 w) (hB : B ≤ b) (hs : B ≤ w.heap.size) : Below B w0 (w.setCells b 0 (pc Q)) :=
  h.grown (grs_B (hb := b) (pc Q) 0 w) hs (by rintro k ⟨⟩; exact hB)
end Go.Proofs.YthinkiljhkanhaaGreatDoor

namespace Go.Proofs.YthinkiljhkanhaaGreatDoor
open Go.RowKit
set_option linter.unusedSimpArgs false
set_option linter.unusedVariables false

theorem part_sqs (P : Nat → Int) (w : World) : (part 26 (pc P).toArray 0).run Tryz.prog w = .ok (.agg (nums P 0 128).toArray) w := by
  have h : (pc P).toArray.extract 0 (0 + 128) = (nums P 0 128).toArray := nums_cut P 0 133 0 (0 + 128) (by omega) (by omega)
  simp only [part, isAgg, Sem.run_bind, run_underlying Tryz.underlying26, Result.andThen_ok, Sem.run_pure, if_true, size_of_info infoSqs, h]
theorem part_num (P : Nat → Int) (X : Array Value) (w : World) (hX : X = (pc P).toArray) (t : TypeId) (k : Nat) (x : TypeDesc) (hu : Tryz.prog.underlying t = some x) (hx : x.isRow = false) (hk : k < 133) : (part t X k).run Tryz.prog w = .ok (.int .i64 (P k)) w := by
  have hg : X[k]? = some (.int .i64 (P k)) := by rw [hX, List.getElem?_toArray]; exact pc_get P k hk
  cases x <;> simp_all [part, isAgg, run_underlying hu, TypeDesc.isRow]
theorem eq_fields (X Y : Array Value) (A0 B0 : Value) (a b : Nat → Int) (n : Nat) (w : World) (e0 : Bool)
    (p0x : (part 26 X 0).run Tryz.prog w = .ok A0 w) (p0y : (part 26 Y 0).run Tryz.prog w = .ok B0 w)
    (h0 : (Op.equalIn n 26 A0 B0).run Tryz.prog w = .ok e0 w)
    (px : ∀ (t : TypeId) (k : Nat) (x : TypeDesc), Tryz.prog.underlying t = some x → x.isRow = false → k < 133 → (part t X k).run Tryz.prog w = .ok (.int .i64 (a k)) w)
    (py : ∀ (t : TypeId) (k : Nat) (x : TypeDesc), Tryz.prog.underlying t = some x → x.isRow = false → k < 133 → (part t Y k).run Tryz.prog w = .ok (.int .i64 (b k)) w)
    (e1 : ∀ (t : TypeId) (a b : Int), Tryz.prog.underlying t = some (.int .i64) → (Op.equalIn n t (.int .i64 a) (.int .i64 b)).run Tryz.prog w = .ok (a == b) w) :
    (Op.equalIn (n + 1) 29 (.agg X) (.agg Y)).run Tryz.prog w = .ok (e0 && (a 128 == b 128) && (a 129 == b 129) && (a 130 == b 130) && (a 131 == b 131) && (a 132 == b 132)) w := by
  rw [run_equalIn_agg w n 29 _ _ (by kernel_rfl) (by kernel_rfl)]
  have hf : (Tryz.prog.fieldsOf 29).toList.map (fun f => (f.name, f.type, f.offset)) = [("Squares", 26, 0), ("Side", 23, 128), ("Castle", 27, 129), ("Over", 3, 130), ("Half", 3, 131), ("Full", 3, 132)] := by kernel_rfl
  generalize (Tryz.prog.fieldsOf 29).toList = fs at hf ⊢
  · obtain ⟨f0, fs, rfl, hf0, hf⟩ := List.map_eq_cons_iff.1 hf
    obtain ⟨f1, fs, rfl, hf1, hf⟩ := List.map_eq_cons_iff.1 hf
    obtain ⟨f2, fs, rfl, hf2, hf⟩ := List.map_eq_cons_iff.1 hf
    obtain ⟨f3, fs, rfl, hf3, hf⟩ := List.map_eq_cons_iff.1 hf
    obtain ⟨f4, fs, rfl, hf4, hf⟩ := List.map_eq_cons_iff.1 hf
    obtain ⟨f5, fs, rfl, hf5, hf⟩ := List.map_eq_cons_iff.1 hf
    obtain rfl := List.map_eq_nil_iff.1 hf
    simp only [Prod.mk.injEq] at hf0 hf1 hf2 hf3 hf4 hf5
    obtain ⟨n0, t0, o0⟩ := hf0
    obtain ⟨n1, t1, o1⟩ := hf1
    obtain ⟨n2, t2, o2⟩ := hf2
    obtain ⟨n3, t3, o3⟩ := hf3
    obtain ⟨n4, t4, o4⟩ := hf4
    obtain ⟨n5, t5, o5⟩ := hf5
    have m0 : f0.name ≠ "_" := by rw [n0]; decide
    have m1 : f1.name ≠ "_" := by rw [n1]; decide
    have m2 : f2.name ≠ "_" := by rw [n2]; decide
    have m3 : f3.name ≠ "_" := by rw [n3]; decide
    have m4 : f4.name ≠ "_" := by rw [n4]; decide
    have m5 : f5.name ≠ "_" := by rw [n5]; decide
    have x1 := px _ 128 _ Tryz.underlying23 rfl (by omega)
    have x2 := px _ 129 _ Tryz.underlying27 rfl (by omega)
    have x3 := px _ 130 _ Tryz.underlying3 rfl (by omega)
    have x4 := px _ 131 _ Tryz.underlying3 rfl (by omega)
    have x5 := px _ 132 _ Tryz.underlying3 rfl (by omega)
    have y1 := py _ 128 _ Tryz.underlying23 rfl (by omega)
    have y2 := py _ 129 _ Tryz.underlying27 rfl (by omega)
    have y3 := py _ 130 _ Tryz.underlying3 rfl (by omega)
    have y4 := py _ 131 _ Tryz.underlying3 rfl (by omega)
    have y5 := py _ 132 _ Tryz.underlying3 rfl (by omega)
    have z1 := fun a b => e1 _ a b Tryz.underlying23
    have z2 := fun a b => e1 _ a b Tryz.underlying27
    have z3 := fun a b => e1 _ a b Tryz.underlying3
    clear px py e1
    simp only [Op.eqFields, Sem.run_bind, Sem.run_ite, m0, m1, m2, m3, m4, m5, ne_eq, not_false_eq_true, if_true, t0, t1, t2, t3, t4, t5, o0, o1, o2, o3, o4, o5, p0x, p0y, x1, x2, x3, x4, x5, y1, y2, y3, y4, y5, z1, z2, z3, h0, Result.andThen_ok]
    generalize (a 128 == b 128) = q1
    generalize (a 129 == b 129) = q2
    generalize (a 130 == b 130) = q3
    generalize (a 131 == b 131) = q4
    generalize (a 132 == b 132) = q5
    cases e0 <;> cases q1 <;> cases q2 <;> cases q3 <;> cases q4 <;> cases q5 <;> simp
theorem equal_pos (P Q : Nat → Int) (n : Nat) (w : World) : (Op.equalIn (n + 4) 29 (posV P) (posV Q)).run Tryz.prog w = .ok (posEq P Q) w :=
  eq_fields (pc P).toArray (pc Q).toArray _ _ P Q (n + 3) w (sqEq P Q) (part_sqs P w) (part_sqs Q w) (equal_sqs P Q n w)
    (fun t k x => part_num P _ w rfl t k x) (fun t k x => part_num Q _ w rfl t k x) (fun t a b hu => run_equalIn_int w (n + 2) t .i64 .i64 a b hu)
theorem eql_pos (P Q : Nat → Int) (w : World) : (binOp .eql 29 (.agg (pc P).toArray) (.agg (pc Q).toArray)).run Tryz.prog w = .ok (.bool (posEq P Q)) w := by
  have e := equal_pos P Q 9996 w
  unfold posV at e
  rw [run_eql_struct, e]; rfl
theorem neq_pos (P Q : Nat → Int) (w : World) : (binOp .neq 29 (.agg (pc P).toArray) (.agg (pc Q).toArray)).run Tryz.prog w = .ok (.bool (!posEq P Q)) w := by
  have e := equal_pos P Q 9996 w
  unfold posV at e
  rw [run_neq_struct, e]; rfl
end Go.Proofs.YthinkiljhkanhaaGreatDoor
