/-
  Merged: SqC, Words, Loops, Put, Bytes, Awake, Math, Marks, LentInts.
-/
import Derived.Test.YtjhlombbkodpaaaDoorG1
import Derived.Deep.RegionLaw
import Derived.Deep.AppendLies
import Derived.OwnWalk
import Derived.Deep.QuietTactic
import Derived.BigQuiet

namespace Go.Proofs.YtjhlombbkodpaaaDoor
open Go.RowKit
set_option linter.unusedSimpArgs false
set_option linter.unusedVariables false

theorem tm8 {s : Int} (h : 0 ≤ s) : s.tmod 8 = s % 8 := Int.tmod_eq_emod_of_nonneg h
theorem td8 {s : Int} (h : 0 ≤ s) : s.tdiv 8 = s / 8 := Int.tdiv_eq_ediv_of_nonneg h
theorem tmod_64 (a : Int) : a % 64 = if a.tmod 64 < 0 then a.tmod 64 + 64 else a.tmod 64 := by
  rcases Int.lt_or_le a 0 with h | h
  · have e : a.tmod 64 = -((-a) % 64) := by
      rw [← Int.tmod_eq_emod_of_nonneg (show 0 ≤ -a by omega), Int.neg_tmod, Int.neg_neg]
    rw [e]
    split <;> omega
  · rw [Int.tmod_eq_emod_of_nonneg h]
    split <;> omega
theorem tmod_15 (a : Int) : a % 15 = if a.tmod 15 < 0 then a.tmod 15 + 15 else a.tmod 15 := by
  rcases Int.lt_or_le a 0 with h | h
  · have e : a.tmod 15 = -((-a) % 15) := by
      rw [← Int.tmod_eq_emod_of_nonneg (show 0 ≤ -a by omega), Int.neg_tmod, Int.neg_neg]
    rw [e]
    split <;> omega
  · rw [Int.tmod_eq_emod_of_nonneg h]
    split <;> omega
/-- what a value that owns a row reads as -/
theorem sq_reads {w : World} {base : Nat} {e : TypeId} {v : Value} {n : Nat} {f : Nat → Value} (h : w.ownsRow base e 1 v n ((List.range n).map f)) :
    ∃ p c, v = .slice p n c ∧ Reads w.heap.size w p n f ∧ n ≤ c ∧ c ≤ maxLen := by
  rcases h.2 with ⟨rfl, rfl⟩ | ⟨g, cap, cur, rfl, h1, h2, h3, h4, h5, h6⟩
  · exact ⟨none, 0, rfl, .inl rfl, Nat.le_refl _, by unfold maxLen; omega⟩
  · refine ⟨_, cap, rfl, .inr ⟨g, 0, rfl, ?_, fun i hi => ?_⟩, h3, h4⟩
    · rcases Nat.lt_or_ge g w.heap.size with h | h
      · exact h
      · rw [Array.getElem?_eq_none h] at h2; cases h2
    · rw [Nat.zero_add, h.cellAt i (by omega)]
      simp [hi]
theorem stp_hit {s a b t : Int} (hs : sq s = true) (h0 : 0 ≤ t) (h1 : t < 64) (ha : t % 8 - s % 8 = a) (hb : t / 8 - s / 8 = b) : stp s a b = t := by
  obtain ⟨s0, s1⟩ := (sq_iff s).1 hs
  unfold stp
  rw [if_pos (by rw [hs, Bool.true_and]; exact (onB_iff _ _).2 (by omega))]
  omega
theorem stp_miss {s a b : Int} (h : ∀ t : Nat, t < 64 → ¬ ((t : Int) % 8 - s % 8 = a ∧ (t : Int) / 8 - s / 8 = b)) : stp s a b = -1 := by
  unfold stp
  split
  · rename_i hc
    rw [Bool.and_eq_true] at hc
    obtain ⟨s0, s1⟩ := (sq_iff s).1 hc.1
    obtain ⟨u0, u1, u2, u3⟩ := (onB_iff _ _).1 hc.2
    exact absurd ⟨by omega, by omega⟩ (h (s + a + 8 * b).toNat (by omega))
  · rfl
end Go.Proofs.YtjhlombbkodpaaaDoor

namespace Go.Proofs.YtjhlombbkodpaaaDoor
open Go.RowKit
set_option linter.unusedVariables false
set_option linter.unusedSimpArgs false

end Go.Proofs.YtjhlombbkodpaaaDoor

namespace Go.Proofs.YtjhlombbkodpaaaDoor
open Go.RowKit
set_option linter.unusedSimpArgs false
set_option linter.unusedVariables false

def sumTo (f : Nat → BitVec 32) : Nat → BitVec 32
  | 0 => 0
  | k + 1 => sumTo f k + f k
/-- how many of the first have a 1 at a place -/
def onesTo (c : Nat) (f : Nat → BitVec 32) : Nat → Nat
  | 0 => 0
  | k + 1 => onesTo c f k + (f k >>> c &&& 1#32).toNat
theorem one_le (x : BitVec 32) : (x &&& 1#32).toNat ≤ 1 := by
  rw [BitVec.toNat_and]; exact Nat.and_le_right
theorem onesTo_le (c : Nat) (f : Nat → BitVec 32) (k : Nat) : onesTo c f k ≤ k := by
  induction k with
  | zero => exact Nat.le_refl _
  | succ k ih => have := one_le (f k >>> c); simp only [onesTo]; omega
def mixTo (x : BitVec 32) (g : Nat → Int) : Nat → BitVec 32
  | 0 => 0
  | k + 1 => mixTo x g k ^^^ turn x (g k % 32).toNat
def mostTo (n : Nat) (f : Nat → BitVec 32) : Nat → BitVec 32
  | 0 => 0
  | k + 1 => if n < 2 * onesTo k f n then mostTo n f k ||| 1#32 <<< k else mostTo n f k

end Go.Proofs.YtjhlombbkodpaaaDoor

namespace Go.Proofs.YtjhlombbkodpaaaDoor
open Go.RowKit
set_option linter.unusedVariables false
set_option maxRecDepth 20000
set_option linter.unusedSimpArgs false

/-- the number of a byte -/
def ub (x : BitVec 8) : Int := (x.toNat : Int)
theorem ub_lo (x : BitVec 8) : 0 ≤ ub x := by unfold ub; omega
theorem ub_hi (x : BitVec 8) : ub x ≤ 255 := by unfold ub; have := x.isLt; omega
theorem u8_of_u (x : BitVec 32) : IntKind.u8.wrap (u x) = ub (x.setWidth 8) := by
  unfold u ub; rw [IntKind.wrap_u8, BitVec.toNat_setWidth]; omega
attribute [go_sem] u8_of_u
def cellsOf (g : Nat → BitVec 8) (n : Nat) : List Value := (List.range n).map fun i => .int .u8 (ub (g i))
theorem cellsOf_succ (g : Nat → BitVec 8) (n : Nat) : cellsOf g n ++ [.int .u8 (ub (g n))] = cellsOf g (n + 1) := by
  unfold cellsOf; rw [List.range_succ, List.map_append]; rfl
theorem cellsOf_at (g : Nat → BitVec 8) (n i : Nat) (h : i < n) : (cellsOf g n)[i]? = some (.int .u8 (ub (g i))) := by
  unfold cellsOf; simp [h]
theorem Tryd.infoB : (Tryd.prog.info? 5).map (fun i => (i.zero, i.size, i.bytes)) = some (some (.int .u8 0), 1, 1) := by kernel_rfl

/-- an octets value at cell ⟨ob, oo⟩ whose bytes are the call's own row g of n -/
def Oct (w : World) (base ob oo : Nat) (g : Nat → BitVec 8) (n : Nat) : Prop :=
  ∃ v, w.cell? ⟨ob, oo, none⟩ = some v ∧ w.frozen? ⟨ob, oo, none⟩ = false ∧ v.ownBlock ≠ some ob ∧ w.ownsRow base 5 1 v n (cellsOf g n)

theorem own_setCell {w : World} {base : Nat} {e : TypeId} {size : Nat} {v : Value} {n : Nat} {xs : List Value} (h : w.ownsRow base e size v n xs) (p : Addr) (x : Value) (hne : v.ownBlock ≠ some p.block) : (w.setCell p x).ownsRow base e size v n xs :=
  h.kept (row := some p.block) ⟨rfl, rfl, rfl, by simp, fun k _ hk => Below.heap_setCell w p x k (fun e => hk (by rw [e]))⟩ (.inr hne)

theorem oct_of {w : World} {base ob oo g1 n cap : Nat} {v : Value} {g : Nat → BitVec 8} (hc : w.cell? ⟨ob, oo, none⟩ = some v) (hf : w.frozen? ⟨ob, oo, none⟩ = false) (hne : g1 ≠ ob)
    (hown : w.ownsRow base 5 1 (.slice (some ⟨g1, 0, none⟩) n cap) n (cellsOf g n)) : Oct (w.setCell ⟨ob, oo, none⟩ (.slice (some ⟨g1, 0, none⟩) n cap)) base ob oo g n :=
  ⟨_, World.cell?_setCell_same' _ _ _ (by rw [hc]; rfl), by rw [World.frozen?_setCell]; exact hf, by simpa [Value.ownBlock] using hne, own_setCell hown _ _ (by simpa [Value.ownBlock] using hne)⟩

end Go.Proofs.YtjhlombbkodpaaaDoor

namespace Go.Proofs.YtjhlombbkodpaaaDoor
open Go.RowKit
set_option linter.unusedSimpArgs false
set_option linter.unusedVariables false

/-- byte i of the bytes of words -/
def wb (f : Nat → BitVec 32) (i : Nat) : BitVec 8 := (f (i / 4) >>> (24 - 8 * (i % 4))).setWidth 8

end Go.Proofs.YtjhlombbkodpaaaDoor

namespace Go.Proofs.YtjhlombbkodpaaaDoor
open Go.RowKit
set_option linter.unusedSimpArgs false
set_option linter.unusedVariables false

theorem reads_lit (w : World) (cs : Array Value) (t : TypeId) (n : Nat) (f : Nat → Value) (h : ∀ i, i < n → cs[i]? = some (f i)) :
    Reads (w.heap.size + 1) (w.alloc (.cells cs t)) (some ⟨w.heap.size, 0, none⟩) n f :=
  .inr ⟨w.heap.size, 0, rfl, by omega, fun i hi => by rw [Nat.zero_add, World.cell?_alloc_at _ _ _ _ rfl]; exact h i hi⟩
/-- the first three of a row -/
def fst3 {α : Type} (x y z : α) : Nat → α
  | 0 => x
  | 1 => y
  | _ => z
theorem fst3_at {α β : Type} (x y z : α) (v : α → β) (n : Nat) (hn : n ≤ 3) (i : Nat) (hi : i < n) : (#[v x, v y, v z] : Array β)[i]? = some (v (fst3 x y z i)) := by
  match i, (show i < 3 by omega) with
  | 0, _ => rfl
  | 1, _ => rfl
  | 2, _ => rfl
theorem fst2_at {α β : Type} (x y z : α) (v : α → β) (n : Nat) (hn : n ≤ 2) (i : Nat) (hi : i < n) : (#[v x, v y] : Array β)[i]? = some (v (fst3 x y z i)) := by
  match i, (show i < 2 by omega) with
  | 0, _ => rfl
  | 1, _ => rfl
theorem fst1_at {α β : Type} (x y z : α) (v : α → β) (n : Nat) (hn : n ≤ 1) (i : Nat) (hi : i < n) : (#[v x] : Array β)[i]? = some (v (fst3 x y z i)) := by
  match i, (show i < 1 by omega) with
  | 0, _ => rfl

/-- what a value that owns a row reads as -/
theorem owns_reads {w : World} {base : Nat} {e : TypeId} {v : Value} {n : Nat} {f : Nat → Value} (h : w.ownsRow base e 1 v n ((List.range n).map f)) :
    ∃ p c, v = .slice p n c ∧ Reads w.heap.size w p n f ∧ n ≤ c ∧ c ≤ maxLen := by
  rcases h.2 with ⟨rfl, rfl⟩ | ⟨g, cap, cur, rfl, h1, h2, h3, h4, h5, h6⟩
  · exact ⟨none, 0, rfl, .inl rfl, Nat.le_refl _, by unfold maxLen; omega⟩
  · refine ⟨_, cap, rfl, .inr ⟨g, 0, rfl, ?_, fun i hi => ?_⟩, h3, h4⟩
    · rcases Nat.lt_or_ge g w.heap.size with h | h
      · exact h
      · rw [Array.getElem?_eq_none h] at h2; cases h2
    · rw [Nat.zero_add, h.cellAt i (by omega)]
      simp [hi]

def fst4 {α : Type} (x y z t : α) : Nat → α
  | 0 => x
  | 1 => y
  | 2 => z
  | _ => t
theorem fst4_at {α β : Type} (x y z t : α) (v : α → β) (i : Nat) (hi : i < 4) : (#[v x, v y, v z, v t] : Array β)[i]? = some (v (fst4 x y z t i)) := by
  match i, hi with
  | 0, _ => rfl
  | 1, _ => rfl
  | 2, _ => rfl
  | 3, _ => rfl
theorem owns_reads' {w : World} {base : Nat} {e : TypeId} {p : Option Addr} {n c : Nat} {f : Nat → Value} (h : w.ownsRow base e 1 (.slice p n c) n ((List.range n).map f)) : Reads w.heap.size w p n f := by
  obtain ⟨p', c', he, hr, _⟩ := owns_reads h
  cases he
  exact hr
end Go.Proofs.YtjhlombbkodpaaaDoor

namespace Go.Proofs.YtjhlombbkodpaaaDoor
set_option linter.unusedSimpArgs false
set_option linter.unusedVariables false

theorem bit_nat (x : BitVec 32) (c : Nat) : (x >>> c &&& 1#32).toNat = (x.getLsbD c).toNat := by
  have h : x >>> c &&& 1#32 = BitVec.setWidth 32 (BitVec.ofBool (x.getLsbD c)) := by
    apply BitVec.eq_of_getLsbD_eq
    intro i hi
    by_cases h0 : i = 0
    · subst h0; simp
    · simp [h0, BitVec.getLsbD_one]
  rw [h]
  cases x.getLsbD c <;> rfl
theorem most_bit (n : Nat) (f : Nat → BitVec 32) (k j : Nat) (hk : k ≤ 32) (hj : j < 32) :
    (mostTo n f k).getLsbD j = (decide (j < k) && decide (n < 2 * onesTo j f n)) := by
  induction k with
  | zero => simp [mostTo]
  | succ k ih =>
    have ih := ih (by omega)
    have h1 : (1#32 <<< k).getLsbD j = decide (j = k) := by
      rw [BitVec.getLsbD_shiftLeft, BitVec.getLsbD_one]
      by_cases e : j = k
      · subst e; simp [hj]
      · by_cases e2 : j < k
        · simp [e, e2]
        · simp [e, e2]; omega
    simp only [mostTo]
    by_cases e : j = k
    · subst e
      by_cases h : n < 2 * onesTo j f n
      · rw [if_pos h, BitVec.getLsbD_or, h1]; simp [h]
      · rw [if_neg h, ih]; simp [h]
    · have e3 : decide (j < k + 1) = decide (j < k) := by simp; omega
      by_cases h : n < 2 * onesTo k f n
      · rw [if_pos h, BitVec.getLsbD_or, h1, ih, e3]; simp [e]
      · rw [if_neg h, ih, e3]
theorem most_eq (n : Nat) (f : Nat → BitVec 32) (r : BitVec 32) (h : ∀ j, j < 32 → decide (n < 2 * onesTo j f n) = r.getLsbD j) : mostTo n f 32 = r := by
  apply BitVec.eq_of_getLsbD_eq
  intro j hj
  rw [most_bit n f 32 j (by omega) hj, h j hj]
  simp [hj]
theorem ones3 (j : Nat) (x y z : BitVec 32) : onesTo j (fst3 x y z) 3 = (x.getLsbD j).toNat + (y.getLsbD j).toNat + (z.getLsbD j).toNat := by
  simp only [onesTo, bit_nat, fst3]; omega
theorem ones2 (j : Nat) (x y z : BitVec 32) : onesTo j (fst3 x y z) 2 = (x.getLsbD j).toNat + (y.getLsbD j).toNat := by
  simp only [onesTo, bit_nat, fst3]; omega
theorem ones1 (j : Nat) (x y z : BitVec 32) : onesTo j (fst3 x y z) 1 = (x.getLsbD j).toNat := by
  simp only [onesTo, bit_nat, fst3]; omega
/-- most of three, by its places -/
def most3 (x y z : BitVec 32) : BitVec 32 := mostTo 3 (fst3 x y z) 32
theorem most3_bit (x y z : BitVec 32) (j : Nat) (hj : j < 32) : (most3 x y z).getLsbD j = decide (3 < 2 * ((x.getLsbD j).toNat + (y.getLsbD j).toNat + (z.getLsbD j).toNat)) := by
  unfold most3; rw [most_bit _ _ _ _ (by omega) hj, ones3]; simp [hj]
theorem most3_bxa (x a b : BitVec 32) : mostTo 3 (fst3 b x a) 32 = most3 x a b :=
  most_eq _ _ _ fun j hj => by rw [ones3, most3_bit _ _ _ _ hj]; congr 1; rw [Nat.add_comm (b.getLsbD j).toNat, Nat.add_right_comm]
theorem most3_axb (x a b : BitVec 32) : mostTo 3 (fst3 a x b) 32 = most3 x a b :=
  most_eq _ _ _ fun j hj => by rw [ones3, most3_bit _ _ _ _ hj]; congr 1; rw [Nat.add_comm (a.getLsbD j).toNat]
theorem most3_xxa (x a : BitVec 32) : mostTo 3 (fst3 x x a) 32 = x :=
  most_eq _ _ _ fun j hj => by rw [ones3]; cases x.getLsbD j <;> cases a.getLsbD j <;> rfl
theorem most2 (x a z : BitVec 32) : mostTo 2 (fst3 x a z) 32 = x &&& a :=
  most_eq _ _ _ fun j hj => by rw [ones2, BitVec.getLsbD_and]; cases x.getLsbD j <;> cases a.getLsbD j <;> rfl
theorem most1 (x y z : BitVec 32) : mostTo 1 (fst3 x y z) 32 = x :=
  most_eq _ _ _ fun j hj => by rw [ones1]; cases x.getLsbD j <;> rfl
theorem most0 (f : Nat → BitVec 32) : mostTo 0 f 32 = 0#32 :=
  most_eq _ _ _ fun j hj => by simp [onesTo]
theorem choose_same (x a : BitVec 32) : x &&& a ||| ~~~x &&& a = a := by
  apply BitVec.eq_of_getLsbD_eq; intro j hj; simp only [BitVec.getLsbD_or, BitVec.getLsbD_and, BitVec.getLsbD_not]; cases x.getLsbD j <;> cases a.getLsbD j <;> simp [hj]
theorem choose_ones (a b : BitVec 32) : BitVec.allOnes 32 &&& a ||| ~~~(BitVec.allOnes 32) &&& b = a := by
  apply BitVec.eq_of_getLsbD_eq; intro j hj; simp only [BitVec.getLsbD_or, BitVec.getLsbD_and, BitVec.getLsbD_not, BitVec.getLsbD_allOnes]; simp [hj]
theorem choose_none (a b : BitVec 32) : 0#32 &&& a ||| ~~~0#32 &&& b = b := by
  apply BitVec.eq_of_getLsbD_eq; intro j hj; simp only [BitVec.getLsbD_or, BitVec.getLsbD_and, BitVec.getLsbD_not, BitVec.getLsbD_zero]; simp [hj]
theorem choose_turned (x a b : BitVec 32) : (x &&& a ||| ~~~x &&& b) ^^^ (~~~x &&& a ||| ~~~(~~~x) &&& b) = a ^^^ b := by
  apply BitVec.eq_of_getLsbD_eq; intro j hj; simp only [BitVec.getLsbD_or, BitVec.getLsbD_and, BitVec.getLsbD_not, BitVec.getLsbD_xor]; simp only [hj, decide_true, Bool.true_and]; cases x.getLsbD j <;> cases a.getLsbD j <;> cases b.getLsbD j <;> rfl
theorem sum3 (x y z : BitVec 32) : sumTo (fst3 x y z) 3 = x + y + z := by
  simp [sumTo, fst3]
theorem sum2 (x y z : BitVec 32) : sumTo (fst3 x y z) 2 = x + y := by
  simp [sumTo, fst3]
theorem sum_rev (x y z : BitVec 32) : z + y + x = x + y + z := by
  rw [BitVec.add_comm z y, BitVec.add_comm (y + z) x, BitVec.add_assoc]
theorem sum_not (x : BitVec 32) : x + ~~~x + 1#32 = 0#32 := by
  have h : x + ~~~x = BitVec.allOnes 32 := BitVec.add_not_self x
  rw [h]; decide
theorem mix2 (x : BitVec 32) (g : Nat → Int) (h : g 0 = g 1) : mixTo x g 2 = 0#32 := by
  simp [mixTo, h]
theorem mix1 (x : BitVec 32) (g : Nat → Int) : mixTo x g 1 = turn x (g 0 % 32).toNat := by
  simp [mixTo]
end Go.Proofs.YtjhlombbkodpaaaDoor

namespace Go.Proofs.YtjhlombbkodpaaaDoor
open Go.RowKit
set_option linter.unusedSimpArgs false
set_option linter.unusedVariables false

/-- the mark of a place in a list of bytes -/
def markB (k i : Int) : Int := IntKind.u64.wrap ((1000003 * (k + 7) + i) * 11400714819323198485) / 72057594037927936 % 256
end Go.Proofs.YtjhlombbkodpaaaDoor

namespace Go.Proofs.YtjhlombbkodpaaaDoor.LentInts
open Go.RowKit
set_option linter.unusedSimpArgs false
set_option linter.unusedVariables false

theorem info : (Tryd.prog.info? 3).map (fun i => (i.zero, i.size, i.bytes)) = some (some (.int .i64 0), 1, 8) := by kernel_rfl
/-- what stands behind the list's own elements -/
def mk (i : Nat) : Int := 8000024 + (i : Int)
/-- what the mark's own call answers -/
def mk' (i : Nat) : Int := 8000024 + (i : Int)
/-- the list, and the marks behind it -/
def ext (n : Nat) (h : Nat → Int) (i : Nat) : Value := .int .i64 (if i < n then h i else mk (i - n))
theorem ext_lt {n : Nat} {h : Nat → Int} {i : Nat} (hi : i < n) : ext n h i = .int .i64 (h i) := by unfold ext; rw [if_pos hi]
theorem ext_ge {n : Nat} {h : Nat → Int} {i : Nat} (hi : n ≤ i) : ext n h i = .int .i64 (mk (i - n)) := by unfold ext; rw [if_neg (by omega)]
theorem ext_row (n : Nat) (h : Nat → Int) : (List.range n).map (fun i => Value.int .i64 (h i)) = (List.range n).map (ext n h) :=
  List.map_congr_left fun i hi => (ext_lt (List.mem_range.1 hi)).symm
theorem ext_step (n k : Nat) (h : Nat → Int) : (List.range (n + k)).map (ext n h) ++ [.int .i64 (mk k)] = (List.range (n + (k + 1))).map (ext n h) := by
  rw [show n + (k + 1) = n + k + 1 by omega, List.range_succ, List.map_append, List.map_singleton, ext_ge (by omega), show n + k - n = k by omega]
theorem row_at {f : Nat → Value} {n : Nat} {j : Nat} {x : Value} (h : ((List.range n).map f)[j]? = some x) : j < n ∧ x = f j := by
  have hj : j < n := by
    have := (List.getElem?_eq_some_iff.1 h).1; simpa using this
  refine ⟨hj, ?_⟩
  rw [List.getElem?_map, List.getElem?_range hj] at h
  simpa using h.symm

end Go.Proofs.YtjhlombbkodpaaaDoor.LentInts
