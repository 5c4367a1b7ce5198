/-
  Merged: Words, Loops, Put, Bytes, Awake.
-/
import Derived.Test.YtldepimkbnodpaaDoorBits
import Derived.Deep.RegionLaw
import Derived.Deep.AppendLies

namespace Go.Proofs.YtldepimkbnodpaaDoor
open Go.RowKit
set_option linter.unusedVariables false
set_option linter.unusedSimpArgs false

end Go.Proofs.YtldepimkbnodpaaDoor

namespace Go.Proofs.YtldepimkbnodpaaDoor
open Go.RowKit
set_option linter.unusedSimpArgs false
set_option linter.unusedVariables false

def sumTo (f : Nat → BitVec 32) : Nat → BitVec 32
  | 0 => 0
  | k + 1 => sumTo f k + f k
/-- how many of the first have a 1 at a place -/
def onesTo (c : Nat) (f : Nat → BitVec 32) : Nat → Nat
  | 0 => 0
  | k + 1 => onesTo c f k + (f k >>> c &&& 1#32).toNat
theorem one_le (x : BitVec 32) : (x &&& 1#32).toNat ≤ 1 := by
  rw [BitVec.toNat_and]; exact Nat.and_le_right
theorem onesTo_le (c : Nat) (f : Nat → BitVec 32) (k : Nat) : onesTo c f k ≤ k := by
  induction k with
  | zero => exact Nat.le_refl _
  | succ k ih => have := one_le (f k >>> c); simp only [onesTo]; omega
def mixTo (x : BitVec 32) (g : Nat → Int) : Nat → BitVec 32
  | 0 => 0
  | k + 1 => mixTo x g k ^^^ turn x (g k % 32).toNat
def mostTo (n : Nat) (f : Nat → BitVec 32) : Nat → BitVec 32
  | 0 => 0
  | k + 1 => if n < 2 * onesTo k f n then mostTo n f k ||| 1#32 <<< k else mostTo n f k

end Go.Proofs.YtldepimkbnodpaaDoor

namespace Go.Proofs.YtldepimkbnodpaaDoor
open Go.RowKit
set_option linter.unusedVariables false
set_option linter.unusedSimpArgs false

/-- the number of a byte -/
def ub (x : BitVec 8) : Int := (x.toNat : Int)
theorem ub_lo (x : BitVec 8) : 0 ≤ ub x := by unfold ub; omega
theorem ub_hi (x : BitVec 8) : ub x ≤ 255 := by unfold ub; have := x.isLt; omega
theorem u8_of_u (x : BitVec 32) : IntKind.u8.wrap (u x) = ub (x.setWidth 8) := by
  unfold u ub; rw [IntKind.wrap_u8, BitVec.toNat_setWidth]; omega
attribute [go_sem] u8_of_u
def cellsOf (g : Nat → BitVec 8) (n : Nat) : List Value := (List.range n).map fun i => .int .u8 (ub (g i))
theorem cellsOf_succ (g : Nat → BitVec 8) (n : Nat) : cellsOf g n ++ [.int .u8 (ub (g n))] = cellsOf g (n + 1) := by
  unfold cellsOf; rw [List.range_succ, List.map_append]; rfl
theorem cellsOf_at (g : Nat → BitVec 8) (n i : Nat) (h : i < n) : (cellsOf g n)[i]? = some (.int .u8 (ub (g i))) := by
  unfold cellsOf; simp [h]
theorem Tryd.infoB : (Tryd.prog.info? 5).map (fun i => (i.zero, i.size, i.bytes)) = some (some (.int .u8 0), 1, 1) := by kernel_rfl

/-- an octets value at cell ⟨ob, oo⟩ whose bytes are the call's own row g of n -/
def Oct (w : World) (base ob oo : Nat) (g : Nat → BitVec 8) (n : Nat) : Prop :=
  ∃ v, w.cell? ⟨ob, oo, none⟩ = some v ∧ w.frozen? ⟨ob, oo, none⟩ = false ∧ v.ownBlock ≠ some ob ∧ w.ownsRow base 5 1 v n (cellsOf g n)

theorem own_setCell {w : World} {base : Nat} {e : TypeId} {size : Nat} {v : Value} {n : Nat} {xs : List Value} (h : w.ownsRow base e size v n xs) (p : Addr) (x : Value) (hne : v.ownBlock ≠ some p.block) : (w.setCell p x).ownsRow base e size v n xs :=
  h.kept (row := some p.block) ⟨rfl, rfl, rfl, by simp, fun k _ hk => Below.heap_setCell w p x k (fun e => hk (by rw [e]))⟩ (.inr hne)

theorem oct_of {w : World} {base ob oo g1 n cap : Nat} {v : Value} {g : Nat → BitVec 8} (hc : w.cell? ⟨ob, oo, none⟩ = some v) (hf : w.frozen? ⟨ob, oo, none⟩ = false) (hne : g1 ≠ ob)
    (hown : w.ownsRow base 5 1 (.slice (some ⟨g1, 0, none⟩) n cap) n (cellsOf g n)) : Oct (w.setCell ⟨ob, oo, none⟩ (.slice (some ⟨g1, 0, none⟩) n cap)) base ob oo g n :=
  ⟨_, World.cell?_setCell_same' _ _ _ (by rw [hc]; rfl), by rw [World.frozen?_setCell]; exact hf, by simpa [Value.ownBlock] using hne, own_setCell hown _ _ (by simpa [Value.ownBlock] using hne)⟩

end Go.Proofs.YtldepimkbnodpaaDoor

namespace Go.Proofs.YtldepimkbnodpaaDoor
open Go.RowKit
set_option linter.unusedSimpArgs false
set_option linter.unusedVariables false

/-- byte i of the bytes of words -/
def wb (f : Nat → BitVec 32) (i : Nat) : BitVec 8 := (f (i / 4) >>> (24 - 8 * (i % 4))).setWidth 8

end Go.Proofs.YtldepimkbnodpaaDoor

namespace Go.Proofs.YtldepimkbnodpaaDoor
open Go.RowKit
set_option linter.unusedSimpArgs false
set_option linter.unusedVariables false

theorem reads_lit (w : World) (cs : Array Value) (t : TypeId) (n : Nat) (f : Nat → Value) (h : ∀ i, i < n → cs[i]? = some (f i)) :
    Reads (w.heap.size + 1) (w.alloc (.cells cs t)) (some ⟨w.heap.size, 0, none⟩) n f :=
  .inr ⟨w.heap.size, 0, rfl, by omega, fun i hi => by rw [Nat.zero_add, World.cell?_alloc_at _ _ _ _ rfl]; exact h i hi⟩
/-- the first three of a row -/
def fst3 {α : Type} (x y z : α) : Nat → α
  | 0 => x
  | 1 => y
  | _ => z
theorem fst3_at {α β : Type} (x y z : α) (v : α → β) (n : Nat) (hn : n ≤ 3) (i : Nat) (hi : i < n) : (#[v x, v y, v z] : Array β)[i]? = some (v (fst3 x y z i)) := by
  match i, (show i < 3 by omega) with
  | 0, _ => rfl
  | 1, _ => rfl
  | 2, _ => rfl
theorem fst2_at {α β : Type} (x y z : α) (v : α → β) (n : Nat) (hn : n ≤ 2) (i : Nat) (hi : i < n) : (#[v x, v y] : Array β)[i]? = some (v (fst3 x y z i)) := by
  match i, (show i < 2 by omega) with
  | 0, _ => rfl
  | 1, _ => rfl
theorem fst1_at {α β : Type} (x y z : α) (v : α → β) (n : Nat) (hn : n ≤ 1) (i : Nat) (hi : i < n) : (#[v x] : Array β)[i]? = some (v (fst3 x y z i)) := by
  match i, (show i < 1 by omega) with
  | 0, _ => rfl

/-- what a value that owns a row reads as -/
theorem owns_reads {w : World} {base : Nat} {e : TypeId} {v : Value} {n : Nat} {f : Nat → Value} (h : w.ownsRow base e 1 v n ((List.range n).map f)) :
    ∃ p c, v = .slice p n c ∧ Reads w.heap.size w p n f ∧ n ≤ c ∧ c ≤ maxLen := by
  rcases h.2 with ⟨rfl, rfl⟩ | ⟨g, cap, cur, rfl, h1, h2, h3, h4, h5, h6⟩
  · exact ⟨none, 0, rfl, .inl rfl, Nat.le_refl _, by unfold maxLen; omega⟩
  · refine ⟨_, cap, rfl, .inr ⟨g, 0, rfl, ?_, fun i hi => ?_⟩, h3, h4⟩
    · rcases Nat.lt_or_ge g w.heap.size with h | h
      · exact h
      · rw [Array.getElem?_eq_none h] at h2; cases h2
    · rw [Nat.zero_add, h.cellAt i (by omega)]
      simp [hi]

def fst4 {α : Type} (x y z t : α) : Nat → α
  | 0 => x
  | 1 => y
  | 2 => z
  | _ => t
theorem fst4_at {α β : Type} (x y z t : α) (v : α → β) (i : Nat) (hi : i < 4) : (#[v x, v y, v z, v t] : Array β)[i]? = some (v (fst4 x y z t i)) := by
  match i, hi with
  | 0, _ => rfl
  | 1, _ => rfl
  | 2, _ => rfl
  | 3, _ => rfl
theorem owns_reads' {w : World} {base : Nat} {e : TypeId} {p : Option Addr} {n c : Nat} {f : Nat → Value} (h : w.ownsRow base e 1 (.slice p n c) n ((List.range n).map f)) : Reads w.heap.size w p n f := by
  obtain ⟨p', c', he, hr, _⟩ := owns_reads h
  cases he
  exact hr
end Go.Proofs.YtldepimkbnodpaaDoor
