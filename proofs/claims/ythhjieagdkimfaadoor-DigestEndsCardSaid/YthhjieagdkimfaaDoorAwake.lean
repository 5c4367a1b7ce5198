/-
  Contract: the chapter's examples are answered.
-/
import Derived.Test.YthhjieagdkimfaaDoorBytes
namespace Go.Proofs.YthhjieagdkimfaaDoor
open Go.RowKit
set_option linter.unusedSimpArgs false
set_option linter.unusedVariables false

theorem reads_lit (w : World) (cs : Array Value) (t : TypeId) (n : Nat) (f : Nat → Value) (h : ∀ i, i < n → cs[i]? = some (f i)) :
    Reads (w.heap.size + 1) (w.alloc (.cells cs t)) (some ⟨w.heap.size, 0, none⟩) n f :=
  .inr ⟨w.heap.size, 0, rfl, by omega, fun i hi => by rw [Nat.zero_add, World.cell?_alloc_at _ _ _ _ rfl]; exact h i hi⟩
/-- the first three of a row -/
def fst3 {α : Type} (x y z : α) : Nat → α
  | 0 => x
  | 1 => y
  | _ => z
theorem fst3_at {α β : Type} (x y z : α) (v : α → β) (n : Nat) (hn : n ≤ 3) (i : Nat) (hi : i < n) : (#[v x, v y, v z] : Array β)[i]? = some (v (fst3 x y z i)) := by
  match i, (show i < 3 by omega) with
  | 0, _ => rfl
  | 1, _ => rfl
  | 2, _ => rfl
theorem fst2_at {α β : Type} (x y z : α) (v : α → β) (n : Nat) (hn : n ≤ 2) (i : Nat) (hi : i < n) : (#[v x, v y] : Array β)[i]? = some (v (fst3 x y z i)) := by
  match i, (show i < 2 by omega) with
  | 0, _ => rfl
  | 1, _ => rfl
theorem fst1_at {α β : Type} (x y z : α) (v : α → β) (n : Nat) (hn : n ≤ 1) (i : Nat) (hi : i < n) : (#[v x] : Array β)[i]? = some (v (fst3 x y z i)) := by
  match i, (show i < 1 by omega) with
  | 0, _ => rfl

theorem most_3 {x y z r : BitVec 32} {a b c s : Int} (w : World) (t : TypeId) (ha : a = u x) (hb : b = u y) (hc : c = u z) (hs : s = u r) (hr : mostTo 3 (fst3 x y z) 32 = r) :
    Calls Tryd.prog 117 #[.slice (some ⟨w.heap.size, 0, none⟩) 3 3] (w.alloc (.cells #[.int .u32 a, .int .u32 b, .int .u32 c] t)) fun e w' => e = .returned (.int .u32 s) ∧ w.alloc (.cells #[.int .u32 a, .int .u32 b, .int .u32 c] t) = w' := by
  subst ha hb hc hs hr
  exact most_any _ _ 3 3 (fst3 x y z) _ (by omega) (reads_lit w _ t 3 _ (fun i hi => fst3_at x y z (fun q => Value.int .u32 (u q)) 3 (by omega) i hi))

theorem turn_at {x r : BitVec 32} {a s : Int} (n : Int) (w : World) (ha : a = u x) (hs : s = u r) (hr : turn x (n % 32).toNat = r) :
    Calls Tryd.prog 122 #[.int .u32 a, .int .i64 n] w fun e w' => e = .returned (.int .u32 s) ∧ w = w' := by
  subst ha hs hr
  exact turn_any x n w

/-- what a value that owns a row reads as -/
theorem owns_reads {w : World} {base : Nat} {e : TypeId} {v : Value} {n : Nat} {f : Nat → Value} (h : w.ownsRow base e 1 v n ((List.range n).map f)) :
    ∃ p c, v = .slice p n c ∧ Reads w.heap.size w p n f ∧ n ≤ c ∧ c ≤ maxLen := by
  rcases h.2 with ⟨rfl, rfl⟩ | ⟨g, cap, cur, rfl, h1, h2, h3, h4, h5, h6⟩
  · exact ⟨none, 0, rfl, .inl rfl, Nat.le_refl _, by unfold maxLen; omega⟩
  · refine ⟨_, cap, rfl, .inr ⟨g, 0, rfl, ?_, fun i hi => ?_⟩, h3, h4⟩
    · rcases Nat.lt_or_ge g w.heap.size with h | h
      · exact h
      · rw [Array.getElem?_eq_none h] at h2; cases h2
    · rw [Nat.zero_add, h.cellAt i (by omega)]
      simp [hi]

def fst4 {α : Type} (x y z t : α) : Nat → α
  | 0 => x
  | 1 => y
  | 2 => z
  | _ => t
theorem fst4_at {α β : Type} (x y z t : α) (v : α → β) (i : Nat) (hi : i < 4) : (#[v x, v y, v z, v t] : Array β)[i]? = some (v (fst4 x y z t i)) := by
  match i, hi with
  | 0, _ => rfl
  | 1, _ => rfl
  | 2, _ => rfl
  | 3, _ => rfl
/-- the bytes of one word that stands in a new block -/
theorem bytes_at {x : BitVec 32} {s : Int} (W : World) (H : Nat) (t : TypeId) (hH : H = W.heap.size) (hs : s = u x) :
    Calls Tryd.prog 73 #[.slice (some ⟨H, 0, none⟩) 1 1] (W.alloc (.cells #[.int .u32 s] t)) fun e w' => ∃ p c, e = .returned (.slice p 4 c) ∧ Below (W.heap.size + 1) (W.alloc (.cells #[.int .u32 s] t)) w' ∧ Reads w'.heap.size w' p 4 (fun i => .int .u8 (ub (wb (fun _ => x) i))) := by
  subst hH hs
  refine (bytes_any _ 1 1 (fun _ => x) _ (by omega) ((reads_lit W _ t 1 _ (fun i hi => fst1_at x x x (fun q => Value.int .u32 (u q)) 1 (by omega) i hi)).mono' (by simp) (fun i hi => by rw [show i = 0 by omega]; rfl))).mono ?_
  rintro e w' ⟨v, rfl, hb, hown⟩
  obtain ⟨p, c, rfl, hr, _⟩ := owns_reads hown
  exact ⟨p, c, rfl, by simpa using hb, hr⟩

theorem owns_reads' {w : World} {base : Nat} {e : TypeId} {p : Option Addr} {n c : Nat} {f : Nat → Value} (h : w.ownsRow base e 1 (.slice p n c) n ((List.range n).map f)) : Reads w.heap.size w p n f := by
  obtain ⟨p', c', he, hr, _⟩ := owns_reads h
  cases he
  exact hr
end Go.Proofs.YthhjieagdkimfaaDoor
