/-
  Merged: Bytes, Awake.
-/
import Derived.Test.YtoocfkaclhgjeaaDoorG1

namespace Go.Proofs.YtoocfkaclhgjeaaDoor
open Go.RowKit
set_option linter.unusedSimpArgs false
set_option linter.unusedVariables false

/-- byte i of the bytes of words -/
def wb (f : Nat → BitVec 32) (i : Nat) : BitVec 8 := (f (i / 4) >>> (24 - 8 * (i % 4))).setWidth 8

set_option maxHeartbeats 400000 in
theorem write_any (base ob oo : Nat) (p : Option Addr) (n cap : Nat) (f : Nat → BitVec 32) (w : World) (hn : n ≤ 536870000) (hb : base ≤ ob) (hob : ob < w.heap.size)
    (hr : Reads base w p n (fun i => .int .u32 (u (f i)))) (ho : Oct w base ob oo (wb f) 0) :
    Calls Tryd.prog 72 #[.pointer (some ⟨ob, oo, none⟩), .slice p n cap] w fun e w' => e = .returned (.tuple #[]) ∧ Below base w w' ∧ Oct w' base ob oo (wb f) (4 * n) := by
  go_enter Tryd.func72, Tryd.ntmps72
  go_wp2
  go_loopw [8] (fun i wr => ∃ k : Nat, k ≤ n ∧ i = .int .i64 k ∧ Oct wr base ob oo (wb f) (4 * k) ∧ Below base w wr) (fun i _ => n - (intOf i).toNat)
  case atStart => exact ⟨0, Nat.zero_le _, rfl, ho, Below.refl _ _⟩
  case round =>
    obtain ⟨k, hk, rfl, hoct, hbel⟩ := hrel
    by_cases hlt : k < n
    · rcases hr.below hbel with h0 | ⟨b, off, rfl, hb', hc⟩
      · omega
      · have hcell := hc k hlt
        have hsz := hbel.size
        clear hc hr
        have hput := put_any base ob oo (4 * k) (f k) (wb f) wr (by omega) hb (by omega) hoct (fun i hi => by
          unfold wb; rw [show (4 * k + i) / 4 = k by omega, show (4 * k + i) % 4 = i by omega])
        have HP := Lib.hid hput
        clear hput
        go_wp2_with (go_at_call 78; refine (HP.out).mono ?_; rintro e w1 ⟨rfl, hb1, ho1⟩)
        go_roundw
        case rel => exact ⟨k + 1, by omega, by go_num, by simpa [Nat.mul_add] using ho1, hbel.trans hb1⟩
        case measure => simp [intOf]; omega
    · obtain rfl : k = n := by omega
      go_wp2
      go_end0
      exact ⟨rfl, hbel, hoct⟩

set_option maxHeartbeats 400000 in
theorem bytes_any (p : Option Addr) (n cap : Nat) (f : Nat → BitVec 32) (w : World) (hn : n ≤ 536870000)
    (hr : Reads w.heap.size w p n (fun i => .int .u32 (u (f i)))) :
    Calls Tryd.prog 65 #[.slice p n cap] w fun e w' => ∃ v, e = .returned v ∧ Below w.heap.size w w' ∧ w'.ownsRow w.heap.size 5 1 v (4 * n) (cellsOf (wb f) (4 * n)) := by
  obtain ⟨i0, hi, hz0, hz1, hz2⟩ := info_parts Tryd.infoB
  have hmk := run_make (P := Tryd.prog) w 23 5 i0 (.int .u8 0) Tryd.underlying23 hi hz0 .i64 .i64 0 (4 * n) (by omega) (by omega) (by rw [hz2]; omega) (by omega)
  have hsC : (madeCells (Value.int .u8 0).cells ((4 * (n : Int)).toNat * i0.size)).size = 4 * n := by rw [size_madeCells, hz1]; omega
  rw [show (4 * (n : Int)).toNat = 4 * n by omega, Int.toNat_zero] at hmk
  rw [show (4 * (n : Int)).toNat = 4 * n by omega] at hsC
  generalize madeCells (Value.int .u8 0).cells (4 * n * i0.size) = C at hmk hsC
  have hown := World.ownsRow_made (e := 5) (size := 1) w C (4 * n) (Nat.le_refl _) (by unfold maxLen; omega) (by omega)
  have hb0 : Below w.heap.size w (w.alloc (.cells C 5)) := (Below.refl _ _).alloc (Nat.le_refl _) _
  have HC := Lib.hid hsC
  clear hsC
  go_enter Tryd.func65, Tryd.ntmps65
  go_wp2_with fail
  refine (write_any w.heap.size (w.heap.size + 1) 0 p n cap f _ hn (by omega) (by simp) (hr.below (hb0.alloc (by simp) _)) ⟨_, World.cell?_alloc_at _ _ _ _ (by simp), World.frozen?_alloc_at _ _ _ _ (by simp), by simp [Value.ownBlock], hown.alloc _⟩).mono ?_
  rintro e w1 ⟨rfl, hb1, v, hv, hf, hne, hown1⟩
  go_wp2
  go_ret
  exact ⟨v, rfl, (hb0.alloc (by simp) _).trans hb1, hown1⟩

set_option maxHeartbeats 400000 in
theorem same_bytes (B : Nat) (p q : Option Addr) (n m c d : Nat) (f g : Nat → BitVec 8) (w : World) (hn : n ≤ 9223372036854775807) (hm : m ≤ 9223372036854775807)
    (hp : Reads B w p n (fun i => .int .u8 (ub (f i)))) (hq : Reads B w q m (fun i => .int .u8 (ub (g i)))) (he : n = m) (hs : ∀ i, i < n → f i = g i) :
    Calls Tryd.prog 23 #[.slice p n c, .slice q m d] w fun e w' => e = .returned (.bool true) ∧ Below w.heap.size w w' := by
  subst he
  go_enter Tryd.func23, Tryd.ntmps23
  go_wp2
  go_loopw [5] (fun i wr => ∃ k : Nat, k ≤ n ∧ i = .int .i64 k ∧ Below w.heap.size w wr ∧ Below B w wr) (fun i _ => n - (intOf i).toNat)
  case atStart => exact ⟨0, Nat.zero_le _, rfl, Below.refl _ _, Below.refl _ _⟩
  case round =>
    obtain ⟨k, hk, rfl, hb, hb2⟩ := hrel
    by_cases hlt : k < n
    · rcases hp.below hb2 with h0 | ⟨b, off, rfl, hb', hc⟩
      · omega
      rcases hq.below hb2 with h0 | ⟨b2, off2, rfl, hb2', hc2⟩
      · omega
      have hcell := hc k hlt
      have hcell2 : wr.cell? ⟨b2, off2 + k, none⟩ = some (.int .u8 (ub (f k))) := by rw [hs k hlt]; exact hc2 k hlt
      clear hc hc2 hs hp hq
      go_wp2
      go_region
      go_wp2
      go_roundw
      case rel => exact ⟨k + 1, by omega, by go_num, hb.drew, hb2.drew⟩
      case measure => simp [intOf]; omega
    · obtain rfl : k = n := by omega
      clear hs
      go_wp2
      go_ret
      exact ⟨rfl, hb⟩
end Go.Proofs.YtoocfkaclhgjeaaDoor

namespace Go.Proofs.YtoocfkaclhgjeaaDoor
open Go.RowKit
set_option linter.unusedSimpArgs false
set_option linter.unusedVariables false

theorem reads_lit (w : World) (cs : Array Value) (t : TypeId) (n : Nat) (f : Nat → Value) (h : ∀ i, i < n → cs[i]? = some (f i)) :
    Reads (w.heap.size + 1) (w.alloc (.cells cs t)) (some ⟨w.heap.size, 0, none⟩) n f :=
  .inr ⟨w.heap.size, 0, rfl, by omega, fun i hi => by rw [Nat.zero_add, World.cell?_alloc_at _ _ _ _ rfl]; exact h i hi⟩
/-- the first three of a row -/
def fst3 {α : Type} (x y z : α) : Nat → α
  | 0 => x
  | 1 => y
  | _ => z
theorem fst3_at {α β : Type} (x y z : α) (v : α → β) (n : Nat) (hn : n ≤ 3) (i : Nat) (hi : i < n) : (#[v x, v y, v z] : Array β)[i]? = some (v (fst3 x y z i)) := by
  match i, (show i < 3 by omega) with
  | 0, _ => rfl
  | 1, _ => rfl
  | 2, _ => rfl
theorem fst2_at {α β : Type} (x y z : α) (v : α → β) (n : Nat) (hn : n ≤ 2) (i : Nat) (hi : i < n) : (#[v x, v y] : Array β)[i]? = some (v (fst3 x y z i)) := by
  match i, (show i < 2 by omega) with
  | 0, _ => rfl
  | 1, _ => rfl
theorem fst1_at {α β : Type} (x y z : α) (v : α → β) (n : Nat) (hn : n ≤ 1) (i : Nat) (hi : i < n) : (#[v x] : Array β)[i]? = some (v (fst3 x y z i)) := by
  match i, (show i < 1 by omega) with
  | 0, _ => rfl

theorem most_3 {x y z r : BitVec 32} {a b c s : Int} (w : World) (t : TypeId) (ha : a = u x) (hb : b = u y) (hc : c = u z) (hs : s = u r) (hr : mostTo 3 (fst3 x y z) 32 = r) :
    Calls Tryd.prog 77 #[.slice (some ⟨w.heap.size, 0, none⟩) 3 3] (w.alloc (.cells #[.int .u32 a, .int .u32 b, .int .u32 c] t)) fun e w' => e = .returned (.int .u32 s) ∧ w.alloc (.cells #[.int .u32 a, .int .u32 b, .int .u32 c] t) = w' := by
  subst ha hb hc hs hr
  exact most_any _ _ 3 3 (fst3 x y z) _ (by omega) (reads_lit w _ t 3 _ (fun i hi => fst3_at x y z (fun q => Value.int .u32 (u q)) 3 (by omega) i hi))

theorem turn_at {x r : BitVec 32} {a s : Int} (n : Int) (w : World) (ha : a = u x) (hs : s = u r) (hr : turn x (n % 32).toNat = r) :
    Calls Tryd.prog 82 #[.int .u32 a, .int .i64 n] w fun e w' => e = .returned (.int .u32 s) ∧ w = w' := by
  subst ha hs hr
  exact turn_any x n w

/-- what a value that owns a row reads as -/
theorem owns_reads {w : World} {base : Nat} {e : TypeId} {v : Value} {n : Nat} {f : Nat → Value} (h : w.ownsRow base e 1 v n ((List.range n).map f)) :
    ∃ p c, v = .slice p n c ∧ Reads w.heap.size w p n f ∧ n ≤ c ∧ c ≤ maxLen := by
  rcases h.2 with ⟨rfl, rfl⟩ | ⟨g, cap, cur, rfl, h1, h2, h3, h4, h5, h6⟩
  · exact ⟨none, 0, rfl, .inl rfl, Nat.le_refl _, by unfold maxLen; omega⟩
  · refine ⟨_, cap, rfl, .inr ⟨g, 0, rfl, ?_, fun i hi => ?_⟩, h3, h4⟩
    · rcases Nat.lt_or_ge g w.heap.size with h | h
      · exact h
      · rw [Array.getElem?_eq_none h] at h2; cases h2
    · rw [Nat.zero_add, h.cellAt i (by omega)]
      simp [hi]

def fst4 {α : Type} (x y z t : α) : Nat → α
  | 0 => x
  | 1 => y
  | 2 => z
  | _ => t
theorem fst4_at {α β : Type} (x y z t : α) (v : α → β) (i : Nat) (hi : i < 4) : (#[v x, v y, v z, v t] : Array β)[i]? = some (v (fst4 x y z t i)) := by
  match i, hi with
  | 0, _ => rfl
  | 1, _ => rfl
  | 2, _ => rfl
  | 3, _ => rfl
/-- the bytes of one word that stands in a new block -/
theorem bytes_at {x : BitVec 32} {s : Int} (W : World) (H : Nat) (t : TypeId) (hH : H = W.heap.size) (hs : s = u x) :
    Calls Tryd.prog 65 #[.slice (some ⟨H, 0, none⟩) 1 1] (W.alloc (.cells #[.int .u32 s] t)) fun e w' => ∃ p c, e = .returned (.slice p 4 c) ∧ Below (W.heap.size + 1) (W.alloc (.cells #[.int .u32 s] t)) w' ∧ Reads w'.heap.size w' p 4 (fun i => .int .u8 (ub (wb (fun _ => x) i))) := by
  subst hH hs
  refine (bytes_any _ 1 1 (fun _ => x) _ (by omega) ((reads_lit W _ t 1 _ (fun i hi => fst1_at x x x (fun q => Value.int .u32 (u q)) 1 (by omega) i hi)).mono' (by simp) (fun i hi => by rw [show i = 0 by omega]; rfl))).mono ?_
  rintro e w' ⟨v, rfl, hb, hown⟩
  obtain ⟨p, c, rfl, hr, _⟩ := owns_reads hown
  exact ⟨p, c, rfl, by simpa using hb, hr⟩

theorem owns_reads' {w : World} {base : Nat} {e : TypeId} {p : Option Addr} {n c : Nat} {f : Nat → Value} (h : w.ownsRow base e 1 (.slice p n c) n ((List.range n).map f)) : Reads w.heap.size w p n f := by
  obtain ⟨p', c', he, hr, _⟩ := owns_reads h
  cases he
  exact hr
end Go.Proofs.YtoocfkaclhgjeaaDoor
