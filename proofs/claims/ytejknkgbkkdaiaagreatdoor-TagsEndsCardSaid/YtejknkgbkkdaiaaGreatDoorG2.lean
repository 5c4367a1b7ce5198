/-
  Merged: Bytes, Awake, Math, Ref.
-/
import Derived.Test.YtejknkgbkkdaiaaGreatDoorG1

namespace Go.Proofs.YtejknkgbkkdaiaaGreatDoor
open Go.RowKit
set_option linter.unusedSimpArgs false
set_option linter.unusedVariables false

/-- byte i of the bytes of words -/
def wb (f : Nat → BitVec 32) (i : Nat) : BitVec 8 := (f (i / 4) >>> (24 - 8 * (i % 4))).setWidth 8

set_option maxHeartbeats 400000 in
theorem write_any (base ob oo : Nat) (p : Option Addr) (n cap : Nat) (f : Nat → BitVec 32) (w : World) (hn : n ≤ 536870000) (hb : base ≤ ob) (hob : ob < w.heap.size)
    (hr : Reads base w p n (fun i => .int .u32 (u (f i)))) (ho : Oct w base ob oo (wb f) 0) :
    Calls Tryz.prog 102 #[.pointer (some ⟨ob, oo, none⟩), .slice p n cap] w fun e w' => e = .returned (.tuple #[]) ∧ Below base w w' ∧ Oct w' base ob oo (wb f) (4 * n) := by
  go_enter Tryz.func102, Tryz.ntmps102
  go_wp2
  go_loopw [8] (fun i wr => ∃ k : Nat, k ≤ n ∧ i = .int .i64 k ∧ Oct wr base ob oo (wb f) (4 * k) ∧ Below base w wr) (fun i _ => n - (intOf i).toNat)
  case atStart => exact ⟨0, Nat.zero_le _, rfl, ho, Below.refl _ _⟩
  case round =>
    obtain ⟨k, hk, rfl, hoct, hbel⟩ := hrel
    by_cases hlt : k < n
    · rcases hr.below hbel with h0 | ⟨b, off, rfl, hb', hc⟩
      · omega
      · have hcell := hc k hlt
        have hsz := hbel.size
        clear hc hr
        have hput := put_any base ob oo (4 * k) (f k) (wb f) wr (by omega) hb (by omega) hoct (fun i hi => by
          unfold wb; rw [show (4 * k + i) / 4 = k by omega, show (4 * k + i) % 4 = i by omega])
        have HP := Lib.hid hput
        clear hput
        go_wp2_with (go_at_call 108; refine (HP.out).mono ?_; rintro e w1 ⟨rfl, hb1, ho1⟩)
        go_roundw
        case rel => exact ⟨k + 1, by omega, by go_num, by simpa [Nat.mul_add] using ho1, hbel.trans hb1⟩
        case measure => simp [intOf]; omega
    · obtain rfl : k = n := by omega
      go_wp2
      go_end0
      exact ⟨rfl, hbel, hoct⟩

set_option maxHeartbeats 400000 in
theorem bytes_any (p : Option Addr) (n cap : Nat) (f : Nat → BitVec 32) (w : World) (hn : n ≤ 536870000)
    (hr : Reads w.heap.size w p n (fun i => .int .u32 (u (f i)))) :
    Calls Tryz.prog 94 #[.slice p n cap] w fun e w' => ∃ v, e = .returned v ∧ Below w.heap.size w w' ∧ w'.ownsRow w.heap.size 5 1 v (4 * n) (cellsOf (wb f) (4 * n)) := by
  obtain ⟨i0, hi, hz0, hz1, hz2⟩ := info_parts Tryz.infoB
  have hmk := run_make (P := Tryz.prog) w 22 5 i0 (.int .u8 0) Tryz.underlying22 hi hz0 .i64 .i64 0 (4 * n) (by omega) (by omega) (by rw [hz2]; omega) (by omega)
  have hsC : (madeCells (Value.int .u8 0).cells ((4 * (n : Int)).toNat * i0.size)).size = 4 * n := by rw [size_madeCells, hz1]; omega
  rw [show (4 * (n : Int)).toNat = 4 * n by omega, Int.toNat_zero] at hmk
  rw [show (4 * (n : Int)).toNat = 4 * n by omega] at hsC
  generalize madeCells (Value.int .u8 0).cells (4 * n * i0.size) = C at hmk hsC
  have hown := World.ownsRow_made (e := 5) (size := 1) w C (4 * n) (Nat.le_refl _) (by unfold maxLen; omega) (by omega)
  have hb0 : Below w.heap.size w (w.alloc (.cells C 5)) := (Below.refl _ _).alloc (Nat.le_refl _) _
  have HC := Lib.hid hsC
  clear hsC
  go_enter Tryz.func94, Tryz.ntmps94
  go_wp2_with fail
  refine (write_any w.heap.size (w.heap.size + 1) 0 p n cap f _ hn (by omega) (by simp) (hr.below (hb0.alloc (by simp) _)) ⟨_, World.cell?_alloc_at _ _ _ _ (by simp), World.frozen?_alloc_at _ _ _ _ (by simp), by simp [Value.ownBlock], hown.alloc _⟩).mono ?_
  rintro e w1 ⟨rfl, hb1, v, hv, hf, hne, hown1⟩
  go_wp2
  go_ret
  exact ⟨v, rfl, (hb0.alloc (by simp) _).trans hb1, hown1⟩

end Go.Proofs.YtejknkgbkkdaiaaGreatDoor

namespace Go.Proofs.YtejknkgbkkdaiaaGreatDoor
open Go.RowKit
set_option linter.unusedSimpArgs false
set_option linter.unusedVariables false

theorem reads_lit (w : World) (cs : Array Value) (t : TypeId) (n : Nat) (f : Nat → Value) (h : ∀ i, i < n → cs[i]? = some (f i)) :
    Reads (w.heap.size + 1) (w.alloc (.cells cs t)) (some ⟨w.heap.size, 0, none⟩) n f :=
  .inr ⟨w.heap.size, 0, rfl, by omega, fun i hi => by rw [Nat.zero_add, World.cell?_alloc_at _ _ _ _ rfl]; exact h i hi⟩
/-- the first three of a row -/
def fst3 {α : Type} (x y z : α) : Nat → α
  | 0 => x
  | 1 => y
  | _ => z
theorem fst3_at {α β : Type} (x y z : α) (v : α → β) (n : Nat) (hn : n ≤ 3) (i : Nat) (hi : i < n) : (#[v x, v y, v z] : Array β)[i]? = some (v (fst3 x y z i)) := by
  match i, (show i < 3 by omega) with
  | 0, _ => rfl
  | 1, _ => rfl
  | 2, _ => rfl
theorem fst2_at {α β : Type} (x y z : α) (v : α → β) (n : Nat) (hn : n ≤ 2) (i : Nat) (hi : i < n) : (#[v x, v y] : Array β)[i]? = some (v (fst3 x y z i)) := by
  match i, (show i < 2 by omega) with
  | 0, _ => rfl
  | 1, _ => rfl
theorem fst1_at {α β : Type} (x y z : α) (v : α → β) (n : Nat) (hn : n ≤ 1) (i : Nat) (hi : i < n) : (#[v x] : Array β)[i]? = some (v (fst3 x y z i)) := by
  match i, (show i < 1 by omega) with
  | 0, _ => rfl

theorem most_3 {x y z r : BitVec 32} {a b c s : Int} (w : World) (t : TypeId) (ha : a = u x) (hb : b = u y) (hc : c = u z) (hs : s = u r) (hr : mostTo 3 (fst3 x y z) 32 = r) :
    Calls Tryz.prog 107 #[.slice (some ⟨w.heap.size, 0, none⟩) 3 3] (w.alloc (.cells #[.int .u32 a, .int .u32 b, .int .u32 c] t)) fun e w' => e = .returned (.int .u32 s) ∧ w.alloc (.cells #[.int .u32 a, .int .u32 b, .int .u32 c] t) = w' := by
  subst ha hb hc hs hr
  exact most_any _ _ 3 3 (fst3 x y z) _ (by omega) (reads_lit w _ t 3 _ (fun i hi => fst3_at x y z (fun q => Value.int .u32 (u q)) 3 (by omega) i hi))

theorem turn_at {x r : BitVec 32} {a s : Int} (n : Int) (w : World) (ha : a = u x) (hs : s = u r) (hr : turn x (n % 32).toNat = r) :
    Calls Tryz.prog 112 #[.int .u32 a, .int .i64 n] w fun e w' => e = .returned (.int .u32 s) ∧ w = w' := by
  subst ha hs hr
  exact turn_any x n w

/-- what a value that owns a row reads as -/
theorem owns_reads {w : World} {base : Nat} {e : TypeId} {v : Value} {n : Nat} {f : Nat → Value} (h : w.ownsRow base e 1 v n ((List.range n).map f)) :
    ∃ p c, v = .slice p n c ∧ Reads w.heap.size w p n f ∧ n ≤ c ∧ c ≤ maxLen := by
  rcases h.2 with ⟨rfl, rfl⟩ | ⟨g, cap, cur, rfl, h1, h2, h3, h4, h5, h6⟩
  · exact ⟨none, 0, rfl, .inl rfl, Nat.le_refl _, by unfold maxLen; omega⟩
  · refine ⟨_, cap, rfl, .inr ⟨g, 0, rfl, ?_, fun i hi => ?_⟩, h3, h4⟩
    · rcases Nat.lt_or_ge g w.heap.size with h | h
      · exact h
      · rw [Array.getElem?_eq_none h] at h2; cases h2
    · rw [Nat.zero_add, h.cellAt i (by omega)]
      simp [hi]

def fst4 {α : Type} (x y z t : α) : Nat → α
  | 0 => x
  | 1 => y
  | 2 => z
  | _ => t
theorem fst4_at {α β : Type} (x y z t : α) (v : α → β) (i : Nat) (hi : i < 4) : (#[v x, v y, v z, v t] : Array β)[i]? = some (v (fst4 x y z t i)) := by
  match i, hi with
  | 0, _ => rfl
  | 1, _ => rfl
  | 2, _ => rfl
  | 3, _ => rfl
/-- the bytes of one word that stands in a new block -/
theorem bytes_at {x : BitVec 32} {s : Int} (W : World) (H : Nat) (t : TypeId) (hH : H = W.heap.size) (hs : s = u x) :
    Calls Tryz.prog 94 #[.slice (some ⟨H, 0, none⟩) 1 1] (W.alloc (.cells #[.int .u32 s] t)) fun e w' => ∃ p c, e = .returned (.slice p 4 c) ∧ Below (W.heap.size + 1) (W.alloc (.cells #[.int .u32 s] t)) w' ∧ Reads w'.heap.size w' p 4 (fun i => .int .u8 (ub (wb (fun _ => x) i))) := by
  subst hH hs
  refine (bytes_any _ 1 1 (fun _ => x) _ (by omega) ((reads_lit W _ t 1 _ (fun i hi => fst1_at x x x (fun q => Value.int .u32 (u q)) 1 (by omega) i hi)).mono' (by simp) (fun i hi => by rw [show i = 0 by omega]; rfl))).mono ?_
  rintro e w' ⟨v, rfl, hb, hown⟩
  obtain ⟨p, c, rfl, hr, _⟩ := owns_reads hown
  exact ⟨p, c, rfl, by simpa using hb, hr⟩

theorem owns_reads' {w : World} {base : Nat} {e : TypeId} {p : Option Addr} {n c : Nat} {f : Nat → Value} (h : w.ownsRow base e 1 (.slice p n c) n ((List.range n).map f)) : Reads w.heap.size w p n f := by
  obtain ⟨p', c', he, hr, _⟩ := owns_reads h
  cases he
  exact hr
end Go.Proofs.YtejknkgbkkdaiaaGreatDoor

namespace Go.Proofs.YtejknkgbkkdaiaaGreatDoor
set_option linter.unusedSimpArgs false
set_option linter.unusedVariables false

theorem bit_nat (x : BitVec 32) (c : Nat) : (x >>> c &&& 1#32).toNat = (x.getLsbD c).toNat := by
  have h : x >>> c &&& 1#32 = BitVec.setWidth 32 (BitVec.ofBool (x.getLsbD c)) := by
    apply BitVec.eq_of_getLsbD_eq
    intro i hi
    by_cases h0 : i = 0
    · subst h0; simp
    · simp [h0, BitVec.getLsbD_one]
  rw [h]
  cases x.getLsbD c <;> rfl
theorem most_bit (n : Nat) (f : Nat → BitVec 32) (k j : Nat) (hk : k ≤ 32) (hj : j < 32) :
    (mostTo n f k).getLsbD j = (decide (j < k) && decide (n < 2 * onesTo j f n)) := by
  induction k with
  | zero => simp [mostTo]
  | succ k ih =>
    have ih := ih (by omega)
    have h1 : (1#32 <<< k).getLsbD j = decide (j = k) := by
      rw [BitVec.getLsbD_shiftLeft, BitVec.getLsbD_one]
      by_cases e : j = k
      · subst e; simp [hj]
      · by_cases e2 : j < k
        · simp [e, e2]
        · simp [e, e2]; omega
    simp only [mostTo]
    by_cases e : j = k
    · subst e
      by_cases h : n < 2 * onesTo j f n
      · rw [if_pos h, BitVec.getLsbD_or, h1]; simp [h]
      · rw [if_neg h, ih]; simp [h]
    · have e3 : decide (j < k + 1) = decide (j < k) := by simp; omega
      by_cases h : n < 2 * onesTo k f n
      · rw [if_pos h, BitVec.getLsbD_or, h1, ih, e3]; simp [e]
      · rw [if_neg h, ih, e3]
theorem most_eq (n : Nat) (f : Nat → BitVec 32) (r : BitVec 32) (h : ∀ j, j < 32 → decide (n < 2 * onesTo j f n) = r.getLsbD j) : mostTo n f 32 = r := by
  apply BitVec.eq_of_getLsbD_eq
  intro j hj
  rw [most_bit n f 32 j (by omega) hj, h j hj]
  simp [hj]
theorem ones3 (j : Nat) (x y z : BitVec 32) : onesTo j (fst3 x y z) 3 = (x.getLsbD j).toNat + (y.getLsbD j).toNat + (z.getLsbD j).toNat := by
  simp only [onesTo, bit_nat, fst3]; omega
theorem ones2 (j : Nat) (x y z : BitVec 32) : onesTo j (fst3 x y z) 2 = (x.getLsbD j).toNat + (y.getLsbD j).toNat := by
  simp only [onesTo, bit_nat, fst3]; omega
theorem ones1 (j : Nat) (x y z : BitVec 32) : onesTo j (fst3 x y z) 1 = (x.getLsbD j).toNat := by
  simp only [onesTo, bit_nat, fst3]; omega
/-- most of three, by its places -/
def most3 (x y z : BitVec 32) : BitVec 32 := mostTo 3 (fst3 x y z) 32
theorem most3_bit (x y z : BitVec 32) (j : Nat) (hj : j < 32) : (most3 x y z).getLsbD j = decide (3 < 2 * ((x.getLsbD j).toNat + (y.getLsbD j).toNat + (z.getLsbD j).toNat)) := by
  unfold most3; rw [most_bit _ _ _ _ (by omega) hj, ones3]; simp [hj]
theorem most3_bxa (x a b : BitVec 32) : mostTo 3 (fst3 b x a) 32 = most3 x a b :=
  most_eq _ _ _ fun j hj => by rw [ones3, most3_bit _ _ _ _ hj]; congr 1; rw [Nat.add_comm (b.getLsbD j).toNat, Nat.add_right_comm]
theorem most3_axb (x a b : BitVec 32) : mostTo 3 (fst3 a x b) 32 = most3 x a b :=
  most_eq _ _ _ fun j hj => by rw [ones3, most3_bit _ _ _ _ hj]; congr 1; rw [Nat.add_comm (a.getLsbD j).toNat]
theorem most3_xxa (x a : BitVec 32) : mostTo 3 (fst3 x x a) 32 = x :=
  most_eq _ _ _ fun j hj => by rw [ones3]; cases x.getLsbD j <;> cases a.getLsbD j <;> rfl
theorem most2 (x a z : BitVec 32) : mostTo 2 (fst3 x a z) 32 = x &&& a :=
  most_eq _ _ _ fun j hj => by rw [ones2, BitVec.getLsbD_and]; cases x.getLsbD j <;> cases a.getLsbD j <;> rfl
theorem most1 (x y z : BitVec 32) : mostTo 1 (fst3 x y z) 32 = x :=
  most_eq _ _ _ fun j hj => by rw [ones1]; cases x.getLsbD j <;> rfl
theorem most0 (f : Nat → BitVec 32) : mostTo 0 f 32 = 0#32 :=
  most_eq _ _ _ fun j hj => by simp [onesTo]
theorem choose_same (x a : BitVec 32) : x &&& a ||| ~~~x &&& a = a := by
  apply BitVec.eq_of_getLsbD_eq; intro j hj; simp only [BitVec.getLsbD_or, BitVec.getLsbD_and, BitVec.getLsbD_not]; cases x.getLsbD j <;> cases a.getLsbD j <;> simp [hj]
theorem choose_ones (a b : BitVec 32) : BitVec.allOnes 32 &&& a ||| ~~~(BitVec.allOnes 32) &&& b = a := by
  apply BitVec.eq_of_getLsbD_eq; intro j hj; simp only [BitVec.getLsbD_or, BitVec.getLsbD_and, BitVec.getLsbD_not, BitVec.getLsbD_allOnes]; simp [hj]
theorem choose_none (a b : BitVec 32) : 0#32 &&& a ||| ~~~0#32 &&& b = b := by
  apply BitVec.eq_of_getLsbD_eq; intro j hj; simp only [BitVec.getLsbD_or, BitVec.getLsbD_and, BitVec.getLsbD_not, BitVec.getLsbD_zero]; simp [hj]
theorem choose_turned (x a b : BitVec 32) : (x &&& a ||| ~~~x &&& b) ^^^ (~~~x &&& a ||| ~~~(~~~x) &&& b) = a ^^^ b := by
  apply BitVec.eq_of_getLsbD_eq; intro j hj; simp only [BitVec.getLsbD_or, BitVec.getLsbD_and, BitVec.getLsbD_not, BitVec.getLsbD_xor]; simp only [hj, decide_true, Bool.true_and]; cases x.getLsbD j <;> cases a.getLsbD j <;> cases b.getLsbD j <;> rfl
theorem sum3 (x y z : BitVec 32) : sumTo (fst3 x y z) 3 = x + y + z := by
  simp [sumTo, fst3]
theorem sum2 (x y z : BitVec 32) : sumTo (fst3 x y z) 2 = x + y := by
  simp [sumTo, fst3]
theorem sum_rev (x y z : BitVec 32) : z + y + x = x + y + z := by
  rw [BitVec.add_comm z y, BitVec.add_comm (y + z) x, BitVec.add_assoc]
theorem sum_not (x : BitVec 32) : x + ~~~x + 1#32 = 0#32 := by
  have h : x + ~~~x = BitVec.allOnes 32 := BitVec.add_not_self x
  rw [h]; decide
theorem mix2 (x : BitVec 32) (g : Nat → Int) (h : g 0 = g 1) : mixTo x g 2 = 0#32 := by
  simp [mixTo, h]
theorem mix1 (x : BitVec 32) (g : Nat → Int) : mixTo x g 1 = turn x (g 0 % 32).toNat := by
  simp [mixTo]
end Go.Proofs.YtejknkgbkkdaiaaGreatDoor

namespace Go.Proofs.YtejknkgbkkdaiaaGreatDoor
open Go.RowKit
set_option linter.unusedSimpArgs false
set_option linter.unusedVariables false

theorem u_tmod2 (x : BitVec 32) : (u x).tmod 2 = u x % 2 := Int.tmod_eq_emod_of_nonneg (u_lo x)
theorem u_odd (x : BitVec 32) : (u x % 2 == 1) = x.getLsbD 0 := by
  unfold u
  have h : x.getLsbD 0 = decide (x.toNat % 2 = 1) := by
    rw [BitVec.getLsbD, Nat.testBit_zero]
  rw [h, Bool.eq_iff_iff]
  simp; omega
attribute [go_sem] u_tmod2 u_odd

theorem getLsb_min (x : BitVec 32) (k : Nat) : x.getLsbD (min k 32) = x.getLsbD k := by
  by_cases h : k ≤ 32
  · rw [Nat.min_eq_left h]
  · rw [Nat.min_eq_right (by omega), BitVec.getLsbD_of_ge x 32 (Nat.le_refl _), BitVec.getLsbD_of_ge x k (by omega)]
theorem ret_b {a b : Bool} (h : a = b) : Ending.returned (.bool a) = .returned (.bool b) := by rw [h]
theorem ret_i {k : IntKind} {a b : Int} (h : a = b) : Ending.returned (.int k a) = .returned (.int k b) := by rw [h]

set_option maxHeartbeats 400000 in
theorem bit_at (x : BitVec 32) (k : Int) (w : World) (h0 : 0 ≤ k) (h1 : k ≤ 9223372036854775807) :
    Calls Tryz.prog 87 #[.int .u32 (u x), .int .i64 k] w fun e w' => e = .returned (.bool (x.getLsbD k.toNat)) ∧ w = w' := by
  go_enter Tryz.func87, Tryz.ntmps87
  go_wp2
  go_ret
  exact ⟨ret_b (getLsb_min _ _), rfl⟩
theorem place_at (k : Int) (b : Bool) (w : World) (h0 : 0 ≤ k) (h1 : k < 32) :
    Calls Tryz.prog 89 #[.int .i64 k, .bool b] w fun e w' => e = .returned (.int .u32 (u (if b then 1#32 <<< k.toNat else 0#32))) ∧ w = w' := by
  cases b
  all_goals
    go_enter Tryz.func89, Tryz.ntmps89
    go_wp2
    go_ret
  · exact ⟨rfl, rfl⟩
  · exact ⟨rfl, rfl⟩
theorem low_at (n : Int) (w : World) (h0 : -9223372036854775808 ≤ n) (h1 : n ≤ 9223372036854775807) :
    Calls Tryz.prog 88 #[.int .i64 n] w fun e w' => e = .returned (.int .i64 (n % 32)) ∧ w = w' := by
  have h2 := Int.mul_tdiv_add_tmod n 32
  have h3 := Int.tmod_lt_of_pos n (b := 32) (by omega)
  have h4 := Int.lt_tmod_of_pos n (b := 32) (by omega)
  have H2 := Lib.hid h2
  clear h2
  by_cases h : n.tmod 32 < 0
  all_goals
    go_enter Tryz.func88, Tryz.ntmps88
    go_wp2
    go_ret
    exact ⟨ret_i (by have := H2.out; omega), rfl⟩

/-- the word that has a 1 just at those of the first places where g says so -/
def pl (g : Nat → Bool) : Nat → BitVec 32
  | 0 => 0#32
  | k + 1 => pl g k + if g k then 1#32 <<< k else 0#32
theorem pl_bit (g : Nat → Bool) (k j : Nat) (hk : k ≤ 32) (hj : j < 32) : (pl g k).getLsbD j = (decide (j < k) && g j) := by
  induction k generalizing j with
  | zero => simp [pl]
  | succ k ih =>
    have h1 : ∀ i, i < 32 → (if g k then 1#32 <<< k else 0#32 : BitVec 32).getLsbD i = (decide (i = k) && g k) := by
      intro i hi
      cases hg : g k
      · simp
      · rw [if_pos rfl, BitVec.getLsbD_shiftLeft, BitVec.getLsbD_one]
        by_cases e : i = k
        · subst e; simp [hi]
        · by_cases e2 : i < k
          · simp [e, e2]
          · simp [e, e2]; omega
    have hz : pl g k &&& (if g k then 1#32 <<< k else 0#32) = 0#32 := by
      apply BitVec.eq_of_getLsbD_eq
      intro i hi
      rw [BitVec.getLsbD_and, ih i (by omega) hi, h1 i hi, BitVec.getLsbD_zero]
      by_cases e : i = k
      · subst e; simp
      · simp [e]
    simp only [pl]
    rw [BitVec.add_eq_or_of_and_eq_zero _ _ hz, BitVec.getLsbD_or, ih j (by omega) hj, h1 j hj]
    by_cases e : j = k
    · subst e; simp
    · have e3 : decide (j < k + 1) = decide (j < k) := by simp; omega
      rw [e3]; simp [e]
theorem pl_eq (g : Nat → Bool) (x : BitVec 32) (h : ∀ j, j < 32 → g j = x.getLsbD j) : pl g 32 = x := by
  apply BitVec.eq_of_getLsbD_eq
  intro j hj
  rw [pl_bit g 32 j (by omega) hj, h j hj]; simp [hj]
theorem pl_step (g : Nat → Bool) (k : Nat) (b : Bool) (h : b = g k) : u (pl g k + if b then 1#32 <<< k else 0#32) = u (pl g (k + 1)) := by
  subst h; rfl
theorem pl_skip (g : Nat → Bool) (k : Nat) (h : false = g k) : u (pl g k) = u (pl g (k + 1)) := by
  simp only [pl]; rw [← h]; simp
theorem val_u {a b : Int} (h : a = b) : Value.int .u32 a = .int .u32 b := by rw [h]

/-- whether an odd number of the first of x, turned, have a 1 at place k -/
def par (x : BitVec 32) (h : Nat → Int) (k : Nat) : Nat → Bool
  | 0 => false
  | m + 1 => (par x h k m) ^^ x.getLsbD ((k + (h m % 32).toNat) % 32)
theorem par_step (x : BitVec 32) (h : Nat → Int) (k m : Nat) (b : Bool) (hb : x.getLsbD (((k : Int) + h m) % 32).toNat = b) : par x h k (m + 1) = ((par x h k m) ^^ b) := by
  simp only [par]
  rw [← hb]
  congr 2
  omega
theorem val_b {a b : Bool} (h : a = b) : Value.bool a = .bool b := by rw [h]

set_option maxHeartbeats 800000 in
theorem ref_mix (B : Nat) (x : BitVec 32) (p : Option Addr) (n cap : Nat) (h : Nat → Int) (w : World) (hn : n ≤ 9223372036854775807) (hh : ∀ i, i < n → -9223372036854775808 ≤ h i ∧ h i ≤ 9223372036854775807) (hr : Reads B w p n (fun i => .int .i64 (h i))) :
    Calls Tryz.prog 64 #[.int .u32 (u x), .slice p n cap] w fun e w' => e = .returned (.int .u32 (u (pl (fun k => par x h k n) 32))) ∧ w = w' := by
  obtain ⟨g, hg⟩ : ∃ g : Nat → Bool, g = (fun k => par x h k n) := ⟨_, rfl⟩
  rw [← hg]
  have HG := Lib.hid hg
  have HH := Lib.hid hh
  clear hg hh
  go_enter Tryz.func64, Tryz.ntmps64
  go_wp2
  go_loop [5, 6] (fun t i => ∃ k : Nat, k ≤ 32 ∧ i = .int .i64 k ∧ t = .int .u32 (u (pl g k))) (fun _ i => 32 - (intOf i).toNat)
  case atStart => exact ⟨0, Nat.zero_le _, rfl, rfl⟩
  case round =>
    obtain ⟨k, hk, rfl, rfl⟩ := hrel
    by_cases hlt : k < 32
    · go_wp2
      go_loop [7, 8] (fun o i => ∃ m : Nat, m ≤ n ∧ i = .int .i64 m ∧ o = .bool (par x h k m)) (fun _ i => n - (intOf i).toNat)
      case atStart => exact ⟨0, Nat.zero_le _, rfl, rfl⟩
      case round =>
        obtain ⟨m, hm, rfl, rfl⟩ := hrel
        by_cases hmn : m < n
        · rcases hr with hr | ⟨b, off, rfl, hb, hc⟩
          · omega
          have hcell := hc m hmn
          obtain ⟨b1, b2⟩ := HH.out m hmn
          clear hc
          go_wp2_with (first | (go_at_call 88; refine (low_at (h m) _ b1 b2).mono ?_; rintro e w' ⟨rfl, rfl⟩) | (go_at_call 87; refine (bit_at x _ _ (by omega) (by omega)).mono ?_; rintro e w' ⟨rfl, rfl⟩))
          all_goals exact ⟨⟨m + 1, by omega, by go_num, val_b (by first | (rw [par_step x h k m true (by assumption)]; simp) | (rw [par_step x h k m false (by assumption)]; simp))⟩, by simp [intOf]; omega⟩
        · obtain rfl : m = n := by omega
          go_wp2_with (go_at_call 89; refine (place_at k _ _ (by omega) (by omega)).mono ?_; rintro e w' ⟨rfl, rfl⟩)
          go_round
          case rel => exact ⟨k + 1, by omega, by go_num, val_u (pl_step g k _ (by rw [HG.out]))⟩
          case measure => simp [intOf]; omega
    · obtain rfl : k = 32 := by omega
      go_wp2
      go_ret
      exact ⟨rfl, rfl⟩

set_option maxHeartbeats 800000 in
theorem ref_shift (x : BitVec 32) (n : Int) (w : World) (h0 : -9223372036854775808 ≤ n) (h1 : n ≤ 9223372036854775807) :
    Calls Tryz.prog 98 #[.int .u32 (u x), .int .i64 n] w fun e w' => e = .returned (.int .u32 (u (if n < 0 then x else pl (fun k => decide (n < 32 - (k : Int)) && x.getLsbD (k + n.toNat)) 32))) ∧ w = w' := by
  by_cases hneg : n < 0
  · go_enter Tryz.func98, Tryz.ntmps98
    go_wp2
    go_ret
    exact ⟨rfl, rfl⟩
  · obtain ⟨g, hg⟩ : ∃ g : Nat → Bool, g = (fun k : Nat => decide (n < 32 - (k : Int)) && x.getLsbD (k + n.toNat)) := ⟨_, rfl⟩
    rw [← hg]
    have HG := Lib.hid hg
    clear hg
    have h2 : 0 ≤ n := by omega
    go_enter Tryz.func98, Tryz.ntmps98
    go_wp2
    go_loop [5, 6] (fun t i => ∃ k : Nat, k ≤ 32 ∧ i = .int .i64 k ∧ t = .int .u32 (u (pl g k))) (fun _ i => 32 - (intOf i).toNat)
    case atStart => exact ⟨0, Nat.zero_le _, rfl, rfl⟩
    case round =>
      obtain ⟨k, hk, rfl, rfl⟩ := hrel
      by_cases hlt : k < 32
      · by_cases hb : n < 32 - (k : Int)
        · have hd : decide (n < 32 - (k : Int)) = true := by simpa using hb
          go_wp2_with (first | (go_at_call 87; refine (bit_at x _ _ (by omega) (by omega)).mono ?_; rintro e w' ⟨rfl, rfl⟩) | (go_at_call 89; refine (place_at k _ _ (by omega) (by omega)).mono ?_; rintro e w' ⟨rfl, rfl⟩))
          go_round
          case rel => exact ⟨k + 1, by omega, by go_num, val_u (pl_step g k _ (by rw [HG.out]; show _ = (decide _ && _); rw [hd, Bool.true_and]; congr 1; omega))⟩
          case measure => simp [intOf]; omega
        · have hd : decide (n < 32 - (k : Int)) = false := by simpa using hb
          go_wp2_with (go_at_call 89; refine (place_at k _ _ (by omega) (by omega)).mono ?_; rintro e w' ⟨rfl, rfl⟩)
          go_round
          case rel => exact ⟨k + 1, by omega, by go_num, val_u (pl_skip g k (by rw [HG.out]; show _ = (decide _ && _); rw [hd, Bool.false_and]))⟩
          case measure => simp [intOf]; omega
      · obtain rfl : k = 32 := by omega
        go_wp2
        go_ret
        exact ⟨rfl, rfl⟩

set_option maxHeartbeats 1600000 in
theorem ref_choose (x a b : BitVec 32) (w : World) :
    Calls Tryz.prog 65 #[.int .u32 (u x), .int .u32 (u a), .int .u32 (u b)] w fun e w' => e = .returned (.int .u32 (u (pl (fun k => x.getLsbD k && a.getLsbD k || !x.getLsbD k && b.getLsbD k) 32))) ∧ w = w' := by
  obtain ⟨g, hg⟩ : ∃ g : Nat → Bool, g = (fun k => x.getLsbD k && a.getLsbD k || !x.getLsbD k && b.getLsbD k) := ⟨_, rfl⟩
  rw [← hg]
  have HG := Lib.hid hg
  clear hg
  go_enter Tryz.func65, Tryz.ntmps65
  go_wp2
  go_loop [7, 8] (fun t i => ∃ k : Nat, k ≤ 32 ∧ i = .int .i64 k ∧ t = .int .u32 (u (pl g k))) (fun _ i => 32 - (intOf i).toNat)
  case atStart => exact ⟨0, Nat.zero_le _, rfl, rfl⟩
  case round =>
    obtain ⟨k, hk, rfl, rfl⟩ := hrel
    by_cases hlt : k < 32
    · have hx : ∀ (y : BitVec 32) (c : Bool) (W : World), y.getLsbD k = c → Calls Tryz.prog 87 #[.int .u32 (u y), .int .i64 (k : Int)] W fun e w' => e = .returned (.bool c) ∧ W = w' := fun y c W hc => by
        rw [← hc]; exact bit_at y k W (by omega) (by omega)
      have HX := Lib.hid hx
      clear hx
      have hgk : ∀ c d e : Bool, x.getLsbD k = c → a.getLsbD k = d → b.getLsbD k = e → (c && d || !c && e) = g k := by
        rintro c d e rfl rfl rfl; rw [HG.out]
      have HGK := Lib.hid hgk
      clear hgk
      obtain ⟨c, hc⟩ : ∃ c, x.getLsbD k = c := ⟨_, rfl⟩
      obtain ⟨d, hd⟩ : ∃ d, a.getLsbD k = d := ⟨_, rfl⟩
      obtain ⟨e, he⟩ : ∃ e, b.getLsbD k = e := ⟨_, rfl⟩
      have hg2 := HGK.out c d e hc hd he
      have HC := Lib.hid hc
      have HD := Lib.hid hd
      have HE := Lib.hid he
      have HG2 := Lib.hid hg2
      clear hc hd he hg2
      cases c
      · go_wp2_with fail
        refine (HX.out x false _ HC.out).mono ?_
        rintro e w' ⟨rfl, rfl⟩
        go_wp2_with fail
        refine (HX.out x false _ HC.out).mono ?_
        rintro e w' ⟨rfl, rfl⟩
        go_wp2_with fail
        refine (HX.out b e _ HE.out).mono ?_
        rintro e w' ⟨rfl, rfl⟩
        go_wp2_with fail
        refine (place_at k e _ (by omega) (by omega)).mono ?_
        rintro e w' ⟨rfl, rfl⟩
        go_wp2
        go_round
        case rel => exact ⟨k + 1, by omega, by go_num, val_u (pl_step g k _ (by rw [← HG2.out]; simp))⟩
        case measure => simp [intOf]; omega
      · cases d
        · go_wp2_with fail
          refine (HX.out x true _ HC.out).mono ?_
          rintro e w' ⟨rfl, rfl⟩
          go_wp2_with fail
          refine (HX.out a false _ HD.out).mono ?_
          rintro e w' ⟨rfl, rfl⟩
          go_wp2_with fail
          refine (HX.out x true _ HC.out).mono ?_
          rintro e w' ⟨rfl, rfl⟩
          go_wp2_with fail
          refine (place_at k false _ (by omega) (by omega)).mono ?_
          rintro e w' ⟨rfl, rfl⟩
          go_wp2
          go_round
          case rel => exact ⟨k + 1, by omega, by go_num, val_u (pl_skip g k (by rw [← HG2.out]; simp))⟩
          case measure => simp [intOf]; omega
        · go_wp2_with fail
          refine (HX.out x true _ HC.out).mono ?_
          rintro e w' ⟨rfl, rfl⟩
          go_wp2_with fail
          refine (HX.out a true _ HD.out).mono ?_
          rintro e w' ⟨rfl, rfl⟩
          go_wp2_with fail
          refine (place_at k true _ (by omega) (by omega)).mono ?_
          rintro e w' ⟨rfl, rfl⟩
          go_wp2
          go_round
          case rel => exact ⟨k + 1, by omega, by go_num, val_u (pl_step g k true (by rw [← HG2.out]; simp))⟩
          case measure => simp [intOf]; omega
    · obtain rfl : k = 32 := by omega
      go_wp2
      go_ret
      exact ⟨rfl, rfl⟩

theorem u_addmod (a b : BitVec 32) : (u a + u b) % 4294967296 = u (a + b) := by
  unfold u; rw [BitVec.toNat_add]; omega
theorem u_keep (a : BitVec 32) : IntKind.u32.wrap (u a) = u a := by
  unfold u; rw [IntKind.wrap_u32]; have := a.isLt; omega
attribute [go_sem] u_addmod u_keep

set_option maxHeartbeats 400000 in
theorem ref_sum (B : Nat) (p : Option Addr) (n cap : Nat) (f : Nat → BitVec 32) (w : World) (hn : n ≤ 9223372036854775807) (hr : Reads B w p n (fun i => .int .u32 (u (f i)))) :
    Calls Tryz.prog 63 #[.slice p n cap] w fun e w' => e = .returned (.int .u32 (u (sumTo f n))) ∧ w = w' := by
  go_enter Tryz.func63, Tryz.ntmps63
  go_wp2
  go_loop [3, 4] (fun t i => ∃ k : Nat, k ≤ n ∧ i = .int .i64 k ∧ t = .int .u64 (u (sumTo f k))) (fun _ i => n - (intOf i).toNat)
  case atStart => exact ⟨0, Nat.zero_le _, rfl, rfl⟩
  case round =>
    obtain ⟨k, hk, rfl, rfl⟩ := hrel
    by_cases hlt : k < n
    · rcases hr with hr | ⟨b, off, rfl, hb, hc⟩
      · omega
      · have hcell := hc k hlt
        have a1 := u_lo (sumTo f k)
        have a2 := u_hi (sumTo f k)
        have a3 := u_lo (f k)
        have a4 := u_hi (f k)
        clear hc
        go_wp2
        go_round
        case rel => exact ⟨k + 1, by omega, by go_num, by rw [u_addmod]; rfl⟩
        case measure => simp [intOf]; omega
    · obtain rfl : k = n := by omega
      go_wp2
      go_ret
      exact ⟨rfl, rfl⟩

set_option maxHeartbeats 800000 in
theorem ref_most (B : Nat) (p : Option Addr) (n cap : Nat) (f : Nat → BitVec 32) (w : World) (hn : n ≤ 4294967295) (hr : Reads B w p n (fun i => .int .u32 (u (f i)))) :
    Calls Tryz.prog 66 #[.slice p n cap] w fun e w' => e = .returned (.int .u32 (u (pl (fun c => decide (n < 2 * onesTo c f n)) 32))) ∧ w = w' := by
  obtain ⟨g, hg⟩ : ∃ g : Nat → Bool, g = (fun c => decide (n < 2 * onesTo c f n)) := ⟨_, rfl⟩
  rw [← hg]
  have HG := Lib.hid hg
  clear hg
  go_enter Tryz.func66, Tryz.ntmps66
  go_wp2
  go_loop [3, 4] (fun t i => ∃ k : Nat, k ≤ 32 ∧ i = .int .i64 k ∧ t = .int .u32 (u (pl g k))) (fun _ i => 32 - (intOf i).toNat)
  case atStart => exact ⟨0, Nat.zero_le _, rfl, rfl⟩
  case round =>
    obtain ⟨k, hk, rfl, rfl⟩ := hrel
    by_cases hlt : k < 32
    · go_wp2
      go_loop [5, 6] (fun c i => ∃ m : Nat, m ≤ n ∧ i = .int .i64 m ∧ ∃ q : Int, c = .int .i64 q ∧ q = 2 * (onesTo k f m : Int) - m) (fun _ i => n - (intOf i).toNat)
      case atStart => exact ⟨0, Nat.zero_le _, rfl, 0, rfl, rfl⟩
      case round =>
        obtain ⟨m, hm, rfl, q, rfl, hq⟩ := hrel
        have ho := onesTo_le k f m
        have q1 : -(n : Int) ≤ q := by omega
        have q2 : q ≤ (n : Int) := by omega
        have HQ := Lib.hid hq
        clear hq
        by_cases hmn : m < n
        · rcases hr with hr | ⟨b, off, rfl, hb, hc⟩
          · omega
          have hcell := hc m hmn
          clear hc
          have hbit := bit_nat (f m) k
          have HB := Lib.hid hbit
          clear hbit
          go_wp2_with (go_at_call 87; refine (bit_at (f m) k _ (by omega) (by omega)).mono ?_; rintro e w' ⟨rfl, rfl⟩)
          · have ht : (f m).getLsbD k = true := by rw [BitVec.getLsbD_eq_getElem hlt]; assumption
            have h1 := HB.out
            rw [ht] at h1
            have h2 := HQ.out
            exact ⟨⟨m + 1, by omega, by go_num, _, rfl, by simp only [onesTo]; rw [h1]; simp; omega⟩, by simp [intOf]; omega⟩
          · have ht : (f m).getLsbD k = false := by rw [BitVec.getLsbD_eq_getElem hlt]; assumption
            have h1 := HB.out
            rw [ht] at h1
            have h2 := HQ.out
            exact ⟨⟨m + 1, by omega, by go_num, _, rfl, by simp only [onesTo]; rw [h1]; simp; omega⟩, by simp [intOf]; omega⟩
        · obtain rfl : m = n := by omega
          by_cases hpos : 0 < q
          all_goals
            go_wp2_with (go_at_call 89; refine (place_at k _ _ (by omega) (by omega)).mono ?_; rintro e w' ⟨rfl, rfl⟩)
            go_round
            case rel => exact ⟨k + 1, by omega, by go_num, val_u (by first | exact pl_skip g k (by rw [HG.out]; have := HQ.out; simp; omega) | exact pl_step g k true (by rw [HG.out]; have := HQ.out; simp; omega))⟩
            case measure => simp [intOf]; omega
    · obtain rfl : k = 32 := by omega
      go_wp2
      go_ret
      exact ⟨rfl, rfl⟩
end Go.Proofs.YtejknkgbkkdaiaaGreatDoor
