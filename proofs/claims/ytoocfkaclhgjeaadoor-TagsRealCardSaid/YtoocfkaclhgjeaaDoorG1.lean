/-
  Merged: Words, Loops, Put.
-/
import Derived.Test.YtoocfkaclhgjeaaDoorBits
import Derived.Deep.RegionLaw
import Derived.Deep.AppendLies

namespace Go.Proofs.YtoocfkaclhgjeaaDoor
open Go.RowKit
set_option linter.unusedVariables false
set_option linter.unusedSimpArgs false

set_option maxHeartbeats 400000 in
theorem choose_any (x a b : BitVec 32) (w : World) :
    Calls Tryd.prog 76 #[.int .u32 (u x), .int .u32 (u a), .int .u32 (u b)] w fun e w' => e = .returned (.int .u32 (u (x &&& a ||| ~~~x &&& b))) ∧ w = w' := by
  go_enter Tryd.func76, Tryd.ntmps76
  go_wp2
  go_ret
  exact ⟨rfl, rfl⟩
set_option maxHeartbeats 400000 in
theorem turn_any (x : BitVec 32) (n : Int) (w : World) :
    Calls Tryd.prog 82 #[.int .u32 (u x), .int .i64 n] w fun e w' => e = .returned (.int .u32 (u (turn x (n % 32).toNat))) ∧ w = w' := by
  go_enter Tryd.func82, Tryd.ntmps82
  go_wp2
  go_ret
  exact ⟨ret_u (turn_u x n), rfl⟩
set_option maxHeartbeats 400000 in
theorem shift_any (x : BitVec 32) (n : Int) (w : World) (h1 : n ≤ 9223372036854775807) :
    Calls Tryd.prog 81 #[.int .u32 (u x), .int .i64 n] w fun e w' => e = .returned (.int .u32 (u (if n < 0 then x else x >>> n.toNat))) ∧ w = w' := by
  by_cases hn : n < 0
  · go_enter Tryd.func81, Tryd.ntmps81
    go_wp2
    go_ret
    exact ⟨rfl, rfl⟩
  · have hs := shr_u (P := Tryd.prog) (w := w) x .u64 n (by omega)
    have hw : IntKind.u64.wrap n = n := by rw [IntKind.wrap_u64]; omega
    go_enter Tryd.func81, Tryd.ntmps81
    go_wp2
    go_ret
    exact ⟨rfl, rfl⟩
end Go.Proofs.YtoocfkaclhgjeaaDoor

namespace Go.Proofs.YtoocfkaclhgjeaaDoor
open Go.RowKit
set_option linter.unusedSimpArgs false
set_option linter.unusedVariables false

def sumTo (f : Nat → BitVec 32) : Nat → BitVec 32
  | 0 => 0
  | k + 1 => sumTo f k + f k
/-- how many of the first have a 1 at a place -/
def onesTo (c : Nat) (f : Nat → BitVec 32) : Nat → Nat
  | 0 => 0
  | k + 1 => onesTo c f k + (f k >>> c &&& 1#32).toNat
theorem one_le (x : BitVec 32) : (x &&& 1#32).toNat ≤ 1 := by
  rw [BitVec.toNat_and]; exact Nat.and_le_right
theorem onesTo_le (c : Nat) (f : Nat → BitVec 32) (k : Nat) : onesTo c f k ≤ k := by
  induction k with
  | zero => exact Nat.le_refl _
  | succ k ih => have := one_le (f k >>> c); simp only [onesTo]; omega
def mixTo (x : BitVec 32) (g : Nat → Int) : Nat → BitVec 32
  | 0 => 0
  | k + 1 => mixTo x g k ^^^ turn x (g k % 32).toNat
def mostTo (n : Nat) (f : Nat → BitVec 32) : Nat → BitVec 32
  | 0 => 0
  | k + 1 => if n < 2 * onesTo k f n then mostTo n f k ||| 1#32 <<< k else mostTo n f k

set_option maxHeartbeats 400000 in
theorem sum_any (B : Nat) (p : Option Addr) (n cap : Nat) (f : Nat → BitVec 32) (w : World) (hn : n ≤ 9223372036854775807) (hr : Reads B w p n (fun i => .int .u32 (u (f i)))) :
    Calls Tryd.prog 71 #[.slice p n cap] w fun e w' => e = .returned (.int .u32 (u (sumTo f n))) ∧ w = w' := by
  go_enter Tryd.func71, Tryd.ntmps71
  go_wp2
  go_loop [3, 8] (fun t i => ∃ k : Nat, k ≤ n ∧ i = .int .i64 k ∧ t = .int .u32 (u (sumTo f k))) (fun _ i => n - (intOf i).toNat)
  case atStart => exact ⟨0, Nat.zero_le _, rfl, rfl⟩
  case round =>
    obtain ⟨k, hk, rfl, rfl⟩ := hrel
    by_cases hlt : k < n
    · rcases hr with hr | ⟨b, off, rfl, hb, hc⟩
      · omega
      · have hcell := hc k hlt
        clear hc
        go_wp2
        go_round
        case rel => exact ⟨k + 1, by omega, by go_num, rfl⟩
        case measure => simp [intOf]; omega
    · obtain rfl : k = n := by omega
      go_wp2
      go_ret
      exact ⟨rfl, rfl⟩

set_option maxHeartbeats 400000 in
theorem ones_any (B c : Nat) (p : Option Addr) (n cap : Nat) (f : Nat → BitVec 32) (w : World) (hn : n ≤ 9223372036854775807) (hcl : c < 32) (hr : Reads B w p n (fun i => .int .u32 (u (f i)))) :
    Calls Tryd.prog 83 #[.int .i64 c, .slice p n cap] w fun e w' => e = .returned (.int .i64 (onesTo c f n)) ∧ w = w' := by
  go_enter Tryd.func83, Tryd.ntmps83
  go_wp2
  go_loop [5, 10] (fun t i => ∃ k : Nat, k ≤ n ∧ i = .int .i64 k ∧ t = .int .i64 (onesTo c f k)) (fun _ i => n - (intOf i).toNat)
  case atStart => exact ⟨0, Nat.zero_le _, rfl, rfl⟩
  case round =>
    obtain ⟨k, hk, rfl, rfl⟩ := hrel
    by_cases hlt : k < n
    · rcases hr with hr | ⟨b, off, rfl, hb, hc⟩
      · omega
      · have hcell := hc k hlt
        have ho := onesTo_le c f k
        have h1 := one_le (f k >>> c)
        have h2 : u (f k >>> c &&& 1#32) = (((f k >>> c &&& 1#32).toNat : Nat) : Int) := rfl
        have h3 := u_lo (f k >>> c &&& 1#32)
        have H2 := Lib.hid h2
        have h4 : u (f k >>> c &&& 1#32) ≤ 1 := by rw [h2]; omega
        clear hc h2
        go_wp2
        go_round
        case rel => exact ⟨k + 1, by omega, by go_num, by rw [H2.out]; simp [onesTo]⟩
        case measure => simp [intOf]; omega
    · obtain rfl : k = n := by omega
      go_wp2
      go_ret
      exact ⟨rfl, rfl⟩

set_option maxHeartbeats 400000 in
theorem mix_any (B : Nat) (x : BitVec 32) (p : Option Addr) (n cap : Nat) (g : Nat → Int) (w : World) (hn : n ≤ 9223372036854775807) (hr : Reads B w p n (fun i => .int .i64 (g i))) :
    Calls Tryd.prog 75 #[.int .u32 (u x), .slice p n cap] w fun e w' => e = .returned (.int .u32 (u (mixTo x g n))) ∧ w = w' := by
  go_enter Tryd.func75, Tryd.ntmps75
  go_wp2
  go_loop [5, 10] (fun t i => ∃ k : Nat, k ≤ n ∧ i = .int .i64 k ∧ t = .int .u32 (u (mixTo x g k))) (fun _ i => n - (intOf i).toNat)
  case atStart => exact ⟨0, Nat.zero_le _, rfl, rfl⟩
  case round =>
    obtain ⟨k, hk, rfl, rfl⟩ := hrel
    by_cases hlt : k < n
    · rcases hr with hr | ⟨b, off, rfl, hb, hc⟩
      · omega
      · have hcell := hc k hlt
        clear hc
        go_wp2_with (go_at_call 82; refine (turn_any x (g k) _).mono ?_; rintro e w' ⟨rfl, rfl⟩)
        go_round
        case rel => exact ⟨k + 1, by omega, by go_num, rfl⟩
        case measure => simp [intOf]; omega
    · obtain rfl : k = n := by omega
      go_wp2
      go_ret
      exact ⟨rfl, rfl⟩

set_option maxHeartbeats 400000 in
theorem most_any (B : Nat) (p : Option Addr) (n cap : Nat) (f : Nat → BitVec 32) (w : World) (hn : n ≤ 4611686018427387903) (hr : Reads B w p n (fun i => .int .u32 (u (f i)))) :
    Calls Tryd.prog 77 #[.slice p n cap] w fun e w' => e = .returned (.int .u32 (u (mostTo n f 32))) ∧ w = w' := by
  go_enter Tryd.func77, Tryd.ntmps77
  go_wp2
  go_loop [3, 6] (fun t i => ∃ k : Nat, k ≤ 32 ∧ i = .int .i64 k ∧ t = .int .u32 (u (mostTo n f k))) (fun _ i => 32 - (intOf i).toNat)
  case atStart => exact ⟨0, Nat.zero_le _, rfl, rfl⟩
  case round =>
    obtain ⟨k, hk, rfl, rfl⟩ := hrel
    by_cases hlt : k < 32
    · have ho := onesTo_le k f n
      by_cases hm : n < 2 * onesTo k f n
      all_goals
        go_wp2_with (go_at_call 83; refine (ones_any B k p n cap f _ (by omega) hlt hr).mono ?_; rintro e w' ⟨rfl, rfl⟩)
        go_round
        case rel => exact ⟨k + 1, by omega, by go_num, by simp [mostTo, hm]⟩
        case measure => simp [intOf]; omega
    · obtain rfl : k = 32 := by omega
      go_wp2
      go_ret
      exact ⟨rfl, rfl⟩
end Go.Proofs.YtoocfkaclhgjeaaDoor

namespace Go.Proofs.YtoocfkaclhgjeaaDoor
open Go.RowKit
set_option linter.unusedVariables false
set_option linter.unusedSimpArgs false

/-- the number of a byte -/
def ub (x : BitVec 8) : Int := (x.toNat : Int)
theorem ub_lo (x : BitVec 8) : 0 ≤ ub x := by unfold ub; omega
theorem ub_hi (x : BitVec 8) : ub x ≤ 255 := by unfold ub; have := x.isLt; omega
theorem u8_of_u (x : BitVec 32) : IntKind.u8.wrap (u x) = ub (x.setWidth 8) := by
  unfold u ub; rw [IntKind.wrap_u8, BitVec.toNat_setWidth]; omega
attribute [go_sem] u8_of_u
def cellsOf (g : Nat → BitVec 8) (n : Nat) : List Value := (List.range n).map fun i => .int .u8 (ub (g i))
theorem cellsOf_succ (g : Nat → BitVec 8) (n : Nat) : cellsOf g n ++ [.int .u8 (ub (g n))] = cellsOf g (n + 1) := by
  unfold cellsOf; rw [List.range_succ, List.map_append]; rfl
theorem cellsOf_at (g : Nat → BitVec 8) (n i : Nat) (h : i < n) : (cellsOf g n)[i]? = some (.int .u8 (ub (g i))) := by
  unfold cellsOf; simp [h]
theorem Tryd.infoB : (Tryd.prog.info? 5).map (fun i => (i.zero, i.size, i.bytes)) = some (some (.int .u8 0), 1, 1) := by kernel_rfl

/-- an octets value at cell ⟨ob, oo⟩ whose bytes are the call's own row g of n -/
def Oct (w : World) (base ob oo : Nat) (g : Nat → BitVec 8) (n : Nat) : Prop :=
  ∃ v, w.cell? ⟨ob, oo, none⟩ = some v ∧ w.frozen? ⟨ob, oo, none⟩ = false ∧ v.ownBlock ≠ some ob ∧ w.ownsRow base 5 1 v n (cellsOf g n)

theorem own_setCell {w : World} {base : Nat} {e : TypeId} {size : Nat} {v : Value} {n : Nat} {xs : List Value} (h : w.ownsRow base e size v n xs) (p : Addr) (x : Value) (hne : v.ownBlock ≠ some p.block) : (w.setCell p x).ownsRow base e size v n xs :=
  h.kept (row := some p.block) ⟨rfl, rfl, rfl, by simp, fun k _ hk => Below.heap_setCell w p x k (fun e => hk (by rw [e]))⟩ (.inr hne)

theorem oct_of {w : World} {base ob oo g1 n cap : Nat} {v : Value} {g : Nat → BitVec 8} (hc : w.cell? ⟨ob, oo, none⟩ = some v) (hf : w.frozen? ⟨ob, oo, none⟩ = false) (hne : g1 ≠ ob)
    (hown : w.ownsRow base 5 1 (.slice (some ⟨g1, 0, none⟩) n cap) n (cellsOf g n)) : Oct (w.setCell ⟨ob, oo, none⟩ (.slice (some ⟨g1, 0, none⟩) n cap)) base ob oo g n :=
  ⟨_, World.cell?_setCell_same' _ _ _ (by rw [hc]; rfl), by rw [World.frozen?_setCell]; exact hf, by simpa [Value.ownBlock] using hne, own_setCell hown _ _ (by simpa [Value.ownBlock] using hne)⟩

set_option maxHeartbeats 1000000 in
set_option maxRecDepth 100000 in
theorem put_any (base ob oo n : Nat) (x : BitVec 32) (g : Nat → BitVec 8) (w : World) (hn : n ≤ 2147483647) (hb : base ≤ ob) (hob : ob < w.heap.size) (ho : Oct w base ob oo g n)
    (hg : ∀ i, i < 4 → g (n + i) = (x >>> (24 - 8 * i)).setWidth 8) :
    Calls Tryd.prog 78 #[.pointer (some ⟨ob, oo, none⟩), .int .u32 (u x)] w fun e w' => e = .returned (.tuple #[]) ∧ Below base w w' ∧ Oct w' base ob oo g (n + 4) := by
  obtain ⟨i0, hi, hz0, hz1, hz2⟩ := info_parts Tryd.infoB
  go_enter Tryd.func78, Tryd.ntmps78
  go_wp2
  go_loopw [5] (fun i wr => ∃ k : Nat, k ≤ 4 ∧ i = .int .i64 k ∧ Oct wr base ob oo g (n + k) ∧ Below base w wr) (fun i _ => 4 - (intOf i).toNat)
  case atStart => exact ⟨0, Nat.zero_le _, rfl, ho, Below.refl _ _⟩
  case round =>
    obtain ⟨k, hk, rfl, ⟨v, hv, hf, hne, hown⟩, hbel⟩ := hrel
    by_cases hlt : k < 4
    · have hgk := Lib.hid (hg k hlt)
      clear hg
      have hsz := hbel.size
      have s1 : IntKind.i64.wrap (↑k + 1) = ↑k + 1 := IntWalk.i64_in _ (by omega)
      have s2 : IntKind.i64.wrap (8 * (↑k + 1)) = 8 * (↑k + 1) := IntWalk.i64_in _ (by omega)
      have s3 : IntKind.i64.wrap (32 - 8 * (↑k + 1)) = 32 - 8 * (↑k + 1) := IntWalk.i64_in _ (by omega)
      have hv2 : ∀ o, (wr.alloc o).cell? ⟨ob, oo, none⟩ = some v := fun o => (World.cell?_alloc_past _ _ _ (by show ob < wr.heap.size; omega)).trans hv
      have hf2 : ∀ o, (wr.alloc o).frozen? ⟨ob, oo, none⟩ = false := fun o => (World.frozen?_alloc_past _ _ _ (by show ob < wr.heap.size; omega)).trans hf
      have hlo : base ≤ wr.heap.size := by omega
      have hm1 : n + k + 1 ≤ maxLen := by unfold maxLen; omega
      go_wp2
      go_region_law (refine step_append_lies _ rfl (.tmp 12) (.tmp 20) 23 rfl base 5 i0 (.int .u8 0) 1 1 Tryd.underlying23 hi hz0 hz1 hz2 rfl (by decide) v (n + k) (cellsOf g (n + k)) (by simp [Act.eval, Act.put]) (hown.drew.alloc _) ⟨wr.heap.size, 0, none⟩ 1 1 [.int .u8 (ub (BitVec.setWidth 8 (x >>> (32 - 8 * ((k : Int) + 1)).toNat)))] (by simp [Act.eval, Act.put]) rfl (World.news_of_block (heap_alloc_new _ _)) (by intro y hy; simp at hy; subst hy; rfl) (by decide) hm1 (by omega) (by simp; omega) (wr.heap.size + 1) (by simp) ?_; intro g1 cap1 w1 hown1 hgrow1 hat1 hlt1; have hc1 := (hgrow1.cell_far ⟨ob, oo, none⟩ (by simp; omega) (Ne.symm hne)).trans (hv2 _); have hf1 := (hgrow1.frozen_far ⟨ob, oo, none⟩ (by simp; omega) (Ne.symm hne)).trans (hf2 _))
      all_goals
        have hfin : Oct (w1.setCell ⟨ob, oo, none⟩ (.slice (some ⟨g1, 0, none⟩) (n + k + 1) cap1)) base ob oo g (n + (k + 1)) ∧ Below base w (w1.setCell ⟨ob, oo, none⟩ (.slice (some ⟨g1, 0, none⟩) (n + k + 1) cap1)) := by
          refine ⟨oct_of hc1 hf1 ?_ ?_, (((hbel.alloc hlo _).drew).grown hgrow1 (by simp; omega) (fun b e => (hown.lt b e).1)).setCell hb _⟩
          · intro e
            rcases hat1 with h | h
            · exact hne (h.trans (by rw [e]))
            · omega
          · have e1 : (32 - 8 * ((k : Int) + 1)).toNat = 24 - 8 * k := by omega
            rw [e1, ← hgk.out, cellsOf_succ] at hown1
            exact hown1
        have HF := Lib.hid hfin
        clear hfin
        go_wp2
        go_roundw
        case rel => exact ⟨k + 1, by omega, by go_num, HF.out.1, HF.out.2⟩
        case measure => simp [intOf]; omega
    · obtain rfl : k = 4 := by omega
      go_wp2
      go_end0
      exact ⟨rfl, hbel, v, hv, hf, hne, hown⟩
end Go.Proofs.YtoocfkaclhgjeaaDoor
