/-
  Contracts: words put as their bytes.
-/
import Derived.Test.YthhjieagdkimfaaDoorLoops
import Derived.Deep.RegionLaw
import Derived.Deep.AppendLies
namespace Go.Proofs.YthhjieagdkimfaaDoor
open Go.RowKit
set_option linter.unusedVariables false
set_option linter.unusedSimpArgs false

/-- the number of a byte -/
def ub (x : BitVec 8) : Int := (x.toNat : Int)
theorem ub_lo (x : BitVec 8) : 0 ≤ ub x := by unfold ub; omega
theorem ub_hi (x : BitVec 8) : ub x ≤ 255 := by unfold ub; have := x.isLt; omega
theorem u8_of_u (x : BitVec 32) : IntKind.u8.wrap (u x) = ub (x.setWidth 8) := by
  unfold u ub; rw [IntKind.wrap_u8, BitVec.toNat_setWidth]; omega
attribute [go_sem] u8_of_u
def cellsOf (g : Nat → BitVec 8) (n : Nat) : List Value := (List.range n).map fun i => .int .u8 (ub (g i))
theorem cellsOf_succ (g : Nat → BitVec 8) (n : Nat) : cellsOf g n ++ [.int .u8 (ub (g n))] = cellsOf g (n + 1) := by
  unfold cellsOf; rw [List.range_succ, List.map_append]; rfl
theorem cellsOf_at (g : Nat → BitVec 8) (n i : Nat) (h : i < n) : (cellsOf g n)[i]? = some (.int .u8 (ub (g i))) := by
  unfold cellsOf; simp [h]
theorem Tryd.infoB : (Tryd.prog.info? 5).map (fun i => (i.zero, i.size, i.bytes)) = some (some (.int .u8 0), 1, 1) := by kernel_rfl

/-- an octets value at cell ⟨ob, oo⟩ whose bytes are the call's own row g of n -/
def Oct (w : World) (base ob oo : Nat) (g : Nat → BitVec 8) (n : Nat) : Prop :=
  ∃ v, w.cell? ⟨ob, oo, none⟩ = some v ∧ w.frozen? ⟨ob, oo, none⟩ = false ∧ v.ownBlock ≠ some ob ∧ w.ownsRow base 5 1 v n (cellsOf g n)

theorem own_setCell {w : World} {base : Nat} {e : TypeId} {size : Nat} {v : Value} {n : Nat} {xs : List Value} (h : w.ownsRow base e size v n xs) (p : Addr) (x : Value) (hne : v.ownBlock ≠ some p.block) : (w.setCell p x).ownsRow base e size v n xs :=
  h.kept (row := some p.block) ⟨rfl, rfl, rfl, by simp, fun k _ hk => Below.heap_setCell w p x k (fun e => hk (by rw [e]))⟩ (.inr hne)

theorem oct_of {w : World} {base ob oo g1 n cap : Nat} {v : Value} {g : Nat → BitVec 8} (hc : w.cell? ⟨ob, oo, none⟩ = some v) (hf : w.frozen? ⟨ob, oo, none⟩ = false) (hne : g1 ≠ ob)
    (hown : w.ownsRow base 5 1 (.slice (some ⟨g1, 0, none⟩) n cap) n (cellsOf g n)) : Oct (w.setCell ⟨ob, oo, none⟩ (.slice (some ⟨g1, 0, none⟩) n cap)) base ob oo g n :=
  ⟨_, World.cell?_setCell_same' _ _ _ (by rw [hc]; rfl), by rw [World.frozen?_setCell]; exact hf, by simpa [Value.ownBlock] using hne, own_setCell hown _ _ (by simpa [Value.ownBlock] using hne)⟩

set_option maxHeartbeats 1000000 in
set_option maxRecDepth 100000 in
theorem put_any (base ob oo n : Nat) (x : BitVec 32) (g : Nat → BitVec 8) (w : World) (hn : n ≤ 2147483647) (hb : base ≤ ob) (hob : ob < w.heap.size) (ho : Oct w base ob oo g n)
    (hg : ∀ i, i < 4 → g (n + i) = (x >>> (24 - 8 * i)).setWidth 8) :
    Calls Tryd.prog 109 #[.pointer (some ⟨ob, oo, none⟩), .int .u32 (u x)] w fun e w' => e = .returned (.tuple #[]) ∧ Below base w w' ∧ Oct w' base ob oo g (n + 4) := by
  obtain ⟨i0, hi, hz0, hz1, hz2⟩ := info_parts Tryd.infoB
  go_enter Tryd.func109, Tryd.ntmps109
  go_wp2
  go_loopw [5] (fun i wr => ∃ k : Nat, k ≤ 4 ∧ i = .int .i64 k ∧ Oct wr base ob oo g (n + k) ∧ Below base w wr) (fun i _ => 4 - (intOf i).toNat)
  case atStart => exact ⟨0, Nat.zero_le _, rfl, ho, Below.refl _ _⟩
  case round =>
    obtain ⟨k, hk, rfl, ⟨v, hv, hf, hne, hown⟩, hbel⟩ := hrel
    by_cases hlt : k < 4
    · have hgk := Lib.hid (hg k hlt)
      clear hg
      have hsz := hbel.size
      have s1 : IntKind.i64.wrap (↑k + 1) = ↑k + 1 := IntWalk.i64_in _ (by omega)
      have s2 : IntKind.i64.wrap (8 * (↑k + 1)) = 8 * (↑k + 1) := IntWalk.i64_in _ (by omega)
      have s3 : IntKind.i64.wrap (32 - 8 * (↑k + 1)) = 32 - 8 * (↑k + 1) := IntWalk.i64_in _ (by omega)
      have hv2 : ∀ o, (wr.alloc o).cell? ⟨ob, oo, none⟩ = some v := fun o => (World.cell?_alloc_past _ _ _ (by show ob < wr.heap.size; omega)).trans hv
      have hf2 : ∀ o, (wr.alloc o).frozen? ⟨ob, oo, none⟩ = false := fun o => (World.frozen?_alloc_past _ _ _ (by show ob < wr.heap.size; omega)).trans hf
      have hlo : base ≤ wr.heap.size := by omega
      have hm1 : n + k + 1 ≤ maxLen := by unfold maxLen; omega
      go_wp2
      go_region_law (refine step_append_lies _ rfl (.tmp 12) (.tmp 20) 27 rfl base 5 i0 (.int .u8 0) 1 1 Tryd.underlying27 hi hz0 hz1 hz2 rfl (by decide) v (n + k) (cellsOf g (n + k)) (by simp [Act.eval, Act.put]) (hown.drew.alloc _) ⟨wr.heap.size, 0, none⟩ 1 1 [.int .u8 (ub (BitVec.setWidth 8 (x >>> (32 - 8 * ((k : Int) + 1)).toNat)))] (by simp [Act.eval, Act.put]) rfl (World.news_of_block (heap_alloc_new _ _)) (by intro y hy; simp at hy; subst hy; rfl) (by decide) hm1 (by omega) (by simp; omega) (wr.heap.size + 1) (by simp) ?_; intro g1 cap1 w1 hown1 hgrow1 hat1 hlt1; have hc1 := (hgrow1.cell_far ⟨ob, oo, none⟩ (by simp; omega) (Ne.symm hne)).trans (hv2 _); have hf1 := (hgrow1.frozen_far ⟨ob, oo, none⟩ (by simp; omega) (Ne.symm hne)).trans (hf2 _))
      all_goals
        have hfin : Oct (w1.setCell ⟨ob, oo, none⟩ (.slice (some ⟨g1, 0, none⟩) (n + k + 1) cap1)) base ob oo g (n + (k + 1)) ∧ Below base w (w1.setCell ⟨ob, oo, none⟩ (.slice (some ⟨g1, 0, none⟩) (n + k + 1) cap1)) := by
          refine ⟨oct_of hc1 hf1 ?_ ?_, (((hbel.alloc hlo _).drew).grown hgrow1 (by simp; omega) (fun b e => (hown.lt b e).1)).setCell hb _⟩
          · intro e
            rcases hat1 with h | h
            · exact hne (h.trans (by rw [e]))
            · omega
          · have e1 : (32 - 8 * ((k : Int) + 1)).toNat = 24 - 8 * k := by omega
            rw [e1, ← hgk.out, cellsOf_succ] at hown1
            exact hown1
        have HF := Lib.hid hfin
        clear hfin
        go_wp2
        go_roundw
        case rel => exact ⟨k + 1, by omega, by go_num, HF.out.1, HF.out.2⟩
        case measure => simp [intOf]; omega
    · obtain rfl : k = 4 := by omega
      go_wp2
      go_end0
      exact ⟨rfl, hbel, v, hv, hf, hne, hown⟩
end Go.Proofs.YthhjieagdkimfaaDoor
