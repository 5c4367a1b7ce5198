/-
  Merged: RefSched, Slices.
-/
import Derived.Test.YtejknkgbkkdaiaaGreatDoorG13
import Derived.Test.YtejknkgbkkdaiaaGreatDoorG1

namespace Go.Proofs.YtejknkgbkkdaiaaGreatDoor
open Go.RowKit
set_option linter.unusedVariables false
set_option linter.unusedSimpArgs false

def wordsOf (f : Nat → BitVec 32) (n : Nat) : List Value := (List.range n).map fun i => .int .u32 (u (f i))
theorem wordsOf_congr {f g : Nat → BitVec 32} {n : Nat} (h : ∀ i, i < n → f i = g i) : wordsOf f n = wordsOf g n := List.map_congr_left fun i hi => by rw [h i (List.mem_range.1 hi)]
theorem wordsOf_succ (f : Nat → BitVec 32) (n : Nat) : wordsOf f n ++ [.int .u32 (u (f n))] = wordsOf f (n + 1) := by unfold wordsOf; rw [List.range_succ, List.map_append]; rfl
theorem wordsOf_at (f : Nat → BitVec 32) (n i : Nat) (h : i < n) : (wordsOf f n)[i]? = some (.int .u32 (u (f i))) := by unfold wordsOf; simp [h]
/-- what stays: the words that are told so far -/
structure SC (w : World) (v : Value) (n : Nat) (f : Nat → BitVec 32) (W : World) : Prop where
  own : W.ownsRow w.heap.size 96 1 v n (wordsOf f n)
  bel : Below w.heap.size w W
theorem SC.go {w W W' : World} {v : Value} {n : Nat} {f : Nat → BitVec 32} (h : SC w v n f W) (g : Below W.heap.size W W') : SC w v n f W' :=
  ⟨own_below h.own g, h.bel.trans (g.mono h.bel.size)⟩
theorem SC.drew {w W : World} {v : Value} {n : Nat} {f : Nat → BitVec 32} (h : SC w v n f W) : SC w v n f W.drew := h.go (Below.refl _ _).drew
theorem SC.alloc {w W : World} {v : Value} {n : Nat} {f : Nat → BitVec 32} (h : SC w v n f W) (o : Obj) : SC w v n f (W.alloc o) := h.go ((Below.refl _ _).alloc (Nat.le_refl _) o)
theorem SC.cell {w W : World} {g c n : Nat} {f : Nat → BitVec 32} (h : SC w (.slice (some ⟨g, 0, none⟩) n c) n f W) (i : Nat) (hi : i < n) : W.cell? ⟨g, i, none⟩ = some (.int .u32 (u (f i))) := by
  rw [h.own.cellAt i (by omega), wordsOf_at f n i hi]
/-- a row that is not empty is not nil -/
theorem owns_some {w : World} {base : Nat} {e : TypeId} {size : Nat} {v : Value} {n : Nat} {xs : List Value} (h : w.ownsRow base e size v n xs) (hn : 0 < n) : ∃ g c, v = .slice (some ⟨g, 0, none⟩) n c ∧ base ≤ g ∧ n ≤ c ∧ c ≤ maxLen := by
  rcases h.2 with ⟨rfl, rfl⟩ | ⟨g, cap, cur, rfl, h1, h2, h3, h4, _⟩
  · omega
  · exact ⟨g, cap, rfl, h1, h3, h4⟩
theorem ref_small_a (x : BitVec 32) (w : World) : Calls Tryz.prog 86 #[.int .u32 (u x), .int .i64 7, .int .i64 18, .int .i64 3] w fun e w' => e = .returned (.int .u32 (u (sml x 7 18 3))) ∧ Below w.heap.size w w' :=
  ref_small x 7 18 3 w 7 18 3 rfl rfl rfl (by omega) (by omega) (by omega)
theorem ref_small_b (x : BitVec 32) (w : World) : Calls Tryz.prog 86 #[.int .u32 (u x), .int .i64 17, .int .i64 19, .int .i64 10] w fun e w' => e = .returned (.int .u32 (u (sml x 17 19 10))) ∧ Below w.heap.size w w' :=
  ref_small x 17 19 10 w 17 19 10 rfl rfl rfl (by omega) (by omega) (by omega)
/-- the next word is appended -/
theorem append_word (w W : World) (ty : TypeId) (v : Value) (n : Nat) (f : Nat → BitVec 32) (h : SC w v n f (W.alloc (.cells #[.int .u32 (u (f n))] 96))) (hn : n + 1 ≤ 4294967296) :
    ∃ v' w', (Builtin.append_ #[93, 93] ty #[v, .slice (some ⟨W.heap.size, 0, none⟩) 1 1]).run Tryz.prog (W.alloc (.cells #[.int .u32 (u (f n))] 96)) = .ok v' w' ∧ SC w v' (n + 1) f w' ∧ SC w v n f w' := by
  obtain ⟨i0, hi, hz0, hz1, hz2⟩ := info_parts infoW
  obtain ⟨v', w', h1, h2, h3, h4⟩ := append_keeps (P := Tryz.prog) (W.alloc (.cells #[.int .u32 (u (f n))] 96)) w.heap.size 93 ty 96 i0 (.int .u32 0) 4 Tryz.underlying93 hi hz0 hz1 hz2 rfl v n _ h.own ⟨W.heap.size, 0, none⟩ 1 1 [.int .u32 (u (f n))] rfl
    (World.news_of_block (heap_alloc_new _ _)) (by intro y hy; simp at hy; subst hy; rfl) (by unfold maxLen; omega) (by omega) h.bel.size
  rw [wordsOf_succ] at h2
  have hb := h.bel.grown h4 h.bel.size (fun q e => (h.own.lt q e).1)
  exact ⟨v', w', h1, ⟨h2, hb⟩, ⟨h3, hb⟩⟩
theorem wp_append_word {o : Oper} {ac : Act} {K : Act → World → Prop} {Q : Exit → Act → World → Prop} {w W : World} {s x : Operand} {v : Value} {n : Nat} {f : Nat → BitVec 32}
    (ho : o.op = .call { callee := .builtin .append, args := #[s, x], argTypes := #[93, 93] }) (hs : ac.eval s = v) {H : Nat} (hx : ac.eval x = .slice (some ⟨H, 0, none⟩) 1 1) (hH : H = W.heap.size)
    (h : SC w v n f (W.alloc (.cells #[.int .u32 (u (f n))] 96))) (hn : n + 1 ≤ 4294967296) (hK : ∀ v' w', SC w v' (n + 1) f w' → SC w v n f w' → K (ac.put o.dst v') w') :
    o.wp Tryz.prog ac (W.alloc (.cells #[.int .u32 (u (f n))] 96)) K Q := by
  subst hH
  obtain ⟨v', w', hrun, h1, h2⟩ := append_word w W o.type v n f h hn
  exact Lib.wp_append_run _ s x _ _ ho _ _ hs hx v' w' hrun (hK v' w' h1 h2)
set_option maxHeartbeats 4000000 in
set_option maxRecDepth 100000 in
theorem sched_any (B : Nat) (w : World) (p : Option Addr) (c : Nat) (b : Nat → BitVec 8) (hB : B ≤ w.heap.size) (hr : Reads B w p 64 (fun i => .int .u8 (ub (b i)))) :
    Calls Tryz.prog 62 #[.slice p 64 c] w fun e w' => ∃ v, e = .returned v ∧ Below w.heap.size w w' ∧ w'.ownsRow w.heap.size 96 1 v 64 (wordsOf (wl (bw b) 48) 64) := by
  have hw := ref_words B 16 c p b w (by omega) hB (by simpa using hr)
  simp only [dw_bw] at hw
  have HW := Lib.hid hw
  clear hr hw
  go_enter Tryz.func62, Tryz.ntmps62
  go_wp2_with fail
  refine HW.out.mono ?_
  rintro e w1 ⟨v1, rfl, hb1, hown1⟩
  have H1 := Lib.hid (show SC w v1 16 (wl (bw b) 0) w1 from ⟨hown1, hb1⟩)
  clear hb1 hown1 HW
  go_wp2
  go_loopw [3, 5] (fun v i wr => ∃ k : Nat, k ≤ 48 ∧ i = .int .i64 ((k : Int) + 16) ∧ SC w v (16 + k) (wl (bw b) k) wr) (fun _ i _ => (64 - intOf i).toNat)
  case atStart => exact ⟨0, Nat.zero_le _, rfl, H1.out⟩
  case round =>
    clear H1
    obtain ⟨k, hk, rfl, hsc⟩ := hrel
    by_cases hlt : k < 48
    · obtain ⟨N, hN⟩ : ∃ N, N = 16 + k := ⟨_, rfl⟩
      rw [← hN] at hsc
      obtain ⟨g, cp, rfl, hg, hnc, hcm⟩ := owns_some hsc.own (by omega)
      have s1 : IntKind.i64.wrap ((k : Int) + 16 - 16) = (k : Int) := by rw [IntWalk.i64_in _ (by omega)]; omega
      have s2 : IntKind.i64.wrap ((k : Int) + 16 - 15) = (k : Int) + 1 := by rw [IntWalk.i64_in _ (by omega)]; omega
      have s3 : IntKind.i64.wrap ((k : Int) + 16 - 7) = (k : Int) + 9 := by rw [IntWalk.i64_in _ (by omega)]; omega
      have s4 : IntKind.i64.wrap ((k : Int) + 16 - 2) = (k : Int) + 14 := by rw [IntWalk.i64_in _ (by omega)]; omega
      have s0 : IntKind.i64.wrap (k : Int) = (k : Int) := IntWalk.i64_in _ (by omega)
      have t2 : ((k : Int) + 1).toNat = k + 1 := by omega
      have t3 : ((k : Int) + 9).toNat = k + 9 := by omega
      have t4 : ((k : Int) + 14).toNat = k + 14 := by omega
      have i1 : (0 : Int) ≤ (k : Int) + 1 := by omega
      have i2 : (0 : Int) ≤ (k : Int) + 9 := by omega
      have i3 : (0 : Int) ≤ (k : Int) + 14 := by omega
      have l0 : (k : Int) + 16 < 64 := by omega
      have lN : N ≤ 63 := by omega
      have l1 : (k : Int) < (N : Int) := by omega
      have l2 : (k : Int) + 1 < (N : Int) := by omega
      have l3 : (k : Int) + 9 < (N : Int) := by omega
      have l4 : (k : Int) + 14 < (N : Int) := by omega
      have HD := Lib.hid (show ∀ W, SC w (.slice (some ⟨g, 0, none⟩) N cp) N (wl (bw b) k) W → SC w (.slice (some ⟨g, 0, none⟩) N cp) N (wl (bw b) k) W ∧ W.cell? ⟨g, k, none⟩ = some (.int .u32 (u (wl (bw b) k k))) ∧ W.cell? ⟨g, k + 1, none⟩ = some (.int .u32 (u (wl (bw b) k (k + 1)))) ∧ W.cell? ⟨g, k + 9, none⟩ = some (.int .u32 (u (wl (bw b) k (k + 9)))) ∧ W.cell? ⟨g, k + 14, none⟩ = some (.int .u32 (u (wl (bw b) k (k + 14)))) from fun W h =>
        ⟨h, h.cell k (by omega), h.cell (k + 1) (by omega), h.cell (k + 9) (by omega), h.cell (k + 14) (by omega)⟩)
      have HT := Lib.hid hsc
      have HN := Lib.hid hN
      have HX := Lib.hid (show wl (bw b) k k + sml (wl (bw b) k (k + 1)) 7 18 3 + wl (bw b) k (k + 9) + sml (wl (bw b) k (k + 14)) 17 19 10 = wl (bw b) (k + 1) N by
        rw [hN, wl_at]; unfold nextW
        rw [show 16 + k - 16 = k by omega, show 16 + k - 15 = k + 1 by omega, show 16 + k - 7 = k + 9 by omega, show 16 + k - 2 = k + 14 by omega])
      have HC := Lib.hid (show ∀ W, SC w (.slice (some ⟨g, 0, none⟩) N cp) N (wl (bw b) k) W → SC w (.slice (some ⟨g, 0, none⟩) N cp) N (wl (bw b) (k + 1)) W from fun W h => ⟨by rw [wordsOf_congr (g := wl (bw b) k) fun i hi => wl_lt (bw b) k i (by omega)]; exact h.own, h.bel⟩)
      have HC2 := Lib.hid (show ∀ W, SC w (.slice (some ⟨g, 0, none⟩) N cp) N (wl (bw b) (k + 1)) W → SC w (.slice (some ⟨g, 0, none⟩) N cp) N (wl (bw b) k) W from fun W h => ⟨by rw [← wordsOf_congr (g := wl (bw b) k) fun i hi => wl_lt (bw b) k i (by omega)]; exact h.own, h.bel⟩)
      clear hsc hN
      go_upto_region 5 with (fail)
      refine wp_region_noPanic ?_
      refine wp_region_start (n := 28) (l := #[false, false, false, false, false, false, false, false, false, false, false, false, false, false, false, false, false, false, false, false, false, false, false, false, false, false, false, false]) (S := (fun w' => SC w (.slice (some ⟨g, 0, none⟩) N cp) N (wl (bw b) k) w' ∧ w'.cell? ⟨g, k, none⟩ = some (.int .u32 (u (wl (bw b) k k))) ∧ w'.cell? ⟨g, k + 1, none⟩ = some (.int .u32 (u (wl (bw b) k (k + 1)))) ∧ w'.cell? ⟨g, k + 9, none⟩ = some (.int .u32 (u (wl (bw b) k (k + 9)))) ∧ w'.cell? ⟨g, k + 14, none⟩ = some (.int .u32 (u (wl (bw b) k (k + 14)))))) (by kernel_rfl) rfl (by kernel_rfl) (by (refine HD.out _ ?_; repeat (first | exact HT.out | apply SC.drew | apply SC.alloc | (refine SC.go ?_ (by assumption))))) (fun hHeld => ?_)
      refine take_to (i := 0) (d := some 15) (v := ?_) (l' := #[true, false, false, false, false, false, false, false, false, false, false, false, false, false, false, false, false, false, false, false, false, false, false, false, false, false, false, false]) rfl rfl (by kernel_rfl) (by kernel_rfl) (by kernel_rfl) (by kernel_rfl) (fun _ _ _ h => h) (Or.inl ⟨by rfl, ?_⟩) (by assumption) ?_; rotate_left; · (intro w' hSw; (try dsimp only at hSw); go_simp; (try with_reducible rfl))
      try simp only [Act.put, List.setIfInBounds_toArray, List.set_cons_zero, List.set_cons_succ]
      refine take_to (i := 1) (d := some 16) (v := ?_) (l' := #[true, true, false, false, false, false, false, false, false, false, false, false, false, false, false, false, false, false, false, false, false, false, false, false, false, false, false, false]) rfl rfl (by kernel_rfl) (by kernel_rfl) (by kernel_rfl) (by kernel_rfl) (fun _ _ _ h => h) (Or.inl ⟨by rfl, ?_⟩) (by assumption) ?_; rotate_left; · (intro w' hSw; (try dsimp only at hSw); go_simp; (try with_reducible rfl))
      try simp only [Act.put, List.setIfInBounds_toArray, List.set_cons_zero, List.set_cons_succ]
      refine take_to (i := 2) (d := some 17) (v := ?_) (l' := #[true, true, true, false, false, false, false, false, false, false, false, false, false, false, false, false, false, false, false, false, false, false, false, false, false, false, false, false]) rfl rfl (by kernel_rfl) (by kernel_rfl) (by kernel_rfl) (by kernel_rfl) (fun _ _ _ h => h) (Or.inl ⟨by rfl, ?_⟩) (by assumption) ?_; rotate_left; · (intro w' hSw; (try dsimp only at hSw); go_simp; (try with_reducible rfl))
      try simp only [Act.put, List.setIfInBounds_toArray, List.set_cons_zero, List.set_cons_succ]
      refine take_to (i := 3) (d := some 18) (v := ?_) (l' := #[true, true, true, true, false, false, false, false, false, false, false, false, false, false, false, false, false, false, false, false, false, false, false, false, false, false, false, false]) rfl rfl (by kernel_rfl) (by kernel_rfl) (by kernel_rfl) (by kernel_rfl) (fun _ _ _ h => h) (Or.inl ⟨by rfl, ?_⟩) (by assumption) ?_; rotate_left; · (intro w' hSw; (try dsimp only at hSw); go_simp; (try with_reducible rfl))
      try simp only [Act.put, List.setIfInBounds_toArray, List.set_cons_zero, List.set_cons_succ]
      refine take_to (i := 4) (d := some 19) (v := ?_) (l' := #[true, true, true, true, true, false, false, false, false, false, false, false, false, false, false, false, false, false, false, false, false, false, false, false, false, false, false, false]) rfl rfl (by kernel_rfl) (by kernel_rfl) (by kernel_rfl) (by kernel_rfl) (fun _ _ _ h => h) (Or.inl ⟨by rfl, ?_⟩) (by assumption) ?_; rotate_left; · (intro w' hSw; (try dsimp only at hSw); go_simp; (try with_reducible rfl))
      try simp only [Act.put, List.setIfInBounds_toArray, List.set_cons_zero, List.set_cons_succ]
      refine take_to (i := 5) (d := some 20) (v := ?_) (l' := #[true, true, true, true, true, true, false, false, false, false, false, false, false, false, false, false, false, false, false, false, false, false, false, false, false, false, false, false]) rfl rfl (by kernel_rfl) (by kernel_rfl) (by kernel_rfl) (by kernel_rfl) (fun _ _ _ h => h) (Or.inl ⟨by rfl, ?_⟩) (by assumption) ?_; rotate_left; · (intro w' hSw; (try dsimp only at hSw); go_simp; (try with_reducible rfl))
      try simp only [Act.put, List.setIfInBounds_toArray, List.set_cons_zero, List.set_cons_succ]
      refine take_to (i := 6) (d := some 21) (v := ?_) (l' := #[true, true, true, true, true, true, true, false, false, false, false, false, false, false, false, false, false, false, false, false, false, false, false, false, false, false, false, false]) rfl rfl (by kernel_rfl) (by kernel_rfl) (by kernel_rfl) (by kernel_rfl) (fun _ _ _ h => h) (Or.inl ⟨by rfl, ?_⟩) (by assumption) ?_; rotate_left; · (intro w' hSw; (try dsimp only at hSw); go_simp; (try with_reducible rfl))
      try simp only [Act.put, List.setIfInBounds_toArray, List.set_cons_zero, List.set_cons_succ]
      refine take_to (i := 7) (d := some 22) (v := ?_) (l' := #[true, true, true, true, true, true, true, true, false, false, false, false, false, false, false, false, false, false, false, false, false, false, false, false, false, false, false, false]) rfl rfl (by kernel_rfl) (by kernel_rfl) (by kernel_rfl) (by kernel_rfl) (fun _ _ _ h => h) (Or.inl ⟨by rfl, ?_⟩) (by assumption) ?_; rotate_left; · (intro w' hSw; (try dsimp only at hSw); go_simp; (try with_reducible rfl))
      try simp only [Act.put, List.setIfInBounds_toArray, List.set_cons_zero, List.set_cons_succ]
      refine take_to (i := 8) (d := some 23) (v := ?_) (l' := #[true, true, true, true, true, true, true, true, true, false, false, false, false, false, false, false, false, false, false, false, false, false, false, false, false, false, false, false]) rfl rfl (by kernel_rfl) (by kernel_rfl) (by kernel_rfl) (by kernel_rfl) (fun _ _ _ h => h) (Or.inl ⟨by rfl, ?_⟩) (by assumption) ?_; rotate_left; · (intro w' hSw; (try dsimp only at hSw); go_simp; (try with_reducible rfl))
      try simp only [Act.put, List.setIfInBounds_toArray, List.set_cons_zero, List.set_cons_succ]
      refine take_to (i := 9) (d := some 24) (v := ?_) (l' := #[true, true, true, true, true, true, true, true, true, true, false, false, false, false, false, false, false, false, false, false, false, false, false, false, false, false, false, false]) rfl rfl (by kernel_rfl) (by kernel_rfl) (by kernel_rfl) (by kernel_rfl) (fun _ _ _ h => h) (Or.inl ⟨by rfl, ?_⟩) (by assumption) ?_; rotate_left; · (intro w' hSw; (try dsimp only at hSw); go_simp; (try with_reducible rfl))
      try simp only [Act.put, List.setIfInBounds_toArray, List.set_cons_zero, List.set_cons_succ]
      refine take_to (i := 10) (d := some 25) (v := ?_) (l' := #[true, true, true, true, true, true, true, true, true, true, true, false, false, false, false, false, false, false, false, false, false, false, false, false, false, false, false, false]) rfl rfl (by kernel_rfl) (by kernel_rfl) (by kernel_rfl) (by kernel_rfl) (fun _ _ _ h => h) (Or.inl ⟨by rfl, ?_⟩) (by assumption) ?_; rotate_left; · (intro w' hSw; (try dsimp only at hSw); go_simp; (try with_reducible rfl))
      try simp only [Act.put, List.setIfInBounds_toArray, List.set_cons_zero, List.set_cons_succ]
      refine take_to (i := 12) (d := some 27) (v := ?_) (l' := #[true, true, true, true, true, true, true, true, true, true, true, false, true, false, false, false, false, false, false, false, false, false, false, false, false, false, false, false]) rfl rfl (by kernel_rfl) (by kernel_rfl) (by kernel_rfl) (by kernel_rfl) (fun _ _ _ h => h) (Or.inl ⟨by rfl, ?_⟩) (by assumption) ?_; rotate_left; · (intro w' hSw; (try dsimp only at hSw); go_simp; (try with_reducible rfl))
      try simp only [Act.put, List.setIfInBounds_toArray, List.set_cons_zero, List.set_cons_succ]
      refine take_to (i := 13) (d := some 28) (v := ?_) (l' := #[true, true, true, true, true, true, true, true, true, true, true, false, true, true, false, false, false, false, false, false, false, false, false, false, false, false, false, false]) rfl rfl (by kernel_rfl) (by kernel_rfl) (by kernel_rfl) (by kernel_rfl) (fun _ _ _ h => h) (Or.inl ⟨by rfl, ?_⟩) (by assumption) ?_; rotate_left; · (intro w' hSw; (try dsimp only at hSw); go_simp; (try with_reducible rfl))
      try simp only [Act.put, List.setIfInBounds_toArray, List.set_cons_zero, List.set_cons_succ]
      refine take_to (i := 14) (d := some 29) (v := ?_) (l' := #[true, true, true, true, true, true, true, true, true, true, true, false, true, true, true, false, false, false, false, false, false, false, false, false, false, false, false, false]) rfl rfl (by kernel_rfl) (by kernel_rfl) (by kernel_rfl) (by kernel_rfl) (fun _ _ _ h => h) (Or.inl ⟨by rfl, ?_⟩) (by assumption) ?_; rotate_left; · (intro w' hSw; (try dsimp only at hSw); go_simp; (try with_reducible rfl))
      try simp only [Act.put, List.setIfInBounds_toArray, List.set_cons_zero, List.set_cons_succ]
      refine take_to (i := 15) (d := some 30) (v := ?_) (l' := #[true, true, true, true, true, true, true, true, true, true, true, false, true, true, true, true, false, false, false, false, false, false, false, false, false, false, false, false]) rfl rfl (by kernel_rfl) (by kernel_rfl) (by kernel_rfl) (by kernel_rfl) (fun _ _ _ h => h) (Or.inl ⟨by rfl, ?_⟩) (by assumption) ?_; rotate_left; · (intro w' hSw; (try dsimp only at hSw); go_simp; (try with_reducible rfl))
      try simp only [Act.put, List.setIfInBounds_toArray, List.set_cons_zero, List.set_cons_succ]
      refine take_to (i := 16) (d := some 31) (v := ?_) (l' := #[true, true, true, true, true, true, true, true, true, true, true, false, true, true, true, true, true, false, false, false, false, false, false, false, false, false, false, false]) rfl rfl (by kernel_rfl) (by kernel_rfl) (by kernel_rfl) (by kernel_rfl) (fun _ _ _ h => h) (Or.inl ⟨by rfl, ?_⟩) (by assumption) ?_; rotate_left; · (intro w' hSw; (try dsimp only at hSw); go_simp; (try with_reducible rfl))
      try simp only [Act.put, List.setIfInBounds_toArray, List.set_cons_zero, List.set_cons_succ]
      refine take_to (i := 17) (d := some 32) (v := ?_) (l' := #[true, true, true, true, true, true, true, true, true, true, true, false, true, true, true, true, true, true, false, false, false, false, false, false, false, false, false, false]) rfl rfl (by kernel_rfl) (by kernel_rfl) (by kernel_rfl) (by kernel_rfl) (fun _ _ _ h => h) (Or.inl ⟨by rfl, ?_⟩) (by assumption) ?_; rotate_left; · (intro w' hSw; (try dsimp only at hSw); go_simp; (try with_reducible rfl))
      try simp only [Act.put, List.setIfInBounds_toArray, List.set_cons_zero, List.set_cons_succ]
      refine take_to (i := 18) (d := some 33) (v := ?_) (l' := #[true, true, true, true, true, true, true, true, true, true, true, false, true, true, true, true, true, true, true, false, false, false, false, false, false, false, false, false]) rfl rfl (by kernel_rfl) (by kernel_rfl) (by kernel_rfl) (by kernel_rfl) (fun _ _ _ h => h) (Or.inl ⟨by rfl, ?_⟩) (by assumption) ?_; rotate_left; · (intro w' hSw; (try dsimp only at hSw); go_simp; (try with_reducible rfl))
      try simp only [Act.put, List.setIfInBounds_toArray, List.set_cons_zero, List.set_cons_succ]
      refine take_to (i := 19) (d := some 34) (v := ?_) (l' := #[true, true, true, true, true, true, true, true, true, true, true, false, true, true, true, true, true, true, true, true, false, false, false, false, false, false, false, false]) rfl rfl (by kernel_rfl) (by kernel_rfl) (by kernel_rfl) (by kernel_rfl) (fun _ _ _ h => h) (Or.inl ⟨by rfl, ?_⟩) (by assumption) ?_; rotate_left; · (intro w' hSw; (try dsimp only at hSw); go_simp; (try with_reducible rfl))
      try simp only [Act.put, List.setIfInBounds_toArray, List.set_cons_zero, List.set_cons_succ]
      refine take_to (i := 20) (d := some 35) (v := ?_) (l' := #[true, true, true, true, true, true, true, true, true, true, true, false, true, true, true, true, true, true, true, true, true, false, false, false, false, false, false, false]) rfl rfl (by kernel_rfl) (by kernel_rfl) (by kernel_rfl) (by kernel_rfl) (fun _ _ _ h => h) (Or.inl ⟨by rfl, ?_⟩) (by assumption) ?_; rotate_left; · (intro w' hSw; (try dsimp only at hSw); go_simp; (try with_reducible rfl))
      try simp only [Act.put, List.setIfInBounds_toArray, List.set_cons_zero, List.set_cons_succ]
      refine take_to (i := 21) (d := some 36) (v := ?_) (l' := #[true, true, true, true, true, true, true, true, true, true, true, false, true, true, true, true, true, true, true, true, true, true, false, false, false, false, false, false]) rfl rfl (by kernel_rfl) (by kernel_rfl) (by kernel_rfl) (by kernel_rfl) (fun _ _ _ h => h) (Or.inl ⟨by rfl, ?_⟩) (by assumption) ?_; rotate_left; · (intro w' hSw; (try dsimp only at hSw); go_simp; (try with_reducible rfl))
      try simp only [Act.put, List.setIfInBounds_toArray, List.set_cons_zero, List.set_cons_succ]
      refine one_to (i := 11) (l' := #[true, true, true, true, true, true, true, true, true, true, true, true, true, true, true, true, true, true, true, true, true, true, false, false, false, false, false, false]) rfl (by kernel_rfl) (by kernel_rfl) (fun K hK => ?_)
      go_simp
      refine (ref_small_a _ _).mono ?_
      rintro e w3 ⟨rfl, hb3⟩
      dsimp only
      refine hK.out _ _ (by (refine HD.out _ ?_; repeat (first | exact HT.out | apply SC.drew | apply SC.alloc | (refine SC.go ?_ (by assumption))))) (fun hHeld => ?_)
      clear hK K
      try simp only [Act.put, List.setIfInBounds_toArray, List.set_cons_zero, List.set_cons_succ]
      refine one_to (i := 22) (l' := #[true, true, true, true, true, true, true, true, true, true, true, true, true, true, true, true, true, true, true, true, true, true, true, false, false, false, false, false]) rfl (by kernel_rfl) (by kernel_rfl) (fun K hK => ?_)
      go_simp
      refine (ref_small_b _ _).mono ?_
      rintro e w4 ⟨rfl, hb4⟩
      dsimp only
      refine hK.out _ _ (by (refine HD.out _ ?_; repeat (first | exact HT.out | apply SC.drew | apply SC.alloc | (refine SC.go ?_ (by assumption))))) (fun hHeld => ?_)
      clear hK K
      try simp only [Act.put, List.setIfInBounds_toArray, List.set_cons_zero, List.set_cons_succ]
      refine one_to (i := 23) (l' := #[true, true, true, true, true, true, true, true, true, true, true, true, true, true, true, true, true, true, true, true, true, true, true, true, false, false, false, false]) rfl (by kernel_rfl) (by kernel_rfl) (fun K hK => ?_)
      go_simp
      refine hK.out _ _ (by (refine HD.out _ ?_; repeat (first | exact HT.out | apply SC.drew | apply SC.alloc | (refine SC.go ?_ (by assumption))))) (fun hHeld => ?_)
      clear hK K
      try simp only [Act.put, List.setIfInBounds_toArray, List.set_cons_zero, List.set_cons_succ]
      refine one_to (i := 24) (l' := #[true, true, true, true, true, true, true, true, true, true, true, true, true, true, true, true, true, true, true, true, true, true, true, true, true, false, false, false]) rfl (by kernel_rfl) (by kernel_rfl) (fun K hK => ?_)
      go_simp
      refine (ref_sum4 _ _ _ _ _ _ _ (laid_at rfl)).mono ?_
      rintro e w5 ⟨rfl, rfl⟩; rw [HX.out]
      dsimp only
      refine hK.out _ _ (by (refine HD.out _ ?_; repeat (first | exact HT.out | apply SC.drew | apply SC.alloc | (refine SC.go ?_ (by assumption))))) (fun hHeld => ?_)
      clear hK K
      try simp only [Act.put, List.setIfInBounds_toArray, List.set_cons_zero, List.set_cons_succ]
      refine one_to (i := 25) (l' := #[true, true, true, true, true, true, true, true, true, true, true, true, true, true, true, true, true, true, true, true, true, true, true, true, true, true, false, false]) rfl (by kernel_rfl) (by kernel_rfl) (fun K hK => ?_)
      go_simp
      refine hK.out _ _ (by (refine HD.out _ ?_; repeat (first | exact HT.out | apply SC.drew | apply SC.alloc | (refine SC.go ?_ (by assumption))))) (fun hHeld => ?_)
      clear hK K
      try simp only [Act.put, List.setIfInBounds_toArray, List.set_cons_zero, List.set_cons_succ]
      refine one_to (i := 26) (l' := #[true, true, true, true, true, true, true, true, true, true, true, true, true, true, true, true, true, true, true, true, true, true, true, true, true, true, true, false]) rfl (by kernel_rfl) (by kernel_rfl) (fun K hK => ?_)
      rw [if_pos (by rfl)]
      refine wp_append_word (n := N) (f := wl (bw b) (k + 1)) rfl rfl rfl (by simp) (HC.out _ (by repeat (first | exact HT.out | apply SC.drew | apply SC.alloc | (refine SC.go ?_ (by assumption))))) (by omega) ?_
      intro v' w7 hs1 hs2
      refine hK.out _ _ (by exact HD.out _ (HC2.out _ hs2)) (fun hHeld => ?_)
      clear hK K
      try simp only [Act.put, List.setIfInBounds_toArray, List.set_cons_zero, List.set_cons_succ]
      refine take_to (i := 27) (d := some 3) (v := ?_) (l' := #[true, true, true, true, true, true, true, true, true, true, true, true, true, true, true, true, true, true, true, true, true, true, true, true, true, true, true, true]) rfl rfl (by kernel_rfl) (by kernel_rfl) (by kernel_rfl) (by kernel_rfl) (fun _ _ _ h => h) (Or.inl ⟨by rfl, ?_⟩) (by assumption) ?_; rotate_left; · (intro w' hSw; (try dsimp only at hSw); go_simp; (try with_reducible rfl))
      try simp only [Act.put, List.setIfInBounds_toArray, List.set_cons_zero, List.set_cons_succ]
      refine wpAnyH_done (by kernel_rfl) ?_ _
      refine NoPanic.normal ?_
      have HS1 := Lib.hid (show SC w v' (16 + (k + 1)) (wl (bw b) (k + 1)) w7 by rw [show 16 + (k + 1) = N + 1 by have := HN.out; omega]; exact hs1)
      clear hs1 hs2 hHeld HD HC HC2 HT HX
      go_wp2
      go_roundw
      case rel => exact ⟨k + 1, by omega, by go_num, HS1.out⟩
      case measure => simp [intOf]; omega
    · obtain rfl : k = 48 := by omega
      have H2 := Lib.hid hsc
      clear hsc
      go_wp2
      go_ret
      exact ⟨_, rfl, H2.out.bel, H2.out.own⟩
end Go.Proofs.YtejknkgbkkdaiaaGreatDoor

namespace Go.Proofs.YtejknkgbkkdaiaaGreatDoor
open Go.RowKit
set_option linter.unusedVariables false
set_option linter.unusedSimpArgs false

theorem sliceElem : Tryz.prog.underlying 22 = some (.slice (Tryz.prog.elem 22)) := by kernel_rfl
theorem sliceSize : Tryz.prog.elem 22 = 5 := by kernel_rfl
theorem infoU8 : (Tryz.prog.info? 5).map (·.size) = some 1 := by kernel_rfl
theorem sizeU8 (w : World) : (sizeOf 5).run Tryz.prog w = .ok 1 w := by
  cases hq : Tryz.prog.info? 5 with
  | none => have := infoU8; rw [hq] at this; cases this
  | some i =>
    have h := infoU8
    rw [hq] at h
    have hs : i.size = 1 := by simpa using h
    simp [sizeOf, typeInfo, hq, hs]
theorem piece_addr {B : Nat} {W : World} {p : Option Addr} {n c q : Nat} {f : Nat → Value} (hc : n ≤ c) (m : Nat) (hq : q + m ≤ n) (x : Nat) (hx : x ≤ c) (hxm : q + m ≤ x) (hr : Reads B W p n f) :
    Reads B W (if x = q then p else p.map (·.add (q * 1))) m (fun i => f (q + i)) := by
  by_cases hm : m = 0
  · exact .inl hm
  · rcases hr with h | ⟨b, off, rfl, hb, hcell⟩
    · omega
    · rw [if_neg (by omega)]
      refine .inr ⟨b, off + q, ?_, hb, fun i hi => ?_⟩
      · simp [Addr.add_lit]
      · rw [Nat.add_assoc]; exact hcell (q + i) (by omega)
/-- s[:q] -/
theorem slice_to (p : Option Addr) (n c q : Nat) (hq : q ≤ n) (hc : n ≤ c) :
    ∃ p1, (∀ W, (Instr.slice 22 (.slice p n c) none (some (.int .i64 (q : Int))) none).run Tryz.prog W = .ok (.slice p1 q c) W) ∧ ∀ B W f, Reads B W p n f → Reads B W p1 q f := by
  refine ⟨if c = 0 then p else p.map (·.add (0 * 1)), fun W => ?_, fun B W f hr => ?_⟩
  · rw [run_slice_h W 22 p n c sliceElem .i64 q (by omega) (by omega), sliceSize, sizeU8]
    simp [sliced]
  · have := piece_addr (q := 0) hc q (by omega) c (Nat.le_refl _) (by omega) hr
    simpa using this
/-- s[q:] -/
theorem slice_from (p : Option Addr) (n c q : Nat) (hq : q ≤ n) (hc : n ≤ c) :
    ∃ p1, (∀ W, (Instr.slice 22 (.slice p n c) (some (.int .i64 (q : Int))) none none).run Tryz.prog W = .ok (.slice p1 (n - q) (c - q)) W) ∧ ∀ B W f, Reads B W p n f → Reads B W p1 (n - q) (fun i => f (q + i)) := by
  refine ⟨if c = q then p else p.map (·.add (q * 1)), fun W => ?_, fun B W f hr => piece_addr hc (n - q) (by omega) c (Nat.le_refl _) (by omega) hr⟩
  rw [run_slice_l W 22 p n c sliceElem .i64 q (by omega) (by omega), sliceSize, sizeU8]
  simp [sliced]
/-- s[q:r] -/
theorem slice_mid (p : Option Addr) (n c q r : Nat) (hq : q ≤ r) (hr : r ≤ n) (hc : n ≤ c) :
    ∃ p1, (∀ W, (Instr.slice 22 (.slice p n c) (some (.int .i64 (q : Int))) (some (.int .i64 (r : Int))) none).run Tryz.prog W = .ok (.slice p1 (r - q) (c - q)) W) ∧ ∀ B W f, Reads B W p n f → Reads B W p1 (r - q) (fun i => f (q + i)) := by
  refine ⟨if c = q then p else p.map (·.add (q * 1)), fun W => ?_, fun B W f h => piece_addr hc (r - q) (by omega) c (Nat.le_refl _) (by omega) h⟩
  rw [run_slice_lh W 22 p n c sliceElem .i64 .i64 q r (by omega) (by omega) (by omega), sliceSize, sizeU8]
  simp [sliced]
end Go.Proofs.YtejknkgbkkdaiaaGreatDoor
