/-
  Merged: RefSha, RefOf.
-/
import Derived.Test.YtejknkgbkkdaiaaGreatDoorG10
import Derived.Test.YtejknkgbkkdaiaaGreatDoorG11
import Derived.Test.YtejknkgbkkdaiaaGreatDoorG4
import Derived.Test.YtejknkgbkkdaiaaGreatDoorSpread

namespace Go.Proofs.YtejknkgbkkdaiaaGreatDoor
open Go.RowKit
set_option linter.unusedVariables false
set_option linter.unusedSimpArgs false

theorem owns_nil_alloc {w : World} {e : TypeId} : (w.alloc (.cells #[] e)).ownsRow w.heap.size e 1 (.slice (some ⟨w.heap.size, 0, none⟩) 0 0) 0 [] := World.ownsRow_lit w #[] 0 (Nat.le_refl _) (by decide) rfl
theorem cellsOf_congr {f g : Nat → BitVec 8} {n : Nat} (h : ∀ i, i < n → f i = g i) : cellsOf f n = cellsOf g n :=
  List.map_congr_left fun i hi => by rw [h i (List.mem_range.1 hi)]
theorem cellsOf_add (f : Nat → BitVec 8) (n m : Nat) : cellsOf f n ++ (List.range m).map (fun j => .int .u8 (ub (f (n + j)))) = cellsOf f (n + m) := by
  unfold cellsOf
  rw [List.range_add, List.map_append, List.map_map]
  rfl

/-! rows, one behind the other -/
set_option maxHeartbeats 1000000 in
set_option maxRecDepth 100000 in
theorem join_any (B : Nat) (w : World) (p : Option Addr) (m c : Nat) (P : Nat → Option Addr) (ln C : Nat → Nat) (f : Nat → Nat → BitVec 8) (g : Nat → BitVec 8) (hB : B ≤ w.heap.size) (hm : m ≤ 4294967295) (hn : pos ln m ≤ 4294967295)
    (hp : Reads B w p m (fun i => .slice (P i) (ln i) (C i))) (hr : ∀ i, i < m → Reads B w (P i) (ln i) (fun j => .int .u8 (ub (f i j)))) (hg : ∀ i, i < m → ∀ j, j < ln i → f i j = g (pos ln i + j)) :
    Calls Tryz.prog 29 #[.slice p m c] w fun e w' => ∃ v, e = .returned v ∧ Below w.heap.size w w' ∧ w'.ownsRow w.heap.size 5 1 v (pos ln m) (cellsOf g (pos ln m)) := by
  obtain ⟨i0, hi, hz0, hz1, hz2⟩ := info_parts Tryz.infoB
  have HP := Lib.hid hp
  have HR := Lib.hid hr
  have HG := Lib.hid hg
  have HN := Lib.hid hn
  have how := owns_nil_alloc (w := w) (e := 5)
  have HO := Lib.hid how
  clear hp hr hg hn how
  go_enter Tryz.func29, Tryz.ntmps29
  go_wp2
  go_loopw [3, 4] (fun v i wr => ∃ k : Nat, k ≤ m ∧ i = .int .i64 (k : Int) ∧ Below w.heap.size w wr ∧ wr.ownsRow w.heap.size 5 1 v (pos ln k) (cellsOf g (pos ln k))) (fun _ i _ => m - (intOf i).toNat)
  case atStart => exact ⟨0, Nat.zero_le _, rfl, (Below.refl _ _).alloc (Nat.le_refl _) _, HO.out⟩
  case round =>
    clear HO
    obtain ⟨k, hk, rfl, hb, hown⟩ := hrel
    by_cases hlt : k < m
    · rcases HP.out.below (hb.mono hB) with h0 | ⟨b, off, rfl, hbb, hcp⟩
      · omega
      have hcell := hcp k hlt
      have hmo := pos_mono ln (show k + 1 ≤ m by omega)
      simp only [pos] at hmo
      have hsz := hb.size
      have hle := HN.out
      have hap := fun ty => append_reads (P := Tryz.prog) wr w.heap.size B 22 ty 5 i0 (.int .u8 0) 1 Tryz.underlying22 hi hz0 hz1 hz2 rfl _ _ _ hown (P k) (ln k) (C k) _ ((HR.out k hlt).below (hb.mono hB)) (fun _ _ => rfl) (by unfold maxLen; omega) (by omega) hsz
      have HAP := Lib.hid hap
      have HB := Lib.hid hb
      have HO := Lib.hid hown
      clear hcp hap hb hown hmo hle
      go_wp2_with (at_builtin; (obtain ⟨v', w1, hrun, hown1, hgr1⟩ := HAP.out _; refine Lib.wpList_append_run _ rfl _ _ _ _ rfl _ _ rfl rfl v' w1 hrun ?_))
      have H2 := Lib.hid (HB.out.grown hgr1 hsz (fun q e => (HO.out.lt q e).1))
      have H3 := Lib.hid (show w1.ownsRow w.heap.size 5 1 v' (pos ln (k + 1)) (cellsOf g (pos ln (k + 1))) by
        rw [show (List.range (ln k)).map (fun j => Value.int .u8 (ub (f k j))) = (List.range (ln k)).map (fun j => Value.int .u8 (ub (g (pos ln k + j)))) from List.map_congr_left fun j hj => by rw [HG.out k hlt j (List.mem_range.1 hj)], cellsOf_add] at hown1
        exact hown1)
      clear hrun hown1 hgr1 hcell
      go_wp2
      go_roundw
      case rel => exact ⟨k + 1, by omega, by go_num, H2.out, H3.out⟩
      case measure => simp [intOf]; omega
    · obtain rfl : k = m := by omega
      have H2 := Lib.hid hb
      have H3 := Lib.hid hown
      clear hb hown
      go_wp2
      go_ret
      exact ⟨_, rfl, H2.out, H3.out⟩

/-! the filled bytes -/
/-- how many elements a slice has -/
def lenOf : Value → Nat
  | .slice _ n _ => n
  | _ => 0
theorem owns_slice {w : World} {base : Nat} {e : TypeId} {size : Nat} {v : Value} {n : Nat} {xs : List Value} (h : w.ownsRow base e size v n xs) : ∃ p c, v = .slice p n c ∧ n ≤ c ∧ c ≤ maxLen := by
  rcases h.2 with ⟨rfl, rfl⟩ | ⟨g, cap, cur, rfl, h1, h2, h3, h4, _⟩
  · exact ⟨none, 0, rfl, Nat.le_refl _, by unfold maxLen; omega⟩
  · exact ⟨_, cap, rfl, h3, h4⟩
theorem full_lo (n : Nat) : n + 1 ≤ full n - 8 ∧ full n - 8 ≤ n + 64 ∧ (full n - 8) % 64 = 56 ∧ 8 ≤ full n := by unfold full; omega
theorem full_at (n j : Nat) (h1 : n + 1 ≤ j) (h2 : j ≤ full n - 8) : (j % 64 = 56) ↔ j = full n - 8 := by unfold full at *; omega
/-- one byte is appended to an owned row -/
theorem append_byte (w : World) (base : Nat) (ty : TypeId) (v : Value) (n : Nat) (f : Nat → BitVec 8) (hown : w.ownsRow base 5 1 v n (cellsOf f n)) (x : Value) (hx : x = .int .u8 (ub (f n))) (hn : n + 1 ≤ 4294967296) (hbase : base ≤ w.heap.size) :
    ∃ v' w', (Builtin.append_ #[22, 22] ty #[v, .slice (some ⟨w.heap.size, 0, none⟩) 1 1]).run Tryz.prog (w.alloc (.cells #[x] 5)) = .ok v' w' ∧ w'.ownsRow base 5 1 v' (n + 1) (cellsOf f (n + 1)) ∧ w.grownBy w' v.ownBlock := by
  obtain ⟨i0, hi, hz0, hz1, hz2⟩ := info_parts Tryz.infoB
  subst hx
  obtain ⟨v', w', h1, h2, h3⟩ := append_reads (P := Tryz.prog) (w.alloc (.cells #[.int .u8 (ub (f n))] 5)) base _ 22 ty 5 i0 (.int .u8 0) 1 Tryz.underlying22 hi hz0 hz1 hz2 rfl _ _ _ (hown.alloc _) (some ⟨w.heap.size, 0, none⟩) 1 1 (fun _ => .int .u8 (ub (f n)))
    (reads_laid (laid_at rfl) (fun i hi => by rw [show i = 0 by omega]; rfl)) (fun _ _ => rfl) (by unfold maxLen; omega) (by omega) (by simp; omega)
  refine ⟨v', w', h1, ?_, (World.grownBy_alloc w _ _).trans h3⟩
  rw [show (List.range 1).map (fun _ : Nat => Value.int .u8 (ub (f n))) = [Value.int .u8 (ub (f n))] from rfl, cellsOf_succ] at h2
  exact h2
theorem len_byte (n m : Nat) (hn : n ≤ 4294967296) (hm : m < 8) : IntKind.u8.wrap ((8 * (n : Int)) / 2 ^ (8 * (7 - m))) = ub (wb (lenw n) m) := by
  unfold ub wb lenw
  rw [IntKind.wrap_u8, BitVec.toNat_setWidth, BitVec.toNat_ushiftRight, Nat.shiftRight_eq_div_pow]
  match m, hm with
  | 0, _ => simp only [fst3, BitVec.toNat_ofNat, Nat.reduceMod, Nat.reduceMul, Nat.reduceSub, Nat.reducePow, Nat.reduceDiv, Int.reducePow, Nat.reduceAdd]; omega
  | 1, _ => simp only [fst3, BitVec.toNat_ofNat, Nat.reduceMod, Nat.reduceMul, Nat.reduceSub, Nat.reducePow, Nat.reduceDiv, Int.reducePow, Nat.reduceAdd]; omega
  | 2, _ => simp only [fst3, BitVec.toNat_ofNat, Nat.reduceMod, Nat.reduceMul, Nat.reduceSub, Nat.reducePow, Nat.reduceDiv, Int.reducePow, Nat.reduceAdd]; omega
  | 3, _ => simp only [fst3, BitVec.toNat_ofNat, Nat.reduceMod, Nat.reduceMul, Nat.reduceSub, Nat.reducePow, Nat.reduceDiv, Int.reducePow, Nat.reduceAdd]; omega
  | 4, _ => simp only [fst3, BitVec.toNat_ofNat, Nat.reduceMod, Nat.reduceMul, Nat.reduceSub, Nat.reducePow, Nat.reduceDiv, Int.reducePow, Nat.reduceAdd]; omega
  | 5, _ => simp only [fst3, BitVec.toNat_ofNat, Nat.reduceMod, Nat.reduceMul, Nat.reduceSub, Nat.reducePow, Nat.reduceDiv, Int.reducePow, Nat.reduceAdd]; omega
  | 6, _ => simp only [fst3, BitVec.toNat_ofNat, Nat.reduceMod, Nat.reduceMul, Nat.reduceSub, Nat.reducePow, Nat.reduceDiv, Int.reducePow, Nat.reduceAdd]; omega
  | 7, _ => simp only [fst3, BitVec.toNat_ofNat, Nat.reduceMod, Nat.reduceMul, Nat.reduceSub, Nat.reducePow, Nat.reduceDiv, Int.reducePow, Nat.reduceAdd]; omega
set_option maxHeartbeats 2000000 in
set_option maxRecDepth 100000 in
theorem filled_any (B : Nat) (w : World) (p : Option Addr) (n c : Nat) (g : Nat → BitVec 8) (hB : B ≤ w.heap.size) (hn : n ≤ 2147483648) (hr : Reads B w p n (fun i => .int .u8 (ub (g i)))) :
    Calls Tryz.prog 59 #[.slice p n c] w fun e w' => ∃ v, e = .returned v ∧ Below w.heap.size w w' ∧ w'.ownsRow w.heap.size 5 1 v (full n) (cellsOf (fillB g n) (full n)) := by
  obtain ⟨i0, hi, hz0, hz1, hz2⟩ := info_parts Tryz.infoB
  obtain ⟨hf1, hf2, hf3, hf4⟩ := full_lo n
  have F3 := Lib.hid hf3
  clear hf3
  have HR := Lib.hid hr
  clear hr
  go_enter Tryz.func59, Tryz.ntmps59
  go_upto_region 1 with (fail)
  refine wp_region_lit ?_
  refine wpList_plain rfl (fun K hK => ?_)
  go_simp
  refine hK _ _ ?_
  clear hK K
  refine wpList_plain rfl (fun K hK => ?_)
  go_simp
  refine hK _ _ ?_
  clear hK K
  obtain ⟨v1, W1, hrun1, hown1, hgr1⟩ := append_reads (P := Tryz.prog) (w.alloc (.cells #[] 5)) w.heap.size B 22 22 5 i0 (.int .u8 0) 1 Tryz.underlying22 hi hz0 hz1 hz2 rfl _ _ _ owns_nil_alloc p n c (fun i => .int .u8 (ub (g i))) (HR.out.below ((Below.refl _ _).alloc (by omega) _)) (fun _ _ => rfl) (by unfold maxLen; omega) (by omega) (by simp)
  refine Lib.wpList_append_run _ rfl _ _ _ _ rfl _ _ rfl rfl v1 W1 hrun1 ?_
  have hb1 : Below w.heap.size w W1 := ((Below.refl _ _).alloc (Nat.le_refl _) _).grown hgr1 (by simp) (by rintro q ⟨⟩; exact Nat.le_refl _)
  have q1 := hb1.size
  rw [Nat.zero_add, List.nil_append, show (List.range n).map (fun i => Value.int .u8 (ub (g i))) = cellsOf (fillB g n) n from cellsOf_congr fun i hi => by unfold fillB; rw [if_pos hi]] at hown1
  obtain ⟨v2, W2, hrun2, hown2, hgr2⟩ := append_byte W1 w.heap.size 22 v1 n (fillB g n) hown1 (.int .u8 128) (by unfold fillB; rw [if_neg (by omega), if_pos rfl]; rfl) (by omega) q1
  have hb2 : Below w.heap.size w W2 := hb1.grown hgr2 q1 (fun q e => (hown1.lt q e).1)
  clear hrun1 hgr1
  refine wpList_plain rfl (fun K hK => ?_)
  go_simp
  refine hK _ _ ?_
  clear hK K
  refine Lib.wpList_append_run _ rfl _ _ _ _ rfl _ _ rfl rfl v2 W2 hrun2 ?_
  have HB2 := Lib.hid hb2
  have HO2 := Lib.hid hown2
  clear hrun2 hgr2 hown1 hown2 hb1 hb2
  go_wp2
  go_loopw [3] (fun v wr => ∃ j : Nat, n + 1 ≤ j ∧ j ≤ full n - 8 ∧ Below w.heap.size w wr ∧ wr.ownsRow w.heap.size 5 1 v j (cellsOf (fillB g n) j)) (fun v _ => full n - 8 - lenOf v)
  case atStart => exact ⟨n + 1, Nat.le_refl _, hf1, HB2.out, HO2.out⟩
  case round =>
    clear HB2 HO2
    obtain ⟨j, hj1, hj2, hb, hown⟩ := hrel
    obtain ⟨pj, cj, rfl, hcj, hmj⟩ := owns_slice hown
    have hsz := hb.size
    have hat := full_at n j hj1 hj2
    by_cases hlt : j < full n - 8
    · have hne : ((j : Int) % 64 == 56) = false := by simp; omega
      have hap := append_byte wr w.heap.size 22 (.slice pj j cj) j (fillB g n) hown (.int .u8 0) (by unfold fillB; rw [if_neg (by omega), if_neg (by omega), if_pos hlt]; rfl) (by omega) hsz
      have HAP := Lib.hid hap
      have HB := Lib.hid hb
      have HO := Lib.hid hown
      clear hap hb hown hat
      go_wp2_with (at_builtin; (obtain ⟨v', w1, hrun, hown1, hgr1⟩ := HAP.out; refine Lib.wpList_append_run _ rfl _ _ _ _ rfl _ _ rfl rfl v' w1 hrun ?_))
      have H2 := Lib.hid (HB.out.grown hgr1 hsz (fun q e => (HO.out.lt q e).1))
      obtain ⟨p5, c5, rfl, _, _⟩ := owns_slice hown1
      have H3 := Lib.hid hown1
      clear hrun hown1 hgr1
      go_wp2
      go_roundw
      case rel => exact ⟨j + 1, by omega, by omega, H2.out, H3.out⟩
      case measure => simp [lenOf]; omega
    · obtain rfl : j = full n - 8 := by omega
      have heq : (((full n - 8 : Nat) : Int) % 64 != 56) = false := by simp; have := F3.out; omega
      have HB := Lib.hid hb
      have HO := Lib.hid hown
      clear hb hown hat
      go_wp2
      go_loopw [3, 5] (fun v i wr => ∃ m : Nat, m ≤ 8 ∧ i = .int .i64 (7 - m) ∧ Below w.heap.size w wr ∧ wr.ownsRow w.heap.size 5 1 v (full n - 8 + m) (cellsOf (fillB g n) (full n - 8 + m))) (fun _ i _ => (intOf i + 1).toNat)
      case atStart => exact ⟨0, Nat.zero_le _, by go_num, HB.out, HO.out⟩
      case round =>
        clear HB HO heq
        obtain ⟨m, hm, rfl, hb, hown⟩ := hrel
        have hsz := hb.size
        by_cases hlt : m < 8
        · have hby := len_byte n m (by omega) hlt
          have hfb : fillB g n (full n - 8 + m) = wb (lenw n) m := by unfold fillB; rw [if_neg (by omega), if_neg (by omega), if_neg (by omega)]; congr 1; omega
          have HAP := Lib.hid (fun x hx => append_byte wr w.heap.size 22 _ (full n - 8 + m) (fillB g n) hown x hx (by omega) hsz)
          have HB := Lib.hid hb
          have HO := Lib.hid hown
          have HBY := Lib.hid hby
          have HFB := Lib.hid hfb
          clear hb hown hby hfb
          go_wp2_with (at_builtin; (obtain ⟨v', w1, hrun, hown1, hgr1⟩ := HAP.out (.int .u8 (8 * (n : Int) / 2 ^ (8 * (7 - m)) % 256)) (by rw [HFB.out, ← HBY.out, IntKind.wrap_u8]); refine Lib.wpList_append_run _ rfl _ _ _ _ rfl _ _ rfl rfl v' w1 hrun ?_))
          have H2 := Lib.hid (HB.out.grown hgr1 hsz (fun q e => (HO.out.lt q e).1))
          have H3 := Lib.hid hown1
          clear hrun hown1 hgr1
          go_wp2
          go_roundw
          case rel => exact ⟨m + 1, by omega, by go_num, H2.out, H3.out⟩
          case measure => simp [intOf]; omega
        · obtain rfl : m = 8 := by omega
          have HB := Lib.hid hb
          have HO := Lib.hid hown
          clear hb hown
          go_wp2
          go_ret
          have h8 := HO.out
          rw [show full n - 8 + 8 = full n by omega] at h8
          exact ⟨_, rfl, HB.out, h8⟩

/-! a block's words -/
theorem ref_mix2 (x : BitVec 32) (i j : Int) (W : World) (H : Nat) (t : TypeId) (hW : W.heap[H]? = some (.cells #[.int .i64 i, .int .i64 j] t (0, 0))) (a b : Nat) (hi : (i % 32).toNat = a) (hj : (j % 32).toNat = b) (hi2 : 0 ≤ i ∧ i ≤ 64) (hj2 : 0 ≤ j ∧ j ≤ 64) :
    Calls Tryz.prog 64 #[.int .u32 (u x), .slice (some ⟨H, 0, none⟩) 2 2] W fun e w' => e = .returned (.int .u32 (u (turn x a ^^^ turn x b))) ∧ W = w' := by
  subst hi hj
  have h := ref_mix _ x (some ⟨H, 0, none⟩) 2 2 (fst3 i j j) W (by omega) (fun k hk => by
    match k, hk with
    | 0, _ => exact ⟨by show _ ≤ i; omega, by show i ≤ _; omega⟩
    | 1, _ => exact ⟨by show _ ≤ j; omega, by show j ≤ _; omega⟩) (reads_laid hW (fun k hk => fst2_at i j j (fun q => Value.int .i64 q) 2 (by omega) k hk))
  rw [mix_pl] at h
  have e : mixTo x (fst3 i j j) 2 = turn x (i % 32).toNat ^^^ turn x (j % 32).toNat := by simp [mixTo, fst3]
  rw [e] at h
  exact h
theorem ref_mix3 (x : BitVec 32) (i j k : Int) (W : World) (H : Nat) (t : TypeId) (hW : W.heap[H]? = some (.cells #[.int .i64 i, .int .i64 j, .int .i64 k] t (0, 0))) (a b c : Nat) (hi : (i % 32).toNat = a) (hj : (j % 32).toNat = b) (hk : (k % 32).toNat = c) (hi2 : 0 ≤ i ∧ i ≤ 64) (hj2 : 0 ≤ j ∧ j ≤ 64) (hk2 : 0 ≤ k ∧ k ≤ 64) :
    Calls Tryz.prog 64 #[.int .u32 (u x), .slice (some ⟨H, 0, none⟩) 3 3] W fun e w' => e = .returned (.int .u32 (u (mix3 x a b c))) ∧ W = w' := by
  subst hi hj hk
  have h := ref_mix _ x (some ⟨H, 0, none⟩) 3 3 (fst3 i j k) W (by omega) (fun m hm => by
    match m, hm with
    | 0, _ => exact ⟨by show _ ≤ i; omega, by show i ≤ _; omega⟩
    | 1, _ => exact ⟨by show _ ≤ j; omega, by show j ≤ _; omega⟩
    | 2, _ => exact ⟨by show _ ≤ k; omega, by show k ≤ _; omega⟩) (reads_laid hW (fun m hm => fst3_at i j k (fun q => Value.int .i64 q) 3 (by omega) m hm))
  rw [mix_pl] at h
  have e : mixTo x (fst3 i j k) 3 = mix3 x (i % 32).toNat (j % 32).toNat (k % 32).toNat := by simp [mixTo, fst3, mix3]
  rw [e] at h
  exact h
theorem ref_maj (B : Nat) (p : Option Addr) (c : Nat) (f : Nat → BitVec 32) (W : World) (hr : Reads B W p 3 (fun i => .int .u32 (u (f i)))) :
    Calls Tryz.prog 66 #[.slice p 3 c] W fun e w' => e = .returned (.int .u32 (u (maj (f 0) (f 1) (f 2)))) ∧ W = w' := by
  have h := ref_most B p 3 c f W (by omega) hr
  rw [most_pl] at h
  have e : mostTo 3 f 32 = maj (f 0) (f 1) (f 2) := by
    rw [← most3_maj]
    refine most_eq _ _ _ fun j hj => ?_
    rw [most_bit 3 _ 32 j (by omega) hj]
    simp [hj, onesTo, fst3]
  rw [e] at h
  exact h
theorem ref_ch (x a b : BitVec 32) (w : World) :
    Calls Tryz.prog 65 #[.int .u32 (u x), .int .u32 (u a), .int .u32 (u b)] w fun e w' => e = .returned (.int .u32 (u (ch x a b))) ∧ w = w' := by
  have h := ref_choose x a b w
  rw [choose_pl] at h
  exact h
theorem ref_sum2 (x y : BitVec 32) (W : World) (H : Nat) (t : TypeId) (hW : W.heap[H]? = some (.cells #[.int .u32 (u x), .int .u32 (u y)] t (0, 0))) :
    Calls Tryz.prog 63 #[.slice (some ⟨H, 0, none⟩) 2 2] W fun e w' => e = .returned (.int .u32 (u (x + y))) ∧ W = w' := by
  have h := ref_sum _ (some ⟨H, 0, none⟩) 2 2 (fst3 x y y) W (by omega) (reads_laid hW (fun m hm => fst2_at x y y (fun q => Value.int .u32 (u q)) 2 (by omega) m hm))
  have e : sumTo (fst3 x y y) 2 = x + y := by simp [sumTo, fst3]
  rw [e] at h
  exact h
theorem ref_sum4 (x y z p : BitVec 32) (W : World) (H : Nat) (t : TypeId) (hW : W.heap[H]? = some (.cells #[.int .u32 (u x), .int .u32 (u y), .int .u32 (u z), .int .u32 (u p)] t (0, 0))) :
    Calls Tryz.prog 63 #[.slice (some ⟨H, 0, none⟩) 4 4] W fun e w' => e = .returned (.int .u32 (u (x + y + z + p))) ∧ W = w' := by
  have h := ref_sum _ (some ⟨H, 0, none⟩) 4 4 (fst4 x y z p) W (by omega) (reads_laid hW (fun m hm => fst4_at x y z p (fun q => Value.int .u32 (u q)) m hm))
  have e : sumTo (fst4 x y z p) 4 = x + y + z + p := by simp [sumTo, fst4]
  rw [e] at h
  exact h
theorem ref_sum5 (x y z p q : BitVec 32) (W : World) (H : Nat) (t : TypeId) (hW : W.heap[H]? = some (.cells #[.int .u32 (u x), .int .u32 (u y), .int .u32 (u z), .int .u32 (u p), .int .u32 (u q)] t (0, 0))) :
    Calls Tryz.prog 63 #[.slice (some ⟨H, 0, none⟩) 5 5] W fun e w' => e = .returned (.int .u32 (u (x + y + z + p + q))) ∧ W = w' := by
  have h := ref_sum _ (some ⟨H, 0, none⟩) 5 5 (fst5 x y z p q) W (by omega) (reads_laid hW (fun m hm => fst5_at x y z p q (fun q => Value.int .u32 (u q)) m hm))
  have e : sumTo (fst5 x y z p q) 5 = x + y + z + p + q := by simp [sumTo, fst5]
  rw [e] at h
  exact h
set_option maxHeartbeats 1000000 in
theorem ref_small (x : BitVec 32) (i j k : Int) (w : World) (a b c : Nat) (hi : (i % 32).toNat = a) (hj : (j % 32).toNat = b) (hk : k.toNat = c) (hi2 : 0 ≤ i ∧ i ≤ 64) (hj2 : 0 ≤ j ∧ j ≤ 64) (hk2 : 0 ≤ k ∧ k ≤ 64) :
    Calls Tryz.prog 86 #[.int .u32 (u x), .int .i64 i, .int .i64 j, .int .i64 k] w fun e w' => e = .returned (.int .u32 (u (sml x a b c))) ∧ Below w.heap.size w w' := by
  have hs := ref_shift x k
  rw [shift_pl, if_neg (by omega), hk] at hs
  have HS := Lib.hid hs
  clear hs
  go_enter Tryz.func86, Tryz.ntmps86
  go_wp2_with fail
  refine (ref_mix2 x i j _ _ _ (laid_at rfl) a b hi hj hi2 hj2).mono ?_
  rintro e w' ⟨rfl, rfl⟩
  go_wp2_with fail
  refine (HS.out _ (by omega) (by omega)).mono ?_
  rintro e w' ⟨rfl, rfl⟩
  go_wp2
  go_ret
  exact ⟨rfl, (Below.refl _ _).alloc (Nat.le_refl _) _⟩
end Go.Proofs.YtejknkgbkkdaiaaGreatDoor

namespace Go.Proofs.YtejknkgbkkdaiaaGreatDoor
open Go.RowKit
set_option linter.unusedVariables false
set_option linter.unusedSimpArgs false

/-- behind an append what was appended to is as it was -/
theorem append_keeps {P : Program} (w : World) (base : Nat) (t ty e : TypeId) (i : TypeInfo) (z : Value) (bytes : Nat) (ht : P.underlying t = some (.slice e)) (hi : P.info? e = some i) (hz : i.zero = some z)
    (hsize : i.size = 1) (hby : i.bytes = bytes) (hzs : z.cells.size = 1) (v : Value) (n : Nat) (xs : List Value) (hown : w.ownsRow base e 1 v n xs)
    (a : Addr) (m c : Nat) (news : List Value) (hl : news.length = m * 1) (hnews : ∀ j u, news[j]? = some u → w.cell? (a.add j) = some u) (h1 : ∀ u ∈ news, u.oneCell' = true)
    (h63 : n + m ≤ maxLen) (hbytes : (n + m) * bytes ≤ 140737488355328) (hbase : base ≤ w.heap.size) :
    ∃ v' w', (Builtin.append_ #[t, t] ty #[v, .slice (some a) m c]).run P w = .ok v' w' ∧ w'.ownsRow base e 1 v' (n + m) (xs ++ news) ∧ w'.ownsRow base e 1 v n xs ∧ w.grownBy w' v.ownBlock := by
  obtain ⟨v', w', hr, h2, h3, _⟩ := run_append_own (P := P) w base t ty e i z 1 bytes ht hi hz hsize hby hzs (by omega) v n xs hown a m c news hl hnews h1 h63 hbytes hbase
  refine ⟨v', w', hr, h2, ?_, h3⟩
  rcases hown.2 with ⟨rfl, rfl⟩ | ⟨g, cap, cur, rfl, hbg, hg, hnc, hcm, hcs, htake⟩
  · have hx : xs = [] := List.eq_nil_of_length_eq_zero (by simpa using hown.1)
    subst hx
    exact World.ownsRow_nil _ _ _ _
  · by_cases hroom : n + m ≤ cap
    · have hr2 := run_append_room (P := P) w t ty e i ht hi g n cap cur hg a m c news (by rw [hsize]; exact hl) hnews h1 hroom (by rw [hsize, hl, hcs]; omega)
      have he := hr.symm.trans hr2
      injection he with e1 e2
      subst e2
      refine ⟨hown.1, .inr ⟨g, cap, _, rfl, hbg, setRow_heap w g cur _ e _ hg, hnc, hcm, ?_, ?_⟩⟩
      · rw [hsize]
        simp only [List.size_toArray, List.length_append, List.length_take, List.length_drop, Array.length_toList]
        omega
      · rw [hsize, htake, List.append_assoc, ← hown.1]
        exact List.take_left
    · have hr2 := run_append_grow (P := P) w t ty e i z ht hi hz ⟨g, 0, none⟩ n cap xs (by rw [hsize]; exact hown.1) (hown.cells (g := g) rfl) a m c news (by rw [hsize]; exact hl) hnews (by omega) (by unfold maxLen at h63; omega) (growslice_fits (by omega) (by rw [hby]; exact hbytes))
      have he := hr.symm.trans hr2
      injection he with e1 e2
      subst e2
      exact (World.ownsRow.drew hown).alloc _

/-! the constants, the beginning -/
/-- a block of n words -/
structure WT (w : World) (tb n : Nat) (f : Nat → BitVec 32) : Prop where
  lt : tb < w.heap.size
  word : ∀ i, i < n → w.cell? ⟨tb, i, none⟩ = some (.int .u32 (u (f i)))
  free : ∀ i, w.frozen? ⟨tb, i, none⟩ = false
section
variable {w w' : World} {tb n : Nat} {f f' : Nat → BitVec 32}
theorem WT.of_block (h : WT w tb n f) (hs : w.heap.size ≤ w'.heap.size) (e : w'.heap[tb]? = w.heap[tb]?) : WT w' tb n f :=
  ⟨Nat.lt_of_lt_of_le h.lt hs, fun i hi => (World.cell?_of_block (a := ⟨tb, i, none⟩) e).trans (h.word i hi), fun i => (World.frozen?_of_block (a := ⟨tb, i, none⟩) e).trans (h.free i)⟩
theorem WT.below' (h : WT w tb n f) (g : Below w.heap.size w w') : WT w' tb n f := h.of_block g.size (g.block tb h.lt)
theorem WT.alloc (h : WT w tb n f) (o : Obj) : WT (w.alloc o) tb n f := h.of_block (by simp) (heap_alloc_old w o h.lt)
theorem WT.drew (h : WT w tb n f) : WT w.drew tb n f := h.of_block (Nat.le_refl _) rfl
theorem WT.gr {hb : Nat} (h : WT w tb n f) (g : w.grownBy w' (some hb)) (hne : tb ≠ hb) : WT w' tb n f := h.of_block g.size (g.block tb h.lt (by simpa using hne))
theorem WT.congr (h : WT w tb n f) (e : ∀ i, i < n → f i = f' i) : WT w tb n f' := ⟨h.lt, fun i hi => by rw [← e i hi]; exact h.word i hi, h.free⟩
theorem WT.set (h : WT w tb n f) (i : Nat) (hi : i < n) (x : BitVec 32) (hx : f' i = x) (ho : ∀ j, j < n → j ≠ i → f' j = f j) : WT (w.setCell ⟨tb, i, none⟩ (.int .u32 (u x))) tb n f' := by
  refine ⟨by simpa [World.setCell] using h.lt, fun j hj => ?_, fun i => fro_eq.trans (h.free i)⟩
  by_cases e : j = i
  · subst e
    rw [World.cell?_setCell_same' _ _ _ (by rw [h.word j hj]; rfl), hx]
  · rw [cell_ne (Ne.symm e), ho j hj e]; exact h.word j hj
theorem WT.of_cells {t : TypeId} {C : Array Value} (h : w.heap[tb]? = some (.cells C t (0, 0))) (hC : ∀ i, i < n → C[i]? = some (.int .u32 (u (f i)))) : WT w tb n f := by
  refine ⟨(Array.getElem?_eq_some_iff.1 h).1, fun i hi => ?_, fun i => frozen_of_row w tb i _ t h⟩
  rw [cell_of_row w tb i _ t (0, 0) h, hC i hi]
theorem WT.reads (h : WT w tb n f) : Reads w.heap.size w (some ⟨tb, 0, none⟩) n (fun i => .int .u32 (u (f i))) :=
  .inr ⟨tb, 0, rfl, h.lt, fun i hi => by rw [Nat.zero_add]; exact h.word i hi⟩
end
def klA : Array Value := (kl.map fun x => Value.int .u32 (u x)).toArray
set_option maxHeartbeats 1000000 in
set_option maxRecDepth 100000 in
theorem consts_any (w : World) : Calls Tryz.prog 60 #[] w fun e w' => ∃ H, e = .returned (.slice (some ⟨H, 0, none⟩) 64 64) ∧ w.heap.size ≤ H ∧ Below w.heap.size w w' ∧ WT w' H 64 kc := by
  go_enter Tryz.func60, Tryz.ntmps60
  go_wp2
  go_ret
  refine ⟨_, rfl, Nat.le_refl _, (Below.refl _ _).alloc (Nat.le_refl _) _, WT.of_cells (C := klA) (by exact laid_at rfl) fun i hi => ?_⟩
  unfold klA kc
  simp [List.getD, show i < kl.length from hi]
set_option maxHeartbeats 1000000 in
set_option maxRecDepth 100000 in
theorem refBegin_any (w : World) : Calls Tryz.prog 61 #[] w fun e w' => ∃ H, e = .returned (.slice (some ⟨H, 0, none⟩) 8 8) ∧ w.heap.size ≤ H ∧ Below w.heap.size w w' ∧ WT w' H 8 beg := by
  go_enter Tryz.func61, Tryz.ntmps61
  go_wp2
  go_ret
  refine ⟨_, rfl, Nat.le_refl _, (Below.refl _ _).alloc (Nat.le_refl _) _, WT.of_cells (by exact laid_at rfl) fun i hi => ?_⟩
  match i, hi with
  | 0, _ => rfl
  | 1, _ => rfl
  | 2, _ => rfl
  | 3, _ => rfl
  | 4, _ => rfl
  | 5, _ => rfl
  | 6, _ => rfl
  | 7, _ => rfl
end Go.Proofs.YtejknkgbkkdaiaaGreatDoor
