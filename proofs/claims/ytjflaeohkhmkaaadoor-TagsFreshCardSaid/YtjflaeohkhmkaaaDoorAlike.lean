/-
  Contracts: two rows of bytes are compared; two things that are asked are alike.
-/
import Derived.Test.YtjflaeohkhmkaaaDoorG6
import Derived.Deep.Cut
import Derived.Deep.CutRange
namespace Go.Proofs.YtjflaeohkhmkaaaDoor
open Go.RowKit
set_option linter.unusedVariables false
set_option linter.unusedSimpArgs false

theorem byL_same {f g : Nat → BitVec 8} {n : Nat} : byL f n = byL g n ↔ ∀ i, i < n → f i = g i := by
  constructor
  · intro h i hi
    have h1 := congrArg (·[i]?) h
    simp only [byL_get f n i hi, byL_get g n i hi] at h1
    have h2 := Option.some.inj h1
    have h3 := congrArg UInt8.toBitVec h2
    simpa using h3
  · exact byL_congr
theorem byL_unlike {f g : Nat → BitVec 8} {n m : Nat} (h : n ≠ m) : byL f n ≠ byL g m := fun e => h (by have := congrArg List.length e; rwa [byL_len, byL_len] at this)
set_option maxHeartbeats 1000000 in
theorem sameB_any (B : Nat) (p q : Option Addr) (n m c d : Nat) (f g : Nat → BitVec 8) (w : World) (hn : n ≤ 9223372036854775807) (hm : m ≤ 9223372036854775807)
    (hp : Reads B w p n (fun i => .int .u8 (ub (f i)))) (hq : Reads B w q m (fun i => .int .u8 (ub (g i)))) :
    Calls Tryd.prog 21 #[.slice p n c, .slice q m d] w fun e w' => e = .returned (.bool (decide (byL f n = byL g m))) ∧ Below w.heap.size w w' := by
  by_cases hnm : n = m
  · subst hnm
    obtain ⟨b, hb⟩ : ∃ b, decide (byL f n = byL g n) = b := ⟨_, rfl⟩
    rw [hb]
    have HT := Lib.hid (show (∀ i, i < n → f i = g i) → b = true from fun h => by rw [← hb]; exact decide_eq_true (byL_same.2 h))
    have HF := Lib.hid (show ∀ i, i < n → f i ≠ g i → b = false from fun i hi h => by rw [← hb]; exact decide_eq_false (fun e => h (byL_same.1 e i hi)))
    clear hb
    have HP := Lib.hid hp
    have HQ := Lib.hid hq
    clear hp hq
    go_enter Tryd.func21, Tryd.ntmps21
    go_wp2
    go_loopw [5] (fun i wr => ∃ k : Nat, k ≤ n ∧ i = .int .i64 k ∧ Below w.heap.size w wr ∧ Below B w wr ∧ ∀ j, j < k → f j = g j) (fun i _ => n - (intOf i).toNat)
    case atStart => exact ⟨0, Nat.zero_le _, rfl, Below.refl _ _, Below.refl _ _, fun j hj => by omega⟩
    case round =>
      obtain ⟨k, hk, rfl, hb, hb2, hall⟩ := hrel
      have HB := Lib.hid hb
      have HB2 := Lib.hid hb2
      have HA := Lib.hid hall
      clear hb hb2 hall
      by_cases hlt : k < n
      · rcases HP.out.below HB2.out with h0 | ⟨b1, off, rfl, hb', hc⟩
        · omega
        rcases HQ.out.below HB2.out with h0 | ⟨b2, off2, rfl, hb2', hc2⟩
        · omega
        have hcell : wr.cell? ⟨b1, off + k, none⟩ = some (.int .u8 (ub (f k))) := hc k hlt
        have hcell2 : wr.cell? ⟨b2, off2 + k, none⟩ = some (.int .u8 (ub (g k))) := hc2 k hlt
        clear hc hc2
        by_cases hq : f k = g k
        · rw [hq] at hcell
          have HE := Lib.hid hq
          clear hq
          go_wp2
          go_region
          go_wp2
          go_roundw
          case rel => exact ⟨k + 1, by omega, by go_num, HB.out.drew, HB2.out.drew, fun j hj => by
            rcases Nat.lt_or_ge j k with h | h
            · exact HA.out j h
            · obtain rfl : j = k := by omega
              exact HE.out⟩
          case measure => simp [intOf]; omega
        · have hne : (ub (f k) == ub (g k)) = false := by rw [ub_beq]; simpa using hq
          have hne2 : (ub (f k) != ub (g k)) = true := by rw [bne, hne]; rfl
          have HBF := Lib.hid (HF.out k hlt hq)
          clear hq
          go_wp2
          go_region
          go_wp2
          go_ret
          exact ⟨by rw [HBF.out]; rfl, HB.out.drew⟩
      · obtain rfl : k = n := by omega
        have HBT := Lib.hid (HT.out HA.out)
        go_wp2
        go_ret
        exact ⟨by rw [HBT.out]; rfl, HB.out⟩
  · rw [decide_eq_false (byL_unlike (f := f) (g := g) hnm)]
    have hne : ¬ ((n : Int) = (m : Int)) := by omega
    go_enter Tryd.func21, Tryd.ntmps21
    go_wp2
    go_ret
    exact ⟨rfl, Below.refl _ _⟩
theorem Ask.thing_eq {a b : Ask} : a.thing = b.thing ↔ a.what % 3 = b.what % 3 ∧ (a.what % 3 = 2 → a.k = b.k) ∧ (a.what % 3 ≠ 2 → byL a.all (pos a.ln a.m) = byL b.all (pos b.ln b.m) ∧ (a.what % 3 = 1 → byL a.key a.kn = byL b.key b.kn)) := by
  have ha : a.what % 3 = 0 ∨ a.what % 3 = 1 ∨ a.what % 3 = 2 := by omega
  have hb : b.what % 3 = 0 ∨ b.what % 3 = 1 ∨ b.what % 3 = 2 := by omega
  unfold Ask.thing
  rcases ha with h | h | h <;> rcases hb with g | g | g <;> simp [h, g]
  all_goals try exact And.comm
/-- what lies there while two asks are compared -/
structure AL (w : World) (a b : Ask) (W : World) : Prop where
  bel : Below w.heap.size w W
  ba : W.heap[w.heap.size]? = some (.cells #[.int .i64 a.what, .slice a.kp a.kn a.kc, .slice a.p a.m a.c, .int .i64 a.k] 26 (0, 0))
  bb : W.heap[w.heap.size + 1]? = some (.cells #[.int .i64 b.what, .slice b.kp b.kn b.kc, .slice b.p b.m b.c, .int .i64 b.k] 26 (0, 0))
theorem AL.go {w : World} {a b : Ask} {W W' : World} (h : AL w a b W) (g : Below W.heap.size W W') : AL w a b W' := ⟨h.bel.trans (g.mono h.bel.size), laid_go h.ba g, laid_go h.bb g⟩
theorem AL.cells {w : World} {a b : Ask} {W : World} (h : AL w a b W) :
    ((W.cell? ⟨w.heap.size, 0, none⟩ = some (.int .i64 a.what) ∧ W.cell? ⟨w.heap.size, 1, none⟩ = some (.slice a.kp a.kn a.kc) ∧ W.cell? ⟨w.heap.size, 2, none⟩ = some (.slice a.p a.m a.c) ∧ W.cell? ⟨w.heap.size, 3, none⟩ = some (.int .i64 a.k)) ∧
    (W.cell? ⟨w.heap.size + 1, 0, none⟩ = some (.int .i64 b.what) ∧ W.cell? ⟨w.heap.size + 1, 1, none⟩ = some (.slice b.kp b.kn b.kc) ∧ W.cell? ⟨w.heap.size + 1, 2, none⟩ = some (.slice b.p b.m b.c) ∧ W.cell? ⟨w.heap.size + 1, 3, none⟩ = some (.int .i64 b.k))) :=
  ⟨⟨by rw [cell_of_row W _ _ _ _ (0, 0) h.ba]; rfl, by rw [cell_of_row W _ _ _ _ (0, 0) h.ba]; rfl, by rw [cell_of_row W _ _ _ _ (0, 0) h.ba]; rfl, by rw [cell_of_row W _ _ _ _ (0, 0) h.ba]; rfl⟩,
   ⟨by rw [cell_of_row W _ _ _ _ (0, 0) h.bb]; rfl, by rw [cell_of_row W _ _ _ _ (0, 0) h.bb]; rfl, by rw [cell_of_row W _ _ _ _ (0, 0) h.bb]; rfl, by rw [cell_of_row W _ _ _ _ (0, 0) h.bb]; rfl⟩⟩
theorem q_bool {a b : Bool} (h : a = b) : Ending.returned (.bool a) = .returned (.bool b) := by rw [h]
set_option maxHeartbeats 2000000 in
set_option maxRecDepth 100000 in
theorem alike_any (w : World) (a b : Ask) (ha : a.lies w) (hb : b.lies w) :
    Calls Tryd.prog 8 #[a.val, b.val] w fun e w' => e = .returned (.bool (decide (a.thing = b.thing))) ∧ Below w.heap.size w w' := by
  have h0 : AL w a b ((w.alloc (.cells #[.int .i64 a.what, .slice a.kp a.kn a.kc, .slice a.p a.m a.c, .int .i64 a.k] 26)).alloc (.cells #[.int .i64 b.what, .slice b.kp b.kn b.kc, .slice b.p b.m b.c, .int .i64 b.k] 26)) :=
    ⟨((Below.refl _ _).alloc (Nat.le_refl _) _).alloc (by simp) _, laid_old (laid_at rfl), laid_at (by simp)⟩
  have HTE := Lib.hid (Ask.thing_eq (a := a) (b := b))
  have LA := Lib.hid ha
  have LB := Lib.hid hb
  obtain ⟨r, hr⟩ : ∃ r, decide (a.thing = b.thing) = r := ⟨_, rfl⟩
  obtain ⟨ka, hka⟩ : ∃ k, a.what % 3 = k := ⟨_, rfl⟩
  obtain ⟨kb, hkb⟩ : ∃ k, b.what % 3 = k := ⟨_, rfl⟩
  have hk3 : (ka = 0 ∨ ka = 1 ∨ ka = 2) := by omega
  rw [hka, hkb] at HTE
  rw [hr]
  have HRR := Lib.hid (show (a.thing = b.thing → r = true) ∧ (¬ a.thing = b.thing → r = false) from ⟨fun h => by rw [← hr]; exact decide_eq_true h, fun h => by rw [← hr]; exact decide_eq_false h⟩)
  have HKA := Lib.hid hka
  have HKB := Lib.hid hkb
  clear ha hb hr hka hkb
  unfold Ask.val
  go_enter Tryd.func8, Tryd.ntmps8
  go_upto_region 1 with (fail)
  refine forget_code (AL w a b) h0 ?_
  intro W hW
  clear h0
  have HW := Lib.hid hW
  obtain ⟨⟨a0, a1, a2, a3⟩, b0, b1, b2, b3⟩ := hW.cells
  clear hW
  go_wp2_with fail
  refine (pick3_any a.what _).mono ?_
  rw [HKA.out]
  rintro e w' ⟨rfl, rfl⟩
  go_wp2_with fail
  refine (pick3_any b.what _).mono ?_
  rw [HKB.out]
  rintro e w' ⟨rfl, rfl⟩
  by_cases hkk : ka = kb
  · subst hkk
    by_cases h2 : ka = 2
    · subst h2
      have HFIN := Lib.hid (show (a.k == b.k) = r from by
        by_cases hk : a.k = b.k
        · rw [HRR.out.1 (HTE.out.2 ⟨rfl, fun _ => hk, fun h => absurd rfl h⟩)]; simp [hk]
        · rw [HRR.out.2 (fun e => hk ((HTE.out.1 e).2.1 rfl))]; simp [hk])
      go_wp2
      go_ret
      exact ⟨q_bool HFIN.out, HW.out.bel⟩
    · have d2 : (ka == 2) = false := by simp [h2]
      go_upto_region 6 with (fail)
      have HNA := Lib.hid (show pos a.ln a.m ≤ 9223372036854775807 from Nat.le_trans LA.out.n (by omega))
      have HNB := Lib.hid (show pos b.ln b.m ≤ 9223372036854775807 from Nat.le_trans LB.out.n (by omega))
      obtain ⟨D, hD⟩ : ∃ D, decide (byL a.all (pos a.ln a.m) = byL b.all (pos b.ln b.m)) = D := ⟨_, rfl⟩
      have HD := Lib.hid hD
      clear a0 a1 a2 a3 b0 b1 b2 b3 HKA HKB
      cases D
      · have HFIN := Lib.hid (show false = r from (HRR.out.2 (fun e => by have := ((HTE.out.1 e).2.2 h2).1; rw [decide_eq_true this] at hD; cases hD)).symm)
        clear hD HTE HRR
        refine wp_region_noPanic ?_
        refine wp_region_start (n := 19) (l := #[false, false, false, false, false, false, false, false, false, false, false, false, false, false, false, false, false, false, false]) (S := (fun W => ((W.cell? ⟨w.heap.size, 0, none⟩ = some (.int .i64 a.what) ∧ W.cell? ⟨w.heap.size, 1, none⟩ = some (.slice a.kp a.kn a.kc) ∧ W.cell? ⟨w.heap.size, 2, none⟩ = some (.slice a.p a.m a.c) ∧ W.cell? ⟨w.heap.size, 3, none⟩ = some (.int .i64 a.k)) ∧ (W.cell? ⟨w.heap.size + 1, 0, none⟩ = some (.int .i64 b.what) ∧ W.cell? ⟨w.heap.size + 1, 1, none⟩ = some (.slice b.kp b.kn b.kc) ∧ W.cell? ⟨w.heap.size + 1, 2, none⟩ = some (.slice b.p b.m b.c) ∧ W.cell? ⟨w.heap.size + 1, 3, none⟩ = some (.int .i64 b.k))))) (by kernel_rfl) rfl (by kernel_rfl) (by first | exact HW.out.cells | exact (HW.out.go (Below.refl _ _).drew).cells) (fun hHeld => ?_)
        replace HW := Lib.hid (HW.out.go (Below.refl _ _).drew)
        generalize W.drew = W' at hHeld HW ⊢
        refine take_to (i := 0) (d := some 21) (v := ?_) (l' := #[true, false, false, false, false, false, false, false, false, false, false, false, false, false, false, false, false, false, false]) rfl rfl (by kernel_rfl) (by kernel_rfl) (by kernel_rfl) (by kernel_rfl) (fun _ _ _ h => h) (Or.inl ⟨by rfl, ?_⟩) (by assumption) ?_; rotate_left; · (intro w' hSw; (try dsimp only at hSw); go_simp; (try with_reducible rfl))
        try simp only [Act.put, List.setIfInBounds_toArray, List.set_cons_zero, List.set_cons_succ]
        refine take_to (i := 1) (d := some 22) (v := ?_) (l' := #[true, true, false, false, false, false, false, false, false, false, false, false, false, false, false, false, false, false, false]) rfl rfl (by kernel_rfl) (by kernel_rfl) (by kernel_rfl) (by kernel_rfl) (fun _ _ _ h => h) (Or.inl ⟨by rfl, ?_⟩) (by assumption) ?_; rotate_left; · (intro w' hSw; (try dsimp only at hSw); go_simp; (try with_reducible rfl))
        try simp only [Act.put, List.setIfInBounds_toArray, List.set_cons_zero, List.set_cons_succ]
        refine take_to (i := 3) (d := some 24) (v := ?_) (l' := #[true, true, false, true, false, false, false, false, false, false, false, false, false, false, false, false, false, false, false]) rfl rfl (by kernel_rfl) (by kernel_rfl) (by kernel_rfl) (by kernel_rfl) (fun _ _ _ h => h) (Or.inl ⟨by rfl, ?_⟩) (by assumption) ?_; rotate_left; · (intro w' hSw; (try dsimp only at hSw); go_simp; (try with_reducible rfl))
        try simp only [Act.put, List.setIfInBounds_toArray, List.set_cons_zero, List.set_cons_succ]
        refine take_to (i := 4) (d := some 25) (v := ?_) (l' := #[true, true, false, true, true, false, false, false, false, false, false, false, false, false, false, false, false, false, false]) rfl rfl (by kernel_rfl) (by kernel_rfl) (by kernel_rfl) (by kernel_rfl) (fun _ _ _ h => h) (Or.inl ⟨by rfl, ?_⟩) (by assumption) ?_; rotate_left; · (intro w' hSw; (try dsimp only at hSw); go_simp; (try with_reducible rfl))
        try simp only [Act.put, List.setIfInBounds_toArray, List.set_cons_zero, List.set_cons_succ]
        refine one_to (i := 2) (l' := #[true, true, true, true, true, false, false, false, false, false, false, false, false, false, false, false, false, false, false]) rfl (by kernel_rfl) (by kernel_rfl) (fun K hK => ?_)
        go_simp
        have hl := LA.out.below HW.out.bel
        refine (join_any _ _ a.p a.m a.c a.P a.ln a.C a.f a.all (Nat.le_refl _) hl.m hl.n hl.rows.rows hl.rows.row a.all_at).mono ?_
        rintro e w1 ⟨v1, rfl, hb2, ho⟩
        obtain ⟨p1, c1, rfl, hr, _, _⟩ := owns_reads ho
        replace HW := Lib.hid (HW.out.go hb2)
        have HR1 := Lib.hid hr
        clear hl hb2 ho hr
        dsimp only
        refine hK.out _ _ (by first | exact HW.out.cells | exact (HW.out.go (Below.refl _ _).drew).cells) (fun hHeld => ?_)
        clear hK K
        try simp only [Act.put, List.setIfInBounds_toArray, List.set_cons_zero, List.set_cons_succ]
        refine one_to (i := 5) (l' := #[true, true, true, true, true, true, false, false, false, false, false, false, false, false, false, false, false, false, false]) rfl (by kernel_rfl) (by kernel_rfl) (fun K hK => ?_)
        go_simp
        have hl := LB.out.below HW.out.bel
        refine (join_any _ _ b.p b.m b.c b.P b.ln b.C b.f b.all (Nat.le_refl _) hl.m hl.n hl.rows.rows hl.rows.row b.all_at).mono ?_
        rintro e w2 ⟨v2, rfl, hb2, ho⟩
        obtain ⟨p2, c2, rfl, hr, _, _⟩ := owns_reads ho
        replace HW := Lib.hid (HW.out.go hb2)
        replace HR1 := Lib.hid ((HR1.out.below hb2).mono hb2.size)
        have HR2 := Lib.hid hr
        clear hl hb2 ho hr
        dsimp only
        refine hK.out _ _ (by first | exact HW.out.cells | exact (HW.out.go (Below.refl _ _).drew).cells) (fun hHeld => ?_)
        clear hK K
        try simp only [Act.put, List.setIfInBounds_toArray, List.set_cons_zero, List.set_cons_succ]
        refine one_to (i := 6) (l' := #[true, true, true, true, true, true, true, false, false, false, false, false, false, false, false, false, false, false, false]) rfl (by kernel_rfl) (by kernel_rfl) (fun K hK => ?_)
        go_simp
        refine (sameB_any _ p1 p2 _ _ c1 c2 a.all b.all _ HNA.out HNB.out HR1.out HR2.out).mono ?_
        rw [HD.out]
        rintro e w3 ⟨rfl, hb3⟩
        replace HW := Lib.hid (HW.out.go hb3)
        clear hb3 HR1 HR2
        dsimp only
        refine hK.out _ _ (by first | exact HW.out.cells | exact (HW.out.go (Below.refl _ _).drew).cells) (fun hHeld => ?_)
        clear hK K
        try simp only [Act.put, List.setIfInBounds_toArray, List.set_cons_zero, List.set_cons_succ]
        refine take_to (i := 7) (d := some 28) (v := ?_) (l' := #[true, true, true, true, true, true, true, true, false, false, false, false, false, false, false, false, false, false, false]) rfl rfl (by kernel_rfl) (by kernel_rfl) (by kernel_rfl) (by kernel_rfl) (fun _ _ _ h => h) (Or.inl ⟨by rfl, ?_⟩) (by assumption) ?_; rotate_left; · (intro w' hSw; (try dsimp only at hSw); go_simp; (try with_reducible rfl))
        try simp only [Act.put, List.setIfInBounds_toArray, List.set_cons_zero, List.set_cons_succ]
        refine take_to (i := 8) (d := some 29) (v := undef) (l' := #[true, true, true, true, true, true, true, true, true, false, false, false, false, false, false, false, false, false, false]) rfl rfl (by kernel_rfl) (by kernel_rfl) (by kernel_rfl) (by kernel_rfl) (fun _ _ _ h => h) (Or.inr ⟨by rfl, rfl⟩) (by assumption) ?_
        try simp only [Act.put, List.setIfInBounds_toArray, List.set_cons_zero, List.set_cons_succ]
        refine take_to (i := 9) (d := some 30) (v := undef) (l' := #[true, true, true, true, true, true, true, true, true, true, false, false, false, false, false, false, false, false, false]) rfl rfl (by kernel_rfl) (by kernel_rfl) (by kernel_rfl) (by kernel_rfl) (fun _ _ _ h => h) (Or.inr ⟨by rfl, rfl⟩) (by assumption) ?_
        try simp only [Act.put, List.setIfInBounds_toArray, List.set_cons_zero, List.set_cons_succ]
        refine take_to (i := 10) (d := some 31) (v := undef) (l' := #[true, true, true, true, true, true, true, true, true, true, true, false, false, false, false, false, false, false, false]) rfl rfl (by kernel_rfl) (by kernel_rfl) (by kernel_rfl) (by kernel_rfl) (fun _ _ _ h => h) (Or.inr ⟨by rfl, rfl⟩) (by assumption) ?_
        try simp only [Act.put, List.setIfInBounds_toArray, List.set_cons_zero, List.set_cons_succ]
        refine take_to (i := 11) (d := some 32) (v := undef) (l' := #[true, true, true, true, true, true, true, true, true, true, true, true, false, false, false, false, false, false, false]) rfl rfl (by kernel_rfl) (by kernel_rfl) (by kernel_rfl) (by kernel_rfl) (fun _ _ _ h => h) (Or.inr ⟨by rfl, rfl⟩) (by assumption) ?_
        try simp only [Act.put, List.setIfInBounds_toArray, List.set_cons_zero, List.set_cons_succ]
        refine take_to (i := 12) (d := some 33) (v := undef) (l' := #[true, true, true, true, true, true, true, true, true, true, true, true, true, false, false, false, false, false, false]) rfl rfl (by kernel_rfl) (by kernel_rfl) (by kernel_rfl) (by kernel_rfl) (fun _ _ _ h => h) (Or.inr ⟨by rfl, rfl⟩) (by assumption) ?_
        try simp only [Act.put, List.setIfInBounds_toArray, List.set_cons_zero, List.set_cons_succ]
        refine take_to (i := 13) (d := some 34) (v := undef) (l' := #[true, true, true, true, true, true, true, true, true, true, true, true, true, true, false, false, false, false, false]) rfl rfl (by kernel_rfl) (by kernel_rfl) (by kernel_rfl) (by kernel_rfl) (fun _ _ _ h => h) (Or.inr ⟨by rfl, rfl⟩) (by assumption) ?_
        try simp only [Act.put, List.setIfInBounds_toArray, List.set_cons_zero, List.set_cons_succ]
        refine take_to (i := 14) (d := some 35) (v := undef) (l' := #[true, true, true, true, true, true, true, true, true, true, true, true, true, true, true, false, false, false, false]) rfl rfl (by kernel_rfl) (by kernel_rfl) (by kernel_rfl) (by kernel_rfl) (fun _ _ _ h => h) (Or.inr ⟨by rfl, rfl⟩) (by assumption) ?_
        try simp only [Act.put, List.setIfInBounds_toArray, List.set_cons_zero, List.set_cons_succ]
        refine one_to (i := 15) (l' := #[true, true, true, true, true, true, true, true, true, true, true, true, true, true, true, true, false, false, false]) rfl (by kernel_rfl) (by kernel_rfl) (fun K hK => ?_)
        go_simp
        refine hK.out _ _ (by first | exact HW.out.cells | exact (HW.out.go (Below.refl _ _).drew).cells) (fun hHeld => ?_)
        clear hK K
        try simp only [Act.put, List.setIfInBounds_toArray, List.set_cons_zero, List.set_cons_succ]
        refine take_to (i := 16) (d := some 37) (v := undef) (l' := #[true, true, true, true, true, true, true, true, true, true, true, true, true, true, true, true, true, false, false]) rfl rfl (by kernel_rfl) (by kernel_rfl) (by kernel_rfl) (by kernel_rfl) (fun _ _ _ h => h) (Or.inr ⟨by rfl, rfl⟩) (by assumption) ?_
        try simp only [Act.put, List.setIfInBounds_toArray, List.set_cons_zero, List.set_cons_succ]
        refine take_to (i := 17) (d := some 38) (v := ?_) (l' := #[true, true, true, true, true, true, true, true, true, true, true, true, true, true, true, true, true, true, false]) rfl rfl (by kernel_rfl) (by kernel_rfl) (by kernel_rfl) (by kernel_rfl) (fun _ _ _ h => h) (Or.inl ⟨by rfl, ?_⟩) (by assumption) ?_; rotate_left; · (intro w' hSw; (try dsimp only at hSw); go_simp; (try with_reducible rfl))
        try simp only [Act.put, List.setIfInBounds_toArray, List.set_cons_zero, List.set_cons_succ]
        refine take_to (i := 18) (d := some 4) (v := ?_) (l' := #[true, true, true, true, true, true, true, true, true, true, true, true, true, true, true, true, true, true, true]) rfl rfl (by kernel_rfl) (by kernel_rfl) (by kernel_rfl) (by kernel_rfl) (fun _ _ _ h => h) (Or.inl ⟨by rfl, ?_⟩) (by assumption) ?_; rotate_left; · (intro w' hSw; (try dsimp only at hSw); go_simp; (try with_reducible rfl))
        try simp only [Act.put, List.setIfInBounds_toArray, List.set_cons_zero, List.set_cons_succ]
        refine wpAnyH_done (by kernel_rfl) ?_ _
        refine NoPanic.normal ?_
        clear hHeld
        go_wp2
        go_ret
        exact ⟨q_bool HFIN.out, HW.out.bel⟩
      · have hyes := of_decide_eq_true hD
        by_cases hz : ka = 0
        · subst hz
          have HFIN := Lib.hid (show true = r from (HRR.out.1 (HTE.out.2 ⟨(by first | rfl | trivial), fun h => absurd h h2, fun _ => ⟨hyes, fun h => absurd h (by omega)⟩⟩)).symm)
          clear hD HTE HRR hyes
          refine wp_region_noPanic ?_
          refine wp_region_start (n := 19) (l := #[false, false, false, false, false, false, false, false, false, false, false, false, false, false, false, false, false, false, false]) (S := (fun W => ((W.cell? ⟨w.heap.size, 0, none⟩ = some (.int .i64 a.what) ∧ W.cell? ⟨w.heap.size, 1, none⟩ = some (.slice a.kp a.kn a.kc) ∧ W.cell? ⟨w.heap.size, 2, none⟩ = some (.slice a.p a.m a.c) ∧ W.cell? ⟨w.heap.size, 3, none⟩ = some (.int .i64 a.k)) ∧ (W.cell? ⟨w.heap.size + 1, 0, none⟩ = some (.int .i64 b.what) ∧ W.cell? ⟨w.heap.size + 1, 1, none⟩ = some (.slice b.kp b.kn b.kc) ∧ W.cell? ⟨w.heap.size + 1, 2, none⟩ = some (.slice b.p b.m b.c) ∧ W.cell? ⟨w.heap.size + 1, 3, none⟩ = some (.int .i64 b.k))))) (by kernel_rfl) rfl (by kernel_rfl) (by first | exact HW.out.cells | exact (HW.out.go (Below.refl _ _).drew).cells) (fun hHeld => ?_)
          replace HW := Lib.hid (HW.out.go (Below.refl _ _).drew)
          generalize W.drew = W' at hHeld HW ⊢
          refine take_to (i := 0) (d := some 21) (v := ?_) (l' := #[true, false, false, false, false, false, false, false, false, false, false, false, false, false, false, false, false, false, false]) rfl rfl (by kernel_rfl) (by kernel_rfl) (by kernel_rfl) (by kernel_rfl) (fun _ _ _ h => h) (Or.inl ⟨by rfl, ?_⟩) (by assumption) ?_; rotate_left; · (intro w' hSw; (try dsimp only at hSw); go_simp; (try with_reducible rfl))
          try simp only [Act.put, List.setIfInBounds_toArray, List.set_cons_zero, List.set_cons_succ]
          refine take_to (i := 1) (d := some 22) (v := ?_) (l' := #[true, true, false, false, false, false, false, false, false, false, false, false, false, false, false, false, false, false, false]) rfl rfl (by kernel_rfl) (by kernel_rfl) (by kernel_rfl) (by kernel_rfl) (fun _ _ _ h => h) (Or.inl ⟨by rfl, ?_⟩) (by assumption) ?_; rotate_left; · (intro w' hSw; (try dsimp only at hSw); go_simp; (try with_reducible rfl))
          try simp only [Act.put, List.setIfInBounds_toArray, List.set_cons_zero, List.set_cons_succ]
          refine take_to (i := 3) (d := some 24) (v := ?_) (l' := #[true, true, false, true, false, false, false, false, false, false, false, false, false, false, false, false, false, false, false]) rfl rfl (by kernel_rfl) (by kernel_rfl) (by kernel_rfl) (by kernel_rfl) (fun _ _ _ h => h) (Or.inl ⟨by rfl, ?_⟩) (by assumption) ?_; rotate_left; · (intro w' hSw; (try dsimp only at hSw); go_simp; (try with_reducible rfl))
          try simp only [Act.put, List.setIfInBounds_toArray, List.set_cons_zero, List.set_cons_succ]
          refine take_to (i := 4) (d := some 25) (v := ?_) (l' := #[true, true, false, true, true, false, false, false, false, false, false, false, false, false, false, false, false, false, false]) rfl rfl (by kernel_rfl) (by kernel_rfl) (by kernel_rfl) (by kernel_rfl) (fun _ _ _ h => h) (Or.inl ⟨by rfl, ?_⟩) (by assumption) ?_; rotate_left; · (intro w' hSw; (try dsimp only at hSw); go_simp; (try with_reducible rfl))
          try simp only [Act.put, List.setIfInBounds_toArray, List.set_cons_zero, List.set_cons_succ]
          refine one_to (i := 2) (l' := #[true, true, true, true, true, false, false, false, false, false, false, false, false, false, false, false, false, false, false]) rfl (by kernel_rfl) (by kernel_rfl) (fun K hK => ?_)
          go_simp
          have hl := LA.out.below HW.out.bel
          refine (join_any _ _ a.p a.m a.c a.P a.ln a.C a.f a.all (Nat.le_refl _) hl.m hl.n hl.rows.rows hl.rows.row a.all_at).mono ?_
          rintro e w1 ⟨v1, rfl, hb2, ho⟩
          obtain ⟨p1, c1, rfl, hr, _, _⟩ := owns_reads ho
          replace HW := Lib.hid (HW.out.go hb2)
          have HR1 := Lib.hid hr
          clear hl hb2 ho hr
          dsimp only
          refine hK.out _ _ (by first | exact HW.out.cells | exact (HW.out.go (Below.refl _ _).drew).cells) (fun hHeld => ?_)
          clear hK K
          try simp only [Act.put, List.setIfInBounds_toArray, List.set_cons_zero, List.set_cons_succ]
          refine one_to (i := 5) (l' := #[true, true, true, true, true, true, false, false, false, false, false, false, false, false, false, false, false, false, false]) rfl (by kernel_rfl) (by kernel_rfl) (fun K hK => ?_)
          go_simp
          have hl := LB.out.below HW.out.bel
          refine (join_any _ _ b.p b.m b.c b.P b.ln b.C b.f b.all (Nat.le_refl _) hl.m hl.n hl.rows.rows hl.rows.row b.all_at).mono ?_
          rintro e w2 ⟨v2, rfl, hb2, ho⟩
          obtain ⟨p2, c2, rfl, hr, _, _⟩ := owns_reads ho
          replace HW := Lib.hid (HW.out.go hb2)
          replace HR1 := Lib.hid ((HR1.out.below hb2).mono hb2.size)
          have HR2 := Lib.hid hr
          clear hl hb2 ho hr
          dsimp only
          refine hK.out _ _ (by first | exact HW.out.cells | exact (HW.out.go (Below.refl _ _).drew).cells) (fun hHeld => ?_)
          clear hK K
          try simp only [Act.put, List.setIfInBounds_toArray, List.set_cons_zero, List.set_cons_succ]
          refine one_to (i := 6) (l' := #[true, true, true, true, true, true, true, false, false, false, false, false, false, false, false, false, false, false, false]) rfl (by kernel_rfl) (by kernel_rfl) (fun K hK => ?_)
          go_simp
          refine (sameB_any _ p1 p2 _ _ c1 c2 a.all b.all _ HNA.out HNB.out HR1.out HR2.out).mono ?_
          rw [HD.out]
          rintro e w3 ⟨rfl, hb3⟩
          replace HW := Lib.hid (HW.out.go hb3)
          clear hb3 HR1 HR2
          dsimp only
          refine hK.out _ _ (by first | exact HW.out.cells | exact (HW.out.go (Below.refl _ _).drew).cells) (fun hHeld => ?_)
          clear hK K
          try simp only [Act.put, List.setIfInBounds_toArray, List.set_cons_zero, List.set_cons_succ]
          refine take_to (i := 7) (d := some 28) (v := ?_) (l' := #[true, true, true, true, true, true, true, true, false, false, false, false, false, false, false, false, false, false, false]) rfl rfl (by kernel_rfl) (by kernel_rfl) (by kernel_rfl) (by kernel_rfl) (fun _ _ _ h => h) (Or.inl ⟨by rfl, ?_⟩) (by assumption) ?_; rotate_left; · (intro w' hSw; (try dsimp only at hSw); go_simp; (try with_reducible rfl))
          try simp only [Act.put, List.setIfInBounds_toArray, List.set_cons_zero, List.set_cons_succ]
          refine take_to (i := 8) (d := some 29) (v := ?_) (l' := #[true, true, true, true, true, true, true, true, true, false, false, false, false, false, false, false, false, false, false]) rfl rfl (by kernel_rfl) (by kernel_rfl) (by kernel_rfl) (by kernel_rfl) (fun _ _ _ h => h) (Or.inl ⟨by rfl, ?_⟩) (by assumption) ?_; rotate_left; · (intro w' hSw; (try dsimp only at hSw); go_simp; (try with_reducible rfl))
          try simp only [Act.put, List.setIfInBounds_toArray, List.set_cons_zero, List.set_cons_succ]
          refine take_to (i := 9) (d := some 30) (v := ?_) (l' := #[true, true, true, true, true, true, true, true, true, true, false, false, false, false, false, false, false, false, false]) rfl rfl (by kernel_rfl) (by kernel_rfl) (by kernel_rfl) (by kernel_rfl) (fun _ _ _ h => h) (Or.inl ⟨by rfl, ?_⟩) (by assumption) ?_; rotate_left; · (intro w' hSw; (try dsimp only at hSw); go_simp; (try with_reducible rfl))
          try simp only [Act.put, List.setIfInBounds_toArray, List.set_cons_zero, List.set_cons_succ]
          refine take_to (i := 10) (d := some 31) (v := ?_) (l' := #[true, true, true, true, true, true, true, true, true, true, true, false, false, false, false, false, false, false, false]) rfl rfl (by kernel_rfl) (by kernel_rfl) (by kernel_rfl) (by kernel_rfl) (fun _ _ _ h => h) (Or.inl ⟨by rfl, ?_⟩) (by assumption) ?_; rotate_left; · (intro w' hSw; (try dsimp only at hSw); go_simp; (try with_reducible rfl))
          try simp only [Act.put, List.setIfInBounds_toArray, List.set_cons_zero, List.set_cons_succ]
          refine take_to (i := 11) (d := some 32) (v := undef) (l' := #[true, true, true, true, true, true, true, true, true, true, true, true, false, false, false, false, false, false, false]) rfl rfl (by kernel_rfl) (by kernel_rfl) (by kernel_rfl) (by kernel_rfl) (fun _ _ _ h => h) (Or.inr ⟨by rfl, rfl⟩) (by assumption) ?_
          try simp only [Act.put, List.setIfInBounds_toArray, List.set_cons_zero, List.set_cons_succ]
          refine take_to (i := 12) (d := some 33) (v := undef) (l' := #[true, true, true, true, true, true, true, true, true, true, true, true, true, false, false, false, false, false, false]) rfl rfl (by kernel_rfl) (by kernel_rfl) (by kernel_rfl) (by kernel_rfl) (fun _ _ _ h => h) (Or.inr ⟨by rfl, rfl⟩) (by assumption) ?_
          try simp only [Act.put, List.setIfInBounds_toArray, List.set_cons_zero, List.set_cons_succ]
          refine take_to (i := 13) (d := some 34) (v := undef) (l' := #[true, true, true, true, true, true, true, true, true, true, true, true, true, true, false, false, false, false, false]) rfl rfl (by kernel_rfl) (by kernel_rfl) (by kernel_rfl) (by kernel_rfl) (fun _ _ _ h => h) (Or.inr ⟨by rfl, rfl⟩) (by assumption) ?_
          try simp only [Act.put, List.setIfInBounds_toArray, List.set_cons_zero, List.set_cons_succ]
          refine take_to (i := 14) (d := some 35) (v := undef) (l' := #[true, true, true, true, true, true, true, true, true, true, true, true, true, true, true, false, false, false, false]) rfl rfl (by kernel_rfl) (by kernel_rfl) (by kernel_rfl) (by kernel_rfl) (fun _ _ _ h => h) (Or.inr ⟨by rfl, rfl⟩) (by assumption) ?_
          try simp only [Act.put, List.setIfInBounds_toArray, List.set_cons_zero, List.set_cons_succ]
          refine one_to (i := 15) (l' := #[true, true, true, true, true, true, true, true, true, true, true, true, true, true, true, true, false, false, false]) rfl (by kernel_rfl) (by kernel_rfl) (fun K hK => ?_)
          go_simp
          refine hK.out _ _ (by first | exact HW.out.cells | exact (HW.out.go (Below.refl _ _).drew).cells) (fun hHeld => ?_)
          clear hK K
          try simp only [Act.put, List.setIfInBounds_toArray, List.set_cons_zero, List.set_cons_succ]
          refine take_to (i := 16) (d := some 37) (v := ?_) (l' := #[true, true, true, true, true, true, true, true, true, true, true, true, true, true, true, true, true, false, false]) rfl rfl (by kernel_rfl) (by kernel_rfl) (by kernel_rfl) (by kernel_rfl) (fun _ _ _ h => h) (Or.inl ⟨by rfl, ?_⟩) (by assumption) ?_; rotate_left; · (intro w' hSw; (try dsimp only at hSw); go_simp; (try with_reducible rfl))
          try simp only [Act.put, List.setIfInBounds_toArray, List.set_cons_zero, List.set_cons_succ]
          refine take_to (i := 17) (d := some 38) (v := ?_) (l' := #[true, true, true, true, true, true, true, true, true, true, true, true, true, true, true, true, true, true, false]) rfl rfl (by kernel_rfl) (by kernel_rfl) (by kernel_rfl) (by kernel_rfl) (fun _ _ _ h => h) (Or.inl ⟨by rfl, ?_⟩) (by assumption) ?_; rotate_left; · (intro w' hSw; (try dsimp only at hSw); go_simp; (try with_reducible rfl))
          try simp only [Act.put, List.setIfInBounds_toArray, List.set_cons_zero, List.set_cons_succ]
          refine take_to (i := 18) (d := some 4) (v := ?_) (l' := #[true, true, true, true, true, true, true, true, true, true, true, true, true, true, true, true, true, true, true]) rfl rfl (by kernel_rfl) (by kernel_rfl) (by kernel_rfl) (by kernel_rfl) (fun _ _ _ h => h) (Or.inl ⟨by rfl, ?_⟩) (by assumption) ?_; rotate_left; · (intro w' hSw; (try dsimp only at hSw); go_simp; (try with_reducible rfl))
          try simp only [Act.put, List.setIfInBounds_toArray, List.set_cons_zero, List.set_cons_succ]
          refine wpAnyH_done (by kernel_rfl) ?_ _
          refine NoPanic.normal ?_
          clear hHeld
          go_wp2
          go_ret
          exact ⟨q_bool HFIN.out, HW.out.bel⟩
        · have h1 : ka = 1 := by omega
          subst h1
          obtain ⟨E, hE⟩ : ∃ E, decide (byL a.key a.kn = byL b.key b.kn) = E := ⟨_, rfl⟩
          have HFIN := Lib.hid (show E = r from by
            by_cases hk : byL a.key a.kn = byL b.key b.kn
            · rw [← hE, decide_eq_true hk, HRR.out.1 (HTE.out.2 ⟨(by first | rfl | trivial), fun h => absurd h h2, fun _ => ⟨hyes, fun _ => hk⟩⟩)]
            · rw [← hE, decide_eq_false hk, HRR.out.2 (fun e => hk (((HTE.out.1 e).2.2 h2).2 rfl))])
          have HE := Lib.hid hE
          clear hD HTE HRR hyes hE
          refine wp_region_noPanic ?_
          refine wp_region_start (n := 19) (l := #[false, false, false, false, false, false, false, false, false, false, false, false, false, false, false, false, false, false, false]) (S := (fun W => ((W.cell? ⟨w.heap.size, 0, none⟩ = some (.int .i64 a.what) ∧ W.cell? ⟨w.heap.size, 1, none⟩ = some (.slice a.kp a.kn a.kc) ∧ W.cell? ⟨w.heap.size, 2, none⟩ = some (.slice a.p a.m a.c) ∧ W.cell? ⟨w.heap.size, 3, none⟩ = some (.int .i64 a.k)) ∧ (W.cell? ⟨w.heap.size + 1, 0, none⟩ = some (.int .i64 b.what) ∧ W.cell? ⟨w.heap.size + 1, 1, none⟩ = some (.slice b.kp b.kn b.kc) ∧ W.cell? ⟨w.heap.size + 1, 2, none⟩ = some (.slice b.p b.m b.c) ∧ W.cell? ⟨w.heap.size + 1, 3, none⟩ = some (.int .i64 b.k))))) (by kernel_rfl) rfl (by kernel_rfl) (by first | exact HW.out.cells | exact (HW.out.go (Below.refl _ _).drew).cells) (fun hHeld => ?_)
          replace HW := Lib.hid (HW.out.go (Below.refl _ _).drew)
          generalize W.drew = W' at hHeld HW ⊢
          refine take_to (i := 0) (d := some 21) (v := ?_) (l' := #[true, false, false, false, false, false, false, false, false, false, false, false, false, false, false, false, false, false, false]) rfl rfl (by kernel_rfl) (by kernel_rfl) (by kernel_rfl) (by kernel_rfl) (fun _ _ _ h => h) (Or.inl ⟨by rfl, ?_⟩) (by assumption) ?_; rotate_left; · (intro w' hSw; (try dsimp only at hSw); go_simp; (try with_reducible rfl))
          try simp only [Act.put, List.setIfInBounds_toArray, List.set_cons_zero, List.set_cons_succ]
          refine take_to (i := 1) (d := some 22) (v := ?_) (l' := #[true, true, false, false, false, false, false, false, false, false, false, false, false, false, false, false, false, false, false]) rfl rfl (by kernel_rfl) (by kernel_rfl) (by kernel_rfl) (by kernel_rfl) (fun _ _ _ h => h) (Or.inl ⟨by rfl, ?_⟩) (by assumption) ?_; rotate_left; · (intro w' hSw; (try dsimp only at hSw); go_simp; (try with_reducible rfl))
          try simp only [Act.put, List.setIfInBounds_toArray, List.set_cons_zero, List.set_cons_succ]
          refine take_to (i := 3) (d := some 24) (v := ?_) (l' := #[true, true, false, true, false, false, false, false, false, false, false, false, false, false, false, false, false, false, false]) rfl rfl (by kernel_rfl) (by kernel_rfl) (by kernel_rfl) (by kernel_rfl) (fun _ _ _ h => h) (Or.inl ⟨by rfl, ?_⟩) (by assumption) ?_; rotate_left; · (intro w' hSw; (try dsimp only at hSw); go_simp; (try with_reducible rfl))
          try simp only [Act.put, List.setIfInBounds_toArray, List.set_cons_zero, List.set_cons_succ]
          refine take_to (i := 4) (d := some 25) (v := ?_) (l' := #[true, true, false, true, true, false, false, false, false, false, false, false, false, false, false, false, false, false, false]) rfl rfl (by kernel_rfl) (by kernel_rfl) (by kernel_rfl) (by kernel_rfl) (fun _ _ _ h => h) (Or.inl ⟨by rfl, ?_⟩) (by assumption) ?_; rotate_left; · (intro w' hSw; (try dsimp only at hSw); go_simp; (try with_reducible rfl))
          try simp only [Act.put, List.setIfInBounds_toArray, List.set_cons_zero, List.set_cons_succ]
          refine one_to (i := 2) (l' := #[true, true, true, true, true, false, false, false, false, false, false, false, false, false, false, false, false, false, false]) rfl (by kernel_rfl) (by kernel_rfl) (fun K hK => ?_)
          go_simp
          have hl := LA.out.below HW.out.bel
          refine (join_any _ _ a.p a.m a.c a.P a.ln a.C a.f a.all (Nat.le_refl _) hl.m hl.n hl.rows.rows hl.rows.row a.all_at).mono ?_
          rintro e w1 ⟨v1, rfl, hb2, ho⟩
          obtain ⟨p1, c1, rfl, hr, _, _⟩ := owns_reads ho
          replace HW := Lib.hid (HW.out.go hb2)
          have HR1 := Lib.hid hr
          clear hl hb2 ho hr
          dsimp only
          refine hK.out _ _ (by first | exact HW.out.cells | exact (HW.out.go (Below.refl _ _).drew).cells) (fun hHeld => ?_)
          clear hK K
          try simp only [Act.put, List.setIfInBounds_toArray, List.set_cons_zero, List.set_cons_succ]
          refine one_to (i := 5) (l' := #[true, true, true, true, true, true, false, false, false, false, false, false, false, false, false, false, false, false, false]) rfl (by kernel_rfl) (by kernel_rfl) (fun K hK => ?_)
          go_simp
          have hl := LB.out.below HW.out.bel
          refine (join_any _ _ b.p b.m b.c b.P b.ln b.C b.f b.all (Nat.le_refl _) hl.m hl.n hl.rows.rows hl.rows.row b.all_at).mono ?_
          rintro e w2 ⟨v2, rfl, hb2, ho⟩
          obtain ⟨p2, c2, rfl, hr, _, _⟩ := owns_reads ho
          replace HW := Lib.hid (HW.out.go hb2)
          replace HR1 := Lib.hid ((HR1.out.below hb2).mono hb2.size)
          have HR2 := Lib.hid hr
          clear hl hb2 ho hr
          dsimp only
          refine hK.out _ _ (by first | exact HW.out.cells | exact (HW.out.go (Below.refl _ _).drew).cells) (fun hHeld => ?_)
          clear hK K
          try simp only [Act.put, List.setIfInBounds_toArray, List.set_cons_zero, List.set_cons_succ]
          refine one_to (i := 6) (l' := #[true, true, true, true, true, true, true, false, false, false, false, false, false, false, false, false, false, false, false]) rfl (by kernel_rfl) (by kernel_rfl) (fun K hK => ?_)
          go_simp
          refine (sameB_any _ p1 p2 _ _ c1 c2 a.all b.all _ HNA.out HNB.out HR1.out HR2.out).mono ?_
          rw [HD.out]
          rintro e w3 ⟨rfl, hb3⟩
          replace HW := Lib.hid (HW.out.go hb3)
          clear hb3 HR1 HR2
          dsimp only
          refine hK.out _ _ (by first | exact HW.out.cells | exact (HW.out.go (Below.refl _ _).drew).cells) (fun hHeld => ?_)
          clear hK K
          try simp only [Act.put, List.setIfInBounds_toArray, List.set_cons_zero, List.set_cons_succ]
          refine take_to (i := 7) (d := some 28) (v := ?_) (l' := #[true, true, true, true, true, true, true, true, false, false, false, false, false, false, false, false, false, false, false]) rfl rfl (by kernel_rfl) (by kernel_rfl) (by kernel_rfl) (by kernel_rfl) (fun _ _ _ h => h) (Or.inl ⟨by rfl, ?_⟩) (by assumption) ?_; rotate_left; · (intro w' hSw; (try dsimp only at hSw); go_simp; (try with_reducible rfl))
          try simp only [Act.put, List.setIfInBounds_toArray, List.set_cons_zero, List.set_cons_succ]
          refine take_to (i := 8) (d := some 29) (v := ?_) (l' := #[true, true, true, true, true, true, true, true, true, false, false, false, false, false, false, false, false, false, false]) rfl rfl (by kernel_rfl) (by kernel_rfl) (by kernel_rfl) (by kernel_rfl) (fun _ _ _ h => h) (Or.inl ⟨by rfl, ?_⟩) (by assumption) ?_; rotate_left; · (intro w' hSw; (try dsimp only at hSw); go_simp; (try with_reducible rfl))
          try simp only [Act.put, List.setIfInBounds_toArray, List.set_cons_zero, List.set_cons_succ]
          refine take_to (i := 9) (d := some 30) (v := ?_) (l' := #[true, true, true, true, true, true, true, true, true, true, false, false, false, false, false, false, false, false, false]) rfl rfl (by kernel_rfl) (by kernel_rfl) (by kernel_rfl) (by kernel_rfl) (fun _ _ _ h => h) (Or.inl ⟨by rfl, ?_⟩) (by assumption) ?_; rotate_left; · (intro w' hSw; (try dsimp only at hSw); go_simp; (try with_reducible rfl))
          try simp only [Act.put, List.setIfInBounds_toArray, List.set_cons_zero, List.set_cons_succ]
          refine take_to (i := 10) (d := some 31) (v := ?_) (l' := #[true, true, true, true, true, true, true, true, true, true, true, false, false, false, false, false, false, false, false]) rfl rfl (by kernel_rfl) (by kernel_rfl) (by kernel_rfl) (by kernel_rfl) (fun _ _ _ h => h) (Or.inl ⟨by rfl, ?_⟩) (by assumption) ?_; rotate_left; · (intro w' hSw; (try dsimp only at hSw); go_simp; (try with_reducible rfl))
          try simp only [Act.put, List.setIfInBounds_toArray, List.set_cons_zero, List.set_cons_succ]
          refine take_to (i := 11) (d := some 32) (v := ?_) (l' := #[true, true, true, true, true, true, true, true, true, true, true, true, false, false, false, false, false, false, false]) rfl rfl (by kernel_rfl) (by kernel_rfl) (by kernel_rfl) (by kernel_rfl) (fun _ _ _ h => h) (Or.inl ⟨by rfl, ?_⟩) (by assumption) ?_; rotate_left; · (intro w' hSw; (try dsimp only at hSw); go_simp; (try with_reducible rfl))
          try simp only [Act.put, List.setIfInBounds_toArray, List.set_cons_zero, List.set_cons_succ]
          refine take_to (i := 12) (d := some 33) (v := ?_) (l' := #[true, true, true, true, true, true, true, true, true, true, true, true, true, false, false, false, false, false, false]) rfl rfl (by kernel_rfl) (by kernel_rfl) (by kernel_rfl) (by kernel_rfl) (fun _ _ _ h => h) (Or.inl ⟨by rfl, ?_⟩) (by assumption) ?_; rotate_left; · (intro w' hSw; (try dsimp only at hSw); go_simp; (try with_reducible rfl))
          try simp only [Act.put, List.setIfInBounds_toArray, List.set_cons_zero, List.set_cons_succ]
          refine take_to (i := 13) (d := some 34) (v := ?_) (l' := #[true, true, true, true, true, true, true, true, true, true, true, true, true, true, false, false, false, false, false]) rfl rfl (by kernel_rfl) (by kernel_rfl) (by kernel_rfl) (by kernel_rfl) (fun _ _ _ h => h) (Or.inl ⟨by rfl, ?_⟩) (by assumption) ?_; rotate_left; · (intro w' hSw; (try dsimp only at hSw); go_simp; (try with_reducible rfl))
          try simp only [Act.put, List.setIfInBounds_toArray, List.set_cons_zero, List.set_cons_succ]
          refine take_to (i := 14) (d := some 35) (v := ?_) (l' := #[true, true, true, true, true, true, true, true, true, true, true, true, true, true, true, false, false, false, false]) rfl rfl (by kernel_rfl) (by kernel_rfl) (by kernel_rfl) (by kernel_rfl) (fun _ _ _ h => h) (Or.inl ⟨by rfl, ?_⟩) (by assumption) ?_; rotate_left; · (intro w' hSw; (try dsimp only at hSw); go_simp; (try with_reducible rfl))
          try simp only [Act.put, List.setIfInBounds_toArray, List.set_cons_zero, List.set_cons_succ]
          refine one_to (i := 15) (l' := #[true, true, true, true, true, true, true, true, true, true, true, true, true, true, true, true, false, false, false]) rfl (by kernel_rfl) (by kernel_rfl) (fun K hK => ?_)
          go_simp
          have hl := LA.out.below HW.out.bel
          have hl2 := LB.out.below HW.out.bel
          refine (sameB_any _ a.kp b.kp a.kn b.kn a.kc b.kc a.key b.key _ (Nat.le_trans hl.kn (by omega)) (Nat.le_trans hl2.kn (by omega)) hl.key hl2.key).mono ?_
          rw [HE.out]
          rintro e w4 ⟨rfl, hb4⟩
          replace HW := Lib.hid (HW.out.go hb4)
          clear hb4 hl hl2
          dsimp only
          refine hK.out _ _ (by first | exact HW.out.cells | exact (HW.out.go (Below.refl _ _).drew).cells) (fun hHeld => ?_)
          clear hK K
          try simp only [Act.put, List.setIfInBounds_toArray, List.set_cons_zero, List.set_cons_succ]
          refine take_to (i := 16) (d := some 37) (v := ?_) (l' := #[true, true, true, true, true, true, true, true, true, true, true, true, true, true, true, true, true, false, false]) rfl rfl (by kernel_rfl) (by kernel_rfl) (by kernel_rfl) (by kernel_rfl) (fun _ _ _ h => h) (Or.inl ⟨by rfl, ?_⟩) (by assumption) ?_; rotate_left; · (intro w' hSw; (try dsimp only at hSw); go_simp; (try with_reducible rfl))
          try simp only [Act.put, List.setIfInBounds_toArray, List.set_cons_zero, List.set_cons_succ]
          refine take_to (i := 17) (d := some 38) (v := ?_) (l' := #[true, true, true, true, true, true, true, true, true, true, true, true, true, true, true, true, true, true, false]) rfl rfl (by kernel_rfl) (by kernel_rfl) (by kernel_rfl) (by kernel_rfl) (fun _ _ _ h => h) (Or.inl ⟨by rfl, ?_⟩) (by assumption) ?_; rotate_left; · (intro w' hSw; (try dsimp only at hSw); go_simp; (try with_reducible rfl))
          try simp only [Act.put, List.setIfInBounds_toArray, List.set_cons_zero, List.set_cons_succ]
          refine take_to (i := 18) (d := some 4) (v := ?_) (l' := #[true, true, true, true, true, true, true, true, true, true, true, true, true, true, true, true, true, true, true]) rfl rfl (by kernel_rfl) (by kernel_rfl) (by kernel_rfl) (by kernel_rfl) (fun _ _ _ h => h) (Or.inl ⟨by rfl, ?_⟩) (by assumption) ?_; rotate_left; · (intro w' hSw; (try dsimp only at hSw); go_simp; (try with_reducible rfl))
          try simp only [Act.put, List.setIfInBounds_toArray, List.set_cons_zero, List.set_cons_succ]
          refine wpAnyH_done (by kernel_rfl) ?_ _
          refine NoPanic.normal ?_
          clear hHeld
          go_wp2
          go_ret
          exact ⟨q_bool HFIN.out, HW.out.bel⟩
  · have hne : (ka != kb) = true := by simp [hkk]
    have HFIN := Lib.hid (HRR.out.2 (fun e => hkk (HTE.out.1 e).1))
    go_wp2
    go_ret
    exact ⟨q_bool HFIN.out.symm, HW.out.bel⟩
end Go.Proofs.YtjflaeohkhmkaaaDoor
