/-
  Contract: a hasher takes a block.
-/
import Derived.Test.YtejknkgbkkdaiaaGreatDoorStep
import Derived.Test.YtejknkgbkkdaiaaGreatDoorSpread
namespace Go.Proofs.YtejknkgbkkdaiaaGreatDoor
open Go.RowKit
set_option linter.unusedSimpArgs false
set_option linter.unusedVariables false

theorem info64b : (Tryz.prog.info? 87).map (·.size) = some 64 := by kernel_rfl
/-- the words, of which the first have what they were added -/
def added (r s : Nat → BitVec 32) (j : Nat) : Nat → BitVec 32 := fun m => if m < j then r m + s m else r m
theorem range8 (f : Nat → Value) : (List.range 8).map f = [f 0, f 1, f 2, f 3, f 4, f 5, f 6, f 7] := rfl
theorem gr_low {w w' : World} {hb B : Nat} (h : w.grownBy w' (some hb)) (hB : B ≤ hb) (hs : B ≤ w.heap.size) : Below B w w' := gr_below h hB hs

theorem run_index_word {P : Program} {w : World} {t e : TypeId} {len k : Nat} {kd : IntKind} {cs : Array Value} {v : Value} (hu : P.underlying t = some (.array len e)) (he : P.underlying e = some (.int kd)) (hi : (P.info? e).map (·.size) = some 1)
    (hk : k < len) (hv : cs[k]? = some v) : (Instr.index t (.agg cs) (.int .i64 (k : Int))).run P w = .ok v w := by
  obtain ⟨hk2, hv2⟩ := Array.getElem?_eq_some_iff.1 hv
  cases hq : P.info? e with
  | none => simp [hq] at hi
  | some i =>
    have hs : i.size = 1 := by simpa [hq] using hi
    have h1 : (0 : Int) ≤ (k : Int) ∧ (k : Int) < (len : Int) := by omega
    simp [Instr.index, asIntOf, run_underlying hu, Go.part, isAgg, run_underlying he, sizeOf, typeInfo, hq, hs, hk, hk2, hv2]
theorem set_drew (w : World) (p : Addr) (v : Value) : w.drew.setCell p v = (w.setCell p v).drew := rfl
theorem info32 : (Tryz.prog.info? 96).map (·.size) = some 1 := by kernel_rfl
theorem HS.setAdded {W : World} {hb n m : Nat} {r s : Nat → BitVec 32} {op : Nat → BitVec 8} {own : Option Addr} (h : HS W hb (added r s m) op n own) (hm : m < 8) (x : BitVec 32) (hx : x = r m + s m) :
    HS (W.setCell ⟨hb, m, none⟩ (.int .u32 (u x))) hb (added r s (m + 1)) op n own := by
  refine h.setWord m hm x (by unfold added; rw [if_pos (by omega), hx]) (fun j h1 h2 => ?_)
  unfold added
  by_cases h3 : j < m
  · rw [if_pos h3, if_pos (by omega)]
  · rw [if_neg h3, if_neg (by omega)]

set_option maxHeartbeats 4000000 in
set_option maxRecDepth 100000 in
theorem take_any (B : Nat) (w : World) (hb : Nat) (st : Nat → BitVec 32) (op : Nat → BitVec 8) (n : Nat) (own : Option Addr) (b : Nat → BitVec 8) (hk : Kc B w) (hB : B ≤ hb) (h : HS w hb st op n own) :
    Calls Tryz.prog 93 #[.pointer (some ⟨hb, 0, none⟩), .agg ((List.range 64).map fun i => .int .u8 (ub (b i))).toArray] w fun e w' => e = .returned (.tuple #[]) ∧ w.grownBy w' (some hb) ∧ HS w' hb (comp st b) op n own := by
  have HH := Lib.hid h
  have hw8 := h.at8
  have hlt := h.lt
  obtain ⟨c0, c1, c2, c3, c4, c5, c6, c7⟩ := hw8
  clear h
  obtain ⟨A, hA⟩ : ∃ A : Array Value, A = ((List.range 64).map fun i => Value.int .u8 (ub (b i))).toArray := ⟨_, rfl⟩
  rw [← hA]
  have HA := Lib.hid hA
  clear hA
  have hal : ∀ o i v, w.cell? ⟨hb, i, none⟩ = some v → (w.alloc o).cell? ⟨hb, i, none⟩ = some v := fun o i v h => (World.cell?_alloc_past _ _ _ hlt).trans h
  go_enter Tryz.func93, Tryz.ntmps93
  go_upto_region 2 with (fail)
  refine wp_region_lit ?_
  refine wpList_load_mid rfl 87 _ rfl w.heap.size 0 rfl ((List.range 64).map fun i => Value.int .u8 (ub (b i))) _ (fun j v hv => by
    rw [cell_of_row _ w.heap.size (0 + j) A _ (0, 0) (laid_old (laid_at rfl)), HA.out, Nat.zero_add]
    simpa using hv) Tryz.underlying87 rfl (by simp [info64b]) ?_
  go_wp2_with fail
  refine (spread_any b _).mono ?_
  rintro e w1 ⟨rfl, hb1⟩
  have hH1 : HS w1 hb st op n own := ((HH.out.alloc _).alloc _).below hb1 (by simp; omega)
  have hK1 : Kc B w1 := hk.below ((((Below.refl _ _).alloc (by omega) _).alloc (by simp; omega) _).trans (hb1.mono (by simp; omega)))
  have hG1 : w.grownBy w1 (some hb) := ((World.grownBy_alloc w _ _).trans (World.grownBy_alloc _ _ _)).trans (below_gr hb1 _)
  have hA1 : ∀ i, i < 8 → w1.cell? ⟨w.heap.size + 1, i, none⟩ = some (.int .u32 (u (st i))) := fun i hi => by
    rw [hb1.cell (p := ⟨w.heap.size + 1, i, none⟩) (by simp), cell_of_row _ (w.heap.size + 1) i _ _ (0, 0) (laid_at (by simp))]
    match i, hi with
    | 0, _ => rfl
    | 1, _ => rfl
    | 2, _ => rfl
    | 3, _ => rfl
    | 4, _ => rfl
    | 5, _ => rfl
    | 6, _ => rfl
    | 7, _ => rfl
  have z1 : w.heap.size + 1 < w1.heap.size := by have := hb1.size; simp at this; omega
  obtain ⟨T, hT⟩ : ∃ T : Array Value, T = ((List.range 64).map fun i => Value.int .u32 (u (wl (bw b) 48 i))).toArray := ⟨_, rfl⟩
  rw [← hT]
  have HT := Lib.hid hT
  have HK := Lib.hid hK1
  have HS1 := Lib.hid hH1
  have HG1 := Lib.hid hG1
  have HA1 := Lib.hid hA1
  clear hT hb1 hH1 hK1 hG1 hA1 c0 c1 c2 c3 c4 c5 c6 c7 hal hk
  go_wp2
  go_loopw [14] (fun i wr => ∃ k : Nat, k ≤ 64 ∧ i = .int .i64 (k : Int) ∧ HS wr hb (rd (wl (bw b) 48) st k) op n own ∧ w1.grownBy wr (some hb)) (fun i _ => (64 - intOf i).toNat)
  case atStart => exact ⟨0, Nat.zero_le _, rfl, HS1.out, World.grownBy.refl _ _⟩
  case round =>
    obtain ⟨k, hk, rfl, hs, hg⟩ := hrel
    by_cases hlt2 : k < 64
    · have hTk : T[k]? = some (.int .u32 (u (wl (bw b) 48 k))) := by rw [HT.out]; simp [hlt2]
      have hck : wr.cell? ⟨1, k, none⟩ = some (.int .u32 (u (kc k))) := by
        rw [(gr_below hg hB (by omega)).cell (p := ⟨1, k, none⟩) HK.out.1]
        exact HK.out.2 k hlt2
      have HSk := Lib.hid hs
      have HG := Lib.hid hg
      clear hs hg
      have hix := run_index_word (w := wr) Tryz.underlying130 Tryz.underlying96 info32 hlt2 hTk
      go_wp2_with fail
      refine (step_any wr hb _ op n own (kc k) (wl (bw b) 48 k) HSk.out).mono ?_
      rintro e w3 ⟨rfl, hg3, hs3⟩
      have HS3 := Lib.hid hs3
      have HG3 := Lib.hid (HG.out.trans hg3)
      clear hs3 hg3 hix hck hTk
      go_wp2
      go_roundw
      case rel => exact ⟨k + 1, by omega, by go_num, HS3.out, HG3.out⟩
      case measure => simp [intOf]; omega
    · obtain rfl : k = 64 := by omega
      have hA2 : ∀ i, i < 8 → wr.cell? ⟨w.heap.size + 1, i, none⟩ = some (.int .u32 (u (st i))) := fun i hi => by
        rw [World.cell?_of_block (w := w1) (a := ⟨w.heap.size + 1, i, none⟩) (hg.block _ z1 (by simp; omega))]
        exact HA1.out i hi
      have a0 := hA2 0 (by omega)
      have a1 := hA2 1 (by omega)
      have a2 := hA2 2 (by omega)
      have a3 := hA2 3 (by omega)
      have a4 := hA2 4 (by omega)
      have a5 := hA2 5 (by omega)
      have a6 := hA2 6 (by omega)
      have a7 := hA2 7 (by omega)
      have hs0 : HS wr hb (added (rd (wl (bw b) 48) st 64) st 0) op n own := hs.congr (fun i _ => by unfold added; rw [if_neg (by omega)]) (fun _ _ => rfl)
      have HS0 := Lib.hid hs0
      have HG := Lib.hid hg
      clear hA2 hs hg hs0
      go_upto_region 8 with (fail)
      clear a0 a1 a2 a3 a4 a5 a6 a7
      go_wp2
      go_loopw [26] (fun i wr => ∃ m : Nat, m ≤ 8 ∧ i = .int .i64 (m : Int) ∧ HS wr hb (added (rd (wl (bw b) 48) st 64) st m) op n own ∧ w1.grownBy wr (some hb)) (fun i _ => (8 - intOf i).toNat)
      case atStart => exact ⟨0, Nat.zero_le _, rfl, HS0.out, HG.out⟩
      case round =>
        clear HS0 HG
        obtain ⟨m, hm, rfl, hs, hg⟩ := hrel
        by_cases hlt3 : m < 8
        · have hTm : (#[Value.int .u32 (u (st 0)), .int .u32 (u (st 1)), .int .u32 (u (st 2)), .int .u32 (u (st 3)), .int .u32 (u (st 4)), .int .u32 (u (st 5)), .int .u32 (u (st 6)), .int .u32 (u (st 7))] : Array Value)[m]? = some (.int .u32 (u (st m))) := by
            match m, hlt3 with
            | 0, _ => rfl
            | 1, _ => rfl
            | 2, _ => rfl
            | 3, _ => rfl
            | 4, _ => rfl
            | 5, _ => rfl
            | 6, _ => rfl
            | 7, _ => rfl
          have hix := run_index_word (w := wr) Tryz.underlying107 Tryz.underlying96 info32 hlt3 hTm
          have hd : ∀ W, HS W hb (added (rd (wl (bw b) 48) st 64) st m) op n own → w1.grownBy W (some hb) → HS W hb (added (rd (wl (bw b) 48) st 64) st m) op n own ∧ w1.grownBy W (some hb) ∧ W.cell? ⟨hb, m, none⟩ = some (.int .u32 (u (rd (wl (bw b) 48) st 64 m))) := fun W h1 h2 =>
            ⟨h1, h2, by have := h1.word m hlt3; unfold added at this; rw [if_neg (by omega)] at this; exact this⟩
          have HD := Lib.hid hd
          have HSm := Lib.hid hs
          have HG := Lib.hid hg
          clear hd hs hg hTm
          go_wp2
          clear hix
          refine wp_region_noPanic ?_
          refine wp_region_last (n := 12) (S := (fun w' => HS w' hb (added (rd (wl (bw b) 48) st 64) st m) op n own ∧ w1.grownBy w' (some hb) ∧ w'.cell? ⟨hb, m, none⟩ = some (.int .u32 (u (rd (wl (bw b) 48) st 64 m))))) 12 (by kernel_rfl) rfl (by kernel_rfl) (by decide) (by (refine HD.out _ ?_ ?_ <;> (repeat (first | exact HSm.out | exact HG.out | apply HS.drew | apply HS.alloc | apply gr_drewed | apply gr_alloced)))) (fun hHeld => ?_)
          refine take_at (i := 0) (d := some 30) (v := ?_) rfl rfl (by kernel_rfl) (by kernel_rfl) (by kernel_rfl) (fun _ _ _ h => h) (Or.inl ⟨by rfl, ?_⟩) (by assumption) ?_; rotate_left; · (intro w' hSw; (try dsimp only at hSw); go_simp; (try with_reducible rfl))
          try simp only [Act.put, List.setIfInBounds_toArray, List.set_cons_zero, List.set_cons_succ]
          refine take_at (i := 1) (d := some 31) (v := ?_) rfl rfl (by kernel_rfl) (by kernel_rfl) (by kernel_rfl) (fun _ _ _ h => h) (Or.inl ⟨by rfl, ?_⟩) (by assumption) ?_; rotate_left; · (intro w' hSw; (try dsimp only at hSw); go_simp; (try with_reducible rfl))
          try simp only [Act.put, List.setIfInBounds_toArray, List.set_cons_zero, List.set_cons_succ]
          refine take_at (i := 2) (d := some 32) (v := ?_) rfl rfl (by kernel_rfl) (by kernel_rfl) (by kernel_rfl) (fun _ _ _ h => h) (Or.inl ⟨by rfl, ?_⟩) (by assumption) ?_; rotate_left; · (intro w' hSw; (try dsimp only at hSw); go_simp; (try with_reducible rfl))
          try simp only [Act.put, List.setIfInBounds_toArray, List.set_cons_zero, List.set_cons_succ]
          refine take_at (i := 3) (d := some 33) (v := ?_) rfl rfl (by kernel_rfl) (by kernel_rfl) (by kernel_rfl) (fun _ _ _ h => h) (Or.inl ⟨by rfl, ?_⟩) (by assumption) ?_; rotate_left; · (intro w' hSw; (try dsimp only at hSw); go_simp; (try with_reducible rfl))
          try simp only [Act.put, List.setIfInBounds_toArray, List.set_cons_zero, List.set_cons_succ]
          refine take_at (i := 4) (d := some 34) (v := ?_) rfl rfl (by kernel_rfl) (by kernel_rfl) (by kernel_rfl) (fun _ _ _ h => h) (Or.inl ⟨by rfl, ?_⟩) (by assumption) ?_; rotate_left; · (intro w' hSw; (try dsimp only at hSw); go_simp; (try with_reducible rfl))
          try simp only [Act.put, List.setIfInBounds_toArray, List.set_cons_zero, List.set_cons_succ]
          refine take_at (i := 5) (d := some 35) (v := ?_) rfl rfl (by kernel_rfl) (by kernel_rfl) (by kernel_rfl) (fun _ _ _ h => h) (Or.inl ⟨by rfl, ?_⟩) (by assumption) ?_; rotate_left; · (intro w' hSw; (try dsimp only at hSw); go_simp; (try with_reducible rfl))
          try simp only [Act.put, List.setIfInBounds_toArray, List.set_cons_zero, List.set_cons_succ]
          refine take_at (i := 6) (d := some 36) (v := ?_) rfl rfl (by kernel_rfl) (by kernel_rfl) (by kernel_rfl) (fun _ _ _ h => h) (Or.inl ⟨by rfl, ?_⟩) (by assumption) ?_; rotate_left; · (intro w' hSw; (try dsimp only at hSw); go_simp; (try with_reducible rfl))
          try simp only [Act.put, List.setIfInBounds_toArray, List.set_cons_zero, List.set_cons_succ]
          refine take_at (i := 7) (d := some 37) (v := ?_) rfl rfl (by kernel_rfl) (by kernel_rfl) (by kernel_rfl) (fun _ _ _ h => h) (Or.inl ⟨by rfl, ?_⟩) (by assumption) ?_; rotate_left; · (intro w' hSw; (try dsimp only at hSw); go_simp; (try with_reducible rfl))
          try simp only [Act.put, List.setIfInBounds_toArray, List.set_cons_zero, List.set_cons_succ]
          refine take_at (i := 10) (d := some 40) (v := ?_) rfl rfl (by kernel_rfl) (by kernel_rfl) (by kernel_rfl) (fun _ _ _ h => h) (Or.inl ⟨by rfl, ?_⟩) (by assumption) ?_; rotate_left; · (intro w' hSw; (try dsimp only at hSw); go_simp; (try with_reducible rfl))
          try simp only [Act.put, List.setIfInBounds_toArray, List.set_cons_zero, List.set_cons_succ]
          refine wpAnyH_ready (rs := [8]) (by kernel_rfl) (by simp) (AllReadyH.cons rfl (fun K hK => ?_) (AllReadyH.nil))
          go_simp
          refine hK.out _ _ (by (refine HD.out _ ?_ ?_ <;> (repeat (first | exact HSm.out | exact HG.out | apply HS.drew | apply HS.alloc | apply gr_drewed | apply gr_alloced)))) (fun hHeld => ?_)
          clear hK K
          try simp only [Act.put, List.setIfInBounds_toArray, List.set_cons_zero, List.set_cons_succ]
          refine wpAnyH_ready (rs := [9]) (by kernel_rfl) (by simp) (AllReadyH.cons rfl (fun K hK => ?_) (AllReadyH.nil))
          go_simp
          refine (sum2_at _ _ _ _ _ (by (try simp only [heap_drew]); repeat (first | (apply laid_at; simp; done) | apply laid_old))).mono ?_
          rintro e w5 ⟨rfl, rfl⟩
          dsimp only
          refine hK.out _ _ (by (refine HD.out _ ?_ ?_ <;> (repeat (first | exact HSm.out | exact HG.out | apply HS.drew | apply HS.alloc | apply gr_drewed | apply gr_alloced)))) (fun hHeld => ?_)
          clear hK K
          try simp only [Act.put, List.setIfInBounds_toArray, List.set_cons_zero, List.set_cons_succ]
          refine take_at (i := 11) (d := some 41) (v := ?_) rfl rfl (by kernel_rfl) (by kernel_rfl) (by kernel_rfl) (fun _ _ _ h => h) (Or.inl ⟨by rfl, ?_⟩) (by assumption) ?_; rotate_left; · (intro w' hSw; (try dsimp only at hSw); go_simp; (try with_reducible rfl))
          try simp only [Act.put, List.setIfInBounds_toArray, List.set_cons_zero, List.set_cons_succ]
          refine wpAnyH_done (by kernel_rfl) ?_ _
          have hn := HS.setAdded hHeld.1 hlt3 _ rfl
          have hn2 := hHeld.2.1.trans (gr_setCell (hb := hb) (i := m) (.int .u32 (u (rd (wl (bw b) 48) st 64 m + st m))))
          have cm := hHeld.2.2
          have fm := hHeld.1.free m
          refine behind_go rfl (by rfl) ?_
          clear hHeld HSm HD HG
          go_simp
          refine NoPanic.normal ?_
          clear cm fm
          rw [set_drew] at hn hn2
          generalize World.drew (World.setCell _ ⟨hb, m, none⟩ _) = W6 at hn hn2 ⊢
          have HN := Lib.hid hn
          have HN2 := Lib.hid hn2
          clear hn hn2
          go_wp2
          go_roundw
          case rel =>
            refine ⟨_, _, _, _, _, _, _, _, _, _, _, _, _, _, _, _, _, _, _, ⟨m + 1, by omega, ?_, HN.out, HN2.out⟩, rfl⟩
            go_num
          case measure => simp [intOf]; omega
        · obtain rfl : m = 8 := by omega
          have hfin : HS wr hb (comp st b) op n own := hs.congr (fun i hi => by unfold added; rw [if_pos (by omega)]; rfl) (fun _ _ => rfl)
          have HF := Lib.hid hfin
          have HG2 := Lib.hid (HG1.out.trans hg)
          clear hfin hs hg
          go_wp2
          go_end0
          exact ⟨rfl, HG2.out, HF.out⟩
end Go.Proofs.YtejknkgbkkdaiaaGreatDoor
