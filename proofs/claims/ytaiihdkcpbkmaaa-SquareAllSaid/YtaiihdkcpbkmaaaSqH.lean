/-
  Contracts: rings.
-/
import Derived.Test.YtaiihdkcpbkmaaaSqG
namespace Go.Proofs.Ytaiihdkcpbkmaaa
open Go.RowKit
set_option linter.unusedSimpArgs false
set_option linter.unusedVariables false

/-- a row of steps: each a file's and a rank's -/
def Reads2 (B : Nat) (w : World) (p : Option Addr) (n : Nat) (f g : Nat → Int) : Prop :=
  n = 0 ∨ ∃ b off, p = some ⟨b, off, none⟩ ∧ b < B ∧ ∀ i, i < n → w.cell? ⟨b, off + i * 2, none⟩ = some (.int .i64 (f i)) ∧ w.cell? ⟨b, off + i * 2 + 1, none⟩ = some (.int .i64 (g i))
theorem Reads2.below {B : Nat} {w w' : World} {p : Option Addr} {n : Nat} {f g : Nat → Int} (h : Reads2 B w p n f g) (hb : Below B w w') : Reads2 B w' p n f g := by
  rcases h with h | ⟨b, off, h1, h2, h3⟩
  · exact .inl h
  · exact .inr ⟨b, off, h1, h2, fun i hi => ⟨(hb.cell (p := ⟨b, off + i * 2, none⟩) h2).trans (h3 i hi).1, (hb.cell (p := ⟨b, off + i * 2 + 1, none⟩) h2).trans (h3 i hi).2⟩⟩
theorem Reads2.mono {B B' : Nat} {w : World} {p : Option Addr} {n : Nat} {f g : Nat → Int} (h : Reads2 B w p n f g) (hB : B ≤ B') : Reads2 B' w p n f g := by
  rcases h with h | ⟨b, off, h1, h2, h3⟩
  · exact .inl h
  · exact .inr ⟨b, off, h1, Nat.lt_of_lt_of_le h2 hB, h3⟩
/-- the squares at the first steps -/
def rg (s : Int) (f g : Nat → Int) : Nat → List Int
  | 0 => []
  | k + 1 => rg s f g k ++ if sq (stp s (f k) (g k)) then [stp s (f k) (g k)] else []
theorem rg_len (s : Int) (f g : Nat → Int) (k : Nat) : (rg s f g k).length ≤ k := by
  induction k with
  | zero => exact Nat.le_refl _
  | succ k ih =>
    simp only [rg, List.length_append]
    split <;> simp <;> omega
def ivals (l : List Int) : List Value := l.map fun x => .int .i64 x
theorem ivals_range (l : List Int) : ivals l = (List.range l.length).map fun i => .int .i64 (l.getD i 0) := by
  apply List.ext_getElem?
  intro i
  unfold ivals
  by_cases h : i < l.length
  · simp [h, List.getElem?_eq_getElem h]
  · rw [List.getElem?_eq_none (by simp; omega), List.getElem?_eq_none (by simp; omega)]
theorem ivals_snoc (l : List Int) (x : Int) : ivals l ++ [.int .i64 x] = ivals (l ++ [x]) := by unfold ivals; rw [List.map_append]; rfl

set_option maxHeartbeats 2000000 in
set_option maxRecDepth 100000 in
theorem ring_any (B : Nat) (s : Int) (p : Option Addr) (n c : Nat) (f g : Nat → Int) (w : World) (hn : n ≤ 1000000) (hr : Reads2 B w p n f g) (hB : B ≤ w.heap.size) (hw : ∀ i, i < n → I64 (f i) ∧ I64 (g i)) :
    Calls Try.prog 27 #[.int .i64 s, .slice p n c] w fun e w' => ∃ v, e = .returned v ∧ Below w.heap.size w w' ∧ w'.ownsRow w.heap.size 3 1 v (rg s f g n).length (ivals (rg s f g n)) := by
  obtain ⟨i0, hi, hz0, hz1, hz2⟩ := info_parts infoInt
  have HR := Lib.hid hr
  have HW := Lib.hid hw
  clear hr hw
  go_enter Try.func27, Try.ntmps27
  go_wp2_with fail
  refine (spotOf_any s _).mono ?_
  rintro e w1 ⟨rfl, hb1⟩
  have HL1 := Lib.hid (sl_at (W := w1) (o := .cells #[.int .i64 (sF s), .int .i64 (sR s), .int .i64 (sN s)] 45) rfl)
  have HB1 := Lib.hid (hb1.alloc hb1.size (.cells #[.int .i64 (sF s), .int .i64 (sR s), .int .i64 (sN s)] 45))
  obtain ⟨H0, hH0⟩ : ∃ H, H = w1.heap.size := ⟨_, rfl⟩
  have hlt0 : w.heap.size ≤ H0 := by rw [hH0]; exact hb1.size
  clear hb1
  go_upto_region 2 with (fail)
  generalize w1.alloc (.cells #[.int .i64 (sF s), .int .i64 (sR s), .int .i64 (sN s)] 45) = V at HL1 HB1 ⊢
  rw [← hH0] at HL1 ⊢
  clear hH0
  go_wp2
  go_loopw [6, 14] (fun v i wr => ∃ k : Nat, k ≤ n ∧ i = .int .i64 (k : Int) ∧ Below w.heap.size w wr ∧ wr.heap[H0]? = some (.cells #[.int .i64 (sF s), .int .i64 (sR s), .int .i64 (sN s)] 45 (0, 0)) ∧ wr.ownsRow w.heap.size 3 1 v (rg s f g k).length (ivals (rg s f g k))) (fun _ i _ => n - (intOf i).toNat)
  case atStart => exact ⟨0, Nat.zero_le _, rfl, HB1.out, HL1.out, World.ownsRow_nil _ _ _ _⟩
  case round =>
    clear HL1 HB1
    obtain ⟨k, hk, rfl, hbk, hlk, hown⟩ := hrel
    by_cases hlt : k < n
    · rcases HR.out with h0 | ⟨b, off, rfl, hbb, hc⟩
      · omega
      obtain ⟨hc1, hc2⟩ := hc k hlt
      have e1 : wr.cell? ⟨b, off + k * 2, none⟩ = some (.int .i64 (f k)) := (hbk.cell (p := ⟨b, off + k * 2, none⟩) (by show b < w.heap.size; omega)).trans hc1
      have e2 : wr.cell? ⟨b, off + k * 2 + 1, none⟩ = some (.int .i64 (g k)) := (hbk.cell (p := ⟨b, off + k * 2 + 1, none⟩) (by show b < w.heap.size; omega)).trans hc2
      obtain ⟨hf, hg⟩ := HW.out k hlt
      have hrg : rg s f g (k + 1) = rg s f g k ++ if sq (stp s (f k) (g k)) then [stp s (f k) (g k)] else [] := rfl
      have hgl := rg_len s f g k
      have hsn := stp_sN (s := s) (f k) (g k)
      obtain ⟨x, hx⟩ : ∃ x, f k = x := ⟨_, rfl⟩
      obtain ⟨y, hy⟩ : ∃ y, g k = y := ⟨_, rfl⟩
      rw [hx, hy] at hrg hsn
      rw [hx] at e1 hf
      rw [hy] at e2 hg
      obtain ⟨L, hL⟩ : ∃ L, rg s f g k = L := ⟨_, rfl⟩
      rw [hL] at hrg hown hgl
      have hst := stp_or s x y
      obtain ⟨t, ht⟩ : ∃ t, stp s x y = t := ⟨_, rfl⟩
      rw [ht] at hrg hsn hst
      have HT := Lib.hid ht
      have HRG := Lib.hid hrg
      have HBK := Lib.hid hbk
      have HLK := Lib.hid hlk
      have HOW := Lib.hid hown
      have HSN := Lib.hid hsn
      have HST := Lib.hid hst
      have hbs : b < wr.heap.size := Nat.lt_of_lt_of_le hbb (Nat.le_trans hB hbk.size)
      clear hc hc1 hc2 hx hy hL ht hrg hbk hown hsn hst
      obtain ⟨p0, p1, p2, pfr, pz⟩ := row3 hlk
      clear hlk
      go_wp2_with fail
      refine (next_any s x y _ hf hg).mono ?_
      rw [HT.out]
      rintro e w2 ⟨rfl, hb2⟩
      clear p0 p1 p2 pfr pz e1 e2 hbs
      have hbs2 : wr.heap.size ≤ w2.heap.size := Nat.le_trans (by simp) hb2.size
      have HB2 := Lib.hid ((HBK.out.alloc HBK.out.size _).trans (hb2.mono (by simp; have := HBK.out.size; omega)))
      have HL2 := Lib.hid (sl_go (al_old HLK.out _) hb2)
      have HO2 := Lib.hid (owns_go (HOW.out.alloc _) hb2)
      clear hb2 HBK HLK HOW
      rcases HST.out with rfl | hsq
      · go_wp2_with fail
        refine (onBsq_any (-1) _).mono ?_
        rw [show sq (-1) = false from rfl]
        rintro e w3 ⟨rfl, hb3⟩
        have HB3 := Lib.hid ((HB2.out.alloc HB2.out.size _).trans (hb3.mono (by simp; have := HB2.out.size; omega)))
        have HL3 := Lib.hid (sl_go (al_old HL2.out _) hb3)
        have HO3 := Lib.hid (owns_go (HO2.out.alloc _) hb3)
        clear hb3 HB2 HL2 HO2
        have HR2 := Lib.hid (show rg s f g (k + 1) = L from by rw [HRG.out]; simp [show sq (-1) = false from rfl])
        go_wp2
        go_roundw
        case rel => exact ⟨k + 1, by omega, by go_num, HB3.out, HL3.out, by rw [HR2.out]; exact HO3.out⟩
        case measure => simp [intOf]; omega
      · have HR2 := Lib.hid (show rg s f g (k + 1) = L ++ [t] from by rw [HRG.out, if_pos hsq])
        have HSQ := Lib.hid hsq
        clear hsq
        go_wp2_with fail
        refine (onBsq_any t _).mono ?_
        rw [HSQ.out]
        rintro e w3 ⟨rfl, hb3⟩
        have HB3 := Lib.hid ((HB2.out.alloc HB2.out.size _).trans (hb3.mono (by simp; have := HB2.out.size; omega)))
        have HL3 := Lib.hid (sl_go (al_old HL2.out _) hb3)
        have HO3 := Lib.hid (owns_go (HO2.out.alloc _) hb3)
        obtain ⟨p0, p1, p2, pfr, pz⟩ := row3 (sl_go (sl_at (W := w2) (o := .cells #[.int .i64 (sF t), .int .i64 (sR t), .int .i64 (sN t)] 45) rfl) hb3)
        rw [HSN.out] at p2
        clear hb3 HB2 HL2 HO2
        have hm1 : L.length + 1 ≤ maxLen := by unfold maxLen; omega
        go_wp2_with (at_builtin; refine wpList_append_lies _ rfl (.tmp 24) (.tmp 27) 32 rfl w.heap.size 3 i0 (.int .i64 0) 1 8 Try.underlying32 hi hz0 hz1 hz2 rfl (by decide) _ L.length (ivals L) rfl (HO3.out.alloc _) ⟨w3.heap.size, 0, none⟩ 1 1 [.int .i64 t] rfl rfl (World.news_of_block (heap_alloc_new _ _)) ?c2 (by decide) hm1 (by omega) (by simp; have := HB3.out.size; omega) (w3.heap.size + 1) (by simp) ?next)
        case c2 => intro y hy; simp at hy; subst hy; rfl
        case next =>
          intro g1 cap1 w4 hown1 hgrow1 hat1 hlt3
          rw [ivals_snoc] at hown1
          have HB4 := Lib.hid ((HB3.out.alloc HB3.out.size _).grown hgrow1 (by simp; have := HB3.out.size; omega) (fun b e => (HO3.out.lt b e).1))
          have HL4 := Lib.hid (sl_grown (al_old HL3.out _) hgrow1 (owns_off HO3.out HL3.out (by decide)))
          have HO4 := Lib.hid hown1
          clear hgrow1 hown1 hat1 HB3 HL3 HO3 p0 p1 p2 pfr pz
          go_wp2
          go_roundw
          case rel => exact ⟨k + 1, by omega, by go_num, HB4.out, HL4.out, by rw [HR2.out, show (L ++ [t]).length = L.length + 1 by simp]; exact HO4.out⟩
          case measure => simp [intOf]; omega
    · obtain rfl : k = n := by omega
      have HO := Lib.hid hown
      have HBK := Lib.hid hbk
      clear hown hbk hlk
      go_wp2
      go_ret
      exact ⟨_, rfl, HBK.out, HO.out⟩
set_option maxHeartbeats 2000000 in
set_option maxRecDepth 100000 in
theorem rring_any (B : Nat) (s : Int) (p : Option Addr) (n c : Nat) (f g : Nat → Int) (w : World) (hn : n ≤ 1000000) (hr : Reads2 B w p n f g) (hB : B ≤ w.heap.size) (hw : ∀ i, i < n → I64 (f i) ∧ I64 (g i)) :
    Calls Try.prog 28 #[.int .i64 s, .slice p n c] w fun e w' => ∃ v, e = .returned v ∧ Below w.heap.size w w' ∧ w'.ownsRow w.heap.size 3 1 v (rg s f g n).length (ivals (rg s f g n)) := by
  obtain ⟨i0, hi, hz0, hz1, hz2⟩ := info_parts infoInt
  have HR := Lib.hid hr
  have HW := Lib.hid hw
  clear hr hw
  go_enter Try.func28, Try.ntmps28
  go_wp2
  go_loopw [5, 6] (fun v i wr => ∃ k : Nat, k ≤ n ∧ i = .int .i64 (k : Int) ∧ Below w.heap.size w wr ∧ wr.ownsRow w.heap.size 3 1 v (rg s f g k).length (ivals (rg s f g k))) (fun _ i _ => n - (intOf i).toNat)
  case atStart => exact ⟨0, Nat.zero_le _, rfl, Below.refl _ _, World.ownsRow_nil _ _ _ _⟩
  case round =>
    obtain ⟨k, hk, rfl, hbk, hown⟩ := hrel
    by_cases hlt : k < n
    · rcases HR.out with h0 | ⟨b, off, rfl, hbb, hc⟩
      · omega
      obtain ⟨hc1, hc2⟩ := hc k hlt
      have e1 : wr.cell? ⟨b, off + k * 2, none⟩ = some (.int .i64 (f k)) := (hbk.cell (p := ⟨b, off + k * 2, none⟩) (by show b < w.heap.size; omega)).trans hc1
      have e2 : wr.cell? ⟨b, off + k * 2 + 1, none⟩ = some (.int .i64 (g k)) := (hbk.cell (p := ⟨b, off + k * 2 + 1, none⟩) (by show b < w.heap.size; omega)).trans hc2
      obtain ⟨hf, hg⟩ := HW.out k hlt
      have hrg : rg s f g (k + 1) = rg s f g k ++ if sq (stp s (f k) (g k)) then [stp s (f k) (g k)] else [] := rfl
      have hgl := rg_len s f g k
      obtain ⟨x, hx⟩ : ∃ x, f k = x := ⟨_, rfl⟩
      obtain ⟨y, hy⟩ : ∃ y, g k = y := ⟨_, rfl⟩
      rw [hx, hy] at hrg
      rw [hx] at e1 hf
      rw [hy] at e2 hg
      obtain ⟨L, hL⟩ : ∃ L, rg s f g k = L := ⟨_, rfl⟩
      rw [hL] at hrg hown hgl
      have hst := stp_or s x y
      obtain ⟨t, ht⟩ : ∃ t, stp s x y = t := ⟨_, rfl⟩
      rw [ht] at hrg hst
      have HT := Lib.hid ht
      have HRG := Lib.hid hrg
      have HBK := Lib.hid hbk
      have HOW := Lib.hid hown
      have HST := Lib.hid hst
      have hbs : b < wr.heap.size := Nat.lt_of_lt_of_le hbb (Nat.le_trans hB hbk.size)
      clear hc hc1 hc2 hx hy hL ht hrg hbk hown hst
      go_upto_region 5 with (fail)
      have HCE := Lib.hid (And.intro (show wr.drew.cell? ⟨b, off + k * 2, none⟩ = some (.int .i64 x) from e1) (show wr.drew.cell? ⟨b, off + k * 2 + 1, none⟩ = some (.int .i64 y) from e2))
      clear e1 e2
      refine wp_region_noPanic ?_
      refine wp_region_start (n := 13) (l := #[false, false, false, false, false, false, false, false, false, false, false, false, false]) (S := (fun W => W.cell? ⟨b, off + k * 2, none⟩ = some (.int .i64 x) ∧ W.cell? ⟨b, off + k * 2 + 1, none⟩ = some (.int .i64 y))) (by kernel_rfl) rfl (by kernel_rfl) (by first | exact HCE.out) (fun hHeld => ?_)
      refine take_to (i := 0) (d := some 14) (v := ?_) (l' := #[true, false, false, false, false, false, false, false, false, false, false, false, false]) rfl rfl (by kernel_rfl) (by kernel_rfl) (by kernel_rfl) (by kernel_rfl) (fun _ _ _ h => h) (Or.inl ⟨by rfl, ?_⟩) (by assumption) ?_; rotate_left; · (intro w' hSw; (try dsimp only at hSw); go_simp; (try with_reducible rfl))
      try simp only [Act.put, List.setIfInBounds_toArray, List.set_cons_zero, List.set_cons_succ]
      refine take_to (i := 1) (d := some 15) (v := ?_) (l' := #[true, true, false, false, false, false, false, false, false, false, false, false, false]) rfl rfl (by kernel_rfl) (by kernel_rfl) (by kernel_rfl) (by kernel_rfl) (fun _ _ _ h => h) (Or.inl ⟨by rfl, ?_⟩) (by assumption) ?_; rotate_left; · (intro w' hSw; (try dsimp only at hSw); go_simp; (try with_reducible rfl))
      try simp only [Act.put, List.setIfInBounds_toArray, List.set_cons_zero, List.set_cons_succ]
      refine take_to (i := 2) (d := some 16) (v := ?_) (l' := #[true, true, true, false, false, false, false, false, false, false, false, false, false]) rfl rfl (by kernel_rfl) (by kernel_rfl) (by kernel_rfl) (by kernel_rfl) (fun _ _ _ h => h) (Or.inl ⟨by rfl, ?_⟩) (by assumption) ?_; rotate_left; · (intro w' hSw; (try dsimp only at hSw); go_simp; (try with_reducible rfl))
      try simp only [Act.put, List.setIfInBounds_toArray, List.set_cons_zero, List.set_cons_succ]
      refine take_to (i := 3) (d := some 17) (v := ?_) (l' := #[true, true, true, true, false, false, false, false, false, false, false, false, false]) rfl rfl (by kernel_rfl) (by kernel_rfl) (by kernel_rfl) (by kernel_rfl) (fun _ _ _ h => h) (Or.inl ⟨by rfl, ?_⟩) (by assumption) ?_; rotate_left; · (intro w' hSw; (try dsimp only at hSw); go_simp; (try with_reducible rfl))
      try simp only [Act.put, List.setIfInBounds_toArray, List.set_cons_zero, List.set_cons_succ]
      refine take_to (i := 4) (d := some 18) (v := ?_) (l' := #[true, true, true, true, true, false, false, false, false, false, false, false, false]) rfl rfl (by kernel_rfl) (by kernel_rfl) (by kernel_rfl) (by kernel_rfl) (fun _ _ _ h => h) (Or.inl ⟨by rfl, ?_⟩) (by assumption) ?_; rotate_left; · (intro w' hSw; (try dsimp only at hSw); go_simp; (try with_reducible rfl))
      try simp only [Act.put, List.setIfInBounds_toArray, List.set_cons_zero, List.set_cons_succ]
      refine take_to (i := 5) (d := some 19) (v := ?_) (l' := #[true, true, true, true, true, true, false, false, false, false, false, false, false]) rfl rfl (by kernel_rfl) (by kernel_rfl) (by kernel_rfl) (by kernel_rfl) (fun _ _ _ h => h) (Or.inl ⟨by rfl, ?_⟩) (by assumption) ?_; rotate_left; · (intro w' hSw; (try dsimp only at hSw); go_simp; (try with_reducible rfl))
      try simp only [Act.put, List.setIfInBounds_toArray, List.set_cons_zero, List.set_cons_succ]
      refine take_to (i := 6) (d := some 20) (v := ?_) (l' := #[true, true, true, true, true, true, true, false, false, false, false, false, false]) rfl rfl (by kernel_rfl) (by kernel_rfl) (by kernel_rfl) (by kernel_rfl) (fun _ _ _ h => h) (Or.inl ⟨by rfl, ?_⟩) (by assumption) ?_; rotate_left; · (intro w' hSw; (try dsimp only at hSw); go_simp; (try with_reducible rfl))
      try simp only [Act.put, List.setIfInBounds_toArray, List.set_cons_zero, List.set_cons_succ]
      refine take_to (i := 7) (d := some 21) (v := ?_) (l' := #[true, true, true, true, true, true, true, true, false, false, false, false, false]) rfl rfl (by kernel_rfl) (by kernel_rfl) (by kernel_rfl) (by kernel_rfl) (fun _ _ _ h => h) (Or.inl ⟨by rfl, ?_⟩) (by assumption) ?_; rotate_left; · (intro w' hSw; (try dsimp only at hSw); go_simp; (try with_reducible rfl))
      try simp only [Act.put, List.setIfInBounds_toArray, List.set_cons_zero, List.set_cons_succ]
      refine take_to (i := 8) (d := some 22) (v := ?_) (l' := #[true, true, true, true, true, true, true, true, true, false, false, false, false]) rfl rfl (by kernel_rfl) (by kernel_rfl) (by kernel_rfl) (by kernel_rfl) (fun _ _ _ h => h) (Or.inl ⟨by rfl, ?_⟩) (by assumption) ?_; rotate_left; · (intro w' hSw; (try dsimp only at hSw); go_simp; (try with_reducible rfl))
      try simp only [Act.put, List.setIfInBounds_toArray, List.set_cons_zero, List.set_cons_succ]
      refine take_to (i := 9) (d := some 23) (v := ?_) (l' := #[true, true, true, true, true, true, true, true, true, true, false, false, false]) rfl rfl (by kernel_rfl) (by kernel_rfl) (by kernel_rfl) (by kernel_rfl) (fun _ _ _ h => h) (Or.inl ⟨by rfl, ?_⟩) (by assumption) ?_; rotate_left; · (intro w' hSw; (try dsimp only at hSw); go_simp; (try with_reducible rfl))
      try simp only [Act.put, List.setIfInBounds_toArray, List.set_cons_zero, List.set_cons_succ]
      refine take_to (i := 10) (d := some 24) (v := ?_) (l' := #[true, true, true, true, true, true, true, true, true, true, true, false, false]) rfl rfl (by kernel_rfl) (by kernel_rfl) (by kernel_rfl) (by kernel_rfl) (fun _ _ _ h => h) (Or.inl ⟨by rfl, ?_⟩) (by assumption) ?_; rotate_left; · (intro w' hSw; (try dsimp only at hSw); go_simp; (try with_reducible rfl))
      try simp only [Act.put, List.setIfInBounds_toArray, List.set_cons_zero, List.set_cons_succ]
      refine one_to (i := 11) (l' := #[true, true, true, true, true, true, true, true, true, true, true, true, false]) rfl (by kernel_rfl) (by kernel_rfl) (fun K hK => ?_)
      go_simp
      refine (rStep_any s x y _ hf hg).mono ?_
      rw [HT.out]
      rintro e w3 ⟨rfl, hb3⟩
      replace HCE := Lib.hid (And.intro ((hb3.cell (p := ⟨b, off + k * 2, none⟩) hbs).trans HCE.out.1) ((hb3.cell (p := ⟨b, off + k * 2 + 1, none⟩) hbs).trans HCE.out.2))
      have HB3 := Lib.hid (HBK.out.drew.trans (hb3.mono HBK.out.size))
      have HO3 := Lib.hid (owns_go (HOW.out.drew) hb3)
      clear hb3
      dsimp only
      refine hK.out _ _ (by first | exact HCE.out) (fun hHeld => ?_)
      clear hK K
      try simp only [Act.put, List.setIfInBounds_toArray, List.set_cons_zero, List.set_cons_succ]
      refine take_to (i := 12) (d := some 7) (v := ?_) (l' := #[true, true, true, true, true, true, true, true, true, true, true, true, true]) rfl rfl (by kernel_rfl) (by kernel_rfl) (by kernel_rfl) (by kernel_rfl) (fun _ _ _ h => h) (Or.inl ⟨by rfl, ?_⟩) (by assumption) ?_; rotate_left; · (intro w' hSw; (try dsimp only at hSw); go_simp; (try with_reducible rfl))
      try simp only [Act.put, List.setIfInBounds_toArray, List.set_cons_zero, List.set_cons_succ]
      refine wpAnyH_done (by kernel_rfl) ?_ _
      refine NoPanic.normal ?_
      clear hHeld
      clear HCE HBK HOW
      rcases HST.out with rfl | hsq
      · have HR2 := Lib.hid (show rg s f g (k + 1) = L from by rw [HRG.out]; simp [show sq (-1) = false from rfl])
        go_wp2
        go_roundw
        case rel => exact ⟨k + 1, by omega, by go_num, HB3.out, by rw [HR2.out]; exact HO3.out⟩
        case measure => simp [intOf]; omega
      · have HR2 := Lib.hid (show rg s f g (k + 1) = L ++ [t] from by rw [HRG.out, if_pos hsq])
        have ht0 := (sq_iff t).1 hsq
        clear hsq
        have hm1 : L.length + 1 ≤ maxLen := by unfold maxLen; omega
        go_wp2_with (at_builtin; refine wpList_append_lies _ rfl (.tmp 28) (.tmp 30) 32 rfl w.heap.size 3 i0 (.int .i64 0) 1 8 Try.underlying32 hi hz0 hz1 hz2 rfl (by decide) _ L.length (ivals L) rfl (HO3.out.alloc _) ⟨w3.heap.size, 0, none⟩ 1 1 [.int .i64 t] rfl rfl (World.news_of_block (heap_alloc_new _ _)) ?c2 (by decide) hm1 (by omega) (by simp; have := HB3.out.size; omega) (w3.heap.size + 1) (by simp) ?next)
        case c2 => intro y hy; simp at hy; subst hy; rfl
        case next =>
          intro g1 cap1 w4 hown1 hgrow1 hat1 hlt3
          rw [ivals_snoc] at hown1
          have HB4 := Lib.hid ((HB3.out.alloc HB3.out.size _).grown hgrow1 (by simp; have := HB3.out.size; omega) (fun b e => (HO3.out.lt b e).1))
          have HO4 := Lib.hid hown1
          clear hgrow1 hown1 hat1 HB3 HO3
          go_wp2
          go_roundw
          case rel => exact ⟨k + 1, by omega, by go_num, HB4.out, by rw [HR2.out, show (L ++ [t]).length = L.length + 1 by simp]; exact HO4.out⟩
          case measure => simp [intOf]; omega
    · obtain rfl : k = n := by omega
      have HO := Lib.hid hown
      have HBK := Lib.hid hbk
      clear hown hbk
      go_wp2
      go_ret
      exact ⟨_, rfl, HBK.out, HO.out⟩
end Go.Proofs.Ytaiihdkcpbkmaaa
