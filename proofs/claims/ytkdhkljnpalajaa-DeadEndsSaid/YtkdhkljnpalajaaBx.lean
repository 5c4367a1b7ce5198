/-
  Contracts: the document's begin.
-/
import Derived.Test.YtkdhkljnpalajaaG5
namespace Go.Proofs.Ytkdhkljnpalajaa
open Go.RowKit Go.Sort
set_option linter.unusedSimpArgs false
set_option linter.unusedVariables false

/-- the document's row of officers beside -/
structure PS2 (w W : World) (blk sb : Nat) (P : Nat → Int) : Prop where
  s : PS w W blk P
  r : ∀ i, i < 8 → W.cell? ⟨sb, i, none⟩ = some (.int .i64 (offN i))
  n : blk < sb
theorem PS2.set {w W : World} {b sb : Nat} {P : Nat → Int} (h : PS2 w W b sb P) (i : Nat) (x : Int) (hi : i < 133) : PS2 w (W.setCell ⟨b, i, none⟩ (.int .i64 x)) b sb (setN P i x) :=
  ⟨h.s.set i x hi, fun j hj => by rw [World.cell?_setCell_other _ _ _ _ (by intro e; injection e with e1; have := h.n; omega)]; exact h.r j hj, h.n⟩
set_option maxHeartbeats 4000000 in
set_option maxRecDepth 100000 in
theorem rStart_any (w : World) :
    Calls Try.prog 17 #[] w fun e w' => e = .returned (.agg (pc startN).toArray) ∧ Below w.heap.size w w' := by
  obtain ⟨Y, hY⟩ : ∃ Y, Y = (pc startN).toArray := ⟨_, rfl⟩
  obtain ⟨E, hE⟩ : ∃ E, E = (pc emptyN).toArray := ⟨_, rfl⟩
  have HEM := Lib.hid (fun W => rEmpty_any W)
  rw [← hY]
  rw [← hE] at HEM
  have HY := Lib.hid hY
  have HE := Lib.hid hE
  have hpn : PB (w.alloc (.cells Try.zeroCells29 29)) w.heap.size (fun _ => 0) := by rw [zeroPos]; exact PB.new rfl
  have HN := Lib.hid hpn
  have HB0 := Lib.hid (below_new (w := w) (.cells Try.zeroCells29 29))
  clear hY hE hpn
  go_enter Try.func17, Try.ntmps17
  go_upto_region 1 with (fail)
  refine forget_B (fun W => PB W w.heap.size (fun _ => 0) ∧ Below w.heap.size w W) ⟨HN.out, HB0.out⟩ ?_
  clear HN HB0
  rintro W ⟨hp, hb⟩
  have HN := Lib.hid hp
  have HB0 := Lib.hid hb
  clear hp hb
  go_wp2_with fail
  refine (HEM.out _).mono ?_
  rintro e w1 ⟨rfl, hb1⟩
  have HN1 := Lib.hid (HN.out.go hb1)
  have HB1 := Lib.hid (HB0.out.trans (hb1.mono HB0.out.size))
  clear hb1 HN HB0
  go_wp2_with (refine wpList_new E emptyN HE.out (by rfl) (by rfl) ?_)
  intro W2 hp2 hb2 hz2
  have HS0 := Lib.hid (show PS w W2 w1.heap.size emptyN from ⟨HN1.out.go hb2, hp2, HB1.out.trans (hb2.mono HB1.out.size), HN1.out.lt⟩)
  have HZ2 := Lib.hid (show w1.heap.size < W2.heap.size by omega)
  clear hp2 hb2 hz2 HN1 HB1
  go_upto_region 3 with (fail)
  obtain ⟨sb, hsb⟩ : ∃ s, W2.heap.size = s := ⟨_, rfl⟩
  have hcell : ∀ i, i < 8 → (#[.int .i64 4, .int .i64 2, .int .i64 3, .int .i64 5, .int .i64 6, .int .i64 3, .int .i64 2, .int .i64 4] : Array Value)[i]? = some (.int .i64 (offN i)) := fun i hi => by
    rcases (show i = 0 ∨ i = 1 ∨ i = 2 ∨ i = 3 ∨ i = 4 ∨ i = 5 ∨ i = 6 ∨ i = 7 by omega) with rfl | rfl | rfl | rfl | rfl | rfl | rfl | rfl <;> rfl
  refine forget_B (fun W => PS2 w W w1.heap.size sb emptyN) ⟨HS0.out.go (below_new _), fun i hi => by rw [cell_of_row _ _ i _ _ (0, 0) (sl_at hsb.symm)]; exact hcell i hi, by rw [← hsb]; exact HZ2.out⟩ ?_
  clear HS0 HZ2 hcell
  rw [hsb]
  intro W3 hs
  have HS0 := Lib.hid hs
  clear hs hsb
  go_wp2
  go_loopw [3] (fun i wr => ∃ j : Nat, j ≤ 8 ∧ i = .int .i64 (j : Int) ∧ PS2 w wr w1.heap.size sb (mixS j)) (fun i _ => 8 - (intOf i).toNat)
  case atStart => exact ⟨0, Nat.zero_le _, rfl, ⟨HS0.out.s.congr mixS_zero, HS0.out.r, HS0.out.n⟩⟩
  case round =>
    clear HS0
    obtain ⟨j, hj, rfl, h1⟩ := hrel
    have HS := Lib.hid h1
    clear h1
    by_cases hlt : j < 8
    · have HST := Lib.hid (mixS_step j hlt)
      obtain ⟨k, hk⟩ : ∃ k, offN j = k := ⟨_, rfl⟩
      rw [hk] at HST
      generalize hP0 : mixS j = P0 at HS HST
      clear hP0
      have hm64 : j < 64 := by omega
      have hm0 : (0 : Int) ≤ j := by omega
      have hm1 : (j : Int) < 64 := by omega
      have e1 := HS.out.s.p.cell (j * 2) (by omega)
      have e2 := HS.out.s.p.cell (j * 2 + 1) (by omega)
      have e3 := HS.out.s.p.fr (j * 2)
      have e4 := HS.out.s.p.fr (j * 2 + 1)
      have es := HS.out.r j hlt
      rw [hk] at es
      generalize P0 (j * 2) = q1 at e1
      generalize P0 (j * 2 + 1) = q2 at e2
      go_upto_region 7 with (fail)
      obtain ⟨P1, hP1⟩ : ∃ Q, setN (setN P0 ((j) * 2) k) ((j) * 2 + 1) 0 = Q := ⟨_, rfl⟩
      have HP1 := Lib.hid hP1
      have hP1' : setN (setN P0 (j * 2) k) (j * 2 + 1) 0 = P1 := by rw [← hP1]
      clear hP1
      refine forget_B (fun W => PS2 w W w1.heap.size sb P1) (by
        have hs2 := (HS.out.set (j * 2) k (by omega)).set (j * 2 + 1) 0 (by omega)
        rw [hP1'] at hs2
        exact hs2) ?_
      clear HS e1 e2 e3 e4 es
      clear hP1'
      intro V0 hs
      have HS := Lib.hid hs
      clear hs hm64 hm0 hm1 
      obtain ⟨m, hm⟩ : ∃ m, 8 + j = m := ⟨_, rfl⟩
      have hz : 8 + (j : Int) = (m : Int) := by omega
      have hm64 : m < 64 := by omega
      have hm0 : (0 : Int) ≤ m := by omega
      have hm1 : (m : Int) < 64 := by omega
      have e1 := HS.out.s.p.cell (m * 2) (by omega)
      have e2 := HS.out.s.p.cell (m * 2 + 1) (by omega)
      have e3 := HS.out.s.p.fr (m * 2)
      have e4 := HS.out.s.p.fr (m * 2 + 1)
      generalize P1 (m * 2) = q1 at e1
      generalize P1 (m * 2 + 1) = q2 at e2
      go_upto_region 8 with (fail)
      obtain ⟨P2, hP2⟩ : ∃ Q, setN (setN P1 ((8 + j) * 2) 1) ((8 + j) * 2 + 1) 0 = Q := ⟨_, rfl⟩
      have HP2 := Lib.hid hP2
      have hP2' : setN (setN P1 (m * 2) 1) (m * 2 + 1) 0 = P2 := by rw [← hP2, hm]
      clear hP2
      refine forget_B (fun W => PS2 w W w1.heap.size sb P2) (by
        have hs2 := (HS.out.set (m * 2) 1 (by omega)).set (m * 2 + 1) 0 (by omega)
        rw [hP2'] at hs2
        exact hs2) ?_
      clear HS e1 e2 e3 e4 
      clear hP2'
      intro V1 hs
      have HS := Lib.hid hs
      clear hs hm64 hm0 hm1 hz hm
      obtain ⟨m, hm⟩ : ∃ m, 48 + j = m := ⟨_, rfl⟩
      have hz : 48 + (j : Int) = (m : Int) := by omega
      have hm64 : m < 64 := by omega
      have hm0 : (0 : Int) ≤ m := by omega
      have hm1 : (m : Int) < 64 := by omega
      have e1 := HS.out.s.p.cell (m * 2) (by omega)
      have e2 := HS.out.s.p.cell (m * 2 + 1) (by omega)
      have e3 := HS.out.s.p.fr (m * 2)
      have e4 := HS.out.s.p.fr (m * 2 + 1)
      generalize P2 (m * 2) = q1 at e1
      generalize P2 (m * 2 + 1) = q2 at e2
      go_upto_region 9 with (fail)
      obtain ⟨P3, hP3⟩ : ∃ Q, setN (setN P2 ((48 + j) * 2) 1) ((48 + j) * 2 + 1) 1 = Q := ⟨_, rfl⟩
      have HP3 := Lib.hid hP3
      have hP3' : setN (setN P2 (m * 2) 1) (m * 2 + 1) 1 = P3 := by rw [← hP3, hm]
      clear hP3
      refine forget_B (fun W => PS2 w W w1.heap.size sb P3) (by
        have hs2 := (HS.out.set (m * 2) 1 (by omega)).set (m * 2 + 1) 1 (by omega)
        rw [hP3'] at hs2
        exact hs2) ?_
      clear HS e1 e2 e3 e4 
      clear hP3'
      intro V2 hs
      have HS := Lib.hid hs
      clear hs hm64 hm0 hm1 hz hm
      obtain ⟨m, hm⟩ : ∃ m, 56 + j = m := ⟨_, rfl⟩
      have hz : 56 + (j : Int) = (m : Int) := by omega
      have hm64 : m < 64 := by omega
      have hm0 : (0 : Int) ≤ m := by omega
      have hm1 : (m : Int) < 64 := by omega
      have e1 := HS.out.s.p.cell (m * 2) (by omega)
      have e2 := HS.out.s.p.cell (m * 2 + 1) (by omega)
      have e3 := HS.out.s.p.fr (m * 2)
      have e4 := HS.out.s.p.fr (m * 2 + 1)
      have es := HS.out.r j hlt
      rw [hk] at es
      generalize P3 (m * 2) = q1 at e1
      generalize P3 (m * 2 + 1) = q2 at e2
      go_upto_region 5 with (fail)
      obtain ⟨P4, hP4⟩ : ∃ Q, setN (setN P3 ((56 + j) * 2) k) ((56 + j) * 2 + 1) 1 = Q := ⟨_, rfl⟩
      have HP4 := Lib.hid hP4
      have hP4' : setN (setN P3 (m * 2) k) (m * 2 + 1) 1 = P4 := by rw [← hP4, hm]
      clear hP4
      refine forget_B (fun W => PS2 w W w1.heap.size sb P4) (by
        have hs2 := (HS.out.set (m * 2) k (by omega)).set (m * 2 + 1) 1 (by omega)
        rw [hP4'] at hs2
        exact hs2) ?_
      clear HS e1 e2 e3 e4 es
      clear hP4'
      intro V3 hs
      have HS := Lib.hid hs
      clear hs hm64 hm0 hm1 hz hm
      have HEND := Lib.hid (show PS2 w V3 w1.heap.size sb (mixS (j + 1)) from ⟨HS.out.s.congr (fun i hi => by rw [← HP4.out, ← HP3.out, ← HP2.out, ← HP1.out]; exact HST.out i hi), HS.out.r, HS.out.n⟩)
      clear HS HST HP1 HP2 HP3 HP4
      go_wp2
      go_roundw
      case rel => exact ⟨j + 1, by omega, by go_num, HEND.out⟩
      case measure => simp [intOf]; omega
    · obtain rfl : j = 8 := by omega
      have e1 := HS.out.s.p.cell 129 (by omega)
      have e3 := HS.out.s.p.fr 129
      have HF := Lib.hid ((HS.out.s.set 129 15 (by omega)).congr (Q := startN) mixS_end)
      clear HS
      generalize mixS 8 129 = q1 at e1
      go_upto_region 11 with (fail)
      generalize wr.setCell ⟨w1.heap.size, 129, none⟩ (.int .i64 15) = W8 at HF ⊢
      refine wp_region_lit ?_
      refine wpList_pos (by rfl) _ (by rfl) w1.heap.size startN Y HY.out (by rfl) HF.out.p ?_
      refine wpList_store_mid rfl 29 _ _ rfl w.heap.size 0 (pc startN).toArray rfl (congrArg Value.agg HY.out) (by rw [pc_size]; exact HF.out.z.there) (by rw [infoPos, pc_size]) (pc_one _) ?_
      rw [List.toList_toArray]
      have HR := Lib.hid (HF.out.z.store (Q := startN)).range
      have HBB := Lib.hid (below_store (b := w.heap.size) startN HF.out.b (Nat.le_refl _) HF.out.b.size)
      clear HF
      generalize W8.setCells w.heap.size 0 (pc startN) = W9 at HR HBB ⊢
      show Exit.then _ _ Exit.normal _ _
      refine ret_go (by assumption) ?_
      refine bodyPost_ret (v := .agg (pc startN).toArray) ?_ rfl ⟨by rw [HY.out], HBB.out⟩
      exact results_cell_mid (p := 0) (ty := 29) rfl _ W9 w.heap.size _ _ rfl HR.out Try.underlying29 rfl (by rw [infoPos, pc_len])
end Go.Proofs.Ytkdhkljnpalajaa
