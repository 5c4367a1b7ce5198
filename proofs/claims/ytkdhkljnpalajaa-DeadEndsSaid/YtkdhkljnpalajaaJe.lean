/-
  Contracts: positions of two kings and some pieces; the chapter's examples.
-/
import Derived.Test.YtkdhkljnpalajaaJd
namespace Go.Proofs.Ytkdhkljnpalajaa
open Go.RowKit Go.Sort
set_option linter.unusedSimpArgs false
set_option linter.unusedVariables false
set_option maxRecDepth 20000

/-- two kings, and n pieces -/
def kgN (f : Nat → Int) (g : Nat → Nat) : Nat → Nat → Int
  | 0 => setN (setN (setN (setN emptyN 8 6) 9 0) 120 6) 121 1
  | n + 1 => setN (setN (kgN f g n) (g n * 2) (f n)) (g n * 2 + 1) ((n % 2 : Nat) : Int)
/-- what stands while it is laid -/
structure KS (w W : World) (blk : Nat) (P : Nat → Int) : Prop where
  zer : PB W w.heap.size (fun _ => 0)
  pos : PB W blk P
  bel : Below w.heap.size w W
  nth : w.heap.size < blk
theorem KS.go {w W W' : World} {b : Nat} {P : Nat → Int} (h : KS w W b P) (g : Below W.heap.size W W') : KS w W' b P := ⟨h.zer.go g, h.pos.go g, h.bel.trans (g.mono h.bel.size), h.nth⟩
theorem KS.set {w W : World} {b : Nat} {P : Nat → Int} (h : KS w W b P) (i : Nat) (x : Int) (hi : i < 133) : KS w (W.setCell ⟨b, i, none⟩ (.int .i64 x)) b (setN P i x) :=
  ⟨h.zer.other (by have := h.nth; omega) i _, h.pos.set i x hi, h.bel.setCell (p := ⟨b, i, none⟩) (by have := h.nth; show w.heap.size ≤ b; omega) _, h.nth⟩
set_option maxHeartbeats 4000000 in
set_option maxRecDepth 100000 in
theorem kings_any (p q : Option Addr) (n c c2 : Nat) (f : Nat → Int) (g : Nat → Nat) (w : World) (hn : n ≤ 1000) (hg : ∀ i, i < n → g i < 64)
    (hp : Reads w.heap.size w p n (fun i => .int .i64 (f i))) (hq : Reads w.heap.size w q n (fun i => .int .i64 (g i : Int))) :
    Calls Try.prog 16 #[.slice p n c, .slice q n c2] w fun e w' => e = .returned (.agg (pc (kgN f g n)).toArray) ∧ Below w.heap.size w w' := by
  obtain ⟨Y, hY⟩ : ∃ Y, Y = (pc (kgN f g n)).toArray := ⟨_, rfl⟩
  obtain ⟨E, hE⟩ : ∃ E, E = (pc emptyN).toArray := ⟨_, rfl⟩
  have HEM := Lib.hid (fun W => rEmpty_any W)
  rw [← hY]
  rw [← hE] at HEM
  have HY := Lib.hid hY
  have HE := Lib.hid hE
  have HG := Lib.hid hg
  have HP := Lib.hid (fun W (hb : Below w.heap.size w W) => hp.below hb)
  have HQ := Lib.hid (fun W (hb : Below w.heap.size w W) => hq.below hb)
  have hpn : PB (w.alloc (.cells Try.zeroCells29 29)) w.heap.size (fun _ => 0) := by rw [zeroPos]; exact PB.new rfl
  have HN := Lib.hid hpn
  have HB0 := Lib.hid (below_new (w := w) (.cells Try.zeroCells29 29))
  clear hY hE hpn hg hp hq
  go_enter Try.func16, Try.ntmps16
  go_upto_region 1 with (fail)
  refine forget_B (fun W => PB W w.heap.size (fun _ => 0) ∧ Below w.heap.size w W) ⟨HN.out, HB0.out⟩ ?_
  clear HN HB0
  rintro W ⟨hp, hb⟩
  have HN := Lib.hid hp
  have HB0 := Lib.hid hb
  clear hp hb
  go_wp2_with fail
  refine (HEM.out _).mono ?_
  rintro e w1 ⟨rfl, hb1⟩
  have HN1 := Lib.hid (HN.out.go hb1)
  have HB1 := Lib.hid (HB0.out.trans (hb1.mono HB0.out.size))
  clear hb1 HN HB0
  go_wp2_with (refine wpList_new E emptyN HE.out (by rfl) (by rfl) ?_)
  intro W2 hp2 hb2 hz2
  have HS0 := Lib.hid (show KS w W2 w1.heap.size emptyN from ⟨HN1.out.go hb2, hp2, HB1.out.trans (hb2.mono HB1.out.size), HN1.out.lt⟩)
  clear hp2 hb2 hz2 HN1 HB1
  have e8 := HS0.out.pos.cell 8 (by omega)
  have e9 := HS0.out.pos.cell 9 (by omega)
  have e120 := HS0.out.pos.cell 120 (by omega)
  have e121 := HS0.out.pos.cell 121 (by omega)
  have f8 := HS0.out.pos.fr 8
  have f9 := HS0.out.pos.fr 9
  have f120 := HS0.out.pos.fr 120
  have f121 := HS0.out.pos.fr 121
  have HS := Lib.hid ((((HS0.out.set 8 6 (by omega)).set 9 0 (by omega)).set 120 6 (by omega)).set 121 1 (by omega))
  clear HS0
  go_upto_region 4 with (fail)
  refine forget_B (fun W => KS w W w1.heap.size (kgN f g 0)) HS.out ?_
  clear HS e8 e9 e120 e121 f8 f9 f120 f121
  intro W3 hs
  have HS := Lib.hid hs
  clear hs
  go_wp2
  go_loopw [6] (fun i wr => ∃ j : Nat, j ≤ n ∧ i = .int .i64 (j : Int) ∧ KS w wr w1.heap.size (kgN f g j)) (fun i _ => n - (intOf i).toNat)
  case atStart => exact ⟨0, Nat.zero_le _, rfl, HS.out⟩
  case round =>
    clear HS
    obtain ⟨j, hj, rfl, h1⟩ := hrel
    have HS := Lib.hid h1
    clear h1
    by_cases hlt : j < n
    · have HY1 := Lib.hid (show kgN f g (j + 1) = setN (setN (kgN f g j) (g j * 2) (f j)) (g j * 2 + 1) ((j % 2 : Nat) : Int) from rfl)
      rcases HP.out _ HS.out.bel with h0 | ⟨b, off, rfl, hb', hcell⟩
      · omega
      rcases HQ.out _ HS.out.bel with h0 | ⟨b2, off2, rfl, hb2', hcell2⟩
      · omega
      have hce : wr.cell? ⟨b, off + j, none⟩ = some (.int .i64 (f j)) := hcell j hlt
      have hce2 : wr.cell? ⟨b2, off2 + j, none⟩ = some (.int .i64 (g j : Int)) := hcell2 j hlt
      have hs64 := HG.out j hlt
      have hr : (j : Int).tmod 2 = ((j % 2 : Nat) : Int) := by rw [Int.tmod_eq_emod_of_nonneg (by omega)]; omega
      obtain ⟨P0, hP0⟩ : ∃ P0, kgN f g j = P0 := ⟨_, rfl⟩
      obtain ⟨k, hk⟩ : ∃ k, f j = k := ⟨_, rfl⟩
      obtain ⟨s, hs⟩ : ∃ s, g j = s := ⟨_, rfl⟩
      generalize j % 2 = d at hr HY1
      rw [hP0] at HS HY1
      rw [hk] at hce HY1
      rw [hs] at hce2 hs64 HY1
      clear hP0 hk hs hcell hcell2 hb' hb2'
      have hs0 : (0 : Int) ≤ (s : Int) := by omega
      have hs1 : (s : Int) < 64 := by omega
      go_upto_region 7 with (fail)
      have c1 := cell_regrown hce
      have c2 := cell_regrown hce2
      clear hce hce2
      refine wp_region_quiet_store 13 (by kernel_rfl) rfl rfl (by kernel_rfl) (by kernel_rfl) (C := fun W' => ∃ p : Regrown, W' = grow (redrawn wr p.d) p.os) (regrown_self _) ?_
      simp only [List.take_succ_cons, List.take_zero]
      repeat (quiet_step (fail))
      refine wpQuiet_nil ?_
      rintro W4 ⟨q, rfl⟩
      refine ⟨by rfl, ?_⟩
      replace HS := Lib.hid (HS.out.go (below_regrown wr q.d q.os))
      clear c1 c2
      generalize grow (redrawn wr q.d) q.os = W4 at *
      have e1 := HS.out.pos.cell (s * 2) (by omega)
      have e2 := HS.out.pos.cell (s * 2 + 1) (by omega)
      have f1 := HS.out.pos.fr (s * 2)
      have f2 := HS.out.pos.fr (s * 2 + 1)
      replace HS := Lib.hid (show KS w ((W4.setCell ⟨w1.heap.size, s * 2, none⟩ (.int .i64 k)).setCell ⟨w1.heap.size, s * 2 + 1, none⟩ (.int .i64 (d : Int))) w1.heap.size (kgN f g (j + 1)) by
        rw [HY1.out]; exact (HS.out.set (s * 2) k (by omega)).set (s * 2 + 1) (d : Int) (by omega))
      clear HY1
      go_simp
      go_wp2
      go_roundw
      case rel => exact ⟨j + 1, by omega, by go_num, HS.out⟩
      case measure => simp [intOf]; omega
    · obtain rfl : j = n := by omega
      obtain ⟨R, hR⟩ : ∃ R, kgN f g j = R := ⟨_, rfl⟩
      rw [hR] at HS HY
      have HRR := Lib.hid hR
      clear hR
      go_upto_region 8 with (fail)
      refine wp_region_lit ?_
      refine wpList_pos (by rfl) _ (by rfl) w1.heap.size R Y HY.out (by rfl) HS.out.pos ?_
      refine wpList_store_mid rfl 29 _ _ rfl w.heap.size 0 (pc R).toArray rfl (congrArg Value.agg HY.out) (by rw [pc_size]; exact HS.out.zer.there) (by rw [infoPos, pc_size]) (pc_one _) ?_
      rw [List.toList_toArray]
      have HR := Lib.hid (HS.out.zer.store (Q := R)).range
      have HBB := Lib.hid (below_store (b := w.heap.size) R HS.out.bel (Nat.le_refl _) HS.out.bel.size)
      clear HS
      generalize wr.setCells w.heap.size 0 (pc R) = W9 at HR HBB ⊢
      show Exit.then _ _ Exit.normal _ _
      refine ret_go (by assumption) ?_
      refine bodyPost_ret (v := .agg (pc R).toArray) ?_ rfl ⟨by rw [HY.out], HBB.out⟩
      exact results_cell_mid (p := 4) (ty := 29) rfl _ W9 w.heap.size _ _ rfl HR.out Try.underlying29 rfl (by rw [infoPos, pc_len])
end Go.Proofs.Ytkdhkljnpalajaa
