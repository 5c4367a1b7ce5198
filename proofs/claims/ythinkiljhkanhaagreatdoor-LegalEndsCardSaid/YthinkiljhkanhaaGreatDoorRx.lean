/-
  Contracts: Is, Play.
-/
import Derived.Test.YthinkiljhkanhaaGreatDoorRw
import Derived.Test.YthinkiljhkanhaaGreatDoorG26
namespace Go.Proofs.YthinkiljhkanhaaGreatDoor
open Go.RowKit Go.Sort
set_option linter.unusedSimpArgs false
set_option linter.unusedVariables false
set_option maxRecDepth 20000

theorem adv_one (P : Nat → Int) (f t k : Int) : (advN P (fun _ => f) (fun _ => t) (fun _ => k) 1).isSome = legB P f t k := by
  unfold advN
  simp only [advN]
  cases legB P f t k <;> rfl
set_option maxHeartbeats 4000000 in
set_option maxRecDepth 100000 in
theorem lIs_any (P : Nat → Int) (f t k : Int) (w : World) (B : Nat) (hgb : GB B w) (hgs : GS B w) (hgm : GM B w) (hgp : GP B w) (hB : B ≤ w.heap.size) :
    Calls Tryz.prog 20 #[.agg (pc P).toArray, .agg #[.int .i64 f, .int .i64 t, .int .i64 k]] w fun e w' => e = .returned (.bool (posB P && legB P f t k)) ∧ Below w.heap.size w w' := by
  obtain ⟨X, hX⟩ : ∃ X, X = (pc P).toArray := ⟨_, rfl⟩
  rw [← hX]
  have HC := Lib.hid (MC.begin w P f t k X hX)
  have HX := Lib.hid hX
  have HSZ := Lib.hid (show X.size = 133 by rw [hX, pc_size])
  have HFO := Lib.hid (fold_jud X HSZ.out)
  have HQ := Lib.hid (fun W b (h1 : PB W b P) h2 => JQ.later h1 hgb hgs hgm hgp hB h2)
  have HBB := Lib.hid hB
  obtain ⟨ps, hps⟩ : ∃ x, posB P = x := ⟨_, rfl⟩
  have HPOS := Lib.hid (fun b W h => jPos_any B b P W h)
  rw [hps] at HPOS ⊢
  clear hX hgb hgs hgm hgp hps hB
  go_enter Tryz.func20, Tryz.ntmps20
  go_upto_region 1 with (fail)
  generalize (w.alloc (.cells X 29)).alloc (.cells #[.int .i64 f, .int .i64 t, .int .i64 k] 41) = W0 at *
  refine wp_region_lit ?_
  refine wpList_pos (by rfl) _ (by rfl) w.heap.size P X HX.out (by rfl) HC.out.p ?_
  have hfold := HFO.out
  have hsz := HSZ.out
  refine wpList_plain rfl (fun K hK => ?_)
  go_simp
  refine hK _ _ ?_
  clear hK K hfold hsz
  refine wpList_newJ X P HX.out (by rfl) (by rfl) (fun W2 hp hb hsz => ?_)
  have HBH := Lib.hid (show B ≤ W0.heap.size from Nat.le_trans HBB.out HC.out.b.size)
  have HHL := Lib.hid (show w.heap.size ≤ W0.heap.size from HC.out.b.size)
  replace HC := Lib.hid (HC.out.go hb)
  have HI := Lib.hid (HQ.out _ _ hp HC.out.b)
  clear hp hb hsz HQ
  generalize W0.heap.size = H at *
  show Exit.then _ _ Exit.normal _ _
  go_wp2_with fail
  refine (HPOS.out H W2 HI.out).mono ?_
  rintro e w3 ⟨rfl, hb⟩
  replace HC := Lib.hid (HC.out.go hb)
  replace HI := Lib.hid (HI.out.go hb).anew
  clear hb HPOS
  dsimp only
  refine list_go (by assumption) ?_
  cases ps
  · go_wp2
    go_ret
    exact ⟨q_b rfl, HC.out.b⟩
  · obtain ⟨m0, m1, m2, mf, mz⟩ := row3 HC.out.m
    go_wp2_with fail
    have hb : Below w3.heap.size w3 (w3.alloc (.cells #[.int .i64 f, .int .i64 t, .int .i64 k] 41)) := below_new _
    have hat : (w3.alloc (.cells #[.int .i64 f, .int .i64 t, .int .i64 k] 41)).heap[w3.heap.size]? = some (.cells #[.int .i64 f, .int .i64 t, .int .i64 k] 41 (0, 0)) := sl_at rfl
    have hav := AV.begin ((HI.out.go hb).anew) HBH.out
    have hlt := HI.out.p.lt
    obtain ⟨q0, q1, q2, _, _⟩ := row3 hat
    have hrr : R3b H (w3.alloc (.cells #[.int .i64 f, .int .i64 t, .int .i64 k] 41)) (some ⟨w3.heap.size, 0, none⟩) 1 (fun _ => f) (fun _ => t) (fun _ => k) := by
      refine .inr ⟨w3.heap.size, 0, rfl, by simp, by omega, fun i hi => ?_⟩
      obtain rfl : i = 0 := by omega
      exact ⟨q0, q1, q2⟩
    have hcall := advance_any B H P (fun _ => f) (fun _ => t) (fun _ => k) (some ⟨w3.heap.size, 0, none⟩) 1 1 (by omega) _ hav hrr
    rw [adv_one] at hcall
    have HBW := Lib.hid (HC.out.b.trans (hb.mono HC.out.b.size))
    refine hcall.mono ?_
    rintro e w5 ⟨rfl, Q, hv, _⟩
    have HB5 := Lib.hid (HBW.out.grown hv.h.g HBW.out.size (fun b e => by cases e; exact HHL.out))
    clear hcall hv hrr hav hat hb q0 q1 q2 HI HC m0 m1 m2 mf mz hlt
    dsimp only
    refine list_go (by assumption) ?_
    go_wp2
    go_ret
    exact ⟨q_b rfl, HB5.out⟩
/-- what is behind a row of moves, and the error -/
def plP (P : Nat → Int) (F T K : Nat → Int) (n : Nat) : Nat → Int := if posB P then (advN P F T K n).getD (fun _ => 0) else fun _ => 0
def plE (P : Nat → Int) (F T K : Nat → Int) (n : Nat) : Int := if posB P then (if (advN P F T K n).isSome then 0 else 8) else 2
theorem HO.on {w W W' : World} {P : Nat → Int} (h : HO w W P) (g : Below W.heap.size W W') : HO w W' P := ⟨h.p.go g, h.z.go g, h.b.trans (g.mono h.b.size)⟩
theorem HO.turn {w W W' : World} {P : Nat → Int} {H : Nat} (h : HO w W P) (g : W.grownBy W' (some H)) (hH : w.heap.size + 2 ≤ H) : HO w W' P :=
  ⟨h.p.gr g (by intro e; cases e; omega), h.z.gr g (by intro e; cases e; omega), h.b.grown g h.b.size (fun b e => by cases e; omega)⟩
theorem HO.stored {w W : World} {P Q : Nat → Int} (h : HO w W P) : (W.setCells (w.heap.size + 1) 0 (pc Q)).rangeAt (w.heap.size + 1) 0 (pc Q) ∧ Below w.heap.size w (W.setCells (w.heap.size + 1) 0 (pc Q)) :=
  ⟨(h.z.store (Q := Q)).range, below_store (b := w.heap.size + 1) Q h.b (by omega) h.b.size⟩
theorem HO.begin10 (w : World) (P : Nat → Int) (X : Array Value) (hX : X = (pc P).toArray) : HO w ((w.alloc (.cells X 29)).alloc (.cells Tryz.zeroCells29 29)) P := by
  refine ⟨(pos_box P w X hX _).alloc _, ?_, (below_new _).alloc (by simp) _⟩
  rw [zeroPos]
  exact PB.new (by simp)
set_option maxHeartbeats 8000000 in
set_option maxRecDepth 100000 in
theorem lPlay_any (P : Nat → Int) (F T K : Nat → Int) (p : Option Addr) (n c : Nat) (hn : n ≤ 100000) (w : World) (B : Nat) (hgb : GB B w) (hgs : GS B w) (hgm : GM B w) (hgp : GP B w) (hB : B ≤ w.heap.size) (hr : Reads3 w.heap.size w p n F T K) :
    Calls Tryz.prog 13 #[.agg (pc P).toArray, .slice p n c] w fun e w' => e = .returned (.tuple #[.agg (pc (plP P F T K n)).toArray, .int .i64 (plE P F T K n)]) ∧ Below w.heap.size w w' := by
  obtain ⟨X, hX⟩ : ∃ X, X = (pc P).toArray := ⟨_, rfl⟩
  rw [← hX]
  have HC := Lib.hid (HO.begin10 w P X hX)
  have HX := Lib.hid hX
  have HSZ := Lib.hid (show X.size = 133 by rw [hX, pc_size])
  have HFO := Lib.hid (fold_jud X HSZ.out)
  have HQ := Lib.hid (fun W b (h1 : PB W b P) h2 => JQ.later h1 hgb hgs hgm hgp hB h2)
  have HBB := Lib.hid hB
  have HR := Lib.hid hr
  have HNN := Lib.hid hn
  obtain ⟨ps, hps⟩ : ∃ x, posB P = x := ⟨_, rfl⟩
  have HPOS := Lib.hid (fun b W h => jPos_any B b P W h)
  have HPL := Lib.hid (show plP P F T K n = if ps then (advN P F T K n).getD (fun _ => 0) else fun _ => 0 by unfold plP; rw [hps])
  have HPE := Lib.hid (show plE P F T K n = if ps then (if (advN P F T K n).isSome then 0 else 8) else 2 by unfold plE; rw [hps])
  rw [hps] at HPOS
  obtain ⟨Z, hZ⟩ : ∃ Z, plP P F T K n = Z := ⟨_, rfl⟩
  obtain ⟨er, her⟩ : ∃ z, plE P F T K n = z := ⟨_, rfl⟩
  rw [hZ] at HPL ⊢
  rw [her] at HPE ⊢
  clear hX hgb hgs hgm hgp hps hB hr hZ her hn
  go_enter Tryz.func13, Tryz.ntmps13
  go_upto_region 1 with (fail)
  have hz2 : ((w.alloc (.cells X 29)).alloc (.cells Tryz.zeroCells29 29)).heap.size = w.heap.size + 2 := by simp
  have HZ2 := Lib.hid hz2
  clear hz2
  generalize (w.alloc (.cells X 29)).alloc (.cells Tryz.zeroCells29 29) = W0 at *
  refine wp_region_lit ?_
  refine wpList_pos (by rfl) _ (by rfl) w.heap.size P X HX.out (by rfl) HC.out.p ?_
  have hfold := HFO.out
  have hsz := HSZ.out
  refine wpList_plain rfl (fun K hK => ?_)
  go_simp
  refine hK _ _ ?_
  clear hK K hfold hsz
  refine wpList_newJ X P HX.out (by rfl) (by rfl) (fun W2 hp hb hsz => ?_)
  have HBH := Lib.hid (show B ≤ W0.heap.size from Nat.le_trans HBB.out HC.out.b.size)
  have HHL := Lib.hid (show w.heap.size + 2 ≤ W0.heap.size from Nat.le_of_eq HZ2.out.symm)
  replace HC := Lib.hid (HC.out.on hb)
  have HI := Lib.hid (HQ.out _ _ hp HC.out.b)
  clear hp hb hsz HQ HZ2
  generalize W0.heap.size = H at *
  show Exit.then _ _ Exit.normal _ _
  go_wp2_with fail
  refine (HPOS.out H W2 HI.out).mono ?_
  rintro e w3 ⟨rfl, hb⟩
  replace HC := Lib.hid (HC.out.on hb)
  replace HI := Lib.hid (HI.out.go hb).anew
  clear hb HPOS
  dsimp only
  refine list_go (by assumption) ?_
  cases ps
  · have HZ := Lib.hid (show Z = fun _ => 0 from HPL.out)
    have HE := Lib.hid (show er = 2 from HPE.out)
    clear HPL HPE HI HR
    go_upto_region 3 with (fail)
    refine wp_region_lit ?_
    refine wpList_plain rfl (fun K hK => ?_)
    go_simp
    refine hK _ _ ?_
    clear hK K
    refine wpList_store_mid rfl 29 _ _ rfl (w.heap.size + 1) 0 (pc fun _ => 0).toArray rfl (congrArg Value.agg zeroPos) (by rw [pc_size]; exact HC.out.z.there) (by rw [infoPos, pc_size]) (pc_one _) ?_
    rw [List.toList_toArray]
    obtain ⟨hr1, hb1⟩ := HC.out.stored (Q := fun _ => 0)
    have HRR := Lib.hid hr1
    have HB := Lib.hid hb1
    clear hr1 hb1 HC
    generalize w3.setCells (w.heap.size + 1) 0 (pc fun _ => 0) = W8 at HRR HB ⊢
    refine wpList_plain rfl (fun K hK => ?_)
    go_simp
    refine hK _ _ ?_
    clear hK K
    show Exit.then _ _ Exit.normal _ _
    refine ret_go (by assumption) ?_
    repeat (first | refine then_ret ?_ | refine block_ret ?_)
    refine bodyPost_ret (v := .tuple #[.agg (pc fun _ => 0).toArray, .int .i64 2]) ?_ rfl ⟨by rw [HZ.out, HE.out], HB.out⟩
    exact results_mid2 (p := 4) (u := 5) (ty := 29) rfl _ W8 (w.heap.size + 1) _ _ _ rfl rfl HRR.out Tryz.underlying29 rfl (by rw [infoPos, pc_len])
  · have hav := AV.begin HI.out HBH.out
    have hrr := R3b.of (HR.out.below HC.out.b) (show w.heap.size ≤ H by have := HHL.out; omega) HI.out.p.lt
    have hcall := Lib.hid (advance_any B H P F T K p n c HNN.out w3 hav hrr)
    clear hav hrr HR HI
    go_wp2_with fail
    refine hcall.out.mono ?_
    rintro e w5 ⟨rfl, Q, hv, hq⟩
    replace HC := Lib.hid (HC.out.turn hv.h.g HHL.out)
    have HPQ := Lib.hid hv.h.q
    have HEQ := Lib.hid hq
    clear hcall hv hq
    dsimp only
    refine list_go (by assumption) ?_
    cases ha : advN P F T K n
    · rw [ha] at HPL HPE
      have HZ := Lib.hid (show Z = fun _ => 0 from HPL.out)
      have HE := Lib.hid (show er = 8 from HPE.out)
      clear HPL HPE ha HEQ HPQ
      simp only [Option.isSome_none]
      go_upto_region 5 with (fail)
      refine wp_region_lit ?_
      refine wpList_plain rfl (fun K hK => ?_)
      go_simp
      refine hK _ _ ?_
      clear hK K
      refine wpList_store_mid rfl 29 _ _ rfl (w.heap.size + 1) 0 (pc fun _ => 0).toArray rfl (congrArg Value.agg zeroPos) (by rw [pc_size]; exact HC.out.z.there) (by rw [infoPos, pc_size]) (pc_one _) ?_
      rw [List.toList_toArray]
      obtain ⟨hr1, hb1⟩ := HC.out.stored (Q := fun _ => 0)
      have HRR := Lib.hid hr1
      have HB := Lib.hid hb1
      clear hr1 hb1 HC
      generalize w5.setCells (w.heap.size + 1) 0 (pc fun _ => 0) = W8 at HRR HB ⊢
      refine wpList_plain rfl (fun K hK => ?_)
      go_simp
      refine hK _ _ ?_
      clear hK K
      show Exit.then _ _ Exit.normal _ _
      refine ret_go (by assumption) ?_
      repeat (first | refine then_ret ?_ | refine block_ret ?_)
      refine bodyPost_ret (v := .tuple #[.agg (pc fun _ => 0).toArray, .int .i64 8]) ?_ rfl ⟨by rw [HZ.out, HE.out], HB.out⟩
      exact results_mid2 (p := 4) (u := 5) (ty := 29) rfl _ W8 (w.heap.size + 1) _ _ _ rfl rfl HRR.out Tryz.underlying29 rfl (by rw [infoPos, pc_len])
    · rename_i R
      rw [ha] at HPL HPE
      have HZ := Lib.hid (show Z = R from HPL.out)
      have HE := Lib.hid (show er = 0 from HPE.out)
      obtain rfl : Q = R := HEQ.out R ha
      obtain ⟨Y, hY⟩ : ∃ Y, Y = (pc Q).toArray := ⟨_, rfl⟩
      have HY := Lib.hid hY
      have HYL := Lib.hid (show Y.toList = pc Q by rw [hY])
      clear HPL HPE ha HEQ hY
      simp only [Option.isSome_some]
      go_upto_region 6 with (fail)
      refine wp_region_lit ?_
      refine wpList_plain rfl (fun K hK => ?_)
      go_simp
      refine hK _ _ ?_
      clear hK K
      refine wpList_pos (by rfl) _ (by rfl) H Q Y HY.out (by rfl) HPQ.out ?_
      refine wpList_store_mid rfl 29 _ _ rfl (w.heap.size + 1) 0 Y rfl rfl (by rw [HY.out, pc_size]; exact HC.out.z.there) (by rw [infoPos, HY.out, pc_size]) (by rw [HY.out]; exact pc_one _) ?_
      rw [HYL.out]
      obtain ⟨hr1, hb1⟩ := HC.out.stored (Q := Q)
      have HRR := Lib.hid hr1
      have HB := Lib.hid hb1
      clear hr1 hb1 HC
      generalize w5.setCells (w.heap.size + 1) 0 (pc Q) = W8 at HRR HB ⊢
      refine wpList_plain rfl (fun K hK => ?_)
      go_simp
      refine hK _ _ ?_
      clear hK K
      show Exit.then _ _ Exit.normal _ _
      refine ret_go (by assumption) ?_
      repeat (first | refine then_ret ?_ | refine block_ret ?_)
      refine bodyPost_ret (v := .tuple #[.agg (pc Q).toArray, .int .i64 0]) ?_ rfl ⟨by rw [HZ.out, HE.out], HB.out⟩
      exact results_mid2 (p := 4) (u := 5) (ty := 29) rfl _ W8 (w.heap.size + 1) _ _ _ rfl rfl HRR.out Tryz.underlying29 rfl (by rw [infoPos, pc_len])
end Go.Proofs.YthinkiljhkanhaaGreatDoor
