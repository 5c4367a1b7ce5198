/-
  Contracts: advance.
-/
import Derived.Test.YthinkiljhkanhaaGreatDoorRs
import Derived.Test.YthinkiljhkanhaaGreatDoorG25
namespace Go.Proofs.YthinkiljhkanhaaGreatDoor
open Go.RowKit Go.Sort
set_option linter.unusedSimpArgs false
set_option linter.unusedVariables false
set_option maxRecDepth 20000

/-- a row of moves that lies in another block than the judge -/
def R3b (b : Nat) (w : World) (p : Option Addr) (n : Nat) (F T K : Nat → Int) : Prop :=
  n = 0 ∨ ∃ rb off, p = some ⟨rb, off, none⟩ ∧ rb < w.heap.size ∧ rb ≠ b ∧ ∀ i, i < n → w.cell? ⟨rb, off + i * 3, none⟩ = some (.int .i64 (F i)) ∧ w.cell? ⟨rb, off + i * 3 + 1, none⟩ = some (.int .i64 (T i)) ∧ w.cell? ⟨rb, off + i * 3 + 2, none⟩ = some (.int .i64 (K i))
theorem R3b.gr {b : Nat} {w W : World} {p : Option Addr} {n : Nat} {F T K : Nat → Int} (h : R3b b w p n F T K) (g : w.grownBy W (some b)) : Reads3 W.heap.size W p n F T K := by
  rcases h with h | ⟨rb, off, h1, h2, h3, h4⟩
  · exact .inl h
  · have e := g.block rb h2 (by intro e; cases e; exact h3 rfl)
    refine .inr ⟨rb, off, h1, Nat.lt_of_lt_of_le h2 g.size, fun i hi => ?_⟩
    obtain ⟨x, y, z⟩ := h4 i hi
    exact ⟨by rw [World.cell?_of_block (a := ⟨rb, off + i * 3, none⟩) e]; exact x, by rw [World.cell?_of_block (a := ⟨rb, off + i * 3 + 1, none⟩) e]; exact y, by rw [World.cell?_of_block (a := ⟨rb, off + i * 3 + 2, none⟩) e]; exact z⟩
theorem R3b.of {B b : Nat} {w : World} {p : Option Addr} {n : Nat} {F T K : Nat → Int} (h : Reads3 B w p n F T K) (hB : B ≤ b) (hw : b < w.heap.size) : R3b b w p n F T K := by
  rcases h with h | ⟨rb, off, h1, h2, h3⟩
  · exact .inl h
  · exact .inr ⟨rb, off, h1, by omega, by omega, h3⟩
/-- what stands while moves are made -/
structure AV (B b : Nat) (Q : Nat → Int) (w W : World) : Prop where
  h : HG w W b Q
  gb : GB B W
  gs : GS B W
  gm : GM B W
  gp : GP B W
  k : B ≤ b
theorem AV.s {B b : Nat} {Q : Nat → Int} {w W : World} (h : AV B b Q w W) : B ≤ W.heap.size := Nat.le_of_lt (Nat.lt_of_le_of_lt h.k h.h.q.lt)
theorem AV.go {B b : Nat} {Q : Nat → Int} {w W W' : World} (h : AV B b Q w W) (g : Below W.heap.size W W') : AV B b Q w W' :=
  ⟨h.h.go g, h.gb.below (g.mono h.s), h.gs.below (g.mono h.s), h.gm.below (g.mono h.s), h.gp.below (g.mono h.s), h.k⟩
theorem AV.q {B b : Nat} {Q : Nat → Int} {w W : World} (h : AV B b Q w W) : JQ B b Q W W := JQ.begin h.h.q h.gb h.gs h.gm h.gp h.s
theorem AV.store {B b : Nat} {Q : Nat → Int} {w W : World} (h : AV B b Q w W) (Q' : Nat → Int) : AV B b Q' w (W.setCells b 0 (pc Q')) := by
  have hb : Below B W (W.setCells b 0 (pc Q')) := below_store (b := b) Q' (Below.refl _ _) h.k h.s
  exact ⟨⟨h.h.q.store, h.h.g.trans (grs_B _ 0 W)⟩, h.gb.below hb, h.gs.below hb, h.gm.below hb, h.gp.below hb, h.k⟩
theorem AV.begin {B b : Nat} {Q : Nat → Int} {w : World} (h : JQ B b Q w w) (hb : B ≤ b) : AV B b Q w w := ⟨HG.begin h.p, h.gb, h.gs, h.gm, h.gp, hb⟩
/-- a judge is loaded -/
theorem wpList_jud {ops : Array Oper} {rest : List Oper} {op : Oper} {a : Act} {w : World} {Q : Exit → Act → World → Prop} (hw : Region.wanted op (yielded ops a.tmps) = true) (x : Operand) (ho : op.op = .load 62 x)
    (b : Nat) (P : Nat → Int) (X : Array Value) (hX : X = (pc P).toArray) (hx : a.eval x = .pointer (some ⟨b, 0, none⟩)) (hc : PB w b P) (h : wpList Tryz.prog ops Q rest (a.put op.dst (.agg X)) w) : wpList Tryz.prog ops Q (op :: rest) a w := by
  subst hX
  exact BigFrame.wpList_want hw fun _ hK => wp_load_mid 62 x ho b 0 hx (pc P) _ hc.range Tryz.underlying62 rfl (by rw [infoJudge, pc_len]) (hK _ _ h)
theorem from_len (P : Nat → Int) (f : Int) : (fromM P f).length ≤ 100000 := by
  unfold fromM
  split
  · exact Nat.le_trans (movesL_len P _) (by omega)
  · simp
set_option maxHeartbeats 8000000 in
set_option maxRecDepth 100000 in
theorem advance_any (B b : Nat) (P : Nat → Int) (F T K : Nat → Int) (p : Option Addr) (n c : Nat) (hn : n ≤ 100000) (w : World) (h : AV B b P w w) (hr : R3b b w p n F T K) :
    Calls Tryz.prog 45 #[.pointer (some ⟨b, 0, none⟩), .slice p n c] w fun e w' => e = .returned (.bool (advN P F T K n).isSome) ∧ ∃ Q, AV B b Q w w' ∧ ∀ R, advN P F T K n = some R → Q = R := by
  have HI0 := Lib.hid h
  have HR := Lib.hid hr
  have HGO := Lib.hid (fun i Q (h : advN P F T K i = some Q) hl => adv_go h hl)
  have HEND := Lib.hid (fun i Q (h : advN P F T K i = some Q) hl => adv_end h hl)
  have HNO := Lib.hid (fun i m (h : advN P F T K i = none) hi => adv_none (n := m) h hi)
  have H0 := Lib.hid (show advN P F T K 0 = some P from rfl)
  clear h hr
  go_enter Tryz.func45, Tryz.ntmps45
  go_wp2
  go_loopw [11] (fun v wr => ∃ (i : Nat) (Q : Nat → Int), i ≤ n ∧ v = .int .i64 (i : Int) ∧ advN P F T K i = some Q ∧ AV B b Q w wr) (fun v _ => n - (intOf v).toNat)
  case atStart => exact ⟨0, P, Nat.zero_le _, rfl, H0.out, HI0.out⟩
  case round =>
    clear HI0 H0
    obtain ⟨i, Q, hi, rfl, ha, hv⟩ := hrel
    have HI := Lib.hid hv
    have HA := Lib.hid ha
    clear hv ha
    by_cases hlt : i < n
    · have hrd := HR.out.gr HI.out.h.g
      obtain ⟨pb, po, rfl⟩ := hrd.addr hlt
      obtain ⟨e0, e1, e2⟩ := hrd.cells hlt
      have HYES := Lib.hid (HGO.out i Q HA.out)
      have HNON := Lib.hid (fun hl => HNO.out (i + 1) n (HEND.out i Q HA.out hl) hlt)
      clear hrd
      generalize F i = f at *
      generalize T i = t at *
      generalize K i = k at *
      obtain ⟨L, hL⟩ : ∃ L, fromM Q f = L := ⟨_, rfl⟩
      obtain ⟨X, hX⟩ : ∃ X, X = (pc Q).toArray := ⟨_, rfl⟩
      have hll := from_len Q f
      have MFR := Lib.hid (fun W h1 h2 h3 => mFrom_any Q f W B h1 h2 h3)
      rw [hL, ← hX] at MFR
      rw [hL] at hll
      obtain ⟨ib, hib⟩ : ∃ x, L.contains (f, t, k) = x := ⟨_, rfl⟩
      obtain ⟨nl, hnl⟩ : ∃ m, L.length = m := ⟨_, rfl⟩
      have MCO := Lib.hid (fun W p c (hr : Reads3 W.heap.size W p L.length (mF L) (mT L) (mK L)) => contains_mv f t k (mF L) (mT L) (mK L) p L.length c hll W hr)
      rw [any_is, hib, hnl] at MCO
      have HOWN := Lib.hid (fun (W : World) base v (h : W.ownsRow base 41 3 v L.length (mvals L)) => reads3_own h)
      rw [hnl] at MFR HOWN
      have HLB := Lib.hid (show legB Q f t k = (ib && okM Q f.toNat t.toNat k) by rw [legB_is, hL, hib])
      have HFO := Lib.hid (show ib = true → ∃ s m : Nat, f = (s : Int) ∧ t = (m : Int) ∧ MvOk Q ((s : Int), (m : Int), k) s m from fun e => from_ok Q f t k (by rw [hL, hib, e]))
      have HX := Lib.hid hX
      have i0 : (0 : Int) ≤ (i : Int) := by omega
      clear hL hX hll hib hnl
      go_upto_region 4 with (fail)
      clear e0 e1 e2
      refine forget_B (fun W => AV B b Q w W ∧ W.heap[wr.heap.size]? = some (.cells #[.int .i64 f, .int .i64 t, .int .i64 k] 41 (0, 0))) ⟨HI.out.go (below_new _), sl_at rfl⟩ ?_
      clear HI
      intro W1 hs1
      have HI := Lib.hid hs1
      clear hs1
      generalize wr.heap.size = mb at *
      refine wp_region_noPanic ?_
      refine wp_region_start (n := 10) (l := #[ff, ff, ff, ff, ff, ff, ff, ff, ff, ff]) (S := (fun W => AV B b Q w W ∧ W.heap[mb]? = some (.cells #[.int .i64 f, .int .i64 t, .int .i64 k] 41 (0, 0)))) (by kernel_rfl) rfl (by kernel_rfl) (by first | exact HI.out | exact ⟨HI.out.1.go (Below.refl _ _).drew, sl_go HI.out.2 (Below.refl _ _).drew⟩) (fun hHeld => ?_)
      replace HI := Lib.hid (And.intro (HI.out.1.go (Below.refl W1.heap.size W1).drew) (sl_go HI.out.2 (Below.refl W1.heap.size W1).drew))
      generalize W1.drew = V at *
      refine take_go (i := 0) (d := some 15) (v := ?_) (l' := #[tt, ff, ff, ff, ff, ff, ff, ff, ff, ff]) rfl rfl (Or.inl ⟨by rfl, ?_⟩) ?_; rotate_left; · (intro w' hSw; (try dsimp only at hSw); go_simp; (try with_reducible rfl))
      try simp only [Act.put, List.setIfInBounds_toArray, List.set_cons_zero, List.set_cons_succ]
      refine take_go (i := 1) (d := some 16) (v := ?_) (l' := #[tt, tt, ff, ff, ff, ff, ff, ff, ff, ff]) rfl rfl (Or.inl ⟨by rfl, ?_⟩) ?_; rotate_left; · (intro w' hSw; (try dsimp only at hSw); go_simp; (try with_reducible rfl))
      try simp only [Act.put, List.setIfInBounds_toArray, List.set_cons_zero, List.set_cons_succ]
      refine take_go (i := 2) (d := some 17) (v := ?_) (l' := #[tt, tt, tt, ff, ff, ff, ff, ff, ff, ff]) rfl rfl (Or.inl ⟨by rfl, ?_⟩) ?_; rotate_left; · (intro w' hSw; (try dsimp only at hSw); go_simp; (try with_reducible rfl))
      try simp only [Act.put, List.setIfInBounds_toArray, List.set_cons_zero, List.set_cons_succ]
      refine take_go (i := 3) (d := some 18) (v := (.agg X)) (l' := #[tt, tt, tt, tt, ff, ff, ff, ff, ff, ff]) rfl rfl ?_ ?_
      · exact yields_posC (by rfl) _ (by rfl) b Q X HX.out (by rfl) (fun W h => h.1.h.q)
      try simp only [Act.put, List.setIfInBounds_toArray, List.set_cons_zero, List.set_cons_succ]
      refine take_go (i := 4) (d := some 19) (v := ?_) (l' := #[tt, tt, tt, tt, tt, ff, ff, ff, ff, ff]) rfl rfl (Or.inl ⟨by rfl, ?_⟩) ?_; rotate_left; · (intro w' hSw; (try dsimp only at hSw); go_simp; (try with_reducible rfl))
      try simp only [Act.put, List.setIfInBounds_toArray, List.set_cons_zero, List.set_cons_succ]
      refine take_go (i := 5) (d := some 20) (v := (.int .i64 f)) (l' := #[tt, tt, tt, tt, tt, tt, ff, ff, ff, ff]) rfl rfl ?_ ?_
      · refine Or.inl ⟨by rfl, ?_⟩; intro w' hSw; (try dsimp only at hSw); obtain ⟨m0, m1, m2, mf, mz⟩ := row3 hSw.2; go_simp
      try simp only [Act.put, List.setIfInBounds_toArray, List.set_cons_zero, List.set_cons_succ]
      refine take_go (i := 7) (d := some 22) (v := (.agg #[.int .i64 f, .int .i64 t, .int .i64 k])) (l' := #[tt, tt, tt, tt, tt, tt, ff, tt, ff, ff]) rfl rfl ?_ ?_
      · refine Or.inl ⟨by rfl, ?_⟩; intro w' hSw; (try dsimp only at hSw); obtain ⟨m0, m1, m2, mf, mz⟩ := row3 hSw.2; go_simp
      try simp only [Act.put, List.setIfInBounds_toArray, List.set_cons_zero, List.set_cons_succ]
      refine one_to (i := 6) (l' := #[tt, tt, tt, tt, tt, tt, tt, tt, ff, ff]) rfl (by kernel_rfl) (by kernel_rfl) (fun K hK => ?_)
      go_simp
      refine (MFR.out _ HI.out.1.gs HI.out.1.gm HI.out.1.s).mono ?_
      rintro e V ⟨v, rfl, hb, hown⟩
      obtain ⟨rp, rc, rfl, hr3⟩ := HOWN.out _ _ _ hown
      have HR3 := Lib.hid hr3
      replace HI := Lib.hid (And.intro (HI.out.1.go hb) (sl_go HI.out.2 hb))
      clear hb hown hr3
      dsimp only
      refine hK.out _ _ (by first | exact HI.out | exact ⟨HI.out.1.go (Below.refl _ _).drew, sl_go HI.out.2 (Below.refl _ _).drew⟩) (fun hHeld => ?_)
      clear hK K
      try simp only [Act.put, List.setIfInBounds_toArray, List.set_cons_zero, List.set_cons_succ]
      refine one_to (i := 8) (l' := #[tt, tt, tt, tt, tt, tt, tt, tt, tt, ff]) rfl (by kernel_rfl) (by kernel_rfl) (fun K hK => ?_)
      go_simp
      refine (MCO.out _ _ _ HR3.out).mono ?_
      rintro e V ⟨rfl, hb⟩
      replace HI := Lib.hid (And.intro (HI.out.1.go hb) (sl_go HI.out.2 hb))
      clear hb HR3
      dsimp only
      refine hK.out _ _ (by first | exact HI.out | exact ⟨HI.out.1.go (Below.refl _ _).drew, sl_go HI.out.2 (Below.refl _ _).drew⟩) (fun hHeld => ?_)
      clear hK K
      try simp only [Act.put, List.setIfInBounds_toArray, List.set_cons_zero, List.set_cons_succ]
      refine take_go (i := 9) (d := some 24) (v := ?_) (l' := #[tt, tt, tt, tt, tt, tt, tt, tt, tt, tt]) rfl rfl (Or.inl ⟨by rfl, ?_⟩) ?_; rotate_left; · (intro w' hSw; (try dsimp only at hSw); go_simp; (try with_reducible rfl))
      try simp only [Act.put, List.setIfInBounds_toArray, List.set_cons_zero, List.set_cons_succ]
      refine wpAnyH_done (by kernel_rfl) ?_ _
      refine NoPanic.normal ?_
      clear hHeld MCO MFR HOWN
      cases ib
      · go_wp2_with fail
        go_ret
        have hno := HNON.out (by rw [HLB.out]; rfl)
        exact ⟨q_b (by rw [hno]; rfl), Q, HI.out.1, fun R hR => by rw [hno] at hR; cases hR⟩
      · obtain ⟨s, m, rfl, rfl, hmv⟩ := HFO.out rfl
        have MB := Lib.hid (fun W h => behind_any B b Q s m k hmv.hs hmv.hn W h)
        obtain ⟨ok, hok⟩ : ∃ x, okM Q s m k = x := ⟨_, rfl⟩
        obtain ⟨N, hN⟩ : ∃ x, nxP Q s m k = x := ⟨_, rfl⟩
        obtain ⟨V9, hV9⟩ : ∃ V, V = (pc N).toArray := ⟨_, rfl⟩
        rw [hN, ← hV9, hok] at MB
        have HL2 := Lib.hid (show legB Q (s : Int) (m : Int) k = ok by rw [HLB.out, Int.toNat_natCast, Int.toNat_natCast, hok]; rfl)
        have HNX := Lib.hid (show legB Q (s : Int) (m : Int) k = true → advN P F T K (i + 1) = some N from fun h => by have := HYES.out h; rwa [Int.toNat_natCast, Int.toNat_natCast, hN] at this)
        have HV := Lib.hid hV9
        have HVL := Lib.hid (show V9.toList = pc N by rw [hV9])
        clear hok hN hV9 hmv HFO HLB HYES
        obtain ⟨m0, m1, m2, mf, mz⟩ := row3 HI.out.2
        go_wp2_with fail
        refine (MB.out _ HI.out.1.q).mono ?_
        rintro e w1 ⟨rfl, hb⟩
        replace HI := Lib.hid (show AV B b Q w w1 from HI.out.1.go hb)
        clear m0 m1 m2 mf mz hb MB
        dsimp only
        refine list_go (by assumption) ?_
        iterate 3
          refine wpList_plain rfl (fun K hK => ?_)
          go_simp
          refine hK _ _ ?_
          clear hK K
        refine wpList_newJ V9 N HV.out (by rfl) (by rfl) (fun W2 hp hb hsz => ?_)
        replace HI := Lib.hid (HI.out.go hb)
        have HPN := Lib.hid hp
        clear hp hb hsz
        generalize w1.heap.size = H at *
        cases ok
        · go_wp2_with fail
          go_ret
          have hno := HNON.out HL2.out
          exact ⟨q_b (by rw [hno]; rfl), Q, HI.out, fun R hR => by rw [hno] at hR; cases hR⟩
        · go_upto_region 9 with (fail)
          refine wp_region_lit ?_
          refine wpList_plain rfl (fun K hK => ?_)
          go_simp
          refine hK _ _ ?_
          clear hK K
          refine wpList_jud (by rfl) _ (by rfl) H N V9 HV.out (by rfl) HPN.out ?_
          refine wpList_plain rfl (fun K hK => ?_)
          go_simp
          refine hK _ _ ?_
          clear hK K
          refine wpList_store_mid rfl 62 _ _ rfl b 0 V9 rfl rfl (by rw [HV.out, pc_size]; exact HI.out.h.q.there) (by rw [infoJudge, HV.out, pc_size]) (by rw [HV.out]; exact pc_one _) ?_
          rw [HVL.out]
          have HI2 := Lib.hid (HI.out.store N)
          generalize W2.setCells b 0 (pc N) = W3 at HI2 ⊢
          have HAN := Lib.hid (HNX.out HL2.out)
          clear HI HPN HNX HL2 HNON
          go_wp2
          go_roundw
          case rel => exact ⟨i + 1, N, by omega, by go_num, HAN.out, HI2.out⟩
          case measure => simp [intOf]; omega
    · obtain rfl : i = n := by omega
      go_wp2
      go_ret
      exact ⟨q_b (by rw [HA.out]; rfl), Q, HI.out, fun R hR => by rw [HA.out] at hR; cases hR; rfl⟩
end Go.Proofs.YthinkiljhkanhaaGreatDoor
