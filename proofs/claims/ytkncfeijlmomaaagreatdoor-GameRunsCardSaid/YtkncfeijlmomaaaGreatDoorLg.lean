/-
  Games: a move.
-/
import Derived.Maps.AppendAt
import Derived.Deep.CutBlock
import Derived.Test.YtkncfeijlmomaaaGreatDoorLf
import Derived.Test.YtkncfeijlmomaaaGreatDoorG28
namespace Go.Proofs.YtkncfeijlmomaaaGreatDoor
open Go.RowKit Go.Sort Go.Maps
set_option linter.unusedSimpArgs false
set_option linter.unusedVariables false
set_option maxRecDepth 20000

theorem wp_append_move {o : Oper} {a : Act} {w : World} {K : Act → World → Prop} {Q : Exit → Act → World → Prop} (s x : Operand)
    (ho : o.op = .call { callee := .builtin .append, args := #[s, x], argTypes := #[42, 42] }) (base : Nat) (v : Value) (L : List (Int × Int × Int)) (m1 m2 m3 : Int) (R c : Nat)
    (hs : a.eval s = v) (hown : w.ownsRow base 46 3 v L.length (mvals L)) (hx : a.eval x = .slice (some ⟨R, 0, none⟩) 1 c) (hR : w.heap[R]? = some (.cells #[.int .i64 m1, .int .i64 m2, .int .i64 m3] 46 (0, 0)))
    (hl : L.length ≤ 100000) (hbase : base ≤ w.heap.size)
    (h : ∀ v' w', w'.ownsRow base 46 3 v' (L ++ [(m1, m2, m3)]).length (mvals (L ++ [(m1, m2, m3)])) → w.grownBy w' v.ownBlock → (v'.ownBlock = v.ownBlock ∨ v'.ownBlock = some w.heap.size) → K (a.put o.dst v') w') : o.wp Tryz.prog a w K Q := by
  obtain ⟨ie, z, hie, hz, hz1, hz2, hz3⟩ := infoMv14
  obtain ⟨q0, q1, q2, _, _⟩ := row3 hR
  obtain ⟨v', w', hr, h2, h3, _, h5⟩ := run_append_own_at (P := Tryz.prog) w base 42 o.type 46 ie z 3 24 Tryz.underlying42 hie hz hz1 hz2 hz3 (by omega) v L.length (mvals L) hown ⟨R, 0, none⟩ 1 c [.int .i64 m1, .int .i64 m2, .int .i64 m3] rfl
    (fun j u hj => by
      rw [Go.WideShapes.add_plain]
      rcases (show j = 0 ∨ j = 1 ∨ j = 2 ∨ 3 ≤ j by omega) with rfl | rfl | rfl | h
      · cases hj; exact q0
      · cases hj; exact q1
      · cases hj; exact q2
      · rw [List.getElem?_eq_none (by simpa using h)] at hj; cases hj)
    (fun u hu => by simp only [List.mem_cons, List.not_mem_nil, or_false] at hu; rcases hu with rfl | rfl | rfl <;> rfl) (by unfold maxLen; omega) (by omega) hbase
  unfold Oper.wp execOp
  simp only [ho, resolve, invoke, builtin, Sem.run_bind, Sem.run_pure, Result.andThen_ok, List.map_toArray, List.map_cons, List.map_nil, hs, hx, hr]
  rw [mvals_snoc] at h2
  exact h _ _ (by rw [List.length_append]; exact h2) h3 h5
/-- what stands while a move is made: the move in a box -/
structure GV (B base : Nat) (g : Gm) (s t k : Int) (w W : World) : Prop where
  m : GW base g W
  x : W.heap[w.heap.size]? = some (.cells #[.int .i64 s, .int .i64 t, .int .i64 k] 46 (0, 0))
  bl : Below w.heap.size w W
  e : EN B W
theorem GV.go {B base : Nat} {g : Gm} {s t k : Int} {w W W' : World} (h : GV B base g s t k w W) (b : Below W.heap.size W W') : GV B base g s t k w W' := ⟨h.m.go b, sl_go h.x b, h.bl.trans (b.mono h.bl.size), h.e.go b⟩
/-- a store into a block behind the box -/
theorem GV.st {B base D : Nat} {g : Gm} {s t k : Int} {w W W' : World} (h : GV B base g s t k w W) (c : W.grownBy W' (some D)) (hD : w.heap.size < D) (hx : ∀ k, g.X k → k < w.heap.size) (hB : B ≤ w.heap.size) : GV B base g s t k w W' :=
  ⟨h.m.ch (Ch.gr (X := fun k => k = D) c rfl) fun k hk e => by have := hx k hk; omega, (c.block _ (Array.getElem?_eq_some_iff.1 h.x).1 (fun e => by have := Option.some.inj e; omega)).trans h.x, h.bl.grown c h.bl.size (fun k e => by cases e; omega), h.e.on ((Below.refl B W).grown c h.e.k fun k e => by cases e; omega)⟩
/-- behind the append of a move: the game's row of moves isn't its own any more -/
structure GVA (B base : Nat) (g : Gm) (s t k : Int) (w W : World) : Prop where
  gbc : W.heap[g.gb]? = some (.cells (gmP g).toArray 81 (0, 0))
  bk : BW W g.b g.mb g.T
  x : W.heap[w.heap.size]? = some (.cells #[.int .i64 s, .int .i64 t, .int .i64 k] 46 (0, 0))
  c : Ch g.X w W
  e : EN B W
theorem GVA.cell {B base : Nat} {g : Gm} {s t k : Int} {w W : World} (h : GVA B base g s t k w W) : W.cell? ⟨g.gb, 135, none⟩ = some g.mv := (cell_of_row W g.gb 135 _ _ (0, 0) h.gbc).trans (gmP_at g).2.2.2.1
theorem GV.ap {B base : Nat} {g : Gm} {s t k : Int} {w W W' : World} (h : GV B base g s t k w W) (c : W.grownBy W' g.mv.ownBlock) (ne : g.gb ≠ g.b ∧ g.gb ≠ g.mb ∧ g.mv.ownBlock ≠ some g.gb ∧ g.mv.ownBlock ≠ some g.b ∧ g.mv.ownBlock ≠ some g.mb) (hx : ∀ k, g.mv.ownBlock = some k → k < w.heap.size) (hB : B ≤ base) (hb : ∀ k, g.mv.ownBlock = some k → base ≤ k) : GVA B base g s t k w W' := by
  have hc : Ch (fun k => g.mv.ownBlock = some k) W W' := Ch.gro c fun x e => e
  exact ⟨hc.at h.m.c ne.2.2.1, hc.bw h.m.k ne.2.2.2.1 ne.2.2.2.2, hc.at h.x (fun e => by have := hx _ e; omega), (Ch.bel (X := g.X) h.bl).trans hc fun _ _ hx => .inr (.inr (.inr hx)),
    h.e.on (hc.below (Below.refl B W) h.e.k fun k hk e => by have := hb k e; omega)⟩
theorem GVA.st2 {B base : Nat} {g : Gm} {s t k : Int} {w W : World} (h : GVA B base g s t k w W) (v : Value) (ho : W.ownsRow base 46 3 v (g.L ++ [(s, t, k)]).length (mvals (g.L ++ [(s, t, k)]))) (hn : v.ownBlock ≠ some g.gb) (ne : g.gb ≠ g.b ∧ g.gb ≠ g.mb ∧ g.mv.ownBlock ≠ some g.gb ∧ g.mv.ownBlock ≠ some g.b ∧ g.mv.ownBlock ≠ some g.mb) (hg : base ≤ g.gb) (hb : base ≤ g.b) (hm : base ≤ g.mb) :
    GW base { g with mv := v, L := g.L ++ [(s, t, k)] } (W.setCell ⟨g.gb, 135, none⟩ v) := by
  have gr := gr1_B (hb := g.gb) (i := 135) (w := W) v
  have hc : Ch (fun k => k = g.gb) W (W.setCell ⟨g.gb, 135, none⟩ v) := Ch.gr gr rfl
  exact ⟨by rw [show gmP { g with mv := v, L := g.L ++ [(s, t, k)] } = gmP { g with mv := v } from rfl, ← (gmP_set g g.n v g.r g.y).2.1]; exact Go.heap_setCell_same W g.gb 135 _ _ _ h.gbc, hc.bw h.bk (fun e => ne.1 e.symm) (fun e => ne.2.1 e.symm), hc.own ho fun q hq e => hn (e ▸ hq), hg, hb, hm⟩
theorem own3_shape {w : World} {base n : Nat} {v : Value} {xs : List Value} (h : w.ownsRow base 46 3 v n xs) : ∃ p c, v = .slice p n c := by
  rcases own3_form h with ⟨rfl, rfl⟩ | ⟨q, c, rfl, _⟩
  · exact ⟨_, _, rfl⟩
  · exact ⟨_, _, rfl⟩
theorem one_row14 {W : World} {R : Nat} {s t k : Int} (hat : W.heap[R]? = some (.cells #[.int .i64 s, .int .i64 t, .int .i64 k] 46 (0, 0))) : Reads3 W.heap.size W (some ⟨R, 0, none⟩) 1 (fun _ => s) (fun _ => t) (fun _ => k) := by
  obtain ⟨q0, q1, q2, _, _⟩ := row3 hat
  refine .inr ⟨R, 0, rfl, (Array.getElem?_eq_some_iff.1 hat).1, fun i hi => ?_⟩
  obtain rfl : i = 0 := by omega
  exact ⟨q0, q1, q2⟩
theorem pl_bad (P : Nat → Int) (hp : posB P = true) (f t k : Int) (h : legB P f t k = false) : plE P (fun _ => f) (fun _ => t) (fun _ => k) 1 = 8 := by
  unfold plE
  rw [hp, if_pos rfl, if_neg (by rw [adv_one, h]; exact Bool.false_ne_true)]
/-- what a move leaves -/
def Gm.mvd (g : Gm) (m : Int × Int × Int) (v : Value) : Gm := if g.err m = 0 then g.next m v else g
structure Gmoved (base : Nat) (g g' : Gm) (w w' : World) : Prop where
  m : GW base g' w'
  c : Ch g.X w w'
  o : g'.mv.ownBlock = g.mv.ownBlock ∨ ∀ q, g'.mv.ownBlock = some q → w.heap.size ≤ q
theorem Gmoved.same {base : Nat} {g : Gm} {w w' : World} (h : GW base g w) (b : Below w.heap.size w w') : Gmoved base g g w w' := ⟨h.go b, Ch.bel b, .inl rfl⟩
set_option maxHeartbeats 8000000 in
set_option maxRecDepth 100000 in
theorem gmove_any (B base : Nat) (g : Gm) (s t k : Int) (hp : posB g.P = true) (hL : g.L.length ≤ 90000) (hT : g.T.length ≤ 900000) (w : World) (h : GW base g w) (he : EN B w) (hB : base ≤ w.heap.size) (hbb : B ≤ base) :
    Calls Tryz.prog 48 #[.pointer (some ⟨g.gb, 0, none⟩), .agg #[.int .i64 s, .int .i64 t, .int .i64 k]] w fun e w' => ∃ v, e = .returned (.int .i64 (g.err (s, t, k))) ∧ Gmoved base g (g.mvd (s, t, k) v) w w' := by
  have HI := Lib.hid (show GV B base g s t k w (w.alloc (.cells #[.int .i64 s, .int .i64 t, .int .i64 k] 46)) from ⟨h.go (below_new _), sl_at rfl, below_new _, he.go (below_new _)⟩)
  have MO := Lib.hid (fun W (h : GW base g W) => gover_any base g W h)
  have HER := Lib.hid (show g.err (s, t, k) = if g.r = 0 then (if 8192 ≤ g.L.length then 3 else if legB g.P s t k then 0 else 8) else 9 from rfl)
  have HMV := Lib.hid (fun v => show g.mvd (s, t, k) v = if g.err (s, t, k) = 0 then g.next (s, t, k) v else g from rfl)
  have HS := Lib.hid (fun w' (b : Below w.heap.size w w') => Gmoved.same h b)
  obtain ⟨er, her⟩ : ∃ e, g.err (s, t, k) = e := ⟨_, rfl⟩
  rw [her] at HER HMV ⊢
  clear her
  by_cases h0 : g.r = 0
  · rw [show (g.r != 0) = false by rw [h0]; rfl] at MO
    rw [if_pos h0] at HER
    obtain ⟨p, c, hmv⟩ := own3_shape h.own
    by_cases h8 : 8192 ≤ g.L.length
    · rw [if_pos h8] at HER
      have HV := Lib.hid (show g.mvd (s, t, k) g.mv = g by rw [HMV.out, HER.out]; rfl)
      have h8i : (8192 : Int) ≤ (g.L.length : Int) := by omega
      clear HMV h he h0
      go_enter Tryz.func48, Tryz.ntmps48
      go_upto_region 1 with (fail)
      generalize w.alloc (.cells #[.int .i64 s, .int .i64 t, .int .i64 k] 46) = W0 at *
      go_wp2_with fail
      refine (MO.out _ HI.out.m).mono ?_
      rintro e w1 ⟨rfl, rfl⟩
      obtain ⟨_, _, _, x0, _, _, _, _⟩ := HI.out.m.cell
      rw [hmv] at x0
      have xz := HI.out.m.lt
      dsimp only
      refine list_go (by assumption) ?_
      go_wp2
      go_ret
      exact ⟨g.mv, q_i HER.out.symm, by rw [HV.out]; exact HS.out _ HI.out.bl⟩
    · rw [if_neg h8] at HER
      have h8i : ¬ (8192 : Int) ≤ (g.L.length : Int) := by omega
      have HL8 := Lib.hid (show g.L.length ≤ 90000 from hL)
      obtain ⟨Xp, hXp⟩ : ∃ X, X = (pc g.P).toArray := ⟨_, rfl⟩
      have HXp := Lib.hid hXp
      have MPL := Lib.hid (fun R c W (h : GV B base g s t k w W) (hr : W.heap[R]? = some (.cells #[.int .i64 s, .int .i64 t, .int .i64 k] 46 (0, 0))) => lPlay_any g.P (fun _ => s) (fun _ => t) (fun _ => k) (some ⟨R, 0, none⟩) 1 c (by omega) W B h.e.gb h.e.gs h.e.gm h.e.gp h.e.k (one_row14 hr))
      rw [← hXp] at MPL
      obtain ⟨Z, hZ⟩ : ∃ Z, plP g.P (fun _ => s) (fun _ => t) (fun _ => k) 1 = Z := ⟨_, rfl⟩
      obtain ⟨pe, hpe⟩ : ∃ Z, plE g.P (fun _ => s) (fun _ => t) (fun _ => k) 1 = Z := ⟨_, rfl⟩
      rw [hZ, hpe] at MPL
      have HEQ := Lib.hid (show er = pe ∧ (pe ≠ 0 → g.mvd (s, t, k) g.mv = g) ∧ (pe = 0 → posB Z = true ∧ ∀ v, g.mvd (s, t, k) v = ({ g with mv := v, L := g.L ++ [(s, t, k)] } : Gm).comes Z) by
        cases hl : legB g.P s t k with
        | true =>
          obtain ⟨a, b⟩ := pl_one12 g.P hp s t k hl
          rw [hl] at HER
          rw [hpe] at b
          refine ⟨by rw [HER.out, b]; rfl, fun e => absurd b e, fun _ => ⟨?_, fun v => ?_⟩⟩
          · obtain ⟨s', t', e1, e2, hg⟩ := leg_nx g.P hp s t k hl
            subst e1; subst e2
            rw [← hZ, a, Int.toNat_natCast, Int.toNat_natCast]
            have h1 := hg.nx
            have h2 := hg.pos
            simp only at h1 h2
            rw [h1]; exact h2
          · rw [HMV.out, HER.out, if_pos rfl, if_pos (by simp)]
            rw [hZ] at a
            unfold Gm.next Gm.comes
            simp only
            rw [← a]
        | false =>
          rw [hl] at HER
          have b := pl_bad g.P hp s t k hl
          rw [hpe] at b
          have e8 : er = 8 := HER.out
          exact ⟨by rw [e8, b], fun _ => by rw [HMV.out, e8]; rfl, fun e => by rw [b] at e; cases e⟩)
      have HT := Lib.hid hT
      have HBB := Lib.hid hbb
      have HBW := Lib.hid hB
      have HGX := Lib.hid h.ltX
      have HNE := Lib.hid h.ne
      clear HMV HER h he h0 hXp hZ hpe hL hp hT hbb hB
      go_enter Tryz.func48, Tryz.ntmps48
      go_upto_region 1 with (fail)
      generalize w.alloc (.cells #[.int .i64 s, .int .i64 t, .int .i64 k] 46) = W0 at *
      go_wp2_with fail
      refine (MO.out _ HI.out.m).mono ?_
      rintro e w1 ⟨rfl, rfl⟩
      obtain ⟨_, _, _, x0, _, _, _, _⟩ := HI.out.m.cell
      rw [hmv] at x0
      have xz := HI.out.m.lt
      dsimp only
      refine list_go (by assumption) ?_
      go_upto_region 5 with (fail)
      clear x0 h8i MO
      go_cut [5, 6] from 17 to 27 (fun v5 v6 wx => ∃ D, v5 = .pointer (some ⟨D, 0, none⟩) ∧ v6 = .int .i64 pe ∧ PB wx D Z ∧ GV B base g s t k w wx ∧ w.heap.size < D)
      case first =>
        refine wp_region_noPanic ?_
        refine wp_region_start (n := 14) (l := #[ff, ff, ff, ff, ff, ff, ff, ff, ff, ff, ff, ff, ff, ff]) (S := (fun W => GV B base g s t k w W)) (by kernel_rfl) rfl (by kernel_rfl) (by exact HI.out.go (Below.refl _ _).drew) (fun hHeld => ?_)
        replace HI := Lib.hid (HI.out.go (Below.refl w1.heap.size w1).drew)
        generalize w1.drew = V0 at *
        refine tq (i := 0) (d := some 18) rfl rfl ?_
        try simp only [aP, sA, sZ, sS]
        refine tq (i := 1) (d := some 19) rfl rfl ?_
        try simp only [aP, sA, sZ, sS]
        refine tq (i := 2) (d := some 20) rfl rfl ?_
        try simp only [aP, sA, sZ, sS]
        refine tq (i := 3) (d := some 21) rfl rfl ?_
        try simp only [aP, sA, sZ, sS]
        refine tg (i := 4) (d := some 22) (v := (.agg Xp)) rfl rfl ?_ ?_
        · exact yields_posC (by rfl) _ (by rfl) g.gb g.P Xp HXp.out (by rfl) (fun W h => h.m.pb)
        try simp only [aP, sA, sZ, sS]
        refine tg (i := 5) (d := some 23) (v := (.agg #[.int .i64 s, .int .i64 t, .int .i64 k])) rfl rfl ?_ ?_
        · refine Or.inl ⟨by rfl, ?_⟩; intro w' hSw; obtain ⟨q0, q1, q2, _, _⟩ := row3 hSw.x; go_simp
        try simp only [aP, sA, sZ, sS]
        refine wg (i := 6) (j := 11) rfl rfl (by kernel_rfl) (fun K hK => ?_) (fun K hK => ?_)
        · skip
          go_simp
          have HR := Lib.hid (show (V0.alloc (.cells #[.int .i64 s, .int .i64 t, .int .i64 k] 46)).heap[V0.heap.size]? = some (.cells #[.int .i64 s, .int .i64 t, .int .i64 k] 46 (0, 0)) from sl_at rfl)
          replace HI := Lib.hid (HI.out.go (below_new (.cells #[.int .i64 s, .int .i64 t, .int .i64 k] 46)))
          generalize V0.alloc (.cells #[.int .i64 s, .int .i64 t, .int .i64 k] 46) = V1 at *
          generalize V0.heap.size = R at *
          refine hK.out _ _ (by exact HI.out) (fun hHeld => ?_)
          clear hK K hHeld
          try simp only [aP, sA, sZ, sS]
          refine wg (i := 7) (j := 11) rfl rfl (by kernel_rfl) (fun K hK => ?_) (fun K hK => ?_)
          · skip
            go_simp
            refine (MPL.out _ _ _ HI.out HR.out).mono ?_
            rintro e V3 ⟨rfl, hb⟩
            replace HI := Lib.hid (HI.out.go hb)
            clear hb HR
            dsimp only
            refine hK.out _ _ (by exact HI.out) (fun hHeld => ?_)
            clear hK K hHeld
            try simp only [aP, sA, sZ, sS]
            refine tq (i := 8) (d := some 17) rfl rfl ?_
            try simp only [aP, sA, sZ, sS]
            refine tq (i := 9) (d := some 26) rfl rfl ?_
            try simp only [aP, sA, sZ, sS]
            refine tq (i := 10) (d := some 27) rfl rfl ?_
            try simp only [aP, sA, sZ, sS]
            refine og (i := 11) rfl (by kernel_rfl) (fun K hK => ?_)
            go_simp
            have HD := Lib.hid (show PB (V3.alloc (.cells Tryz.zeroCells29 29)) V3.heap.size (fun _ => 0) from by rw [zeroPosY]; exact PB.new rfl)
            have HDL := Lib.hid (show w.heap.size < V3.heap.size from (Array.getElem?_eq_some_iff.1 HI.out.x).1)
            replace HI := Lib.hid (HI.out.go (below_new (.cells Tryz.zeroCells29 29)))
            generalize V3.alloc (.cells Tryz.zeroCells29 29) = V2 at *
            generalize V3.heap.size = D at *
            refine hK.out _ _ (by exact HI.out) (fun hHeld => ?_)
            clear hK K hHeld
            try simp only [aP, sA, sZ, sS]
            refine og (i := 12) rfl (by kernel_rfl) (fun K hK => ?_)
            refine wp_store_mid 29 _ _ rfl D 0 (pc Z).toArray rfl rfl (by rw [pc_size]; exact HD.out.there) (by rw [infoPos, pc_size]) (pc_one _) ?_
            rw [List.toList_toArray]
            have HD2 := Lib.hid (HD.out.store (Q := Z))
            replace HI := Lib.hid (HI.out.st (grs_B (hb := D) (pc Z) 0 V2) HDL.out (fun k hk => (HGX.out k hk).2) (Nat.le_trans HBB.out HBW.out))
            generalize V2.setCells D 0 (pc Z) = V4 at *
            refine hK.out _ _ (by exact HI.out) (fun hHeld => ?_)
            clear hK K hHeld
            try simp only [aP, sA, sZ, sS]
            refine tq (i := 13) (d := some 6) rfl rfl ?_
            try simp only [aP, sA, sZ, sS]
            refine wpAnyH_done (by kernel_rfl) ?_ _
            refine NoPanic.normal ?_
            go_wp2
            go_meet
            exact ⟨D, rfl, rfl, HD2.out, HI.out, HDL.out⟩
          · skip
            go_simp
            have HD := Lib.hid (show PB (V1.alloc (.cells Tryz.zeroCells29 29)) V1.heap.size (fun _ => 0) from by rw [zeroPosY]; exact PB.new rfl)
            have HDL := Lib.hid (show w.heap.size < V1.heap.size from (Array.getElem?_eq_some_iff.1 HI.out.x).1)
            replace HI := Lib.hid (HI.out.go (below_new (.cells Tryz.zeroCells29 29)))
            replace HR := Lib.hid (sl_go HR.out (below_new (.cells Tryz.zeroCells29 29)))
            generalize V1.alloc (.cells Tryz.zeroCells29 29) = V2 at *
            generalize V1.heap.size = D at *
            refine hK.out _ _ (by exact HI.out) (fun hHeld => ?_)
            clear hK K hHeld
            try simp only [aP, sA, sZ, sS]
            refine og (i := 7) rfl (by kernel_rfl) (fun K hK => ?_)
            go_simp
            refine (MPL.out _ _ _ HI.out HR.out).mono ?_
            rintro e V3 ⟨rfl, hb⟩
            replace HI := Lib.hid (HI.out.go hb)
            replace HD := Lib.hid (HD.out.go hb)
            clear hb HR
            dsimp only
            refine hK.out _ _ (by exact HI.out) (fun hHeld => ?_)
            clear hK K hHeld
            try simp only [aP, sA, sZ, sS]
            refine tq (i := 8) (d := some 17) rfl rfl ?_
            try simp only [aP, sA, sZ, sS]
            refine tq (i := 9) (d := some 26) rfl rfl ?_
            try simp only [aP, sA, sZ, sS]
            refine tq (i := 10) (d := some 27) rfl rfl ?_
            try simp only [aP, sA, sZ, sS]
            refine og (i := 12) rfl (by kernel_rfl) (fun K hK => ?_)
            refine wp_store_mid 29 _ _ rfl D 0 (pc Z).toArray rfl rfl (by rw [pc_size]; exact HD.out.there) (by rw [infoPos, pc_size]) (pc_one _) ?_
            rw [List.toList_toArray]
            have HD2 := Lib.hid (HD.out.store (Q := Z))
            replace HI := Lib.hid (HI.out.st (grs_B (hb := D) (pc Z) 0 V3) HDL.out (fun k hk => (HGX.out k hk).2) (Nat.le_trans HBB.out HBW.out))
            generalize V3.setCells D 0 (pc Z) = V4 at *
            refine hK.out _ _ (by exact HI.out) (fun hHeld => ?_)
            clear hK K hHeld
            try simp only [aP, sA, sZ, sS]
            refine tq (i := 13) (d := some 6) rfl rfl ?_
            try simp only [aP, sA, sZ, sS]
            refine wpAnyH_done (by kernel_rfl) ?_ _
            refine NoPanic.normal ?_
            go_wp2
            go_meet
            exact ⟨D, rfl, rfl, HD2.out, HI.out, HDL.out⟩
        · skip
          go_simp
          have HD := Lib.hid (show PB (V0.alloc (.cells Tryz.zeroCells29 29)) V0.heap.size (fun _ => 0) from by rw [zeroPosY]; exact PB.new rfl)
          have HDL := Lib.hid (show w.heap.size < V0.heap.size from (Array.getElem?_eq_some_iff.1 HI.out.x).1)
          replace HI := Lib.hid (HI.out.go (below_new (.cells Tryz.zeroCells29 29)))
          generalize V0.alloc (.cells Tryz.zeroCells29 29) = V2 at *
          generalize V0.heap.size = D at *
          refine hK.out _ _ (by exact HI.out) (fun hHeld => ?_)
          clear hK K hHeld
          try simp only [aP, sA, sZ, sS]
          refine og (i := 6) rfl (by kernel_rfl) (fun K hK => ?_)
          go_simp
          have HR := Lib.hid (show (V2.alloc (.cells #[.int .i64 s, .int .i64 t, .int .i64 k] 46)).heap[V2.heap.size]? = some (.cells #[.int .i64 s, .int .i64 t, .int .i64 k] 46 (0, 0)) from sl_at rfl)
          replace HI := Lib.hid (HI.out.go (below_new (.cells #[.int .i64 s, .int .i64 t, .int .i64 k] 46)))
          replace HD := Lib.hid (HD.out.go (below_new (.cells #[.int .i64 s, .int .i64 t, .int .i64 k] 46)))
          generalize V2.alloc (.cells #[.int .i64 s, .int .i64 t, .int .i64 k] 46) = V1 at *
          generalize V2.heap.size = R at *
          refine hK.out _ _ (by exact HI.out) (fun hHeld => ?_)
          clear hK K hHeld
          try simp only [aP, sA, sZ, sS]
          refine og (i := 7) rfl (by kernel_rfl) (fun K hK => ?_)
          go_simp
          refine (MPL.out _ _ _ HI.out HR.out).mono ?_
          rintro e V3 ⟨rfl, hb⟩
          replace HI := Lib.hid (HI.out.go hb)
          replace HD := Lib.hid (HD.out.go hb)
          clear hb HR
          dsimp only
          refine hK.out _ _ (by exact HI.out) (fun hHeld => ?_)
          clear hK K hHeld
          try simp only [aP, sA, sZ, sS]
          refine tq (i := 8) (d := some 17) rfl rfl ?_
          try simp only [aP, sA, sZ, sS]
          refine tq (i := 9) (d := some 26) rfl rfl ?_
          try simp only [aP, sA, sZ, sS]
          refine tq (i := 10) (d := some 27) rfl rfl ?_
          try simp only [aP, sA, sZ, sS]
          refine og (i := 12) rfl (by kernel_rfl) (fun K hK => ?_)
          refine wp_store_mid 29 _ _ rfl D 0 (pc Z).toArray rfl rfl (by rw [pc_size]; exact HD.out.there) (by rw [infoPos, pc_size]) (pc_one _) ?_
          rw [List.toList_toArray]
          have HD2 := Lib.hid (HD.out.store (Q := Z))
          replace HI := Lib.hid (HI.out.st (grs_B (hb := D) (pc Z) 0 V3) HDL.out (fun k hk => (HGX.out k hk).2) (Nat.le_trans HBB.out HBW.out))
          generalize V3.setCells D 0 (pc Z) = V4 at *
          refine hK.out _ _ (by exact HI.out) (fun hHeld => ?_)
          clear hK K hHeld
          try simp only [aP, sA, sZ, sS]
          refine tq (i := 13) (d := some 6) rfl rfl ?_
          try simp only [aP, sA, sZ, sS]
          refine wpAnyH_done (by kernel_rfl) ?_ _
          refine NoPanic.normal ?_
          go_wp2
          go_meet
          exact ⟨D, rfl, rfl, HD2.out, HI.out, HDL.out⟩
      case rest =>
      obtain ⟨D, rfl, rfl, h1, h2, h3⟩ := hcut
      have HD := Lib.hid h1
      replace HI := Lib.hid h2
      have HDL := Lib.hid h3
      clear h1 h2 h3
      by_cases hpe : pe = 0
      · subst hpe
        obtain ⟨e1, _, e2⟩ := HEQ.out
        have HE := Lib.hid e1
        obtain ⟨e3, e4⟩ := e2 rfl
        have HPZ := Lib.hid e3
        have HV := Lib.hid e4
        clear e1 e2 e3 e4 HEQ MPL
        have MCM := Lib.hid (fun g' W (h : GW base g' W) (he : EN B W) (h1 : g'.gb = g.gb) (h2 : g'.T = g.T) => gcome_any B base g' Z (right_in (pos_parts Z HPZ.out).1) (by rw [h2]; exact Nat.le_trans HT.out (by omega)) W h he)
        obtain ⟨Xz, hXz⟩ : ∃ X, X = (pc Z).toArray := ⟨_, rfl⟩
        have HXz := Lib.hid hXz
        rw [← hXz] at MCM
        clear hXz
        go_upto_region 8 with (fail)
        refine wp_region_noPanic ?_
        refine wp_region_last (n := 10) (S := (fun W => W.cell? ⟨g.gb, 135, none⟩ = some g.mv ∧ W.heap[w.heap.size]? = some (.cells #[.int .i64 s, .int .i64 t, .int .i64 k] 46 (0, 0)))) 10 (by kernel_rfl) rfl (by kernel_rfl) (by decide) (by exact ⟨(HI.out.go (Below.refl _ _).drew).m.cell.2.2.2.1, (HI.out.go (Below.refl _ _).drew).x⟩) (fun hHeld => ?_)
        replace HI := Lib.hid (HI.out.go (Below.refl _ _).drew)
        replace HD := Lib.hid (HD.out.go (Below.refl _ _).drew)
        generalize World.drew _ = V0 at *
        refine tq (i := 0) (d := some 31) rfl rfl ?_
        try simp only [aP, sA, sZ, sS]
        refine tq (i := 1) (d := some 32) rfl rfl ?_
        try simp only [aP, sA, sZ, sS]
        refine tq (i := 2) (d := some 33) rfl rfl ?_
        try simp only [aP, sA, sZ, sS]
        refine tq (i := 3) (d := some 34) rfl rfl ?_
        try simp only [aP, sA, sZ, sS]
        refine tg (i := 4) (d := some 35) (v := g.mv) rfl rfl ?_ ?_
        · refine Or.inl ⟨by rfl, ?_⟩; intro w' hSw; have e := hSw.1; go_simp
        try simp only [aP, sA, sZ, sS]
        refine tg (i := 5) (d := some 36) (v := (.agg #[.int .i64 s, .int .i64 t, .int .i64 k])) rfl rfl ?_ ?_
        · refine Or.inl ⟨by rfl, ?_⟩; intro w' hSw; obtain ⟨q0, q1, q2, _, _⟩ := row3 hSw.2; go_simp
        try simp only [aP, sA, sZ, sS]
        refine og (i := 6) rfl (by kernel_rfl) (fun K hK => ?_)
        go_simp
        have HR := Lib.hid (show (V0.alloc (.cells #[.int .i64 s, .int .i64 t, .int .i64 k] 46)).heap[V0.heap.size]? = some (.cells #[.int .i64 s, .int .i64 t, .int .i64 k] 46 (0, 0)) from sl_at rfl)
        replace HI := Lib.hid (HI.out.go (below_new (.cells #[.int .i64 s, .int .i64 t, .int .i64 k] 46)))
        replace HD := Lib.hid (HD.out.go (below_new (.cells #[.int .i64 s, .int .i64 t, .int .i64 k] 46)))
        generalize V0.alloc (.cells #[.int .i64 s, .int .i64 t, .int .i64 k] 46) = V1 at *
        generalize V0.heap.size = R at *
        refine hK.out _ _ (by exact ⟨HI.out.m.cell.2.2.2.1, HI.out.x⟩) (fun hHeld => ?_)
        clear hK K hHeld
        try simp only [aP, sA, sZ, sS]
        refine og (i := 7) rfl (by kernel_rfl) (fun K hK => ?_)
        refine wp_append_move _ _ rfl base g.mv g.L s t k R 1 (by first | rfl | exact hmv.symm) HI.out.m.own rfl HR.out (by have := HL8.out; omega) (Nat.le_trans HBW.out HI.out.bl.size) (fun v V2 ho hg hat => ?_)
        obtain ⟨p2, c2, hvs⟩ : ∃ p c, v = .slice p (g.L.length + 1) c := by
          obtain ⟨p, c, h⟩ := own3_shape ho
          exact ⟨p, c, by simpa using h⟩
        have HO := Lib.hid ho
        have HAT := Lib.hid (show v.ownBlock = g.mv.ownBlock ∨ ∀ q, v.ownBlock = some q → w.heap.size ≤ q from hat.elim .inl fun e => .inr fun q hq => by rw [e] at hq; cases hq; exact HI.out.bl.size)
        have HNV := Lib.hid (show v.ownBlock ≠ some g.gb from hat.elim (fun e => by rw [e]; exact HNE.out.2.2.1) fun e => by rw [e]; intro q; have := Option.some.inj q; have := HI.out.m.lt; omega)
        have HG := Lib.hid hg
        replace HI := Lib.hid (HI.out.ap hg HNE.out (fun k hk => (HGX.out k (.inr (.inr (.inr hk)))).2) HBB.out (fun k hk => (HGX.out k (.inr (.inr (.inr hk)))).1))
        have HDQ := Lib.hid (show ∀ q, g.mv.ownBlock = some q → q < w.heap.size from fun q hq => (HGX.out q (.inr (.inr (.inr hq)))).2)
        replace HD := Lib.hid ((Ch.gro (X := fun k => g.mv.ownBlock = some k) hg fun x e => e).pb HD.out (fun e => by have := HDQ.out _ e; have := HDL.out; omega))
        clear ho hg hat HR
        refine hK.out _ _ (by exact ⟨HI.out.cell, HI.out.x⟩) (fun hHeld => ?_)
        clear hK K
        try simp only [aP, sA, sZ, sS]
        refine tq (i := 8) (d := some 39) rfl rfl ?_
        try simp only [aP, sA, sZ, sS]
        refine tq (i := 9) (d := some 40) rfl rfl ?_
        try simp only [aP, sA, sZ, sS]
        have HM := Lib.hid (HI.out.st2 v HO.out HNV.out HNE.out (HGX.out _ (.inl rfl)).1 (HGX.out _ (.inr (.inl rfl))).1 (HGX.out _ (.inr (.inr (.inl rfl)))).1)
        have HD3 := Lib.hid ((Ch.gr (X := fun k => k = g.gb) (gr1_B (hb := g.gb) (i := 135) (w := V2) v) rfl).pb HD.out (fun e => by have := (HGX.out _ (.inl rfl)).2; have := HDL.out; omega))
        have HC2 := Lib.hid (HI.out.c.trans (Ch.gr (X := fun k => k = g.gb) (gr1_B (hb := g.gb) (i := 135) (w := V2) v) rfl) fun _ _ hx => .inl hx)
        have HE2 := Lib.hid (HI.out.e.on ((Ch.gr (X := fun k => k = g.gb) (gr1_B (hb := g.gb) (i := 135) (w := V2) v) rfl).below (Below.refl B V2) HI.out.e.k fun k hk e => by have := (HGX.out _ (.inl rfl)).1; have := HBB.out; omega))
        have HX2 := Lib.hid (show (V2.setCell ⟨g.gb, 135, none⟩ v).cell? ⟨g.gb, 135, none⟩ = some v ∧ (V2.setCell ⟨g.gb, 135, none⟩ v).heap[w.heap.size]? = some (.cells #[.int .i64 s, .int .i64 t, .int .i64 k] 46 (0, 0)) from ⟨HM.out.cell.2.2.2.1, (Ch.gr (X := fun k => k = g.gb) (gr1_B (hb := g.gb) (i := 135) (w := V2) v) rfl).at HI.out.x (fun e => by have := (HGX.out _ (.inl rfl)).2; omega)⟩)
        have HVN := Lib.hid (HV.out v)
        obtain ⟨V3, hV3⟩ : ∃ V3, V2.setCell ⟨g.gb, 135, none⟩ v = V3 := ⟨_, rfl⟩
        rw [hV3] at HM HD3 HC2 HE2 HX2
        subst hvs
        refine wpAnyH_done (by kernel_rfl) ?_ _
        refine behind_go rfl (by rfl) ?_
        have c0 := frozen_of_row V2 g.gb 135 _ _ HI.out.gbc
        have c1 := HI.out.cell
        have c2 : g.gb < V2.heap.size := (Array.getElem?_eq_some_iff.1 HI.out.gbc).1
        go_simp
        subst hV3
        clear c0 c1 c2
        refine NoPanic.normal ?_
        clear hHeld HX2
        go_wp2_with (first | refine wpList_pos (by rfl) _ (by rfl) D Z Xz HXz.out (by rfl) HD3.out ?_ | fail)
        refine (MCM.out _ _ HM.out HE2.out rfl rfl (Nat.le_trans HBW.out HC2.out.size) HBB.out).mono ?_
        rintro e V4 ⟨rfl, hm, hc⟩
        have HF := Lib.hid (show Gmoved base g (g.mvd (s, t, k) _) w V4 from ⟨by rw [HVN.out]; exact hm, HC2.out.trans hc (fun q _ hq => hq.elim .inl fun e => .inr (e.elim .inl fun e => .inr (.inl e))), by rw [HVN.out]; exact HAT.out⟩)
        clear hm hc MCM HM HE2 HC2
        dsimp only
        refine list_go (by assumption) ?_
        go_wp2
        go_ret
        exact ⟨_, q_i HE.out.symm, HF.out⟩
      · obtain ⟨e1, e2, _⟩ := HEQ.out
        have e0 : (pe != 0) = true := bne_iff_ne.2 hpe
        have HE := Lib.hid e1
        have HV := Lib.hid (e2 hpe)
        clear e1 e2 HEQ hpe MPL
        go_wp2
        go_ret
        exact ⟨g.mv, q_i HE.out.symm, by rw [HV.out]; exact HS.out _ HI.out.bl⟩
  · rw [show (g.r != 0) = true from bne_iff_ne.2 h0] at MO
    rw [if_neg h0] at HER
    have HV := Lib.hid (show g.mvd (s, t, k) g.mv = g by rw [HMV.out, HER.out]; rfl)
    clear HMV h he h0
    go_enter Tryz.func48, Tryz.ntmps48
    go_upto_region 1 with (fail)
    generalize w.alloc (.cells #[.int .i64 s, .int .i64 t, .int .i64 k] 46) = W0 at *
    go_wp2_with fail
    refine (MO.out _ HI.out.m).mono ?_
    rintro e w1 ⟨rfl, rfl⟩
    dsimp only
    refine list_go (by assumption) ?_
    go_wp2
    go_ret
    exact ⟨g.mv, q_i HER.out.symm, by rw [HV.out]; exact HS.out _ HI.out.bl⟩
end Go.Proofs.YtkncfeijlmomaaaGreatDoor
