/-
  Merged: Rs, Rw, Rx, Rt, Ru, Rv, Ry.
-/
import Derived.Test.YtcdnakbdajbfoaaGreatDoorM1
import Derived.Test.YtcdnakbdajbfoaaGreatDoorG27
import Derived.Test.YtcdnakbdajbfoaaGreatDoorG25
import Derived.Test.YtcdnakbdajbfoaaGreatDoorG23
import Derived.Test.YtcdnakbdajbfoaaGreatDoorG1
import Derived.Test.YtcdnakbdajbfoaaGreatDoorG21

namespace Go.Proofs.YtcdnakbdajbfoaaGreatDoor
open Go.RowKit Go.Sort
set_option linter.unusedSimpArgs false
set_option linter.unusedVariables false
set_option maxRecDepth 20000

def legB (P : Nat → Int) (f t k : Int) : Bool := (legM P).contains (f, t, k)
theorem legB_iff (P : Nat → Int) (f t k : Int) : legB P f t k = true ↔ (f, t, k) ∈ legM P := List.contains_iff_mem
def advN (P : Nat → Int) (F T K : Nat → Int) : Nat → Option (Nat → Int)
  | 0 => some P
  | i + 1 => match advN P F T K i with
    | some Q => if legB Q (F i) (T i) (K i) then some (nxP Q (F i).toNat (T i).toNat (K i)) else none
    | none => none
theorem adv_go {P : Nat → Int} {F T K : Nat → Int} {i : Nat} {Q : Nat → Int} (h : advN P F T K i = some Q) (hl : legB Q (F i) (T i) (K i) = true) : advN P F T K (i + 1) = some (nxP Q (F i).toNat (T i).toNat (K i)) := by
  unfold advN; rw [h]; simp only; rw [if_pos hl]
theorem adv_end {P : Nat → Int} {F T K : Nat → Int} {i : Nat} {Q : Nat → Int} (h : advN P F T K i = some Q) (hl : legB Q (F i) (T i) (K i) = false) : advN P F T K (i + 1) = none := by
  unfold advN; rw [h]; simp only; rw [hl]; rfl
theorem adv_none {P : Nat → Int} {F T K : Nat → Int} {i n : Nat} (h : advN P F T K i = none) (hi : i ≤ n) : advN P F T K n = none := by
  induction n with
  | zero => obtain rfl : i = 0 := by omega
            exact h
  | succ n ih =>
    by_cases e : i = n + 1
    · subst e; exact h
    · unfold advN; rw [ih (by omega)]
theorem any_is (l : List (Int × Int × Int)) (f t k : Int) : anyM (mF l) (mT l) (mK l) f t k l.length = l.contains (f, t, k) := by
  rw [Bool.eq_iff_iff, List.contains_iff_mem]
  unfold anyM
  rw [List.any_eq_true]
  have hg : ∀ i (hi : i < l.length), l.getD i (0, 0, 0) = l[i] := fun i hi => by rw [List.getD_eq_getElem?_getD, List.getElem?_eq_getElem hi]; rfl
  constructor
  · rintro ⟨i, hi, h⟩
    have hi := List.mem_range.1 hi
    unfold isM mF mT mK at h
    rw [hg i hi] at h
    simp only [Bool.and_eq_true, beq_iff_eq] at h
    obtain ⟨⟨h1, h2⟩, h3⟩ := h
    rw [h1, h2, h3]
    exact List.getElem_mem hi
  · intro h
    obtain ⟨i, hi, e⟩ := List.getElem_of_mem h
    refine ⟨i, List.mem_range.2 hi, ?_⟩
    unfold isM mF mT mK
    rw [hg i hi, e]
    simp
theorem leg_nx (P : Nat → Int) (hp : posB P = true) (f t k : Int) (h : legB P f t k = true) : ∃ s n : Nat, f = (s : Int) ∧ t = (n : Int) ∧ LgOk P ((s : Int), (n : Int), k) s n := by
  obtain ⟨s, n, hg⟩ := leg_ok P hp _ ((legB_iff P f t k).1 h)
  have h1 := hg.x.mv.f
  have h2 := hg.x.mv.t
  simp only at h1 h2
  subst h1; subst h2
  exact ⟨s, n, rfl, rfl, hg⟩
end Go.Proofs.YtcdnakbdajbfoaaGreatDoor

namespace Go.Proofs.YtcdnakbdajbfoaaGreatDoor
open Go.RowKit Go.Sort
set_option linter.unusedSimpArgs false
set_option linter.unusedVariables false
set_option maxRecDepth 20000

def R3b (b : Nat) (w : World) (p : Option Addr) (n : Nat) (F T K : Nat → Int) : Prop :=
  n = 0 ∨ ∃ rb off, p = some ⟨rb, off, none⟩ ∧ rb < w.heap.size ∧ rb ≠ b ∧ ∀ i, i < n → w.cell? ⟨rb, off + i * 3, none⟩ = some (.int .i64 (F i)) ∧ w.cell? ⟨rb, off + i * 3 + 1, none⟩ = some (.int .i64 (T i)) ∧ w.cell? ⟨rb, off + i * 3 + 2, none⟩ = some (.int .i64 (K i))
theorem R3b.gr {b : Nat} {w W : World} {p : Option Addr} {n : Nat} {F T K : Nat → Int} (h : R3b b w p n F T K) (g : w.grownBy W (some b)) : Reads3 W.heap.size W p n F T K := by
  rcases h with h | ⟨rb, off, h1, h2, h3, h4⟩
  · exact .inl h
  · have e := g.block rb h2 (by intro e; cases e; exact h3 rfl)
    refine .inr ⟨rb, off, h1, Nat.lt_of_lt_of_le h2 g.size, fun i hi => ?_⟩
    obtain ⟨x, y, z⟩ := h4 i hi
    exact ⟨by rw [World.cell?_of_block (a := ⟨rb, off + i * 3, none⟩) e]; exact x, by rw [World.cell?_of_block (a := ⟨rb, off + i * 3 + 1, none⟩) e]; exact y, by rw [World.cell?_of_block (a := ⟨rb, off + i * 3 + 2, none⟩) e]; exact z⟩
theorem R3b.of {B b : Nat} {w : World} {p : Option Addr} {n : Nat} {F T K : Nat → Int} (h : Reads3 B w p n F T K) (hB : B ≤ b) (hw : b < w.heap.size) : R3b b w p n F T K := by
  rcases h with h | ⟨rb, off, h1, h2, h3⟩
  · exact .inl h
  · exact .inr ⟨rb, off, h1, by omega, by omega, h3⟩
structure AV (B b : Nat) (Q : Nat → Int) (w W : World) : Prop where
  h : HG w W b Q
  gb : GB B W
  gs : GS B W
  gm : GM B W
  gp : GP B W
  k : B ≤ b
theorem AV.s {B b : Nat} {Q : Nat → Int} {w W : World} (h : AV B b Q w W) : B ≤ W.heap.size := Nat.le_of_lt (Nat.lt_of_le_of_lt h.k h.h.q.lt)
theorem AV.go {B b : Nat} {Q : Nat → Int} {w W W' : World} (h : AV B b Q w W) (g : Below W.heap.size W W') : AV B b Q w W' :=
  ⟨h.h.go g, h.gb.below (g.mono h.s), h.gs.below (g.mono h.s), h.gm.below (g.mono h.s), h.gp.below (g.mono h.s), h.k⟩
theorem AV.q {B b : Nat} {Q : Nat → Int} {w W : World} (h : AV B b Q w W) : JQ B b Q W W := JQ.begin h.h.q h.gb h.gs h.gm h.gp h.s
theorem AV.store {B b : Nat} {Q : Nat → Int} {w W : World} (h : AV B b Q w W) (Q' : Nat → Int) : AV B b Q' w (W.setCells b 0 (pc Q')) := by
  have hb : Below B W (W.setCells b 0 (pc Q')) := below_store (b := b) Q' (Below.refl _ _) h.k h.s
  exact ⟨⟨h.h.q.store, h.h.g.trans (grs_B _ 0 W)⟩, h.gb.below hb, h.gs.below hb, h.gm.below hb, h.gp.below hb, h.k⟩
theorem AV.begin {B b : Nat} {Q : Nat → Int} {w : World} (h : JQ B b Q w w) (hb : B ≤ b) : AV B b Q w w := ⟨HG.begin h.p, h.gb, h.gs, h.gm, h.gp, hb⟩
end Go.Proofs.YtcdnakbdajbfoaaGreatDoor

namespace Go.Proofs.YtcdnakbdajbfoaaGreatDoor
open Go.RowKit Go.Sort
set_option linter.unusedSimpArgs false
set_option linter.unusedVariables false
set_option maxRecDepth 20000

def plP (P : Nat → Int) (F T K : Nat → Int) (n : Nat) : Nat → Int := if posB P then (advN P F T K n).getD (fun _ => 0) else fun _ => 0
def plE (P : Nat → Int) (F T K : Nat → Int) (n : Nat) : Int := if posB P then (if (advN P F T K n).isSome then 0 else 8) else 2
theorem HO.on {w W W' : World} {P : Nat → Int} (h : HO w W P) (g : Below W.heap.size W W') : HO w W' P := ⟨h.p.go g, h.z.go g, h.b.trans (g.mono h.b.size)⟩
theorem HO.turn {w W W' : World} {P : Nat → Int} {H : Nat} (h : HO w W P) (g : W.grownBy W' (some H)) (hH : w.heap.size + 2 ≤ H) : HO w W' P :=
  ⟨h.p.gr g (by intro e; cases e; omega), h.z.gr g (by intro e; cases e; omega), h.b.grown g h.b.size (fun b e => by cases e; omega)⟩
theorem HO.stored {w W : World} {P Q : Nat → Int} (h : HO w W P) : (W.setCells (w.heap.size + 1) 0 (pc Q)).rangeAt (w.heap.size + 1) 0 (pc Q) ∧ Below w.heap.size w (W.setCells (w.heap.size + 1) 0 (pc Q)) :=
  ⟨(h.z.store (Q := Q)).range, below_store (b := w.heap.size + 1) Q h.b (by omega) h.b.size⟩
theorem HO.begin10 (w : World) (P : Nat → Int) (X : Array Value) (hX : X = (pc P).toArray) : HO w ((w.alloc (.cells X 30)).alloc (.cells Tryz.zeroCells30 30)) P := by
  refine ⟨(pos_box P w X hX _).alloc _, ?_, (below_new _).alloc (by simp) _⟩
  rw [zeroPos]
  exact PB.new (by simp)
end Go.Proofs.YtcdnakbdajbfoaaGreatDoor

namespace Go.Proofs.YtcdnakbdajbfoaaGreatDoor
open Go.RowKit Go.Sort
set_option linter.unusedSimpArgs false
set_option linter.unusedVariables false
set_option maxRecDepth 20000

set_option maxHeartbeats 8000000 in
set_option maxRecDepth 100000 in
theorem rFine_any (P : Nat → Int) (s n : Nat) (k : Int) (hs : s < 64) (hn : n < 64) (w : World) :
    Calls Tryz.prog 47 #[.agg (pc P).toArray, .agg #[.int .i64 (s : Int), .int .i64 (n : Int), .int .i64 k]] w fun e w' => e = .returned (.bool (fineB P s n k)) ∧ Below w.heap.size w w' := by
  obtain ⟨X, hX⟩ : ∃ X, X = (pc P).toArray := ⟨_, rfl⟩
  have HC := Lib.hid (MC.begin w P (s : Int) (n : Int) k X hX)
  have MV := Lib.hid (fun W => rMove_any P (s : Int) (n : Int) k W)
  have MCS := Lib.hid (fun W => rCst10_any P s n k hs hn W)
  obtain ⟨sd, hsd⟩ : ∃ x, P 128 = x := ⟨_, rfl⟩
  obtain ⟨q, hq⟩ : ∃ q, mvP P (s : Int) (n : Int) k = q := ⟨_, rfl⟩
  obtain ⟨er, her⟩ : ∃ x, fltN (handP P) (s : Int) (n : Int) k = x := ⟨_, rfl⟩
  obtain ⟨Y, hY⟩ : ∃ Y, Y = (pc q).toArray := ⟨_, rfl⟩
  obtain ⟨cv, hcv⟩ : ∃ x, cstM P s n = x := ⟨_, rfl⟩
  obtain ⟨c1, hc1⟩ : ∃ x, chkB q sd = x := ⟨_, rfl⟩
  obtain ⟨c2, hc2⟩ : ∃ x, chkB P sd = x := ⟨_, rfl⟩
  obtain ⟨bt, hbt⟩ : ∃ x, ((s : Int) + (n : Int)) / 2 = x := ⟨_, rfl⟩
  obtain ⟨iv, hiv⟩ : ∃ x, isAt P (oth sd) (fun _ => bt) 1 = x := ⟨_, rfl⟩
  have HV := Lib.hid (show fineB P s n k = ((er == 0) && !c1 && (!cv || (!c2 && !iv))) by unfold fineB; rw [her, hq, hsd, hc1, hcv, hc2, hbt, hiv])
  have CK1 := Lib.hid (fun W => rChk_any q sd W)
  have CK2 := Lib.hid (fun W => rChk_any P sd W)
  have CIS := Lib.hid (fun W B p c hr hB => rIs_any B P (oth sd) p 1 c (fun _ => bt) W (by omega) hr hB)
  rw [hc1, ← hY] at CK1
  rw [hc2, ← hX] at CK2
  rw [hiv, ← hX] at CIS
  rw [hcv, ← hX] at MCS
  rw [hq, her, ← hX, ← hY] at MV
  rw [← hX]
  have HX := Lib.hid hX
  have HY := Lib.hid hY
  have HSD := Lib.hid hsd
  have hw1 : IntKind.i64.wrap ((s : Int) + (n : Int)) = (s : Int) + (n : Int) := IntWalk.i64_in _ (by omega)
  have hd1 : ((s : Int) + (n : Int)).tdiv 2 = bt := by rw [Int.tdiv_eq_ediv_of_nonneg (by omega)]; exact hbt
  have hw2 : IntKind.i64.wrap bt = bt := IntWalk.i64_in _ (by omega)
  clear hX hY hq her hcv hc1 hc2 hbt hiv hsd hs hn
  go_enter Tryz.func47, Tryz.ntmps47
  go_upto_region 1 with (fail)
  generalize (w.alloc (.cells X 30)).alloc (.cells #[.int .i64 (s : Int), .int .i64 (n : Int), .int .i64 k] 52) = W at *
  obtain ⟨m0, m1, m2, mf, mz⟩ := row3 HC.out.m
  go_wp2_with (refine wpList_pos (by rfl) _ (by rfl) w.heap.size P X HX.out (by rfl) HC.out.p ?_)
  refine (MV.out _).mono ?_
  rintro e w1 ⟨rfl, hb⟩
  replace HC := Lib.hid (HC.out.go hb)
  clear hb m0 m1 m2 mf mz MV
  dsimp only
  refine list_go (by assumption) ?_
  iterate 3
    refine wpList_plain rfl (fun K hK => ?_)
    go_simp
    refine hK _ _ ?_
    clear hK K
  refine wpList_new Y q HY.out (by rfl) (by rfl) (fun W2 hp hb hsz => ?_)
  replace HC := Lib.hid (HC.out.go hb)
  have HQ := Lib.hid hp
  clear hp hb hsz
  generalize w1.heap.size = H at *
  have e1 := HC.out.p.cell 128 (by omega)
  rw [HSD.out] at e1
  go_upto_region 2 with (fail)
  by_cases h0 : er = 0
  case neg =>
    have h0b : (er != 0) = true := by simp [h0]
    have h0c : (er == 0) = false := by simp [h0]
    clear h0
    go_wp2_with fail
    go_ret
    exact ⟨q_b (by rw [HV.out, h0c]; rfl), HC.out.b⟩
  subst h0
  go_wp2_with (refine wpList_pos (by rfl) _ (by rfl) H q Y HY.out (by rfl) HQ.out ?_)
  refine (CK1.out _).mono ?_
  rintro e w3 ⟨rfl, hb⟩
  replace HC := Lib.hid (HC.out.go hb)
  clear hb CK1 HQ e1
  dsimp only
  refine list_go (by assumption) ?_
  cases c1
  case true =>
    go_wp2_with fail
    go_ret
    exact ⟨q_b (by rw [HV.out]; rfl), HC.out.b⟩
  obtain ⟨m0, m1, m2, mf, mz⟩ := row3 HC.out.m
  go_wp2_with (refine wpList_pos (by rfl) _ (by rfl) w.heap.size P X HX.out (by rfl) HC.out.p ?_)
  refine (MCS.out _).mono ?_
  rintro e w4 ⟨rfl, hb⟩
  replace HC := Lib.hid (HC.out.go hb)
  clear hb MCS m0 m1 m2 mf mz
  dsimp only
  refine list_go (by assumption) ?_
  cases cv
  case false =>
    go_wp2_with fail
    go_ret
    exact ⟨q_b (by rw [HV.out]; rfl), HC.out.b⟩
  go_upto_region 6 with (fail)
  refine forget_B (fun W => MC w W P (s : Int) (n : Int) k) HC.out ?_
  clear HC
  intro W5 h5
  have HC := Lib.hid h5
  clear h5
  cases c2
  case true =>
    refine wp_region_noPanic ?_
    refine wp_region_start (n := 21) (l := #[ff, ff, ff, ff, ff, ff, ff, ff, ff, ff, ff, ff, ff, ff, ff, ff, ff, ff, ff, ff, ff]) (S := (fun W => MC w W P (s : Int) (n : Int) k)) (by kernel_rfl) rfl (by kernel_rfl) (by first | exact HC.out | exact HC.out.go (Below.refl _ _).drew) (fun hHeld => ?_)
    replace HC := Lib.hid (HC.out.go (Below.refl W5.heap.size W5).drew)
    generalize W5.drew = V at *
    refine tg (i := 0) (d := some 25) (v := (.agg X)) rfl rfl ?_ ?_
    · exact yields_posC (by rfl) _ (by rfl) w.heap.size P X HX.out (by rfl) (fun W h => h.p)
    try simp only [aP, sA, sZ, sS]
    refine tq (i := 1) (d := some 26) rfl rfl ?_
    try simp only [aP, sA, sZ, sS]
    refine tg (i := 2) (d := some 27) (v := (.int .i64 sd)) rfl rfl ?_ ?_
    · refine Or.inl ⟨by rfl, ?_⟩; intro w' hSw; (try dsimp only at hSw); have e1 := hSw.p.cell 128 (by omega); rw [HSD.out] at e1; go_simp
    try simp only [aP, sA, sZ, sS]
    refine og (i := 3) rfl (by kernel_rfl) (fun K hK => ?_)
    go_simp
    refine (CK2.out _).mono ?_
    rintro e V ⟨rfl, hb⟩
    replace HC := Lib.hid (HC.out.go hb)
    try replace HRW := Lib.hid (HRW.out.below hb)
    clear hb
    dsimp only
    refine hK.out _ _ (by first | exact HC.out | exact HC.out.go (Below.refl _ _).drew) (fun hHeld => ?_)
    clear hK K
    try simp only [aP, sA, sZ, sS]
    refine tq (i := 4) (d := some 29) rfl rfl ?_
    try simp only [aP, sA, sZ, sS]
    refine tq (i := 5) (d := some 30) rfl rfl ?_
    try simp only [aP, sA, sZ, sS]
    refine tg (i := 6) (d := some 31) (v := undef) rfl rfl (Or.inr ⟨by rfl, rfl⟩) ?_
    try simp only [aP, sA, sZ, sS]
    refine tg (i := 7) (d := some 32) (v := undef) rfl rfl (Or.inr ⟨by rfl, rfl⟩) ?_
    try simp only [aP, sA, sZ, sS]
    refine tg (i := 8) (d := some 33) (v := undef) rfl rfl (Or.inr ⟨by rfl, rfl⟩) ?_
    try simp only [aP, sA, sZ, sS]
    refine tg (i := 10) (d := some 35) (v := undef) rfl rfl (Or.inr ⟨by rfl, rfl⟩) ?_
    try simp only [aP, sA, sZ, sS]
    refine tg (i := 11) (d := some 36) (v := undef) rfl rfl (Or.inr ⟨by rfl, rfl⟩) ?_
    try simp only [aP, sA, sZ, sS]
    refine tg (i := 12) (d := some 37) (v := undef) rfl rfl (Or.inr ⟨by rfl, rfl⟩) ?_
    try simp only [aP, sA, sZ, sS]
    refine tg (i := 13) (d := some 38) (v := undef) rfl rfl (Or.inr ⟨by rfl, rfl⟩) ?_
    try simp only [aP, sA, sZ, sS]
    refine tg (i := 14) (d := some 39) (v := undef) rfl rfl (Or.inr ⟨by rfl, rfl⟩) ?_
    try simp only [aP, sA, sZ, sS]
    refine tg (i := 15) (d := some 40) (v := undef) rfl rfl (Or.inr ⟨by rfl, rfl⟩) ?_
    try simp only [aP, sA, sZ, sS]
    refine wg (i := 9) (j := 16) rfl rfl (by kernel_rfl) (fun K hK => ?_) (fun K hK => ?_)
    · skip
      go_simp
      refine hK.out _ _ (by first | exact HC.out | exact HC.out.go (Below.refl _ _).drew) (fun hHeld => ?_)
      clear hK K
      try simp only [aP, sA, sZ, sS]
      refine og (i := 16) rfl (by kernel_rfl) (fun K hK => ?_)
      go_simp
      refine hK.out _ _ (by first | exact HC.out | exact HC.out.go (Below.refl _ _).drew) (fun hHeld => ?_)
      clear hK K
      try simp only [aP, sA, sZ, sS]
      refine og (i := 17) rfl (by kernel_rfl) (fun K hK => ?_)
      go_simp
      refine hK.out _ _ (by first | exact HC.out | exact HC.out.go (Below.refl _ _).drew) (fun hHeld => ?_)
      clear hK K
      try simp only [aP, sA, sZ, sS]
      refine tg (i := 18) (d := some 43) (v := undef) rfl rfl (Or.inr ⟨by rfl, rfl⟩) ?_
      try simp only [aP, sA, sZ, sS]
      refine tq (i := 19) (d := some 44) rfl rfl ?_
      try simp only [aP, sA, sZ, sS]
      refine tq (i := 20) (d := some 4) rfl rfl ?_
      try simp only [aP, sA, sZ, sS]
      refine wpAnyH_done (by kernel_rfl) ?_ _
      refine NoPanic.normal ?_
      clear hHeld
      go_wp2_with fail
      go_ret
      exact ⟨q_b (by rw [HV.out]; try simp), HC.out.b⟩
    · skip
      go_simp
      refine hK.out _ _ (by first | exact HC.out | exact HC.out.go (Below.refl _ _).drew) (fun hHeld => ?_)
      clear hK K
      try simp only [aP, sA, sZ, sS]
      refine og (i := 9) rfl (by kernel_rfl) (fun K hK => ?_)
      go_simp
      refine hK.out _ _ (by first | exact HC.out | exact HC.out.go (Below.refl _ _).drew) (fun hHeld => ?_)
      clear hK K
      try simp only [aP, sA, sZ, sS]
      refine og (i := 17) rfl (by kernel_rfl) (fun K hK => ?_)
      go_simp
      refine hK.out _ _ (by first | exact HC.out | exact HC.out.go (Below.refl _ _).drew) (fun hHeld => ?_)
      clear hK K
      try simp only [aP, sA, sZ, sS]
      refine tg (i := 18) (d := some 43) (v := undef) rfl rfl (Or.inr ⟨by rfl, rfl⟩) ?_
      try simp only [aP, sA, sZ, sS]
      refine tq (i := 19) (d := some 44) rfl rfl ?_
      try simp only [aP, sA, sZ, sS]
      refine tq (i := 20) (d := some 4) rfl rfl ?_
      try simp only [aP, sA, sZ, sS]
      refine wpAnyH_done (by kernel_rfl) ?_ _
      refine NoPanic.normal ?_
      clear hHeld
      go_wp2_with fail
      go_ret
      exact ⟨q_b (by rw [HV.out]; try simp), HC.out.b⟩
  refine wp_region_noPanic ?_
  refine wp_region_start (n := 21) (l := #[ff, ff, ff, ff, ff, ff, ff, ff, ff, ff, ff, ff, ff, ff, ff, ff, ff, ff, ff, ff, ff]) (S := (fun W => MC w W P (s : Int) (n : Int) k)) (by kernel_rfl) rfl (by kernel_rfl) (by first | exact HC.out | exact HC.out.go (Below.refl _ _).drew) (fun hHeld => ?_)
  replace HC := Lib.hid (HC.out.go (Below.refl W5.heap.size W5).drew)
  generalize W5.drew = V at *
  refine tg (i := 0) (d := some 25) (v := (.agg X)) rfl rfl ?_ ?_
  · exact yields_posC (by rfl) _ (by rfl) w.heap.size P X HX.out (by rfl) (fun W h => h.p)
  try simp only [aP, sA, sZ, sS]
  refine tq (i := 1) (d := some 26) rfl rfl ?_
  try simp only [aP, sA, sZ, sS]
  refine tg (i := 2) (d := some 27) (v := (.int .i64 sd)) rfl rfl ?_ ?_
  · refine Or.inl ⟨by rfl, ?_⟩; intro w' hSw; (try dsimp only at hSw); have e1 := hSw.p.cell 128 (by omega); rw [HSD.out] at e1; go_simp
  try simp only [aP, sA, sZ, sS]
  refine og (i := 3) rfl (by kernel_rfl) (fun K hK => ?_)
  go_simp
  refine (CK2.out _).mono ?_
  rintro e V ⟨rfl, hb⟩
  replace HC := Lib.hid (HC.out.go hb)
  try replace HRW := Lib.hid (HRW.out.below hb)
  clear hb
  dsimp only
  refine hK.out _ _ (by first | exact HC.out | exact HC.out.go (Below.refl _ _).drew) (fun hHeld => ?_)
  clear hK K
  try simp only [aP, sA, sZ, sS]
  refine tq (i := 4) (d := some 29) rfl rfl ?_
  try simp only [aP, sA, sZ, sS]
  refine tq (i := 5) (d := some 30) rfl rfl ?_
  try simp only [aP, sA, sZ, sS]
  refine tg (i := 6) (d := some 31) (v := (.agg X)) rfl rfl ?_ ?_
  · exact yields_posC (by rfl) _ (by rfl) w.heap.size P X HX.out (by rfl) (fun W h => h.p)
  try simp only [aP, sA, sZ, sS]
  refine tq (i := 7) (d := some 32) rfl rfl ?_
  try simp only [aP, sA, sZ, sS]
  refine tg (i := 8) (d := some 33) (v := (.int .i64 sd)) rfl rfl ?_ ?_
  · refine Or.inl ⟨by rfl, ?_⟩; intro w' hSw; (try dsimp only at hSw); have e1 := hSw.p.cell 128 (by omega); rw [HSD.out] at e1; go_simp
  try simp only [aP, sA, sZ, sS]
  refine tq (i := 10) (d := some 35) rfl rfl ?_
  try simp only [aP, sA, sZ, sS]
  refine tg (i := 11) (d := some 36) (v := (.int .i64 (s : Int))) rfl rfl ?_ ?_
  · refine Or.inl ⟨by rfl, ?_⟩; intro w' hSw; (try dsimp only at hSw); obtain ⟨m0, m1, m2, mf, mz⟩ := row3 hSw.m; go_simp
  try simp only [aP, sA, sZ, sS]
  refine tq (i := 12) (d := some 37) rfl rfl ?_
  try simp only [aP, sA, sZ, sS]
  refine tg (i := 13) (d := some 38) (v := (.int .i64 (n : Int))) rfl rfl ?_ ?_
  · refine Or.inl ⟨by rfl, ?_⟩; intro w' hSw; (try dsimp only at hSw); obtain ⟨m0, m1, m2, mf, mz⟩ := row3 hSw.m; go_simp
  try simp only [aP, sA, sZ, sS]
  refine tq (i := 14) (d := some 39) rfl rfl ?_
  try simp only [aP, sA, sZ, sS]
  refine tq (i := 15) (d := some 40) rfl rfl ?_
  try simp only [aP, sA, sZ, sS]
  refine wg (i := 9) (j := 16) rfl rfl (by kernel_rfl) (fun K hK => ?_) (fun K hK => ?_)
  · skip
    go_simp
    refine (rOther_any sd _).mono ?_
    rintro e V ⟨rfl, rfl⟩
    dsimp only
    refine hK.out _ _ (by first | exact HC.out | exact HC.out.go (Below.refl _ _).drew) (fun hHeld => ?_)
    clear hK K
    try simp only [aP, sA, sZ, sS]
    refine og (i := 16) rfl (by kernel_rfl) (fun K hK => ?_)
    go_simp
    have hb : Below V.heap.size V (V.alloc (.cells #[.int .i64 bt] 3)) := below_new _
    have HRW := Lib.hid (show Reads (V.alloc (.cells #[.int .i64 bt] 3)).heap.size (V.alloc (.cells #[.int .i64 bt] 3)) (some ⟨V.heap.size, 0, none⟩) 1 (fun _ => .int .i64 bt) from one_reads _ _)
    replace HC := Lib.hid (HC.out.go hb)
    clear hb
    generalize V.alloc (.cells #[.int .i64 bt] 3) = V at *
    refine hK.out _ _ (by first | exact HC.out | exact HC.out.go (Below.refl _ _).drew) (fun hHeld => ?_)
    clear hK K
    try simp only [aP, sA, sZ, sS]
    refine og (i := 17) rfl (by kernel_rfl) (fun K hK => ?_)
    go_simp
    refine (CIS.out _ _ _ _ HRW.out (Nat.le_refl _)).mono ?_
    rintro e V ⟨rfl, hb⟩
    replace HC := Lib.hid (HC.out.go hb)
    try replace HRW := Lib.hid (HRW.out.below hb)
    clear hb
    dsimp only
    refine hK.out _ _ (by first | exact HC.out | exact HC.out.go (Below.refl _ _).drew) (fun hHeld => ?_)
    clear hK K
    try simp only [aP, sA, sZ, sS]
    refine tq (i := 18) (d := some 43) rfl rfl ?_
    try simp only [aP, sA, sZ, sS]
    refine tq (i := 19) (d := some 44) rfl rfl ?_
    try simp only [aP, sA, sZ, sS]
    refine tq (i := 20) (d := some 4) rfl rfl ?_
    try simp only [aP, sA, sZ, sS]
    refine wpAnyH_done (by kernel_rfl) ?_ _
    refine NoPanic.normal ?_
    clear hHeld
    go_wp2_with fail
    go_ret
    exact ⟨q_b (by rw [HV.out]; try simp), HC.out.b⟩
  · skip
    go_simp
    have hb : Below V.heap.size V (V.alloc (.cells #[.int .i64 bt] 3)) := below_new _
    have HRW := Lib.hid (show Reads (V.alloc (.cells #[.int .i64 bt] 3)).heap.size (V.alloc (.cells #[.int .i64 bt] 3)) (some ⟨V.heap.size, 0, none⟩) 1 (fun _ => .int .i64 bt) from one_reads _ _)
    replace HC := Lib.hid (HC.out.go hb)
    clear hb
    generalize V.alloc (.cells #[.int .i64 bt] 3) = V at *
    refine hK.out _ _ (by first | exact HC.out | exact HC.out.go (Below.refl _ _).drew) (fun hHeld => ?_)
    clear hK K
    try simp only [aP, sA, sZ, sS]
    refine og (i := 9) rfl (by kernel_rfl) (fun K hK => ?_)
    go_simp
    refine (rOther_any sd _).mono ?_
    rintro e V ⟨rfl, rfl⟩
    dsimp only
    refine hK.out _ _ (by first | exact HC.out | exact HC.out.go (Below.refl _ _).drew) (fun hHeld => ?_)
    clear hK K
    try simp only [aP, sA, sZ, sS]
    refine og (i := 17) rfl (by kernel_rfl) (fun K hK => ?_)
    go_simp
    refine (CIS.out _ _ _ _ HRW.out (Nat.le_refl _)).mono ?_
    rintro e V ⟨rfl, hb⟩
    replace HC := Lib.hid (HC.out.go hb)
    try replace HRW := Lib.hid (HRW.out.below hb)
    clear hb
    dsimp only
    refine hK.out _ _ (by first | exact HC.out | exact HC.out.go (Below.refl _ _).drew) (fun hHeld => ?_)
    clear hK K
    try simp only [aP, sA, sZ, sS]
    refine tq (i := 18) (d := some 43) rfl rfl ?_
    try simp only [aP, sA, sZ, sS]
    refine tq (i := 19) (d := some 44) rfl rfl ?_
    try simp only [aP, sA, sZ, sS]
    refine tq (i := 20) (d := some 4) rfl rfl ?_
    try simp only [aP, sA, sZ, sS]
    refine wpAnyH_done (by kernel_rfl) ?_ _
    refine NoPanic.normal ?_
    clear hHeld
    go_wp2_with fail
    go_ret
    exact ⟨q_b (by rw [HV.out]; try simp), HC.out.b⟩
end Go.Proofs.YtcdnakbdajbfoaaGreatDoor

namespace Go.Proofs.YtcdnakbdajbfoaaGreatDoor
open Go.RowKit Go.Sort
set_option linter.unusedSimpArgs false
set_option linter.unusedVariables false
set_option maxRecDepth 20000

set_option maxHeartbeats 8000000 in
set_option maxRecDepth 100000 in
theorem rMoves10_any (P : Nat → Int) (w : World) :
    Calls Tryz.prog 31 #[.agg (pc P).toArray] w fun e w' => ∃ v, e = .returned v ∧ Below w.heap.size w w' ∧ w'.ownsRow w.heap.size 52 3 v (lmM P).length (mvals (lmM P)) := by
  obtain ⟨i1, hi1, hk⟩ := infoMv9
  simp only [Prod.mk.injEq] at hk
  obtain ⟨hk0, hk1, hk2⟩ := hk
  obtain ⟨X, hX⟩ : ∃ X, X = (pc P).toArray := ⟨_, rfl⟩
  have MP := Lib.hid (fun W => rPosition_any P W)
  have MA := Lib.hid (fun W => rAll9_any P W)
  have MF := Lib.hid (fun s n k hs hn W => rFine_any P s n k hs hn W)
  rw [← hX] at MP MA MF ⊢
  have HX := Lib.hid hX
  have HP := Lib.hid (pos_box P w X hX 30)
  have HB := Lib.hid (below_new (w := w) (.cells X 30))
  obtain ⟨ps, hps⟩ : ∃ x, posB P = x := ⟨_, rfl⟩
  rw [hps] at MP
  have HL := Lib.hid (show lmM P = if ps then legM P else [] by unfold lmM; rw [hps])
  have HRT := Lib.hid (show ps = true → rightB P = true from fun h => (pos_parts P (by rw [hps, h])).1)
  have HSTEP := Lib.hid (legU_step P)
  have HFULL := Lib.hid (legU_full P)
  have HMEM := Lib.hid (allM_mem P)
  clear hX hps
  go_enter Tryz.func31, Tryz.ntmps31
  go_upto_region 1 with (fail)
  generalize w.alloc (.cells X 30) = W at *
  go_wp2_with (refine wpList_pos (by rfl) _ (by rfl) w.heap.size P X HX.out (by rfl) HP.out ?_)
  refine (MP.out _).mono ?_
  rintro e w1 ⟨rfl, hb⟩
  replace HP := Lib.hid (HP.out.go hb)
  replace HB := Lib.hid (HB.out.trans (hb.mono HB.out.size))
  clear hb MP
  dsimp only
  refine list_go (by assumption) ?_
  cases ps
  · have HL2 := Lib.hid (show lmM P = [] from HL.out)
    clear HL HRT HSTEP HFULL HMEM MA MF
    go_wp2
    go_ret
    exact ⟨.slice none 0 0, rfl, HB.out, by rw [HL2.out]; exact World.ownsRow_nil _ _ _ _⟩
  · have HL2 := Lib.hid (show lmM P = legM P from HL.out)
    have HRR := Lib.hid (HRT.out rfl)
    clear HL HRT
    go_wp2_with (refine wpList_pos (by rfl) _ (by rfl) w.heap.size P X HX.out (by rfl) HP.out ?_)
    refine (MA.out _).mono ?_
    rintro e w2 ⟨v, rfl, hb, hown⟩
    obtain ⟨p, c, rfl, hr⟩ := reads3_own hown
    replace HP := Lib.hid (HP.out.go hb)
    replace HB := Lib.hid (HB.out.trans (hb.mono HB.out.size))
    have hnb := allM_len P
    obtain ⟨n, hn⟩ : ∃ n, (allM P).length = n := ⟨_, rfl⟩
    rw [hn] at hr hnb ⊢
    have HN := Lib.hid hn
    have HR := Lib.hid hr
    clear hb MA hown hr hn
    dsimp only
    refine list_go (by assumption) ?_
    go_wp2
    go_loopw [3, 5] (fun ov iv wr => ∃ m : Nat, m ≤ n ∧ iv = .int .i64 (m : Int) ∧ Below w2.heap.size w2 wr ∧ wr.ownsRow w2.heap.size 52 3 ov (legU P m).length (mvals (legU P m))) (fun _ iv _ => n - (intOf iv).toNat)
    case atStart => exact ⟨0, Nat.zero_le _, rfl, Below.refl _ _, World.ownsRow_nil _ _ _ _⟩
    case round =>
      obtain ⟨m, hm, rfl, hb, hown⟩ := hrel
      have HB1 := Lib.hid hb
      have HOW := Lib.hid hown
      clear hb hown
      by_cases hlt : m < n
      · obtain ⟨s, t, k, hs, ht, q1, q2, q3, hstep, _⟩ := HSTEP.out m (by rw [HN.out]; exact hlt)
        have hf := MF.out s t k hs ht
        have how : ownB P s = true := by
          have hmem : (allM P)[m]'(by rw [HN.out]; exact hlt) ∈ allM P := List.getElem_mem _
          obtain ⟨s', n', hv⟩ := HMEM.out _ hmem
          have hg : (allM P).getD m (0, 0, 0) = (allM P)[m]'(by rw [HN.out]; exact hlt) := by rw [List.getD_eq_getElem?_getD, List.getElem?_eq_getElem (by rw [HN.out]; exact hlt)]; rfl
          have h1 : mF (allM P) m = (s' : Int) := by unfold mF; rw [hg, hv.f]
          rw [q1] at h1
          obtain rfl : s = s' := by omega
          exact hv.o
        rw [fine_ok P HRR.out s t k hs how] at hf
        have hrd := HR.out.below HB1.out
        obtain ⟨pb, po, rfl⟩ := hrd.addr hlt
        obtain ⟨e0, e1, e2⟩ := hrd.cells hlt
        rw [q1] at e0
        rw [q2] at e1
        rw [q3] at e2
        obtain ⟨ok, hok⟩ : ∃ x, okM P s t k = x := ⟨_, rfl⟩
        rw [hok] at hf hstep
        have hll : (legU P m).length ≤ n := by rw [← HN.out]; unfold legU; exact Nat.le_trans (List.length_filter_le _ _) (by rw [List.length_take]; omega)
        obtain ⟨L, hL⟩ : ∃ L, legU P m = L := ⟨_, rfl⟩
        rw [hL] at hstep hll HOW
        have HPR := Lib.hid (HP.out.go HB1.out)
        have HST := Lib.hid hstep
        have c22 : ∀ dd os, Calls Tryz.prog 47 #[.agg X, .agg #[.int .i64 (s : Int), .int .i64 (t : Int), .int .i64 k]] (grow (redrawn wr dd) os) fun e w'' => e = .returned (.bool ok) ∧ ∃ p : Regrown, w'' = grow (redrawn wr p.d) p.os := fun dd os => Calls.regrown_of (hf _)
        clear q1 q2 q3 hrd hok hL hstep hf how hs ht
        have i0 : (0 : Int) ≤ (m : Int) := by omega
        have hlti : (m : Int) < (n : Int) := by omega
        have g0 := cell_regrown e0
        have g1 := cell_regrown e1
        have g2 := cell_regrown e2
        have HCP := Lib.hid HPR.out.regrown
        have HE := Lib.hid (And.intro e0 (And.intro e1 e2))
        clear e0 e1 e2
        go_upto_region 8 with (fail)
        refine wp_region_quiet_below (by kernel_rfl) (by kernel_rfl) ?_
        refine wpQuiet_pos (by rfl) _ (by rfl) w.heap.size P X HX.out (by rfl) HCP.out ?_
        try simp only [aP, sA, sZ, sS]
        iterate 4 (go_big_quiet_step (fail))
        go_big_quiet_step (exact c22 _ _)
        repeat (go_big_quiet_step (fail))
        refine wpQuiet_nil ?_
        rintro W9 ⟨pq, rfl⟩
        have hb9 := below_regrown wr pq.d pq.os
        replace HOW := Lib.hid (owns_go HOW.out hb9)
        replace HB1 := Lib.hid (HB1.out.trans (hb9.mono HB1.out.size))
        obtain ⟨e0, e1, e2⟩ := HE.out
        replace e0 := g0 pq.d pq.os
        replace e1 := g1 pq.d pq.os
        replace e2 := g2 pq.d pq.os
        clear hb9 g0 g1 g2 c22 HCP HPR HE
        generalize grow (redrawn wr pq.d) pq.os = W9 at *
        cases ok
        · have HS2 := Lib.hid (show legU P (m + 1) = L by rw [HST.out]; simp)
          clear HST e0 e1 e2
          go_wp2
          go_roundw
          case rel => exact ⟨m + 1, by omega, by go_num, HB1.out, by rw [HS2.out]; exact HOW.out⟩
          case measure => simp [intOf]; omega
        · have HS2 := Lib.hid (show legU P (m + 1) = L ++ [((s : Int), (t : Int), k)] by rw [HST.out]; simp)
          have hm1 : L.length + 1 ≤ maxLen := by unfold maxLen; omega
          clear HST
          go_wp2_with (at_builtin; refine wpList_append_lies _ rfl (.tmp 23) (.tmp 28) 46 rfl w2.heap.size 52 i1 (.agg #[.int .i64 0, .int .i64 0, .int .i64 0]) 3 24 Tryz.underlying46 hi1 hk0 hk1 hk2 rfl (by decide) _ L.length (mvals L) rfl (owns_go HOW.out ((Below.refl _ _).alloc (Nat.le_refl _) _)) ⟨W9.heap.size, 0, none⟩ 1 1 [.int .i64 (s : Int), .int .i64 (t : Int), .int .i64 k] rfl rfl (World.news_of_block (heap_alloc_new _ _)) ?c2 (by decide) hm1 (by omega) (by have h : w2.heap.size ≤ W9.heap.size := HB1.out.size; simp; omega) (W9.heap.size + 1) (by simp) ?next)
          case c2 => intro y hy; simp at hy; rcases hy with rfl | rfl | rfl <;> rfl
          case next =>
            intro g1 cap1 w4 hown1 hgrow1 hat1 hlt3
            rw [mvals_snoc] at hown1
            have HB4 := Lib.hid ((HB1.out.alloc HB1.out.size _).grown hgrow1 (by have h : w2.heap.size ≤ W9.heap.size := HB1.out.size; simp; omega) (fun b e => (HOW.out.lt b e).1))
            have HO4 := Lib.hid hown1
            clear hgrow1 hown1 hat1 HB1 HOW e0 e1 e2
            go_wp2
            go_roundw
            case rel => exact ⟨m + 1, by omega, by go_num, HB4.out, by rw [HS2.out, List.length_append]; exact HO4.out⟩
            case measure => simp [intOf]; omega
      · obtain rfl : m = n := by omega
        have HLU := Lib.hid (show legU P m = legM P by rw [← HFULL.out, HN.out])
        go_wp2
        go_ret
        exact ⟨_, rfl, HB.out.trans (HB1.out.mono HB.out.size), by rw [HL2.out, ← HLU.out]; exact owns_base HOW.out HB.out.size⟩
end Go.Proofs.YtcdnakbdajbfoaaGreatDoor

namespace Go.Proofs.YtcdnakbdajbfoaaGreatDoor
open Go.RowKit Go.Sort
set_option linter.unusedSimpArgs false
set_option linter.unusedVariables false
set_option maxRecDepth 20000

theorem lm_len (P : Nat → Int) : (lmM P).length ≤ 17920 := by
  unfold lmM; split
  · exact legM_len P
  · simp
theorem lm_has (P : Nat → Int) (f t k : Int) : (posB P && legB P f t k) = (lmM P).contains (f, t, k) := by
  unfold lmM legB
  cases posB P
  · simp
  · rfl
set_option maxHeartbeats 8000000 in
set_option maxRecDepth 100000 in
theorem rIs10_any (P : Nat → Int) (f t k : Int) (w : World) :
    Calls Tryz.prog 43 #[.agg (pc P).toArray, .agg #[.int .i64 f, .int .i64 t, .int .i64 k]] w fun e w' => e = .returned (.bool (posB P && legB P f t k)) ∧ Below w.heap.size w w' := by
  obtain ⟨X, hX⟩ : ∃ X, X = (pc P).toArray := ⟨_, rfl⟩
  have HC := Lib.hid (MC.begin w P f t k X hX)
  have MM := Lib.hid (fun W => rMoves10_any P W)
  rw [← hX] at MM ⊢
  have HX := Lib.hid hX
  have hll := lm_len P
  have hvv := lm_has P f t k
  obtain ⟨L, hL⟩ : ∃ L, lmM P = L := ⟨_, rfl⟩
  rw [hL] at MM hll hvv
  rw [hvv, ← any_is]
  obtain ⟨n, hn⟩ : ∃ n, L.length = n := ⟨_, rfl⟩
  obtain ⟨F, hF⟩ : ∃ F, mF L = F := ⟨_, rfl⟩
  obtain ⟨T, hT⟩ : ∃ F, mT L = F := ⟨_, rfl⟩
  obtain ⟨K, hK⟩ : ∃ F, mK L = F := ⟨_, rfl⟩
  have HOWN := Lib.hid (fun (W : World) base v (h : W.ownsRow base 52 3 v L.length (mvals L)) => reads3_own h)
  rw [hn, hF, hT, hK] at HOWN
  rw [hn] at MM hll
  rw [hF, hT, hK, hn]
  clear hX hvv hL hn hF hT hK
  go_enter Tryz.func43, Tryz.ntmps43
  go_upto_region 1 with (fail)
  generalize (w.alloc (.cells X 30)).alloc (.cells #[.int .i64 f, .int .i64 t, .int .i64 k] 52) = W at *
  go_wp2_with (refine wpList_pos (by rfl) _ (by rfl) w.heap.size P X HX.out (by rfl) HC.out.p ?_)
  refine (MM.out _).mono ?_
  rintro e w1 ⟨v, rfl, hb, hown⟩
  obtain ⟨p, c, rfl, hr⟩ := HOWN.out _ _ _ hown
  replace HC := Lib.hid (HC.out.go hb)
  have HR := Lib.hid hr
  clear hb hown hr MM HOWN
  dsimp only
  refine list_go (by assumption) ?_
  go_wp2
  go_loopw [6] (fun v wr => ∃ j : Nat, j ≤ n ∧ v = .int .i64 (j : Int) ∧ (∀ i, i < j → isM F T K f t k i = false) ∧ MC w wr P f t k ∧ Below w1.heap.size w1 wr) (fun v _ => n - (intOf v).toNat)
  case atStart => exact ⟨0, Nat.zero_le _, rfl, fun i hi => by omega, HC.out, Below.refl _ _⟩
  case round =>
    clear HC
    obtain ⟨j, hj, rfl, h1, h2, h3⟩ := hrel
    have HN := Lib.hid h1
    have HC := Lib.hid h2
    have HB := Lib.hid h3
    clear h1 h2 h3
    by_cases hlt : j < n
    · have hrd := HR.out.below HB.out
      obtain ⟨pb, po, rfl⟩ := hrd.addr hlt
      obtain ⟨e0, e1, e2⟩ := hrd.cells hlt
      obtain ⟨m0, m1, m2, mf, mz⟩ := row3 HC.out.m
      have HI := Lib.hid (show isM F T K f t k j = (f == F j && t == T j && k == K j) from rfl)
      have HNX := Lib.hid (show isM F T K f t k j = false → ∀ i, i < j + 1 → isM F T K f t k i = false from fun h i hi => by
        rcases Nat.lt_or_ge i j with h1 | h1
        · exact HN.out i h1
        · obtain rfl : i = j := by omega
          exact h)
      generalize F j = fj at *
      generalize T j = tj at *
      generalize K j = kj at *
      have g0 := cell_regrown e0
      have g1 := cell_regrown e1
      have g2 := cell_regrown e2
      have k0 := cell_regrown m0
      have k1 := cell_regrown m1
      have k2 := cell_regrown m2
      have i0 : (0 : Int) ≤ (j : Int) := by omega
      have hlti : (j : Int) < (n : Int) := by omega
      clear e0 e1 e2 hrd m0 m1 m2 mf mz
      by_cases h1 : f = fj
      · subst h1
        by_cases h2 : t = tj
        · subst h2
          by_cases h3 : k = kj
          · subst h3
            go_upto_region 5 with (fail)
            refine wp_region_quiet_below (by kernel_rfl) (by kernel_rfl) ?_
            repeat (go_big_quiet_step (fail))
            refine wpQuiet_nil ?_
            rintro W9 ⟨pq, rfl⟩
            have hb9 := below_regrown wr pq.d pq.os
            replace HC := Lib.hid (HC.out.go hb9)
            replace HB := Lib.hid (HB.out.trans (hb9.mono HB.out.size))
            clear hb9 g0 g1 g2 k0 k1 k2
            generalize grow (redrawn wr pq.d) pq.os = W9 at HC HB ⊢
            go_wp2
            go_ret
            exact ⟨q_b (by unfold anyM; exact (List.any_eq_true.2 ⟨j, List.mem_range.2 hlt, by rw [HI.out]; simp⟩).symm), HC.out.b⟩
          · have HE := Lib.hid (show (k == kj) = false by simp [h3])
            have he : (kj == k) = false := by simp; omega
            clear h3
            go_upto_region 5 with (fail)
            refine wp_region_quiet_below (by kernel_rfl) (by kernel_rfl) ?_
            repeat (go_big_quiet_step (fail))
            refine wpQuiet_nil ?_
            rintro W9 ⟨pq, rfl⟩
            have hb9 := below_regrown wr pq.d pq.os
            replace HC := Lib.hid (HC.out.go hb9)
            replace HB := Lib.hid (HB.out.trans (hb9.mono HB.out.size))
            clear hb9 g0 g1 g2 k0 k1 k2
            generalize grow (redrawn wr pq.d) pq.os = W9 at HC HB ⊢
            go_wp2
            go_roundw
            case rel => exact ⟨j + 1, by omega, by go_num, HNX.out (by rw [HI.out]; simp [HE.out]), HC.out, HB.out⟩
            case measure => simp [intOf]; omega
        · have HE := Lib.hid (show (t == tj) = false by simp [h2])
          have he : (tj == t) = false := by simp; omega
          clear h2
          go_upto_region 5 with (fail)
          refine wp_region_quiet_below (by kernel_rfl) (by kernel_rfl) ?_
          repeat (go_big_quiet_step (fail))
          refine wpQuiet_nil ?_
          rintro W9 ⟨pq, rfl⟩
          have hb9 := below_regrown wr pq.d pq.os
          replace HC := Lib.hid (HC.out.go hb9)
          replace HB := Lib.hid (HB.out.trans (hb9.mono HB.out.size))
          clear hb9 g0 g1 g2 k0 k1 k2
          generalize grow (redrawn wr pq.d) pq.os = W9 at HC HB ⊢
          go_wp2
          go_roundw
          case rel => exact ⟨j + 1, by omega, by go_num, HNX.out (by rw [HI.out]; simp [HE.out]), HC.out, HB.out⟩
          case measure => simp [intOf]; omega
      · have HE := Lib.hid (show (f == fj) = false by simp [h1])
        have he : (fj == f) = false := by simp; omega
        clear h1
        go_upto_region 5 with (fail)
        refine wp_region_quiet_below (by kernel_rfl) (by kernel_rfl) ?_
        repeat (go_big_quiet_step (fail))
        refine wpQuiet_nil ?_
        rintro W9 ⟨pq, rfl⟩
        have hb9 := below_regrown wr pq.d pq.os
        replace HC := Lib.hid (HC.out.go hb9)
        replace HB := Lib.hid (HB.out.trans (hb9.mono HB.out.size))
        clear hb9 g0 g1 g2 k0 k1 k2
        generalize grow (redrawn wr pq.d) pq.os = W9 at HC HB ⊢
        go_wp2
        go_roundw
        case rel => exact ⟨j + 1, by omega, by go_num, HNX.out (by rw [HI.out]; simp [HE.out]), HC.out, HB.out⟩
        case measure => simp [intOf]; omega
    · obtain rfl : j = n := by omega
      go_wp2
      go_ret
      exact ⟨q_b (by
        unfold anyM
        symm
        rw [List.any_eq_false]
        intro i hi
        rw [HN.out i (by simpa using hi)]; simp), HC.out.b⟩
end Go.Proofs.YtcdnakbdajbfoaaGreatDoor

namespace Go.Proofs.YtcdnakbdajbfoaaGreatDoor
open Go.RowKit Go.Sort
set_option linter.unusedSimpArgs false
set_option linter.unusedVariables false
set_option maxRecDepth 20000

theorem HO.at {w W : World} {P : Nat → Int} (h : HO w W P) (Q : Nat → Int) : HO w (W.setCells w.heap.size 0 (pc Q)) Q :=
  ⟨h.p.store, h.z.gr (grs_B (hb := w.heap.size) (pc Q) 0 W) (by intro e; have := Option.some.inj e; omega), below_store (b := w.heap.size) Q h.b (Nat.le_refl _) h.b.size⟩
set_option maxHeartbeats 8000000 in
set_option maxRecDepth 100000 in
theorem rPlay10_any (P : Nat → Int) (F T K : Nat → Int) (p : Option Addr) (n c : Nat) (hn : n ≤ 100000) (w : World) (hr : Reads3 w.heap.size w p n F T K) :
    Calls Tryz.prog 28 #[.agg (pc P).toArray, .slice p n c] w fun e w' => e = .returned (.tuple #[.agg (pc (plP P F T K n)).toArray, .int .i64 (plE P F T K n)]) ∧ Below w.heap.size w w' := by
  obtain ⟨X, hX⟩ : ∃ X, X = (pc P).toArray := ⟨_, rfl⟩
  have HC := Lib.hid (HO.begin10 w P X hX)
  have MP := Lib.hid (fun W => rPosition_any P W)
  rw [← hX] at MP ⊢
  have HX := Lib.hid hX
  have HR := Lib.hid hr
  have HNN := Lib.hid hn
  obtain ⟨ps, hps⟩ : ∃ x, posB P = x := ⟨_, rfl⟩
  have HPL := Lib.hid (show plP P F T K n = if ps then (advN P F T K n).getD (fun _ => 0) else fun _ => 0 by unfold plP; rw [hps])
  have HPE := Lib.hid (show plE P F T K n = if ps then (if (advN P F T K n).isSome then 0 else 8) else 2 by unfold plE; rw [hps])
  rw [hps] at MP
  have HPS := Lib.hid hps
  obtain ⟨Z, hZ⟩ : ∃ Z, plP P F T K n = Z := ⟨_, rfl⟩
  obtain ⟨er, her⟩ : ∃ z, plE P F T K n = z := ⟨_, rfl⟩
  rw [hZ] at HPL ⊢
  rw [her] at HPE ⊢
  have HGO := Lib.hid (fun i Q (h : advN P F T K i = some Q) hl => adv_go h hl)
  have HEND := Lib.hid (fun i Q (h : advN P F T K i = some Q) hl => adv_end h hl)
  have HNO := Lib.hid (fun i m (h : advN P F T K i = none) hi => adv_none (n := m) h hi)
  have H0 := Lib.hid (show advN P F T K 0 = some P from rfl)
  clear hX hps hr hZ her hn
  go_enter Tryz.func28, Tryz.ntmps28
  go_upto_region 1 with (fail)
  generalize (w.alloc (.cells X 30)).alloc (.cells Tryz.zeroCells30 30) = W0 at *
  go_wp2_with (refine wpList_pos (by rfl) _ (by rfl) w.heap.size P X HX.out (by rfl) HC.out.p ?_)
  refine (MP.out _).mono ?_
  rintro e w3 ⟨rfl, hb⟩
  replace HC := Lib.hid (HC.out.on hb)
  clear hb MP
  dsimp only
  refine list_go (by assumption) ?_
  cases ps
  · have HZ := Lib.hid (show Z = fun _ => 0 from HPL.out)
    have HE := Lib.hid (show er = 2 from HPE.out)
    clear HPL HPE HR HGO HEND HNO H0
    go_upto_region 2 with (fail)
    refine wp_region_lit ?_
    refine wpList_plain rfl (fun K hK => ?_)
    go_simp
    refine hK _ _ ?_
    clear hK K
    refine wpList_store_mid rfl 30 _ _ rfl (w.heap.size + 1) 0 (pc fun _ => 0).toArray rfl (congrArg Value.agg zeroPos) (by rw [pc_size]; exact HC.out.z.there) (by rw [infoPos, pc_size]) (pc_one _) ?_
    rw [List.toList_toArray]
    obtain ⟨hr1, hb1⟩ := HC.out.stored (Q := fun _ => 0)
    have HRR := Lib.hid hr1
    have HB := Lib.hid hb1
    clear hr1 hb1 HC
    generalize w3.setCells (w.heap.size + 1) 0 (pc fun _ => 0) = W8 at HRR HB ⊢
    refine wpList_plain rfl (fun K hK => ?_)
    go_simp
    refine hK _ _ ?_
    clear hK K
    show Exit.then _ _ Exit.normal _ _
    refine ret_go (by assumption) ?_
    repeat (first | refine then_ret ?_ | refine block_ret ?_)
    refine bodyPost_ret (v := .tuple #[.agg (pc fun _ => 0).toArray, .int .i64 2]) ?_ rfl ⟨by rw [HZ.out, HE.out], HB.out⟩
    exact results_mid2 (p := 4) (u := 5) (ty := 30) rfl _ W8 (w.heap.size + 1) _ _ _ rfl rfl HRR.out Tryz.underlying30 rfl (by rw [infoPos, pc_len])
  go_wp2
  go_loopw [6] (fun v wr => ∃ (i : Nat) (Q : Nat → Int), i ≤ n ∧ v = .int .i64 (i : Int) ∧ advN P F T K i = some Q ∧ posB Q = true ∧ HO w wr Q) (fun v _ => n - (intOf v).toNat)
  case atStart => exact ⟨0, P, Nat.zero_le _, rfl, H0.out, HPS.out, HC.out⟩
  case round =>
    clear HC H0
    obtain ⟨i, Q, hi, rfl, ha, hp, hv⟩ := hrel
    have HC := Lib.hid hv
    have HA := Lib.hid ha
    have HPQ := Lib.hid hp
    clear hv ha hp
    obtain ⟨Y, hY⟩ : ∃ Y, Y = (pc Q).toArray := ⟨_, rfl⟩
    have HY := Lib.hid hY
    have hn := HNN.out
    by_cases hlt : i < n
    · have hrd := HR.out.below HC.out.b
      obtain ⟨pb, po, rfl⟩ := hrd.addr hlt
      obtain ⟨e0, e1, e2⟩ := hrd.cells hlt
      have HCE := Lib.hid (fun W (hb : Below w.heap.size w W) => (HR.out.below hb).cells hlt)
      have HYES := Lib.hid (HGO.out i Q HA.out)
      have HNON := Lib.hid (fun hl => HNO.out (i + 1) n (HEND.out i Q HA.out hl) hlt)
      generalize F i = f at *
      generalize T i = t at *
      generalize K i = k at *
      have MI := Lib.hid (fun W => rIs10_any Q f t k W)
      have MV := Lib.hid (fun W => rMove_any Q f t k W)
      rw [HPQ.out, Bool.true_and, ← hY] at MI
      obtain ⟨lb, hlb⟩ : ∃ x, legB Q f t k = x := ⟨_, rfl⟩
      obtain ⟨N, hN⟩ : ∃ x, mvP Q f t k = x := ⟨_, rfl⟩
      obtain ⟨V9, hV9⟩ : ∃ V, V = (pc N).toArray := ⟨_, rfl⟩
      rw [hlb] at MI HYES HNON
      rw [hN, ← hY, ← hV9] at MV
      have HNX := Lib.hid (show lb = true → nxP Q f.toNat t.toNat k = N ∧ posB N = true from fun h => by
        obtain ⟨s, m, e1, e2, hg⟩ := leg_nx Q HPQ.out f t k (by rw [hlb, h])
        have h3 := hg.nx
        have h4 := hg.pos
        simp only at h3 h4
        rw [← hN, e1, e2, Int.toNat_natCast, Int.toNat_natCast]
        exact ⟨h3, h4⟩)
      have HV := Lib.hid hV9
      have HVL := Lib.hid (show V9.toList = pc N by rw [hV9])
      have g0 := cell_regrown e0
      have g1 := cell_regrown e1
      have g2 := cell_regrown e2
      have HE := Lib.hid (And.intro e0 (And.intro e1 e2))
      have i0 : (0 : Int) ≤ (i : Int) := by omega
      have hlti : (i : Int) < (n : Int) := by omega
      clear e0 e1 e2 hrd hY hlb hN hV9
      go_upto_region 6 with (fail)
      have HCP := Lib.hid HC.out.p.regrown
      have c22 : ∀ dd os, Calls Tryz.prog 43 #[.agg Y, .agg #[.int .i64 f, .int .i64 t, .int .i64 k]] (grow (redrawn wr dd) os) fun e w'' => e = .returned (.bool lb) ∧ ∃ p : Regrown, w'' = grow (redrawn wr p.d) p.os := fun dd os => Calls.regrown_of (MI.out _)
      refine wp_region_quiet_below (by kernel_rfl) (by kernel_rfl) ?_
      refine wpQuiet_pos (by rfl) _ (by rfl) w.heap.size Q Y HY.out (by rfl) HCP.out ?_
      try simp only [aP, sA, sZ, sS]
      iterate 4 (go_big_quiet_step (fail))
      go_big_quiet_step (exact c22 _ _)
      repeat (go_big_quiet_step (fail))
      refine wpQuiet_nil ?_
      rintro W9 ⟨pq, rfl⟩
      have hb9 := below_regrown wr pq.d pq.os
      replace HC := Lib.hid (HC.out.on hb9)
      replace HE := Lib.hid (And.intro (g0 pq.d pq.os) (And.intro (g1 pq.d pq.os) (g2 pq.d pq.os)))
      clear hb9 g0 g1 g2 c22 HCP MI
      generalize grow (redrawn wr pq.d) pq.os = W9 at HC HE ⊢
      cases lb
      · have hno := HNON.out rfl
        rw [hno] at HPL HPE
        have HZ := Lib.hid (show Z = fun _ => 0 from HPL.out)
        have HE2 := Lib.hid (show er = 8 from HPE.out)
        clear HPL HPE HR HGO HEND HNO hno HYES HNON
        go_upto_region 7 with (fail)
        refine wp_region_lit ?_
        refine wpList_plain rfl (fun K hK => ?_)
        go_simp
        refine hK _ _ ?_
        clear hK K
        refine wpList_store_mid rfl 30 _ _ rfl (w.heap.size + 1) 0 (pc fun _ => 0).toArray rfl (congrArg Value.agg zeroPos) (by rw [pc_size]; exact HC.out.z.there) (by rw [infoPos, pc_size]) (pc_one _) ?_
        rw [List.toList_toArray]
        obtain ⟨hr1, hb1⟩ := HC.out.stored (Q := fun _ => 0)
        have HRR := Lib.hid hr1
        have HB := Lib.hid hb1
        clear hr1 hb1 HC
        generalize W9.setCells (w.heap.size + 1) 0 (pc fun _ => 0) = W8 at HRR HB ⊢
        refine wpList_plain rfl (fun K hK => ?_)
        go_simp
        refine hK _ _ ?_
        clear hK K
        show Exit.then _ _ Exit.normal _ _
        refine ret_go (by assumption) ?_
        repeat (first | refine then_ret ?_ | refine block_ret ?_)
        refine bodyPost_ret (v := .tuple #[.agg (pc fun _ => 0).toArray, .int .i64 8]) ?_ rfl ⟨by rw [HZ.out, HE2.out], HB.out⟩
        exact results_mid2 (p := 4) (u := 5) (ty := 30) rfl _ W8 (w.heap.size + 1) _ _ _ rfl rfl HRR.out Tryz.underlying30 rfl (by rw [infoPos, pc_len])
      · obtain ⟨hn1, hn2⟩ := HNX.out rfl
        have han := HYES.out rfl
        rw [hn1] at han
        have HAN := Lib.hid han
        have HPN := Lib.hid hn2
        clear HNX HYES HNON hn1 hn2 han HA HPQ
        clear HE
        go_upto_region 8 with (fail)
        refine wp_region_noPanic ?_
        refine wp_region_start (n := 10) (l := #[ff, ff, ff, ff, ff, ff, ff, ff, ff, ff]) (S := (fun W => Below w.heap.size w W)) (by kernel_rfl) rfl (by kernel_rfl) (by first | exact HC.out.b | exact (HC.out.on (Below.refl _ _).drew).b) (fun hHeld => ?_)
        replace HC := Lib.hid (HC.out.on (Below.refl W9.heap.size W9).drew)
        generalize W9.drew = V at *
        refine tq (i := 1) (d := some 27) rfl rfl ?_
        try simp only [aP, sA, sZ, sS]
        refine tq (i := 2) (d := some 28) rfl rfl ?_
        try simp only [aP, sA, sZ, sS]
        refine tq (i := 3) (d := some 29) rfl rfl ?_
        try simp only [aP, sA, sZ, sS]
        refine tg (i := 4) (d := some 30) (v := (.agg #[.int .i64 f, .int .i64 t, .int .i64 k])) rfl rfl ?_ ?_
        · refine Or.inl ⟨by rfl, ?_⟩; intro w' hSw; (try dsimp only at hSw); obtain ⟨e0, e1, e2⟩ := HCE.out w' hSw; go_simp
        try simp only [aP, sA, sZ, sS]
        refine og (i := 0) rfl (by kernel_rfl) (fun K hK => ?_)
        refine wp_load_mid 30 _ rfl w.heap.size 0 rfl (pc Q) _ HC.out.p.range Tryz.underlying30 rfl (by rw [infoPos, pc_len]) ?_
        rw [← HY.out]
        refine hK.out _ _ (by first | exact HC.out.b | exact (HC.out.on (Below.refl _ _).drew).b) (fun hHeld => ?_)
        clear hK K
        try simp only [aP, sA, sZ, sS]
        refine og (i := 5) rfl (by kernel_rfl) (fun K hK => ?_)
        go_simp
        refine (MV.out _).mono ?_
        rintro e V ⟨rfl, hb⟩
        replace HC := Lib.hid (HC.out.on hb)
        clear hb
        dsimp only
        refine hK.out _ _ (by first | exact HC.out.b | exact (HC.out.on (Below.refl _ _).drew).b) (fun hHeld => ?_)
        clear hK K
        try simp only [aP, sA, sZ, sS]
        refine tq (i := 6) (d := some 25) rfl rfl ?_
        try simp only [aP, sA, sZ, sS]
        refine tq (i := 7) (d := some 32) rfl rfl ?_
        try simp only [aP, sA, sZ, sS]
        refine tq (i := 8) (d := some 33) rfl rfl ?_
        try simp only [aP, sA, sZ, sS]
        refine og (i := 9) rfl (by kernel_rfl) (fun K hK => ?_)
        rw [if_pos (by rfl)]
        refine wp_store_mid 30 _ _ rfl w.heap.size 0 V9 rfl rfl (by rw [HV.out, pc_size]; exact HC.out.p.there) (by rw [infoPos, HV.out, pc_size]) (by rw [HV.out]; exact pc_one _) ?_
        rw [HVL.out]
        replace HC := Lib.hid (HC.out.at N)
        generalize V.setCells w.heap.size 0 (pc N) = V at HC ⊢
        refine hK.out _ _ (by first | exact HC.out.b | exact (HC.out.on (Below.refl _ _).drew).b) (fun hHeld => ?_)
        clear hK K
        try simp only [aP, sA, sZ, sS]
        refine wpAnyH_done (by kernel_rfl) ?_ _
        refine NoPanic.normal ?_
        clear hHeld MV HCE
        go_wp2
        go_roundw
        case rel => exact ⟨i + 1, N, by omega, by go_num, HAN.out, HPN.out, HC.out⟩
        case measure => simp [intOf]; omega
    · obtain rfl : i = n := by omega
      have ha := HA.out
      rw [ha] at HPL HPE
      have HZ := Lib.hid (show Z = Q from HPL.out)
      have HE := Lib.hid (show er = 0 from HPE.out)
      have HYL := Lib.hid (show Y.toList = pc Q by rw [hY])
      clear HPL HPE ha hY HR HGO HEND HNO
      go_upto_region 9 with (fail)
      refine wp_region_lit ?_
      refine wpList_pos (by rfl) _ (by rfl) w.heap.size Q Y HY.out (by rfl) HC.out.p ?_
      refine wpList_store_mid rfl 30 _ _ rfl (w.heap.size + 1) 0 Y rfl rfl (by rw [HY.out, pc_size]; exact HC.out.z.there) (by rw [infoPos, HY.out, pc_size]) (by rw [HY.out]; exact pc_one _) ?_
      rw [HYL.out]
      obtain ⟨hr1, hb1⟩ := HC.out.stored (Q := Q)
      have HRR := Lib.hid hr1
      have HB := Lib.hid hb1
      clear hr1 hb1 HC
      generalize wr.setCells (w.heap.size + 1) 0 (pc Q) = W8 at HRR HB ⊢
      refine wpList_plain rfl (fun K hK => ?_)
      go_simp
      refine hK _ _ ?_
      clear hK K
      show Exit.then _ _ Exit.normal _ _
      refine ret_go (by assumption) ?_
      repeat (first | refine then_ret ?_ | refine block_ret ?_)
      refine bodyPost_ret (v := .tuple #[.agg (pc Q).toArray, .int .i64 0]) ?_ rfl ⟨by rw [HZ.out, HE.out], HB.out⟩
      exact results_mid2 (p := 4) (u := 5) (ty := 30) rfl _ W8 (w.heap.size + 1) _ _ _ rfl rfl HRR.out Tryz.underlying30 rfl (by rw [infoPos, pc_len])
end Go.Proofs.YtcdnakbdajbfoaaGreatDoor
