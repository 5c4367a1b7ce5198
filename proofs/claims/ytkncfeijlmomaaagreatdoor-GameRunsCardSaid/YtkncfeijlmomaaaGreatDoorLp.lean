/-
  GameStops.
-/
import Derived.Test.YtkncfeijlmomaaaGreatDoorLn
import Derived.Test.YtkncfeijlmomaaaGreatDoorG28
import Derived.Test.YtkncfeijlmomaaaGreatDoorLo
namespace Go.Proofs.YtkncfeijlmomaaaGreatDoor
open Go.RowKit Go.Sort Go.Maps
set_option linter.unusedSimpArgs false
set_option linter.unusedVariables false
set_option maxRecDepth 20000

/-- what stands along the law: the game, the law's own book with the same texts -/
structure GT (B base bb mbb : Nat) (g : Gm) (w W : World) : Prop where
  m : GW base g W
  k : BW W bb mbb g.T
  ne : ∀ q, g.X q → q ≠ bb ∧ q ≠ mbb
  hb : base ≤ bb ∧ base ≤ mbb
  bl : Below base w W
  e : EN B W
theorem GT.go {B base bb mbb : Nat} {g : Gm} {w W W' : World} (h : GT B base bb mbb g w W) (hB : base ≤ W.heap.size) (b : Below W.heap.size W W') : GT B base bb mbb g w W' :=
  ⟨h.m.go b, h.k.go b, h.ne, h.hb, h.bl.trans (b.mono hB), h.e.go b⟩
theorem py1 (A : GCore) (L : List (Int × Int × Int)) (f t k : Int) : (coE A L.length (f, t, k) = 0 → pyS A L (fun _ => f) (fun _ => t) (fun _ => k) 1 = (coN A (f, t, k), L ++ [(f, t, k)], 0)) ∧ (coE A L.length (f, t, k) ≠ 0 → pyS A L (fun _ => f) (fun _ => t) (fun _ => k) 1 = (A, L, coE A L.length (f, t, k))) :=
  ⟨fun h => pyS_go (i := 0) rfl h, fun h => pyS_no (i := 0) rfl h 1 (by omega)⟩
theorem coE_bound (A : GCore) (l : Nat) (m : Int × Int × Int) : 0 ≤ coE A l m ∧ coE A l m ≤ 9 := by
  unfold coE; split
  · split
    · omega
    · split <;> omega
  · omega
theorem GT.step {B base bb mbb : Nat} {g g' : Gm} {w W W' : World} (h : GT B base bb mbb g w W) (s : Gstep base g g' W W') (hB : B ≤ base) (hb : base ≤ W.heap.size) :
    BW W' bb mbb g.T ∧ (∀ q, g'.X q → q ≠ bb ∧ q ≠ mbb) ∧ Below base w W' ∧ EN B W' ∧ base ≤ W'.heap.size := by
  have hk := h.k.ltb
  have hm := h.k.m.lt
  refine ⟨s.c.bw h.k (fun hx => (h.ne _ hx).1 rfl) (fun hx => (h.ne _ hx).2 rfl), fun q hq => ?_, s.c.below h.bl hb fun k hk hx => by have := (h.m.ltX k hx).1; omega, s.en h.m h.e hB, Nat.le_trans hb s.c.size⟩
  by_cases e : q < W.heap.size
  · exact h.ne q (s.x e hq)
  · omega
theorem GT.put {B base bb mbb : Nat} {g' : Gm} {T : List (List UInt8)} {w W W' : World} (hm : GW base g' W) (ne : ∀ q, g'.X q → q ≠ bb ∧ q ≠ mbb) (hb : base ≤ bb ∧ base ≤ mbb) (bl : Below base w W) (e : EN B W) (hB : B ≤ base) (hs : base ≤ W.heap.size) (hk : BW W' bb mbb g'.T) (t : Two bb mbb W W') : GT B base bb mbb g' w W' := by
  have hc : Ch (fun k => k = bb ∨ k = mbb) W W' := Ch.two t (.inl rfl) (.inr rfl)
  exact ⟨hm.ch hc fun k hx e => e.elim (ne k hx).1 (ne k hx).2, hk, ne, hb, hc.below bl hs fun k hk e => by omega, e.on (hc.below (Below.refl B W) e.k fun k hk e => by omega)⟩
theorem coW_next2 (A : GCore) (m : Int × Int × Int) : (coN A m).2.1 = kyB (coN A m).1 :: A.2.1 := by simp only [coN]
theorem cl_cases (g : Gm) (y : Int) : (g.may y = true ∧ g.clE y = 0 ∧ (g.clG y).r = 3 ∧ (g.clG y).y = y) ∨ (g.may y = false ∧ g.clE y ≠ 0 ∧ (g.clG y).r = g.r ∧ (g.clG y).y = g.y) := by
  cases hm : g.may y
  · refine .inr ⟨rfl, ?_, ?_⟩
    · unfold Gm.clE
      unfold Gm.may at hm
      split
      · split
        · rename_i h; rw [if_pos h] at hm; rw [hm]; decide
        · decide
      · decide
    · have : g.clE y ≠ 0 := by
        unfold Gm.clE
        unfold Gm.may at hm
        split
        · split
          · rename_i h; rw [if_pos h] at hm; rw [hm]; decide
          · decide
        · decide
      unfold Gm.clG
      rw [if_neg this]
      exact ⟨rfl, rfl⟩
  · have h0 : g.clE y = 0 := by
      unfold Gm.may at hm
      unfold Gm.clE
      by_cases hr : g.r = 0
      · rw [if_pos hr] at hm
        have hy : y = 6 ∨ y = 7 := by
          unfold Gm.cl at hm
          split at hm
          · exact .inl (by assumption)
          · split at hm
            · exact .inr (by assumption)
            · cases hm
        rw [if_pos hy, if_pos hr, hm]; rfl
      · rw [if_neg hr] at hm; cases hm
    refine .inl ⟨rfl, h0, ?_⟩
    unfold Gm.clG
    rw [if_pos h0]
    exact ⟨rfl, rfl⟩
theorem st_cases (g : Gm) (y : Int) : ((y = 8 ∨ y = 9 ∨ y = 10) ∧ g.r = 0 ∧ g.stE y = 0 ∧ (g.stG y).y = y ∧ (g.stG y).r = if y = 8 then 3 else winN (oth (g.P 128))) ∨
    ((y = 8 ∨ y = 9 ∨ y = 10) ∧ g.r ≠ 0 ∧ g.stE y = 9 ∧ (g.stG y).r = g.r ∧ (g.stG y).y = g.y) ∨ ((y ≠ 8 ∧ y ≠ 9 ∧ y ≠ 10) ∧ g.stE y = 2 ∧ (g.stG y).r = g.r ∧ (g.stG y).y = g.y) := by
  by_cases hy : y = 8 ∨ y = 9 ∨ y = 10
  · have he := stE_yes g y hy
    by_cases hr : g.r = 0
    · rw [if_pos hr] at he
      refine .inl ⟨hy, hr, he, ?_⟩
      unfold Gm.stG
      rw [if_pos he]
      exact ⟨rfl, rfl⟩
    · rw [if_neg hr] at he
      refine .inr (.inl ⟨hy, hr, he, ?_⟩)
      unfold Gm.stG
      rw [if_neg (by rw [he]; decide)]
      exact ⟨rfl, rfl⟩
  · have h8 : y ≠ 8 := fun e => hy (.inl e)
    have h9 : y ≠ 9 := fun e => hy (.inr (.inl e))
    have h10 : y ≠ 10 := fun e => hy (.inr (.inr e))
    have he := stE_ne g y h8 h9 h10
    refine .inr (.inr ⟨⟨h8, h9, h10⟩, he, ?_⟩)
    unfold Gm.stG
    rw [if_neg (by rw [he]; decide)]
    exact ⟨rfl, rfl⟩
set_option maxHeartbeats 16000000 in
set_option maxRecDepth 100000 in
theorem gameStops_any (P : Nat → Int) (ap : Option Addr) (n cp : Nat) (F T G : Nat → Int) (why : Int) (W0 : World) (B : Nat) (he : EN B W0) (hr : Reads3 W0.heap.size W0 ap n F T G) :
    Calls Tryz.prog 7 #[.agg (pc P).toArray, .slice ap n cp, .int .i64 why] W0 fun e w' => e = .returned (.bool true) ∧ Below W0.heap.size W0 w' := by
  obtain ⟨X, hX⟩ : ∃ X, X = (pc P).toArray := ⟨_, rfl⟩
  have HI := Lib.hid (show PB (W0.alloc (.cells X 29)) W0.heap.size P ∧ EN B (W0.alloc (.cells X 29)) ∧ Below W0.heap.size W0 (W0.alloc (.cells X 29)) from ⟨by rw [hX]; exact PB.new rfl, he.go (below_new _), below_new _⟩)
  have HX := Lib.hid hX
  have HBW := Lib.hid he.k
  have HR := Lib.hid hr
  have MA := Lib.hid (fun W (h : EN B W) => awake14_any B W h)
  rw [← hX]
  obtain ⟨ps, hps⟩ : ∃ b, posB P = b := ⟨_, rfl⟩
  clear hX he hr
  go_enter Tryz.func7, Tryz.ntmps7
  go_upto_region 1 with (fail)
  generalize W0.alloc (.cells X 29) = w1 at *
  go_wp2_with fail
  refine (MA.out _ HI.out.2.1).mono ?_
  rintro e w2 ⟨rfl, hb⟩
  replace HI := Lib.hid (show PB w2 W0.heap.size P ∧ EN B w2 ∧ Below W0.heap.size W0 w2 from ⟨HI.out.1.go hb, HI.out.2.1.go hb, HI.out.2.2.trans (hb.mono HI.out.2.2.size)⟩)
  clear hb MA
  dsimp only
  refine list_go (by assumption) ?_
  by_cases h30 : 30 < n
  · have h31 : (30 : Int) < (n : Int) := by omega
    go_wp2
    go_ret
    exact ⟨rfl, HI.out.2.2⟩
  · have h31 : ¬ (30 : Int) < (n : Int) := by omega
    have HLN := Lib.hid (show n ≤ 30 by omega)
    clear h30
    cases ps
    · have MF := Lib.hid (fun W (h : EN B W) => gfrom_no B P hps W h)
      rw [← HX.out] at MF
      clear hps
      go_wp2_with (first | refine wpList_pos (by rfl) _ (by rfl) W0.heap.size P X HX.out (by rfl) HI.out.1 ?_ | fail)
      refine (MF.out _ HI.out.2.1).mono ?_
      rintro e w3 ⟨rfl, hb⟩
      dsimp only
      refine list_go (by assumption) ?_
      go_wp2
      go_ret
      exact ⟨rfl, HI.out.2.2.trans (hb.mono HI.out.2.2.size)⟩
    · have MF := Lib.hid (fun W (h : EN B W) => gfrom_any B P hps W h)
      have HPS := Lib.hid hps
      rw [← HX.out] at MF
      clear hps
      go_wp2_with (first | refine wpList_pos (by rfl) _ (by rfl) W0.heap.size P X HX.out (by rfl) HI.out.1 ?_ | fail)
      refine (MF.out _ HI.out.2.1).mono ?_
      rintro e w3 ⟨gb, b, mb, rfl, hm, hb⟩
      obtain ⟨g, hg⟩ : ∃ g, (gz gb b mb).comes P = g := ⟨_, rfl⟩
      have HG0 := Lib.hid (show g.gb = gb ∧ Gis g g.core g.L ∧ coW g.core ∧ g.L = [] ∧ g.T = [kyB P] by
        rw [← hg]
        have q := gz_is gb b mb P HPS.out
        refine ⟨rfl, ⟨rfl, rfl, q.p, q.t⟩, by rw [q.a]; exact coW_begin P, rfl, rfl⟩)
      rw [hg] at hm
      have HM := Lib.hid hm
      have HBS := Lib.hid (show W0.heap.size < w2.heap.size from HI.out.1.lt)
      have HB0 := Lib.hid (show Below W0.heap.size W0 w2 ∧ W0.heap.size ≤ w2.heap.size ∧ B ≤ w2.heap.size from ⟨HI.out.2.2, HI.out.2.2.size, Nat.le_trans HBW.out HI.out.2.2.size⟩)
      have HRB := Lib.hid ((HR.out.below HI.out.2.2).mono HI.out.2.2.size)
      have HBL := Lib.hid hb
      replace HI := Lib.hid (show PB w3 W0.heap.size P ∧ EN B w3 ∧ Below W0.heap.size W0 w3 from ⟨HI.out.1.go hb, HI.out.2.1.go hb, HI.out.2.2.trans (hb.mono HI.out.2.2.size)⟩)
      clear hb hm hg MF HR
      dsimp only
      refine list_go (by assumption) ?_
      go_upto_region 8 with (fail)
      refine wp_region_lit ?_
      refine wpList_pos (by rfl) _ (by rfl) W0.heap.size P X HX.out (by rfl) HI.out.1 ?_
      refine wpList_plain rfl (fun K hK => ?_)
      refine wp_sliceP 1 _ rfl [X] (fun X hx => by rw [List.mem_singleton.1 hx, HX.out]; exact pc_size P) rfl (by omega) (by omega) (by rfl) ?_
      refine hK _ _ ?_
      clear hK K
      rw [show ([X].flatMap fun X => X.toList).toArray = X by simp]
      have MB := Lib.hid (fun W (h : EN B W) (hr : ReadsP W.heap.size W (some ⟨w3.heap.size, 0, none⟩) 1 (fun _ => P)) => new_any12 B (some ⟨w3.heap.size, 0, none⟩) 1 1 (fun _ => P) (fun _ _ => right_in (pos_parts P HPS.out).1) (by omega) W h hr)
      have HRP := Lib.hid (show ReadsP (w3.alloc (.cells X 29)).heap.size (w3.alloc (.cells X 29)) (some ⟨w3.heap.size, 0, none⟩) 1 (fun _ => P) from .inr ⟨w3.heap.size, 0, rfl, by simp, fun i hi => by
        obtain rfl : i = 0 := by omega
        have h : PB (w3.alloc (.cells X 29)) w3.heap.size P := by rw [HX.out]; exact PB.new rfl
        exact h.range⟩)
      refine wpList_plain rfl (fun K hK => ?_)
      go_simp
      refine (MB.out _ (HI.out.2.1.go (below_new _)) HRP.out).mono ?_
      rintro e w4 ⟨bb, mbb, rfl, hnb⟩
      have hb4 : Below w3.heap.size w3 w4 := (below_new _).trans (hnb.bl.mono (below_new (w := w3) (.cells X 29)).size)
      have HK := Lib.hid (show GT B w2.heap.size bb mbb g w2 w4 from ⟨HM.out.go hb4, by rw [HG0.out.2.2.2.2]; exact hnb.k, fun q hq => by
          have h1 := (HM.out.ltX q hq).2
          have h2 := hnb.hb
          have h3 := hnb.hm
          have h4 := (below_new (w := w3) (.cells X 29)).size
          omega, by
          have h2 := hnb.hb
          have h3 := hnb.hm
          have h4 := (below_new (w := w3) (.cells X 29)).size
          have h5 := HBL.out.size
          omega, HBL.out.trans (hb4.mono HBL.out.size), HI.out.2.1.go hb4⟩)
      have HSZ := Lib.hid (show w2.heap.size ≤ w4.heap.size from Nat.le_trans HBL.out.size hb4.size)
      clear hb4 hnb HRP MB HI HM HBL
      dsimp only
      refine hK _ _ ?_
      have HG := Lib.hid (show g.gb = gb ∧ Gis g g.core g.L ∧ coW g.core ∧ g.L.length ≤ 0 from ⟨HG0.out.1, HG0.out.2.1, HG0.out.2.2.1, by rw [HG0.out.2.2.2.1]; exact Nat.le_refl _⟩)
      clear HG0
      go_wp2
      go_loopw [10] (fun v wr => ∃ (i : Nat) (g : Gm), i ≤ n ∧ v = .int .i64 (i : Int) ∧ (g.gb = gb ∧ Gis g g.core g.L ∧ coW g.core ∧ g.L.length ≤ i) ∧ GT B w2.heap.size bb mbb g w2 wr ∧ w2.heap.size ≤ wr.heap.size) (fun v _ => n - (intOf v).toNat)
      case atStart => exact ⟨0, g, Nat.zero_le _, rfl, HG.out, HK.out, HSZ.out⟩
      case round =>
        clear HG HK HSZ
        obtain ⟨i, g, hi, rfl, h1, h2, h3⟩ := hrel
        have HG := Lib.hid h1
        have HK := Lib.hid h2
        have HSZ := Lib.hid h3
        clear h1 h2 h3
        by_cases hlt : i < n
        · have hrd : Reads3 w2.heap.size wr ap n F T G := HRB.out.below HK.out.bl
          obtain ⟨pb, po, rfl⟩ := hrd.addr hlt
          obtain ⟨e0, e1, e2⟩ := hrd.cells hlt
          clear hrd
          have i0 : (0 : Int) ≤ (i : Int) := by omega
          have i1 : (i : Int) < (n : Int) := by omega
          have i2 : (i : Int) ≤ 30 := by have := HLN.out; omega
          generalize F i = f at *
          generalize T i = t at *
          generalize G i = k at *
          obtain ⟨hy, hn⟩ := py1 g.core g.L f t k
          have MP := Lib.hid (fun W R (h : GT B w2.heap.size bb mbb g w2 W) (hs : w2.heap.size ≤ W.heap.size) (hr : W.heap[R]? = some (.cells #[.int .i64 f, .int .i64 t, .int .i64 k] 46 (0, 0))) (hx : ¬ g.X R) => gplay_any B w2.heap.size g g.core g.L (fun _ => f) (fun _ => t) (fun _ => k) (some ⟨R, 0, none⟩) 1 1 (by omega) (by have := HG.out.2.2.2; have := HLN.out; omega) HG.out.2.1 W h.m h.e hs HB0.out.2.2 (one_row14 hr) (fun b o e => by cases e; exact hx))
          rw [HG.out.1] at MP
          have HNX := Lib.hid (show ¬ g.X wr.heap.size from fun hx => Nat.lt_irrefl _ (HK.out.m.ltX _ hx).2)
          by_cases h0 : coE g.core g.L.length (f, t, k) = 0
          · rw [hy h0] at MP
            have HO := Lib.hid h0
            clear hy hn h0
            go_wp2_with fail
            refine (MP.out _ _ (HK.out.go HSZ.out (below_new _)) (Nat.le_trans HSZ.out (below_new (w := wr) (.cells #[.int .i64 f, .int .i64 t, .int .i64 k] 46)).size) (sl_at rfl) HNX.out).mono ?_
            rintro e w5 ⟨g', rfl, hs, hi⟩
            obtain ⟨a1, a2, a3, a4, a5⟩ := (HK.out.go HSZ.out (below_new (.cells #[.int .i64 f, .int .i64 t, .int .i64 k] 46))).step hs HB0.out.2.2 (Nat.le_trans HSZ.out (below_new (w := wr) (.cells #[.int .i64 f, .int .i64 t, .int .i64 k] 46)).size)
            have hi : Gis g' (coN g.core (f, t, k)) (g.L ++ [(f, t, k)]) := hi
            have HTT := Lib.hid (show kyB g'.P :: g.T = g'.T by
              have h1 : g'.T = (coN g.core (f, t, k)).2.1 := congrArg (fun A : GCore => A.2.1) hi.a
              have h2 : g'.P = (coN g.core (f, t, k)).1 := congrArg (fun A : GCore => A.1) hi.a
              rw [h1, coW_next2, ← h2]; rfl)
            have HGN := Lib.hid (show g'.gb = gb ∧ Gis g' g'.core g'.L ∧ coW g'.core ∧ g'.L.length ≤ i + 1 from ⟨hs.s.1.trans HG.out.1, ⟨rfl, rfl, hi.p, by rw [hi.l]; exact hi.t⟩, by rw [hi.a]; exact coW_next _ _, by rw [hi.l, List.length_append, List.length_cons, List.length_nil]; have := HG.out.2.2.2; omega⟩)
            have HTL := Lib.hid (show g.T.length ≤ 1000000 from by have := HG.out.2.1.t; have := HG.out.2.2.2; have := HLN.out; omega)
            have HW5 := Lib.hid (show GW w2.heap.size g' w5 ∧ BW w5 bb mbb g.T ∧ Below w2.heap.size w2 w5 ∧ EN B w5 ∧ w2.heap.size ≤ w5.heap.size from ⟨hs.m, a1, a3, a4, a5⟩)
            have HNE := Lib.hid a2
            have HBB := Lib.hid HK.out.hb
            clear hs hi a1 a2 a3 a4 a5 MP HK HG HSZ HNX
            have MNW := Lib.hid (fun W (h : GW w2.heap.size g' W) => gnow_any w2.heap.size g' W h)
            have MPT := Lib.hid (fun W (h : BW W bb mbb g.T) (e : EN B W) => put_any12 B bb mbb g.T g'.P (right_in (pos_parts g'.P HGN.out.2.1.p).1) HTL.out W h e)
            obtain ⟨Xn, hXn⟩ : ∃ X, X = (pc g'.P).toArray := ⟨_, rfl⟩
            rw [← hXn] at MNW MPT
            rw [HGN.out.1] at MNW
            clear hXn
            dsimp only
            refine list_go (by assumption) ?_
            go_wp2_with fail
            refine (MNW.out _ HW5.out.1).mono ?_
            rintro e w6 ⟨rfl, hb⟩
            replace HW5 := Lib.hid (show GW w2.heap.size g' w6 ∧ BW w6 bb mbb g.T ∧ Below w2.heap.size w2 w6 ∧ EN B w6 ∧ w2.heap.size ≤ w6.heap.size from ⟨HW5.out.1.go hb, HW5.out.2.1.go hb, HW5.out.2.2.1.trans (hb.mono HW5.out.2.2.2.2), HW5.out.2.2.2.1.go hb, Nat.le_trans HW5.out.2.2.2.2 hb.size⟩)
            clear hb MNW
            dsimp only
            refine list_go (by assumption) ?_
            go_wp2_with fail
            refine (MPT.out _ HW5.out.2.1 HW5.out.2.2.2.1).mono ?_
            rintro e w7 ⟨rfl, hk, h2⟩
            have HF := Lib.hid (show GT B w2.heap.size bb mbb g' w2 w7 ∧ w2.heap.size ≤ w7.heap.size from ⟨GT.put (T := g.T) HW5.out.1 HNE.out HBB.out HW5.out.2.2.1 HW5.out.2.2.2.1 HB0.out.2.2 HW5.out.2.2.2.2 (by rw [← HTT.out]; exact hk) h2, Nat.le_trans HW5.out.2.2.2.2 h2.size⟩)
            clear hk h2 MPT HW5
            dsimp only
            refine list_go (by assumption) ?_
            go_wp2
            go_roundw
            case rel => exact ⟨i + 1, g', by omega, by go_num, HGN.out, HF.out.1, HF.out.2⟩
            case measure => simp [intOf]; omega
          · rw [hn h0] at MP
            have HO := Lib.hid h0
            obtain ⟨er, her⟩ : ∃ e, coE g.core g.L.length (f, t, k) = e := ⟨_, rfl⟩
            rw [her] at MP h0
            have h0' : (er == 0) = false := beq_eq_false_iff_ne.2 h0
            clear hy hn h0 her
            go_wp2_with fail
            refine (MP.out _ _ (HK.out.go HSZ.out (below_new _)) (Nat.le_trans HSZ.out (below_new (w := wr) (.cells #[.int .i64 f, .int .i64 t, .int .i64 k] 46)).size) (sl_at rfl) HNX.out).mono ?_
            rintro e w5 ⟨g', rfl, hs, hi⟩
            have HF := Lib.hid (show (g'.gb = gb ∧ Gis g' g'.core g'.L ∧ coW g'.core ∧ g'.L.length ≤ i + 1) ∧ GT B w2.heap.size bb mbb g' w2 w5 ∧ w2.heap.size ≤ w5.heap.size from by
              obtain ⟨a1, a2, a3, a4, a5⟩ := (HK.out.go HSZ.out (below_new (.cells #[.int .i64 f, .int .i64 t, .int .i64 k] 46))).step hs HB0.out.2.2 (Nat.le_trans HSZ.out (below_new (w := wr) (.cells #[.int .i64 f, .int .i64 t, .int .i64 k] 46)).size)
              have hi : Gis g' g.core g.L := hi
              have ht : g'.T = g.T := congrArg (fun A : GCore => A.2.1) hi.a
              exact ⟨⟨hs.s.1.trans HG.out.1, ⟨rfl, rfl, hi.p, by rw [hi.l]; exact hi.t⟩, by rw [hi.a]; exact HG.out.2.2.1, by rw [hi.l]; have := HG.out.2.2.2; omega⟩, ⟨hs.m, by rw [ht]; exact a1, a2, HK.out.hb, a3, a4⟩, a5⟩)
            clear hs hi MP HK HG HSZ HNX
            dsimp only
            refine list_go (by assumption) ?_
            go_wp2
            go_roundw
            case rel => exact ⟨i + 1, g', by omega, by go_num, HF.out.1, HF.out.2.1, HF.out.2.2⟩
            case measure => simp [intOf]; omega
        · obtain rfl : i = n := by omega
          have HLL := Lib.hid (show g.n ≤ 1000000 ∧ g.L.length ≤ 100000 from by
            have h1 := HG.out.2.1.t
            have h2 := HG.out.2.2.2
            have h3 := HLN.out
            have h4 : g.n = cntT g.T (kyB g.P) := HG.out.2.2.1.1
            have h5 := cntT_le g.T (kyB g.P)
            omega)
          have HP := Lib.hid HG.out.2.1.p
          have MR := Lib.hid (fun W (h : GT B w2.heap.size bb mbb g w2 W) => gresult_any w2.heap.size g W h.m)
          have MMY := Lib.hid (fun y W (h : GT B w2.heap.size bb mbb g w2 W) => gmay_any B w2.heap.size g y HLL.out.1 W h.m h.e)
          have MNW := Lib.hid (fun W (h : GT B w2.heap.size bb mbb g w2 W) => gnow_any w2.heap.size g W h.m)
          have MMN := Lib.hid (fun W (h : GT B w2.heap.size bb mbb g w2 W) => many_any B bb mbb g.T g.P (right_in (pos_parts g.P HP.out).1) W h.k h.e)
          have MFF := Lib.hid (fun W (h : GT B w2.heap.size bb mbb g w2 W) => fifty_any g.P W B h.e.gb h.e.gs h.e.gm h.e.gp h.e.k)
          have MCP := Lib.hid (fun W (h : GT B w2.heap.size bb mbb g w2 W) (hs : w2.heap.size ≤ W.heap.size) => gcopy_any B w2.heap.size g HLL.out.2 W h.m h.e HB0.out.2.2 hs)
          have MST := Lib.hid (fun W (h : GW w2.heap.size g W) => gstop_any w2.heap.size g why W h)
          rw [HG.out.1] at MR MMY MNW MCP MST
          rw [show cntT g.T (kyB g.P) = g.n from HG.out.2.2.1.1.symm] at MMN
          obtain ⟨Xn, hXn⟩ : ∃ X, X = (pc g.P).toArray := ⟨_, rfl⟩
          have HXN := Lib.hid hXn
          rw [← hXn] at MNW MMN MFF
          clear hXn
          have HM6 := Lib.hid (show g.may 6 = if g.r = 0 then decide ((3 : Int) ≤ (g.n : Int)) else false from by
            unfold Gm.may Gm.cl
            rw [if_pos rfl]
            split
            · exact decide_eq_decide.2 (by omega)
            · rfl)
          have HM7 := Lib.hid (show g.may 7 = if g.r = 0 then atB g.P 100 else false from rfl)
          have HMO := Lib.hid (show why ≠ 6 → why ≠ 7 → g.may why = false from fun h1 h2 => by
            unfold Gm.may Gm.cl
            rw [if_neg h1, if_neg h2]
            split <;> rfl)
          have HNB := HLL.out.1
          obtain ⟨t7, h7⟩ : ∃ t, atB g.P 100 = t := ⟨_, rfl⟩
          rw [h7] at HM7 MFF
          clear h7
          obtain ⟨op, hop⟩ : ∃ b, (g.r == 0) = b := ⟨_, rfl⟩
          go_wp2_with fail
          refine (MR.out _ HK.out).mono ?_
          rintro e w5 ⟨rfl, hb⟩
          replace HK := Lib.hid (HK.out.go HSZ.out hb)
          replace HSZ := Lib.hid (Nat.le_trans HSZ.out hb.size)
          clear hb
          dsimp only
          refine list_go (by assumption) ?_
          go_upto_region 16 with (fail)
          go_cut [96] from 62 to 95 (fun v96 wx => v96 = .bool false ∧ GT B w2.heap.size bb mbb g w2 wx ∧ w2.heap.size ≤ wx.heap.size)
          case first =>
            have MM6 := Lib.hid (MMY.out 6)
            have MM7 := Lib.hid (MMY.out 7)
            have MMW := Lib.hid (MMY.out why)
            rw [HM6.out] at MM6
            rw [HM7.out] at MM7
            clear MMY HM6 HM7 MCP MST
            cases op
            · have hr : g.r ≠ 0 := fun e => by rw [e] at hop; cases hop
              rw [if_neg hr] at MM6 MM7
              have hmw : g.may why = false := by unfold Gm.may; rw [if_neg hr]
              rw [hmw] at MMW
              clear hr hmw hop
              go_wp2_with fail
              refine (MM6.out _ HK.out).mono ?_
              rintro e w6 ⟨rfl, hb⟩
              replace HK := Lib.hid (HK.out.go HSZ.out hb)
              replace HSZ := Lib.hid (Nat.le_trans HSZ.out hb.size)
              clear hb
              dsimp only
              refine list_go (by assumption) ?_
              go_wp2_with fail
              refine (MM7.out _ HK.out).mono ?_
              rintro e w7 ⟨rfl, hb⟩
              replace HK := Lib.hid (HK.out.go HSZ.out hb)
              replace HSZ := Lib.hid (Nat.le_trans HSZ.out hb.size)
              clear hb
              dsimp only
              refine list_go (by assumption) ?_
              go_wp2_with fail
              refine (MMW.out _ HK.out).mono ?_
              rintro e w8 ⟨rfl, hb⟩
              replace HK := Lib.hid (HK.out.go HSZ.out hb)
              replace HSZ := Lib.hid (Nat.le_trans HSZ.out hb.size)
              clear hb
              dsimp only
              refine list_go (by assumption) ?_
              go_wp2_with fail
              go_meet
              exact ⟨by rfl, HK.out, HSZ.out⟩
            · have hr : g.r = 0 := by simpa using hop
              rw [if_pos hr] at MM6 MM7
              obtain ⟨t6, h6⟩ : ∃ t, decide ((3 : Int) ≤ (g.n : Int)) = t := ⟨_, rfl⟩
              rw [h6] at MM6
              clear hr hop
              go_wp2_with fail
              refine (MM6.out _ HK.out).mono ?_
              rintro e w6 ⟨rfl, hb⟩
              replace HK := Lib.hid (HK.out.go HSZ.out hb)
              replace HSZ := Lib.hid (Nat.le_trans HSZ.out hb.size)
              clear hb
              dsimp only
              refine list_go (by assumption) ?_
              go_wp2_with fail
              refine (MNW.out _ HK.out).mono ?_
              rintro e w7 ⟨rfl, hb⟩
              replace HK := Lib.hid (HK.out.go HSZ.out hb)
              replace HSZ := Lib.hid (Nat.le_trans HSZ.out hb.size)
              clear hb
              dsimp only
              refine list_go (by assumption) ?_
              go_wp2_with fail
              refine (MMN.out _ HK.out).mono ?_
              rintro e w8 ⟨rfl, hb⟩
              replace HK := Lib.hid (HK.out.go HSZ.out hb)
              replace HSZ := Lib.hid (Nat.le_trans HSZ.out hb.size)
              clear hb
              dsimp only
              refine list_go (by assumption) ?_
              go_wp2_with fail
              refine (MM7.out _ HK.out).mono ?_
              rintro e w9 ⟨rfl, hb⟩
              replace HK := Lib.hid (HK.out.go HSZ.out hb)
              replace HSZ := Lib.hid (Nat.le_trans HSZ.out hb.size)
              clear hb
              dsimp only
              refine list_go (by assumption) ?_
              go_wp2_with fail
              refine (MNW.out _ HK.out).mono ?_
              rintro e w10 ⟨rfl, hb⟩
              replace HK := Lib.hid (HK.out.go HSZ.out hb)
              replace HSZ := Lib.hid (Nat.le_trans HSZ.out hb.size)
              clear hb
              dsimp only
              refine list_go (by assumption) ?_
              go_wp2_with fail
              refine (MFF.out _ HK.out).mono ?_
              rintro e w11 ⟨rfl, hb⟩
              replace HK := Lib.hid (HK.out.go HSZ.out hb)
              replace HSZ := Lib.hid (Nat.le_trans HSZ.out hb.size)
              clear hb
              dsimp only
              refine list_go (by assumption) ?_
              by_cases y6 : why = 6
              · subst y6
                obtain ⟨mw, hmw⟩ : ∃ m, g.may 6 = m := ⟨_, rfl⟩
                rw [hmw] at MMW
                clear hmw
                go_wp2_with fail
                refine (MMW.out _ HK.out).mono ?_
                rintro e w12 ⟨rfl, hb⟩
                replace HK := Lib.hid (HK.out.go HSZ.out hb)
                replace HSZ := Lib.hid (Nat.le_trans HSZ.out hb.size)
                clear hb
                dsimp only
                refine list_go (by assumption) ?_
                cases mw
                all_goals (go_wp2_with fail; go_meet; exact ⟨by rfl, HK.out, HSZ.out⟩)
              · by_cases y7 : why = 7
                · subst y7
                  obtain ⟨mw, hmw⟩ : ∃ m, g.may 7 = m := ⟨_, rfl⟩
                  rw [hmw] at MMW
                  clear hmw
                  go_wp2_with fail
                  refine (MMW.out _ HK.out).mono ?_
                  rintro e w12 ⟨rfl, hb⟩
                  replace HK := Lib.hid (HK.out.go HSZ.out hb)
                  replace HSZ := Lib.hid (Nat.le_trans HSZ.out hb.size)
                  clear hb
                  dsimp only
                  refine list_go (by assumption) ?_
                  cases mw
                  all_goals (go_wp2_with fail; go_meet; exact ⟨by rfl, HK.out, HSZ.out⟩)
                · rw [HMO.out y6 y7] at MMW
                  go_wp2_with fail
                  refine (MMW.out _ HK.out).mono ?_
                  rintro e w12 ⟨rfl, hb⟩
                  replace HK := Lib.hid (HK.out.go HSZ.out hb)
                  replace HSZ := Lib.hid (Nat.le_trans HSZ.out hb.size)
                  clear hb
                  dsimp only
                  refine list_go (by assumption) ?_
                  go_wp2_with fail
                  go_meet
                  exact ⟨by rfl, HK.out, HSZ.out⟩
          case rest =>
          obtain ⟨rfl, h1, h2⟩ := hcut
          replace HK := Lib.hid h1
          replace HSZ := Lib.hid h2
          clear h1 h2 HM6 HM7 MMN MFF
          go_upto_region 18 with (fail)
          have MMW := Lib.hid (fun W (h : GW w2.heap.size g W) (e : EN B W) => gmay_any B w2.heap.size g why HLL.out.1 W h e)
          have MRS := Lib.hid (fun W (h : GW w2.heap.size (g.stG why) W) => gresult_any w2.heap.size (g.stG why) W h)
          have MNS := Lib.hid (fun W (h : GW w2.heap.size (g.stG why) W) => gnow_any w2.heap.size (g.stG why) W h)
          have HSG := Lib.hid (show (g.stG why).gb = gb ∧ (g.stG why).P = g.P by unfold Gm.stG; split <;> exact ⟨HG.out.1, rfl⟩)
          rw [HSG.out.1] at MRS MNS
          rw [HSG.out.2, ← HXN.out] at MNS
          obtain ⟨mw, hmw⟩ : ∃ m, g.may why = m := ⟨_, rfl⟩
          rw [hmw, HG.out.1] at MMW
          clear MMY MR MNW
          go_wp2_with fail
          refine (MCP.out _ HK.out HSZ.out).mono ?_
          rintro e w6 ⟨cb, b2, m2, v2, rfl, hc, hb⟩
          obtain ⟨c, hcc⟩ : ∃ c, ({ g with gb := cb, b := b2, mb := m2, mv := v2 } : Gm) = c := ⟨_, rfl⟩
          have HCB := Lib.hid (show c.gb = cb ∧ c.n ≤ 1000000 ∧ c.may why = mw ∧ c.r = g.r ∧ c.y = g.y from by rw [← hcc]; exact ⟨rfl, HLL.out.1, hmw, rfl, rfl⟩)
          rw [hcc] at hc
          have HGX := Lib.hid (fun k (hk : g.X k) => (HK.out.m.ltX k hk).2)
          replace HK := Lib.hid (show GW w2.heap.size g w6 ∧ Below w2.heap.size w2 w6 ∧ EN B w6 ∧ w2.heap.size ≤ w6.heap.size ∧ w2.heap.size ≤ cb from ⟨HK.out.m.go hb, HK.out.bl.trans (hb.mono HSZ.out), HK.out.e.go hb, Nat.le_trans HSZ.out hb.size, by have := hc.hg; rw [HCB.out.1] at this; exact Nat.le_trans HSZ.out this⟩)
          have HC := Lib.hid hc
          have HGC := Lib.hid (show ∀ k, g.X k → k ≠ cb from fun k hk e => by have := hc.hg; rw [HCB.out.1] at this; have := HGX.out k hk; omega)
          clear hc hb MCP HGX hcc HSZ hmw
          generalize wc.heap.size = cbs at *
          dsimp only
          refine list_go (by assumption) ?_
          have MCL := Lib.hid (fun W (h : GW cbs c W) (e : EN B W) => gclaim_any B cbs c why HCB.out.2.1 W h e)
          obtain ⟨c', hc'⟩ : ∃ c', c.clG why = c' := ⟨_, rfl⟩
          have HCC := Lib.hid (cl_cases c why)
          have HCB2 := Lib.hid (show c'.gb = cb by rw [← hc']; unfold Gm.clG; split <;> exact HCB.out.1)
          rw [hc', HCB.out.2.2.1, HCB.out.2.2.2.1, HCB.out.2.2.2.2] at HCC
          rw [hc', HCB.out.1] at MCL
          have MRC := Lib.hid (fun W (h : GW cbs c' W) => gresult_any cbs c' W h)
          rw [HCB2.out] at MRC
          obtain ⟨ce, hce⟩ : ∃ e, c.clE why = e := ⟨_, rfl⟩
          obtain ⟨rr, hrr⟩ : ∃ e, c'.r = e := ⟨_, rfl⟩
          obtain ⟨ry, hry⟩ : ∃ e, c'.y = e := ⟨_, rfl⟩
          rw [hce] at MCL
          rw [hce, hrr, hry] at HCC
          rw [hrr, hry] at MRC
          clear hc' hce hrr hry
          go_wp2_with fail
          refine (MMW.out _ HK.out.1 HK.out.2.2.1).mono ?_
          rintro e w7 ⟨rfl, hb⟩
          replace HK := Lib.hid (show GW w2.heap.size g w7 ∧ Below w2.heap.size w2 w7 ∧ EN B w7 ∧ w2.heap.size ≤ w7.heap.size ∧ w2.heap.size ≤ cb from ⟨HK.out.1.go hb, HK.out.2.1.trans (hb.mono HK.out.2.2.2.1), HK.out.2.2.1.go hb, Nat.le_trans HK.out.2.2.2.1 hb.size, HK.out.2.2.2.2⟩)
          replace HC := Lib.hid (HC.out.go hb)
          clear hb MMW
          dsimp only
          refine list_go (by assumption) ?_
          go_wp2_with fail
          refine (MCL.out _ HC.out HK.out.2.2.1).mono ?_
          rintro e w8 ⟨rfl, hd⟩
          replace HC := Lib.hid hd.m
          replace HK := Lib.hid (show GW w2.heap.size g w8 ∧ Below w2.heap.size w2 w8 ∧ EN B w8 ∧ w2.heap.size ≤ w8.heap.size from by
            have hc := hd.c
            rw [HCB.out.1] at hc
            exact ⟨HK.out.1.ch hc fun k hk e => HGC.out k hk e, hc.below HK.out.2.1 HK.out.2.2.2.1 fun k hk e => by have := HK.out.2.2.2.2; omega, HK.out.2.2.1.on (hc.below (Below.refl B w7) HK.out.2.2.1.k fun k hk e => by have := HK.out.2.2.2.2; have := HB0.out.2.2; omega), Nat.le_trans HK.out.2.2.2.1 hc.size⟩)
          clear hd MCL HGC
          dsimp only
          refine list_go (by assumption) ?_
          go_wp2_with fail
          refine (MRC.out _ HC.out).mono ?_
          rintro e w9 ⟨rfl, hb⟩
          replace HK := Lib.hid (show GW w2.heap.size g w9 ∧ Below w2.heap.size w2 w9 ∧ w2.heap.size ≤ w9.heap.size from ⟨HK.out.1.go hb, HK.out.2.1.trans (hb.mono HK.out.2.2.2), Nat.le_trans HK.out.2.2.2 hb.size⟩)
          clear hb MRC HC
          dsimp only
          refine list_go (by assumption) ?_
          go_upto_region 21 with (fail)
          go_cut [139] from 110 to 138 (fun v139 wx => v139 = .bool false ∧ wx = w9)
          case first =>
            rcases HCC.out with ⟨rfl, rfl, rfl, rfl⟩ | ⟨rfl, h0, rfl, rfl⟩
            · clear HCC
              go_wp2_with fail
              go_meet
              exact ⟨by rfl, rfl⟩
            · have e0 : (ce == 0) = false := beq_eq_false_iff_ne.2 h0
              clear HCC
              go_wp2_with fail
              go_meet
              exact ⟨by rfl, rfl⟩
          case rest =>
          obtain ⟨rfl, rfl⟩ := hcut
          clear HCC HCB HCB2
          go_upto_region 23 with (fail)
          obtain ⟨se, hse⟩ : ∃ e, g.stE why = e := ⟨_, rfl⟩
          have HSC := Lib.hid (st_cases g why)
          obtain ⟨zr, hzr⟩ : ∃ e, (g.stG why).r = e := ⟨_, rfl⟩
          obtain ⟨zy, hzy⟩ : ∃ e, (g.stG why).y = e := ⟨_, rfl⟩
          rw [hse, hzr, hzy] at HSC
          rw [hse] at MST
          rw [hzr, hzy] at MRS
          clear hse hzr hzy
          go_wp2_with fail
          refine (MST.out _ HK.out.1).mono ?_
          rintro e w10 ⟨rfl, hd⟩
          have HS2 := Lib.hid (show GW w2.heap.size (g.stG why) w10 ∧ Below w2.heap.size w2 w10 ∧ w2.heap.size ≤ w10.heap.size from ⟨hd.m, hd.c.below HK.out.2.1 HK.out.2.2 fun k hk e => by have := HK.out.1.hg; omega, Nat.le_trans HK.out.2.2 hd.c.size⟩)
          clear hd MST HK
          dsimp only
          refine list_go (by assumption) ?_
          go_wp2_with fail
          refine (MRS.out _ HS2.out.1).mono ?_
          rintro e w11 ⟨rfl, hb⟩
          replace HS2 := Lib.hid (show GW w2.heap.size (g.stG why) w11 ∧ Below w2.heap.size w2 w11 ∧ w2.heap.size ≤ w11.heap.size from ⟨HS2.out.1.go hb, HS2.out.2.1.trans (hb.mono HS2.out.2.2), Nat.le_trans HS2.out.2.2 hb.size⟩)
          clear hb MRS
          dsimp only
          refine list_go (by assumption) ?_
          have HFB := Lib.hid (fun W (b : Below w2.heap.size w2 W) => show Below W0.heap.size W0 W from HB0.out.1.trans (b.mono HB0.out.2.1))
          rcases HSC.out with ⟨hy, hr, rfl, rfl, hz⟩ | ⟨hy, hr, rfl, rfl, rfl⟩ | ⟨⟨h8, h9, h10⟩, rfl, rfl, rfl⟩
          · have hop1 : op = true := by rw [← hop, hr]; rfl
            subst hop1
            have HD := Lib.hid (show g.P 128 = 0 ∨ g.P 128 = 1 from right_side g.P (pos_parts g.P HP.out).1)
            clear HSC hop hr
            rcases hy with rfl | rfl | rfl
            · obtain rfl : zr = 3 := hz
              go_wp2
              go_ret
              exact ⟨rfl, HFB.out _ HS2.out.2.1⟩
            all_goals
              replace hz : zr = winN (oth (g.P 128)) := hz
              rcases HD.out with hd | hd
              · rw [hd] at hz
                have hq : zr = 2 := hz
                clear hz
                subst hq
                go_wp2_with fail
                refine (MNS.out _ HS2.out.1).mono ?_
                rintro e w12 ⟨rfl, hb⟩
                replace HS2 := Lib.hid (show Below w2.heap.size w2 w12 from HS2.out.2.1.trans (hb.mono HS2.out.2.2))
                clear hb MNS
                dsimp only
                refine list_go (by assumption) ?_
                have hf := fun w => field_side Xn g.P HXN.out w
                rw [hd] at hf
                clear hd
                have hw0 : winN 0 = 1 := rfl
                have hw1 : winN 1 = 2 := rfl
                go_wp2_with fail
                refine (wins_any _ _).mono ?_
                rintro e w13 ⟨rfl, rfl⟩
                dsimp only
                refine list_go (by assumption) ?_
                go_wp2
                go_ret
                exact ⟨rfl, HFB.out _ HS2.out⟩
              · rw [hd] at hz
                have hq : zr = 1 := hz
                clear hz
                subst hq
                go_wp2_with fail
                refine (MNS.out _ HS2.out.1).mono ?_
                rintro e w12 ⟨rfl, hb⟩
                replace HS2 := Lib.hid (show Below w2.heap.size w2 w12 from HS2.out.2.1.trans (hb.mono HS2.out.2.2))
                clear hb MNS
                dsimp only
                refine list_go (by assumption) ?_
                have hf := fun w => field_side Xn g.P HXN.out w
                rw [hd] at hf
                clear hd
                have hw0 : winN 0 = 1 := rfl
                have hw1 : winN 1 = 2 := rfl
                go_wp2_with fail
                refine (wins_any _ _).mono ?_
                rintro e w13 ⟨rfl, rfl⟩
                dsimp only
                refine list_go (by assumption) ?_
                go_wp2
                go_ret
                exact ⟨rfl, HFB.out _ HS2.out⟩
          · have hop1 : op = false := by rw [← hop]; exact beq_eq_false_iff_ne.2 hr
            subst hop1
            clear HSC hop hr
            rcases hy with rfl | rfl | rfl
            all_goals
              go_wp2
              go_ret
              exact ⟨rfl, HFB.out _ HS2.out.2.1⟩
          · have e8 : (why == 8) = false := beq_eq_false_iff_ne.2 h8
            have e9 : (why == 9) = false := beq_eq_false_iff_ne.2 h9
            have e10 : (why == 10) = false := beq_eq_false_iff_ne.2 h10
            clear HSC hop h8 h9 h10
            cases op
            all_goals
              go_wp2
              go_ret
              exact ⟨rfl, HFB.out _ HS2.out.2.1⟩
end Go.Proofs.YtkncfeijlmomaaaGreatDoor
