/-
  Games: From, New, Copy.
-/
import Derived.Test.YtkncfeijlmomaaaGreatDoorLh
namespace Go.Proofs.YtkncfeijlmomaaaGreatDoor
open Go.RowKit Go.Sort Go.Maps
set_option linter.unusedSimpArgs false
set_option linter.unusedVariables false
set_option maxRecDepth 20000

/-- an empty book in a world -/
theorem gnewbook_any (B : Nat) (w : World) (he : EN B w) :
    Calls Tryz.prog 26 #[.slice none 0 0] w fun e w' => ∃ b mb, e = .returned (.pointer (some ⟨b, 0, none⟩)) ∧ BW w' b mb [] ∧ Below w.heap.size w w' ∧ w.heap.size ≤ b ∧ w.heap.size ≤ mb := by
  refine (new_any12 B none 0 0 (fun _ _ => 0) (fun i hi => absurd hi (Nat.not_lt_zero _)) (by omega) w he (.inl rfl)).mono ?_
  rintro e w' ⟨b, mb, h1, h2⟩
  exact ⟨b, mb, h1, h2.k, h2.bl, h2.hb, h2.hm⟩
/-- a shelf's cells -/
def shC (P : Nat → Int) (b : Nat) (n : Int) : List Value := pc P ++ [.pointer (some ⟨b, 0, none⟩), .int .i64 n]
theorem shC_len (P : Nat → Int) (b : Nat) (n : Int) : (shC P b n).length = 135 := by unfold shC; rw [List.length_append, pc_len]; rfl
theorem shC_size (P : Nat → Int) (b : Nat) (n : Int) : (shC P b n).toArray.size = 135 := (List.size_toArray ..).trans (shC_len P b n)
theorem shC_one (P : Nat → Int) (b : Nat) (n : Int) : (shC P b n).toArray.all (·.oneCell') = true := by
  refine all_oneCell_toArray fun v hv => ?_
  unfold shC at hv
  rcases List.mem_append.1 hv with h | h
  · exact (Array.all_eq_true_iff_forall_mem.1 (pc_one P)) v (by simpa using h)
  · simp only [List.mem_cons, List.not_mem_nil, or_false] at h
    rcases h with rfl | rfl <;> rfl
theorem zeroSh0 : Tryz.zeroCells78 = (pc (fun _ => 0) ++ [Value.pointer none, Value.int .i64 0]).toArray := by kernel_rfl
theorem zeroSh (b : Nat) : Tryz.zeroCells78.setIfInBounds 133 (.pointer (some ⟨b, 0, none⟩)) = (shC (fun _ => 0) b 0).toArray := by
  rw [zeroSh0]
  unfold shC
  rw [List.setIfInBounds_toArray, List.set_append_right _ _ (by rw [pc_len]; omega), pc_len]
  rfl
theorem infoSh : (Tryz.prog.info? 78).map (·.size) = some 135 := by kernel_rfl
theorem there_row {W : World} {b n : Nat} {cs : Array Value} {t : TypeId} (h : W.heap[b]? = some (.cells cs t (0, 0))) (hn : n ≤ cs.size) : W.there b 0 n := fun j hj => by
  rw [Nat.zero_add, cell_of_row W b j _ _ (0, 0) h, frozen_of_row W b j _ _ h]
  exact ⟨by rw [Array.getElem?_eq_getElem (by omega)]; rfl, rfl⟩
set_option maxHeartbeats 4000000 in
set_option maxRecDepth 100000 in
theorem gempty_any (B : Nat) (w : World) (he : EN B w) :
    Calls Tryz.prog 39 #[] w fun e w' => ∃ b mb, e = .returned (.agg (shC (fun _ => 0) b 0).toArray) ∧ BW w' b mb [] ∧ Below w.heap.size w w' ∧ w.heap.size ≤ b ∧ w.heap.size ≤ mb := by
  have MN := Lib.hid (fun W (h : EN B W) => gnewbook_any B W h)
  have HE := Lib.hid he
  clear he
  go_enter Tryz.func39, Tryz.ntmps39
  go_upto_region 1 with (fail)
  refine forget_B (fun W => W.heap[w.heap.size]? = some (.cells Tryz.zeroCells78 78 (0, 0)) ∧ EN B W ∧ Below w.heap.size w W) ⟨sl_at rfl, HE.out.go (below_new _), below_new _⟩ ?_
  rintro W ⟨h1, h2, h3⟩
  have HC := Lib.hid h1
  have HE2 := Lib.hid h2
  have HB := Lib.hid h3
  clear h1 h2 h3 HE
  go_wp2_with fail
  refine (MN.out _ HE2.out).mono ?_
  rintro e w1 ⟨b, mb, rfl, hk, hb, hb1, hb2⟩
  have HK := Lib.hid (show BW w1 b mb [] ∧ w.heap.size ≤ b ∧ w.heap.size ≤ mb ∧ w.heap.size ≠ b ∧ w.heap.size ≠ mb from ⟨hk, Nat.le_trans HB.out.size hb1, Nat.le_trans HB.out.size hb2, by have := (Array.getElem?_eq_some_iff.1 HC.out).1; omega, by have := (Array.getElem?_eq_some_iff.1 HC.out).1; omega⟩)
  replace HC := Lib.hid (sl_go HC.out hb)
  replace HB := Lib.hid (HB.out.trans (hb.mono HB.out.size))
  clear hk hb hb1 hb2 MN HE2
  dsimp only
  refine list_go (by assumption) ?_
  refine wpList_plain rfl (fun K hK => ?_)
  go_simp
  refine hK _ _ ?_
  clear hK K
  refine wpList_store_mid rfl 78 _ _ rfl w.heap.size 0 (shC (fun _ => 0) b 0).toArray rfl (congrArg Value.agg (zeroSh b)) (by rw [shC_size]; exact there_row HC.out (by rw [zeroSh0]; simp [pc_len])) (by rw [infoSh, shC_size]) (shC_one _ _ _) ?_
  rw [List.toList_toArray]
  have HR := Lib.hid (World.rangeAt_setCells_same w1 w.heap.size 0 (shC (fun _ => 0) b 0) (by rw [shC_len]; exact there_row HC.out (by rw [zeroSh0]; simp [pc_len])))
  have HC2 := Lib.hid (Ch.gr (X := fun k => k = w.heap.size) (grs_B (hb := w.heap.size) (shC (fun _ => 0) b 0) 0 w1) rfl)
  have HF := Lib.hid (show BW (w1.setCells w.heap.size 0 (shC (fun _ => 0) b 0)) b mb [] ∧ Below w.heap.size w (w1.setCells w.heap.size 0 (shC (fun _ => 0) b 0)) from ⟨HC2.out.bw HK.out.1 (fun e => HK.out.2.2.2.1 e.symm) (fun e => HK.out.2.2.2.2 e.symm), HC2.out.below HB.out HB.out.size (fun k hk e => by omega)⟩)
  clear HC HB HC2
  generalize w1.setCells w.heap.size 0 (shC (fun _ => 0) b 0) = W8 at *
  show Exit.then _ _ Exit.normal _ _
  refine ret_go (by assumption) ?_
  repeat (first | refine then_ret ?_ | refine block_ret ?_)
  refine bodyPost_ret (v := .agg (shC (fun _ => 0) b 0).toArray) ?_ rfl ⟨b, mb, rfl, HF.out.1, HF.out.2, HK.out.2.1, HK.out.2.2.1⟩
  exact results_cell_mid (p := 0) (ty := 78) rfl _ W8 w.heap.size _ _ rfl HR.out Tryz.underlying78 rfl (by rw [infoSh, shC_len])
theorem fold_zip (tail : List Value) : ∀ (L old pre : List Value), old.length = L.length →
    List.foldl (fun (cs : Array Value) (x : Value × Nat) => cs.setIfInBounds x.2 x.1) (pre ++ old ++ tail).toArray (L.zipIdx pre.length) = (pre ++ L ++ tail).toArray
  | [], old, pre, h => by
    have : old = [] := List.eq_nil_of_length_eq_zero h
    subst this
    rfl
  | v :: L, [], pre, h => by cases h
  | v :: L, x :: old, pre, h => by
    have ih := fold_zip tail L old (pre ++ [v]) (by simpa using h)
    rw [List.zipIdx_cons, List.foldl_cons]
    have e : (pre ++ x :: old ++ tail).toArray.setIfInBounds pre.length v = (pre ++ [v] ++ old ++ tail).toArray := by
      rw [show pre ++ x :: old ++ tail = pre ++ x :: (old ++ tail) by simp, set_mid pre [] (old ++ tail) x v]
      simp
    show List.foldl _ ((pre ++ x :: old ++ tail).toArray.setIfInBounds pre.length v) _ = _
    rw [e]
    rw [List.length_append, List.length_singleton] at ih
    rw [ih]
    simp
theorem zeroGm0 : Tryz.zeroCells81 = (pc (fun _ => 0) ++ [Value.pointer none, Value.int .i64 0] ++ [Value.slice none 0 0, Value.int .i64 0, Value.int .i64 0, Value.pointer none]).toArray := by kernel_rfl
/-- the cells of a game that is made of a shelf -/
def mkC (P : Nat → Int) (b : Nat) (n : Int) (mv : Value) (r y : Int) : List Value := shC P b n ++ [mv, .int .i64 r, .int .i64 y, .pointer none]
theorem fold_gm (b : Nat) : List.foldl (fun (cs : Array Value) (x : Value × Nat) => cs.setIfInBounds x.snd x.fst) Tryz.zeroCells81 (shC (fun _ => 0) b 0).zipIdx = (mkC (fun _ => 0) b 0 (.slice none 0 0) 0 0).toArray := by
  rw [zeroGm0]
  exact fold_zip _ (shC (fun _ => 0) b 0) (pc (fun _ => 0) ++ [Value.pointer none, Value.int .i64 0]) [] (by rw [shC_len, List.length_append, pc_len]; rfl)
theorem mk_own (g : Gm) (n : Int) (hn : n = (g.n : Int)) : (mkC g.P g.b n g.mv g.r g.y).toArray.setIfInBounds 138 (.pointer (some ⟨g.gb, 0, none⟩)) = (gmP g).toArray := by
  subst hn
  unfold mkC shC gmP gmT
  rw [List.append_assoc, List.setIfInBounds_toArray, List.set_append_right _ _ (by rw [pc_len]; omega), pc_len]
  rfl
theorem mkC_at (P : Nat → Int) (b : Nat) (n : Int) (mv : Value) (r y : Int) : (mkC P b n mv r y).toArray[138]? = some (.pointer none) := by
  unfold mkC shC
  rw [List.append_assoc, List.getElem?_toArray, List.getElem?_append_right (by rw [pc_len]; omega), pc_len]
  rfl
/-- a game that is made: its own pointer is stored -/
theorem GW.made {base : Nat} {g : Gm} {W : World} (n : Int) (hn : n = (g.n : Int)) (h : W.heap[g.gb]? = some (.cells (mkC g.P g.b n g.mv g.r g.y).toArray 81 (0, 0))) (hk : BW W g.b g.mb g.T) (ho : W.ownsRow base 46 3 g.mv g.L.length (mvals g.L))
    (h1 : base ≤ g.gb) (h2 : base ≤ g.b) (h3 : base ≤ g.mb) (hv : g.mv.ownBlock ≠ some g.gb) (hb : g.b ≠ g.gb) (hm : g.mb ≠ g.gb) : GW base g (W.setCell ⟨g.gb, 138, none⟩ (.pointer (some ⟨g.gb, 0, none⟩))) := by
  have gr := gr1_B (hb := g.gb) (i := 138) (w := W) (.pointer (some ⟨g.gb, 0, none⟩))
  have hc : Ch (fun k => k = g.gb) W (W.setCell ⟨g.gb, 138, none⟩ (.pointer (some ⟨g.gb, 0, none⟩))) := Ch.gr gr rfl
  exact ⟨by rw [← mk_own g n hn]; exact Go.heap_setCell_same W g.gb 138 _ _ _ h, hc.bw hk hb hm, hc.own ho fun q hq e => hv (e ▸ hq), h1, h2, h3⟩
/-- a new game, ahead of its position -/
def gz (gb b mb : Nat) : Gm := ⟨gb, b, mb, fun _ => 0, [], 0, .slice none 0 0, [], 0, 0⟩
set_option maxHeartbeats 4000000 in
set_option maxRecDepth 100000 in
theorem gfrom_no (B : Nat) (P : Nat → Int) (hp : posB P = false) (w : World) (he : EN B w) :
    Calls Tryz.prog 9 #[.agg (pc P).toArray] w fun e w' => e = .returned (.tuple #[.pointer none, .int .i64 2]) ∧ Below w.heap.size w w' := by
  obtain ⟨X, hX⟩ : ∃ X, X = (pc P).toArray := ⟨_, rfl⟩
  rw [← hX]
  have HI := Lib.hid (show PB (w.alloc (.cells X 29)) w.heap.size P ∧ EN B (w.alloc (.cells X 29)) ∧ Below w.heap.size w (w.alloc (.cells X 29)) from ⟨by rw [hX]; exact PB.new rfl, he.go (below_new _), below_new _⟩)
  have MP := Lib.hid (fun W (h : EN B W) => position_any P W B h.gb h.gs h.gm h.gp h.k)
  rw [hp, ← hX] at MP
  have HX := Lib.hid hX
  clear hX he
  go_enter Tryz.func9, Tryz.ntmps9
  go_upto_region 1 with (fail)
  generalize w.alloc (.cells X 29) = W0 at *
  go_wp2_with (first | refine wpList_pos (by rfl) _ (by rfl) w.heap.size P X HX.out (by rfl) HI.out.1 ?_ | fail)
  refine (MP.out _ HI.out.2.1).mono ?_
  rintro e w1 ⟨rfl, hb⟩
  dsimp only
  refine list_go (by assumption) ?_
  go_wp2
  go_ret2
  exact ⟨rfl, HI.out.2.2.trans (hb.mono HI.out.2.2.size)⟩
set_option maxHeartbeats 4000000 in
set_option maxRecDepth 100000 in
theorem gfrom_any (B : Nat) (P : Nat → Int) (hp : posB P = true) (w : World) (he : EN B w) :
    Calls Tryz.prog 9 #[.agg (pc P).toArray] w fun e w' => ∃ gb b mb, e = .returned (.tuple #[.pointer (some ⟨gb, 0, none⟩), .int .i64 0]) ∧ GW w.heap.size ((gz gb b mb).comes P) w' ∧ Below w.heap.size w w' := by
  obtain ⟨X, hX⟩ : ∃ X, X = (pc P).toArray := ⟨_, rfl⟩
  rw [← hX]
  have HI := Lib.hid (show PB (w.alloc (.cells X 29)) w.heap.size P ∧ EN B (w.alloc (.cells X 29)) ∧ Below w.heap.size w (w.alloc (.cells X 29)) from ⟨by rw [hX]; exact PB.new rfl, he.go (below_new _), below_new _⟩)
  have MP := Lib.hid (fun W (h : EN B W) => position_any P W B h.gb h.gs h.gm h.gp h.k)
  have ME := Lib.hid (fun W (h : EN B W) => gempty_any B W h)
  have HBW := Lib.hid he.k
  rw [hp, ← hX] at MP
  have HX := Lib.hid hX
  clear hX he
  go_enter Tryz.func9, Tryz.ntmps9
  go_upto_region 1 with (fail)
  generalize w.alloc (.cells X 29) = W0 at *
  go_wp2_with (first | refine wpList_pos (by rfl) _ (by rfl) w.heap.size P X HX.out (by rfl) HI.out.1 ?_ | fail)
  refine (MP.out _ HI.out.2.1).mono ?_
  rintro e w1 ⟨rfl, hb⟩
  replace HI := Lib.hid (show PB w1 w.heap.size P ∧ EN B w1 ∧ Below w.heap.size w w1 from ⟨HI.out.1.go hb, HI.out.2.1.go hb, HI.out.2.2.trans (hb.mono HI.out.2.2.size)⟩)
  clear hb MP
  dsimp only
  refine list_go (by assumption) ?_
  go_wp2_with fail
  refine (ME.out _ HI.out.2.1).mono ?_
  rintro e w2 ⟨b, mb, rfl, hk, hb, hb1, hb2⟩
  have HK := Lib.hid (show w.heap.size < b ∧ w.heap.size < mb from ⟨by have := HI.out.1.lt; omega, by have := HI.out.1.lt; omega⟩)
  have HBK := Lib.hid hk
  replace HI := Lib.hid (show PB w2 w.heap.size P ∧ EN B w2 ∧ Below w.heap.size w w2 from ⟨HI.out.1.go hb, HI.out.2.1.go hb, HI.out.2.2.trans (hb.mono HI.out.2.2.size)⟩)
  clear hb ME hk hb1 hb2
  dsimp only
  refine list_go (by assumption) ?_
  refine wpList_plain rfl (fun K hK => ?_)
  go_simp
  rw [fold_gm]
  refine hK _ _ ?_
  clear hK K
  obtain ⟨E, hE⟩ : ∃ E, E = (mkC (fun _ => 0) b 0 (.slice none 0 0) 0 0).toArray := ⟨_, rfl⟩
  rw [← hE]
  go_upto_region 4 with (fail)
  obtain ⟨gb, hgb⟩ : ∃ b, w2.heap.size = b := ⟨_, rfl⟩
  have HNE := Lib.hid (show b ≠ gb ∧ mb ≠ gb ∧ w.heap.size < gb from ⟨by have := HBK.out.ltb; omega, by have := HBK.out.m.lt; omega, by have := HI.out.1.lt; omega⟩)
  refine forget_B (fun W => PB W w.heap.size P ∧ EN B W ∧ Below w.heap.size w W ∧ BW W b mb [] ∧ W.heap[gb]? = some (.cells (mkC (fun _ => 0) b 0 (.slice none 0 0) 0 0).toArray 81 (0, 0))) ⟨HI.out.1.go (below_new _), HI.out.2.1.go (below_new _), HI.out.2.2.alloc HI.out.2.2.size _, HBK.out.go (below_new _), sl_at hgb.symm⟩ ?_
  rw [hgb]
  clear HI HBK hE hgb
  rintro W ⟨h1, h2, h3, h4, h5⟩
  have HP := Lib.hid h1
  have HE := Lib.hid h2
  have HB := Lib.hid h3
  have HM := Lib.hid (show GW w.heap.size (gz gb b mb) (W.setCell ⟨gb, 138, none⟩ (.pointer (some ⟨gb, 0, none⟩))) from GW.made (base := w.heap.size) (g := gz gb b mb) (W := W) 0 rfl h5 h4 (World.ownsRow_nil _ _ _ _) (by show w.heap.size ≤ gb; have := HNE.out; omega) (by show w.heap.size ≤ b; have := HK.out; omega) (by show w.heap.size ≤ mb; have := HK.out; omega) (by intro e; cases e) HNE.out.1 HNE.out.2.1)
  have c0 : W.cell? ⟨gb, 138, none⟩ = some (.pointer none) := (cell_of_row W gb 138 _ _ (0, 0) h5).trans (mkC_at _ _ _ _ _ _)
  have c1 := frozen_of_row W gb 138 _ _ h5
  have c2 : gb < W.heap.size := (Array.getElem?_eq_some_iff.1 h5).1
  have HC := Lib.hid (Ch.gr (X := fun k => k = gb) (gr1_B (hb := gb) (i := 138) (w := W) (.pointer (some ⟨gb, 0, none⟩))) rfl)
  clear h1 h2 h3 h4 h5
  go_upto_region 5 with (fail)
  clear c0 c1 c2
  have HI := Lib.hid (show PB (W.setCell ⟨gb, 138, none⟩ (.pointer (some ⟨gb, 0, none⟩))) w.heap.size P ∧ EN B (W.setCell ⟨gb, 138, none⟩ (.pointer (some ⟨gb, 0, none⟩))) ∧ Below w.heap.size w (W.setCell ⟨gb, 138, none⟩ (.pointer (some ⟨gb, 0, none⟩))) from
    ⟨HC.out.pb HP.out (fun e => by have := HNE.out; omega), HE.out.on (HC.out.below (Below.refl B W) HE.out.k fun k hk e => by have := HNE.out; have := HBW.out; omega), HC.out.below HB.out HB.out.size fun k hk e => by have := HNE.out; omega⟩)
  clear HC HP HE HB
  generalize W.setCell ⟨gb, 138, none⟩ (.pointer (some ⟨gb, 0, none⟩)) = W2 at *
  have MC := Lib.hid (gcome_any B w.heap.size (gz gb b mb) P (right_in (pos_parts P hp).1) (by show 0 ≤ 999999; omega) W2 HM.out HI.out.2.1 HI.out.2.2.size HBW.out)
  rw [← HX.out] at MC
  have HGB := Lib.hid (show (gz gb b mb).gb = gb from rfl)
  go_wp2_with (first | refine wpList_pos (by rfl) _ (by rfl) w.heap.size P X HX.out (by rfl) HI.out.1 ?_ | fail)
  refine MC.out.mono ?_
  rintro e w9 ⟨rfl, hm, hc⟩
  have HF := Lib.hid (show GW w.heap.size ((gz gb b mb).comes P) w9 ∧ Below w.heap.size w w9 from ⟨hm, hc.below HI.out.2.2 HI.out.2.2.size fun k hk hx => by
    have h1 := HM.out.hg
    have h2 := HM.out.hb
    have h3 := HM.out.hm
    rcases hx with e | e | e <;> omega⟩)
  clear hm hc MC HI HM
  dsimp only
  refine list_go (by assumption) ?_
  go_wp2
  go_ret2
  exact ⟨gb, b, mb, rfl, HF.out.1, HF.out.2⟩
end Go.Proofs.YtkncfeijlmomaaaGreatDoor
