/-
  Games: New, Copy.
-/
import Derived.Test.YtkncfeijlmomaaaGreatDoorLi
import Derived.Test.YtkncfeijlmomaaaGreatDoorG25
import Derived.Test.YtkncfeijlmomaaaGreatDoorLs
namespace Go.Proofs.YtkncfeijlmomaaaGreatDoor
open Go.RowKit Go.Sort Go.Maps
set_option linter.unusedSimpArgs false
set_option linter.unusedVariables false
set_option maxRecDepth 20000

theorem GW.low {base b0 : Nat} {g : Gm} {W : World} (h : GW base g W) (hb : b0 ≤ base) : GW b0 g W :=
  ⟨h.c, h.k, ⟨h.own.1, h.own.2.elim .inl fun ⟨q, cap, cur, e, hq, rest⟩ => .inr ⟨q, cap, cur, e, Nat.le_trans hb hq, rest⟩⟩, Nat.le_trans hb h.hg, Nat.le_trans hb h.hb, Nat.le_trans hb h.hm⟩
set_option maxHeartbeats 4000000 in
set_option maxRecDepth 100000 in
theorem gnew_any (B : Nat) (w : World) (he : EN B w) :
    Calls Tryz.prog 18 #[] w fun e w' => ∃ gb b mb, e = .returned (.pointer (some ⟨gb, 0, none⟩)) ∧ GW w.heap.size ((gz gb b mb).comes startN) w' ∧ Below w.heap.size w w' := by
  have MS := Lib.hid (start_any w B he.gb he.k)
  have MF := Lib.hid (fun W (h : EN B W) => gfrom_any B startN start_pos W h)
  have HE := Lib.hid he
  obtain ⟨X, hX⟩ : ∃ X, X = (pc startN).toArray := ⟨_, rfl⟩
  rw [← hX] at MS MF
  clear he hX
  go_enter Tryz.func18, Tryz.ntmps18
  go_wp2_with fail
  refine MS.out.mono ?_
  rintro e w1 ⟨rfl, hb⟩
  replace HE := Lib.hid (HE.out.go hb)
  have HB := Lib.hid hb
  clear hb MS
  dsimp only
  refine list_go (by assumption) ?_
  go_wp2_with fail
  refine (MF.out _ HE.out).mono ?_
  rintro e w2 ⟨gb, b, mb, rfl, hm, hb⟩
  have HM := Lib.hid (show GW w.heap.size ((gz gb b mb).comes startN) w2 from hm.low HB.out.size)
  replace HB := Lib.hid (HB.out.trans (hb.mono HB.out.size))
  clear hb hm MF
  dsimp only
  refine list_go (by assumption) ?_
  go_wp2
  go_ret
  exact ⟨gb, b, mb, rfl, HM.out, HB.out⟩
theorem set_app (A t : List Value) (k i : Nat) (h : k = A.length + i) (v : Value) : (A ++ t).toArray.setIfInBounds k v = (A ++ t.set i v).toArray := by
  subst h
  rw [List.setIfInBounds_toArray, List.set_append_right _ _ (by omega), Nat.add_sub_cancel_left]
theorem foldSh (P : Nat → Int) (b : Nat) (n : Int) : ((List.foldl (fun (cs : Array Value) (x : Value × Nat) => cs.setIfInBounds x.snd x.fst) Tryz.zeroCells78 (pc P).zipIdx).setIfInBounds 133 (.pointer (some ⟨b, 0, none⟩))).setIfInBounds 134 (.int .i64 n) = (shC P b n).toArray := by
  have h := fold_zip [Value.pointer none, Value.int .i64 0] (pc P) (pc (fun _ => 0)) [] (by rw [pc_len, pc_len])
  have h : List.foldl (fun (cs : Array Value) (x : Value × Nat) => cs.setIfInBounds x.snd x.fst) (pc (fun _ => 0) ++ [Value.pointer none, Value.int .i64 0]).toArray (pc P).zipIdx = (pc P ++ [Value.pointer none, Value.int .i64 0]).toArray := h
  rw [zeroSh0, h]
  unfold shC
  rw [set_app (pc P) _ 133 0 (by rw [pc_len]), set_app (pc P) _ 134 1 (by rw [pc_len])]
  rfl
theorem foldGm (P : Nat → Int) (b : Nat) (n : Int) (mv : Value) (r y : Int) : ((((List.foldl (fun (cs : Array Value) (x : Value × Nat) => cs.setIfInBounds x.snd x.fst) Tryz.zeroCells81 (shC P b n).zipIdx).setIfInBounds 135 mv).setIfInBounds 136 (.int .i64 r)).setIfInBounds 137 (.int .i64 y)) = (mkC P b n mv r y).toArray := by
  have h := fold_zip [Value.slice none 0 0, Value.int .i64 0, Value.int .i64 0, Value.pointer none] (shC P b n) (pc (fun _ => 0) ++ [Value.pointer none, Value.int .i64 0]) [] (by rw [shC_len, List.length_append, pc_len]; rfl)
  have h : List.foldl (fun (cs : Array Value) (x : Value × Nat) => cs.setIfInBounds x.snd x.fst) (pc (fun _ => 0) ++ [Value.pointer none, Value.int .i64 0] ++ [Value.slice none 0 0, Value.int .i64 0, Value.int .i64 0, Value.pointer none]).toArray (shC P b n).zipIdx = (shC P b n ++ [Value.slice none 0 0, Value.int .i64 0, Value.int .i64 0, Value.pointer none]).toArray := h
  rw [zeroGm0, h]
  unfold mkC
  rw [set_app (shC P b n) _ 135 0 (by rw [shC_len]), set_app (shC P b n) _ 136 1 (by rw [shC_len]), set_app (shC P b n) _ 137 2 (by rw [shC_len])]
  rfl
theorem foldl_size : ∀ (L : List (Value × Nat)) (A : Array Value), (List.foldl (fun (cs : Array Value) (x : Value × Nat) => cs.setIfInBounds x.snd x.fst) A L).size = A.size
  | [], _ => rfl
  | x :: L, A => by rw [List.foldl_cons, foldl_size L]; simp
theorem zeroSh_size : Tryz.zeroCells78.size = 135 := by rw [zeroSh0]; simp [pc_len]
theorem zeroGm_size : Tryz.zeroCells81.size = 139 := by rw [zeroGm0]; simp [pc_len]
set_option maxHeartbeats 4000000 in
set_option maxRecDepth 100000 in
theorem gcopied_any (B base : Nat) (g : Gm) (w : World) (h : GW base g w) (he : EN B w) :
    Calls Tryz.prog 45 #[.pointer (some ⟨g.gb, 0, none⟩)] w fun e w' => ∃ b mb, e = .returned (.agg (shC g.P b (g.n : Int)).toArray) ∧ BW w' b mb g.T ∧ Below w.heap.size w w' ∧ w.heap.size ≤ b ∧ w.heap.size ≤ mb := by
  have HI := Lib.hid (show GW base g (w.alloc (.cells Tryz.zeroCells78 78)) ∧ EN B (w.alloc (.cells Tryz.zeroCells78 78)) ∧ Below w.heap.size w (w.alloc (.cells Tryz.zeroCells78 78)) ∧ (w.alloc (.cells Tryz.zeroCells78 78)).heap[w.heap.size]? = some (.cells Tryz.zeroCells78 78 (0, 0)) from ⟨h.go (below_new _), he.go (below_new _), below_new _, sl_at rfl⟩)
  have MC := Lib.hid (fun W (h : GW base g W) (e : EN B W) => copy_any12 B g.b g.mb g.T W h.k e)
  clear h he
  go_enter Tryz.func45, Tryz.ntmps45
  go_upto_region 1 with (fail)
  generalize w.alloc (.cells Tryz.zeroCells78 78) = W0 at *
  have xz := HI.out.1.lt
  refine wp_region_noPanic ?_
  refine wp_region_last (n := 14) (S := (fun W => GW base g W)) 14 (by kernel_rfl) rfl (by kernel_rfl) (by decide) (by exact HI.out.1.go (Below.refl _ _).drew) (fun hHeld => ?_)
  replace HI := Lib.hid (show GW base g W0.drew ∧ EN B W0.drew ∧ Below w.heap.size w W0.drew ∧ W0.drew.heap[w.heap.size]? = some (.cells Tryz.zeroCells78 78 (0, 0)) from ⟨HI.out.1.go (Below.refl _ _).drew, HI.out.2.1.go (Below.refl _ _).drew, HI.out.2.2.1.drew, sl_go HI.out.2.2.2 (Below.refl _ _).drew⟩)
  generalize W0.drew = V0 at *
  refine tq (i := 0) (d := some 3) rfl rfl ?_
  try simp only [aP, sA, sZ, sS]
  refine tq (i := 1) (d := some 4) rfl rfl ?_
  try simp only [aP, sA, sZ, sS]
  refine tq (i := 2) (d := some 5) rfl rfl ?_
  try simp only [aP, sA, sZ, sS]
  refine tg (i := 3) (d := some 6) (v := (.agg (pc g.P).toArray)) rfl rfl ?_ ?_
  · exact yields_posC (by rfl) _ (by rfl) g.gb g.P _ rfl (by rfl) (fun W h => h.pb)
  try simp only [aP, sA, sZ, sS]
  refine tq (i := 4) (d := some 7) rfl rfl ?_
  try simp only [aP, sA, sZ, sS]
  refine tq (i := 5) (d := some 8) rfl rfl ?_
  try simp only [aP, sA, sZ, sS]
  refine tq (i := 6) (d := some 9) rfl rfl ?_
  try simp only [aP, sA, sZ, sS]
  refine tg (i := 7) (d := some 10) (v := (.pointer (some ⟨g.b, 0, none⟩))) rfl rfl ?_ ?_
  · refine Or.inl ⟨by rfl, ?_⟩; intro w' hSw; have e := hSw.cell.2.1; go_simp
  try simp only [aP, sA, sZ, sS]
  refine tq (i := 9) (d := some 12) rfl rfl ?_
  try simp only [aP, sA, sZ, sS]
  refine tq (i := 10) (d := some 13) rfl rfl ?_
  try simp only [aP, sA, sZ, sS]
  refine tq (i := 11) (d := some 14) rfl rfl ?_
  try simp only [aP, sA, sZ, sS]
  refine tg (i := 12) (d := some 15) (v := (.int .i64 (g.n : Int))) rfl rfl ?_ ?_
  · refine Or.inl ⟨by rfl, ?_⟩; intro w' hSw; have e := hSw.cell.2.2.1; go_simp
  try simp only [aP, sA, sZ, sS]
  refine og (i := 8) rfl (by kernel_rfl) (fun K hK => ?_)
  go_simp
  refine (MC.out _ HI.out.1 HI.out.2.1).mono ?_
  rintro e V ⟨b2, c2, rfl, hb2, hc2, hk, hb⟩
  have HK := Lib.hid (show BW V b2 c2 g.T ∧ w.heap.size < b2 ∧ w.heap.size < c2 from ⟨hk, by have := (Array.getElem?_eq_some_iff.1 HI.out.2.2.2).1; omega, by have := (Array.getElem?_eq_some_iff.1 HI.out.2.2.2).1; omega⟩)
  replace HI := Lib.hid (show GW base g V ∧ EN B V ∧ Below w.heap.size w V ∧ V.heap[w.heap.size]? = some (.cells Tryz.zeroCells78 78 (0, 0)) from ⟨HI.out.1.go hb, HI.out.2.1.go hb, HI.out.2.2.1.trans (hb.mono HI.out.2.2.1.size), sl_go HI.out.2.2.2 hb⟩)
  clear hb2 hc2 hk hb MC
  dsimp only
  refine hK.out _ _ (by exact HI.out.1) (fun hHeld => ?_)
  clear hK K
  try simp only [aP, sA, sZ, sS]
  refine tg (i := 13) (d := some 16) (v := (.agg (shC g.P b2 (g.n : Int)).toArray)) rfl rfl ?_ ?_
  · refine Or.inl ⟨by rfl, ?_⟩; intro w' hSw; have e := foldSh g.P b2 (g.n : Int); have e2 := (foldl_size (pc g.P).zipIdx Tryz.zeroCells78).trans zeroSh_size; have e3 := pc_len g.P; go_simp
  try simp only [aP, sA, sZ, sS]
  refine wpAnyH_done (by kernel_rfl) ?_ _
  refine behind_go rfl (by rfl) ?_
  clear hHeld
  refine wp_store_mid 78 _ _ rfl w.heap.size 0 (shC g.P b2 (g.n : Int)).toArray rfl rfl (by rw [shC_size]; exact there_row HI.out.2.2.2 (Nat.le_of_eq zeroSh_size.symm)) (by rw [infoSh, shC_size]) (shC_one _ _ _) ?_
  rw [List.toList_toArray]
  have HR := Lib.hid (World.rangeAt_setCells_same V w.heap.size 0 (shC g.P b2 (g.n : Int)) (by rw [shC_len]; exact there_row HI.out.2.2.2 (Nat.le_of_eq zeroSh_size.symm)))
  have HC2 := Lib.hid (Ch.gr (X := fun k => k = w.heap.size) (grs_B (hb := w.heap.size) (shC g.P b2 (g.n : Int)) 0 V) rfl)
  have HF := Lib.hid (show BW (V.setCells w.heap.size 0 (shC g.P b2 (g.n : Int))) b2 c2 g.T ∧ Below w.heap.size w (V.setCells w.heap.size 0 (shC g.P b2 (g.n : Int))) from ⟨HC2.out.bw HK.out.1 (fun e => by have := HK.out.2.1; omega) (fun e => by have := HK.out.2.2; omega), HC2.out.below HI.out.2.2.1 HI.out.2.2.1.size (fun k hk e => by omega)⟩)
  clear HC2 HI
  generalize V.setCells w.heap.size 0 (shC g.P b2 (g.n : Int)) = W8 at *
  refine NoPanic.normal ?_
  show Exit.then _ _ Exit.normal _ _
  refine ret_go (by assumption) ?_
  repeat (first | refine then_ret ?_ | refine block_ret ?_)
  refine bodyPost_ret (v := .agg (shC g.P b2 (g.n : Int)).toArray) ?_ rfl ⟨b2, c2, rfl, HF.out.1, HF.out.2, Nat.le_of_lt HK.out.2.1, Nat.le_of_lt HK.out.2.2⟩
  exact results_cell_mid (p := 2) (ty := 78) rfl _ W8 w.heap.size _ _ rfl HR.out Tryz.underlying78 rfl (by rw [infoSh, shC_len])
end Go.Proofs.YtkncfeijlmomaaaGreatDoor
