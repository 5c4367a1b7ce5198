/-
  A real maker: New, Sum, Mac, Draw.
-/
import Derived.Test.YtejknkgbkkdaiaaGreatDoorAsk
namespace Go.Proofs.YtejknkgbkkdaiaaGreatDoor
open Go.RowKit
set_option linter.unusedVariables false
set_option linter.unusedSimpArgs false

set_option maxHeartbeats 1000000 in
set_option maxRecDepth 100000 in
theorem cloneB_any (w : World) (p : Option Addr) (m c : Nat) (f : Nat → Value) (hz : p = none → m = 0) (hm : m ≤ 4294967296) (hr : Reads w.heap.size w p m f) (h1 : ∀ i, i < m → (f i).oneCell' = true) :
    Calls Tryz.prog 25 #[.slice p m c] w fun e w' => ∃ v, e = .returned v ∧ Below w.heap.size w w' ∧ w'.ownsRow w.heap.size 5 1 v m ((List.range m).map f) := by
  obtain ⟨i0, hi, hz0, hz1, hz2⟩ := info_parts Tryz.infoB
  cases p with
  | none =>
    have hm0 := hz rfl
    subst hm0
    have he := run_eql_slice_nil (P := Tryz.prog) w 22 5 none 0 c Tryz.underlying22
    go_enter Tryz.func25, Tryz.ntmps25
    go_wp2
    go_ret
    exact ⟨_, rfl, Below.refl _ _, World.ownsRow_nil _ _ _ _⟩
  | some a =>
    have HR := Lib.hid hr
    have H1 := Lib.hid h1
    clear hr h1 hz
    have he := run_eql_slice_nil (P := Tryz.prog) w 22 5 (some a) m c Tryz.underlying22
    have hown := World.ownsRow_made (e := 5) (size := 1) (base := w.heap.size) w #[] 0 (Nat.le_refl _) (by unfold maxLen; omega) rfl
    have hb0 : Below w.heap.size w (w.alloc (.cells #[] 5)) := (Below.refl _ _).alloc (Nat.le_refl _) _
    obtain ⟨v, w2, hap, hown2, hg2⟩ := append_reads (P := Tryz.prog) (w.alloc (.cells #[] 5)) w.heap.size w.heap.size 22 22 5 i0 _ 1 Tryz.underlying22 hi hz0 hz1 hz2 rfl _ 0 _ hown (some a) m c f (HR.out.below hb0) H1.out (by unfold maxLen; omega) (by omega) (by simp)
    have HB2 := Lib.hid (hb0.trans (gr_below (hb := w.heap.size) hg2 (Nat.le_refl _) (by simp)))
    rw [Nat.zero_add] at hown2
    have HO2 := Lib.hid hown2
    clear hown hb0 hown2 hg2
    go_enter Tryz.func25, Tryz.ntmps25
    go_wp2_with (at_builtin; refine Lib.wpList_append_run _ rfl _ _ _ _ rfl _ _ rfl rfl _ _ hap ?_)
    go_wp2
    go_ret
    exact ⟨_, rfl, HB2.out, by simpa using HO2.out⟩
theorem owns_form {w : World} {base : Nat} {e : TypeId} {size : Nat} {v : Value} {n : Nat} {xs : List Value} (h : w.ownsRow base e size v n xs) : ∃ q k c, v = .slice q k c := by
  rcases h.2 with ⟨hv, _⟩ | ⟨g, cap, _, hv, _⟩
  · exact ⟨_, _, _, hv⟩
  · exact ⟨_, _, _, hv⟩
set_option maxHeartbeats 1000000 in
set_option maxRecDepth 100000 in
theorem newR_any (w : World) (p : Option Addr) (m c : Nat) (f : Nat → BitVec 8) (hz : p = none → m = 0) (hm : m ≤ 4294967296) (hr : Reads w.heap.size w p m (fun j => .int .u8 (ub (f j)))) :
    Calls Tryz.prog 8 #[.bool true, .slice p m c] w fun e w' => ∃ mb B v b0, e = .returned (.pointer (some ⟨mb, 0, none⟩)) ∧ w.heap.size ≤ mb ∧ w.heap.size ≤ B ∧ w.heap.size ≤ b0 ∧ Below w.heap.size w w' ∧ MB w' mb B true v ∧ BK w' B [] ∧ w'.ownsRow b0 5 1 v m ((List.range m).map (fun j => .int .u8 (ub (f j)))) := by
  have HR := Lib.hid hr
  have HZ := Lib.hid hz
  clear hr hz
  go_enter Tryz.func8, Tryz.ntmps8
  go_wp2_with fail
  refine (emptyBook_any w).mono ?_
  rintro e w1 ⟨B, rfl, hB, hb, hk⟩
  have HB := Lib.hid hb
  have HK := Lib.hid hk
  have hz1 := hb.size
  clear hb hk
  go_wp2_with fail
  refine (cloneB_any (w1.alloc (.cells #[.map (some B), .bool true, .slice none 0 0, .pointer none] 56)) p m c _ HZ.out hm (((HR.out.below HB.out).mono hz1).below ((Below.refl _ _).alloc (Nat.le_refl _) _) |>.mono (by simp)) (fun _ _ => rfl)).mono ?_
  rintro e w3 ⟨v, rfl, hb3, ho3⟩
  have hbl : w3.heap[w1.heap.size]? = some (.cells #[.map (some B), .bool true, .slice none 0 0, .pointer none] 56 (0, 0)) := laid_go (laid_at rfl) hb3
  obtain ⟨q, k, cc, hv⟩ := owns_form ho3
  have c0 : w3.cell? ⟨w1.heap.size, 0, none⟩ = some (.map (some B)) := by rw [cell_of_row w3 _ 0 _ _ (0, 0) hbl]; rfl
  have c1 : w3.cell? ⟨w1.heap.size, 1, none⟩ = some (.bool true) := by rw [cell_of_row w3 _ 1 _ _ (0, 0) hbl]; rfl
  have c2 : w3.cell? ⟨w1.heap.size, 2, none⟩ = some (.slice none 0 0) := by rw [cell_of_row w3 _ 2 _ _ (0, 0) hbl]; rfl
  have c3 : w3.cell? ⟨w1.heap.size, 3, none⟩ = some (.pointer none) := by rw [cell_of_row w3 _ 3 _ _ (0, 0) hbl]; rfl
  have fr : ∀ o, w3.frozen? ⟨w1.heap.size, o, none⟩ = false := fun o => frozen_of_row w3 _ o _ _ hbl
  have gs : w3.grownBy ((w3.setCell ⟨w1.heap.size, 2, none⟩ v).setCell ⟨w1.heap.size, 3, none⟩ (.pointer (some ⟨w1.heap.size, 0, none⟩))) (some w1.heap.size) := (gr_setCell v).trans (gr_setCell _)
  have hmm := Go.heap_setCell_same _ w1.heap.size 3 _ _ (.pointer (some ⟨w1.heap.size, 0, none⟩)) (Go.heap_setCell_same w3 w1.heap.size 2 _ _ v hbl)
  have hbk : BK w3 B [] := (HK.out.below ((Below.refl _ _).alloc (Nat.le_refl _) _)).below hb3
  have hne : B < w1.heap.size := HK.out.lt
  have hown : ((w3.setCell ⟨w1.heap.size, 2, none⟩ v).setCell ⟨w1.heap.size, 3, none⟩ (.pointer (some ⟨w1.heap.size, 0, none⟩))).ownsRow _ 5 1 v m ((List.range m).map (fun j => .int .u8 (ub (f j)))) := owns_gr ho3 gs (by
    rintro x ⟨⟩ hx
    rcases ho3.2 with ⟨hv', _⟩ | ⟨g, cap, _, hv', hg, _⟩
    · rw [hv'] at hx; cases hx
    · rw [hv'] at hx
      simp [Value.ownBlock] at hx
      simp at hg
      omega)
  have hbel := ((HB.out.alloc hz1 _).trans (hb3.mono (by simp; omega))).trans (gr_below gs hz1 (by have := hb3.size; simp at this; omega))
  have HG := Lib.hid hbel
  have HM := Lib.hid hmm
  have HW := Lib.hid hown
  have HBK := Lib.hid (hbk.kept gs (by simp; omega))
  clear hbl hb3 ho3 gs hmm hbk hown hbel HB HK HR HZ
  subst hv
  go_wp2
  go_ret
  exact ⟨w1.heap.size, B, _, _, rfl, hz1, hB, by simp; omega, HG.out, HM.out, HBK.out, HW.out⟩
/-- what lies there while a real maker is asked -/
structure RM (w : World) (mb B : Nat) (v : Value) (W : World) : Prop where
  bel : Below w.heap.size w W
  mkr : MB W mb B true v
  tag : BT W w.heap.size 32 (fun _ => 0#8)
theorem RM.go {w W W' : World} {mb B : Nat} {v : Value} (h : RM w mb B v W) (g : Below W.heap.size W W') : RM w mb B v W' := ⟨h.bel.trans (g.mono h.bel.size), h.mkr.below g, h.tag.below' g⟩
theorem RM.drew {w W : World} {mb B : Nat} {v : Value} (h : RM w mb B v W) : RM w mb B v W.drew := h.go (Below.refl _ _).drew
theorem RM.start {w : World} {mb B : Nat} {v : Value} {C : Array Value} (h : MB w mb B true v) (hC : ∀ i, i < 32 → C[i]? = some (.int .u8 (ub 0#8))) : RM w mb B v (w.alloc (.cells C 25)) := by
  have hb0 : Below w.heap.size w (w.alloc (.cells C 25)) := (Below.refl _ _).alloc (Nat.le_refl _) _
  exact ⟨hb0, h.below hb0, BT.of_cells (laid_at rfl) hC⟩
theorem RI.to' {w W : World} {p : Option Addr} {m : Nat} {P : Nat → Option Addr} {ln C : Nat → Nat} {f : Nat → Nat → BitVec 8} (hr : RI w p m P ln C f) (hW : Below w.heap.size w W) : RI W p m P ln C f :=
  ⟨(hr.rows.below hW).mono hW.size, hr.cap, fun i hi => ((hr.row i hi).below hW).mono hW.size⟩
set_option maxHeartbeats 1000000 in
set_option maxRecDepth 100000 in
theorem sumR_any (w : World) (mb B : Nat) (v : Value) (h : MB w mb B true v) (B0 : Nat) (hk : Kc B0 w) (hB : B0 ≤ w.heap.size)
    (p : Option Addr) (m c : Nat) (P : Nat → Option Addr) (ln C : Nat → Nat) (f : Nat → Nat → BitVec 8) (g : Nat → BitVec 8) (hr : RI w p m P ln C f) (hm : m ≤ 4294967295) (hn : pos ln m ≤ 2147483584) (hg : ∀ i, i < m → ∀ j, j < ln i → f i j = g (pos ln i + j)) :
    Calls Tryz.prog 21 #[.pointer (some ⟨mb, 0, none⟩), .slice p m c] w fun e w' => e = .returned (tagV (sha g (pos ln m))) ∧ Below w.heap.size w w' := by
  obtain ⟨s, hs⟩ : ∃ s, s = sha g (pos ln m) := ⟨_, rfl⟩
  have HD : ∀ W, Below w.heap.size w W → Calls Tryz.prog 38 #[.slice p m c] W fun e w' => e = .returned (tagV s) ∧ Below W.heap.size W w' := fun W hW => by
    rw [hs]
    exact of_any B0 W g p m c P ln C f (hk.below (hW.mono hB)) (Nat.le_trans hB hW.size) (hr.to' hW) (by omega) (by omega) hg
  rw [← hs]
  clear hs hk hr hg
  go_enter Tryz.func21, Tryz.ntmps21
  go_upto_region 1 with (fail)
  refine forget_code (RM w mb B v) (RM.start h (fun i hi => zero_atL 32 i hi)) ?_
  intro W hW
  have HW := Lib.hid hW
  have c1 := hW.mkr.c1
  have hc := HD W hW.bel
  clear hW h
  go_wp2_with fail
  refine (noneM_any W mb B true _ HW.out.mkr).mono ?_
  rintro e w' ⟨rfl, rfl⟩
  go_upto_region 4 with (fail)
  refine wp_region_lit ?_
  refine wpList_plain rfl (fun K hK => ?_)
  go_simp
  refine hK _ _ ?_
  clear hK K
  refine wpList_plain rfl (fun K hK => ?_)
  go_simp
  refine hc.mono ?_
  rintro e W5 ⟨rfl, hb5⟩
  dsimp only
  refine hK _ _ ?_
  clear hK K hc
  have t5 := HW.out.tag.below' hb5
  refine wpList_store_mid rfl 25 _ _ rfl w.heap.size 0 (tagC s).toArray rfl rfl (by simpa [tagC_len] using t5.there 32 (Nat.le_refl _)) (by simp [infoTag, tagC_len]) (tagC_one _) ?_
  rw [List.toList_toArray]
  have HR5 := Lib.hid (World.rangeAt_setCells_same W5 w.heap.size 0 (tagC s) (by rw [tagC_len]; exact t5.there 32 (Nat.le_refl _)))
  have HG5 := Lib.hid ((HW.out.bel.trans (hb5.mono HW.out.bel.size)).trans (gr_below (gr_setCells (hb := w.heap.size) (tagC s) 0 W5) (Nat.le_refl _) (Nat.le_trans HW.out.bel.size hb5.size)))
  generalize W5.setCells w.heap.size 0 (tagC s) = W7 at HR5 HG5 ⊢
  clear t5 hb5
  show Exit.then _ _ Exit.normal _ W7
  go_wp2
  refine bodyPost_ret (v := tagV s) ?_ rfl ?_
  · exact results_cell_mid (p := 4) (ty := 25) rfl _ W7 w.heap.size _ _ rfl HR5.out Tryz.underlying25 rfl (by simp [infoTag, tagC_len])
  · exact ⟨rfl, HG5.out⟩
set_option maxHeartbeats 1000000 in
set_option maxRecDepth 100000 in
theorem macR_any (w : World) (mb B : Nat) (v : Value) (h : MB w mb B true v) (B0 : Nat) (hk : Kc B0 w) (hB : B0 ≤ w.heap.size)
    (kp : Option Addr) (kn kc : Nat) (key : Nat → BitVec 8) (hkn : kn ≤ 2147483648) (hkc : kn ≤ kc) (hkm : kc ≤ maxLen) (hkr : Reads w.heap.size w kp kn (fun j => .int .u8 (ub (key j))))
    (p : Option Addr) (m c : Nat) (P : Nat → Option Addr) (ln C : Nat → Nat) (f : Nat → Nat → BitVec 8) (g : Nat → BitVec 8) (hr : RI w p m P ln C f) (hmc : m ≤ c) (hcm : c ≤ maxLen) (hm : m ≤ 4294967295) (hn : pos ln m ≤ 2147483584) (hg : ∀ i, i < m → ∀ j, j < ln i → f i j = g (pos ln i + j)) :
    Calls Tryz.prog 27 #[.pointer (some ⟨mb, 0, none⟩), .slice kp kn kc, .slice p m c] w fun e w' => e = .returned (tagV (hmac key kn g (pos ln m))) ∧ Below w.heap.size w w' := by
  obtain ⟨s, hs⟩ : ∃ s, s = hmac key kn g (pos ln m) := ⟨_, rfl⟩
  have HD : ∀ W, Below w.heap.size w W → Calls Tryz.prog 44 #[.slice kp kn kc, .slice p m c] W fun e w' => e = .returned (tagV s) ∧ Below W.heap.size W w' := fun W hW => by
    rw [hs]
    exact macOf_any B0 W kp kn kc key g p m c P ln C f (hk.below (hW.mono hB)) (Nat.le_trans hB hW.size) hkn hkc hkm ((hkr.below hW).mono hW.size) (hr.to' hW) hmc hcm hm hn hg
  rw [← hs]
  clear hs hk hr hg hkr
  go_enter Tryz.func27, Tryz.ntmps27
  go_upto_region 1 with (fail)
  refine forget_code (RM w mb B v) (RM.start h (fun i hi => zero_atL 32 i hi)) ?_
  intro W hW
  have HW := Lib.hid hW
  have c1 := hW.mkr.c1
  have hc := HD W hW.bel
  clear hW h
  go_wp2_with fail
  refine (noneM_any W mb B true _ HW.out.mkr).mono ?_
  rintro e w' ⟨rfl, rfl⟩
  go_upto_region 4 with (fail)
  refine wp_region_lit ?_
  refine wpList_plain rfl (fun K hK => ?_)
  go_simp
  refine hK _ _ ?_
  clear hK K
  refine wpList_plain rfl (fun K hK => ?_)
  go_simp
  refine hK _ _ ?_
  clear hK K
  refine wpList_plain rfl (fun K hK => ?_)
  go_simp
  refine hc.mono ?_
  rintro e W5 ⟨rfl, hb5⟩
  dsimp only
  refine hK _ _ ?_
  clear hK K hc
  have t5 := HW.out.tag.below' hb5
  refine wpList_store_mid rfl 25 _ _ rfl w.heap.size 0 (tagC s).toArray rfl rfl (by simpa [tagC_len] using t5.there 32 (Nat.le_refl _)) (by simp [infoTag, tagC_len]) (tagC_one _) ?_
  rw [List.toList_toArray]
  have HR5 := Lib.hid (World.rangeAt_setCells_same W5 w.heap.size 0 (tagC s) (by rw [tagC_len]; exact t5.there 32 (Nat.le_refl _)))
  have HG5 := Lib.hid ((HW.out.bel.trans (hb5.mono HW.out.bel.size)).trans (gr_below (gr_setCells (hb := w.heap.size) (tagC s) 0 W5) (Nat.le_refl _) (Nat.le_trans HW.out.bel.size hb5.size)))
  generalize W5.setCells w.heap.size 0 (tagC s) = W7 at HR5 HG5 ⊢
  clear t5 hb5
  show Exit.then _ _ Exit.normal _ W7
  go_wp2
  refine bodyPost_ret (v := tagV s) ?_ rfl ?_
  · exact results_cell_mid (p := 6) (ty := 25) rfl _ W7 w.heap.size _ _ rfl HR5.out Tryz.underlying25 rfl (by simp [infoTag, tagC_len])
  · exact ⟨rfl, HG5.out⟩

theorem RI.parts3 {W : World} {H n1 c1 n2 c2 n3 c3 : Nat} {p1 p2 p3 : Option Addr} {t : TypeId} {f1 f2 f3 : Nat → BitVec 8} (hW : W.heap[H]? = some (.cells #[.slice p1 n1 c1, .slice p2 n2 c2, .slice p3 n3 c3] t (0, 0)))
    (h1 : n1 ≤ c1 ∧ c1 ≤ maxLen) (h2 : n2 ≤ c2 ∧ c2 ≤ maxLen) (h3 : n3 ≤ c3 ∧ c3 ≤ maxLen)
    (r1 : Reads W.heap.size W p1 n1 (fun j => .int .u8 (ub (f1 j)))) (r2 : Reads W.heap.size W p2 n2 (fun j => .int .u8 (ub (f2 j)))) (r3 : Reads W.heap.size W p3 n3 (fun j => .int .u8 (ub (f3 j)))) :
    RI W (some ⟨H, 0, none⟩) 3 (fst3 p1 p2 p3) (fst3 n1 n2 n3) (fst3 c1 c2 c3) (fst3 f1 f2 f3) :=
  ⟨reads_at hW (fun i hi => by
    match i, hi with
    | 0, _ => rfl
    | 1, _ => rfl
    | 2, _ => rfl), fun i hi => by
    match i, hi with
    | 0, _ => exact h1
    | 1, _ => exact h2
    | 2, _ => exact h3, fun i hi => by
    match i, hi with
    | 0, _ => exact r1
    | 1, _ => exact r2
    | 2, _ => exact r3⟩
theorem pos_parts3 (n1 n2 n3 : Nat) : pos (fst3 n1 n2 n3) 3 = n1 + n2 + n3 := by simp [pos, fst3]
theorem RM.lay {w W : World} {mb B : Nat} {v : Value} (h : RM w mb B v W) (o : Obj) : (W.alloc o).heap[W.heap.size]? = some o ∧ w.heap.size < W.heap.size ∧ mb < W.heap.size :=
  ⟨heap_alloc_new _ _, h.tag.lt, h.mkr.lt⟩
theorem RM.fr {w W W' : World} {mb B x : Nat} {v : Value} (h : RM w mb B v W) (g : W.grownBy W' (some x)) (h1 : w.heap.size < x) (h2 : mb < x) : RM w mb B v W' :=
  ⟨h.bel.grown g h.bel.size (by rintro q ⟨⟩; omega), h.mkr.gr g (by simp; omega), h.tag.gr g (by omega)⟩
/-- a constant text's bytes are marked, wherever they were laid -/
theorem conv_gen (W : World) (g n c : Nat) (C : Array Value) (hl : W.heap[g]? = some (.cells C 5 (0, 0))) :
    ∃ W', (convert 22 22 (.slice (some ⟨g, 0, none⟩) n c)).run Tryz.prog W = .ok (.slice (some ⟨g, 0, none⟩) n c) W' ∧ W.grownBy W' (some g) ∧ W'.heap[g]? = some (.cells C 5 (C.size, C.size + 1)) := by
  refine ⟨W.freeze ⟨g, C.size, none⟩ 1, ?_, ?_, ?_⟩
  · have hsh : W.shape? g = some (5, C.size) := by unfold World.shape?; rw [hl]
    simp [convert, run_underlying Tryz.underlying22, run_underlying Tryz.underlying5, markStringish, hsh]
  · refine ⟨rfl, rfl, rfl, by simp [World.freeze], fun k hk hne => ?_⟩
    have hkg : k ≠ g := by simpa using hne
    simp [World.freeze, Array.getElem?_modify, Ne.symm hkg]
  · simp [World.freeze, Array.getElem?_modify, hl]
/-- the bytes of the text ahead of a draw -/
def drwT : Nat → BitVec 8 := fun j => if j = 0 then 100#8 else if j = 1 then 114#8 else if j = 2 then 97#8 else 119#8
set_option maxHeartbeats 1000000 in
set_option maxRecDepth 100000 in
theorem drawR_any (w : World) (mb B : Nat) (sp : Option Addr) (sm sc : Nat) (h : MB w mb B true (.slice sp sm sc)) (B0 : Nat) (hk : Kc B0 w) (hB : B0 ≤ w.heap.size)
    (sd : Nat → BitVec 8) (hsr : Reads w.heap.size w sp sm (fun j => .int .u8 (ub (sd j)))) (hsm : sm ≤ 2147483500) (hsc : sm ≤ sc) (hscm : sc ≤ maxLen) (g : Nat → BitVec 8) (k : Int) (N : Nat) (hN : IntKind.u64.wrap k = (N : Int))
    (hg0 : ∀ j, j < 4 → drwT j = g j) (hg1 : ∀ j, j < sm → sd j = g (4 + j)) (hg2 : ∀ j, j < 8 → oct N j = g (4 + sm + j)) :
    Calls Tryz.prog 22 #[.pointer (some ⟨mb, 0, none⟩), .int .i64 k] w fun e w' => e = .returned (tagV (sha g (4 + sm + 8))) ∧ Below w.heap.size w w' := by
  obtain ⟨s, hs⟩ : ∃ s, s = sha g (4 + sm + 8) := ⟨_, rfl⟩
  have hdg : ∀ (Z : World) (H A O : Nat), RM w mb B (.slice sp sm sc) Z → Z.heap[H]? = some (.cells #[.slice (some ⟨A, 0, none⟩) 4 4, .slice sp sm sc, .slice (some ⟨O, 0, none⟩) 8 8] 22 (0, 0)) → Z.heap[A]? = some (.cells #[.int .u8 100, .int .u8 114, .int .u8 97, .int .u8 119] 5 (4, 5)) → BT Z O 8 (oct N) →
      Calls Tryz.prog 38 #[.slice (some ⟨H, 0, none⟩) 3 3] Z fun e w' => e = .returned (tagV s) ∧ Below Z.heap.size Z w' := fun Z H A O hZ hH hA hO => by
    have hri := RI.parts3 (f1 := drwT) (f2 := sd) (f3 := oct N) hH ⟨by omega, by unfold maxLen; omega⟩ ⟨hsc, hscm⟩ ⟨by omega, by unfold maxLen; omega⟩ (reads_at hA fun i hi => by
      match i, hi with
      | 0, _ => rfl
      | 1, _ => rfl
      | 2, _ => rfl
      | 3, _ => rfl) ((hsr.below hZ.bel).mono hZ.bel.size) hO.reads
    have := of_any B0 Z g _ 3 3 _ _ _ _ (hk.below (hZ.bel.mono hB)) (Nat.le_trans hB hZ.bel.size) hri (by omega) (by rw [pos_parts3]; omega) (fun i hi j hj => by
      match i, hi with
      | 0, _ => rw [show pos (fst3 4 sm 8) 0 + j = j by simp [pos]]; exact hg0 j hj
      | 1, _ => rw [show pos (fst3 4 sm 8) 1 + j = 4 + j by simp [pos, fst3]]; exact hg1 j hj
      | 2, _ => rw [show pos (fst3 4 sm 8) 2 + j = 4 + sm + j by simp [pos, fst3]]; exact hg2 j hj)
    rw [pos_parts3, ← hs] at this
    exact this
  have HDG := Lib.hid hdg
  have hmw := h.lt
  rw [← hs]
  clear hs hk hsr hdg hg0 hg1 hg2
  go_enter Tryz.func22, Tryz.ntmps22
  go_upto_region 1 with (fail)
  refine forget_code (RM w mb B _) (RM.start h (fun i hi => zero_atL 32 i hi)) ?_
  intro W hW
  have HW := Lib.hid hW
  have c1 := hW.mkr.c1
  have c2 := hW.mkr.c2
  clear hW h
  go_wp2_with fail
  refine (noneM_any W mb B true _ HW.out.mkr).mono ?_
  rintro e w' ⟨rfl, rfl⟩
  go_upto_region 4 with (fail)
  have HX := Lib.hid HW.out.drew
  clear HW c1 c2
  refine wp_region_noPanic ?_
  refine wp_region_start (n := 12) (l := #[false, false, false, false, false, false, false, false, false, false, false, false]) (S := (fun W => W.cell? ⟨mb, 2, none⟩ = some (.slice sp sm sc))) (by kernel_rfl) rfl (by kernel_rfl) (by (first | exact M7.c2 | exact HX.out.mkr.c2 | exact (HX.out.go ((Below.refl _ _).alloc (Nat.le_refl _) _)).mkr.c2)) (fun hHeld => ?_)
  generalize W.drew = Z at HX hHeld ⊢
  refine take_to (i := 2) (d := some 14) (v := ?_) (l' := #[false, false, true, false, false, false, false, false, false, false, false, false]) rfl rfl (by kernel_rfl) (by kernel_rfl) (by kernel_rfl) (by kernel_rfl) (fun _ _ _ h => h) (Or.inl ⟨by rfl, ?_⟩) (by assumption) ?_; rotate_left; · (intro w' hSw; (try dsimp only at hSw); go_simp; (try with_reducible rfl))
  try simp only [Act.put, List.setIfInBounds_toArray, List.set_cons_zero, List.set_cons_succ]
  refine take_to (i := 3) (d := some 15) (v := ?_) (l' := #[false, false, true, true, false, false, false, false, false, false, false, false]) rfl rfl (by kernel_rfl) (by kernel_rfl) (by kernel_rfl) (by kernel_rfl) (fun _ _ _ h => h) (Or.inl ⟨by rfl, ?_⟩) (by assumption) ?_; rotate_left; · (intro w' hSw; (try dsimp only at hSw); go_simp; (try with_reducible rfl))
  try simp only [Act.put, List.setIfInBounds_toArray, List.set_cons_zero, List.set_cons_succ]
  refine take_to (i := 4) (d := some 16) (v := ?_) (l' := #[false, false, true, true, true, false, false, false, false, false, false, false]) rfl rfl (by kernel_rfl) (by kernel_rfl) (by kernel_rfl) (by kernel_rfl) (fun _ _ _ h => h) (Or.inl ⟨by rfl, ?_⟩) (by assumption) ?_; rotate_left; · (intro w' hSw; (try dsimp only at hSw); go_simp; (try with_reducible rfl))
  try simp only [Act.put, List.setIfInBounds_toArray, List.set_cons_zero, List.set_cons_succ]
  refine take_to (i := 5) (d := some 17) (v := ?_) (l' := #[false, false, true, true, true, true, false, false, false, false, false, false]) rfl rfl (by kernel_rfl) (by kernel_rfl) (by kernel_rfl) (by kernel_rfl) (fun _ _ _ h => h) (Or.inl ⟨by rfl, ?_⟩) (by assumption) ?_; rotate_left; · (intro w' hSw; (try dsimp only at hSw); go_simp; (try with_reducible rfl))
  try simp only [Act.put, List.setIfInBounds_toArray, List.set_cons_zero, List.set_cons_succ]
  refine take_to (i := 6) (d := some 18) (v := ?_) (l' := #[false, false, true, true, true, true, true, false, false, false, false, false]) rfl rfl (by kernel_rfl) (by kernel_rfl) (by kernel_rfl) (by kernel_rfl) (fun _ _ _ h => h) (Or.inl ⟨by rfl, ?_⟩) (by assumption) ?_; rotate_left; · (intro w' hSw; (try dsimp only at hSw); go_simp; (try with_reducible rfl))
  try simp only [Act.put, List.setIfInBounds_toArray, List.set_cons_zero, List.set_cons_succ]
  refine take_to (i := 7) (d := some 19) (v := ?_) (l' := #[false, false, true, true, true, true, true, true, false, false, false, false]) rfl rfl (by kernel_rfl) (by kernel_rfl) (by kernel_rfl) (by kernel_rfl) (fun _ _ _ h => h) (Or.inl ⟨by rfl, ?_⟩) (by assumption) ?_; rotate_left; · (intro w' hSw; (try dsimp only at hSw); go_simp; (try with_reducible rfl))
  try simp only [Act.put, List.setIfInBounds_toArray, List.set_cons_zero, List.set_cons_succ]
  refine two_to (i := 0) (j := 8) (l1 := #[true, false, true, true, true, true, true, true, false, false, false, false]) (l2 := #[false, false, true, true, true, true, true, true, true, false, false, false]) rfl rfl (by kernel_rfl) (by kernel_rfl) (by kernel_rfl) (fun K hK => ?_) (fun K hK => ?_)
  · skip
    go_simp
    obtain ⟨hl, hgw, hgm⟩ := HX.out.lay (.cells #[.int .u8 100, .int .u8 114, .int .u8 97, .int .u8 119] 5)
    have HL := Lib.hid hl
    replace HX := Lib.hid (HX.out.go ((Below.refl _ _).alloc (Nat.le_refl _) (.cells #[.int .u8 100, .int .u8 114, .int .u8 97, .int .u8 119] 5)))
    try replace HO := Lib.hid (HO.out.below' ((Below.refl _ _).alloc (Nat.le_refl _) (.cells #[.int .u8 100, .int .u8 114, .int .u8 97, .int .u8 119] 5)))
    clear hl
    refine hK.out _ _ (by (first | exact M7.c2 | exact HX.out.mkr.c2 | exact (HX.out.go ((Below.refl _ _).alloc (Nat.le_refl _) _)).mkr.c2)) (fun hHeld => ?_)
    clear hK K
    try simp only [Act.put, List.setIfInBounds_toArray, List.set_cons_zero, List.set_cons_succ]
    refine two_to (i := 1) (j := 8) (l1 := #[true, true, true, true, true, true, true, true, false, false, false, false]) (l2 := #[true, false, true, true, true, true, true, true, true, false, false, false]) rfl rfl (by kernel_rfl) (by kernel_rfl) (by kernel_rfl) (fun K hK => ?_) (fun K hK => ?_)
    · skip
      obtain ⟨W', hcv, hg', hl'⟩ := conv_gen _ _ 4 4 _ HL.out
      replace HX := Lib.hid (HX.out.fr hg' hgw hgm)
      try replace HO := Lib.hid (HO.out.gr hg' (by omega))
      replace HL := Lib.hid hl'
      go_simp
      clear hcv hg' hl'
      refine hK.out _ _ (by (first | exact M7.c2 | exact HX.out.mkr.c2 | exact (HX.out.go ((Below.refl _ _).alloc (Nat.le_refl _) _)).mkr.c2)) (fun hHeld => ?_)
      clear hK K
      try simp only [Act.put, List.setIfInBounds_toArray, List.set_cons_zero, List.set_cons_succ]
      refine one_to (i := 8) (l' := #[true, true, true, true, true, true, true, true, true, false, false, false]) rfl (by kernel_rfl) (by kernel_rfl) (fun K hK => ?_)
      go_simp
      refine (octets_any N _).mono ?_
      rintro e w8 ⟨O, rfl, hH, hb8, ho8⟩
      have HO := Lib.hid ho8.bt
      have hOl : O < w8.heap.size := by
        obtain ⟨_, hc, _⟩ := ho8.row
        exact (Array.getElem?_eq_some_iff.1 hc).1
      try replace HL := Lib.hid (laid_go HL.out hb8)
      replace HX := Lib.hid (HX.out.go hb8)
      try simp only [World.size_alloc] at hH
      clear ho8 hb8
      dsimp only
      refine hK.out _ _ (by (first | exact M7.c2 | exact HX.out.mkr.c2 | exact (HX.out.go ((Below.refl _ _).alloc (Nat.le_refl _) _)).mkr.c2)) (fun hHeld => ?_)
      clear hK K
      try simp only [Act.put, List.setIfInBounds_toArray, List.set_cons_zero, List.set_cons_succ]
      refine one_to (i := 9) (l' := #[true, true, true, true, true, true, true, true, true, true, false, false]) rfl (by kernel_rfl) (by kernel_rfl) (fun K hK => ?_)
      go_simp
      refine hK.out _ _ (by (first | exact M7.c2 | exact HX.out.mkr.c2 | exact (HX.out.go ((Below.refl _ _).alloc (Nat.le_refl _) _)).mkr.c2)) (fun hHeld => ?_)
      clear hK K
      try simp only [Act.put, List.setIfInBounds_toArray, List.set_cons_zero, List.set_cons_succ]
      refine one_to (i := 10) (l' := #[true, true, true, true, true, true, true, true, true, true, true, false]) rfl (by kernel_rfl) (by kernel_rfl) (fun K hK => ?_)
      go_simp
      refine (HDG.out _ _ _ _ (HX.out.go ((Below.refl _ _).alloc (Nat.le_refl _) _)) (heap_alloc_new _ _) (laid_old HL.out) (HO.out.below' ((Below.refl _ _).alloc (Nat.le_refl _) _))).mono ?_
      rintro e w9 ⟨rfl, hb9⟩
      replace HX := Lib.hid ((HX.out.go ((Below.refl _ _).alloc (Nat.le_refl _) _)).go hb9)
      clear hb9
      dsimp only
      refine hK.out _ _ (by (first | exact M7.c2 | exact HX.out.mkr.c2 | exact (HX.out.go ((Below.refl _ _).alloc (Nat.le_refl _) _)).mkr.c2)) (fun hHeld => ?_)
      clear hK K
      try simp only [Act.put, List.setIfInBounds_toArray, List.set_cons_zero, List.set_cons_succ]
      refine one_to (i := 11) (l' := #[true, true, true, true, true, true, true, true, true, true, true, true]) rfl (by kernel_rfl) (by kernel_rfl) (fun K hK => ?_)
      rw [if_pos (by rfl)]
      have t9 := HX.out.tag
      refine wp_store_mid 25 _ _ rfl w.heap.size 0 (tagC s).toArray rfl rfl (by simpa [tagC_len] using t9.there 32 (Nat.le_refl _)) (by simp [infoTag, tagC_len]) (tagC_one _) ?_
      rw [List.toList_toArray]
      have HR7 := Lib.hid (World.rangeAt_setCells_same w9 w.heap.size 0 (tagC s) (by rw [tagC_len]; exact t9.there 32 (Nat.le_refl _)))
      have HG7 := Lib.hid (HX.out.bel.trans (gr_below (gr_setCells (hb := w.heap.size) (tagC s) 0 w9) (Nat.le_refl _) HX.out.bel.size))
      have M7 := HX.out.mkr.gr (gr_setCells (hb := w.heap.size) (tagC s) 0 w9) (by simp; omega)
      generalize w9.setCells w.heap.size 0 (tagC s) = W7 at HR7 HG7 M7 ⊢
      clear t9
      refine hK.out _ _ (by (first | exact M7.c2 | exact HX.out.mkr.c2 | exact (HX.out.go ((Below.refl _ _).alloc (Nat.le_refl _) _)).mkr.c2)) (fun hHeld => ?_)
      clear hK K
      try simp only [Act.put, List.setIfInBounds_toArray, List.set_cons_zero, List.set_cons_succ]
      refine wpAnyH_done (by kernel_rfl) ?_ _
      refine NoPanic.normal ?_
      clear hHeld M7 HX HL HO
      go_wp2
      refine bodyPost_ret (v := tagV s) ?_ rfl ⟨rfl, HG7.out⟩
      exact results_cell_mid (p := 4) (ty := 25) rfl _ W7 w.heap.size _ _ rfl HR7.out Tryz.underlying25 rfl (by simp [infoTag, tagC_len])
    · skip
      go_simp
      refine (octets_any N _).mono ?_
      rintro e w8 ⟨O, rfl, hH, hb8, ho8⟩
      have HO := Lib.hid ho8.bt
      have hOl : O < w8.heap.size := by
        obtain ⟨_, hc, _⟩ := ho8.row
        exact (Array.getElem?_eq_some_iff.1 hc).1
      try replace HL := Lib.hid (laid_go HL.out hb8)
      replace HX := Lib.hid (HX.out.go hb8)
      try simp only [World.size_alloc] at hH
      clear ho8 hb8
      dsimp only
      refine hK.out _ _ (by (first | exact M7.c2 | exact HX.out.mkr.c2 | exact (HX.out.go ((Below.refl _ _).alloc (Nat.le_refl _) _)).mkr.c2)) (fun hHeld => ?_)
      clear hK K
      try simp only [Act.put, List.setIfInBounds_toArray, List.set_cons_zero, List.set_cons_succ]
      refine one_to (i := 1) (l' := #[true, true, true, true, true, true, true, true, true, false, false, false]) rfl (by kernel_rfl) (by kernel_rfl) (fun K hK => ?_)
      obtain ⟨W', hcv, hg', hl'⟩ := conv_gen _ _ 4 4 _ HL.out
      replace HX := Lib.hid (HX.out.fr hg' hgw hgm)
      try replace HO := Lib.hid (HO.out.gr hg' (by omega))
      replace HL := Lib.hid hl'
      go_simp
      clear hcv hg' hl'
      refine hK.out _ _ (by (first | exact M7.c2 | exact HX.out.mkr.c2 | exact (HX.out.go ((Below.refl _ _).alloc (Nat.le_refl _) _)).mkr.c2)) (fun hHeld => ?_)
      clear hK K
      try simp only [Act.put, List.setIfInBounds_toArray, List.set_cons_zero, List.set_cons_succ]
      refine one_to (i := 9) (l' := #[true, true, true, true, true, true, true, true, true, true, false, false]) rfl (by kernel_rfl) (by kernel_rfl) (fun K hK => ?_)
      go_simp
      refine hK.out _ _ (by (first | exact M7.c2 | exact HX.out.mkr.c2 | exact (HX.out.go ((Below.refl _ _).alloc (Nat.le_refl _) _)).mkr.c2)) (fun hHeld => ?_)
      clear hK K
      try simp only [Act.put, List.setIfInBounds_toArray, List.set_cons_zero, List.set_cons_succ]
      refine one_to (i := 10) (l' := #[true, true, true, true, true, true, true, true, true, true, true, false]) rfl (by kernel_rfl) (by kernel_rfl) (fun K hK => ?_)
      go_simp
      refine (HDG.out _ _ _ _ (HX.out.go ((Below.refl _ _).alloc (Nat.le_refl _) _)) (heap_alloc_new _ _) (laid_old HL.out) (HO.out.below' ((Below.refl _ _).alloc (Nat.le_refl _) _))).mono ?_
      rintro e w9 ⟨rfl, hb9⟩
      replace HX := Lib.hid ((HX.out.go ((Below.refl _ _).alloc (Nat.le_refl _) _)).go hb9)
      clear hb9
      dsimp only
      refine hK.out _ _ (by (first | exact M7.c2 | exact HX.out.mkr.c2 | exact (HX.out.go ((Below.refl _ _).alloc (Nat.le_refl _) _)).mkr.c2)) (fun hHeld => ?_)
      clear hK K
      try simp only [Act.put, List.setIfInBounds_toArray, List.set_cons_zero, List.set_cons_succ]
      refine one_to (i := 11) (l' := #[true, true, true, true, true, true, true, true, true, true, true, true]) rfl (by kernel_rfl) (by kernel_rfl) (fun K hK => ?_)
      rw [if_pos (by rfl)]
      have t9 := HX.out.tag
      refine wp_store_mid 25 _ _ rfl w.heap.size 0 (tagC s).toArray rfl rfl (by simpa [tagC_len] using t9.there 32 (Nat.le_refl _)) (by simp [infoTag, tagC_len]) (tagC_one _) ?_
      rw [List.toList_toArray]
      have HR7 := Lib.hid (World.rangeAt_setCells_same w9 w.heap.size 0 (tagC s) (by rw [tagC_len]; exact t9.there 32 (Nat.le_refl _)))
      have HG7 := Lib.hid (HX.out.bel.trans (gr_below (gr_setCells (hb := w.heap.size) (tagC s) 0 w9) (Nat.le_refl _) HX.out.bel.size))
      have M7 := HX.out.mkr.gr (gr_setCells (hb := w.heap.size) (tagC s) 0 w9) (by simp; omega)
      generalize w9.setCells w.heap.size 0 (tagC s) = W7 at HR7 HG7 M7 ⊢
      clear t9
      refine hK.out _ _ (by (first | exact M7.c2 | exact HX.out.mkr.c2 | exact (HX.out.go ((Below.refl _ _).alloc (Nat.le_refl _) _)).mkr.c2)) (fun hHeld => ?_)
      clear hK K
      try simp only [Act.put, List.setIfInBounds_toArray, List.set_cons_zero, List.set_cons_succ]
      refine wpAnyH_done (by kernel_rfl) ?_ _
      refine NoPanic.normal ?_
      clear hHeld M7 HX HL HO
      go_wp2
      refine bodyPost_ret (v := tagV s) ?_ rfl ⟨rfl, HG7.out⟩
      exact results_cell_mid (p := 4) (ty := 25) rfl _ W7 w.heap.size _ _ rfl HR7.out Tryz.underlying25 rfl (by simp [infoTag, tagC_len])
  · skip
    go_simp
    refine (octets_any N _).mono ?_
    rintro e w8 ⟨O, rfl, hH, hb8, ho8⟩
    have HO := Lib.hid ho8.bt
    have hOl : O < w8.heap.size := by
      obtain ⟨_, hc, _⟩ := ho8.row
      exact (Array.getElem?_eq_some_iff.1 hc).1
    try replace HL := Lib.hid (laid_go HL.out hb8)
    replace HX := Lib.hid (HX.out.go hb8)
    try simp only [World.size_alloc] at hH
    clear ho8 hb8
    dsimp only
    refine hK.out _ _ (by (first | exact M7.c2 | exact HX.out.mkr.c2 | exact (HX.out.go ((Below.refl _ _).alloc (Nat.le_refl _) _)).mkr.c2)) (fun hHeld => ?_)
    clear hK K
    try simp only [Act.put, List.setIfInBounds_toArray, List.set_cons_zero, List.set_cons_succ]
    refine one_to (i := 0) (l' := #[true, false, true, true, true, true, true, true, true, false, false, false]) rfl (by kernel_rfl) (by kernel_rfl) (fun K hK => ?_)
    go_simp
    obtain ⟨hl, hgw, hgm⟩ := HX.out.lay (.cells #[.int .u8 100, .int .u8 114, .int .u8 97, .int .u8 119] 5)
    have HL := Lib.hid hl
    replace HX := Lib.hid (HX.out.go ((Below.refl _ _).alloc (Nat.le_refl _) (.cells #[.int .u8 100, .int .u8 114, .int .u8 97, .int .u8 119] 5)))
    try replace HO := Lib.hid (HO.out.below' ((Below.refl _ _).alloc (Nat.le_refl _) (.cells #[.int .u8 100, .int .u8 114, .int .u8 97, .int .u8 119] 5)))
    clear hl
    refine hK.out _ _ (by (first | exact M7.c2 | exact HX.out.mkr.c2 | exact (HX.out.go ((Below.refl _ _).alloc (Nat.le_refl _) _)).mkr.c2)) (fun hHeld => ?_)
    clear hK K
    try simp only [Act.put, List.setIfInBounds_toArray, List.set_cons_zero, List.set_cons_succ]
    refine one_to (i := 1) (l' := #[true, true, true, true, true, true, true, true, true, false, false, false]) rfl (by kernel_rfl) (by kernel_rfl) (fun K hK => ?_)
    obtain ⟨W', hcv, hg', hl'⟩ := conv_gen _ _ 4 4 _ HL.out
    replace HX := Lib.hid (HX.out.fr hg' hgw hgm)
    try replace HO := Lib.hid (HO.out.gr hg' (by omega))
    replace HL := Lib.hid hl'
    go_simp
    clear hcv hg' hl'
    refine hK.out _ _ (by (first | exact M7.c2 | exact HX.out.mkr.c2 | exact (HX.out.go ((Below.refl _ _).alloc (Nat.le_refl _) _)).mkr.c2)) (fun hHeld => ?_)
    clear hK K
    try simp only [Act.put, List.setIfInBounds_toArray, List.set_cons_zero, List.set_cons_succ]
    refine one_to (i := 9) (l' := #[true, true, true, true, true, true, true, true, true, true, false, false]) rfl (by kernel_rfl) (by kernel_rfl) (fun K hK => ?_)
    go_simp
    refine hK.out _ _ (by (first | exact M7.c2 | exact HX.out.mkr.c2 | exact (HX.out.go ((Below.refl _ _).alloc (Nat.le_refl _) _)).mkr.c2)) (fun hHeld => ?_)
    clear hK K
    try simp only [Act.put, List.setIfInBounds_toArray, List.set_cons_zero, List.set_cons_succ]
    refine one_to (i := 10) (l' := #[true, true, true, true, true, true, true, true, true, true, true, false]) rfl (by kernel_rfl) (by kernel_rfl) (fun K hK => ?_)
    go_simp
    refine (HDG.out _ _ _ _ (HX.out.go ((Below.refl _ _).alloc (Nat.le_refl _) _)) (heap_alloc_new _ _) (laid_old HL.out) (HO.out.below' ((Below.refl _ _).alloc (Nat.le_refl _) _))).mono ?_
    rintro e w9 ⟨rfl, hb9⟩
    replace HX := Lib.hid ((HX.out.go ((Below.refl _ _).alloc (Nat.le_refl _) _)).go hb9)
    clear hb9
    dsimp only
    refine hK.out _ _ (by (first | exact M7.c2 | exact HX.out.mkr.c2 | exact (HX.out.go ((Below.refl _ _).alloc (Nat.le_refl _) _)).mkr.c2)) (fun hHeld => ?_)
    clear hK K
    try simp only [Act.put, List.setIfInBounds_toArray, List.set_cons_zero, List.set_cons_succ]
    refine one_to (i := 11) (l' := #[true, true, true, true, true, true, true, true, true, true, true, true]) rfl (by kernel_rfl) (by kernel_rfl) (fun K hK => ?_)
    rw [if_pos (by rfl)]
    have t9 := HX.out.tag
    refine wp_store_mid 25 _ _ rfl w.heap.size 0 (tagC s).toArray rfl rfl (by simpa [tagC_len] using t9.there 32 (Nat.le_refl _)) (by simp [infoTag, tagC_len]) (tagC_one _) ?_
    rw [List.toList_toArray]
    have HR7 := Lib.hid (World.rangeAt_setCells_same w9 w.heap.size 0 (tagC s) (by rw [tagC_len]; exact t9.there 32 (Nat.le_refl _)))
    have HG7 := Lib.hid (HX.out.bel.trans (gr_below (gr_setCells (hb := w.heap.size) (tagC s) 0 w9) (Nat.le_refl _) HX.out.bel.size))
    have M7 := HX.out.mkr.gr (gr_setCells (hb := w.heap.size) (tagC s) 0 w9) (by simp; omega)
    generalize w9.setCells w.heap.size 0 (tagC s) = W7 at HR7 HG7 M7 ⊢
    clear t9
    refine hK.out _ _ (by (first | exact M7.c2 | exact HX.out.mkr.c2 | exact (HX.out.go ((Below.refl _ _).alloc (Nat.le_refl _) _)).mkr.c2)) (fun hHeld => ?_)
    clear hK K
    try simp only [Act.put, List.setIfInBounds_toArray, List.set_cons_zero, List.set_cons_succ]
    refine wpAnyH_done (by kernel_rfl) ?_ _
    refine NoPanic.normal ?_
    clear hHeld M7 HX HL HO
    go_wp2
    refine bodyPost_ret (v := tagV s) ?_ rfl ⟨rfl, HG7.out⟩
    exact results_cell_mid (p := 4) (ty := 25) rfl _ W7 w.heap.size _ _ rfl HR7.out Tryz.underlying25 rfl (by simp [infoTag, tagC_len])

end Go.Proofs.YtejknkgbkkdaiaaGreatDoor
