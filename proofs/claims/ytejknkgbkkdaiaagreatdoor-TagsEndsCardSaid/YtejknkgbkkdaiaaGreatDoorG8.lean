/-
  Merged: Tag, Of.
-/
import Derived.Test.YtejknkgbkkdaiaaGreatDoorG7

namespace Go.Proofs.YtejknkgbkkdaiaaGreatDoor
open Go.RowKit
set_option linter.unusedSimpArgs false
set_option linter.unusedVariables false

theorem there_block {W : World} {b n : Nat} {C : Array Value} {t : TypeId} (h : W.heap[b]? = some (.cells C t (0, 0))) (hn : n ≤ C.size) : W.there b 0 n := fun j hj => by
  rw [Nat.zero_add]
  exact ⟨by rw [cell_of_row W b j C t (0, 0) h, Array.getElem?_eq_getElem (by omega)]; rfl, frozen_of_row W b j C t h⟩
theorem there_below {w w' : World} {b o n B : Nat} (h : w.there b o n) (g : Below B w w') (hb : b < B) : w'.there b o n := fun j hj => by
  rw [g.cell (p := ⟨b, o + j, none⟩) hb, g.frozen (p := ⟨b, o + j, none⟩) hb]; exact h j hj
theorem there_gr {w w' : World} {b o n : Nat} {row : Option Nat} (h : w.there b o n) (g : w.grownBy w' row) (hb : b < w.heap.size) (hr : some b ≠ row) : w'.there b o n := fun j hj => by
  have e := g.block b hb hr
  rw [World.cell?_of_block (a := ⟨b, o + j, none⟩) e, World.frozen?_of_block (a := ⟨b, o + j, none⟩) e]; exact h j hj
theorem HS.reads {w : World} {hb n : Nat} {st : Nat → BitVec 32} {op : Nat → BitVec 8} {own : Option Addr} (h : HS w hb st op n own) : Reads w.heap.size w (some ⟨hb, 0, none⟩) 8 (fun i => .int .u32 (u (st i))) :=
  .inr ⟨hb, 0, rfl, h.lt, fun i hi => by rw [Nat.zero_add]; exact h.word i hi⟩
/-- the value of a tag whose bytes are told -/
def tagC (s : Nat → BitVec 8) : List Value := (List.range 32).map fun i => .int .u8 (ub (s i))
def tagV (s : Nat → BitVec 8) : Value := .agg (tagC s).toArray
theorem tagC_len (s : Nat → BitVec 8) : (tagC s).length = 32 := by simp [tagC]
theorem tagC_one (s : Nat → BitVec 8) : (tagC s).toArray.all (·.oneCell') = true :=
  all_oneCell_toArray fun v hv => by
    obtain ⟨i, _, rfl⟩ := List.mem_map.1 hv
    rfl
theorem infoTag : (Tryz.prog.info? 25).map (·.size) = some 32 := by kernel_rfl
theorem copy_tag (w : World) (T b2 off2 c : Nat) (s : Nat → BitVec 8) (ht : w.there T 0 32) (hc : ∀ i, i < 32 → w.cell? ⟨b2, off2 + i, none⟩ = some (.int .u8 (ub (s i)))) (ty : TypeId) :
    (Builtin.copy_ #[22, 22] ty #[.slice (some ⟨T, 0, none⟩) 32 32, .slice (some ⟨b2, off2, none⟩) 32 c]).run Tryz.prog w = .ok (goInt 32) (w.setCells T 0 (tagC s)) := by
  have := run_copy_cells (P := Tryz.prog) w 22 22 ty 5 T 0 32 32 ⟨b2, off2, none⟩ 32 c (tagC s) Tryz.underlying22 (by kernel_rfl) (by simp [tagC]) (fun j v hv => by
    have hj : j < 32 := by have := (List.getElem?_eq_some_iff.1 hv).1; rwa [tagC_len] at this
    rw [Addr.add_mid, hc j hj, ← hv]; simp [tagC, hj]) (fun j hj => (ht j (by rwa [tagC_len] at hj)).1) (fun j hj => (ht j (by rwa [tagC_len] at hj)).2) (fun v hv => by
    obtain ⟨i, _, rfl⟩ := List.mem_map.1 hv
    rfl)
  rw [tagC_len] at this
  exact this

set_option maxHeartbeats 1000000 in
set_option maxRecDepth 100000 in
theorem tag_any (w : World) (hb : Nat) (st : Nat → BitVec 32) (op : Nat → BitVec 8) (n : Nat) (own : Option Addr) (h : HS w hb st op n own) :
    Calls Tryz.prog 80 #[.pointer (some ⟨hb, 0, none⟩)] w fun e w' => e = .returned (tagV (wb st)) ∧ Below w.heap.size w w' := by
  have HS := Lib.hid h
  clear h
  go_enter Tryz.func80, Tryz.ntmps80
  go_upto_region 2 with (fail)
  refine forget_code (fun W => Go.Proofs.YtejknkgbkkdaiaaGreatDoor.HS W hb st op n own ∧ Below w.heap.size w W ∧ W.there w.heap.size 0 32 ∧ W.there (w.heap.size + 1) 0 32 ∧ w.heap.size + 1 < W.heap.size)
    ⟨(HS.out.alloc _).alloc _, ((Below.refl _ _).alloc (Nat.le_refl _) _).alloc (by simp) _, there_block (laid_old (laid_at rfl)) (by simp), there_block (laid_at (by simp)) (by simp), by simp⟩ ?_
  clear HS
  rintro W ⟨hs, hbel, ht1, ht2, hsz⟩
  have HSW := Lib.hid hs
  have HB := Lib.hid hbel
  have HT1 := Lib.hid ht1
  have HT2 := Lib.hid ht2
  clear hs hbel ht1 ht2
  go_region_held3 (fun w' => True)
    (trivial)
    ((go_at_call 94; refine (bytes_any (some ⟨hb, 0, none⟩) 8 8 st _ (by omega) (by exact HSW.out.drew.reads)).mono ?_; rintro e w3 ⟨v, rfl, hb3, hown3⟩; obtain ⟨p3, c3, rfl, hrd3, hcap3⟩ := owns_reads hown3; obtain ⟨b3, off3, rfl, hc3⟩ : ∃ b off, p3 = some ⟨b, off, none⟩ ∧ ∀ i, i < 32 → w3.cell? ⟨b, off + i, none⟩ = some (.int .u8 (ub (wb st i))) := (by
        rcases hrd3 with h0 | ⟨b, off, h1, h2, h3⟩
        · omega
        · exact ⟨b, off, h1, h3⟩); have hcp3 := copy_tag w3 (w.heap.size + 1) b3 off3 c3 (wb st) (there_below (w := W.drew) ((World.there_drew _ _ _ _).2 HT2.out) hb3 hsz) hc3))
  have ht3 : w3.there (w.heap.size + 1) 0 32 := there_below (w := W.drew) ((World.there_drew _ _ _ _).2 HT2.out) hb3 hsz
  have ht3' : w3.there w.heap.size 0 32 := there_below (w := W.drew) ((World.there_drew _ _ _ _).2 HT1.out) hb3 (by show w.heap.size < W.heap.size; omega)
  have hbel3 : Below w.heap.size w w3 := (HB.out.drew).trans (hb3.mono (by show w.heap.size ≤ W.heap.size; omega))
  have hR := World.rangeAt_setCells_same w3 (w.heap.size + 1) 0 (tagC (wb st)) (by rw [tagC_len]; exact ht3)
  have hT := World.there_setCells ht3' (w.heap.size + 1) 0 (tagC (wb st))
  have hbel4 := hbel3.grown (gr_setCells (hb := w.heap.size + 1) (tagC (wb st)) 0 w3) hbel3.size (by rintro k ⟨⟩; omega)
  generalize w3.setCells (w.heap.size + 1) 0 (tagC (wb st)) = w4 at hR hT hbel4 ⊢
  have hR5 := World.rangeAt_setCells_same w4 w.heap.size 0 (tagC (wb st)) (by rw [tagC_len]; exact hT)
  have hbel5 := hbel4.grown (gr_setCells (hb := w.heap.size) (tagC (wb st)) 0 w4) hbel4.size (by rintro k ⟨⟩; omega)
  have HR := Lib.hid hR
  have HT := Lib.hid hT
  have HR5 := Lib.hid hR5
  have HB5 := Lib.hid hbel5
  clear ht3 ht3' hbel3 hR hT hbel4 hcp3 hrd3 hown3 hc3 hb3 hR5 hbel5
  go_upto_region 3 with (fail)
  refine wp_region_lit ?_
  refine wpList_load_mid rfl 25 _ rfl (w.heap.size + 1) 0 rfl (tagC (wb st)) _ HR.out Tryz.underlying25 rfl (by simp [infoTag, tagC_len]) ?_
  refine wpList_store_mid rfl 25 _ _ rfl w.heap.size 0 (tagC (wb st)).toArray rfl rfl (by simpa [tagC_len] using HT.out) (by simp [infoTag, tagC_len]) (tagC_one _) ?_
  rw [List.toList_toArray]
  generalize w4.setCells w.heap.size 0 (tagC (wb st)) = W7 at HR5 HB5 ⊢
  show Exit.then _ _ Exit.normal _ _
  go_wp2
  refine bodyPost_ret (v := tagV (wb st)) ?_ rfl ⟨rfl, HB5.out⟩
  exact results_cell_mid (p := 2) (ty := 25) rfl _ W7 w.heap.size _ _ rfl HR5.out Tryz.underlying25 rfl (by simp [infoTag, tagC_len])

theorem HS.of_range {w : World} {hb n : Nat} {st : Nat → BitVec 32} {op : Nat → BitVec 8} {own : Option Addr} (h : w.rangeAt hb 0 (hcells st op n own)) (hf : ∀ i, w.frozen? ⟨hb, i, none⟩ = false) (hl : hb < w.heap.size) : HS w hb st op n own := by
  have hc : ∀ j v, (hcells st op n own)[j]? = some v → w.cell? ⟨hb, j, none⟩ = some v := fun j v hv => by have := h j v hv; rwa [Nat.zero_add] at this
  exact ⟨hl, fun i hi => hc _ _ (hcells_word _ _ _ _ i hi), fun i hi => hc _ _ (hcells_byte _ _ _ _ i hi), hc _ _ (hcells_72 _ _ _ _), hc _ _ (hcells_73 _ _ _ _), hf⟩
theorem hcells_one (st : Nat → BitVec 32) (op : Nat → BitVec 8) (n : Nat) (own : Option Addr) : (hcells st op n own).toArray.all (·.oneCell') = true :=
  all_oneCell_toArray fun v hv => by
    simp only [hcells, List.mem_append, List.mem_map, List.mem_cons, List.not_mem_nil, or_false] at hv
    rcases hv with (⟨i, _, rfl⟩ | ⟨i, _, rfl⟩) | rfl | rfl <;> rfl
theorem infoH : (Tryz.prog.info? 110).map (·.size) = some 74 := by kernel_rfl

set_option maxHeartbeats 1000000 in
set_option maxRecDepth 100000 in
theorem tagOf_any (B : Nat) (w : World) (hb : Nat) (g : Nat → BitVec 8) (n : Nat) (hk : Kc B w) (hB : B ≤ hb) (h : HH w hb g n (some ⟨hb, 0, none⟩)) (hn : n ≤ 2147483648) :
    Calls Tryz.prog 55 #[.pointer (some ⟨hb, 0, none⟩)] w fun e w' => e = .returned (tagV (sha g n)) ∧ Below w.heap.size w w' := by
  have H0 := Lib.hid h
  have HK := Lib.hid hk
  clear h hk
  go_enter Tryz.func55, Tryz.ntmps55
  go_wp2_with fail
  obtain ⟨st0, op0, hs0⟩ := H0.out.own
  refine (none_any _ hb st0 op0 n (hs0.alloc _)).mono ?_
  rintro e w' ⟨rfl, rfl⟩
  go_upto_region 3 with (fail)
  clear hs0
  refine forget_code (fun W => HH W hb g n (some ⟨hb, 0, none⟩) ∧ Kc B W ∧ Below w.heap.size w W ∧ W.there w.heap.size 0 32 ∧ w.heap.size < W.heap.size)
    ⟨let ⟨op, hs, ho⟩ := H0.out; ⟨op, hs.alloc _, ho⟩, HK.out.below ((Below.refl _ _).alloc (by obtain ⟨op, hs, _⟩ := H0.out; have := hs.lt; omega) _), (Below.refl _ _).alloc (Nat.le_refl _) _, there_block (laid_at rfl) (by simp), by simp⟩ ?_
  clear HK
  rintro W ⟨hh, hkw, hbel, ht, hsz⟩
  obtain ⟨op, hs, hop⟩ := hh
  have hwb : hb < w.heap.size := by obtain ⟨op, hs, _⟩ := H0.out; exact hs.lt
  refine wp_region_lit ?_
  refine wpList_plain rfl (fun K hK => ?_)
  go_simp
  refine hK _ _ ?_
  clear hK K
  refine wpList_plain rfl (fun K hK => ?_)
  go_simp
  refine hK _ _ ?_
  clear hK K
  refine wpList_load_mid rfl 110 _ rfl hb 0 rfl (hcells (mid g (n / 64)) op n (some ⟨hb, 0, none⟩)) _ hs.range Tryz.underlying110 rfl (by simp [infoH, hcells_len]) ?_
  refine wpList_plain rfl (fun K hK => ?_)
  go_simp
  refine hK _ _ ?_
  clear hK K
  refine wpList_store_mid rfl 110 _ _ rfl W.heap.size 0 (hcells (mid g (n / 64)) op n (some ⟨hb, 0, none⟩)).toArray rfl rfl (there_block (laid_at rfl) (by simp [hcells_len, Tryz.zeroCells110_size])) (by simp [infoH, hcells_len]) (hcells_one _ _ _ _) ?_
  rw [List.toList_toArray]
  have hth : (W.alloc (.cells Tryz.zeroCells110 110)).there W.heap.size 0 74 := there_block (laid_at rfl) (by simp [Tryz.zeroCells110_size])
  have hcopy : HS ((W.alloc (.cells Tryz.zeroCells110 110)).setCells W.heap.size 0 (hcells (mid g (n / 64)) op n (some ⟨hb, 0, none⟩))) W.heap.size (mid g (n / 64)) op n (some ⟨hb, 0, none⟩) :=
    HS.of_range (World.rangeAt_setCells_same _ _ _ _ (by rw [hcells_len]; exact hth)) (fun i => (World.frozen?_setCells _ _ _ _ _).trans (frozen_of_row _ _ _ _ _ (laid_at rfl))) (by rw [size_setCells]; simp)
  have hgr : W.grownBy ((W.alloc (.cells Tryz.zeroCells110 110)).setCells W.heap.size 0 (hcells (mid g (n / 64)) op n (some ⟨hb, 0, none⟩))) (some W.heap.size) := (World.grownBy_alloc W _ _).trans (gr_setCells _ _ _)
  generalize (W.alloc (.cells Tryz.zeroCells110 110)).setCells W.heap.size 0 (hcells (mid g (n / 64)) op n (some ⟨hb, 0, none⟩)) = W2 at hcopy hgr ⊢
  have hBW : B ≤ W.heap.size := by omega
  have HC := Lib.hid (show HH W2 W.heap.size g n (some ⟨hb, 0, none⟩) from ⟨op, hcopy, hop⟩)
  have HK2 := Lib.hid (hkw.below (gr_below hgr hBW hBW))
  have HB2 := Lib.hid (hbel.grown hgr hbel.size (by rintro k ⟨⟩; omega))
  have HT2 := Lib.hid (there_gr ht hgr hsz (by simp; omega))
  have hs2 : w.heap.size < W2.heap.size := by have := hgr.size; omega
  clear hth hcopy hgr hs hop hkw hbel ht
  show Exit.then _ _ Exit.normal _ _
  go_wp2_with fail
  refine (end_any B W2 W.heap.size g n _ HK2.out hBW HC.out hn).mono ?_
  rintro e W3 ⟨rfl, hg3, hh3⟩
  obtain ⟨op3, hs3, _⟩ := hh3
  have HS3 := Lib.hid hs3
  have HB3 := Lib.hid (HB2.out.grown hg3 HB2.out.size (by rintro k ⟨⟩; omega))
  have HT3 := Lib.hid (there_gr HT2.out hg3 hs2 (by simp; omega))
  have hs4 : w.heap.size < W3.heap.size := by have := hg3.size; omega
  clear hs3 hg3
  go_upto_region 5 with (fail)
  refine wp_region_lit ?_
  refine wpList_plain rfl (fun K hK => ?_)
  go_simp
  refine hK _ _ ?_
  clear hK K
  refine wpList_plain rfl (fun K hK => ?_)
  go_simp
  refine (tag_any W3 W.heap.size _ op3 _ _ HS3.out).mono ?_
  rintro e W4 ⟨rfl, hb4⟩
  dsimp only
  refine hK _ _ ?_
  clear hK K
  have hT4 := there_below HT3.out hb4 hs4
  have hB4 := HB3.out.trans (hb4.mono (by omega))
  have hsh : wb (mid (fillB g n) (full n / 64)) = sha g n := rfl
  rw [hsh]
  refine wpList_store_mid rfl 25 _ _ rfl w.heap.size 0 (tagC (sha g n)).toArray rfl rfl (by simpa [tagC_len] using hT4) (by simp [infoTag, tagC_len]) (tagC_one _) ?_
  rw [List.toList_toArray]
  have HR5 := Lib.hid (World.rangeAt_setCells_same W4 w.heap.size 0 (tagC (sha g n)) (by rw [tagC_len]; exact hT4))
  have HB5 := Lib.hid (hB4.grown (gr_setCells (hb := w.heap.size) (tagC (sha g n)) 0 W4) hB4.size (by rintro k ⟨⟩; omega))
  generalize W4.setCells w.heap.size 0 (tagC (sha g n)) = W7 at HR5 HB5 ⊢
  clear hT4 hB4 hb4 hsh
  show Exit.then _ _ Exit.normal _ _
  go_wp2
  refine bodyPost_ret (v := tagV (sha g n)) ?_ rfl ⟨rfl, HB5.out⟩
  exact results_cell_mid (p := 2) (ty := 25) rfl _ W7 w.heap.size _ _ rfl HR5.out Tryz.underlying25 rfl (by simp [infoTag, tagC_len])
end Go.Proofs.YtejknkgbkkdaiaaGreatDoor

namespace Go.Proofs.YtejknkgbkkdaiaaGreatDoor
open Go.RowKit
set_option linter.unusedSimpArgs false
set_option linter.unusedVariables false

/-- m rows that lie in the world -/
structure RI (w : World) (p : Option Addr) (m : Nat) (P : Nat → Option Addr) (ln C : Nat → Nat) (f : Nat → Nat → BitVec 8) : Prop where
  rows : Reads w.heap.size w p m (fun i => .slice (P i) (ln i) (C i))
  cap : ∀ i, i < m → ln i ≤ C i ∧ C i ≤ maxLen
  row : ∀ i, i < m → Reads w.heap.size w (P i) (ln i) (fun j => .int .u8 (ub (f i j)))
theorem RI.rr {w w' : World} {p : Option Addr} {m hb : Nat} {P : Nat → Option Addr} {ln C : Nat → Nat} {f : Nat → Nat → BitVec 8} (h : RI w p m P ln C f) (g : Below w.heap.size w w') (hB : w.heap.size ≤ hb) (hs : hb < w'.heap.size) : RR hb w' p m P ln C f :=
  ⟨(h.rows.below g).rx hB hs, h.cap, fun i hi => ((h.row i hi).below g).rx hB hs⟩

set_option maxHeartbeats 1000000 in
set_option maxRecDepth 100000 in
theorem of_any (B : Nat) (w : World) (g : Nat → BitVec 8) (p : Option Addr) (m c : Nat) (P : Nat → Option Addr) (ln C : Nat → Nat) (f : Nat → Nat → BitVec 8)
    (hk : Kc B w) (hB : B ≤ w.heap.size) (hr : RI w p m P ln C f) (hm : m ≤ 4294967296) (hn : pos ln m ≤ 2147483648) (hg : ∀ i, i < m → ∀ j, j < ln i → f i j = g (pos ln i + j)) :
    Calls Tryz.prog 38 #[.slice p m c] w fun e w' => e = .returned (tagV (sha g (pos ln m))) ∧ Below w.heap.size w w' := by
  have HK := Lib.hid hk
  have HR := Lib.hid hr
  have HN := Lib.hid hn
  have HGG := Lib.hid hg
  clear hk hr hn hg
  go_enter Tryz.func38, Tryz.ntmps38
  go_upto_region 1 with (fail)
  refine forget_code (fun W => Below w.heap.size w W ∧ W.there w.heap.size 0 32 ∧ w.heap.size < W.heap.size)
    ⟨(Below.refl _ _).alloc (Nat.le_refl _) _, there_block (laid_at rfl) (by simp), by simp⟩ ?_
  rintro W ⟨hbel, ht, hsz⟩
  have HB := Lib.hid hbel
  have HT := Lib.hid ht
  clear hbel ht
  go_wp2_with fail
  refine (new_any W).mono ?_
  rintro e W1 ⟨hb, rfl, hbW, hb1, hh1⟩
  have HH1 := Lib.hid (hh1 g)
  have HB1 := Lib.hid (HB.out.trans (hb1.mono (by omega)))
  have HT1 := Lib.hid (there_below HT.out hb1 hsz)
  have hlt1 : hb < W1.heap.size := by obtain ⟨op, hs, _⟩ := hh1 g; exact hs.lt
  have hs1 : w.heap.size < W1.heap.size := by omega
  clear hb1 hh1
  go_wp2_with fail
  refine (fill_any B W1 hb g 0 _ p m c P ln C f (HK.out.below (HB1.out.mono hB)) (by omega) HH1.out (HR.out.rr HB1.out (by omega) hlt1) hm (by have := HN.out; omega) (fun i hi j hj => by rw [Nat.zero_add]; exact HGG.out i hi j hj)).mono ?_
  rintro e W2 ⟨rfl, hg2, hh2⟩
  rw [Nat.zero_add] at hh2
  have HH2 := Lib.hid hh2
  have HB2 := Lib.hid (HB1.out.grown hg2 HB1.out.size (by rintro k ⟨⟩; omega))
  have HT2 := Lib.hid (there_gr HT1.out hg2 hs1 (by simp; omega))
  have hs2 : w.heap.size < W2.heap.size := by have := hg2.size; omega
  clear hh2 hg2
  go_upto_region 3 with (fail)
  refine wp_region_lit ?_
  refine wpList_plain rfl (fun K hK => ?_)
  go_simp
  refine hK _ _ ?_
  clear hK K
  refine wpList_plain rfl (fun K hK => ?_)
  go_simp
  refine (tagOf_any B W2 hb g (pos ln m) (HK.out.below (HB2.out.mono hB)) (by omega) HH2.out HN.out).mono ?_
  rintro e W4 ⟨rfl, hb4⟩
  dsimp only
  refine hK _ _ ?_
  clear hK K
  have hT4 := there_below HT2.out hb4 hs2
  have hB4 := HB2.out.trans (hb4.mono (by omega))
  obtain ⟨s, hsd⟩ : ∃ s, s = sha g (pos ln m) := ⟨_, rfl⟩
  rw [← hsd]
  refine wpList_store_mid rfl 25 _ _ rfl w.heap.size 0 (tagC s).toArray rfl rfl (by simpa [tagC_len] using hT4) (by simp [infoTag, tagC_len]) (tagC_one _) ?_
  rw [List.toList_toArray]
  have HR5 := Lib.hid (World.rangeAt_setCells_same W4 w.heap.size 0 (tagC s) (by rw [tagC_len]; exact hT4))
  have HB5 := Lib.hid (hB4.grown (gr_setCells (hb := w.heap.size) (tagC s) 0 W4) hB4.size (by rintro k ⟨⟩; omega))
  generalize W4.setCells w.heap.size 0 (tagC s) = W7 at HR5 HB5 ⊢
  have HSD := Lib.hid hsd
  clear hT4 hB4 hb4 hsd
  show Exit.then _ _ Exit.normal _ _
  go_wp2
  refine bodyPost_ret (v := tagV s) ?_ rfl ⟨by rw [HSD.out], HB5.out⟩
  exact results_cell_mid (p := 2) (ty := 25) rfl _ W7 w.heap.size _ _ rfl HR5.out Tryz.underlying25 rfl (by simp [infoTag, tagC_len])

theorem rx_laid {hb : Nat} {W : World} {H : Nat} {cs : Array Value} {t : TypeId} {fr : Nat × Nat} {n : Nat} {f : Nat → Value} (hW : W.heap[H]? = some (.cells cs t fr)) (hne : H ≠ hb) (h : ∀ i, i < n → cs[i]? = some (f i)) : RX hb W (some ⟨H, 0, none⟩) n f :=
  .inr ⟨H, 0, rfl, hne, (Array.getElem?_eq_some_iff.1 hW).1, fun i hi => by rw [Nat.zero_add, cell_of_row W H i cs t fr hW]; exact h i hi⟩
theorem reads_at {W : World} {H : Nat} {cs : Array Value} {t : TypeId} {fr : Nat × Nat} {n : Nat} {f : Nat → Value} (hW : W.heap[H]? = some (.cells cs t fr)) (h : ∀ i, i < n → cs[i]? = some (f i)) : Reads W.heap.size W (some ⟨H, 0, none⟩) n f :=
  .inr ⟨H, 0, rfl, (Array.getElem?_eq_some_iff.1 hW).1, fun i hi => by rw [Nat.zero_add, cell_of_row W H i cs t fr hW]; exact h i hi⟩
/-- one row -/
abbrev one1 {α : Type} (x : α) : Nat → α := fun _ => x
theorem pos_one (n : Nat) : pos (one1 n) 1 = n := by simp [pos]
theorem pos_two (n n2 : Nat) : pos (fst3 n n2 n2) 2 = n + n2 := by simp [pos, fst3]
theorem RR.one {hb : Nat} {W : World} {H n c : Nat} {p : Option Addr} {t : TypeId} {f : Nat → BitVec 8} (hW : W.heap[H]? = some (.cells #[.slice p n c] t (0, 0))) (hne : H ≠ hb) (hc : n ≤ c) (hm : c ≤ maxLen)
    (hr : RX hb W p n (fun j => .int .u8 (ub (f j)))) : RR hb W (some ⟨H, 0, none⟩) 1 (one1 p) (one1 n) (one1 c) (one1 f) :=
  ⟨rx_laid hW hne (fun i hi => by rw [show i = 0 by omega]; rfl), fun _ _ => ⟨hc, hm⟩, fun _ _ => hr⟩
theorem RI.one {W : World} {H n c : Nat} {p : Option Addr} {t : TypeId} {f : Nat → BitVec 8} (hW : W.heap[H]? = some (.cells #[.slice p n c] t (0, 0))) (hc : n ≤ c) (hm : c ≤ maxLen)
    (hr : Reads W.heap.size W p n (fun j => .int .u8 (ub (f j)))) : RI W (some ⟨H, 0, none⟩) 1 (one1 p) (one1 n) (one1 c) (one1 f) :=
  ⟨reads_at hW (fun i hi => by rw [show i = 0 by omega]; rfl), fun _ _ => ⟨hc, hm⟩, fun _ _ => hr⟩
theorem two_cap {n c n2 c2 : Nat} (hc : n ≤ c) (hm : c ≤ maxLen) (hc2 : n2 ≤ c2) (hm2 : c2 ≤ maxLen) (i : Nat) (hi : i < 2) : fst3 n n2 n2 i ≤ fst3 c c2 c2 i ∧ fst3 c c2 c2 i ≤ maxLen := by
  match i, hi with
  | 0, _ => exact ⟨hc, hm⟩
  | 1, _ => exact ⟨hc2, hm2⟩
theorem RR.two {hb : Nat} {W : World} {H n c n2 c2 : Nat} {p p2 : Option Addr} {t : TypeId} {f f2 : Nat → BitVec 8} (hW : W.heap[H]? = some (.cells #[.slice p n c, .slice p2 n2 c2] t (0, 0))) (hne : H ≠ hb) (hc : n ≤ c) (hm : c ≤ maxLen) (hc2 : n2 ≤ c2) (hm2 : c2 ≤ maxLen)
    (hr : RX hb W p n (fun j => .int .u8 (ub (f j)))) (hr2 : RX hb W p2 n2 (fun j => .int .u8 (ub (f2 j)))) : RR hb W (some ⟨H, 0, none⟩) 2 (fst3 p p2 p2) (fst3 n n2 n2) (fst3 c c2 c2) (fst3 f f2 f2) :=
  ⟨rx_laid hW hne (fun i hi => by
    match i, hi with
    | 0, _ => rfl
    | 1, _ => rfl), two_cap hc hm hc2 hm2, fun i hi => by
    match i, hi with
    | 0, _ => exact hr
    | 1, _ => exact hr2⟩
theorem RI.two {W : World} {H n c n2 c2 : Nat} {p p2 : Option Addr} {t : TypeId} {f f2 : Nat → BitVec 8} (hW : W.heap[H]? = some (.cells #[.slice p n c, .slice p2 n2 c2] t (0, 0))) (hc : n ≤ c) (hm : c ≤ maxLen) (hc2 : n2 ≤ c2) (hm2 : c2 ≤ maxLen)
    (hr : Reads W.heap.size W p n (fun j => .int .u8 (ub (f j)))) (hr2 : Reads W.heap.size W p2 n2 (fun j => .int .u8 (ub (f2 j)))) : RI W (some ⟨H, 0, none⟩) 2 (fst3 p p2 p2) (fst3 n n2 n2) (fst3 c c2 c2) (fst3 f f2 f2) :=
  ⟨reads_at hW (fun i hi => by
    match i, hi with
    | 0, _ => rfl
    | 1, _ => rfl), two_cap hc hm hc2 hm2, fun i hi => by
    match i, hi with
    | 0, _ => exact hr
    | 1, _ => exact hr2⟩
theorem of1 (B : Nat) (W : World) (H n c : Nat) (p : Option Addr) (t : TypeId) (g : Nat → BitVec 8) (hk : Kc B W) (hB : B ≤ W.heap.size) (hW : W.heap[H]? = some (.cells #[.slice p n c] t (0, 0))) (hc : n ≤ c) (hm : c ≤ maxLen)
    (hr : Reads W.heap.size W p n (fun j => .int .u8 (ub (g j)))) (hn : n ≤ 2147483648) :
    Calls Tryz.prog 38 #[.slice (some ⟨H, 0, none⟩) 1 1] W fun e w' => e = .returned (tagV (sha g n)) ∧ Below W.heap.size W w' := by
  have hx := of_any B W g _ 1 1 _ _ _ _ hk hB (RI.one (f := g) hW hc hm hr) (by omega) (by rw [pos_one]; exact hn) (fun i hi j hj => by rw [show i = 0 by omega]; simp [pos])
  rw [pos_one] at hx
  exact hx
theorem of2 (B : Nat) (W : World) (H n c n2 c2 : Nat) (p p2 : Option Addr) (t : TypeId) (g : Nat → BitVec 8) (hk : Kc B W) (hB : B ≤ W.heap.size) (hW : W.heap[H]? = some (.cells #[.slice p n c, .slice p2 n2 c2] t (0, 0)))
    (hc : n ≤ c) (hm : c ≤ maxLen) (hc2 : n2 ≤ c2) (hm2 : c2 ≤ maxLen) (hr : Reads W.heap.size W p n (fun j => .int .u8 (ub (g j)))) (hr2 : Reads W.heap.size W p2 n2 (fun j => .int .u8 (ub (g (n + j))))) (hn : n + n2 ≤ 2147483648) :
    Calls Tryz.prog 38 #[.slice (some ⟨H, 0, none⟩) 2 2] W fun e w' => e = .returned (tagV (sha g (n + n2))) ∧ Below W.heap.size W w' := by
  have hx := of_any B W g _ 2 2 _ _ _ _ hk hB (RI.two (f := g) (f2 := fun j => g (n + j)) hW hc hm hc2 hm2 hr hr2) (by omega) (by rw [pos_two]; exact hn) (fun i hi j hj => by
    match i, hi with
    | 0, _ => simp [fst3, pos]
    | 1, _ => simp [fst3, pos])
  rw [pos_two] at hx
  exact hx
theorem HH.alloc {W : World} {hb n : Nat} {g : Nat → BitVec 8} {own : Option Addr} (h : HH W hb g n own) (o : Obj) : HH (W.alloc o) hb g n own := let ⟨op, hs, ho⟩ := h; ⟨op, hs.alloc o, ho⟩
theorem HH.drew {W : World} {hb n : Nat} {g : Nat → BitVec 8} {own : Option Addr} (h : HH W hb g n own) : HH W.drew hb g n own := let ⟨op, hs, ho⟩ := h; ⟨op, hs.drew, ho⟩
theorem HH.below' {W W' : World} {hb n : Nat} {g : Nat → BitVec 8} {own : Option Addr} (h : HH W hb g n own) (b : Below W.heap.size W W') : HH W' hb g n own := let ⟨op, hs, ho⟩ := h; ⟨op, hs.below' b, ho⟩
theorem HH.lt {W : World} {hb n : Nat} {g : Nat → BitVec 8} {own : Option Addr} (h : HH W hb g n own) : hb < W.heap.size := let ⟨_, hs, _⟩ := h; hs.lt
theorem HH.other {W W' : World} {hb hb2 n : Nat} {g : Nat → BitVec 8} {own : Option Addr} (h : HH W hb g n own) (b : W.grownBy W' (some hb2)) (hne : hb ≠ hb2) : HH W' hb g n own := let ⟨op, hs, ho⟩ := h; ⟨op, hs.gr b (by simpa using hne), ho⟩
theorem HH.other' {W W' : World} {hb n : Nat} {g g' : Nat → BitVec 8} {own : Option Addr} (h : HH W hb g n own) (e : ∀ i, i < n → g i = g' i) : HH W hb g' n own := by
  obtain ⟨op, hs, ho⟩ := h
  refine ⟨op, ?_, fun j hj => by rw [ho j hj]; exact e _ (by omega)⟩
  rw [← mid_congr (n / 64) (fun i hi => e i (by omega))]; exact hs
end Go.Proofs.YtejknkgbkkdaiaaGreatDoor
