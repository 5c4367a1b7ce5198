/-
  Contract: the document's tag of a row.
-/
import Derived.Test.YtejknkgbkkdaiaaGreatDoorG14
import Derived.Test.YtejknkgbkkdaiaaGreatDoorG10
import Derived.Test.YtejknkgbkkdaiaaGreatDoorG9
namespace Go.Proofs.YtejknkgbkkdaiaaGreatDoor
open Go.RowKit
set_option linter.unusedVariables false
set_option linter.unusedSimpArgs false

theorem zeros_at (n i : Nat) (hi : i < n) : (List.replicate n (Value.int .u8 0)).toArray[i]? = some (.int .u8 (ub 0#8)) := by
  rw [List.getElem?_toArray, List.getElem?_replicate, if_pos hi]; rfl
theorem Reads.goes {w W : World} {p : Option Addr} {n : Nat} {f : Nat → Value} (h : Reads w.heap.size w p n f) (g : Below w.heap.size w W) : Reads W.heap.size W p n f := (h.below g).mono g.size
/-- what stays while blocks are taken: the result's cells, the constants, the filled bytes; VH: where the eight words lie, which turn -/
structure OS (w : World) (VH KH : Nat) (pA : Option Addr) (N : Nat) (fb : Nat → BitVec 8) (W : World) : Prop where
  res : BT W w.heap.size 32 (fun _ => 0#8)
  con : WT W KH 64 kc
  all : RX VH W pA N (fun i => .int .u8 (ub (fb i)))
  bel : Below w.heap.size w W
  vh : w.heap.size < VH ∧ VH ≠ KH
section
variable {w W W' : World} {VH KH N : Nat} {pA : Option Addr} {fb : Nat → BitVec 8}
theorem OS.gr (h : OS w VH KH pA N fb W) (g : W.grownBy W' (some VH)) : OS w VH KH pA N fb W' :=
  ⟨h.res.gr g (by have := h.vh; omega), h.con.gr g (by have := h.vh; omega), h.all.gr g, h.bel.grown g h.bel.size (by rintro q ⟨⟩; have := h.vh; omega), h.vh⟩
theorem OS.go (h : OS w VH KH pA N fb W) (g : Below W.heap.size W W') : OS w VH KH pA N fb W' := h.gr (below_gr g _)
end
/-- eight words that are read -/
structure R8 (G : Nat) (st : Nat → BitVec 32) (W : World) : Prop where
  lt : G < W.heap.size
  word : ∀ i, i < 8 → W.cell? ⟨G, i, none⟩ = some (.int .u32 (u (st i)))
theorem R8.go {G : Nat} {st : Nat → BitVec 32} {W W' : World} (h : R8 G st W) (g : Below W.heap.size W W') : R8 G st W' :=
  ⟨Nat.lt_of_lt_of_le h.lt g.size, fun i hi => by rw [g.cell (p := ⟨G, i, none⟩) h.lt]; exact h.word i hi⟩
theorem R8.gr {G hb : Nat} {st : Nat → BitVec 32} {W W' : World} (h : R8 G st W) (g : W.grownBy W' (some hb)) (hne : G ≠ hb) : R8 G st W' :=
  ⟨Nat.lt_of_lt_of_le h.lt g.size, fun i hi => by rw [World.cell?_of_block (w := W) (a := ⟨G, i, none⟩) (g.block G h.lt (by simpa using hne))]; exact h.word i hi⟩
/-- within a block -/
structure IN (w : World) (VH KH GW G : Nat) (pA : Option Addr) (N : Nat) (fb : Nat → BitVec 8) (v wd st : Nat → BitVec 32) (W : World) : Prop where
  os : OS w VH KH pA N fb W
  v : WT W VH 8 v
  wd : GW < W.heap.size ∧ ∀ i, i < 64 → W.cell? ⟨GW, i, none⟩ = some (.int .u32 (u (wd i)))
  s : R8 G st W
section
variable {w W W' : World} {VH KH N GW G : Nat} {pA : Option Addr} {fb : Nat → BitVec 8} {v wd st : Nat → BitVec 32}
theorem IN.go (h : IN w VH KH GW G pA N fb v wd st W) (g : Below W.heap.size W W') : IN w VH KH GW G pA N fb v wd st W' :=
  ⟨h.os.go g, h.v.below' g, ⟨Nat.lt_of_lt_of_le h.wd.1 g.size, fun i hi => by rw [g.cell (p := ⟨GW, i, none⟩) h.wd.1]; exact h.wd.2 i hi⟩, h.s.go g⟩
theorem IN.drew (h : IN w VH KH GW G pA N fb v wd st W) : IN w VH KH GW G pA N fb v wd st W.drew := h.go (Below.refl _ _).drew
theorem IN.alloc (h : IN w VH KH GW G pA N fb v wd st W) (o : Obj) : IN w VH KH GW G pA N fb v wd st (W.alloc o) := h.go ((Below.refl _ _).alloc (Nat.le_refl _) o)
end
theorem IN.reads3 {w W : World} {VH KH N GW G : Nat} {pA : Option Addr} {fb : Nat → BitVec 8} {v wd st : Nat → BitVec 32} (h : IN w VH KH GW G pA N fb v wd st W) : Reads W.heap.size W (some ⟨G, 0, none⟩) 3 (fun i => .int .u32 (u (st i))) :=
  .inr ⟨G, 0, rfl, h.s.lt, fun i hi => by rw [Nat.zero_add]; exact h.s.word i (by omega)⟩
/-- bytes, of which the first are told -/
def padK0 (s : Nat → BitVec 8) (n : Nat) : Nat → BitVec 8 := fun i => if i < n then s i else 0#8
theorem sliceElemW : Tryz.prog.underlying 93 = some (.slice (Tryz.prog.elem 93)) := by kernel_rfl
theorem sliceSizeW : Tryz.prog.elem 93 = 96 := by kernel_rfl
theorem sizeU32 (w : World) : (sizeOf 96).run Tryz.prog w = .ok 1 w := by
  obtain ⟨i0, hi, hz0, hz1, hz2⟩ := info_parts infoW
  simp [sizeOf, typeInfo, hi, hz1]
theorem first3 (G c : Nat) (hc : 8 ≤ c) (W : World) : (Instr.slice 93 (.slice (some ⟨G, 0, none⟩) 8 c) none (some (.int .i64 3)) none).run Tryz.prog W = .ok (.slice (some ⟨G, 0, none⟩) 3 c) W := by
  rw [run_slice_h W 93 _ 8 c sliceElemW .i64 3 (by omega) (by omega), sliceSizeW, sizeU32]
  simp [sliced, Addr.add_lit]
theorem rx_slice {hb : Nat} {W : World} {p : Option Addr} {N c q m : Nat} {f : Nat → Value} (h : RX hb W p N f) (hq : q + m ≤ N) (hm : 0 < m) (hc : N ≤ c) :
    ∃ b off, p = some ⟨b, off, none⟩ ∧ Reads W.heap.size W (some ⟨b, off + q, none⟩) m (fun i => f (q + i)) := by
  rcases h with h | ⟨b, off, rfl, h2, h3, h4⟩
  · omega
  · exact ⟨b, off, rfl, .inr ⟨b, off + q, rfl, h3, fun i hi => by rw [Nat.add_assoc]; exact h4 (q + i) (by omega)⟩⟩
theorem RX.to_reads {hb : Nat} {W : World} {p : Option Addr} {N : Nat} {f : Nat → Value} (h : RX hb W p N f) : Reads W.heap.size W p N f := by
  rcases h with h | ⟨b, off, h1, h2, h3, h4⟩
  · exact .inl h
  · exact .inr ⟨b, off, h1, h3, h4⟩
/-- a copy of eight words -/
theorem append_eight (W : World) (ty : TypeId) (base VH : Nat) (v : Nat → BitVec 32) (hv : WT W VH 8 v) (hb : base ≤ W.heap.size) :
    ∃ G c W', (Builtin.append_ #[93, 93] ty #[.slice (some ⟨W.heap.size, 0, none⟩) 0 0, .slice (some ⟨VH, 0, none⟩) 8 8]).run Tryz.prog (W.alloc (.cells #[] 96)) = .ok (.slice (some ⟨G, 0, none⟩) 8 c) W' ∧ W.heap.size ≤ G ∧ (8 ≤ c ∧ c ≤ maxLen) ∧ Below W.heap.size W W' ∧ R8 G v W' := by
  obtain ⟨i0, hi, hz0, hz1, hz2⟩ := info_parts infoW
  obtain ⟨v', w', h1, h2, h3⟩ := append_reads (P := Tryz.prog) (W.alloc (.cells #[] 96)) W.heap.size (W.heap.size + 1) 93 ty 96 i0 (.int .u32 0) 4 Tryz.underlying93 hi hz0 hz1 hz2 rfl _ _ _ owns_nil_alloc (some ⟨VH, 0, none⟩) 8 8 (fun i => .int .u32 (u (v i)))
    ((hv.alloc _).reads.mono (by simp)) (fun _ _ => rfl) (by unfold maxLen; omega) (by omega) (by simp)
  rw [Nat.zero_add, List.nil_append] at h2
  obtain ⟨G, c, rfl, hG, hc, hm⟩ := owns_some h2 (by omega)
  have hbel : Below W.heap.size W w' := ((Below.refl _ _).alloc (Nat.le_refl _) _).grown h3 (by simp) (by rintro q ⟨⟩; exact Nat.le_refl _)
  exact ⟨G, c, w', h1, hG, ⟨hc, hm⟩, hbel, (h2.lt G rfl).2, fun i hi => by rw [h2.cellAt i (by omega)]; simp [hi]⟩
set_option maxHeartbeats 8000000 in
set_option maxRecDepth 100000 in
theorem refOf_any (B : Nat) (w : World) (p : Option Addr) (n c : Nat) (g : Nat → BitVec 8) (hB : B ≤ w.heap.size) (hn : n ≤ 2147483648) (hr : Reads B w p n (fun i => .int .u8 (ub (g i)))) :
    Calls Tryz.prog 46 #[.slice p n c] w fun e w' => e = .returned (tagV (sha g n)) ∧ Below w.heap.size w w' := by
  have HR := Lib.hid hr
  clear hr
  obtain ⟨NQ, hNQ⟩ : ∃ NQ, NQ = full n := ⟨_, rfl⟩
  obtain ⟨Q, hQ⟩ : ∃ Q, NQ = 64 * Q := ⟨(n + 8) / 64 + 1, hNQ⟩
  have hQ2 : full n / 64 = Q := by omega
  have hQ3 : NQ ≤ 4294967296 := by rw [hNQ]; unfold full; omega
  obtain ⟨fb, hfb⟩ : ∃ fb, fb = fillB g n := ⟨_, rfl⟩
  obtain ⟨SH, hSH⟩ : ∃ SH, SH = sha g n := ⟨_, rfl⟩
  have hsh : SH = wb (mid fb Q) := by rw [hSH, hfb]; unfold sha; rw [hQ2]
  rw [← hSH]
  have HSH := Lib.hid hsh
  clear hsh hSH
  have hfill := fun W (hW : Below w.heap.size w W) => filled_any W.heap.size W p n c g (Nat.le_refl _) hn (((HR.out.below (hW.mono hB)).mono (Nat.le_trans hB hW.size)))
  simp only [← hNQ, ← hfb] at hfill
  have HF := Lib.hid hfill
  have HQ := Lib.hid hQ
  clear hfill hQ2 hfb hQ hNQ
  go_enter Tryz.func46, Tryz.ntmps46
  go_upto_region 1 with (fail)
  refine forget_code (fun W => Below w.heap.size w W ∧ BT W w.heap.size 32 (fun _ => 0#8))
    ⟨(Below.refl _ _).alloc (Nat.le_refl _) _, BT.of_cells (laid_at rfl) (fun i hi => zeros_at 32 i hi)⟩ ?_
  rintro W ⟨hbel, hres⟩
  have HB := Lib.hid hbel
  have HRS := Lib.hid hres
  clear hbel hres
  go_wp2_with fail
  refine (HF.out W HB.out).mono ?_
  rintro e W1 ⟨vA, rfl, hb1, hown1⟩
  have hz0 := HRS.out.lt
  obtain ⟨pA, cA, rfl, hrd1, hcA, hmA⟩ := owns_reads hown1
  obtain ⟨gA, hgA⟩ : ∃ gA, pA = none ∨ pA = some ⟨gA, 0, none⟩ ∧ gA < W1.heap.size := by
    rcases hown1.2 with ⟨he, _⟩ | ⟨g', cap', cur', he, _, hg, _⟩
    · exact ⟨0, .inl (by injection he)⟩
    · exact ⟨g', .inr ⟨by injection he, (Array.getElem?_eq_some_iff.1 hg).1⟩⟩
  have H1 := Lib.hid (HRS.out.below' hb1)
  have H2 := Lib.hid (HB.out.trans (hb1.mono HB.out.size))
  have H3 := Lib.hid hrd1
  have HGA := Lib.hid hgA
  have hz1 := hb1.size
  clear hb1 hown1 hrd1 hgA HF HR HB HRS
  go_wp2_with fail
  refine (consts_any W1).mono ?_
  rintro e W2 ⟨KH, rfl, hKH, hb2, hk2⟩
  have H4 := Lib.hid (H1.out.below' hb2)
  have H5 := Lib.hid (H2.out.trans (hb2.mono H2.out.size))
  have H6 := Lib.hid (H3.out.goes hb2)
  have H7 := Lib.hid hk2
  have hz2 := hb2.size
  have hk2l := hk2.lt
  clear hb2 hk2 H1 H2 H3
  go_wp2_with fail
  refine (refBegin_any W2).mono ?_
  rintro e W3 ⟨VH, rfl, hVH, hb3, hv3⟩
  have H8 := Lib.hid (show OS w VH KH pA NQ fb W3 from ⟨H4.out.below' hb3, H7.out.below' hb3, by
    rcases HGA.out with rfl | ⟨rfl, hlt⟩
    · rcases H6.out with h | ⟨_, _, h, _⟩
      · exact .inl h
      · cases h
    · rcases H6.out.goes hb3 with h | ⟨b, off, h1, h2, h3⟩
      · exact .inl h
      · cases h1
        exact .inr ⟨gA, 0, rfl, by omega, h2, h3⟩, H5.out.trans (hb3.mono H5.out.size), by omega, by omega⟩)
  have H9 := Lib.hid hv3
  clear hb3 hv3 H4 H5 H6 H7 HGA
  go_wp2
  go_loopw [6] (fun av wr => ∃ q a : Nat, q ≤ Q ∧ a = 64 * q ∧ av = .int .i64 (a : Int) ∧ OS w VH KH pA NQ fb wr ∧ WT wr VH 8 (mid fb q)) (fun av _ => (NQ - intOf av).toNat)
  case atStart => exact ⟨0, 0, Nat.zero_le _, rfl, rfl, H8.out, H9.out⟩
  case round =>
    clear H8 H9
    obtain ⟨q, a, hq, ha, rfl, hos, hv⟩ := hrel
    by_cases hlt : q < Q
    · obtain ⟨a2, ha2⟩ : ∃ a2, a2 = a + 64 := ⟨_, rfl⟩
      have hNQ := HQ.out
      obtain ⟨p1, hsl, hpr⟩ := slice_mid pA NQ cA a a2 (by omega) (by omega) hcA
      rw [show a2 - a = 64 by omega] at hsl hpr
      have hrd := hpr _ _ _ hos.all.to_reads
      have HRD := Lib.hid (show Reads wr.heap.size wr p1 64 (fun i => .int .u8 (ub (blk fb q i))) from hrd.mono' (Nat.le_refl _) fun i hi => by unfold blk; rw [ha])
      have s1 : IntKind.i64.wrap ((a : Int) + 64) = (a2 : Int) := by rw [IntWalk.i64_in _ (by omega)]; omega
      have l1 : (a : Int) < (NQ : Int) := by omega
      have HOS := Lib.hid hos
      have HV := Lib.hid hv
      have HA := Lib.hid ha
      have HA2 := Lib.hid ha2
      clear hos hv ha ha2 hNQ hrd hpr
      go_wp2_with fail
      refine (sched_any wr.heap.size wr p1 (cA - a) (blk fb q) (Nat.le_refl _) HRD.out).mono ?_
      rintro e W4 ⟨vW, rfl, hb4, hown4⟩
      obtain ⟨GW, cW, rfl, hGW, hcW, hmW⟩ := owns_some hown4 (by omega)
      have hOS4 := HOS.out.go hb4
      have hV4 := HV.out.below' hb4
      have hW4 : GW < W4.heap.size ∧ ∀ i, i < 64 → W4.cell? ⟨GW, i, none⟩ = some (.int .u32 (u (wl (bw (blk fb q)) 48 i))) :=
        ⟨(hown4.lt GW rfl).2, fun i hi => by rw [hown4.cellAt i (by omega), wordsOf_at _ _ i hi]⟩
      have HO4 := Lib.hid hOS4
      have HV4 := Lib.hid hV4
      have HW4 := Lib.hid hW4
      have hvl := HV.out.lt
      have hGV : VH < GW := by omega
      clear hb4 hown4 hOS4 hV4 hW4 HOS HV HRD hsl s1 l1
      go_upto_region 8 with (fail)
      obtain ⟨G5, c5, W5, hrun5, hG5, ⟨hc5, hm5⟩, hb5, hs5⟩ := append_eight W4 93 w.heap.size VH (mid fb q) HV4.out HO4.out.bel.size
      refine wp_region_lit ?_
      refine wpList_plain rfl (fun K hK => ?_)
      go_simp
      refine hK _ _ ?_
      clear hK K
      refine wpList_plain rfl (fun K hK => ?_)
      go_simp
      refine hK _ _ ?_
      clear hK K
      refine Lib.wpList_append_run _ rfl _ _ _ _ rfl _ _ rfl rfl _ W5 hrun5 ?_
      have hvl4 := HV4.out.lt
      have HI5 := Lib.hid (show IN w VH KH GW G5 pA NQ fb (mid fb q) (wl (bw (blk fb q)) 48) (mid fb q) W5 from ⟨HO4.out.go hb5, HV4.out.below' hb5, ⟨Nat.lt_of_lt_of_le HW4.out.1 hb5.size, fun i hi => by rw [hb5.cell (p := ⟨GW, i, none⟩) HW4.out.1]; exact HW4.out.2 i hi⟩, hs5⟩)
      have hGV5 : VH < G5 := by omega
      clear hrun5 hb5 hs5 HO4 HV4 HW4
      obtain ⟨wd, hwd⟩ : ∃ wd, wd = wl (bw (blk fb q)) 48 := ⟨_, rfl⟩
      obtain ⟨v0, hv0⟩ : ∃ v0, v0 = mid fb q := ⟨_, rfl⟩
      rw [← hwd, ← hv0] at HI5
      have HWD := Lib.hid hwd
      have HV0 := Lib.hid hv0
      clear hwd hv0
      go_wp2
      obtain ⟨wo, hwo⟩ : ∃ wo : World, wo = wr := ⟨_, rfl⟩
      subst hwo
      go_loopw [8, 9] (fun sv tv wr => ∃ t G c : Nat, t ≤ 64 ∧ tv = .int .i64 (t : Int) ∧ sv = .slice (some ⟨G, 0, none⟩) 8 c ∧ 8 ≤ c ∧ c ≤ maxLen ∧ VH < G ∧ IN w VH KH GW G pA NQ fb v0 wd (rd wd v0 t) wr) (fun _ tv _ => (64 - intOf tv).toNat)
      case atStart => exact ⟨0, G5, c5, Nat.zero_le _, rfl, rfl, hc5, hm5, hGV5, HI5.out⟩
      case round =>
        clear HI5
        obtain ⟨t, G, c, ht, rfl, rfl, hc8, hcm, hGV, hin⟩ := hrel
        by_cases hlt2 : t < 64
        · have HIN := Lib.hid hin
          obtain ⟨st, hst⟩ : ∃ st, st = rd wd v0 t := ⟨_, rfl⟩
          rw [← hst] at HIN
          have HST := Lib.hid hst
          clear hin hst
          go_upto_region 12 with (fail)
          have HD12 := Lib.hid (show ∀ W, IN w VH KH GW G pA NQ fb v0 wd st W → IN w VH KH GW G pA NQ fb v0 wd st W ∧ W.cell? ⟨G, 7, none⟩ = some (.int .u32 (u (st 7))) ∧ W.cell? ⟨G, 4, none⟩ = some (.int .u32 (u (st 4))) ∧ W.cell? ⟨G, 5, none⟩ = some (.int .u32 (u (st 5))) ∧ W.cell? ⟨G, 6, none⟩ = some (.int .u32 (u (st 6))) ∧ W.cell? ⟨KH, t, none⟩ = some (.int .u32 (u (kc t))) ∧ W.cell? ⟨GW, t, none⟩ = some (.int .u32 (u (wd t))) from fun W h =>
            ⟨h, h.s.word 7 (by omega), h.s.word 4 (by omega), h.s.word 5 (by omega), h.s.word 6 (by omega), h.os.con.word t hlt2, h.wd.2 t hlt2⟩)
          obtain ⟨m, hm⟩ : ∃ m, m = stM (st 4) (st 5) (st 6) (st 7) (kc t) (wd t) := ⟨_, rfl⟩
          have HM := Lib.hid (show st 7 + mix3 (st 4) 6 11 25 + ch (st 4) (st 5) (st 6) + kc t + wd t = m from hm.symm)
          have HMM := Lib.hid hm
          clear hm
          have lt64 : (t : Int) < 64 := by omega
          refine wp_region_noPanic ?_
          refine wp_region_start (n := 29) (l := #[false, false, false, false, false, false, false, false, false, false, false, false, false, false, false, false, false, false, false, false, false, false, false, false, false, false, false, false, false]) (S := (fun w' => IN w VH KH GW G pA NQ fb v0 wd st w' ∧ w'.cell? ⟨G, 7, none⟩ = some (.int .u32 (u (st 7))) ∧ w'.cell? ⟨G, 4, none⟩ = some (.int .u32 (u (st 4))) ∧ w'.cell? ⟨G, 5, none⟩ = some (.int .u32 (u (st 5))) ∧ w'.cell? ⟨G, 6, none⟩ = some (.int .u32 (u (st 6))) ∧ w'.cell? ⟨KH, t, none⟩ = some (.int .u32 (u (kc t))) ∧ w'.cell? ⟨GW, t, none⟩ = some (.int .u32 (u (wd t))))) (by kernel_rfl) rfl (by kernel_rfl) (by (refine HD12.out _ ?_; repeat (first | exact HIN.out | apply IN.drew | apply IN.alloc | (refine IN.go ?_ (by assumption))))) (fun hHeld => ?_)
          refine take_to (i := 0) (d := some 38) (v := ?_) (l' := #[true, false, false, false, false, false, false, false, false, false, false, false, false, false, false, false, false, false, false, false, false, false, false, false, false, false, false, false, false]) rfl rfl (by kernel_rfl) (by kernel_rfl) (by kernel_rfl) (by kernel_rfl) (fun _ _ _ h => h) (Or.inl ⟨by rfl, ?_⟩) (by assumption) ?_; rotate_left; · (intro w' hSw; (try dsimp only at hSw); go_simp; (try with_reducible rfl))
          try simp only [Act.put, List.setIfInBounds_toArray, List.set_cons_zero, List.set_cons_succ]
          refine take_to (i := 1) (d := some 39) (v := ?_) (l' := #[true, true, false, false, false, false, false, false, false, false, false, false, false, false, false, false, false, false, false, false, false, false, false, false, false, false, false, false, false]) rfl rfl (by kernel_rfl) (by kernel_rfl) (by kernel_rfl) (by kernel_rfl) (fun _ _ _ h => h) (Or.inl ⟨by rfl, ?_⟩) (by assumption) ?_; rotate_left; · (intro w' hSw; (try dsimp only at hSw); go_simp; (try with_reducible rfl))
          try simp only [Act.put, List.setIfInBounds_toArray, List.set_cons_zero, List.set_cons_succ]
          refine take_to (i := 2) (d := some 40) (v := ?_) (l' := #[true, true, true, false, false, false, false, false, false, false, false, false, false, false, false, false, false, false, false, false, false, false, false, false, false, false, false, false, false]) rfl rfl (by kernel_rfl) (by kernel_rfl) (by kernel_rfl) (by kernel_rfl) (fun _ _ _ h => h) (Or.inl ⟨by rfl, ?_⟩) (by assumption) ?_; rotate_left; · (intro w' hSw; (try dsimp only at hSw); go_simp; (try with_reducible rfl))
          try simp only [Act.put, List.setIfInBounds_toArray, List.set_cons_zero, List.set_cons_succ]
          refine take_to (i := 3) (d := some 41) (v := ?_) (l' := #[true, true, true, true, false, false, false, false, false, false, false, false, false, false, false, false, false, false, false, false, false, false, false, false, false, false, false, false, false]) rfl rfl (by kernel_rfl) (by kernel_rfl) (by kernel_rfl) (by kernel_rfl) (fun _ _ _ h => h) (Or.inl ⟨by rfl, ?_⟩) (by assumption) ?_; rotate_left; · (intro w' hSw; (try dsimp only at hSw); go_simp; (try with_reducible rfl))
          try simp only [Act.put, List.setIfInBounds_toArray, List.set_cons_zero, List.set_cons_succ]
          refine take_to (i := 4) (d := some 42) (v := ?_) (l' := #[true, true, true, true, true, false, false, false, false, false, false, false, false, false, false, false, false, false, false, false, false, false, false, false, false, false, false, false, false]) rfl rfl (by kernel_rfl) (by kernel_rfl) (by kernel_rfl) (by kernel_rfl) (fun _ _ _ h => h) (Or.inl ⟨by rfl, ?_⟩) (by assumption) ?_; rotate_left; · (intro w' hSw; (try dsimp only at hSw); go_simp; (try with_reducible rfl))
          try simp only [Act.put, List.setIfInBounds_toArray, List.set_cons_zero, List.set_cons_succ]
          refine take_to (i := 5) (d := some 43) (v := ?_) (l' := #[true, true, true, true, true, true, false, false, false, false, false, false, false, false, false, false, false, false, false, false, false, false, false, false, false, false, false, false, false]) rfl rfl (by kernel_rfl) (by kernel_rfl) (by kernel_rfl) (by kernel_rfl) (fun _ _ _ h => h) (Or.inl ⟨by rfl, ?_⟩) (by assumption) ?_; rotate_left; · (intro w' hSw; (try dsimp only at hSw); go_simp; (try with_reducible rfl))
          try simp only [Act.put, List.setIfInBounds_toArray, List.set_cons_zero, List.set_cons_succ]
          refine take_to (i := 8) (d := some 46) (v := ?_) (l' := #[true, true, true, true, true, true, false, false, true, false, false, false, false, false, false, false, false, false, false, false, false, false, false, false, false, false, false, false, false]) rfl rfl (by kernel_rfl) (by kernel_rfl) (by kernel_rfl) (by kernel_rfl) (fun _ _ _ h => h) (Or.inl ⟨by rfl, ?_⟩) (by assumption) ?_; rotate_left; · (intro w' hSw; (try dsimp only at hSw); go_simp; (try with_reducible rfl))
          try simp only [Act.put, List.setIfInBounds_toArray, List.set_cons_zero, List.set_cons_succ]
          refine take_to (i := 9) (d := some 47) (v := ?_) (l' := #[true, true, true, true, true, true, false, false, true, true, false, false, false, false, false, false, false, false, false, false, false, false, false, false, false, false, false, false, false]) rfl rfl (by kernel_rfl) (by kernel_rfl) (by kernel_rfl) (by kernel_rfl) (fun _ _ _ h => h) (Or.inl ⟨by rfl, ?_⟩) (by assumption) ?_; rotate_left; · (intro w' hSw; (try dsimp only at hSw); go_simp; (try with_reducible rfl))
          try simp only [Act.put, List.setIfInBounds_toArray, List.set_cons_zero, List.set_cons_succ]
          refine take_to (i := 10) (d := some 48) (v := ?_) (l' := #[true, true, true, true, true, true, false, false, true, true, true, false, false, false, false, false, false, false, false, false, false, false, false, false, false, false, false, false, false]) rfl rfl (by kernel_rfl) (by kernel_rfl) (by kernel_rfl) (by kernel_rfl) (fun _ _ _ h => h) (Or.inl ⟨by rfl, ?_⟩) (by assumption) ?_; rotate_left; · (intro w' hSw; (try dsimp only at hSw); go_simp; (try with_reducible rfl))
          try simp only [Act.put, List.setIfInBounds_toArray, List.set_cons_zero, List.set_cons_succ]
          refine take_to (i := 11) (d := some 49) (v := ?_) (l' := #[true, true, true, true, true, true, false, false, true, true, true, true, false, false, false, false, false, false, false, false, false, false, false, false, false, false, false, false, false]) rfl rfl (by kernel_rfl) (by kernel_rfl) (by kernel_rfl) (by kernel_rfl) (fun _ _ _ h => h) (Or.inl ⟨by rfl, ?_⟩) (by assumption) ?_; rotate_left; · (intro w' hSw; (try dsimp only at hSw); go_simp; (try with_reducible rfl))
          try simp only [Act.put, List.setIfInBounds_toArray, List.set_cons_zero, List.set_cons_succ]
          refine take_to (i := 12) (d := some 50) (v := ?_) (l' := #[true, true, true, true, true, true, false, false, true, true, true, true, true, false, false, false, false, false, false, false, false, false, false, false, false, false, false, false, false]) rfl rfl (by kernel_rfl) (by kernel_rfl) (by kernel_rfl) (by kernel_rfl) (fun _ _ _ h => h) (Or.inl ⟨by rfl, ?_⟩) (by assumption) ?_; rotate_left; · (intro w' hSw; (try dsimp only at hSw); go_simp; (try with_reducible rfl))
          try simp only [Act.put, List.setIfInBounds_toArray, List.set_cons_zero, List.set_cons_succ]
          refine take_to (i := 13) (d := some 51) (v := ?_) (l' := #[true, true, true, true, true, true, false, false, true, true, true, true, true, true, false, false, false, false, false, false, false, false, false, false, false, false, false, false, false]) rfl rfl (by kernel_rfl) (by kernel_rfl) (by kernel_rfl) (by kernel_rfl) (fun _ _ _ h => h) (Or.inl ⟨by rfl, ?_⟩) (by assumption) ?_; rotate_left; · (intro w' hSw; (try dsimp only at hSw); go_simp; (try with_reducible rfl))
          try simp only [Act.put, List.setIfInBounds_toArray, List.set_cons_zero, List.set_cons_succ]
          refine take_to (i := 14) (d := some 52) (v := ?_) (l' := #[true, true, true, true, true, true, false, false, true, true, true, true, true, true, true, false, false, false, false, false, false, false, false, false, false, false, false, false, false]) rfl rfl (by kernel_rfl) (by kernel_rfl) (by kernel_rfl) (by kernel_rfl) (fun _ _ _ h => h) (Or.inl ⟨by rfl, ?_⟩) (by assumption) ?_; rotate_left; · (intro w' hSw; (try dsimp only at hSw); go_simp; (try with_reducible rfl))
          try simp only [Act.put, List.setIfInBounds_toArray, List.set_cons_zero, List.set_cons_succ]
          refine take_to (i := 15) (d := some 53) (v := ?_) (l' := #[true, true, true, true, true, true, false, false, true, true, true, true, true, true, true, true, false, false, false, false, false, false, false, false, false, false, false, false, false]) rfl rfl (by kernel_rfl) (by kernel_rfl) (by kernel_rfl) (by kernel_rfl) (fun _ _ _ h => h) (Or.inl ⟨by rfl, ?_⟩) (by assumption) ?_; rotate_left; · (intro w' hSw; (try dsimp only at hSw); go_simp; (try with_reducible rfl))
          try simp only [Act.put, List.setIfInBounds_toArray, List.set_cons_zero, List.set_cons_succ]
          refine take_to (i := 16) (d := some 54) (v := ?_) (l' := #[true, true, true, true, true, true, false, false, true, true, true, true, true, true, true, true, true, false, false, false, false, false, false, false, false, false, false, false, false]) rfl rfl (by kernel_rfl) (by kernel_rfl) (by kernel_rfl) (by kernel_rfl) (fun _ _ _ h => h) (Or.inl ⟨by rfl, ?_⟩) (by assumption) ?_; rotate_left; · (intro w' hSw; (try dsimp only at hSw); go_simp; (try with_reducible rfl))
          try simp only [Act.put, List.setIfInBounds_toArray, List.set_cons_zero, List.set_cons_succ]
          refine take_to (i := 18) (d := some 56) (v := ?_) (l' := #[true, true, true, true, true, true, false, false, true, true, true, true, true, true, true, true, true, false, true, false, false, false, false, false, false, false, false, false, false]) rfl rfl (by kernel_rfl) (by kernel_rfl) (by kernel_rfl) (by kernel_rfl) (fun _ _ _ h => h) (Or.inl ⟨by rfl, ?_⟩) (by assumption) ?_; rotate_left; · (intro w' hSw; (try dsimp only at hSw); go_simp; (try with_reducible rfl))
          try simp only [Act.put, List.setIfInBounds_toArray, List.set_cons_zero, List.set_cons_succ]
          refine take_to (i := 19) (d := some 57) (v := ?_) (l' := #[true, true, true, true, true, true, false, false, true, true, true, true, true, true, true, true, true, false, true, true, false, false, false, false, false, false, false, false, false]) rfl rfl (by kernel_rfl) (by kernel_rfl) (by kernel_rfl) (by kernel_rfl) (fun _ _ _ h => h) (Or.inl ⟨by rfl, ?_⟩) (by assumption) ?_; rotate_left; · (intro w' hSw; (try dsimp only at hSw); go_simp; (try with_reducible rfl))
          try simp only [Act.put, List.setIfInBounds_toArray, List.set_cons_zero, List.set_cons_succ]
          refine take_to (i := 20) (d := some 58) (v := ?_) (l' := #[true, true, true, true, true, true, false, false, true, true, true, true, true, true, true, true, true, false, true, true, true, false, false, false, false, false, false, false, false]) rfl rfl (by kernel_rfl) (by kernel_rfl) (by kernel_rfl) (by kernel_rfl) (fun _ _ _ h => h) (Or.inl ⟨by rfl, ?_⟩) (by assumption) ?_; rotate_left; · (intro w' hSw; (try dsimp only at hSw); go_simp; (try with_reducible rfl))
          try simp only [Act.put, List.setIfInBounds_toArray, List.set_cons_zero, List.set_cons_succ]
          refine take_to (i := 21) (d := some 59) (v := ?_) (l' := #[true, true, true, true, true, true, false, false, true, true, true, true, true, true, true, true, true, false, true, true, true, true, false, false, false, false, false, false, false]) rfl rfl (by kernel_rfl) (by kernel_rfl) (by kernel_rfl) (by kernel_rfl) (fun _ _ _ h => h) (Or.inl ⟨by rfl, ?_⟩) (by assumption) ?_; rotate_left; · (intro w' hSw; (try dsimp only at hSw); go_simp; (try with_reducible rfl))
          try simp only [Act.put, List.setIfInBounds_toArray, List.set_cons_zero, List.set_cons_succ]
          refine take_to (i := 22) (d := some 60) (v := ?_) (l' := #[true, true, true, true, true, true, false, false, true, true, true, true, true, true, true, true, true, false, true, true, true, true, true, false, false, false, false, false, false]) rfl rfl (by kernel_rfl) (by kernel_rfl) (by kernel_rfl) (by kernel_rfl) (fun _ _ _ h => h) (Or.inl ⟨by rfl, ?_⟩) (by assumption) ?_; rotate_left; · (intro w' hSw; (try dsimp only at hSw); go_simp; (try with_reducible rfl))
          try simp only [Act.put, List.setIfInBounds_toArray, List.set_cons_zero, List.set_cons_succ]
          refine take_to (i := 23) (d := some 61) (v := ?_) (l' := #[true, true, true, true, true, true, false, false, true, true, true, true, true, true, true, true, true, false, true, true, true, true, true, true, false, false, false, false, false]) rfl rfl (by kernel_rfl) (by kernel_rfl) (by kernel_rfl) (by kernel_rfl) (fun _ _ _ h => h) (Or.inl ⟨by rfl, ?_⟩) (by assumption) ?_; rotate_left; · (intro w' hSw; (try dsimp only at hSw); go_simp; (try with_reducible rfl))
          try simp only [Act.put, List.setIfInBounds_toArray, List.set_cons_zero, List.set_cons_succ]
          refine take_to (i := 24) (d := some 62) (v := ?_) (l' := #[true, true, true, true, true, true, false, false, true, true, true, true, true, true, true, true, true, false, true, true, true, true, true, true, true, false, false, false, false]) rfl rfl (by kernel_rfl) (by kernel_rfl) (by kernel_rfl) (by kernel_rfl) (fun _ _ _ h => h) (Or.inl ⟨by rfl, ?_⟩) (by assumption) ?_; rotate_left; · (intro w' hSw; (try dsimp only at hSw); go_simp; (try with_reducible rfl))
          try simp only [Act.put, List.setIfInBounds_toArray, List.set_cons_zero, List.set_cons_succ]
          refine take_to (i := 25) (d := some 63) (v := ?_) (l' := #[true, true, true, true, true, true, false, false, true, true, true, true, true, true, true, true, true, false, true, true, true, true, true, true, true, true, false, false, false]) rfl rfl (by kernel_rfl) (by kernel_rfl) (by kernel_rfl) (by kernel_rfl) (fun _ _ _ h => h) (Or.inl ⟨by rfl, ?_⟩) (by assumption) ?_; rotate_left; · (intro w' hSw; (try dsimp only at hSw); go_simp; (try with_reducible rfl))
          try simp only [Act.put, List.setIfInBounds_toArray, List.set_cons_zero, List.set_cons_succ]
          refine one_to (i := 6) (l' := #[true, true, true, true, true, true, true, false, true, true, true, true, true, true, true, true, true, false, true, true, true, true, true, true, true, true, false, false, false]) rfl (by kernel_rfl) (by kernel_rfl) (fun K hK => ?_)
          go_simp
          refine hK.out _ _ (by (refine HD12.out _ ?_; repeat (first | exact HIN.out | apply IN.drew | apply IN.alloc | (refine IN.go ?_ (by assumption))))) (fun hHeld => ?_)
          clear hK K
          try simp only [Act.put, List.setIfInBounds_toArray, List.set_cons_zero, List.set_cons_succ]
          refine one_to (i := 7) (l' := #[true, true, true, true, true, true, true, true, true, true, true, true, true, true, true, true, true, false, true, true, true, true, true, true, true, true, false, false, false]) rfl (by kernel_rfl) (by kernel_rfl) (fun K hK => ?_)
          go_simp
          refine (ref_mix3 (st 4) 6 11 25 _ _ _ (by (try simp only [heap_drew]); repeat (first | (apply laid_at; simp; done) | apply laid_old | (refine laid_go ?_ (by assumption); try simp only [heap_drew]))) 6 11 25 rfl rfl rfl (by omega) (by omega) (by omega)).mono ?_
          rintro e w' ⟨rfl, rfl⟩
          dsimp only
          refine hK.out _ _ (by (refine HD12.out _ ?_; repeat (first | exact HIN.out | apply IN.drew | apply IN.alloc | (refine IN.go ?_ (by assumption))))) (fun hHeld => ?_)
          clear hK K
          try simp only [Act.put, List.setIfInBounds_toArray, List.set_cons_zero, List.set_cons_succ]
          refine one_to (i := 17) (l' := #[true, true, true, true, true, true, true, true, true, true, true, true, true, true, true, true, true, true, true, true, true, true, true, true, true, true, false, false, false]) rfl (by kernel_rfl) (by kernel_rfl) (fun K hK => ?_)
          go_simp
          refine (ref_ch (st 4) (st 5) (st 6) _).mono ?_
          rintro e w' ⟨rfl, rfl⟩
          dsimp only
          refine hK.out _ _ (by (refine HD12.out _ ?_; repeat (first | exact HIN.out | apply IN.drew | apply IN.alloc | (refine IN.go ?_ (by assumption))))) (fun hHeld => ?_)
          clear hK K
          try simp only [Act.put, List.setIfInBounds_toArray, List.set_cons_zero, List.set_cons_succ]
          refine one_to (i := 26) (l' := #[true, true, true, true, true, true, true, true, true, true, true, true, true, true, true, true, true, true, true, true, true, true, true, true, true, true, true, false, false]) rfl (by kernel_rfl) (by kernel_rfl) (fun K hK => ?_)
          go_simp
          refine hK.out _ _ (by (refine HD12.out _ ?_; repeat (first | exact HIN.out | apply IN.drew | apply IN.alloc | (refine IN.go ?_ (by assumption))))) (fun hHeld => ?_)
          clear hK K
          try simp only [Act.put, List.setIfInBounds_toArray, List.set_cons_zero, List.set_cons_succ]
          refine one_to (i := 27) (l' := #[true, true, true, true, true, true, true, true, true, true, true, true, true, true, true, true, true, true, true, true, true, true, true, true, true, true, true, true, false]) rfl (by kernel_rfl) (by kernel_rfl) (fun K hK => ?_)
          go_simp
          refine (ref_sum5 _ _ _ _ _ _ _ _ (by (try simp only [heap_drew]); repeat (first | (apply laid_at; simp; done) | apply laid_old | (refine laid_go ?_ (by assumption); try simp only [heap_drew])))).mono ?_
          rintro e w' ⟨rfl, rfl⟩; rw [HM.out]
          dsimp only
          refine hK.out _ _ (by (refine HD12.out _ ?_; repeat (first | exact HIN.out | apply IN.drew | apply IN.alloc | (refine IN.go ?_ (by assumption))))) (fun hHeld => ?_)
          clear hK K
          try simp only [Act.put, List.setIfInBounds_toArray, List.set_cons_zero, List.set_cons_succ]
          refine take_to (i := 28) (d := some 10) (v := ?_) (l' := #[true, true, true, true, true, true, true, true, true, true, true, true, true, true, true, true, true, true, true, true, true, true, true, true, true, true, true, true, true]) rfl rfl (by kernel_rfl) (by kernel_rfl) (by kernel_rfl) (by kernel_rfl) (fun _ _ _ h => h) (Or.inl ⟨by rfl, ?_⟩) (by assumption) ?_; rotate_left; · (intro w' hSw; (try dsimp only at hSw); go_simp; (try with_reducible rfl))
          try simp only [Act.put, List.setIfInBounds_toArray, List.set_cons_zero, List.set_cons_succ]
          refine wpAnyH_done (by kernel_rfl) ?_ _
          refine NoPanic.normal ?_
          have HI12 := Lib.hid hHeld.1
          clear hHeld HD12 HM HIN
          go_upto_region 13 with (fail)
          refine forget_code (IN w VH KH GW G pA NQ fb v0 wd st) HI12.out ?_
          intro W12 hI12
          have HIN := Lib.hid hI12
          clear hI12 HI12
          have hf3 := first3 G c hc8
          have HD13 := Lib.hid (show ∀ W, IN w VH KH GW G pA NQ fb v0 wd st W → IN w VH KH GW G pA NQ fb v0 wd st W ∧ W.cell? ⟨G, 0, none⟩ = some (.int .u32 (u (st 0))) from fun W h => ⟨h, h.s.word 0 (by omega)⟩)
          obtain ⟨nn, hnn⟩ : ∃ nn, nn = stN (st 0) (st 1) (st 2) := ⟨_, rfl⟩
          have HN := Lib.hid (show mix3 (st 0) 2 13 22 + maj (st 0) (st 1) (st 2) = nn from hnn.symm)
          have HNN := Lib.hid hnn
          clear hnn
          refine wp_region_noPanic ?_
          refine wp_region_start (n := 11) (l := #[false, false, false, false, false, false, false, false, false, false, false]) (S := (fun w' => IN w VH KH GW G pA NQ fb v0 wd st w' ∧ w'.cell? ⟨G, 0, none⟩ = some (.int .u32 (u (st 0))))) (by kernel_rfl) rfl (by kernel_rfl) (by (refine HD13.out _ ?_; repeat (first | exact HIN.out | apply IN.drew | apply IN.alloc | (refine IN.go ?_ (by assumption))))) (fun hHeld => ?_)
          refine take_to (i := 0) (d := some 66) (v := ?_) (l' := #[true, false, false, false, false, false, false, false, false, false, false]) rfl rfl (by kernel_rfl) (by kernel_rfl) (by kernel_rfl) (by kernel_rfl) (fun _ _ _ h => h) (Or.inl ⟨by rfl, ?_⟩) (by assumption) ?_; rotate_left; · (intro w' hSw; (try dsimp only at hSw); go_simp; (try with_reducible rfl))
          try simp only [Act.put, List.setIfInBounds_toArray, List.set_cons_zero, List.set_cons_succ]
          refine take_to (i := 1) (d := some 67) (v := ?_) (l' := #[true, true, false, false, false, false, false, false, false, false, false]) rfl rfl (by kernel_rfl) (by kernel_rfl) (by kernel_rfl) (by kernel_rfl) (fun _ _ _ h => h) (Or.inl ⟨by rfl, ?_⟩) (by assumption) ?_; rotate_left; · (intro w' hSw; (try dsimp only at hSw); go_simp; (try with_reducible rfl))
          try simp only [Act.put, List.setIfInBounds_toArray, List.set_cons_zero, List.set_cons_succ]
          refine take_to (i := 2) (d := some 68) (v := ?_) (l' := #[true, true, true, false, false, false, false, false, false, false, false]) rfl rfl (by kernel_rfl) (by kernel_rfl) (by kernel_rfl) (by kernel_rfl) (fun _ _ _ h => h) (Or.inl ⟨by rfl, ?_⟩) (by assumption) ?_; rotate_left; · (intro w' hSw; (try dsimp only at hSw); go_simp; (try with_reducible rfl))
          try simp only [Act.put, List.setIfInBounds_toArray, List.set_cons_zero, List.set_cons_succ]
          refine take_to (i := 5) (d := some 71) (v := ?_) (l' := #[true, true, true, false, false, true, false, false, false, false, false]) rfl rfl (by kernel_rfl) (by kernel_rfl) (by kernel_rfl) (by kernel_rfl) (fun _ _ _ h => h) (Or.inl ⟨by rfl, ?_⟩) (by assumption) ?_; rotate_left; · (intro w' hSw; (try dsimp only at hSw); go_simp; (try with_reducible rfl))
          try simp only [Act.put, List.setIfInBounds_toArray, List.set_cons_zero, List.set_cons_succ]
          refine take_to (i := 6) (d := some 72) (v := ?_) (l' := #[true, true, true, false, false, true, true, false, false, false, false]) rfl rfl (by kernel_rfl) (by kernel_rfl) (by kernel_rfl) (by kernel_rfl) (fun _ _ _ h => h) (Or.inl ⟨by rfl, ?_⟩) (by assumption) ?_; rotate_left; · (intro w' hSw; (try dsimp only at hSw); go_simp; (try with_reducible rfl))
          try simp only [Act.put, List.setIfInBounds_toArray, List.set_cons_zero, List.set_cons_succ]
          refine one_to (i := 3) (l' := #[true, true, true, true, false, true, true, false, false, false, false]) rfl (by kernel_rfl) (by kernel_rfl) (fun K hK => ?_)
          go_simp
          refine hK.out _ _ (by (refine HD13.out _ ?_; repeat (first | exact HIN.out | apply IN.drew | apply IN.alloc | (refine IN.go ?_ (by assumption))))) (fun hHeld => ?_)
          clear hK K
          try simp only [Act.put, List.setIfInBounds_toArray, List.set_cons_zero, List.set_cons_succ]
          refine one_to (i := 4) (l' := #[true, true, true, true, true, true, true, false, false, false, false]) rfl (by kernel_rfl) (by kernel_rfl) (fun K hK => ?_)
          go_simp
          refine (ref_mix3 (st 0) 2 13 22 _ _ _ (by (try simp only [heap_drew]); repeat (first | (apply laid_at; simp; done) | apply laid_old | (refine laid_go ?_ (by assumption); try simp only [heap_drew]))) 2 13 22 rfl rfl rfl (by omega) (by omega) (by omega)).mono ?_
          rintro e w' ⟨rfl, rfl⟩
          dsimp only
          refine hK.out _ _ (by (refine HD13.out _ ?_; repeat (first | exact HIN.out | apply IN.drew | apply IN.alloc | (refine IN.go ?_ (by assumption))))) (fun hHeld => ?_)
          clear hK K
          try simp only [Act.put, List.setIfInBounds_toArray, List.set_cons_zero, List.set_cons_succ]
          refine one_to (i := 7) (l' := #[true, true, true, true, true, true, true, true, false, false, false]) rfl (by kernel_rfl) (by kernel_rfl) (fun K hK => ?_)
          go_simp
          refine (ref_maj _ (some ⟨G, 0, none⟩) c st _ (IN.reads3 (w := w) (VH := VH) (KH := KH) (GW := GW) (pA := pA) (N := NQ) (fb := fb) (v := v0) (wd := wd) (by repeat (first | exact HIN.out | apply IN.drew | apply IN.alloc | (refine IN.go ?_ (by assumption)))))).mono ?_
          rintro e w' ⟨rfl, rfl⟩
          dsimp only
          refine hK.out _ _ (by (refine HD13.out _ ?_; repeat (first | exact HIN.out | apply IN.drew | apply IN.alloc | (refine IN.go ?_ (by assumption))))) (fun hHeld => ?_)
          clear hK K
          try simp only [Act.put, List.setIfInBounds_toArray, List.set_cons_zero, List.set_cons_succ]
          refine one_to (i := 8) (l' := #[true, true, true, true, true, true, true, true, true, false, false]) rfl (by kernel_rfl) (by kernel_rfl) (fun K hK => ?_)
          go_simp
          refine hK.out _ _ (by (refine HD13.out _ ?_; repeat (first | exact HIN.out | apply IN.drew | apply IN.alloc | (refine IN.go ?_ (by assumption))))) (fun hHeld => ?_)
          clear hK K
          try simp only [Act.put, List.setIfInBounds_toArray, List.set_cons_zero, List.set_cons_succ]
          refine one_to (i := 9) (l' := #[true, true, true, true, true, true, true, true, true, true, false]) rfl (by kernel_rfl) (by kernel_rfl) (fun K hK => ?_)
          go_simp
          refine (ref_sum2 _ _ _ _ _ (by (try simp only [heap_drew]); repeat (first | (apply laid_at; simp; done) | apply laid_old | (refine laid_go ?_ (by assumption); try simp only [heap_drew])))).mono ?_
          rintro e w' ⟨rfl, rfl⟩; rw [HN.out]
          dsimp only
          refine hK.out _ _ (by (refine HD13.out _ ?_; repeat (first | exact HIN.out | apply IN.drew | apply IN.alloc | (refine IN.go ?_ (by assumption))))) (fun hHeld => ?_)
          clear hK K
          try simp only [Act.put, List.setIfInBounds_toArray, List.set_cons_zero, List.set_cons_succ]
          refine take_to (i := 10) (d := some 11) (v := ?_) (l' := #[true, true, true, true, true, true, true, true, true, true, true]) rfl rfl (by kernel_rfl) (by kernel_rfl) (by kernel_rfl) (by kernel_rfl) (fun _ _ _ h => h) (Or.inl ⟨by rfl, ?_⟩) (by assumption) ?_; rotate_left; · (intro w' hSw; (try dsimp only at hSw); go_simp; (try with_reducible rfl))
          try simp only [Act.put, List.setIfInBounds_toArray, List.set_cons_zero, List.set_cons_succ]
          refine wpAnyH_done (by kernel_rfl) ?_ _
          refine NoPanic.normal ?_
          have HI13 := Lib.hid hHeld.1
          clear hHeld HD13 HN HIN hf3
          go_upto_region 14 with (fail)
          refine forget_code (IN w VH KH GW G pA NQ fb v0 wd st) HI13.out ?_
          intro W13 hI13
          have HIN := Lib.hid hI13
          clear hI13 HI13
          have HD14 := Lib.hid (show ∀ W, IN w VH KH GW G pA NQ fb v0 wd st W → IN w VH KH GW G pA NQ fb v0 wd st W ∧ W.cell? ⟨G, 0, none⟩ = some (.int .u32 (u (st 0))) ∧ W.cell? ⟨G, 1, none⟩ = some (.int .u32 (u (st 1))) ∧ W.cell? ⟨G, 2, none⟩ = some (.int .u32 (u (st 2))) ∧ W.cell? ⟨G, 3, none⟩ = some (.int .u32 (u (st 3))) ∧ W.cell? ⟨G, 4, none⟩ = some (.int .u32 (u (st 4))) ∧ W.cell? ⟨G, 5, none⟩ = some (.int .u32 (u (st 5))) ∧ W.cell? ⟨G, 6, none⟩ = some (.int .u32 (u (st 6))) from fun W h => ⟨h, h.s.word 0 (by omega), h.s.word 1 (by omega), h.s.word 2 (by omega), h.s.word 3 (by omega), h.s.word 4 (by omega), h.s.word 5 (by omega), h.s.word 6 (by omega)⟩)
          refine wp_region_noPanic ?_
          refine wp_region_start (n := 28) (l := #[false, false, false, false, false, false, false, false, false, false, false, false, false, false, false, false, false, false, false, false, false, false, false, false, false, false, false, false]) (S := (fun w' => IN w VH KH GW G pA NQ fb v0 wd st w' ∧ w'.cell? ⟨G, 0, none⟩ = some (.int .u32 (u (st 0))) ∧ w'.cell? ⟨G, 1, none⟩ = some (.int .u32 (u (st 1))) ∧ w'.cell? ⟨G, 2, none⟩ = some (.int .u32 (u (st 2))) ∧ w'.cell? ⟨G, 3, none⟩ = some (.int .u32 (u (st 3))) ∧ w'.cell? ⟨G, 4, none⟩ = some (.int .u32 (u (st 4))) ∧ w'.cell? ⟨G, 5, none⟩ = some (.int .u32 (u (st 5))) ∧ w'.cell? ⟨G, 6, none⟩ = some (.int .u32 (u (st 6))))) (by kernel_rfl) rfl (by kernel_rfl) (by (refine HD14.out _ ?_; repeat (first | exact HIN.out | apply IN.drew | apply IN.alloc | (refine IN.go ?_ (by assumption))))) (fun hHeld => ?_)
          refine take_to (i := 0) (d := some 76) (v := ?_) (l' := #[true, false, false, false, false, false, false, false, false, false, false, false, false, false, false, false, false, false, false, false, false, false, false, false, false, false, false, false]) rfl rfl (by kernel_rfl) (by kernel_rfl) (by kernel_rfl) (by kernel_rfl) (fun _ _ _ h => h) (Or.inl ⟨by rfl, ?_⟩) (by assumption) ?_; rotate_left; · (intro w' hSw; (try dsimp only at hSw); go_simp; (try with_reducible rfl))
          try simp only [Act.put, List.setIfInBounds_toArray, List.set_cons_zero, List.set_cons_succ]
          refine take_to (i := 1) (d := some 77) (v := ?_) (l' := #[true, true, false, false, false, false, false, false, false, false, false, false, false, false, false, false, false, false, false, false, false, false, false, false, false, false, false, false]) rfl rfl (by kernel_rfl) (by kernel_rfl) (by kernel_rfl) (by kernel_rfl) (fun _ _ _ h => h) (Or.inl ⟨by rfl, ?_⟩) (by assumption) ?_; rotate_left; · (intro w' hSw; (try dsimp only at hSw); go_simp; (try with_reducible rfl))
          try simp only [Act.put, List.setIfInBounds_toArray, List.set_cons_zero, List.set_cons_succ]
          refine take_to (i := 2) (d := some 78) (v := ?_) (l' := #[true, true, true, false, false, false, false, false, false, false, false, false, false, false, false, false, false, false, false, false, false, false, false, false, false, false, false, false]) rfl rfl (by kernel_rfl) (by kernel_rfl) (by kernel_rfl) (by kernel_rfl) (fun _ _ _ h => h) (Or.inl ⟨by rfl, ?_⟩) (by assumption) ?_; rotate_left; · (intro w' hSw; (try dsimp only at hSw); go_simp; (try with_reducible rfl))
          try simp only [Act.put, List.setIfInBounds_toArray, List.set_cons_zero, List.set_cons_succ]
          refine take_to (i := 3) (d := some 79) (v := ?_) (l' := #[true, true, true, true, false, false, false, false, false, false, false, false, false, false, false, false, false, false, false, false, false, false, false, false, false, false, false, false]) rfl rfl (by kernel_rfl) (by kernel_rfl) (by kernel_rfl) (by kernel_rfl) (fun _ _ _ h => h) (Or.inl ⟨by rfl, ?_⟩) (by assumption) ?_; rotate_left; · (intro w' hSw; (try dsimp only at hSw); go_simp; (try with_reducible rfl))
          try simp only [Act.put, List.setIfInBounds_toArray, List.set_cons_zero, List.set_cons_succ]
          refine take_to (i := 4) (d := some 80) (v := ?_) (l' := #[true, true, true, true, true, false, false, false, false, false, false, false, false, false, false, false, false, false, false, false, false, false, false, false, false, false, false, false]) rfl rfl (by kernel_rfl) (by kernel_rfl) (by kernel_rfl) (by kernel_rfl) (fun _ _ _ h => h) (Or.inl ⟨by rfl, ?_⟩) (by assumption) ?_; rotate_left; · (intro w' hSw; (try dsimp only at hSw); go_simp; (try with_reducible rfl))
          try simp only [Act.put, List.setIfInBounds_toArray, List.set_cons_zero, List.set_cons_succ]
          refine take_to (i := 5) (d := some 81) (v := ?_) (l' := #[true, true, true, true, true, true, false, false, false, false, false, false, false, false, false, false, false, false, false, false, false, false, false, false, false, false, false, false]) rfl rfl (by kernel_rfl) (by kernel_rfl) (by kernel_rfl) (by kernel_rfl) (fun _ _ _ h => h) (Or.inl ⟨by rfl, ?_⟩) (by assumption) ?_; rotate_left; · (intro w' hSw; (try dsimp only at hSw); go_simp; (try with_reducible rfl))
          try simp only [Act.put, List.setIfInBounds_toArray, List.set_cons_zero, List.set_cons_succ]
          refine take_to (i := 6) (d := some 82) (v := ?_) (l' := #[true, true, true, true, true, true, true, false, false, false, false, false, false, false, false, false, false, false, false, false, false, false, false, false, false, false, false, false]) rfl rfl (by kernel_rfl) (by kernel_rfl) (by kernel_rfl) (by kernel_rfl) (fun _ _ _ h => h) (Or.inl ⟨by rfl, ?_⟩) (by assumption) ?_; rotate_left; · (intro w' hSw; (try dsimp only at hSw); go_simp; (try with_reducible rfl))
          try simp only [Act.put, List.setIfInBounds_toArray, List.set_cons_zero, List.set_cons_succ]
          refine take_to (i := 7) (d := some 83) (v := ?_) (l' := #[true, true, true, true, true, true, true, true, false, false, false, false, false, false, false, false, false, false, false, false, false, false, false, false, false, false, false, false]) rfl rfl (by kernel_rfl) (by kernel_rfl) (by kernel_rfl) (by kernel_rfl) (fun _ _ _ h => h) (Or.inl ⟨by rfl, ?_⟩) (by assumption) ?_; rotate_left; · (intro w' hSw; (try dsimp only at hSw); go_simp; (try with_reducible rfl))
          try simp only [Act.put, List.setIfInBounds_toArray, List.set_cons_zero, List.set_cons_succ]
          refine take_to (i := 8) (d := some 84) (v := ?_) (l' := #[true, true, true, true, true, true, true, true, true, false, false, false, false, false, false, false, false, false, false, false, false, false, false, false, false, false, false, false]) rfl rfl (by kernel_rfl) (by kernel_rfl) (by kernel_rfl) (by kernel_rfl) (fun _ _ _ h => h) (Or.inl ⟨by rfl, ?_⟩) (by assumption) ?_; rotate_left; · (intro w' hSw; (try dsimp only at hSw); go_simp; (try with_reducible rfl))
          try simp only [Act.put, List.setIfInBounds_toArray, List.set_cons_zero, List.set_cons_succ]
          refine take_to (i := 9) (d := some 85) (v := ?_) (l' := #[true, true, true, true, true, true, true, true, true, true, false, false, false, false, false, false, false, false, false, false, false, false, false, false, false, false, false, false]) rfl rfl (by kernel_rfl) (by kernel_rfl) (by kernel_rfl) (by kernel_rfl) (fun _ _ _ h => h) (Or.inl ⟨by rfl, ?_⟩) (by assumption) ?_; rotate_left; · (intro w' hSw; (try dsimp only at hSw); go_simp; (try with_reducible rfl))
          try simp only [Act.put, List.setIfInBounds_toArray, List.set_cons_zero, List.set_cons_succ]
          refine take_to (i := 10) (d := some 86) (v := ?_) (l' := #[true, true, true, true, true, true, true, true, true, true, true, false, false, false, false, false, false, false, false, false, false, false, false, false, false, false, false, false]) rfl rfl (by kernel_rfl) (by kernel_rfl) (by kernel_rfl) (by kernel_rfl) (fun _ _ _ h => h) (Or.inl ⟨by rfl, ?_⟩) (by assumption) ?_; rotate_left; · (intro w' hSw; (try dsimp only at hSw); go_simp; (try with_reducible rfl))
          try simp only [Act.put, List.setIfInBounds_toArray, List.set_cons_zero, List.set_cons_succ]
          refine take_to (i := 11) (d := some 87) (v := ?_) (l' := #[true, true, true, true, true, true, true, true, true, true, true, true, false, false, false, false, false, false, false, false, false, false, false, false, false, false, false, false]) rfl rfl (by kernel_rfl) (by kernel_rfl) (by kernel_rfl) (by kernel_rfl) (fun _ _ _ h => h) (Or.inl ⟨by rfl, ?_⟩) (by assumption) ?_; rotate_left; · (intro w' hSw; (try dsimp only at hSw); go_simp; (try with_reducible rfl))
          try simp only [Act.put, List.setIfInBounds_toArray, List.set_cons_zero, List.set_cons_succ]
          refine take_to (i := 12) (d := some 88) (v := ?_) (l' := #[true, true, true, true, true, true, true, true, true, true, true, true, true, false, false, false, false, false, false, false, false, false, false, false, false, false, false, false]) rfl rfl (by kernel_rfl) (by kernel_rfl) (by kernel_rfl) (by kernel_rfl) (fun _ _ _ h => h) (Or.inl ⟨by rfl, ?_⟩) (by assumption) ?_; rotate_left; · (intro w' hSw; (try dsimp only at hSw); go_simp; (try with_reducible rfl))
          try simp only [Act.put, List.setIfInBounds_toArray, List.set_cons_zero, List.set_cons_succ]
          refine take_to (i := 13) (d := some 89) (v := ?_) (l' := #[true, true, true, true, true, true, true, true, true, true, true, true, true, true, false, false, false, false, false, false, false, false, false, false, false, false, false, false]) rfl rfl (by kernel_rfl) (by kernel_rfl) (by kernel_rfl) (by kernel_rfl) (fun _ _ _ h => h) (Or.inl ⟨by rfl, ?_⟩) (by assumption) ?_; rotate_left; · (intro w' hSw; (try dsimp only at hSw); go_simp; (try with_reducible rfl))
          try simp only [Act.put, List.setIfInBounds_toArray, List.set_cons_zero, List.set_cons_succ]
          refine take_to (i := 14) (d := some 90) (v := ?_) (l' := #[true, true, true, true, true, true, true, true, true, true, true, true, true, true, true, false, false, false, false, false, false, false, false, false, false, false, false, false]) rfl rfl (by kernel_rfl) (by kernel_rfl) (by kernel_rfl) (by kernel_rfl) (fun _ _ _ h => h) (Or.inl ⟨by rfl, ?_⟩) (by assumption) ?_; rotate_left; · (intro w' hSw; (try dsimp only at hSw); go_simp; (try with_reducible rfl))
          try simp only [Act.put, List.setIfInBounds_toArray, List.set_cons_zero, List.set_cons_succ]
          refine take_to (i := 15) (d := some 91) (v := ?_) (l' := #[true, true, true, true, true, true, true, true, true, true, true, true, true, true, true, true, false, false, false, false, false, false, false, false, false, false, false, false]) rfl rfl (by kernel_rfl) (by kernel_rfl) (by kernel_rfl) (by kernel_rfl) (fun _ _ _ h => h) (Or.inl ⟨by rfl, ?_⟩) (by assumption) ?_; rotate_left; · (intro w' hSw; (try dsimp only at hSw); go_simp; (try with_reducible rfl))
          try simp only [Act.put, List.setIfInBounds_toArray, List.set_cons_zero, List.set_cons_succ]
          refine take_to (i := 16) (d := some 92) (v := ?_) (l' := #[true, true, true, true, true, true, true, true, true, true, true, true, true, true, true, true, true, false, false, false, false, false, false, false, false, false, false, false]) rfl rfl (by kernel_rfl) (by kernel_rfl) (by kernel_rfl) (by kernel_rfl) (fun _ _ _ h => h) (Or.inl ⟨by rfl, ?_⟩) (by assumption) ?_; rotate_left; · (intro w' hSw; (try dsimp only at hSw); go_simp; (try with_reducible rfl))
          try simp only [Act.put, List.setIfInBounds_toArray, List.set_cons_zero, List.set_cons_succ]
          refine take_to (i := 17) (d := some 93) (v := ?_) (l' := #[true, true, true, true, true, true, true, true, true, true, true, true, true, true, true, true, true, true, false, false, false, false, false, false, false, false, false, false]) rfl rfl (by kernel_rfl) (by kernel_rfl) (by kernel_rfl) (by kernel_rfl) (fun _ _ _ h => h) (Or.inl ⟨by rfl, ?_⟩) (by assumption) ?_; rotate_left; · (intro w' hSw; (try dsimp only at hSw); go_simp; (try with_reducible rfl))
          try simp only [Act.put, List.setIfInBounds_toArray, List.set_cons_zero, List.set_cons_succ]
          refine take_to (i := 18) (d := some 94) (v := ?_) (l' := #[true, true, true, true, true, true, true, true, true, true, true, true, true, true, true, true, true, true, true, false, false, false, false, false, false, false, false, false]) rfl rfl (by kernel_rfl) (by kernel_rfl) (by kernel_rfl) (by kernel_rfl) (fun _ _ _ h => h) (Or.inl ⟨by rfl, ?_⟩) (by assumption) ?_; rotate_left; · (intro w' hSw; (try dsimp only at hSw); go_simp; (try with_reducible rfl))
          try simp only [Act.put, List.setIfInBounds_toArray, List.set_cons_zero, List.set_cons_succ]
          refine take_to (i := 19) (d := some 95) (v := ?_) (l' := #[true, true, true, true, true, true, true, true, true, true, true, true, true, true, true, true, true, true, true, true, false, false, false, false, false, false, false, false]) rfl rfl (by kernel_rfl) (by kernel_rfl) (by kernel_rfl) (by kernel_rfl) (fun _ _ _ h => h) (Or.inl ⟨by rfl, ?_⟩) (by assumption) ?_; rotate_left; · (intro w' hSw; (try dsimp only at hSw); go_simp; (try with_reducible rfl))
          try simp only [Act.put, List.setIfInBounds_toArray, List.set_cons_zero, List.set_cons_succ]
          refine take_to (i := 20) (d := some 96) (v := ?_) (l' := #[true, true, true, true, true, true, true, true, true, true, true, true, true, true, true, true, true, true, true, true, true, false, false, false, false, false, false, false]) rfl rfl (by kernel_rfl) (by kernel_rfl) (by kernel_rfl) (by kernel_rfl) (fun _ _ _ h => h) (Or.inl ⟨by rfl, ?_⟩) (by assumption) ?_; rotate_left; · (intro w' hSw; (try dsimp only at hSw); go_simp; (try with_reducible rfl))
          try simp only [Act.put, List.setIfInBounds_toArray, List.set_cons_zero, List.set_cons_succ]
          refine take_to (i := 21) (d := some 97) (v := ?_) (l' := #[true, true, true, true, true, true, true, true, true, true, true, true, true, true, true, true, true, true, true, true, true, true, false, false, false, false, false, false]) rfl rfl (by kernel_rfl) (by kernel_rfl) (by kernel_rfl) (by kernel_rfl) (fun _ _ _ h => h) (Or.inl ⟨by rfl, ?_⟩) (by assumption) ?_; rotate_left; · (intro w' hSw; (try dsimp only at hSw); go_simp; (try with_reducible rfl))
          try simp only [Act.put, List.setIfInBounds_toArray, List.set_cons_zero, List.set_cons_succ]
          refine take_to (i := 22) (d := some 98) (v := ?_) (l' := #[true, true, true, true, true, true, true, true, true, true, true, true, true, true, true, true, true, true, true, true, true, true, true, false, false, false, false, false]) rfl rfl (by kernel_rfl) (by kernel_rfl) (by kernel_rfl) (by kernel_rfl) (fun _ _ _ h => h) (Or.inl ⟨by rfl, ?_⟩) (by assumption) ?_; rotate_left; · (intro w' hSw; (try dsimp only at hSw); go_simp; (try with_reducible rfl))
          try simp only [Act.put, List.setIfInBounds_toArray, List.set_cons_zero, List.set_cons_succ]
          refine take_to (i := 23) (d := some 99) (v := ?_) (l' := #[true, true, true, true, true, true, true, true, true, true, true, true, true, true, true, true, true, true, true, true, true, true, true, true, false, false, false, false]) rfl rfl (by kernel_rfl) (by kernel_rfl) (by kernel_rfl) (by kernel_rfl) (fun _ _ _ h => h) (Or.inl ⟨by rfl, ?_⟩) (by assumption) ?_; rotate_left; · (intro w' hSw; (try dsimp only at hSw); go_simp; (try with_reducible rfl))
          try simp only [Act.put, List.setIfInBounds_toArray, List.set_cons_zero, List.set_cons_succ]
          refine take_to (i := 24) (d := some 100) (v := ?_) (l' := #[true, true, true, true, true, true, true, true, true, true, true, true, true, true, true, true, true, true, true, true, true, true, true, true, true, false, false, false]) rfl rfl (by kernel_rfl) (by kernel_rfl) (by kernel_rfl) (by kernel_rfl) (fun _ _ _ h => h) (Or.inl ⟨by rfl, ?_⟩) (by assumption) ?_; rotate_left; · (intro w' hSw; (try dsimp only at hSw); go_simp; (try with_reducible rfl))
          try simp only [Act.put, List.setIfInBounds_toArray, List.set_cons_zero, List.set_cons_succ]
          refine take_to (i := 25) (d := some 101) (v := ?_) (l' := #[true, true, true, true, true, true, true, true, true, true, true, true, true, true, true, true, true, true, true, true, true, true, true, true, true, true, false, false]) rfl rfl (by kernel_rfl) (by kernel_rfl) (by kernel_rfl) (by kernel_rfl) (fun _ _ _ h => h) (Or.inl ⟨by rfl, ?_⟩) (by assumption) ?_; rotate_left; · (intro w' hSw; (try dsimp only at hSw); go_simp; (try with_reducible rfl))
          try simp only [Act.put, List.setIfInBounds_toArray, List.set_cons_zero, List.set_cons_succ]
          refine one_to (i := 26) (l' := #[true, true, true, true, true, true, true, true, true, true, true, true, true, true, true, true, true, true, true, true, true, true, true, true, true, true, true, false]) rfl (by kernel_rfl) (by kernel_rfl) (fun K hK => ?_)
          go_simp
          refine hK.out _ _ (by (refine HD14.out _ ?_; repeat (first | exact HIN.out | apply IN.drew | apply IN.alloc | (refine IN.go ?_ (by assumption))))) (fun hHeld => ?_)
          clear hK K
          try simp only [Act.put, List.setIfInBounds_toArray, List.set_cons_zero, List.set_cons_succ]
          refine take_to (i := 27) (d := some 8) (v := ?_) (l' := #[true, true, true, true, true, true, true, true, true, true, true, true, true, true, true, true, true, true, true, true, true, true, true, true, true, true, true, true]) rfl rfl (by kernel_rfl) (by kernel_rfl) (by kernel_rfl) (by kernel_rfl) (fun _ _ _ h => h) (Or.inl ⟨by rfl, ?_⟩) (by assumption) ?_; rotate_left; · (intro w' hSw; (try dsimp only at hSw); go_simp; (try with_reducible rfl))
          try simp only [Act.put, List.setIfInBounds_toArray, List.set_cons_zero, List.set_cons_succ]
          refine wpAnyH_done (by kernel_rfl) ?_ _
          refine NoPanic.normal ?_
          have HI14 := Lib.hid hHeld.1
          have hl14 := HIN.out.v.lt
          clear hHeld HD14 HIN
          have hs8 : R8 W13.heap.size (rd wd v0 (t + 1)) ((W13.alloc (.cells #[.int .u32 (u (m + nn)), .int .u32 (u (st 0)), .int .u32 (u (st 1)), .int .u32 (u (st 2)), .int .u32 (u (st 3 + m)), .int .u32 (u (st 4)), .int .u32 (u (st 5)), .int .u32 (u (st 6))] 96)).drew) := by
            refine ⟨by show W13.heap.size < (W13.alloc _).heap.size; simp, fun i hi => ?_⟩
            show (W13.alloc _).cell? ⟨W13.heap.size, i, none⟩ = _
            rw [cell_of_row _ W13.heap.size i _ _ (0, 0) (laid_at rfl)]
            show _ = some (Value.int .u32 (u (stepW (rd wd v0 t) (kc t) (wd t) i)))
            rw [← HST.out]
            match i, hi with
            | 0, _ => rw [HMM.out, HNN.out]; rfl
            | 1, _ => rfl
            | 2, _ => rfl
            | 3, _ => rfl
            | 4, _ => show some (Value.int .u32 (u (st 3 + m))) = some (Value.int .u32 (u (stM (st 4) (st 5) (st 6) (st 7) (kc t) (wd t) + st 3))); rw [HMM.out, BitVec.add_comm (st 3)]
            | 5, _ => rfl
            | 6, _ => rfl
            | 7, _ => rfl
          have HI15 := Lib.hid (show IN w VH KH GW W13.heap.size pA NQ fb v0 wd (rd wd v0 (t + 1)) ((W13.alloc (.cells #[.int .u32 (u (m + nn)), .int .u32 (u (st 0)), .int .u32 (u (st 1)), .int .u32 (u (st 2)), .int .u32 (u (st 3 + m)), .int .u32 (u (st 4)), .int .u32 (u (st 5)), .int .u32 (u (st 6))] 96)).drew) from ⟨HI14.out.os, HI14.out.v, HI14.out.wd, hs8⟩)
          clear hs8 HI14 HMM HNN HST
          generalize (W13.alloc (.cells #[.int .u32 (u (m + nn)), .int .u32 (u (st 0)), .int .u32 (u (st 1)), .int .u32 (u (st 2)), .int .u32 (u (st 3 + m)), .int .u32 (u (st 4)), .int .u32 (u (st 5)), .int .u32 (u (st 6))] 96)).drew = W14 at HI15 ⊢
          go_wp2
          go_roundw
          case rel => exact ⟨t + 1, W13.heap.size, 8, by omega, by go_num, rfl, Nat.le_refl _, by decide, by omega, HI15.out⟩
          case measure => simp [intOf]; omega
        · obtain rfl : t = 64 := by omega
          obtain ⟨fin, hfin⟩ : ∃ fin, fin = rd wd v0 64 := ⟨_, rfl⟩
          rw [← hfin] at hin
          have HFIN := Lib.hid hfin
          have HJ0 := Lib.hid (show OS w VH KH pA NQ fb wr ∧ WT wr VH 8 (added v0 fin 0) ∧ R8 G fin wr from ⟨hin.os, hin.v.congr fun i _ => by unfold added; rw [if_neg (by omega)], hin.s⟩)
          clear hin hfin
          go_wp2
          obtain ⟨wo2, hwo2⟩ : ∃ wo : World, wo = wr := ⟨_, rfl⟩
          subst hwo2
          go_loopw [12] (fun iv wr => ∃ j : Nat, j ≤ 8 ∧ iv = .int .i64 (j : Int) ∧ OS w VH KH pA NQ fb wr ∧ WT wr VH 8 (added v0 fin j) ∧ R8 G fin wr) (fun iv _ => (8 - intOf iv).toNat)
          case atStart => exact ⟨0, Nat.zero_le _, rfl, HJ0.out.1, HJ0.out.2.1, HJ0.out.2.2⟩
          case round =>
            clear HJ0
            obtain ⟨j, hj, rfl, hos, hv, hs⟩ := hrel
            by_cases hlt3 : j < 8
            · have HD18 := Lib.hid (show ∀ W, OS w VH KH pA NQ fb W → WT W VH 8 (added v0 fin j) → R8 G fin W → OS w VH KH pA NQ fb W ∧ WT W VH 8 (added v0 fin j) ∧ R8 G fin W ∧ W.cell? ⟨VH, j, none⟩ = some (.int .u32 (u (v0 j))) ∧ W.cell? ⟨G, j, none⟩ = some (.int .u32 (u (fin j))) from fun W h1 h2 h3 =>
                ⟨h1, h2, h3, by have := h2.word j hlt3; unfold added at this; rw [if_neg (by omega)] at this; exact this, h3.word j hlt3⟩)
              have H1 := Lib.hid hos
              have H2 := Lib.hid hv
              have H3 := Lib.hid hs
              have lj : (j : Int) < 8 := by omega
              clear hos hv hs
              go_upto_region 18 with (fail)
              refine wp_region_noPanic ?_
              refine wp_region_last (n := 12) (S := (fun W => OS w VH KH pA NQ fb W ∧ WT W VH 8 (added v0 fin j) ∧ R8 G fin W ∧ W.cell? ⟨VH, j, none⟩ = some (.int .u32 (u (v0 j))) ∧ W.cell? ⟨G, j, none⟩ = some (.int .u32 (u (fin j))))) 12 (by kernel_rfl) rfl (by kernel_rfl) (by decide) (HD18.out _ (H1.out.go (Below.refl _ _).drew) H2.out.drew (H3.out.go (Below.refl _ _).drew)) (fun hHeld => ?_)
              refine take_at (i := 0) (d := some 107) (v := ?_) rfl rfl (by kernel_rfl) (by kernel_rfl) (by kernel_rfl) (fun _ _ _ h => h) (Or.inl ⟨by rfl, ?_⟩) (by assumption) ?_; rotate_left; · (intro w' hSw; (try dsimp only at hSw); go_simp; (try with_reducible rfl))
              try simp only [Act.put, List.setIfInBounds_toArray, List.set_cons_zero, List.set_cons_succ]
              refine take_at (i := 1) (d := some 108) (v := ?_) rfl rfl (by kernel_rfl) (by kernel_rfl) (by kernel_rfl) (fun _ _ _ h => h) (Or.inl ⟨by rfl, ?_⟩) (by assumption) ?_; rotate_left; · (intro w' hSw; (try dsimp only at hSw); go_simp; (try with_reducible rfl))
              try simp only [Act.put, List.setIfInBounds_toArray, List.set_cons_zero, List.set_cons_succ]
              refine take_at (i := 2) (d := some 109) (v := ?_) rfl rfl (by kernel_rfl) (by kernel_rfl) (by kernel_rfl) (fun _ _ _ h => h) (Or.inl ⟨by rfl, ?_⟩) (by assumption) ?_; rotate_left; · (intro w' hSw; (try dsimp only at hSw); go_simp; (try with_reducible rfl))
              try simp only [Act.put, List.setIfInBounds_toArray, List.set_cons_zero, List.set_cons_succ]
              refine take_at (i := 3) (d := some 110) (v := ?_) rfl rfl (by kernel_rfl) (by kernel_rfl) (by kernel_rfl) (fun _ _ _ h => h) (Or.inl ⟨by rfl, ?_⟩) (by assumption) ?_; rotate_left; · (intro w' hSw; (try dsimp only at hSw); go_simp; (try with_reducible rfl))
              try simp only [Act.put, List.setIfInBounds_toArray, List.set_cons_zero, List.set_cons_succ]
              refine take_at (i := 4) (d := some 111) (v := ?_) rfl rfl (by kernel_rfl) (by kernel_rfl) (by kernel_rfl) (fun _ _ _ h => h) (Or.inl ⟨by rfl, ?_⟩) (by assumption) ?_; rotate_left; · (intro w' hSw; (try dsimp only at hSw); go_simp; (try with_reducible rfl))
              try simp only [Act.put, List.setIfInBounds_toArray, List.set_cons_zero, List.set_cons_succ]
              refine take_at (i := 5) (d := some 112) (v := ?_) rfl rfl (by kernel_rfl) (by kernel_rfl) (by kernel_rfl) (fun _ _ _ h => h) (Or.inl ⟨by rfl, ?_⟩) (by assumption) ?_; rotate_left; · (intro w' hSw; (try dsimp only at hSw); go_simp; (try with_reducible rfl))
              try simp only [Act.put, List.setIfInBounds_toArray, List.set_cons_zero, List.set_cons_succ]
              refine take_at (i := 6) (d := some 113) (v := ?_) rfl rfl (by kernel_rfl) (by kernel_rfl) (by kernel_rfl) (fun _ _ _ h => h) (Or.inl ⟨by rfl, ?_⟩) (by assumption) ?_; rotate_left; · (intro w' hSw; (try dsimp only at hSw); go_simp; (try with_reducible rfl))
              try simp only [Act.put, List.setIfInBounds_toArray, List.set_cons_zero, List.set_cons_succ]
              refine take_at (i := 7) (d := some 114) (v := ?_) rfl rfl (by kernel_rfl) (by kernel_rfl) (by kernel_rfl) (fun _ _ _ h => h) (Or.inl ⟨by rfl, ?_⟩) (by assumption) ?_; rotate_left; · (intro w' hSw; (try dsimp only at hSw); go_simp; (try with_reducible rfl))
              try simp only [Act.put, List.setIfInBounds_toArray, List.set_cons_zero, List.set_cons_succ]
              refine take_at (i := 8) (d := some 115) (v := ?_) rfl rfl (by kernel_rfl) (by kernel_rfl) (by kernel_rfl) (fun _ _ _ h => h) (Or.inl ⟨by rfl, ?_⟩) (by assumption) ?_; rotate_left; · (intro w' hSw; (try dsimp only at hSw); go_simp; (try with_reducible rfl))
              try simp only [Act.put, List.setIfInBounds_toArray, List.set_cons_zero, List.set_cons_succ]
              refine take_at (i := 9) (d := some 116) (v := ?_) rfl rfl (by kernel_rfl) (by kernel_rfl) (by kernel_rfl) (fun _ _ _ h => h) (Or.inl ⟨by rfl, ?_⟩) (by assumption) ?_; rotate_left; · (intro w' hSw; (try dsimp only at hSw); go_simp; (try with_reducible rfl))
              try simp only [Act.put, List.setIfInBounds_toArray, List.set_cons_zero, List.set_cons_succ]
              refine take_at (i := 10) (d := some 117) (v := ?_) rfl rfl (by kernel_rfl) (by kernel_rfl) (by kernel_rfl) (fun _ _ _ h => h) (Or.inl ⟨by rfl, ?_⟩) (by assumption) ?_; rotate_left; · (intro w' hSw; (try dsimp only at hSw); go_simp; (try with_reducible rfl))
              try simp only [Act.put, List.setIfInBounds_toArray, List.set_cons_zero, List.set_cons_succ]
              refine take_at (i := 11) (d := some 118) (v := ?_) rfl rfl (by kernel_rfl) (by kernel_rfl) (by kernel_rfl) (fun _ _ _ h => h) (Or.inl ⟨by rfl, ?_⟩) (by assumption) ?_; rotate_left; · (intro w' hSw; (try dsimp only at hSw); go_simp; (try with_reducible rfl))
              try simp only [Act.put, List.setIfInBounds_toArray, List.set_cons_zero, List.set_cons_succ]
              refine wpAnyH_done (by kernel_rfl) ?_ _
              have hg := gr_setCell (hb := VH) (i := j) (w := wr.drew) (.int .u32 (u (v0 j + fin j)))
              have hn2 : WT (wr.drew.setCell ⟨VH, j, none⟩ (.int .u32 (u (v0 j + fin j)))) VH 8 (added v0 fin (j + 1)) := hHeld.2.1.set j hlt3 _ (by unfold added; rw [if_pos (by omega)]) (fun i h1 h2 => by
                unfold added
                by_cases h3 : i < j
                · rw [if_pos h3, if_pos (by omega)]
                · rw [if_neg h3, if_neg (by omega)])
              have hn1 := hHeld.1.gr hg
              have hn3 := hHeld.2.2.1.gr hg (by omega)
              have cm := hHeld.2.2.2.1
              have fm := hHeld.2.1.free j
              refine behind_go rfl (by rfl) ?_
              clear hHeld HD18 H1 H2 H3 hg
              go_simp
              refine NoPanic.normal ?_
              clear cm fm
              rw [set_drew] at hn1 hn2 hn3
              generalize World.drew (World.setCell _ ⟨VH, j, none⟩ _) = W6 at hn1 hn2 hn3 ⊢
              have HN1 := Lib.hid hn1
              have HN2 := Lib.hid hn2
              have HN3 := Lib.hid hn3
              clear hn1 hn2 hn3
              go_wp2
              go_roundw
              case rel => first
                | exact ⟨j + 1, by omega, by go_num, HN1.out, HN2.out, HN3.out⟩
                | (refine ⟨_, _, _, _, _, _, _, _, _, _, _, _, _, _, _, _, _, ⟨j + 1, by omega, ?_, HN1.out, HN2.out, HN3.out⟩, rfl⟩; go_num)
                | (refine ⟨_, _, _, _, _, _, _, _, _, _, _, _, _, _, _, _, ⟨j + 1, by omega, ?_, HN1.out, HN2.out, HN3.out⟩, rfl⟩; go_num)
                | (refine ⟨_, _, _, _, _, _, _, _, _, _, _, _, _, _, _, _, _, _, ⟨j + 1, by omega, ?_, HN1.out, HN2.out, HN3.out⟩, rfl⟩; go_num)
                | (refine ⟨_, _, _, _, _, _, _, _, _, _, _, _, _, _, _, ⟨j + 1, by omega, ?_, HN1.out, HN2.out, HN3.out⟩, rfl⟩; go_num)
                | (refine ⟨_, _, _, _, _, _, _, _, _, _, _, _, _, _, _, _, _, _, _, ⟨j + 1, by omega, ?_, HN1.out, HN2.out, HN3.out⟩, rfl⟩; go_num)
              case measure => simp [intOf]; omega
            · obtain rfl : j = 8 := by omega
              have H1 := Lib.hid hos
              have H2 := Lib.hid (show WT wr VH 8 (mid fb (q + 1)) from hv.congr fun i hi => by
                unfold added
                rw [if_pos hi, HFIN.out, HWD.out, HV0.out, BitVec.add_comm]
                rfl)
              have s1 : IntKind.i64.wrap ((a : Int) + 64) = (a2 : Int) := by have := HA2.out; have := HA.out; have := HQ.out; rw [IntWalk.i64_in _ (by omega)]; omega
              clear hos hv hs
              go_wp2
              clear s1
              go_roundw
              case rel => exact ⟨q + 1, a2, by omega, by have := HA2.out; have := HA.out; omega, rfl, H1.out, H2.out⟩
              case measure => simp [intOf]; have := HA2.out; have := HA.out; have := HQ.out; omega
    · obtain rfl : q = Q := by omega
      have l1 : ¬ ((a : Int) < (NQ : Int)) := by have := HQ.out; omega
      have HO := Lib.hid hos
      have HV := Lib.hid hv
      clear hos hv ha
      go_upto_region 20 with (fail)
      have hz := HO.out.res.lt
      refine forget_code (fun W => Below w.heap.size w W ∧ BT W w.heap.size 32 (fun _ => 0#8) ∧ BT W wr.heap.size 32 (fun _ => 0#8) ∧ WT W VH 8 (mid fb q))
        ⟨HO.out.bel.alloc HO.out.bel.size _, HO.out.res.alloc _, BT.of_cells (laid_at rfl) (fun i hi => zeros_at 32 i hi), HV.out.alloc _⟩ ?_
      rintro W7 ⟨hb7, hr7, ho7, hv7⟩
      have K1 := Lib.hid hb7
      have K2 := Lib.hid hr7
      have K3 := Lib.hid ho7
      clear hb7 hr7 ho7 HO HV
      go_wp2_with fail
      refine (ref_bytes W7.heap.size (some ⟨VH, 0, none⟩) 8 8 (mid fb q) W7 (by omega) (Nat.le_refl _) hv7.reads).mono ?_
      rintro e W8 ⟨vB, rfl, hb8, hown8⟩
      obtain ⟨GB, cB, rfl, hGB, hcB, hmB⟩ := owns_some hown8 (by omega)
      have hlo := K3.out.lt
      have L1 := Lib.hid (K1.out.trans (hb8.mono K1.out.size))
      have L2 := Lib.hid (K2.out.below' hb8)
      have L3 := Lib.hid (K3.out.below' hb8)
      have L4 := Lib.hid (show GB < W8.heap.size ∧ ∀ i, i < 32 → W8.cell? ⟨GB, i, none⟩ = some (.int .u8 (ub (SH i))) from ⟨(hown8.lt GB rfl).2, fun i hi => by rw [hown8.cellAt i (by omega), HSH.out]; exact cellsOf_at _ _ i hi⟩)
      clear hb8 hown8 hv7 K1 K2 K3
      go_wp2
      obtain ⟨wo3, hwo3⟩ : ∃ wo : World, wo = wr := ⟨_, rfl⟩
      subst hwo3
      go_loopw [14] (fun iv wr => ∃ j : Nat, j ≤ 32 ∧ iv = .int .i64 (j : Int) ∧ Below w.heap.size w wr ∧ BT wr w.heap.size 32 (fun _ => 0#8) ∧ BT wr wo3.heap.size 32 (padK0 SH j) ∧ GB < wr.heap.size ∧ (∀ i, i < 32 → wr.cell? ⟨GB, i, none⟩ = some (.int .u8 (ub (SH i))))) (fun iv _ => (32 - intOf iv).toNat)
      case atStart => exact ⟨0, Nat.zero_le _, rfl, L1.out, L2.out, L3.out.congr fun i _ => by unfold padK0; rw [if_neg (by omega)], L4.out.1, L4.out.2⟩
      case round =>
        clear L1 L2 L3 L4
        obtain ⟨j, hj, rfl, hb, hres, hout, hgl, hgc⟩ := hrel
        by_cases hlt : j < 32
        · have c1 := hgc j hlt
          have f1 := hout.free j
          have c2 := hout.byte j hlt
          have hg := gr_setCell (hb := wo3.heap.size) (i := j) (w := wr) (.int .u8 (ub (SH j)))
          have n3 : BT (wr.setCell ⟨wo3.heap.size, j, none⟩ (.int .u8 (ub (SH j)))) wo3.heap.size 32 (padK0 SH (j + 1)) := hout.set j hlt _ (by unfold padK0; rw [if_pos (by omega)]) (fun i h1 h2 => by
            unfold padK0
            by_cases h3 : i < j
            · rw [if_pos h3, if_pos (by omega)]
            · rw [if_neg h3, if_neg (by omega)])
          have M1 := Lib.hid (hb.grown hg hb.size (by rintro x ⟨⟩; omega))
          have M2 := Lib.hid (hres.gr hg (by omega))
          have M3 := Lib.hid n3
          have M4 := Lib.hid (show ∀ i, i < 32 → (wr.setCell ⟨wo3.heap.size, j, none⟩ (.int .u8 (ub (SH j)))).cell? ⟨GB, i, none⟩ = some (.int .u8 (ub (SH i))) from fun i hi => by
            rw [World.cell?_of_block (w := wr) (a := ⟨GB, i, none⟩) (hg.block GB hgl (by simp; omega))]; exact hgc i hi)
          have M5 : GB < (wr.setCell ⟨wo3.heap.size, j, none⟩ (.int .u8 (ub (SH j)))).heap.size := by have := hg.size; omega
          have lj : (j : Int) < 32 := by omega
          have M55 := Lib.hid M5
          clear n3 hg hgc hb hres hout M5
          go_wp2
          go_roundw
          case rel => exact ⟨j + 1, by omega, by go_num, M1.out, M2.out, M3.out, M55.out, M4.out⟩
          case measure => simp [intOf]; omega
        · obtain rfl : j = 32 := by omega
          have M1 := Lib.hid hb
          have M2 := Lib.hid hres
          have M3 := Lib.hid (hout.congr (f' := SH) fun i hi => by unfold padK0; rw [if_pos hi])
          clear hb hres hout hgc
          go_upto_region 25 with (fail)
          refine wp_region_lit ?_
          refine wpList_load_mid rfl 25 _ rfl wo3.heap.size 0 rfl (tagC SH) _ M3.out.range Tryz.underlying25 rfl (by simp [infoTag, tagC_len]) ?_
          refine wpList_store_mid rfl 25 _ _ rfl w.heap.size 0 (tagC SH).toArray rfl rfl (by simpa [tagC_len] using M2.out.there 32 (Nat.le_refl _)) (by simp [infoTag, tagC_len]) (tagC_one _) ?_
          rw [List.toList_toArray]
          have HR5 := Lib.hid (World.rangeAt_setCells_same wr w.heap.size 0 (tagC SH) (by rw [tagC_len]; exact M2.out.there 32 (Nat.le_refl _)))
          have HB5 := Lib.hid (M1.out.grown (gr_setCells (hb := w.heap.size) (tagC SH) 0 wr) M1.out.size (by rintro x ⟨⟩; omega))
          generalize wr.setCells w.heap.size 0 (tagC SH) = W9 at HR5 HB5 ⊢
          show Exit.then _ _ Exit.normal _ _
          go_wp2
          refine bodyPost_ret (v := tagV SH) ?_ rfl ⟨rfl, HB5.out⟩
          exact results_cell_mid (p := 2) (ty := 25) rfl _ W9 w.heap.size _ _ rfl HR5.out Tryz.underlying25 rfl (by simp [infoTag, tagC_len])
end Go.Proofs.YtejknkgbkkdaiaaGreatDoor
