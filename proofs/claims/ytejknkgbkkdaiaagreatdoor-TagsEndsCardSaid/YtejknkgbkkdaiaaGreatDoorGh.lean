/-
  Contract: a real maker's draw, as the document makes it.
-/
import Derived.Test.YtejknkgbkkdaiaaGreatDoorGg
import Derived.Test.YtejknkgbkkdaiaaGreatDoorG17
namespace Go.Proofs.YtejknkgbkkdaiaaGreatDoor
open Go.RowKit
set_option linter.unusedVariables false
set_option linter.unusedSimpArgs false
set_option maxRecDepth 20000

theorem list_goT {X K : Act → World → Prop} {a : Act} {w : World} (h : ∀ a w, X a w → K a w) (hx : X a w) : K a w := h _ _ hx
theorem drwG_lo (sd : Nat → BitVec 8) (sm N j : Nat) (h : j < 4) : drwG sd sm N j = drwT j := by unfold drwG; rw [if_pos h]
theorem drwG_mid (sd : Nat → BitVec 8) (sm N j : Nat) (h : j < sm) : drwG sd sm N (4 + j) = sd j := by
  unfold drwG; rw [if_neg (by omega), if_pos (by omega), show 4 + j - 4 = j by omega]
theorem drwG_hi (sd : Nat → BitVec 8) (sm N j : Nat) : drwG sd sm N (4 + sm + j) = oct N j := by
  unfold drwG; rw [if_neg (by omega), if_neg (by omega), show 4 + sm + j - (4 + sm) = j by omega]
theorem append_none (w : World) (ty : TypeId) (a : Addr) (n c c2 : Nat) (hn : n ≤ c) : (Builtin.append_ #[22, 22] ty #[.slice (some a) n c, .slice none 0 c2]).run Tryz.prog w = .ok (.slice (some a) n c) w := by
  obtain ⟨i0, hi, hz0, hz1, hz2⟩ := info_parts Tryz.infoB
  simp [Builtin.append_, run_underlying Tryz.underlying22, sizeOf, typeInfo, hi, Builtin.lenOf, hn, Builtin.firstCells, storeCells]
/-- the text's row, or a row of the text and the seed -/
def DA (base H sm : Nat) (D : Nat → BitVec 8) (w : World) (v : Value) : Prop :=
  (sm = 0 ∧ v = .slice (some ⟨H, 0, none⟩) 4 4 ∧ w.heap[H]? = some (.cells #[.int .u8 100, .int .u8 114, .int .u8 97, .int .u8 119] 5 (4, 5))) ∨ w.ownsRow base 5 1 v (4 + sm) (cellsOf D (4 + sm))
theorem DA.go {base H sm : Nat} {D : Nat → BitVec 8} {w w' : World} {v : Value} (h : DA base H sm D w v) (g : Below w.heap.size w w') : DA base H sm D w' v := by
  rcases h with ⟨h1, h2, h3⟩ | h
  · exact .inl ⟨h1, h2, laid_go h3 g⟩
  · exact .inr (owns_below h g)
theorem laid_text {w : World} {H : Nat} (h : w.heap[H]? = some (.cells #[.int .u8 100, .int .u8 114, .int .u8 97, .int .u8 119] 5 (4, 5))) (sd : Nat → BitVec 8) (sm N : Nat) : ∀ j u, (cellsOf (drwG sd sm N) 4)[j]? = some u → w.cell? ((⟨H, 0, none⟩ : Addr).add j) = some u := fun j u hj => by
  have hj4 : j < 4 := by have := (List.getElem?_eq_some_iff.1 hj).1; simpa [cellsOf] using this
  rw [Go.WideShapes.add_plain, Nat.zero_add, cell_of_row w H j _ _ (4, 5) h, ← hj]
  match j, hj4 with
  | 0, _ | 1, _ | 2, _ | 3, _ => simp [cellsOf, drwG, drwT]; rfl
theorem below_of_gr {w w' : World} (g : w.grownBy w' none) : Below w.heap.size w w' := ⟨g.os, g.tape, g.output, g.size, fun k hk => g.block k hk (by simp)⟩
theorem draw_app1 (sd : Nat → BitVec 8) (sm N sc : Nat) (sp : Option Addr) (B H : Nat) (w : World) (hs : Reads B w sp sm (fun j => .int .u8 (ub (sd j)))) (hz : sp = none → sm = 0) (hsm : sm ≤ 4294967000) (h : w.heap[H]? = some (.cells #[.int .u8 100, .int .u8 114, .int .u8 97, .int .u8 119] 5 (4, 5))) :
    ∃ v' w', (Builtin.append_ #[22, 22] 22 #[.slice (some ⟨H, 0, none⟩) 4 4, .slice sp sm sc]).run Tryz.prog w = .ok v' w' ∧ Below w.heap.size w w' ∧ DA w.heap.size H sm (drwG sd sm N) w' v' := by
  obtain ⟨i0, hi, hz0, hz1, hz2⟩ := info_parts Tryz.infoB
  cases sp with
  | none =>
    have h0 := hz rfl
    subst h0
    exact ⟨_, w, append_none w _ _ 4 4 sc (Nat.le_refl _), Below.refl _ _, .inl ⟨rfl, rfl, h⟩⟩
  | some a =>
    by_cases h0 : sm = 0
    · subst h0
      have := run_append_room_cells (P := Tryz.prog) (w := w) 22 22 5 i0 Tryz.underlying22 hi H 0 4 4 a 0 sc [] (by simp) (fun j u hj => by simp at hj) (fun u hu => by simp at hu) (by omega) (fun j hj => by simp at hj) (fun j hj => by simp at hj)
      exact ⟨_, w, this, Below.refl _ _, .inl ⟨rfl, rfl, h⟩⟩
    · obtain ⟨v', w', h1, h2, h3⟩ := run_append_arg_grows (P := Tryz.prog) (w := w) 22 22 5 i0 (.int .u8 0) 1 1 Tryz.underlying22 hi hz0 hz1 hz2 rfl (by decide) ⟨H, 0, none⟩ 4 4 (cellsOf (drwG sd sm N) 4) (by simp [cellsOf]) (laid_text h sd sm N) a sm sc ((List.range sm).map fun j => .int .u8 (ub (sd j))) (by simp) (fun j u hj => by
        have hjs : j < sm := by have := (List.getElem?_eq_some_iff.1 hj).1; simpa using this
        rcases hs with h | ⟨b, o, he, hb, hc⟩
        · omega
        · cases he
          rw [Go.WideShapes.add_plain, hc j hjs, ← hj]
          simp [hjs]) (by omega) (by unfold maxLen; omega) (by omega)
      refine ⟨v', w', h1, below_of_gr h3, .inr ?_⟩
      have e : cellsOf (drwG sd sm N) 4 ++ (List.range sm).map (fun j => Value.int .u8 (ub (sd j))) = cellsOf (drwG sd sm N) (4 + sm) := by
        rw [← cellsOf_add]
        congr 1
        all_goals exact List.map_congr_left fun j hj => by rw [drwG_mid sd sm N j (List.mem_range.1 hj)]
      rw [← e]
      exact h2
theorem draw_app2 (sd : Nat → BitVec 8) (sm N : Nat) (base H B : Nat) (q : Option Addr) (c8 : Nat) (w : World) (v : Value) (hd : DA base H sm (drwG sd sm N) w v) (hbase : base ≤ w.heap.size) (hsm : sm ≤ 4294967000) (hr : Reads B w q 8 (fun i => .int .u8 (ub (oct N i)))) :
    ∃ v' w', (Builtin.append_ #[22, 22] 22 #[v, .slice q 8 c8]).run Tryz.prog w = .ok v' w' ∧ Below base w w' ∧ w'.ownsRow base 5 1 v' (4 + sm + 8) (cellsOf (drwG sd sm N) (4 + sm + 8)) := by
  obtain ⟨i0, hi, hz0, hz1, hz2⟩ := info_parts Tryz.infoB
  rcases hd with ⟨rfl, rfl, h⟩ | hown
  · rcases hr with h0 | ⟨b, o, rfl, hb, hc⟩
    · omega
    obtain ⟨v', w', h1, h2, h3⟩ := run_append_arg_grows (P := Tryz.prog) (w := w) 22 22 5 i0 (.int .u8 0) 1 1 Tryz.underlying22 hi hz0 hz1 hz2 rfl (by decide) ⟨H, 0, none⟩ 4 4 (cellsOf (drwG sd 0 N) 4) (by simp [cellsOf]) (laid_text h sd 0 N) ⟨b, o, none⟩ 8 c8 ((List.range 8).map fun j => .int .u8 (ub (oct N j))) (by simp) (fun j u hj => by
      have hjs : j < 8 := by have := (List.getElem?_eq_some_iff.1 hj).1; simpa using this
      rw [Go.WideShapes.add_plain, hc j hjs, ← hj]
      simp [hjs]) (by omega) (by unfold maxLen; omega) (by omega)
    refine ⟨v', w', h1, (below_of_gr h3).mono hbase, ?_⟩
    have e : cellsOf (drwG sd 0 N) 4 ++ (List.range 8).map (fun j => Value.int .u8 (ub (oct N j))) = cellsOf (drwG sd 0 N) (4 + 8) := by
      rw [← cellsOf_add]
      congr 1
      all_goals exact List.map_congr_left fun j hj => by rw [show 4 + j = 4 + 0 + j by omega, drwG_hi sd 0 N j]
    rw [e] at h2
    exact owns_base h2 hbase
  · obtain ⟨v', w', h1, h2, h3⟩ := append_cat w base B 22 v (4 + sm) (drwG sd sm N) hown q 8 c8 (oct N) hr (by omega) hbase
    refine ⟨v', w', h1, (Below.refl base w).grown h3 hbase (fun k hk => (hown.lt k hk).1), ?_⟩
    rw [show cellsOf (drwG sd sm N) (4 + sm + 8) = cellsOf (cat (drwG sd sm N) (4 + sm) (oct N)) (4 + sm + 8) from List.map_congr_left fun j hj => by
      by_cases h : j < 4 + sm
      · rw [cat_lo h]
      · obtain ⟨i, rfl⟩ : ∃ i, j = 4 + sm + i := ⟨j - (4 + sm), by omega⟩
        rw [cat_hi, drwG_hi]]
    exact h2
set_option maxHeartbeats 1000000 in
set_option maxRecDepth 100000 in
theorem rdrawR_any (rb : Nat) (sp : Option Addr) (sm sc : Nat) (av : Value) (b0 : Nat) (L : List Thing) (sd : Nat → BitVec 8) (k : Int) (N : Nat) (hN : IntKind.u64.wrap k = (N : Int)) (w : World) (h : RMk w rb true (.slice sp sm sc) av b0 L) (hr : Reads w.heap.size w sp sm (fun j => .int .u8 (ub (sd j)))) (hz : sp = none → sm = 0) (hsm : sm ≤ 2147483500) :
    Calls Tryz.prog 31 #[.pointer (some ⟨rb, 0, none⟩), .int .i64 k] w fun e w' => e = .returned (tagV (sha (drwG sd sm N) (4 + sm + 8))) ∧ Below w.heap.size w w' := by
  have HW := Lib.hid (show RT4 w rb true (.slice sp sm sc) av b0 L (fun _ => 0#8) (w.alloc (.cells (List.replicate 32 (Value.int .u8 0)).toArray 25)) from ⟨(Below.refl _ _).alloc (Nat.le_refl _) _, BT.of_cells (laid_at rfl) (fun i hi => zero_atL 32 i hi), h.go ((Below.refl _ _).alloc (Nat.le_refl _) _)⟩)
  obtain ⟨D, hD⟩ : ∃ D, D = drwG sd sm N := ⟨_, rfl⟩
  obtain ⟨s, hs⟩ : ∃ s, s = sha D (4 + sm + 8) := ⟨_, rfl⟩
  have HA1 := Lib.hid (show ∀ Z H, Below w.heap.size w Z → Z.heap[H]? = some (.cells #[.int .u8 100, .int .u8 114, .int .u8 97, .int .u8 119] 5 (4, 5)) → ∃ v' w', (Builtin.append_ #[22, 22] 22 #[.slice (some ⟨H, 0, none⟩) 4 4, .slice sp sm sc]).run Tryz.prog Z = .ok v' w' ∧ Below Z.heap.size Z w' ∧ DA Z.heap.size H sm D w' v' from fun Z H hZ hH => by
    rw [hD]; exact draw_app1 sd sm N sc sp w.heap.size H Z (hr.below hZ) hz (by omega) hH)
  have HA2 := Lib.hid (show ∀ Z base H q c8 v, DA base H sm D Z v → base ≤ Z.heap.size → Reads Z.heap.size Z q 8 (fun i => .int .u8 (ub (oct N i))) → ∃ v' w', (Builtin.append_ #[22, 22] 22 #[v, .slice q 8 c8]).run Tryz.prog Z = .ok v' w' ∧ Below base Z w' ∧ w'.ownsRow base 5 1 v' (4 + sm + 8) (cellsOf D (4 + sm + 8)) from fun Z base H q c8 v hd hb hq => by
    rw [hD] at hd ⊢; exact draw_app2 sd sm N base H Z.heap.size q c8 Z v hd hb (by omega) hq)
  have HCL := Lib.hid (show ∀ Z q c, Reads Z.heap.size Z q (4 + sm + 8) (fun i => .int .u8 (ub (D i))) → Calls Tryz.prog 46 #[.slice q (4 + sm + 8) c] Z fun e w' => e = .returned (tagV s) ∧ Below Z.heap.size Z w' from fun Z q c hq => by
    rw [hs]; exact refOf_any Z.heap.size Z q _ c D (Nat.le_refl _) (by omega) hq)
  have HN := Lib.hid hN
  rw [← hD, ← hs]
  clear h hs hD hr hz hN
  go_enter Tryz.func31, Tryz.ntmps31
  go_upto_region 1 with (fail)
  refine forget_code (RT4 w rb true (.slice sp sm sc) av b0 L (fun _ => 0#8)) HW.out ?_
  intro W hW
  clear HW
  have HW := Lib.hid hW
  clear hW
  obtain ⟨r0, r1, r2, fr, hrl⟩ := HW.out.rm.cells
  go_upto_region 2 with (fail)
  have kc := fun (W : World) => Lib.run_convert_bytes_const (P := Tryz.prog) W 22 5 #[.int .u8 100, .int .u8 114, .int .u8 97, .int .u8 119] 4 4 Tryz.underlying22 Tryz.underlying5
  simp only [List.size_toArray, List.length_cons, List.length_nil, World.size_alloc, Nat.zero_add, Nat.reduceAdd] at kc
  have r1' : (W.alloc (.cells #[.int .u8 100, .int .u8 114, .int .u8 97, .int .u8 119] 5 (4, 5))).cell? ⟨rb, 1, none⟩ = some (.slice sp sm sc) := Lib.cell?_alloc_marked _ r1
  have HBA := Lib.hid (show Below W.heap.size W (W.alloc (.cells #[.int .u8 100, .int .u8 114, .int .u8 97, .int .u8 119] 5 (4, 5))) from (Below.refl _ _).alloc (Nat.le_refl _) _)
  have HLA := Lib.hid (show (W.alloc (.cells #[.int .u8 100, .int .u8 114, .int .u8 97, .int .u8 119] 5 (4, 5))).heap[W.heap.size]? = some (.cells #[.int .u8 100, .int .u8 114, .int .u8 97, .int .u8 119] 5 (4, 5)) from laid_at rfl)
  have hbs : w.heap.size < (W.alloc (.cells #[.int .u8 100, .int .u8 114, .int .u8 97, .int .u8 119] 5 (4, 5))).heap.size := by rw [World.size_alloc]; have := HW.out.tg.lt; omega
  clear r0 r2 r1 fr
  go_wp2_with (at_builtin; (obtain ⟨v', w1, hrun, hb1, hda⟩ := HA1.out _ W.heap.size (HW.out.bel.trans (HBA.out.mono HW.out.bel.size)) HLA.out; refine Lib.wpList_append_run _ rfl _ _ _ _ rfl _ _ rfl rfl v' w1 hrun ?_))
  have hs0 : Below W.heap.size W w1 := HBA.out.trans (hb1.mono HBA.out.size)
  replace HW := Lib.hid (HW.out.go hs0)
  have HDA := Lib.hid hda
  have hz1 := hb1.size
  clear hrun hb1 hda HBA HLA HA1 kc r1'
  go_wp2_with fail
  refine (eight_any k N HN.out _).mono ?_
  rintro e w2 ⟨v8, rfl, hb2, ho2⟩
  obtain ⟨p8, c8, rfl, hr8, _, _⟩ := owns_reads ho2
  replace HW := Lib.hid (HW.out.go hb2)
  replace HDA := Lib.hid (HDA.out.go hb2)
  have hz2 := hb2.size
  have HR8 := Lib.hid hr8
  clear hb2 ho2 hr8
  go_wp2_with (at_builtin; (obtain ⟨v3, w3, hrun3, hb3, ho3⟩ := HA2.out w2 _ _ p8 c8 _ HDA.out (by omega) HR8.out; refine Lib.wpList_append_run _ rfl _ _ _ _ rfl _ _ rfl rfl v3 w3 hrun3 ?_))
  obtain ⟨p3, c3, rfl, hr3, _, _⟩ := owns_reads ho3
  have HT3 := Lib.hid (HW.out.tg.below hb3 hbs)
  have HB3 := Lib.hid (HW.out.bel.trans (hb3.mono (Nat.le_of_lt hbs)))
  have HR3 := Lib.hid hr3
  clear hrun3 hb3 ho3 hr3 HDA HA2 HR8
  go_wp2_with fail
  refine (HCL.out w3 p3 c3 HR3.out).mono ?_
  rintro e w14 ⟨rfl, hb14⟩
  have HT := Lib.hid (HT3.out.below' hb14)
  have HB := Lib.hid (HB3.out.trans (hb14.mono HB3.out.size))
  clear hb14
  dsimp only
  refine list_goT (by assumption) ?_
  refine wpList_store_mid rfl 25 _ _ rfl w.heap.size 0 (tagC s).toArray rfl rfl (by simpa [tagC_len] using HT.out.there 32 (Nat.le_refl _)) (by simp [infoTag, tagC_len]) (tagC_one _) ?_
  rw [List.toList_toArray]
  have HR5 := Lib.hid (World.rangeAt_setCells_same w14 w.heap.size 0 (tagC s) (by rw [tagC_len]; exact HT.out.there 32 (Nat.le_refl _)))
  have gs := gr_setCells (hb := w.heap.size) (tagC s) 0 w14
  have HB5 := Lib.hid (HB.out.grown gs HB.out.size (by rintro q ⟨⟩; exact Nat.le_refl _))
  generalize w14.setCells w.heap.size 0 (tagC s) = W7 at HR5 HB5 ⊢
  clear gs
  show Exit.then _ _ Exit.normal _ W7
  go_wp2
  refine bodyPost_ret (v := tagV s) ?_ rfl ?_
  · exact results_cell_mid (p := 4) (ty := 25) rfl _ W7 w.heap.size _ _ rfl HR5.out Tryz.underlying25 rfl (by simp [infoTag, tagC_len])
  · exact ⟨rfl, HB5.out⟩
end Go.Proofs.YtejknkgbkkdaiaaGreatDoor
