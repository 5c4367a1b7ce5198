/-
  Merged: Mx, Di, Rb.
-/
import Derived.Test.YtkncfeijlmomaaaGreatDoorG18
import Derived.Test.YtkncfeijlmomaaaGreatDoorG8
import Derived.Test.YtkncfeijlmomaaaGreatDoorG3
import Derived.Test.YtkncfeijlmomaaaGreatDoorG14
import Derived.Test.YtkncfeijlmomaaaGreatDoorG1

namespace Go.Proofs.YtkncfeijlmomaaaGreatDoor
open Go.RowKit Go.Sort
set_option linter.unusedSimpArgs false
set_option linter.unusedVariables false
set_option maxRecDepth 20000

end Go.Proofs.YtkncfeijlmomaaaGreatDoor

namespace Go.Proofs.YtkncfeijlmomaaaGreatDoor
open Go.RowKit Go.Sort
set_option linter.unusedSimpArgs false
set_option linter.unusedVariables false
set_option maxRecDepth 20000
attribute [local go_sem] Oper.semAt_some

theorem results_cell_bool {P : Program} {fn : Func} {p : Tmp} {ty : TypeId} (h : fn.results = #[.cell p ty]) (tmps : Array Value) (w : World) (g : Nat) (b : Bool) (hp : tmps.getD p undef = .pointer (some ⟨g, 0, none⟩)) (hc : w.cell? ⟨g, 0, none⟩ = some (.bool b)) (hu : P.underlying ty = some .bool) :
    (results fn tmps).run P w = .ok (.bool b) w := by
  have hp' : tmps[p]?.getD undef = .pointer (some ⟨g, 0, none⟩) := by simpa using hp
  simp [results, h, hp', asAddr, loadVar, isAgg, run_underlying hu, hc, go_sem]
/-- do a side's pieces attack one of the squares -/
def isAt (P : Nat → Int) (d : Int) (f : Nat → Int) (n : Nat) : Bool := (List.range n).any fun i => !(atkL P (f i) d).isEmpty
theorem isAt_hit {P : Nat → Int} {d : Int} {f : Nat → Int} {n i : Nat} (hi : i < n) (h : atkL P (f i) d ≠ []) : isAt P d f n = true := by
  unfold isAt
  refine List.any_eq_true.2 ⟨i, List.mem_range.2 hi, ?_⟩
  cases hl : atkL P (f i) d with
  | nil => exact absurd hl h
  | cons _ _ => rfl
theorem isAt_miss {P : Nat → Int} {d : Int} {f : Nat → Int} {n : Nat} (h : ∀ i, i < n → atkL P (f i) d = []) : isAt P d f n = false := by
  unfold isAt
  refine List.any_eq_false.2 fun i hi => ?_
  rw [h i (List.mem_range.1 hi)]
  simp
/-- what stands in the loop -/
structure IsI (w : World) (fb : Nat) (P : Nat → Int) (b : Bool) (Ds : List Nat) (W : World) : Prop where
  below : Below w.heap.size w W
  p : PB W fb P
  r : W.heap[w.heap.size + 1]? = some (.cells #[.bool b] 4 (0, 0))
  ds : ∀ D ∈ Ds, W.heap[D]? = some (.deferred (some [])) ∧ w.heap.size + 1 < D
theorem IsI.go {w : World} {fb : Nat} {P : Nat → Int} {b : Bool} {Ds : List Nat} {A B : World} (h : IsI w fb P b Ds A) (g : Below A.heap.size A B) : IsI w fb P b Ds B :=
  ⟨h.below.trans (g.mono h.below.size), h.p.go g, sl_go h.r g, fun D hD => ⟨(g.block D (Array.getElem?_eq_some_iff.1 (h.ds D hD).1).1).trans (h.ds D hD).1, (h.ds D hD).2⟩⟩
theorem IsI.spare {w : World} {fb n : Nat} {P : Nat → Int} {b : Bool} {Ds : List Nat} {X : Nat → Prop} {A B : World} (h : IsI w fb P b Ds A) (hf : fb < n) (hr : w.heap.size + 1 < n) (hd : ∀ D ∈ Ds, D < n) (g : Spares n X A B) : IsI w fb P b Ds B :=
  ⟨h.below.trans (g.below h.below.size (by omega)), h.p.same g.size (g.block _ h.p.lt (.inl hf)), (g.block _ (al_lt h.r) (.inl hr)).trans h.r, fun D hD => ⟨(g.block D (Array.getElem?_eq_some_iff.1 (h.ds D hD).1).1 (.inl (hd D hD))).trans (h.ds D hD).1, (h.ds D hD).2⟩⟩
def idxAt (a : Act) : Nat := (intOf (a.tmps.getD 14 undef)).toNat
set_option maxHeartbeats 4000000 in
set_option maxRecDepth 100000 in
theorem isA_any (B : Nat) (P : Nat → Int) (d : Int) (p : Option Addr) (n c : Nat) (f : Nat → Int) (w : World) (hn : n ≤ 1000000) (hr : Reads B w p n (fun i => .int .i64 (f i))) (hg : GS B w) (hB : B ≤ w.heap.size) :
    Calls Tryz.prog 126 #[.agg (pc P).toArray, .int .i64 d, .slice p n c] w fun e w' => e = .returned (.bool (isAt P d f n)) ∧ Below w.heap.size w w' := by
  obtain ⟨X, hX⟩ : ∃ X, X = (pc P).toArray := ⟨_, rfl⟩
  rw [← hX]
  have HP0' := Lib.hid (pos_box P w X hX 29)
  have HG := Lib.hid hg
  have HRD := Lib.hid hr
  have HX := Lib.hid hX
  have hsz : X.size = 133 := by rw [hX, pc_size]
  have hfold := fold_fin X hsz
  have HBW' := Lib.hid (below_new (w := w) (.cells X 29))
  clear hX hg hr
  refine calls_of_marks Tryz.func126 rfl ?_
  simp only [Tryz.ntmps126, List.size_toArray, List.length_cons, List.length_nil, Nat.reduceAdd, Nat.reduceSub, Array.replicate_succ, Array.replicate_zero, List.push_toArray, List.append_toArray, List.nil_append, List.cons_append]
  go_upto_region 1 with (fail)
  have HBW := Lib.hid (HBW'.out.alloc (by simp) (.cells #[.bool false] 4))
  have HP0 := Lib.hid (HP0'.out.alloc (.cells #[.bool false] 4))
  have HRC := Lib.hid (sl_at (W := w.alloc (.cells X 29)) (o := .cells #[.bool false] 4) (H := w.heap.size + 1) (by simp))
  have HZ := Lib.hid (show ((w.alloc (.cells X 29)).alloc (.cells #[.bool false] 4)).heap.size = w.heap.size + 2 by simp)
  clear HBW' HP0'
  generalize (w.alloc (.cells X 29)).alloc (.cells #[.bool false] 4) = W0 at *
  refine wp_region_lit ?_
  refine wpList_pos (by rfl) _ (by rfl) w.heap.size P X HX.out (by rfl) HP0.out ?_
  refine wpList_plain rfl (fun K hK => ?_)
  go_simp
  refine hK _ _ ?_
  clear hK K
  clear hfold
  refine wpList_plain rfl (fun K hK => ?_)
  go_simp
  refine hK _ _ ?_
  clear hK K
  have hpn : PB (W0.alloc (.cells Tryz.zeroCells166 166)) W0.heap.size (fun _ => 0) := by rw [zeroFin]; exact PB.new rfl
  refine wpList_store_mid rfl 166 _ _ rfl W0.heap.size 0 X rfl rfl (by rw [hsz]; exact hpn.there) (by rw [infoFin, hsz]) (by rw [HX.out]; exact pc_one P) ?_
  refine forgetL_B (fun W => PB W W0.heap.size P ∧ Below W0.heap.size W0 W) (by
    rw [HX.out, List.toList_toArray]
    exact ⟨hpn.store (Q := P), below_store (b := W0.heap.size) P (below_new _) (Nat.le_refl _) (by simp)⟩) ?_
  rintro W ⟨hp, hb⟩
  have HP := Lib.hid hp
  have HB := Lib.hid (HBW.out.trans (hb.mono HBW.out.size))
  have HBS := Lib.hid (show W0.heap.size < W.heap.size from hp.lt)
  have hb0 := hb
  clear hp hb hpn HP0 hsz
  have HRW := Lib.hid (sl_go HRC.out hb0)
  clear hb0
  obtain ⟨fb, hfb⟩ : ∃ f, W0.heap.size = f := ⟨_, rfl⟩
  rw [hfb] at HP HBS HZ
  simp only [hfb]
  show Exit.then _ _ Exit.normal _ _
  have HI0 := Lib.hid (show IsI w fb P false [] W from ⟨HB.out, HP.out, HRW.out, fun D hD => by cases hD⟩)
  have HF2 := Lib.hid (show w.heap.size + 1 < fb by have := HZ.out; omega)
  clear HP HRC HRW HB
  go_wp2
  refine wp_loop (fun a wr => ∃ (i : Nat) (Ds : List Nat) (u9 u15 u16 u17 u18 u19 u20 u21 u22 : Value), i ≤ n ∧ Ds.Nodup ∧ a = { tmps := #[.agg X, .int .i64 d, .slice p n c, .pointer (some ⟨w.heap.size, 0, none⟩), undef, undef, .pointer (some ⟨w.heap.size + 1, 0, none⟩), .pointer (some ⟨fb, 0, none⟩), undef, u9, .agg X, .agg X, .slice p n c, .int .i64 n, .int .i64 (i : Int), u15, u16, u17, u18, u19, u20, u21, u22], defers := Ds.map markOf } ∧ IsI w fb P false Ds wr ∧ ∀ j, j < i → atkL P (f j) d = [])
    (fun a _ => n - idxAt a) ?start ?round
  case start => exact ⟨0, [], undef, undef, undef, undef, undef, undef, undef, undef, undef, Nat.zero_le _, List.nodup_nil, rfl, HI0.out, fun j hj => by omega⟩
  case round =>
    clear HI0
    rintro a wr ⟨i, Ds, u9, u15, u16, u17, u18, u19, u20, u21, u22, hi, hnd, rfl, hst, hall⟩
    have HS := Lib.hid hst
    have HND := Lib.hid hnd
    have HALL := Lib.hid hall
    clear hst hnd hall
    have hmu : idxAt { tmps := #[.agg X, .int .i64 d, .slice p n c, .pointer (some ⟨w.heap.size, 0, none⟩), undef, undef, .pointer (some ⟨w.heap.size + 1, 0, none⟩), .pointer (some ⟨fb, 0, none⟩), undef, u9, .agg X, .agg X, .slice p n c, .int .i64 n, .int .i64 (i : Int), u15, u16, u17, u18, u19, u20, u21, u22], defers := Ds.map markOf } = i := by simp [idxAt, intOf]
    have HMU := Lib.hid hmu
    clear hmu
    by_cases hlt : i < n
    · have hrd := HRD.out.below (HS.out.below.mono hB)
      rcases hrd with h0 | ⟨b, off, rfl, hbb, hc⟩
      · omega
      have e0 : wr.cell? ⟨b, off + i, none⟩ = some (.int .i64 (f i)) := hc i hlt
      obtain ⟨s, hs⟩ : ∃ s, f i = s := ⟨_, rfl⟩
      rw [hs] at e0
      have HSF := Lib.hid hs
      clear hs hc
      have HGW := Lib.hid ((HG.out.below (HS.out.below.mono hB)).mono (Nat.le_trans hB HS.out.below.size))
      go_wp2_with fail
      refine (made_atk fb P s d wr HS.out.p HGW.out).mono ?_
      rintro e w2 ⟨lb, N, rfl, hb2, hc, hN⟩
      have HS2 := Lib.hid (HS.out.go hb2)
      have HRN := Lib.hid (show ∀ k, k = w.heap.size + 1 → ¬ N k from fun k hk hn => by
        rcases hN k hn with h1 | h1 | h1
        · have := HF2.out; omega
        · have := al_lt HS.out.r; omega
        · have h2 := HG.out.lt
          rw [← h1, hk] at h2
          omega)
      have HD2 := Lib.hid (fun D hD => Nat.lt_of_lt_of_le (Array.getElem?_eq_some_iff.1 (HS.out.ds D hD).1).1 hb2.size)
      have HC := Lib.hid hc
      clear hb2 hc hN HS HGW e0
      go_wp2
      refine wp_range_over (gf := 176) (lb := lb) rfl (enters_of Tryz.func176 (by kernel_rfl) rfl) HC.out (Below.refl _ _) rfl
        (fun pre Z W => pre = [] ∧ IsI w fb P false Ds W ∧ ∀ k, Z k ↔ k = w.heap.size + 1)
        (fun c pre Z W => c = .ret ∧ pre ≠ [] ∧ IsI w fb P true Ds W ∧ ∀ k, Z k ↔ k = w.heap.size + 1)
        (fun pi Z A B h hs => ⟨h.1, h.2.1.spare HS2.out.p.lt (al_lt HS2.out.r) HD2.out hs, h.2.2⟩)
        (fun c pi Z A B h hs => ⟨h.1, h.2.1, h.2.2.1.spare HS2.out.p.lt (al_lt HS2.out.r) HD2.out hs, h.2.2.2⟩)
        (fun pi Z A h k hk => by rw [h.2.2 k] at hk; rw [hk]; exact al_lt h.2.1.r) (X0 := fun k => k = w.heap.size + 1) ⟨rfl, HS2.out, fun _ => Iff.rfl⟩ HRN.out
        (fun x => { tmps := #[.agg X, .int .i64 d, .slice (some ⟨b, off, none⟩) n c, .pointer (some ⟨w.heap.size, 0, none⟩), undef, undef, .pointer (some ⟨w.heap.size + 1, 0, none⟩), .pointer (some ⟨fb, 0, none⟩), undef, .int .i64 s, .agg X, .agg X, .slice (some ⟨b, off, none⟩) n c, .int .i64 n, .int .i64 (i : Int), .bool true, .pointer (some ⟨b, off + i, none⟩), .int .i64 s, .int .i64 s, .int .i64 d, .func (.func 176) #[] lb, .int .i64 x, u22], defers := [] }) ?assign ?body ?done ?stop
      case assign =>
        intro l' x W' K hK
        refine wpIn_skip ?_
        show K _ W'
        simpa using hK
      case body =>
        rintro l' pi x Z W' ⟨rfl, hst, hz⟩ hpre hzw
        have HSB := Lib.hid hst
        obtain ⟨r0, rf, _⟩ := row1 hst.r
        have rf0 := rf 0
        clear hst
        gi_wp2
        refine ⟨Z, ⟨rfl, rfl, rfl, by rw [World.size_setCell]; exact Nat.le_refl _, fun k hk hx => Below.heap_setCell _ _ _ k (fun e => hx ((hz k).2 e))⟩, fun q hq => .inl hq, rfl, by simp, ⟨?_, ?_, ?_, ?_⟩, hz⟩
        · exact HSB.out.below.setCell (p := ⟨w.heap.size + 1, 0, none⟩) (by simp) _
        · exact HSB.out.p.other (by have := HF2.out; omega) _ _
        · exact Go.heap_setCell_same W' (w.heap.size + 1) 0 _ _ _ HSB.out.r
        · intro D hD
          have h1 := HSB.out.ds D hD
          exact ⟨(Below.heap_setCell _ _ _ D (by simp; omega)).trans h1.1, h1.2⟩
      case done =>
        rintro Y2 B2 ⟨hnil, hst, hz⟩ hd hny _
        have HSB := Lib.hid (show IsI w fb P false (w2.heap.size :: Ds) B2 from ⟨hst.below, hst.p, hst.r, fun D hD => by
          rcases List.mem_cons.1 hD with rfl | hD
          · exact ⟨hd, al_lt HS2.out.r⟩
          · exact hst.ds D hD⟩)
        have HND2 := Lib.hid (show (w2.heap.size :: Ds).Nodup from List.nodup_cons.2 ⟨fun hm => by have := HD2.out _ hm; omega, HND.out⟩)
        have HNIL := Lib.hid (show ∀ j, j < i + 1 → atkL P (f j) d = [] from fun j hj => by
          rcases (show j < i ∨ j = i by omega) with h | rfl
          · exact HALL.out j h
          · rw [HSF.out]; exact hnil)
        clear hst hd hny hz HC hnil
        go_wp2
        refine ⟨⟨i + 1, w2.heap.size :: Ds, .int .i64 s, .bool true, .pointer (some ⟨b, off + i, none⟩), .int .i64 s, .int .i64 s, .int .i64 d, .func (.func 176) #[] lb, u21, .int .i64 ((i : Int) + 1), by omega, HND2.out, by go_num, HSB.out, HNIL.out⟩, ?_⟩
        rw [HMU.out]
        simp [idxAt, intOf]
        omega
      case stop =>
        rintro c pi Y2 B2 hpre ⟨rfl, hne, hst, hz⟩ hd hny _
        have HSB := Lib.hid hst
        have HD9 := Lib.hid hd
        have HND2 := Lib.hid (show (w2.heap.size :: Ds).Nodup from List.nodup_cons.2 ⟨fun hm => by have := HD2.out _ hm; omega, HND.out⟩)
        have HT := Lib.hid (show isAt P d f n = true from isAt_hit hlt (by rw [HSF.out]; intro h0; rw [h0] at hpre; exact hne (List.eq_nil_of_prefix_nil hpre)))
        clear hst hd hny hz HC hpre hne
        go_wp2
        refine leaves_marks (T := fun W' => Below w.heap.size w W' ∧ W'.heap[w.heap.size + 1]? = some (.cells #[.bool true] 4 (0, 0))) (G := fun D => w.heap.size + 1 < D) (fun D W' hg hj hw => ⟨?_, ?_⟩) (fun W' hj => ⟨.bool true, results_cell_bool (p := 6) (ty := 4) rfl _ _ (w.heap.size + 1) true rfl (row1 hj.2).1 Tryz.underlying4, by rw [HT.out], hj.1⟩) (w2.heap.size :: Ds) _ HND2.out (fun D hD => ?_) ⟨HSB.out.below, HSB.out.r⟩
        · exact ⟨hj.1.os, hj.1.tape, hj.1.output, by simpa using hj.1.size, fun k hk => (World.putObj_heap_other (by omega)).trans (hj.1.block k hk)⟩
        · exact (World.putObj_heap_other (by omega)).trans hj.2
        · rcases List.mem_cons.1 hD with rfl | hD
          · exact ⟨HD9.out, al_lt HS2.out.r⟩
          · exact HSB.out.ds D hD
    · obtain rfl : i = n := by omega
      obtain ⟨r0, rf, _⟩ := row1 HS.out.r
      have rf0 := rf 0
      have HT := Lib.hid (isAt_miss HALL.out)
      go_wp2
      refine leaves_marks (T := fun W' => Below w.heap.size w W' ∧ W'.heap[w.heap.size + 1]? = some (.cells #[.bool false] 4 (0, 0))) (G := fun D => w.heap.size + 1 < D) (fun D W' hg hj hw => ⟨?_, ?_⟩) (fun W' hj => ⟨.bool false, results_cell_bool (p := 6) (ty := 4) rfl _ _ (w.heap.size + 1) false rfl (row1 hj.2).1 Tryz.underlying4, by rw [HT.out], hj.1⟩) Ds _ HND.out (fun D hD => ?_) ⟨?_, ?_⟩
      · exact ⟨hj.1.os, hj.1.tape, hj.1.output, by simpa using hj.1.size, fun k hk => (World.putObj_heap_other (by omega)).trans (hj.1.block k hk)⟩
      · exact (World.putObj_heap_other (by omega)).trans hj.2
      · have h1 := HS.out.ds D hD
        exact ⟨(Below.heap_setCell _ _ _ D (by simp; omega)).trans h1.1, h1.2⟩
      · exact HS.out.below.setCell (p := ⟨w.heap.size + 1, 0, none⟩) (by simp) _
      · exact Go.heap_setCell_same wr (w.heap.size + 1) 0 _ _ _ HS.out.r
def getI (l : List Int) (i : Nat) : Int := l.getD i 0
def chkB (P : Nat → Int) (d : Int) : Bool := sideB d && isAt P (oth d) (getI (fnd P 6 d 64)) (fnd P 6 d 64).length
set_option maxHeartbeats 2000000 in
set_option maxRecDepth 100000 in
theorem chk_any (P : Nat → Int) (d : Int) (w : World) (B : Nat) (hg : GS B w) (hB : B ≤ w.heap.size) :
    Calls Tryz.prog 95 #[.agg (pc P).toArray, .int .i64 d] w fun e w' => e = .returned (.bool (chkB P d)) ∧ Below w.heap.size w w' := by
  obtain ⟨X, hX⟩ : ∃ X, X = (pc P).toArray := ⟨_, rfl⟩
  have HF := Lib.hid (fun W => find_any P 6 d W)
  have HI := Lib.hid (fun W p n c f hn hr hg hB => isA_any W.heap.size P (oth d) p n c f W hn hr hg hB)
  rw [← hX] at HF HI ⊢
  have HP0 := Lib.hid (pos_box P w X hX 29)
  have HG := Lib.hid hg
  have HX := Lib.hid hX
  have HBW := Lib.hid (below_new (w := w) (.cells X 29))
  have HFL := Lib.hid (fnd_len P 6 d 64)
  clear hX hg
  go_enter Tryz.func95, Tryz.ntmps95
  go_upto_region 1 with (fail)
  generalize w.alloc (.cells X 29) = W0 at *
  go_wp2_with fail
  refine (aSide_any d _).mono ?_
  cases hs : sideB d
  · have HC := Lib.hid (show chkB P d = false by unfold chkB; rw [hs, Bool.false_and])
    clear hs
    rintro e w1 ⟨rfl, rfl⟩
    go_wp2
    go_ret
    exact ⟨by rw [HC.out]; rfl, HBW.out⟩
  · have HC := Lib.hid (show chkB P d = isAt P (oth d) (getI (fnd P 6 d 64)) (fnd P 6 d 64).length by unfold chkB; rw [hs, Bool.true_and])
    clear hs
    rintro e w1 ⟨rfl, rfl⟩
    go_upto_region 3 with (fail)
    refine wp_region_lit ?_
    refine wpList_pos (by rfl) _ (by rfl) w.heap.size P X HX.out (by rfl) HP0.out ?_
    go_wp2_with fail
    refine (HF.out _).mono ?_
    rintro e w2 ⟨v, rfl, hb2, hown⟩
    rw [ivals_range] at hown
    obtain ⟨p1, c1, rfl, hr1, _⟩ := sq_reads hown
    have HP2 := Lib.hid (HP0.out.go hb2)
    have HB2 := Lib.hid (HBW.out.trans (hb2.mono HBW.out.size))
    generalize hL : fnd P 6 d 64 = L at *
    obtain ⟨n, hn⟩ : ∃ n, L.length = n := ⟨_, rfl⟩
    rw [hn] at HFL hr1 HC ⊢
    have HRD := Lib.hid hr1
    have HGW := Lib.hid ((HG.out.below (HB2.out.mono hB)).mono (Nat.le_trans hB HB2.out.size))
    clear hb2 hown hr1 hL hn HF
    go_upto_region 4 with (fail)
    have c15 := regrown_same (w := w2) (fun W => other_any d W)
    have c17 : ∀ dd os, Calls Tryz.prog 126 #[.agg X, .int .i64 (oth d), .slice p1 n c1] (grow (redrawn w2 dd) os) fun e w'' => e = .returned (.bool (isAt P (oth d) (getI L) n)) ∧ ∃ p : Regrown, w'' = grow (redrawn w2 p.d) p.os := fun dd os =>
      Calls.regrown_of (HI.out _ p1 n c1 (getI L) (by have := HFL.out; omega) ((HRD.out.below (below_regrown w2 dd os)).mono (below_regrown w2 dd os).size) ((HGW.out.below (below_regrown w2 dd os)).mono (below_regrown w2 dd os).size) (Nat.le_refl _))
    have HCP := Lib.hid HP2.out.regrown
    clear HI HRD HGW HG
    refine wp_region_quiet_below (by kernel_rfl) (by kernel_rfl) ?_
    refine wpQuiet_pos (by rfl) _ (by rfl) w.heap.size P X HX.out (by rfl) HCP.out ?_
    try simp only [aP, sA, sZ, sS]
    iterate 1 (go_big_quiet_step (fail))
    go_big_quiet_step (exact c15 _ _)
    iterate 1 (go_big_quiet_step (fail))
    go_big_quiet_step (exact c17 _ _)
    iterate 1 (go_big_quiet_step (fail))
    refine wpQuiet_nil ?_
    rintro w4 ⟨q, rfl⟩
    have HB4 := Lib.hid (HB2.out.trans ((below_regrown w2 q.d q.os).mono HB2.out.size))
    clear c15 c17 HCP HP2 HP0
    generalize grow (redrawn w2 q.d) q.os = w4 at *
    go_wp2
    go_ret
    exact ⟨by rw [HC.out]; rfl, HB4.out⟩
end Go.Proofs.YtkncfeijlmomaaaGreatDoor

namespace Go.Proofs.YtkncfeijlmomaaaGreatDoor
open Go.RowKit Go.Sort
set_option linter.unusedSimpArgs false
set_option linter.unusedVariables false
set_option maxRecDepth 20000

/-- a position may be played on -/
def posB (P : Nat → Int) : Bool := rightB P && !chkB P (oth (P 128))
/-- a move, one as pieces go, is a castling -/
def cstM (P : Nat → Int) (s n : Nat) : Bool := (P (s * 2) == 6) && (((n : Int) == (s : Int) + 2) || ((n : Int) == (s : Int) - 2))
/-- the squares of a castling's king that are not attacked -/
def wayF (f b : Int) (i : Nat) : Int := if i = 0 then f else b
def freeB (P : Nat → Int) (s n : Nat) : Bool := !isAt P (oth (P 128)) (wayF (s : Int) (((s : Int) + (n : Int)) / 2)) 2
theorem way_reads (V : World) (f b : Int) : Reads (V.alloc (.cells #[.int .i64 f, .int .i64 b] 3)).heap.size (V.alloc (.cells #[.int .i64 f, .int .i64 b] 3)) (some ⟨V.heap.size, 0, none⟩) 2 (fun i => .int .i64 (wayF f b i)) := by
  refine .inr ⟨V.heap.size, 0, rfl, by simp, fun i hi => ?_⟩
  have h : (V.alloc (.cells #[.int .i64 f, .int .i64 b] 3)).heap[V.heap.size]? = some (.cells #[.int .i64 f, .int .i64 b] 3 (0, 0)) := sl_at rfl
  obtain ⟨q1, q2, _, _⟩ := row2 h
  rcases (show i = 0 ∨ i = 1 by omega) with rfl | rfl
  · exact q1
  · exact q2
/-- what stands in a judge's calls -/
structure JQ (B b : Nat) (P : Nat → Int) (w W : World) : Prop where
  p : PB W b P
  gb : GB B W
  gs : GS B W
  gm : GM B W
  gp : GP B W
  bel : Below w.heap.size w W
  k : B ≤ w.heap.size
theorem JQ.s {B b : Nat} {P : Nat → Int} {w W : World} (h : JQ B b P w W) : B ≤ W.heap.size := Nat.le_trans h.k h.bel.size
theorem JQ.go {B b : Nat} {P : Nat → Int} {w W W' : World} (h : JQ B b P w W) (g : Below W.heap.size W W') : JQ B b P w W' :=
  ⟨h.p.go g, h.gb.below (g.mono h.s), h.gs.below (g.mono h.s), h.gm.below (g.mono h.s), h.gp.below (g.mono h.s), h.bel.trans (g.mono h.bel.size), h.k⟩
theorem JQ.begin {B b : Nat} {P : Nat → Int} {w : World} (hp : PB w b P) (hb : GB B w) (hs : GS B w) (hm : GM B w) (hg : GP B w) (hB : B ≤ w.heap.size) : JQ B b P w w := ⟨hp, hb, hs, hm, hg, Below.refl _ _, hB⟩
theorem JQ.anew {B b : Nat} {P : Nat → Int} {w W : World} (h : JQ B b P w W) : JQ B b P W W := ⟨h.p, h.gb, h.gs, h.gm, h.gp, Below.refl _ _, h.s⟩
set_option maxHeartbeats 2000000 in
set_option maxRecDepth 100000 in
theorem jPos_any (B b : Nat) (P : Nat → Int) (w : World) (h : JQ B b P w w) :
    Calls Tryz.prog 53 #[.pointer (some ⟨b, 0, none⟩)] w fun e w' => e = .returned (.bool (posB P)) ∧ Below w.heap.size w w' := by
  obtain ⟨X, hX⟩ : ∃ X, X = (pc P).toArray := ⟨_, rfl⟩
  have HI := Lib.hid h
  obtain ⟨rb, hrb⟩ : ∃ x, rightB P = x := ⟨_, rfl⟩
  obtain ⟨ch, hch⟩ : ∃ x, chkB P (oth (P 128)) = x := ⟨_, rfl⟩
  obtain ⟨sd, hsd⟩ : ∃ x, P 128 = x := ⟨_, rfl⟩
  obtain ⟨od, hod⟩ : ∃ x, oth sd = x := ⟨_, rfl⟩
  have HV := Lib.hid (show posB P = (rb && !ch) by unfold posB; rw [hrb, hch])
  rw [hsd, hod] at hch
  have c4 : ∀ dd os, Calls Tryz.prog 94 #[.agg X] (grow (redrawn w dd) os) fun e w'' => e = .returned (.bool rb) ∧ ∃ p : Regrown, w'' = grow (redrawn w p.d) p.os := fun dd os => by
    subst hX; subst hrb
    exact Calls.regrown_of (right_any P _ B (HI.out.go (below_regrown w dd os)).gb (HI.out.go (below_regrown w dd os)).s)
  have c15 := regrown_same (w := w) (fun W => other_any sd W)
  rw [hod] at c15
  have c16 : ∀ dd os, Calls Tryz.prog 95 #[.agg X, .int .i64 od] (grow (redrawn w dd) os) fun e w'' => e = .returned (.bool ch) ∧ ∃ p : Regrown, w'' = grow (redrawn w p.d) p.os := fun dd os => by
    subst hX; subst hch
    exact Calls.regrown_of (chk_any P od _ B (HI.out.go (below_regrown w dd os)).gs (HI.out.go (below_regrown w dd os)).s)
  have e1 := cell_regrown (HI.out.p.cell 128 (by omega))
  rw [hsd] at e1
  have HCP := Lib.hid HI.out.p.regrown
  have HX := Lib.hid hX
  clear hX h hrb hch hsd hod
  go_enter Tryz.func53, Tryz.ntmps53
  go_upto_region 1 with (fail)
  cases rb
  · refine wp_region_quiet_below (by kernel_rfl) (by kernel_rfl) ?_
    iterate 3 (go_big_quiet_step (fail))
    refine wpQuiet_pos (by rfl) _ (by rfl) b P X HX.out (by rfl) HCP.out ?_
    try simp only [aP, sA, sZ, sS]
    go_big_quiet_step (exact c4 _ _)
    repeat (go_big_quiet_step (fail))
    refine wpQuiet_nil ?_
    rintro W9 ⟨pq, rfl⟩
    have HB := Lib.hid (below_regrown w pq.d pq.os)
    generalize grow (redrawn w pq.d) pq.os = W9 at HB ⊢
    go_wp2
    go_ret
    exact ⟨q_b (by rw [HV.out]; rfl), HB.out⟩
  · refine wp_region_quiet_below (by kernel_rfl) (by kernel_rfl) ?_
    iterate 3 (go_big_quiet_step (fail))
    refine wpQuiet_pos (by rfl) _ (by rfl) b P X HX.out (by rfl) HCP.out ?_
    try simp only [aP, sA, sZ, sS]
    go_big_quiet_step (exact c4 _ _)
    iterate 4 (go_big_quiet_step (fail))
    refine wpQuiet_pos (by rfl) _ (by rfl) b P X HX.out (by rfl) HCP.out ?_
    try simp only [aP, sA, sZ, sS]
    iterate 5 (go_big_quiet_step (fail))
    go_big_quiet_step (exact c15 _ _)
    go_big_quiet_step (exact c16 _ _)
    repeat (go_big_quiet_step (fail))
    refine wpQuiet_nil ?_
    rintro W9 ⟨pq, rfl⟩
    have HB := Lib.hid (below_regrown w pq.d pq.os)
    generalize grow (redrawn w pq.d) pq.os = W9 at HB ⊢
    go_wp2
    go_ret
    exact ⟨q_b (by rw [HV.out]; simp), HB.out⟩
set_option maxHeartbeats 2000000 in
set_option maxRecDepth 100000 in
theorem jCst_any (b : Nat) (P : Nat → Int) (s n : Nat) (k : Int) (hs : s < 64) (hn : n < 64) (w : World) (hp : PB w b P) :
    Calls Tryz.prog 135 #[.pointer (some ⟨b, 0, none⟩), .agg #[.int .i64 (s : Int), .int .i64 (n : Int), .int .i64 k]] w fun e w' => e = .returned (.bool (cstM P s n)) ∧ Below w.heap.size w w' := by
  have HP := Lib.hid (hp.go (below_new (w := w) (.cells #[.int .i64 (s : Int), .int .i64 (n : Int), .int .i64 k] 46)))
  have HM := Lib.hid (show (w.alloc (.cells #[.int .i64 (s : Int), .int .i64 (n : Int), .int .i64 k] 46)).heap[w.heap.size]? = some (.cells #[.int .i64 (s : Int), .int .i64 (n : Int), .int .i64 k] 46 (0, 0)) from sl_at rfl)
  have HB := Lib.hid (below_new (w := w) (.cells #[.int .i64 (s : Int), .int .i64 (n : Int), .int .i64 k] 46))
  have s0 : (0 : Int) ≤ s := by omega
  have s1 : (s : Int) < 64 := by omega
  have hw1 : IntKind.i64.wrap ((s : Int) + 2) = (s : Int) + 2 := IntWalk.i64_in _ (by omega)
  have hw2 : IntKind.i64.wrap ((s : Int) - 2) = (s : Int) - 2 := IntWalk.i64_in _ (by omega)
  obtain ⟨kk, hkk⟩ : ∃ x, P (s * 2) = x := ⟨_, rfl⟩
  have HV := Lib.hid (show cstM P s n = ((kk == 6) && (((n : Int) == (s : Int) + 2) || ((n : Int) == (s : Int) - 2))) by unfold cstM; rw [hkk])
  have e1 := HP.out.cell (s * 2) (by omega)
  rw [hkk] at e1
  obtain ⟨m0, m1, m2, mf, mz⟩ := row3 HM.out
  clear hp hkk hn hs
  go_enter Tryz.func135, Tryz.ntmps135
  go_upto_region 1 with (fail)
  generalize w.alloc (.cells #[.int .i64 (s : Int), .int .i64 (n : Int), .int .i64 k] 46) = W at *
  generalize w.heap.size = mb at m0 m1 m2 mf mz HM ⊢
  replace m0 := cell_regrown m0
  replace m1 := cell_regrown m1
  replace e1 := cell_regrown e1
  clear m2 mf mz HM HP
  have FIN : ∀ (v : Bool) (pq : Regrown), v = cstM P s n → True := fun _ _ _ => trivial
  clear FIN
  by_cases h6 : kk = 6
  · subst h6
    by_cases h2 : (n : Int) = (s : Int) + 2
    · have h2b : ((n : Int) == (s : Int) + 2) = true := by simpa using h2
      rw [h2b] at HV
      clear h2
      refine wp_region_quiet_below (by kernel_rfl) (by kernel_rfl) ?_
      repeat (go_big_quiet_step (fail))
      refine wpQuiet_nil ?_
      rintro W9 ⟨pq, rfl⟩
      have HB9 := Lib.hid (HB.out.trans ((below_regrown W pq.d pq.os).mono HB.out.size))
      generalize grow (redrawn W pq.d) pq.os = W9 at HB9 ⊢
      go_wp2
      go_ret
      exact ⟨q_b (by rw [HV.out]; rfl), HB9.out⟩
    · have h2b : ((n : Int) == (s : Int) + 2) = false := by simpa using h2
      rw [h2b] at HV
      clear h2
      refine wp_region_quiet_below (by kernel_rfl) (by kernel_rfl) ?_
      repeat (go_big_quiet_step (fail))
      refine wpQuiet_nil ?_
      rintro W9 ⟨pq, rfl⟩
      have HB9 := Lib.hid (HB.out.trans ((below_regrown W pq.d pq.os).mono HB.out.size))
      generalize grow (redrawn W pq.d) pq.os = W9 at HB9 ⊢
      go_wp2
      go_ret
      exact ⟨q_b (by rw [HV.out]; simp), HB9.out⟩
  · have h6b : (kk == 6) = false := by simp [h6]
    rw [h6b] at HV
    clear h6
    refine wp_region_quiet_below (by kernel_rfl) (by kernel_rfl) ?_
    repeat (go_big_quiet_step (fail))
    refine wpQuiet_nil ?_
    rintro W9 ⟨pq, rfl⟩
    have HB9 := Lib.hid (HB.out.trans ((below_regrown W pq.d pq.os).mono HB.out.size))
    generalize grow (redrawn W pq.d) pq.os = W9 at HB9 ⊢
    go_wp2
    go_ret
    exact ⟨q_b (by rw [HV.out]; rfl), HB9.out⟩
set_option maxHeartbeats 4000000 in
set_option maxRecDepth 100000 in
theorem jFree_any (B b : Nat) (P : Nat → Int) (s n : Nat) (k : Int) (hs : s < 64) (hn : n < 64) (w : World) (h : JQ B b P w w) :
    Calls Tryz.prog 136 #[.pointer (some ⟨b, 0, none⟩), .agg #[.int .i64 (s : Int), .int .i64 (n : Int), .int .i64 k]] w fun e w' => e = .returned (.bool (freeB P s n)) ∧ Below w.heap.size w w' := by
  obtain ⟨X, hX⟩ : ∃ X, X = (pc P).toArray := ⟨_, rfl⟩
  have HJ := Lib.hid (h.go (below_new (w := w) (.cells #[.int .i64 (s : Int), .int .i64 (n : Int), .int .i64 k] 46)))
  have HM := Lib.hid (show (w.alloc (.cells #[.int .i64 (s : Int), .int .i64 (n : Int), .int .i64 k] 46)).heap[w.heap.size]? = some (.cells #[.int .i64 (s : Int), .int .i64 (n : Int), .int .i64 k] 46 (0, 0)) from sl_at rfl)
  obtain ⟨bt, hbt⟩ : ∃ x, ((s : Int) + (n : Int)) / 2 = x := ⟨_, rfl⟩
  have hw1 : IntKind.i64.wrap ((s : Int) + (n : Int)) = (s : Int) + (n : Int) := IntWalk.i64_in _ (by omega)
  have hd1 : ((s : Int) + (n : Int)).tdiv 2 = bt := by rw [Int.tdiv_eq_ediv_of_nonneg (by omega)]; exact hbt
  have hw2 : wrap64 bt = bt := by unfold wrap64; omega
  obtain ⟨sd, hsd⟩ : ∃ x, P 128 = x := ⟨_, rfl⟩
  have HIS := Lib.hid (fun W p n c f hn hr hg hB => isA_any W.heap.size P (oth sd) p n c f W hn hr hg hB)
  rw [← hX] at HIS
  have HV := Lib.hid (show freeB P s n = !isAt P (oth sd) (wayF (s : Int) bt) 2 by unfold freeB; rw [hsd, hbt])
  have HSD := Lib.hid hsd
  have HX := Lib.hid hX
  clear hX h hbt hsd hn hs
  go_enter Tryz.func136, Tryz.ntmps136
  go_upto_region 1 with (fail)
  generalize w.alloc (.cells #[.int .i64 (s : Int), .int .i64 (n : Int), .int .i64 k] 46) = W at *
  obtain ⟨m0, m1, m2, mf, mz⟩ := row3 HM.out
  go_upto_region 2 with (fail)
  simp only [hw2]
  clear m0 m1 m2 mf mz hw1 hd1 hw2
  obtain ⟨mb, hmb⟩ : ∃ x, w.heap.size = x := ⟨_, rfl⟩
  rw [hmb] at HM
  simp only [hmb]
  clear hmb
  refine wp_region_noPanic ?_
  refine wp_region_start (n := 17) (l := #[false, false, false, false, false, false, false, false, false, false, false, false, false, false, false, false, false]) (S := (fun W => JQ B b P w W ∧ W.heap[mb]? = some (.cells #[.int .i64 (s : Int), .int .i64 (n : Int), .int .i64 k] 46 (0, 0)))) (by kernel_rfl) rfl (by kernel_rfl) (by first | exact ⟨HJ.out, HM.out⟩ | exact ⟨HJ.out.go (Below.refl _ _).drew, sl_go HM.out (Below.refl _ _).drew⟩) (fun hHeld => ?_)
  replace HJ := Lib.hid (HJ.out.go (Below.refl W.heap.size W).drew)
  replace HM := Lib.hid (sl_go HM.out (Below.refl W.heap.size W).drew)
  generalize W.drew = V at *
  refine tq (i := 0) (d := some 12) rfl rfl ?_
  try simp only [aP, sA, sZ, sS]
  refine tq (i := 1) (d := some 13) rfl rfl ?_
  try simp only [aP, sA, sZ, sS]
  refine tq (i := 2) (d := some 14) rfl rfl ?_
  try simp only [aP, sA, sZ, sS]
  refine tg (i := 3) (d := some 15) (v := (.agg X)) rfl rfl ?_ ?_
  · exact yields_posC (by rfl) _ (by rfl) b P X HX.out (by rfl) (fun W h => h.1.p)
  try simp only [aP, sA, sZ, sS]
  refine tq (i := 4) (d := some 16) rfl rfl ?_
  try simp only [aP, sA, sZ, sS]
  refine tq (i := 5) (d := some 17) rfl rfl ?_
  try simp only [aP, sA, sZ, sS]
  refine tq (i := 6) (d := some 18) rfl rfl ?_
  try simp only [aP, sA, sZ, sS]
  refine tq (i := 7) (d := some 19) rfl rfl ?_
  try simp only [aP, sA, sZ, sS]
  refine tg (i := 8) (d := some 20) (v := (.int .i64 sd)) rfl rfl ?_ ?_
  · refine Or.inl ⟨by rfl, ?_⟩; intro w' hSw; (try dsimp only at hSw); have e1 := hSw.1.p.cell 128 (by omega); rw [HSD.out] at e1; go_simp
  try simp only [aP, sA, sZ, sS]
  refine tq (i := 10) (d := some 22) rfl rfl ?_
  try simp only [aP, sA, sZ, sS]
  refine tg (i := 11) (d := some 23) (v := (.int .i64 (s : Int))) rfl rfl ?_ ?_
  · refine Or.inl ⟨by rfl, ?_⟩; intro w' hSw; (try dsimp only at hSw); obtain ⟨m0, m1, m2, mf, mz⟩ := row3 hSw.2; go_simp
  try simp only [aP, sA, sZ, sS]
  refine tq (i := 12) (d := some 24) rfl rfl ?_
  try simp only [aP, sA, sZ, sS]
  refine wg (i := 9) (j := 13) rfl rfl (by kernel_rfl) (fun K hK => ?_) (fun K hK => ?_)
  · skip
    go_simp
    refine (other_any sd _).mono ?_
    rintro e V ⟨rfl, rfl⟩
    dsimp only
    refine hK.out _ _ (by first | exact ⟨HJ.out, HM.out⟩ | exact ⟨HJ.out.go (Below.refl _ _).drew, sl_go HM.out (Below.refl _ _).drew⟩) (fun hHeld => ?_)
    clear hK K
    try simp only [aP, sA, sZ, sS]
    refine og (i := 13) rfl (by kernel_rfl) (fun K hK => ?_)
    go_simp
    have hb : Below V.heap.size V (V.alloc (.cells #[.int .i64 (s : Int), .int .i64 bt] 3)) := below_new _
    have HRW := Lib.hid (show Reads (V.alloc (.cells #[.int .i64 (s : Int), .int .i64 bt] 3)).heap.size (V.alloc (.cells #[.int .i64 (s : Int), .int .i64 bt] 3)) (some ⟨V.heap.size, 0, none⟩) 2 (fun i => .int .i64 (wayF (s : Int) bt i)) from way_reads _ _ _)
    replace HJ := Lib.hid (HJ.out.go hb)
    replace HM := Lib.hid (sl_go HM.out hb)
    clear hb
    generalize V.alloc (.cells #[.int .i64 (s : Int), .int .i64 bt] 3) = V at *
    refine hK.out _ _ (by first | exact ⟨HJ.out, HM.out⟩ | exact ⟨HJ.out.go (Below.refl _ _).drew, sl_go HM.out (Below.refl _ _).drew⟩) (fun hHeld => ?_)
    clear hK K
    try simp only [aP, sA, sZ, sS]
    refine og (i := 14) rfl (by kernel_rfl) (fun K hK => ?_)
    go_simp
    refine (HIS.out _ _ 2 2 _ (by omega) HRW.out (HJ.out.gs.mono HJ.out.s) (Nat.le_refl _)).mono ?_
    rintro e V ⟨rfl, hb⟩
    replace HJ := Lib.hid (HJ.out.go hb)
    replace HM := Lib.hid (sl_go HM.out hb)
    clear hb HRW
    dsimp only
    refine hK.out _ _ (by first | exact ⟨HJ.out, HM.out⟩ | exact ⟨HJ.out.go (Below.refl _ _).drew, sl_go HM.out (Below.refl _ _).drew⟩) (fun hHeld => ?_)
    clear hK K
    try simp only [aP, sA, sZ, sS]
    refine tq (i := 15) (d := some 27) rfl rfl ?_
    try simp only [aP, sA, sZ, sS]
    refine tq (i := 16) (d := some 4) rfl rfl ?_
    try simp only [aP, sA, sZ, sS]
    refine wpAnyH_done (by kernel_rfl) ?_ _
    refine NoPanic.normal ?_
    clear hHeld
    go_wp2
    go_ret
    exact ⟨q_b HV.out.symm, HJ.out.bel⟩
  · skip
    go_simp
    have hb : Below V.heap.size V (V.alloc (.cells #[.int .i64 (s : Int), .int .i64 bt] 3)) := below_new _
    have HRW := Lib.hid (show Reads (V.alloc (.cells #[.int .i64 (s : Int), .int .i64 bt] 3)).heap.size (V.alloc (.cells #[.int .i64 (s : Int), .int .i64 bt] 3)) (some ⟨V.heap.size, 0, none⟩) 2 (fun i => .int .i64 (wayF (s : Int) bt i)) from way_reads _ _ _)
    replace HJ := Lib.hid (HJ.out.go hb)
    replace HM := Lib.hid (sl_go HM.out hb)
    clear hb
    generalize V.alloc (.cells #[.int .i64 (s : Int), .int .i64 bt] 3) = V at *
    refine hK.out _ _ (by first | exact ⟨HJ.out, HM.out⟩ | exact ⟨HJ.out.go (Below.refl _ _).drew, sl_go HM.out (Below.refl _ _).drew⟩) (fun hHeld => ?_)
    clear hK K
    try simp only [aP, sA, sZ, sS]
    refine og (i := 9) rfl (by kernel_rfl) (fun K hK => ?_)
    go_simp
    refine (other_any sd _).mono ?_
    rintro e V ⟨rfl, rfl⟩
    dsimp only
    refine hK.out _ _ (by first | exact ⟨HJ.out, HM.out⟩ | exact ⟨HJ.out.go (Below.refl _ _).drew, sl_go HM.out (Below.refl _ _).drew⟩) (fun hHeld => ?_)
    clear hK K
    try simp only [aP, sA, sZ, sS]
    refine og (i := 14) rfl (by kernel_rfl) (fun K hK => ?_)
    go_simp
    refine (HIS.out _ _ 2 2 _ (by omega) HRW.out (HJ.out.gs.mono HJ.out.s) (Nat.le_refl _)).mono ?_
    rintro e V ⟨rfl, hb⟩
    replace HJ := Lib.hid (HJ.out.go hb)
    replace HM := Lib.hid (sl_go HM.out hb)
    clear hb HRW
    dsimp only
    refine hK.out _ _ (by first | exact ⟨HJ.out, HM.out⟩ | exact ⟨HJ.out.go (Below.refl _ _).drew, sl_go HM.out (Below.refl _ _).drew⟩) (fun hHeld => ?_)
    clear hK K
    try simp only [aP, sA, sZ, sS]
    refine tq (i := 15) (d := some 27) rfl rfl ?_
    try simp only [aP, sA, sZ, sS]
    refine tq (i := 16) (d := some 4) rfl rfl ?_
    try simp only [aP, sA, sZ, sS]
    refine wpAnyH_done (by kernel_rfl) ?_ _
    refine NoPanic.normal ?_
    clear hHeld
    go_wp2
    go_ret
    exact ⟨q_b HV.out.symm, HJ.out.bel⟩
end Go.Proofs.YtkncfeijlmomaaaGreatDoor
