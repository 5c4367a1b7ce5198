/-
  Merged: Mj, Ba, Bx.
-/
import Derived.Test.YtcdnakbdajbfoaaGreatDoorG12
import Derived.Maps.AppendAt
import Derived.Test.YtcdnakbdajbfoaaGreatDoorG6
import Derived.Test.YtcdnakbdajbfoaaGreatDoorG4

namespace Go.Proofs.YtcdnakbdajbfoaaGreatDoor
open Go.RowKit Go.Sort
set_option linter.unusedSimpArgs false
set_option linter.unusedVariables false
set_option maxRecDepth 20000
attribute [local go_sem] Oper.semAt_some

theorem movers_any (b : Nat) (w : World) :
    Calls Tryz.prog 80 #[.pointer (some ⟨b, 0, none⟩)] w fun e w' =>
      e = .returned (.func (.func 110) #[] #[.pointer (some ⟨w.heap.size, 0, none⟩)]) ∧ w' = w.alloc (.cells #[.pointer (some ⟨b, 0, none⟩)] 117) := by
  go_enter Tryz.func80, Tryz.ntmps80
  go_wp2
  go_ret
  exact ⟨rfl, rfl⟩
theorem run_append_rows {P : Program} (w : World) (base base2 : Nat) (t ty e : TypeId) (i : TypeInfo) (z : Value) (size bytes : Nat) (ht : P.underlying t = some (.slice e)) (hi : P.info? e = some i) (hz : i.zero = some z)
    (hsize : i.size = size) (hby : i.bytes = bytes) (hzs : z.cells.size = size) (hsz : 0 < size)
    (v : Value) (n : Nat) (xs : List Value) (hown : w.ownsRow base e size v n xs) (v2 : Value) (m : Nat) (ys : List Value) (hown2 : w.ownsRow base2 e size v2 m ys) (h1 : ∀ u ∈ ys, u.oneCell' = true)
    (h63 : n + m ≤ maxLen) (hbytes : (n + m) * bytes ≤ 140737488355328) (hbase : base ≤ w.heap.size) :
    ∃ v' w', (Builtin.append_ #[t, t] ty #[v, v2]).run P w = .ok v' w' ∧ w'.ownsRow base e size v' (n + m) (xs ++ ys) ∧ w.grownBy w' v.ownBlock ∧ (v'.ownBlock = v.ownBlock ∨ v'.ownBlock = some w.heap.size) := by
  rcases hown2.2 with ⟨rfl, rfl⟩ | ⟨g, cap, cur, rfl, _⟩
  · have hy : ys = [] := List.eq_nil_of_length_eq_zero (by simpa using hown2.1)
    subst hy
    exact ⟨v, w, run_append_owned_none (P := P) (w := w) base t ty e i size ht hi v n xs hown, by simpa using hown, World.grownBy.refl _ _, .inl rfl⟩
  · obtain ⟨v', w', h2, h3, h4, _, h5⟩ := run_append_own_at (P := P) w base t ty e i z size bytes ht hi hz hsize hby hzs hsz v n xs hown ⟨g, 0, none⟩ m cap ys hown2.1 (hown2.cells rfl) h1 h63 hbytes hbase
    exact ⟨v', w', h2, h3, h4, h5⟩
theorem owns_slice {w : World} {base : Nat} {e : TypeId} {k : Nat} {v : Value} {n : Nat} {xs : List Value} (h : w.ownsRow base e k v n xs) : ∃ p m c, v = .slice p m c := by
  rcases h.2 with ⟨rfl, _⟩ | ⟨g, cap, cur, rfl, _⟩
  · exact ⟨_, _, _, rfl⟩
  · exact ⟨_, _, _, rfl⟩
theorem stepIn_append_run {F : Fence} {n : Nat} {P : Program} {w : World} {o : Oper} {a : Act} {K : Act → World → Prop} {Q : Exit → Act → World → Prop} {E : Prop} {ys : Nat → Option Bool}
    (hg : o.guard = none) (s x : Operand) (t : TypeId) (hop : o.op = Op.call { callee := Callee.builtin Builtin.append, args := #[s, x], argTypes := #[t, t] })
    (sv xv : Value) (hs : a.eval s = sv) (hx : a.eval x = xv) {v' : Value} {w' : World} (hrun : (Builtin.append_ #[t, t] o.type #[sv, xv]).run P w = .ok v' w') (hK : K (a.put o.dst v') w') :
    if Region.wanted o ys = true then o.wpIn F n P a w K Q else E := by
  rw [if_pos (by simp [Region.wanted, hg])]
  unfold Oper.wpIn
  refine ⟨?_, ?_⟩
  · simp [Oper.about, hop, resolve, Target.leads, Sem.run_pure]
  · rw [Oper.semAt_plain F _ _ (by rw [hop]; intro c hc'; cases hc')]
    simp [execOp, hop, resolve, invoke, builtin, hs, hx, hrun, Result.andThen]
    exact hK
def flatM (P : Nat → Int) (l : List Int) : List (Int × Int × Int) := l.flatMap fun x => movesL P x.toNat
def allM (P : Nat → Int) : List (Int × Int × Int) := flatM P (upList (ownB P) 64)
theorem flatM_len (P : Nat → Int) (l : List Int) : (flatM P l).length ≤ 280 * l.length := by
  induction l with
  | nil => simp [flatM]
  | cons a l ih =>
    unfold flatM at ih ⊢
    rw [List.flatMap_cons, List.length_append]
    have := movesL_len P a.toNat
    rw [List.length_cons]; omega
structure ApM (P : Nat → Int) (w : World) (pre : List Int) (X : Nat → Prop) (W : World) : Prop where
  below : Below w.heap.size w W
  box : ∃ v, W.heap[w.heap.size]? = some (.cells #[v] 46 (0, 0)) ∧ W.ownsRow w.heap.size 52 3 v (flatM P pre).length (mvals (flatM P pre)) ∧ ∀ k, X k ↔ k = w.heap.size ∨ v.ownBlock = some k
theorem ApM.lt {P : Nat → Int} {w : World} {pre : List Int} {X : Nat → Prop} {W : World} (h : ApM P w pre X W) : ∀ k, X k → k < W.heap.size := by
  obtain ⟨v, hv, hr, hx⟩ := h.box
  intro k hk
  rcases (hx k).1 hk with rfl | h1
  · exact (Array.getElem?_eq_some_iff.1 hv).1
  · exact (hr.lt k h1).2
theorem ApM.spare {P : Nat → Int} {w : World} {pre : List Int} {X : Nat → Prop} {A B : World} {n : Nat} (h : ApM P w pre X A) (hn : w.heap.size ≤ n) (hs : Spares n X A B) : ApM P w pre X B := by
  obtain ⟨v, hv, hr, hx⟩ := h.box
  refine ⟨h.below.trans (hs.below h.below.size hn), v, (hs.block _ (Array.getElem?_eq_some_iff.1 hv).1 (.inr ((hx _).2 (.inl rfl)))).trans hv, owns_same hr fun g hg hl => hs.block g hl (.inr ((hx g).2 (.inr hg))), hx⟩
set_option maxHeartbeats 2000000 in
set_option maxRecDepth 100000 in
theorem all_any (P : Nat → Int) (w : World) (B : Nat) (hg : GS B w) (hm : GM B w) (hB : B ≤ w.heap.size) :
    Calls Tryz.prog 53 #[.agg (pc P).toArray] w fun e w' => ∃ v, e = .returned v ∧ Below w.heap.size w w' ∧ w'.ownsRow w.heap.size 52 3 v (allM P).length (mvals (allM P)) := by
  obtain ⟨i1, hi1, hk⟩ : ∃ i, Tryz.prog.info? 52 = some i ∧ (i.zero, i.size, i.bytes) = (some (.agg #[.int .i64 0, .int .i64 0, .int .i64 0]), 3, 24) := by
    have h : (Tryz.prog.info? 52).map (fun i => (i.zero, i.size, i.bytes)) = some (some (.agg #[.int .i64 0, .int .i64 0, .int .i64 0]), 3, 24) := by kernel_rfl
    exact Option.map_eq_some_iff.1 h
  simp only [Prod.mk.injEq] at hk
  obtain ⟨hk0, hk1, hk2⟩ := hk
  obtain ⟨X, hX⟩ : ∃ X, X = (pc P).toArray := ⟨_, rfl⟩
  rw [← hX]
  have HP00 := Lib.hid (pos_box P w X hX 30)
  have HG := Lib.hid hg
  have HM := Lib.hid hm
  have HX := Lib.hid hX
  have hsz : X.size = 133 := by rw [hX, pc_size]
  have hfold := fold_mov X hsz
  have HBW0 := Lib.hid (below_new (w := w) (.cells X 30))
  clear hX hg hm
  refine calls_of_marks Tryz.func53 rfl ?_
  simp only [Tryz.ntmps53, List.size_toArray, List.length_cons, List.length_nil, Nat.reduceAdd, Nat.reduceSub, Array.replicate_succ, Array.replicate_zero, List.push_toArray, List.append_toArray, List.nil_append, List.cons_append]
  go_upto_region 1 with (fail)
  generalize w.alloc (.cells X 30) = W0 at *
  refine wp_region_lit ?_
  refine wpList_pos (by rfl) _ (by rfl) w.heap.size P X HX.out (by rfl) HP00.out ?_
  refine wpList_plain rfl (fun K hK => ?_)
  go_simp
  refine hK _ _ ?_
  clear hK K
  clear hfold
  refine wpList_plain rfl (fun K hK => ?_)
  go_simp
  refine hK _ _ ?_
  clear hK K
  have hpn : PB (W0.alloc (.cells Tryz.zeroCells100 100)) W0.heap.size (fun _ => 0) := by rw [zeroMover]; exact PB.new rfl
  refine wpList_store_mid rfl 100 _ _ rfl W0.heap.size 0 X rfl rfl (by rw [hsz]; exact hpn.there) (by rw [infoMover, hsz]) (by rw [HX.out]; exact pc_one P) ?_
  refine forgetL_B (fun W => PB W W0.heap.size P ∧ Below W0.heap.size W0 W) (by
    rw [HX.out, List.toList_toArray]
    exact ⟨hpn.store (Q := P), below_store (b := W0.heap.size) P (below_new _) (Nat.le_refl _) (by simp)⟩) ?_
  rintro W2 ⟨hp, hb⟩
  have HB := Lib.hid (HBW0.out.trans (hb.mono HBW0.out.size))
  have HI := Lib.hid (MV.begin hp (((HG.out.below (HB.out.mono hB)))) ((HM.out.below (HB.out.mono hB))) (Nat.le_trans hB HB.out.size))
  clear hp hb hpn HP00 hsz HBW0
  obtain ⟨fb, hfb⟩ : ∃ f, W0.heap.size = f := ⟨_, rfl⟩
  rw [hfb] at HI
  simp only [hfb]
  show Exit.then _ _ Exit.normal _ _
  clear hfb
  have MVR := Lib.hid (movers_any fb)
  go_wp2_with fail
  refine (MVR.out _).mono ?_
  rintro e w4 ⟨rfl, rfl⟩
  have har : MO2 fb (W2.heap.size + 1) P ((W2.alloc (.cells #[.slice none 0 0] 46)).alloc (.cells #[.pointer (some ⟨fb, 0, none⟩)] 117)) := ⟨sl_at (by simp), (HI.out.p.alloc _).alloc _⟩
  have HAR := Lib.hid har
  have HAB := Lib.hid (show fb < W2.heap.size from HI.out.l)
  have HW4 := Lib.hid (((below_new (w := W2) (.cells #[.slice none 0 0] 46))).alloc (by simp) (.cells #[.pointer (some ⟨fb, 0, none⟩)] 117))
  have HV4 := Lib.hid (show ((W2.alloc (.cells #[.slice none 0 0] 46)).alloc (.cells #[.pointer (some ⟨fb, 0, none⟩)] 117)).heap[W2.heap.size]? = some (.cells #[.slice none 0 0] 46 (0, 0)) from al_old (sl_at rfl) _)
  have hmb : (W2.alloc (.cells #[.slice none 0 0] 46)).heap.size = W2.heap.size + 1 := by simp
  rw [hmb]
  generalize (W2.alloc (.cells #[.slice none 0 0] 46)).alloc (.cells #[.pointer (some ⟨fb, 0, none⟩)] 117) = W4 at *
  clear hmb har MVR
  go_wp2
  refine wp_range_over (gf := 110) (lb := #[.pointer (some ⟨W2.heap.size + 1, 0, none⟩)]) rfl (enters_of Tryz.func110 (by kernel_rfl) rfl) (movers_comes fb (W2.heap.size + 1) P W4 HAR.out) (Below.refl _ _) rfl (fun pre X W => ApM P W2 pre X W) (fun _ _ _ _ => False)
    (fun s X A B h hs => h.spare HW4.out.size hs) (fun _ _ _ _ _ h _ => h) (fun s X A h => h.lt) (X0 := fun k => k = W2.heap.size) ?start ?disj
    (fun x => { tmps := #[.agg X, .pointer (some ⟨w.heap.size, 0, none⟩), .slice none 0 0, .pointer (some ⟨fb, 0, none⟩), .pointer (some ⟨W2.heap.size, 0, none⟩), .int .i64 x, .agg X, .agg X, .func (.func 110) #[] #[.pointer (some ⟨W2.heap.size + 1, 0, none⟩)], .int .i64 x, undef, undef, undef, undef, undef], defers := [] }) ?assign ?body ?done ?stop
  case start => exact ⟨HW4.out, _, HV4.out, World.ownsRow_nil _ _ _ _, fun k => by simp [Value.ownBlock]⟩
  case disj =>
    rintro k rfl (hk | hk)
    · have := HAB.out; omega
    · omega
  case assign =>
    intro l x W K hK
    gi_wp2
    exact hK
  case body =>
    intro l' pre x X7 W7 h hpre _
    have hxm : x ∈ upList (ownB P) 64 := hpre.subset (by simp)
    obtain ⟨n, hn64, _, rfl⟩ := (upList_mem _ _ _).1 hxm
    have hlp : pre.length ≤ 64 := by
      have h1 := hpre.length_le
      have h2 := upList_len (ownB P) 64
      simp at h1; omega
    obtain ⟨v, hv, hrow, hx⟩ := h.box
    have hfl := flatM_len P pre
    have hml := movesL_len P n
    have HIW := Lib.hid (HI.out.go2 h.below)
    have HNE := Lib.hid (show v.ownBlock ≠ some W2.heap.size from owns_off hrow hv (by decide))
    have HV := Lib.hid hv
    have HROW := Lib.hid hrow
    have HH := Lib.hid h
    have HFIN := Lib.hid (show ∀ (v3 : Value) (W5 W6 : World), Below W7.drew.heap.size W7.drew W5 → W5.heap[W2.heap.size]? = some (.cells #[v] 46 (0, 0)) → W5.ownsRow W2.heap.size 52 3 v (flatM P pre).length (mvals (flatM P pre)) → W6.ownsRow W2.heap.size 52 3 v3 ((flatM P pre).length + (movesL P n).length) (mvals (flatM P pre ++ movesL P n)) → W5.grownBy W6 v.ownBlock → (v3.ownBlock = v.ownBlock ∨ v3.ownBlock = some W5.heap.size) →
        ∃ Y, Turns X7 W7 (W6.setCell ⟨W2.heap.size, 0, none⟩ v3) ∧ (∀ k, Y k → X7 k ∨ W7.heap.size ≤ k) ∧ ApM P W2 (pre ++ [(n : Int)]) Y (W6.setCell ⟨W2.heap.size, 0, none⟩ v3) from fun v3 W5 W6 hd hb5 ho5 ho6 hg hat => by
      have h0 : Below W7.heap.size W7 W7.drew := (Below.refl W7.heap.size W7).drew
      have h70 : Below W7.heap.size W7 W5 := h0.trans (hd.mono h0.size)
      have hv6 : W6.heap[W2.heap.size]? = some (.cells #[v] 46 (0, 0)) := (hg.block _ (al_lt hb5) (fun e => HNE.out e.symm)).trans hb5
      have hne3 : v3.ownBlock ≠ some W2.heap.size := owns_off ho6 hv6 (by decide)
      have hflat : flatM P (pre ++ [(n : Int)]) = flatM P pre ++ movesL P n := by unfold flatM; rw [List.flatMap_append]; simp
      refine ⟨fun k => k = W2.heap.size ∨ v3.ownBlock = some k, ?_, ?_, ?_, ?_⟩
      · refine ⟨hg.os.trans h70.os, hg.tape.trans h70.tape, hg.output.trans h70.output, by rw [World.size_setCell]; exact Nat.le_trans h70.size hg.size, fun k hk hn => ?_⟩
        rw [Below.heap_setCell _ _ _ k (fun e => hn ((hx k).2 (.inl e)))]
        exact (hg.block k (Nat.lt_of_lt_of_le hk h70.size) (fun e => hn ((hx k).2 (.inr e.symm)))).trans (h70.block k hk)
      · rintro k (rfl | hk)
        · exact .inl ((hx _).2 (.inl rfl))
        · rcases hat with h1 | h1
          · exact .inl ((hx _).2 (.inr (h1.symm.trans hk)))
          · right
            rw [h1] at hk
            cases hk
            exact h70.size
      · have hb1 : Below W2.heap.size W2 W6 := (h.below.trans (h70.mono h.below.size)).grown hg (Nat.le_trans h.below.size h70.size) (fun k e => (hrow.lt k e).1)
        exact hb1.setCell (p := ⟨W2.heap.size, 0, none⟩) (Nat.le_refl _) _
      · refine ⟨v3, Go.heap_setCell_same W6 W2.heap.size 0 _ _ _ hv6, ?_, fun k => Iff.rfl⟩
        rw [hflat, List.length_append]
        exact owns_same ho6 fun g hgg hl => Below.heap_setCell _ _ _ g (fun e => by rw [e] at hgg; exact hne3 hgg))
    clear h hpre hxm hx hv hrow
    gi_wp2
    refine wpIn_region_any (by kernel_rfl) ?_
    have HD0 := Lib.hid (Below.refl W7.heap.size W7).drew
    have HBOX := Lib.hid (show W7.drew.heap[W2.heap.size]? = some (.cells #[v] 46 (0, 0)) from HV.out)
    have HOW := Lib.hid (show W7.drew.ownsRow W2.heap.size 52 3 v (flatM P pre).length (mvals (flatM P pre)) from HROW.out)
    have HMV := Lib.hid (mMoves_any B fb P n hn64 W7.drew (HIW.out.go (Below.refl _ _).drew).p (HIW.out.go (Below.refl _ _).drew).g (HIW.out.go (Below.refl _ _).drew).m (HIW.out.go (Below.refl _ _).drew).s)
    have hc : W7.drew.cell? ⟨W2.heap.size, 0, none⟩ = some v := by rw [cell_of_row W7.drew _ 0 _ _ (0, 0) HBOX.out]; rfl
    show wpAnyIn _ _ _ _ _ _ 5 #[false, false, false, false, false] _ W7.drew
    refine wpAnyIn_ready (rs := [0, 1]) (by kernel_rfl) (by simp) (AllReadyIn.cons rfl (fun K hK => ?_) (AllReadyIn.cons rfl (fun K hK => ?_) AllReadyIn.nil))
    · skip
      go_simp
      (try refine ⟨fun _ _ => trivial, ?_⟩)
      refine hK _ _ ?_
      clear hK K
      refine wpAnyIn_ready (rs := [1]) (by kernel_rfl) (by simp) (AllReadyIn.cons rfl (fun K hK => ?_) AllReadyIn.nil)
      go_simp
      (try refine ⟨fun _ _ => trivial, ?_⟩)
      refine hK _ _ ?_
      clear hK K
      refine wpAnyIn_ready (rs := [2]) (by kernel_rfl) (by simp) (AllReadyIn.cons rfl (fun K hK => ?_) AllReadyIn.nil)
      go_simp
      refine ⟨trivial, rfl, CallsIn.inRound l' (callsIn_wide.2 (HMV.out.mono ?_))⟩
      rintro e W5 ⟨v2, rfl, hb, hown2⟩
      have HD := Lib.hid hb
      have HO2 := Lib.hid hown2
      have HO := Lib.hid (owns_go HOW.out hb)
      have HBX := Lib.hid (sl_go HBOX.out hb)
      dsimp only
      clear hb hown2 hc
      have hc : W5.cell? ⟨W2.heap.size, 0, none⟩ = some v := by rw [cell_of_row W5 _ 0 _ _ (0, 0) HBX.out]; rfl
      refine hK _ _ ?_
      clear hK K
      refine wpAnyIn_ready (rs := [3]) (by kernel_rfl) (by simp) (AllReadyIn.cons rfl (fun K hK => ?_) AllReadyIn.nil)
      obtain ⟨v3, W6, hap, hown3, hgr, hat⟩ := run_append_rows (P := Tryz.prog) W5 W2.heap.size W7.heap.size 46 46 52 i1 (.agg #[.int .i64 0, .int .i64 0, .int .i64 0]) 3 24 Tryz.underlying46 hi1 hk0 hk1 hk2 rfl (by decide) v (flatM P pre).length (mvals (flatM P pre)) HO.out v2 (movesL P n).length (mvals (movesL P n)) HO2.out (mvals_one _) (by unfold maxLen; omega) (by omega) (Nat.le_trans HH.out.below.size (Nat.le_trans HD0.out.size HD.out.size))
      refine stepIn_append_run rfl (.tmp 10) (.tmp 12) 46 rfl v v2 (by rfl) (by rfl) hap (hK _ _ ?_)
      clear hK K hap
      rw [mvals_app] at hown3
      obtain ⟨p3, n3, c3, rfl⟩ := owns_slice hown3
      have hv3 : W6.heap[W2.heap.size]? = some (.cells #[v] 46 (0, 0)) := (hgr.block _ (al_lt HBX.out) (fun e => HNE.out e.symm)).trans HBX.out
      clear hc
      have hc : W6.cell? ⟨W2.heap.size, 0, none⟩ = some v := by rw [cell_of_row W6 _ 0 _ _ (0, 0) hv3]; rfl
      have hf : W6.frozen? ⟨W2.heap.size, 0, none⟩ = false := frozen_of_row W6 _ 0 _ _ hv3
      have HV3 := Lib.hid hv3
      have HO3 := Lib.hid hown3
      have HGR := Lib.hid hgr
      have HAT := Lib.hid hat
      clear hv3 hown3 hgr hat
      refine wpAnyIn_ready (rs := [4]) (by kernel_rfl) (by simp) (AllReadyIn.cons rfl (fun K hK => ?_) AllReadyIn.nil)
      go_simp
      (try refine ⟨fun _ _ => trivial, ?_⟩)
      refine hK _ _ ?_
      clear hK K
      refine wpAnyIn_done (by kernel_rfl) ?_ _
      gi_wp2
      exact HFIN.out (.slice p3 n3 c3) W5 W6 HD.out HBX.out HO.out HO3.out HGR.out HAT.out
    · skip
      go_simp
      (try refine ⟨fun _ _ => trivial, ?_⟩)
      refine hK _ _ ?_
      clear hK K
      refine wpAnyIn_ready (rs := [0, 2]) (by kernel_rfl) (by simp) (AllReadyIn.cons rfl (fun K hK => ?_) (AllReadyIn.cons rfl (fun K hK => ?_) AllReadyIn.nil))
      · skip
        go_simp
        (try refine ⟨fun _ _ => trivial, ?_⟩)
        refine hK _ _ ?_
        clear hK K
        refine wpAnyIn_ready (rs := [2]) (by kernel_rfl) (by simp) (AllReadyIn.cons rfl (fun K hK => ?_) AllReadyIn.nil)
        go_simp
        refine ⟨trivial, rfl, CallsIn.inRound l' (callsIn_wide.2 (HMV.out.mono ?_))⟩
        rintro e W5 ⟨v2, rfl, hb, hown2⟩
        have HD := Lib.hid hb
        have HO2 := Lib.hid hown2
        have HO := Lib.hid (owns_go HOW.out hb)
        have HBX := Lib.hid (sl_go HBOX.out hb)
        dsimp only
        clear hb hown2 hc
        have hc : W5.cell? ⟨W2.heap.size, 0, none⟩ = some v := by rw [cell_of_row W5 _ 0 _ _ (0, 0) HBX.out]; rfl
        refine hK _ _ ?_
        clear hK K
        refine wpAnyIn_ready (rs := [3]) (by kernel_rfl) (by simp) (AllReadyIn.cons rfl (fun K hK => ?_) AllReadyIn.nil)
        obtain ⟨v3, W6, hap, hown3, hgr, hat⟩ := run_append_rows (P := Tryz.prog) W5 W2.heap.size W7.heap.size 46 46 52 i1 (.agg #[.int .i64 0, .int .i64 0, .int .i64 0]) 3 24 Tryz.underlying46 hi1 hk0 hk1 hk2 rfl (by decide) v (flatM P pre).length (mvals (flatM P pre)) HO.out v2 (movesL P n).length (mvals (movesL P n)) HO2.out (mvals_one _) (by unfold maxLen; omega) (by omega) (Nat.le_trans HH.out.below.size (Nat.le_trans HD0.out.size HD.out.size))
        refine stepIn_append_run rfl (.tmp 10) (.tmp 12) 46 rfl v v2 (by rfl) (by rfl) hap (hK _ _ ?_)
        clear hK K hap
        rw [mvals_app] at hown3
        obtain ⟨p3, n3, c3, rfl⟩ := owns_slice hown3
        have hv3 : W6.heap[W2.heap.size]? = some (.cells #[v] 46 (0, 0)) := (hgr.block _ (al_lt HBX.out) (fun e => HNE.out e.symm)).trans HBX.out
        clear hc
        have hc : W6.cell? ⟨W2.heap.size, 0, none⟩ = some v := by rw [cell_of_row W6 _ 0 _ _ (0, 0) hv3]; rfl
        have hf : W6.frozen? ⟨W2.heap.size, 0, none⟩ = false := frozen_of_row W6 _ 0 _ _ hv3
        have HV3 := Lib.hid hv3
        have HO3 := Lib.hid hown3
        have HGR := Lib.hid hgr
        have HAT := Lib.hid hat
        clear hv3 hown3 hgr hat
        refine wpAnyIn_ready (rs := [4]) (by kernel_rfl) (by simp) (AllReadyIn.cons rfl (fun K hK => ?_) AllReadyIn.nil)
        go_simp
        (try refine ⟨fun _ _ => trivial, ?_⟩)
        refine hK _ _ ?_
        clear hK K
        refine wpAnyIn_done (by kernel_rfl) ?_ _
        gi_wp2
        exact HFIN.out (.slice p3 n3 c3) W5 W6 HD.out HBX.out HO.out HO3.out HGR.out HAT.out
      · skip
        go_simp
        refine ⟨trivial, rfl, CallsIn.inRound l' (callsIn_wide.2 (HMV.out.mono ?_))⟩
        rintro e W5 ⟨v2, rfl, hb, hown2⟩
        have HD := Lib.hid hb
        have HO2 := Lib.hid hown2
        have HO := Lib.hid (owns_go HOW.out hb)
        have HBX := Lib.hid (sl_go HBOX.out hb)
        dsimp only
        clear hb hown2 hc
        have hc : W5.cell? ⟨W2.heap.size, 0, none⟩ = some v := by rw [cell_of_row W5 _ 0 _ _ (0, 0) HBX.out]; rfl
        refine hK _ _ ?_
        clear hK K
        refine wpAnyIn_ready (rs := [0]) (by kernel_rfl) (by simp) (AllReadyIn.cons rfl (fun K hK => ?_) AllReadyIn.nil)
        go_simp
        (try refine ⟨fun _ _ => trivial, ?_⟩)
        refine hK _ _ ?_
        clear hK K
        refine wpAnyIn_ready (rs := [3]) (by kernel_rfl) (by simp) (AllReadyIn.cons rfl (fun K hK => ?_) AllReadyIn.nil)
        obtain ⟨v3, W6, hap, hown3, hgr, hat⟩ := run_append_rows (P := Tryz.prog) W5 W2.heap.size W7.heap.size 46 46 52 i1 (.agg #[.int .i64 0, .int .i64 0, .int .i64 0]) 3 24 Tryz.underlying46 hi1 hk0 hk1 hk2 rfl (by decide) v (flatM P pre).length (mvals (flatM P pre)) HO.out v2 (movesL P n).length (mvals (movesL P n)) HO2.out (mvals_one _) (by unfold maxLen; omega) (by omega) (Nat.le_trans HH.out.below.size (Nat.le_trans HD0.out.size HD.out.size))
        refine stepIn_append_run rfl (.tmp 10) (.tmp 12) 46 rfl v v2 (by rfl) (by rfl) hap (hK _ _ ?_)
        clear hK K hap
        rw [mvals_app] at hown3
        obtain ⟨p3, n3, c3, rfl⟩ := owns_slice hown3
        have hv3 : W6.heap[W2.heap.size]? = some (.cells #[v] 46 (0, 0)) := (hgr.block _ (al_lt HBX.out) (fun e => HNE.out e.symm)).trans HBX.out
        clear hc
        have hc : W6.cell? ⟨W2.heap.size, 0, none⟩ = some v := by rw [cell_of_row W6 _ 0 _ _ (0, 0) hv3]; rfl
        have hf : W6.frozen? ⟨W2.heap.size, 0, none⟩ = false := frozen_of_row W6 _ 0 _ _ hv3
        have HV3 := Lib.hid hv3
        have HO3 := Lib.hid hown3
        have HGR := Lib.hid hgr
        have HAT := Lib.hid hat
        clear hv3 hown3 hgr hat
        refine wpAnyIn_ready (rs := [4]) (by kernel_rfl) (by simp) (AllReadyIn.cons rfl (fun K hK => ?_) AllReadyIn.nil)
        go_simp
        (try refine ⟨fun _ _ => trivial, ?_⟩)
        refine hK _ _ ?_
        clear hK K
        refine wpAnyIn_done (by kernel_rfl) ?_ _
        gi_wp2
        exact HFIN.out (.slice p3 n3 c3) W5 W6 HD.out HBX.out HO.out HO3.out HGR.out HAT.out
  case done =>
    intro Y W h hK _ h2
    obtain ⟨v, hv, hrow, _⟩ := h.box
    have hc : W.cell? ⟨W2.heap.size, 0, none⟩ = some v := by rw [cell_of_row W _ 0 _ _ (0, 0) hv]; rfl
    obtain ⟨v2, hv2, hrow2, _⟩ := h2.box
    have e2 : v2 = v := by
      have h3 := (World.putObj_heap_other (w := W) (o := .deferred none) (k := W2.heap.size) (r := W4.heap.size) (Nat.ne_of_lt (al_lt HV4.out))).trans hv
      rw [h3] at hv2
      simpa using hv2.symm
    subst e2
    have HR := Lib.hid hrow2
    have HBL := Lib.hid (HB.out.trans (h2.below.mono HB.out.size))
    clear hv hrow h2 h hv2 hrow2
    go_wp2
    refine ⟨by simp, .inl ⟨_, _, rfl, run_takeDeferred hK, ?_⟩⟩
    refine ⟨_, results_tmp rfl _ _ _, v2, rfl, HBL.out, ?_⟩
    exact ⟨HR.out.1, HR.out.2.imp id fun ⟨g, cap, cur, e1, e2, e3⟩ => ⟨g, cap, cur, e1, Nat.le_trans HB.out.size e2, e3⟩⟩
  case stop =>
    intro c pre Y W _ h
    exact h.elim
end Go.Proofs.YtcdnakbdajbfoaaGreatDoor

namespace Go.Proofs.YtcdnakbdajbfoaaGreatDoor
open Go.RowKit Go.Sort
set_option linter.unusedSimpArgs false
set_option linter.unusedVariables false

def offN (i : Nat) : Int := [4, 2, 3, 5, 6, 3, 2, 4].getD i 0
theorem wpList_new {ops : Array Oper} {rest : List Oper} {d : Tmp} {y : Operand} {t1 t2 : TypeId} {p1 p2 : String} {e1 e2 : Array Edge} {a : Act} {w : World} {Q : Exit → Act → World → Prop}
    (E : Array Value) (P : Nat → Int) (hE : E = (pc P).toArray) (hx : (a.put (some d) (.pointer (some ⟨w.heap.size, 0, none⟩))).eval (.tmp d) = .pointer (some ⟨w.heap.size, 0, none⟩)) (hy : (a.put (some d) (.pointer (some ⟨w.heap.size, 0, none⟩))).eval y = .agg E)
    (k : ∀ W, PB W w.heap.size P → Below w.heap.size w W → W.heap.size = w.heap.size + 1 → wpList Tryz.prog ops Q rest (a.put (some d) (.pointer (some ⟨w.heap.size, 0, none⟩))) W) :
    wpList Tryz.prog ops Q ({ dst := some d, op := .alloc 30, type := t1, pos := p1, after := e1, guard := none } :: { dst := none, op := .store 30 (.tmp d) y, type := t2, pos := p2, after := e2, guard := none } :: rest) a w := by
  subst hE
  refine wpList_plain rfl (fun K hK => ?_)
  go_simp
  refine hK _ _ ?_
  clear hK K
  have hpn : PB (w.alloc (.cells Tryz.zeroCells30 30)) w.heap.size (fun _ => 0) := by rw [zeroPos]; exact PB.new rfl
  refine wpList_store_mid rfl 30 _ _ rfl w.heap.size 0 (pc P).toArray hx hy (by rw [pc_size]; exact hpn.there) (by rw [infoPos, pc_size]) (pc_one P) ?_
  rw [List.toList_toArray]
  exact k _ (hpn.store (Q := P)) (below_store (b := w.heap.size) P (below_new _) (Nat.le_refl _) (by simp)) (by rw [sizes_B]; simp)
def emptyN (i : Nat) : Int := if i = 130 then -1 else if i = 132 then 1 else 0
theorem empty_built : (Tryz.zeroCells30.setIfInBounds 130 (.int .i64 (-1))).setIfInBounds 132 (.int .i64 1) = (pc emptyN).toArray := by kernel_rfl
set_option maxHeartbeats 2000000 in
set_option maxRecDepth 100000 in
theorem rEmpty_any (w : World) :
    Calls Tryz.prog 20 #[] w fun e w' => e = .returned (.agg (pc emptyN).toArray) ∧ Below w.heap.size w w' := by
  obtain ⟨Y, hY⟩ : ∃ Y, Y = (pc emptyN).toArray := ⟨_, rfl⟩
  rw [← hY]
  have HY := Lib.hid hY
  have hy := empty_built
  rw [← hY] at hy
  have hsz : Y.size = 133 := by rw [hY, pc_size]
  clear hY
  go_enter Tryz.func20, Tryz.ntmps20
  go_upto_region 1 with (fail)
  refine wp_region_lit ?_
  refine wpList_plain rfl (fun K hK => ?_)
  go_simp
  refine hK _ _ ?_
  clear hK K hy
  have hpn : PB (w.alloc (.cells Tryz.zeroCells30 30)) w.heap.size (fun _ => 0) := by rw [zeroPos]; exact PB.new rfl
  refine wpList_store_mid rfl 30 _ _ rfl w.heap.size 0 Y rfl rfl (by rw [hsz]; exact hpn.there) (by rw [infoPos, hsz]) (by rw [HY.out]; exact pc_one _) ?_
  refine forgetL_B (fun W => PB W w.heap.size emptyN ∧ Below w.heap.size w W) (by
    rw [HY.out, List.toList_toArray]
    exact ⟨hpn.store (Q := emptyN), below_store (b := w.heap.size) emptyN (below_new _) (Nat.le_refl _) (by simp)⟩) ?_
  rintro W ⟨hp, hb⟩
  have HP := Lib.hid hp
  have HB := Lib.hid hb
  clear hp hb hpn hsz
  show Exit.then _ _ Exit.normal _ _
  refine ret_go (by assumption) ?_
  refine bodyPost_ret (v := .agg (pc emptyN).toArray) ?_ rfl ⟨by rw [HY.out], HB.out⟩
  exact results_cell_mid (p := 0) (ty := 30) rfl _ W w.heap.size _ _ rfl HP.out.range Tryz.underlying30 rfl (by rw [infoPos, pc_len])
def startN (i : Nat) : Int :=
  if i < 128 then (if i % 2 = 0 then (if i / 2 < 8 then offN (i / 2) else if i / 2 < 16 then 1 else if i / 2 < 48 then 0 else if i / 2 < 56 then 1 else offN (i / 2 - 56)) else if i / 2 < 48 then 0 else 1)
  else if i = 129 then 15 else if i = 130 then -1 else if i = 132 then 1 else 0
def mixS (j i : Nat) : Int := if i < 128 ∧ i / 2 % 8 < j then startN i else emptyN i
theorem mixS_zero : ∀ i, i < 133 → emptyN i = mixS 0 i := fun i _ => by unfold mixS; rw [if_neg (by omega)]
theorem mixS_step : ∀ j, j < 8 → ∀ i, i < 133 → setN (setN (setN (setN (setN (setN (setN (setN (mixS j) (j * 2) (offN j)) (j * 2 + 1) 0) ((8 + j) * 2) 1) ((8 + j) * 2 + 1) 0) ((48 + j) * 2) 1) ((48 + j) * 2 + 1) 1) ((56 + j) * 2) (offN j)) ((56 + j) * 2 + 1) 1 i = mixS (j + 1) i := by decide +kernel
theorem mixS_end : ∀ i, i < 133 → setN (mixS 8) 129 15 i = startN i := by decide +kernel
structure PS (w W : World) (blk : Nat) (P : Nat → Int) : Prop where
  z : PB W w.heap.size (fun _ => 0)
  p : PB W blk P
  b : Below w.heap.size w W
  n : w.heap.size < blk
theorem PS.go {w W W' : World} {b : Nat} {P : Nat → Int} (h : PS w W b P) (g : Below W.heap.size W W') : PS w W' b P := ⟨h.z.go g, h.p.go g, h.b.trans (g.mono h.b.size), h.n⟩
theorem PS.set {w W : World} {b : Nat} {P : Nat → Int} (h : PS w W b P) (i : Nat) (x : Int) (hi : i < 133) : PS w (W.setCell ⟨b, i, none⟩ (.int .i64 x)) b (setN P i x) :=
  ⟨h.z.other (by have := h.n; omega) _ _, h.p.set i x hi, h.b.setCell (p := ⟨b, i, none⟩) (by have := h.n; simp; omega) _, h.n⟩
theorem PS.congr {w W : World} {b : Nat} {P Q : Nat → Int} (h : PS w W b P) (e : ∀ i, i < 133 → P i = Q i) : PS w W b Q := ⟨h.z, h.p.congr e, h.b, h.n⟩
end Go.Proofs.YtcdnakbdajbfoaaGreatDoor

namespace Go.Proofs.YtcdnakbdajbfoaaGreatDoor
open Go.RowKit Go.Sort
set_option linter.unusedSimpArgs false
set_option linter.unusedVariables false

structure PS2 (w W : World) (blk sb : Nat) (P : Nat → Int) : Prop where
  s : PS w W blk P
  r : ∀ i, i < 8 → W.cell? ⟨sb, i, none⟩ = some (.int .i64 (offN i))
  n : blk < sb
theorem PS2.set {w W : World} {b sb : Nat} {P : Nat → Int} (h : PS2 w W b sb P) (i : Nat) (x : Int) (hi : i < 133) : PS2 w (W.setCell ⟨b, i, none⟩ (.int .i64 x)) b sb (setN P i x) :=
  ⟨h.s.set i x hi, fun j hj => by rw [World.cell?_setCell_other _ _ _ _ (by intro e; injection e with e1; have := h.n; omega)]; exact h.r j hj, h.n⟩
set_option maxHeartbeats 4000000 in
set_option maxRecDepth 100000 in
theorem rStart_any (w : World) :
    Calls Tryz.prog 21 #[] w fun e w' => e = .returned (.agg (pc startN).toArray) ∧ Below w.heap.size w w' := by
  obtain ⟨Y, hY⟩ : ∃ Y, Y = (pc startN).toArray := ⟨_, rfl⟩
  obtain ⟨E, hE⟩ : ∃ E, E = (pc emptyN).toArray := ⟨_, rfl⟩
  have HEM := Lib.hid (fun W => rEmpty_any W)
  rw [← hY]
  rw [← hE] at HEM
  have HY := Lib.hid hY
  have HE := Lib.hid hE
  have hpn : PB (w.alloc (.cells Tryz.zeroCells30 30)) w.heap.size (fun _ => 0) := by rw [zeroPos]; exact PB.new rfl
  have HN := Lib.hid hpn
  have HB0 := Lib.hid (below_new (w := w) (.cells Tryz.zeroCells30 30))
  clear hY hE hpn
  go_enter Tryz.func21, Tryz.ntmps21
  go_upto_region 1 with (fail)
  refine forget_B (fun W => PB W w.heap.size (fun _ => 0) ∧ Below w.heap.size w W) ⟨HN.out, HB0.out⟩ ?_
  clear HN HB0
  rintro W ⟨hp, hb⟩
  have HN := Lib.hid hp
  have HB0 := Lib.hid hb
  clear hp hb
  go_wp2_with fail
  refine (HEM.out _).mono ?_
  rintro e w1 ⟨rfl, hb1⟩
  have HN1 := Lib.hid (HN.out.go hb1)
  have HB1 := Lib.hid (HB0.out.trans (hb1.mono HB0.out.size))
  clear hb1 HN HB0
  go_wp2_with (refine wpList_new E emptyN HE.out (by rfl) (by rfl) ?_)
  intro W2 hp2 hb2 hz2
  have HS0 := Lib.hid (show PS w W2 w1.heap.size emptyN from ⟨HN1.out.go hb2, hp2, HB1.out.trans (hb2.mono HB1.out.size), HN1.out.lt⟩)
  have HZ2 := Lib.hid (show w1.heap.size < W2.heap.size by omega)
  clear hp2 hb2 hz2 HN1 HB1
  go_upto_region 3 with (fail)
  obtain ⟨sb, hsb⟩ : ∃ s, W2.heap.size = s := ⟨_, rfl⟩
  have hcell : ∀ i, i < 8 → (#[.int .i64 4, .int .i64 2, .int .i64 3, .int .i64 5, .int .i64 6, .int .i64 3, .int .i64 2, .int .i64 4] : Array Value)[i]? = some (.int .i64 (offN i)) := fun i hi => by
    rcases (show i = 0 ∨ i = 1 ∨ i = 2 ∨ i = 3 ∨ i = 4 ∨ i = 5 ∨ i = 6 ∨ i = 7 by omega) with rfl | rfl | rfl | rfl | rfl | rfl | rfl | rfl <;> rfl
  refine forget_B (fun W => PS2 w W w1.heap.size sb emptyN) ⟨HS0.out.go (below_new _), fun i hi => by rw [cell_of_row _ _ i _ _ (0, 0) (sl_at hsb.symm)]; exact hcell i hi, by rw [← hsb]; exact HZ2.out⟩ ?_
  clear HS0 HZ2 hcell
  rw [hsb]
  intro W3 hs
  have HS0 := Lib.hid hs
  clear hs hsb
  go_wp2
  go_loopw [3] (fun i wr => ∃ j : Nat, j ≤ 8 ∧ i = .int .i64 (j : Int) ∧ PS2 w wr w1.heap.size sb (mixS j)) (fun i _ => 8 - (intOf i).toNat)
  case atStart => exact ⟨0, Nat.zero_le _, rfl, ⟨HS0.out.s.congr mixS_zero, HS0.out.r, HS0.out.n⟩⟩
  case round =>
    clear HS0
    obtain ⟨j, hj, rfl, h1⟩ := hrel
    have HS := Lib.hid h1
    clear h1
    by_cases hlt : j < 8
    · have HST := Lib.hid (mixS_step j hlt)
      obtain ⟨k, hk⟩ : ∃ k, offN j = k := ⟨_, rfl⟩
      rw [hk] at HST
      generalize hP0 : mixS j = P0 at HS HST
      clear hP0
      have hm64 : j < 64 := by omega
      have hm0 : (0 : Int) ≤ j := by omega
      have hm1 : (j : Int) < 64 := by omega
      have e1 := HS.out.s.p.cell (j * 2) (by omega)
      have e2 := HS.out.s.p.cell (j * 2 + 1) (by omega)
      have e3 := HS.out.s.p.fr (j * 2)
      have e4 := HS.out.s.p.fr (j * 2 + 1)
      have es := HS.out.r j hlt
      rw [hk] at es
      generalize P0 (j * 2) = q1 at e1
      generalize P0 (j * 2 + 1) = q2 at e2
      go_upto_region 7 with (fail)
      obtain ⟨P1, hP1⟩ : ∃ Q, setN (setN P0 ((j) * 2) k) ((j) * 2 + 1) 0 = Q := ⟨_, rfl⟩
      have HP1 := Lib.hid hP1
      have hP1' : setN (setN P0 (j * 2) k) (j * 2 + 1) 0 = P1 := by rw [← hP1]
      clear hP1
      refine forget_B (fun W => PS2 w W w1.heap.size sb P1) (by
        have hs2 := (HS.out.set (j * 2) k (by omega)).set (j * 2 + 1) 0 (by omega)
        rw [hP1'] at hs2
        exact hs2) ?_
      clear HS e1 e2 e3 e4 es
      clear hP1'
      intro V0 hs
      have HS := Lib.hid hs
      clear hs hm64 hm0 hm1 
      obtain ⟨m, hm⟩ : ∃ m, 8 + j = m := ⟨_, rfl⟩
      have hz : 8 + (j : Int) = (m : Int) := by omega
      have hm64 : m < 64 := by omega
      have hm0 : (0 : Int) ≤ m := by omega
      have hm1 : (m : Int) < 64 := by omega
      have e1 := HS.out.s.p.cell (m * 2) (by omega)
      have e2 := HS.out.s.p.cell (m * 2 + 1) (by omega)
      have e3 := HS.out.s.p.fr (m * 2)
      have e4 := HS.out.s.p.fr (m * 2 + 1)
      generalize P1 (m * 2) = q1 at e1
      generalize P1 (m * 2 + 1) = q2 at e2
      go_upto_region 8 with (fail)
      obtain ⟨P2, hP2⟩ : ∃ Q, setN (setN P1 ((8 + j) * 2) 1) ((8 + j) * 2 + 1) 0 = Q := ⟨_, rfl⟩
      have HP2 := Lib.hid hP2
      have hP2' : setN (setN P1 (m * 2) 1) (m * 2 + 1) 0 = P2 := by rw [← hP2, hm]
      clear hP2
      refine forget_B (fun W => PS2 w W w1.heap.size sb P2) (by
        have hs2 := (HS.out.set (m * 2) 1 (by omega)).set (m * 2 + 1) 0 (by omega)
        rw [hP2'] at hs2
        exact hs2) ?_
      clear HS e1 e2 e3 e4 
      clear hP2'
      intro V1 hs
      have HS := Lib.hid hs
      clear hs hm64 hm0 hm1 hz hm
      obtain ⟨m, hm⟩ : ∃ m, 48 + j = m := ⟨_, rfl⟩
      have hz : 48 + (j : Int) = (m : Int) := by omega
      have hm64 : m < 64 := by omega
      have hm0 : (0 : Int) ≤ m := by omega
      have hm1 : (m : Int) < 64 := by omega
      have e1 := HS.out.s.p.cell (m * 2) (by omega)
      have e2 := HS.out.s.p.cell (m * 2 + 1) (by omega)
      have e3 := HS.out.s.p.fr (m * 2)
      have e4 := HS.out.s.p.fr (m * 2 + 1)
      generalize P2 (m * 2) = q1 at e1
      generalize P2 (m * 2 + 1) = q2 at e2
      go_upto_region 9 with (fail)
      obtain ⟨P3, hP3⟩ : ∃ Q, setN (setN P2 ((48 + j) * 2) 1) ((48 + j) * 2 + 1) 1 = Q := ⟨_, rfl⟩
      have HP3 := Lib.hid hP3
      have hP3' : setN (setN P2 (m * 2) 1) (m * 2 + 1) 1 = P3 := by rw [← hP3, hm]
      clear hP3
      refine forget_B (fun W => PS2 w W w1.heap.size sb P3) (by
        have hs2 := (HS.out.set (m * 2) 1 (by omega)).set (m * 2 + 1) 1 (by omega)
        rw [hP3'] at hs2
        exact hs2) ?_
      clear HS e1 e2 e3 e4 
      clear hP3'
      intro V2 hs
      have HS := Lib.hid hs
      clear hs hm64 hm0 hm1 hz hm
      obtain ⟨m, hm⟩ : ∃ m, 56 + j = m := ⟨_, rfl⟩
      have hz : 56 + (j : Int) = (m : Int) := by omega
      have hm64 : m < 64 := by omega
      have hm0 : (0 : Int) ≤ m := by omega
      have hm1 : (m : Int) < 64 := by omega
      have e1 := HS.out.s.p.cell (m * 2) (by omega)
      have e2 := HS.out.s.p.cell (m * 2 + 1) (by omega)
      have e3 := HS.out.s.p.fr (m * 2)
      have e4 := HS.out.s.p.fr (m * 2 + 1)
      have es := HS.out.r j hlt
      rw [hk] at es
      generalize P3 (m * 2) = q1 at e1
      generalize P3 (m * 2 + 1) = q2 at e2
      go_upto_region 5 with (fail)
      obtain ⟨P4, hP4⟩ : ∃ Q, setN (setN P3 ((56 + j) * 2) k) ((56 + j) * 2 + 1) 1 = Q := ⟨_, rfl⟩
      have HP4 := Lib.hid hP4
      have hP4' : setN (setN P3 (m * 2) k) (m * 2 + 1) 1 = P4 := by rw [← hP4, hm]
      clear hP4
      refine forget_B (fun W => PS2 w W w1.heap.size sb P4) (by
        have hs2 := (HS.out.set (m * 2) k (by omega)).set (m * 2 + 1) 1 (by omega)
        rw [hP4'] at hs2
        exact hs2) ?_
      clear HS e1 e2 e3 e4 es
      clear hP4'
      intro V3 hs
      have HS := Lib.hid hs
      clear hs hm64 hm0 hm1 hz hm
      have HEND := Lib.hid (show PS2 w V3 w1.heap.size sb (mixS (j + 1)) from ⟨HS.out.s.congr (fun i hi => by rw [← HP4.out, ← HP3.out, ← HP2.out, ← HP1.out]; exact HST.out i hi), HS.out.r, HS.out.n⟩)
      clear HS HST HP1 HP2 HP3 HP4
      go_wp2
      go_roundw
      case rel => exact ⟨j + 1, by omega, by go_num, HEND.out⟩
      case measure => simp [intOf]; omega
    · obtain rfl : j = 8 := by omega
      have e1 := HS.out.s.p.cell 129 (by omega)
      have e3 := HS.out.s.p.fr 129
      have HF := Lib.hid ((HS.out.s.set 129 15 (by omega)).congr (Q := startN) mixS_end)
      clear HS
      generalize mixS 8 129 = q1 at e1
      go_upto_region 11 with (fail)
      generalize wr.setCell ⟨w1.heap.size, 129, none⟩ (.int .i64 15) = W8 at HF ⊢
      refine wp_region_lit ?_
      refine wpList_pos (by rfl) _ (by rfl) w1.heap.size startN Y HY.out (by rfl) HF.out.p ?_
      refine wpList_store_mid rfl 30 _ _ rfl w.heap.size 0 (pc startN).toArray rfl (congrArg Value.agg HY.out) (by rw [pc_size]; exact HF.out.z.there) (by rw [infoPos, pc_size]) (pc_one _) ?_
      rw [List.toList_toArray]
      have HR := Lib.hid (HF.out.z.store (Q := startN)).range
      have HBB := Lib.hid (below_store (b := w.heap.size) startN HF.out.b (Nat.le_refl _) HF.out.b.size)
      clear HF
      generalize W8.setCells w.heap.size 0 (pc startN) = W9 at HR HBB ⊢
      show Exit.then _ _ Exit.normal _ _
      refine ret_go (by assumption) ?_
      refine bodyPost_ret (v := .agg (pc startN).toArray) ?_ rfl ⟨by rw [HY.out], HBB.out⟩
      exact results_cell_mid (p := 0) (ty := 30) rfl _ W9 w.heap.size _ _ rfl HR.out Tryz.underlying30 rfl (by rw [infoPos, pc_len])
end Go.Proofs.YtcdnakbdajbfoaaGreatDoor
