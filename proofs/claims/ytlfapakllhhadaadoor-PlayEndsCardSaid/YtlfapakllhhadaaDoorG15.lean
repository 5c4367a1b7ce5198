/-
  Merged: Dc, Dd.
-/
import Derived.Shelf.SortM.Plain
import Derived.Shelf.SortM.SortNone
import Derived.Shelf.SlGeneric
import Derived.Ground.SlgmProg
import Derived.Test.YtlfapakllhhadaaDoorDb
import Derived.OwnWalkIn
import Derived.TacticsInMore
import Derived.LoopIn
import Derived.Sort.OwnSortedInts

namespace Go.Proofs.YtlfapakllhhadaaDoor
open Go.RowKit Go.Sort
set_option linter.unusedSimpArgs false
set_option linter.unusedVariables false
set_option maxRecDepth 20000

def sort_ren : Go.Shelf.Ren := ⟨fun | 5 => 83 | 8 => 112 | 7 => 111 | 19 => 139 | 20 => 140 | 10 => 130 | 11 => 131 | 12 => 132 | 13 => 133 | 14 => 134 | 15 => 135 | 16 => 136 | 17 => 137 | 18 => 138 | 30 => 145 | 31 => 146 | 32 => 147 | 33 => 148 | 34 => 149 | 35 => 150 | 40 => 151 | n => n, fun | 23 => 32 | 25 => 3 | 3 => 3 | 32 => 123 | 22 => 32 | 0 => 0 | 44 => 149 | 46 => 151 | 4 => 4 | 36 => 141 | 35 => 140 | 41 => 146 | 5 => 5 | 9 => 9 | 53 => 155 | 57 => 159 | 63 => 161 | 64 => 128 | n => n, fun | n => n⟩
theorem sort_lays : Go.Proofs.SlLaysM.n5 Tryd.prog sort_ren := {
  mixed := by kernel_rfl
  f5 := ⟨Tryd.f83.name, by decide, Tryd.func83.trans (congrArg some (by kernel_rfl))⟩
  f7 := ⟨Tryd.f111.name, by decide, Tryd.func111.trans (congrArg some (by kernel_rfl))⟩
  f8 := Tryd.func112.trans (congrArg some (by kernel_rfl))
  f10 := ⟨Tryd.f130.name, by decide, Tryd.func130.trans (congrArg some (by kernel_rfl))⟩
  f11 := ⟨Tryd.f131.name, by decide, Tryd.func131.trans (congrArg some (by kernel_rfl))⟩
  f12 := ⟨Tryd.f132.name, by decide, Tryd.func132.trans (congrArg some (by kernel_rfl))⟩
  f13 := ⟨Tryd.f133.name, by decide, Tryd.func133.trans (congrArg some (by kernel_rfl))⟩
  f14 := ⟨Tryd.f134.name, by decide, Tryd.func134.trans (congrArg some (by kernel_rfl))⟩
  f15 := ⟨Tryd.f135.name, by decide, Tryd.func135.trans (congrArg some (by kernel_rfl))⟩
  f16 := ⟨Tryd.f136.name, by decide, Tryd.func136.trans (congrArg some (by kernel_rfl))⟩
  f17 := ⟨Tryd.f137.name, by decide, Tryd.func137.trans (congrArg some (by kernel_rfl))⟩
  f18 := ⟨Tryd.f138.name, by decide, Tryd.func138.trans (congrArg some (by kernel_rfl))⟩
  f19 := Tryd.func139.trans (congrArg some (by kernel_rfl))
  f20 := Tryd.func140.trans (congrArg some (by kernel_rfl))
  f30 := ⟨Tryd.f145.name, by decide, Tryd.func145.trans (congrArg some (by kernel_rfl))⟩
  f31 := Tryd.func146.trans (congrArg some (by kernel_rfl))
  f32 := Tryd.func147.trans (congrArg some (by kernel_rfl))
  f33 := ⟨Tryd.f148.name, by decide, Tryd.func148.trans (congrArg some (by kernel_rfl))⟩
  f34 := ⟨Tryd.f149.name, by decide, Tryd.func149.trans (congrArg some (by kernel_rfl))⟩
  f35 := ⟨Tryd.f150.name, by decide, Tryd.func150.trans (congrArg some (by kernel_rfl))⟩
  f40 := ⟨Tryd.f151.name, by decide, Tryd.func151.trans (congrArg some (by kernel_rfl))⟩
  t0 := Tryd.underlying0
  a0 := Tryd.isAgg0
  z0 := Tryd.sizeOf0
  v0 := Tryd.zeroValue0
  t3 := Tryd.underlying3
  a3 := Tryd.isAgg3
  z3 := Tryd.sizeOf3
  v3 := Tryd.zeroValue3
  t4 := Tryd.underlying4
  a4 := Tryd.isAgg4
  z4 := Tryd.sizeOf4
  v4 := Tryd.zeroValue4
  t5 := Tryd.underlying5
  a5 := Tryd.isAgg5
  z5 := Tryd.sizeOf5
  v5 := Tryd.zeroValue5
  t9 := Tryd.underlying9
  a9 := Tryd.isAgg9
  z9 := Tryd.sizeOf9
  v9 := Tryd.zeroValue9
  t22 := Tryd.underlying32
  a22 := Tryd.isAgg32
  z22 := Tryd.sizeOf32
  v22 := Tryd.zeroValue32
  t23 := Tryd.underlying32
  a23 := Tryd.isAgg32
  z23 := Tryd.sizeOf32
  v23 := Tryd.zeroValue32
  t25 := Tryd.underlying3
  a25 := Tryd.isAgg3
  z25 := Tryd.sizeOf3
  v25 := Tryd.zeroValue3
  t32 := Tryd.underlying123
  a32 := Tryd.isAgg123
  z32 := Tryd.sizeOf123
  v32 := Tryd.zeroValue123
  t35 := Tryd.underlying140
  a35 := Tryd.isAgg140
  z35 := Tryd.sizeOf140
  v35 := Tryd.zeroValue140
  t36 := Tryd.underlying141
  a36 := Tryd.isAgg141
  z36 := Tryd.sizeOf141
  v36 := Tryd.zeroValue141
  t41 := Tryd.underlying146
  a41 := Tryd.isAgg146
  z41 := Tryd.sizeOf146
  v41 := Tryd.zeroValue146
  t44 := Tryd.underlying149
  a44 := Tryd.isAgg149
  z44 := Tryd.sizeOf149
  v44 := Tryd.zeroValue149
  t46 := Tryd.underlying151
  a46 := Tryd.isAgg151
  z46 := Tryd.sizeOf151
  v46 := Tryd.zeroValue151
  t53 := Tryd.underlying155
  a53 := Tryd.isAgg155
  z53 := Tryd.sizeOf155
  v53 := Tryd.zeroValue155
  t57 := Tryd.underlying159
  a57 := Tryd.isAgg159
  z57 := Tryd.sizeOf159
  v57 := Tryd.zeroValue159
  t63 := Tryd.underlying161
  a63 := Tryd.isAgg161
  z63 := Tryd.sizeOf161
  v63 := Tryd.zeroValue161
  t64 := Tryd.underlying128
  a64 := Tryd.isAgg128
  z64 := Tryd.sizeOf128
  v64 := Tryd.zeroValue128 }
attribute [local go_sem] Oper.semAt_some

theorem wpListIn_append_lies {F : Fence} {n : Nat} {P : Program} (w : World) {ops : Array Oper} {rest : List Oper} {o : Oper} {a : Act} {Q : Exit → Act → World → Prop}
    (hg : o.guard = none) (s x : Operand) (t : TypeId) (hop : o.op = Op.call { callee := Callee.builtin Builtin.append, args := #[s, x], argTypes := #[t, t] })
    (base : Nat) (e : TypeId) (i : TypeInfo) (z : Value) (size bytes : Nat) (h1 : P.underlying t = some (.slice e)) (h2 : P.info? e = some i) (h3 : i.zero = some z) (h4 : i.size = size) (h5 : i.bytes = bytes) (h6 : z.cells.size = size) (h7 : 0 < size)
    (v : Value) (k : Nat) (xs : List Value) (hs : a.eval s = v) (hown : w.ownsRow base e size v k xs) (ad : Addr) (m c : Nat) (news : List Value) (hx : a.eval x = .slice (some ad) m c) (hn : news.length = m * size)
    (hc : ∀ j u, news[j]? = some u → w.cell? (ad.add j) = some u) (h1c : ∀ u ∈ news, u.oneCell' = true) (hm : 0 < m) (b1 : k + m ≤ maxLen) (b2 : (k + m) * bytes ≤ 140737488355328) (b3 : base ≤ w.heap.size) (H : Nat) (hH : w.heap.size = H)
    (hK : ∀ g cap w', w'.ownsRow base e size (.slice (some ⟨g, 0, none⟩) (k + m) cap) (k + m) (xs ++ news) → w.grownBy w' v.ownBlock → (v.ownBlock = some g ∨ g = H) → g < w'.heap.size → wpListIn F n P ops Q rest (a.put o.dst (.slice (some ⟨g, 0, none⟩) (k + m) cap)) w') :
    wpListIn F n P ops Q (o :: rest) a w := by
  refine wpListIn_plain hg fun K hK' => ?_
  obtain ⟨g, cap, w', hrun, r1, r2, r3, r4⟩ := run_append_lies (P := P) w t o.type base e i z size bytes h1 h2 h3 h4 h5 h6 h7 v k xs hown ad m c news hn hc h1c hm b1 b2 b3 H hH
  unfold Oper.wpIn
  refine ⟨?_, ?_⟩
  · simp [Oper.about, hop, resolve, Target.leads, Sem.run_pure]
  · rw [Oper.semAt_plain F _ _ (by rw [hop]; intro c hc'; cases hc')]
    simp [execOp, hop, resolve, invoke, builtin, hs, hx, hrun, Result.andThen]
    exact hK' _ _ (hK g cap w' r1 r2 r3 r4)
theorem owns_same {w w' : World} {base : Nat} {e : TypeId} {k : Nat} {v : Value} {n : Nat} {xs : List Value} (h : w.ownsRow base e k v n xs) (hs : ∀ g, v.ownBlock = some g → g < w.heap.size → w'.heap[g]? = w.heap[g]?) : w'.ownsRow base e k v n xs := by
  refine ⟨h.1, ?_⟩
  rcases h.2 with h2 | ⟨g, cap, cur, rfl, h1, h2, h3⟩
  · exact .inl h2
  · exact .inr ⟨g, cap, cur, rfl, h1, (hs g rfl (Array.getElem?_eq_some_iff.1 h2).1).trans h2, h3⟩
/-- what stands between two rounds: the row in its box -/
structure ApI (w : World) (t : TypeId) (pre : List Int) (X : Nat → Prop) (W : World) : Prop where
  below : Below w.heap.size w W
  box : ∃ v, W.heap[w.heap.size]? = some (.cells #[v] t (0, 0)) ∧ W.ownsRow w.heap.size 3 1 v pre.length (ivals pre) ∧ (v = .slice none 0 0 ↔ pre = []) ∧ ∀ k, X k ↔ k = w.heap.size ∨ v.ownBlock = some k
theorem ApI.lt {w : World} {t : TypeId} {pre : List Int} {X : Nat → Prop} {W : World} (h : ApI w t pre X W) : ∀ k, X k → k < W.heap.size := by
  obtain ⟨v, hv, hr, _, hx⟩ := h.box
  intro k hk
  rcases (hx k).1 hk with rfl | h1
  · exact (Array.getElem?_eq_some_iff.1 hv).1
  · exact (hr.lt k h1).2
theorem ApI.spare {w : World} {t : TypeId} {pre : List Int} {X : Nat → Prop} {A B : World} {n : Nat} (h : ApI w t pre X A) (hn : w.heap.size ≤ n) (hs : Spares n X A B) : ApI w t pre X B := by
  obtain ⟨v, hv, hr, hz, hx⟩ := h.box
  refine ⟨h.below.trans (hs.below h.below.size hn), v, (hs.block _ (Array.getElem?_eq_some_iff.1 hv).1 (.inr ((hx _).2 (.inl rfl)))).trans hv, owns_same hr fun g hg hl => hs.block g hl (.inr ((hx g).2 (.inr hg))), hz, hx⟩
set_option maxHeartbeats 2000000 in
set_option maxRecDepth 100000 in
theorem appendSeq_any (g : FuncId) (lb : Array Value) (eg : ∀ args w, (callFunc g args).run Tryd.prog w = .ok (.enter g args) w) (N : Nat → Prop) (xs : List Int) (hlen : xs.length ≤ 1000) (w : World) (hseq : Comes Tryd.prog g lb N (Value.int .i64) xs w) :
    Calls Tryd.prog 119 #[.slice none 0 0, .func (.func g) #[] lb] w fun e w' => ∃ v, e = .returned v ∧ Below w.heap.size w w' ∧ w'.ownsRow w.heap.size 3 1 v xs.length (ivals xs) := by
  obtain ⟨i0, hi, hz0, hz1, hz2⟩ := info_parts infoInt
  refine calls_of_marks Tryd.func119 rfl ?_
  simp only [Tryd.ntmps119, List.size_toArray, List.length_cons, List.length_nil, Nat.reduceAdd, Nat.reduceSub, Array.replicate_succ, Array.replicate_zero, List.push_toArray, List.append_toArray, List.nil_append, List.cons_append]
  go_wp2
  refine wp_range_over (gf := g) (lb := lb) rfl eg hseq (below_new _) rfl (fun pre X W => ApI w 32 pre X W) (fun _ _ _ _ => False)
    (fun s X A B h hs => h.spare (by simp) hs) (fun _ _ _ _ _ h _ => h) (fun s X A h => h.lt) (X0 := fun k => k = w.heap.size) ?start ?disj
    (fun x => { tmps := #[.slice none 0 0, .func (.func g) #[] lb, .pointer (some ⟨w.heap.size, 0, none⟩), undef, .slice none 0 0, .int .i64 x, .func (.func g) #[] lb, .int .i64 x, undef, undef, undef, undef, undef], defers := [] }) ?assign ?body ?done ?stop
  case start => exact ⟨below_new _, _, sl_at rfl, World.ownsRow_nil _ _ _ _, by simp, fun k => by simp [Value.ownBlock]⟩
  case disj =>
    rintro k rfl hk
    have := hseq.1 _ hk
    omega
  case assign =>
    intro l x W K hK
    gi_wp2
    exact hK
  case body =>
    intro l pre x X W h hpre _
    have hlp := hpre.length_le
    simp at hlp
    obtain ⟨v, hv, hrow, hz, hx⟩ := h.box
    have hB := h.below.size
    have hc : W.cell? ⟨w.heap.size, 0, none⟩ = some v := by rw [cell_of_row W _ 0 _ _ (0, 0) hv]; rfl
    have HX := Lib.hid hx
    have HV := Lib.hid hv
    have HH := Lib.hid h
    clear hx hz h
    have hne : v.ownBlock ≠ some w.heap.size := owns_off hrow hv (by decide)
    gi_wp2_with (gi_at_builtin; refine wpListIn_append_lies _ rfl _ _ 32 rfl w.heap.size 3 i0 (.int .i64 0) 1 8 Tryd.underlying32 hi hz0 hz1 hz2 rfl (by decide) _ _ _ rfl (owns_go hrow ((Below.refl _ _).alloc (Nat.le_refl _) _)) ⟨W.heap.size, 0, none⟩ 1 1 [.int .i64 x] rfl rfl (World.news_of_block (heap_alloc_new _ _)) (by intro y hy; simp at hy; subst hy; rfl) (by decide) (by unfold maxLen; omega) (by omega) (by simp; omega) (W.heap.size + 1) (by simp) ?_; intro g1 cap1 w1 hown1 hgrow1 hat1 hlt1; have hv1 := sl_grown (al_old hv _) hgrow1 hne; have hc1 : w1.cell? ⟨w.heap.size, 0, none⟩ = some v := (by rw [cell_of_row w1 _ 0 _ _ (0, 0) hv1]; rfl); have hf1 := frozen_of_row w1 w.heap.size 0 _ _ hv1)
    rw [ivals_snoc] at hown1
    have hne1 : (Value.slice (some ⟨g1, 0, none⟩) (pre.length + 1) cap1).ownBlock ≠ some w.heap.size := owns_off hown1 hv1 (by decide)
    refine ⟨fun k => k = w.heap.size ∨ some g1 = some k, ?_, ?_, ?_, ?_⟩
    · have hg0 : W.grownBy w1 v.ownBlock := ⟨hgrow1.os, hgrow1.tape, hgrow1.output, Nat.le_trans (by simp) hgrow1.size, fun k hk hn => (hgrow1.block k (by simp; omega) hn).trans (heap_alloc_old W _ hk)⟩
      refine ⟨hg0.os, hg0.tape, hg0.output, by rw [World.size_setCell]; exact hg0.size, fun k hk hn => ?_⟩
      rw [Below.heap_setCell _ _ _ k (fun e => hn ((HX.out k).2 (.inl e)))]
      exact hg0.block k hk (fun e => hn ((HX.out k).2 (.inr e.symm)))
    · rintro k (rfl | hk)
      · exact .inl ((HX.out _).2 (.inl rfl))
      · rcases hat1 with h1 | h1
        · exact .inl ((HX.out _).2 (.inr (h1.trans hk)))
        · right; cases hk; omega
    · have hb1 : Below w.heap.size w w1 := (HH.out.below.alloc hB _).grown hgrow1 (by simp; omega) (fun k e => (hrow.lt k e).1)
      exact hb1.setCell (p := ⟨w.heap.size, 0, none⟩) (Nat.le_refl _) _
    · refine ⟨_, Go.heap_setCell_same w1 w.heap.size 0 _ _ _ hv1, ?_, by simp, fun k => Iff.rfl⟩
      rw [List.length_append]
      exact owns_same hown1 fun g hg hl => Below.heap_setCell _ _ _ g (fun e => by rw [e] at hg; exact hne1 hg)
  case done =>
    intro Y W h hK _ h2
    obtain ⟨v, hv, hrow, _, _⟩ := h.box
    have hc : W.cell? ⟨w.heap.size, 0, none⟩ = some v := by rw [cell_of_row W _ 0 _ _ (0, 0) hv]; rfl
    obtain ⟨v2, hv2, hrow2, _, _⟩ := h2.box
    have e2 : v2 = v := by
      have h3 := (World.putObj_heap_other (w := W) (o := .deferred none) (k := w.heap.size) (r := (w.alloc (.cells #[.slice none 0 0] 32)).heap.size) (by simp)).trans hv
      rw [h3] at hv2
      simpa using hv2.symm
    subst e2
    have HR := Lib.hid hrow2
    have HB := Lib.hid h2.below
    clear hv hrow h2 h hv2 hrow2
    go_wp2
    refine ⟨by simp, .inl ⟨_, _, rfl, run_takeDeferred hK, ?_⟩⟩
    exact ⟨_, results_tmp rfl _ _ _, v2, rfl, HB.out, HR.out⟩
  case stop =>
    intro c pre Y W _ h
    exact h.elim
theorem collect_any (g : FuncId) (lb : Array Value) (eg : ∀ args w, (callFunc g args).run Tryd.prog w = .ok (.enter g args) w) (N : Nat → Prop) (xs : List Int) (hlen : xs.length ≤ 1000) (w : World) (hseq : Comes Tryd.prog g lb N (Value.int .i64) xs w) :
    Calls Tryd.prog 91 #[.func (.func g) #[] lb] w fun e w' => ∃ v, e = .returned v ∧ Below w.heap.size w w' ∧ w'.ownsRow w.heap.size 3 1 v xs.length (ivals xs) := by
  have HA := Lib.hid (appendSeq_any g lb eg N xs hlen w hseq)
  clear hseq
  go_enter Tryd.func91, Tryd.ntmps91
  go_wp2_with fail
  refine HA.out.mono ?_
  rintro e w1 ⟨v, rfl, hb, hown⟩
  have HB := Lib.hid hb
  have HO := Lib.hid hown
  clear hb hown HA
  go_wp2
  go_ret
  exact ⟨v, rfl, HB.out, HO.out⟩
/-- rising -/
def risen (xs : List Int) : List Int := xs.mergeSort fun x y => decide (x ≤ y)
theorem risen_len (xs : List Int) : (risen xs).length = xs.length := by simp [risen]
set_option maxHeartbeats 1000000 in
theorem sorted_any (g : FuncId) (lb : Array Value) (eg : ∀ args w, (callFunc g args).run Tryd.prog w = .ok (.enter g args) w) (N : Nat → Prop) (xs : List Int) (hlen : xs.length ≤ 1000) (w : World) (hseq : Comes Tryd.prog g lb N (Value.int .i64) xs w) :
    Calls Tryd.prog 57 #[.func (.func g) #[] lb] w fun e w' => ∃ v, e = .returned v ∧ Below w.heap.size w w' ∧ w'.ownsRow w.heap.size 3 1 v (risen xs).length (ivals (risen xs)) := by
  have HA := Lib.hid (collect_any g lb eg N xs hlen w hseq)
  clear hseq
  go_enter Tryd.func57, Tryd.ntmps57
  go_wp2_with fail
  refine HA.out.mono ?_
  rintro e w1 ⟨v, rfl, hb, hown⟩
  have HB := Lib.hid hb
  have HO := Lib.hid hown
  clear hb HA
  rcases hown.2 with ⟨rfl, hz⟩ | ⟨gb, cap, cur, rfl, hbase, hgb, r1, r2, r3, r4⟩
  · obtain rfl : xs = [] := List.eq_nil_of_length_eq_zero hz
    clear hown
    have cS : Calls Tryd.prog 83 #[.slice none 0 0] w1 fun e w' => e = .returned (.tuple #[]) ∧ w' = w1 := AnyM.slices_Sort_int_none sort_lays none 0 w1
    go_wp2_with fail
    refine cS.mono ?_
    rintro e w' ⟨rfl, rfl⟩
    go_wp2
    go_ret
    exact ⟨.slice none 0 0, rfl, HB.out, by rw [show risen [] = [] by simp [risen]]; exact HO.out⟩
  · have hH : Holds (Value.int .i64) w1 gb 0 xs.toArray := holds_of_blockI hgb (by simpa [ivals] using r4)
    have cS : Calls Tryd.prog 83 #[.slice (some ⟨gb, 0, none⟩) xs.length cap] w1 fun e w' => e = .returned (.tuple #[]) ∧ ∃ n os, w' = grow (putRow (Value.int .i64) (Sort.ahead w1 n) gb 0 (risen xs).toArray) os :=
      AnyM.slices_Sort_int sort_lays gb 0 cap xs w1 hH (Array.getElem?_eq_some_iff.1 hgb).1 (by omega)
    have HS := Lib.hid (fun n os => ownsRow_sortedI (n := n) (os := os) (risen_len xs) hbase hgb r1 r2 r3)
    have HG := Lib.hid (fun n os => HB.out.grown (grownBy_sortedI (w := w1) (g := gb) (n := n) (os := os) (risen xs).toArray) HB.out.size (fun j hj => by cases hj; exact hbase))
    clear hown r1 r2 r3 r4 hbase hgb hH HO HB
    go_wp2_with fail
    refine cS.mono ?_
    rintro e w' ⟨rfl, n, os, hw⟩
    have HS2 := Lib.hid (HS.out n os)
    have HG2 := Lib.hid (HG.out n os)
    rw [← hw] at HS2 HG2
    clear hw HS HG cS
    go_wp2
    go_ret
    exact ⟨_, rfl, HG2.out, by rw [risen_len]; exact HS2.out⟩
end Go.Proofs.YtlfapakllhhadaaDoor

namespace Go.Proofs.YtlfapakllhhadaaDoor
open Go.RowKit Go.Sort
set_option linter.unusedSimpArgs false
set_option linter.unusedVariables false

def stN (i : Nat) : Int := [1, 0, -1, 0, 0, 1, 0, -1, -1, 1, 1, 1, -1, -1, 1, -1, -1, -2, 1, -2, -2, -1, 2, -1, -2, 1, 2, 1, -1, 2, 1, 2].getD i 0
def dF (i : Nat) : Int := stN (i * 2)
def dR (i : Nat) : Int := stN (i * 2 + 1)
theorem stN_small : ∀ i, i < 32 → -2 ≤ stN i ∧ stN i ≤ 2 := by decide
theorem dF_I (i : Nat) (h : i < 16) : I64 (dF i) := by have := stN_small (i * 2) (by omega); unfold I64 dF; omega
theorem dR_I (i : Nat) (h : i < 16) : I64 (dR i) := by have := stN_small (i * 2 + 1) (by omega); unfold I64 dR; omega
def rayN (i : Nat) : Nat → Int → List Int
  | 0, _ => []
  | n + 1, t => if sq t then t :: rayN i n (stp t (dF i) (dR i)) else []
/-- a square, and those on a way from it on -/
def ray (i : Nat) (t : Int) : List Int := rayN i 8 t
theorem ray_on0 : ∀ i, i < 16 → ∀ t, t < 64 → ray i ((t : Nat) : Int) = (t : Int) :: ray i (stp (t : Int) (dF i) (dR i)) := by decide +kernel
theorem ray_on (i : Nat) (hi : i < 16) (t : Int) (ht : sq t = true) : ray i t = t :: ray i (stp t (dF i) (dR i)) := by
  obtain ⟨h0, h1⟩ := (sq_iff t).1 ht
  obtain ⟨n, rfl⟩ := Int.eq_ofNat_of_zero_le h0
  exact ray_on0 i hi n (by omega)
theorem ray_off (i : Nat) (t : Int) (ht : sq t = false) : ray i t = [] := by unfold ray rayN; simp [ht]
/-- up to the first on which something stands, if it goes on at all -/
def cut (occ : Nat → Bool) (far : Bool) : List Int → List Int
  | [] => []
  | x :: r => x :: (if far && !occ x.toNat then cut occ far r else [])
/-- what is attacked on way i -/
def wayL (P : Nat → Int) (s k d : Int) (i : Nat) : List Int := cut (occB P) (gFar k d) (ray i (stp s (dF i) (dR i)))
def attUp (P : Nat → Int) (s k d : Int) (n : Nat) : List Int := (List.range n).flatMap fun i => wayL P s k d (gFrom k d + i)
/-- what a piece attacks, way by way -/
def attL (P : Nat → Int) (s k d : Int) : List Int := attUp P s k d (gTo k d - gFrom k d)
theorem attUp_succ (P : Nat → Int) (s k d : Int) (n : Nat) : attUp P s k d (n + 1) = attUp P s k d n ++ wayL P s k d (gFrom k d + n) := by
  unfold attUp; rw [List.range_succ, List.flatMap_append]; simp
theorem attUp_pre (P : Nat → Int) (s k d : Int) {n m : Nat} (h : n ≤ m) : attUp P s k d n <+: attUp P s k d m := by
  induction m with
  | zero => obtain rfl : n = 0 := by omega
            exact List.prefix_refl _
  | succ m ih =>
    rcases (show n ≤ m ∨ n = m + 1 by omega) with h1 | rfl
    · rw [attUp_succ]; exact (ih h1).trans (List.prefix_append _ _)
    · exact List.prefix_refl _
theorem rayN_sq (i : Nat) : ∀ (n : Nat) (t x : Int), x ∈ rayN i n t → sq x = true
  | 0, _, _, h => by cases h
  | n + 1, t, x, h => by
    unfold rayN at h
    split at h
    · rename_i hs
      rcases List.mem_cons.1 h with rfl | h
      · exact hs
      · exact rayN_sq i n _ x h
    · cases h
theorem cut_mem (occ : Nat → Bool) (far : Bool) : ∀ (l : List Int) (x : Int), x ∈ cut occ far l → x ∈ l
  | [], _, h => h
  | y :: r, x, h => by
    unfold cut at h
    rcases List.mem_cons.1 h with rfl | h
    · exact List.mem_cons_self ..
    · split at h
      · exact List.mem_cons_of_mem _ (cut_mem occ far r x h)
      · cases h
theorem attL_sq (P : Nat → Int) (s k d x : Int) (h : x ∈ attL P s k d) : sq x = true := by
  unfold attL attUp wayL at h
  obtain ⟨i, _, h⟩ := List.mem_flatMap.1 h
  exact rayN_sq _ _ _ _ (cut_mem _ _ _ _ h)
theorem gait_small (k d : Int) : gFrom k d ≤ gTo k d ∧ gTo k d ≤ 16 := by
  unfold gFrom gTo
  cases sideB d <;> simp
  repeat' split
  all_goals omega
/-- the steps' table -/
structure GS (B : Nat) (w : World) : Prop where
  lt : 0 < B
  cell : ∀ i, i < 32 → w.cell? ⟨0, i, none⟩ = some (.int .i64 (stN i))
theorem GS.below {B : Nat} {w w' : World} (h : GS B w) (g : Below B w w') : GS B w' :=
  ⟨h.lt, fun i hi => by rw [g.cell (p := ⟨0, i, none⟩) h.lt]; exact h.cell i hi⟩
theorem GS.mono {B B' : Nat} {w : World} (h : GS B w) (hb : B ≤ B') : GS B' w := ⟨Nat.lt_of_lt_of_le h.lt hb, h.cell⟩
theorem GS.same {B : Nat} {w w' : World} (h : GS B w) (e : w'.heap[0]? = w.heap[0]?) : GS B w' :=
  ⟨h.lt, fun i hi => by rw [World.cell?_of_block (a := ⟨0, i, none⟩) e]; exact h.cell i hi⟩
theorem PB.same {w w' : World} {b : Nat} {P : Nat → Int} (h : PB w b P) (hs : w.heap.size ≤ w'.heap.size) (e : w'.heap[b]? = w.heap[b]?) : PB w' b P :=
  ⟨Nat.lt_of_lt_of_le h.lt hs, fun i hi => by rw [World.cell?_of_block (a := ⟨b, i, none⟩) e]; exact h.cell i hi, fun i => by rw [World.frozen?_of_block (a := ⟨b, i, none⟩) e]; exact h.fr i⟩
/-- what the iterator reads -/
structure AR (b fb sb : Nat) (P : Nat → Int) (s : Int) (W : World) : Prop where
  f : W.heap[fb]? = some (.cells #[.pointer (some ⟨b, 0, none⟩)] 101 (0, 0))
  s : W.heap[sb]? = some (.cells #[.int .i64 s] 3 (0, 0))
  p : PB W b P
  t : GS W.heap.size W
/-- .. the blocks -/
def AN (b fb sb xb : Nat) (k : Nat) : Prop := k = b ∨ k = fb ∨ k = sb ∨ k = xb ∨ k = 0
theorem AR.turn {b fb sb xb : Nat} {P : Nat → Int} {s : Int} {X : Nat → Prop} {A B : World} (h : AR b fb sb P s A) (hx : ∀ k, X k → ¬ AN b fb sb xb k) (ht : Turns X A B) : AR b fb sb P s B :=
  ⟨(ht.block _ (al_lt h.f) (fun e => hx _ e (.inr (.inl rfl)))).trans h.f, (ht.block _ (al_lt h.s) (fun e => hx _ e (.inr (.inr (.inl rfl))))).trans h.s,
   h.p.same ht.size (ht.block _ h.p.lt (fun e => hx _ e (.inl rfl))), (h.t.same (ht.block _ h.t.lt (fun e => hx _ e (.inr (.inr (.inr (.inr rfl))))))).mono ht.size⟩
theorem AR.go {b fb sb : Nat} {P : Nat → Int} {s : Int} {A B : World} (h : AR b fb sb P s A) (g : Below A.heap.size A B) : AR b fb sb P s B :=
  ⟨sl_go h.f g, sl_go h.s g, h.p.go g, (h.t.below g).mono g.size⟩
theorem AR.reads (b fb sb xb : Nat) (P : Nat → Int) (s : Int) : ∀ Y A B, AR b fb sb P s A → (∀ q, Y q → ¬ AN b fb sb xb q) → Turns Y A B → AR b fb sb P s B := fun _ _ _ h hx ht => h.turn hx ht
theorem row1 {W : World} {H : Nat} {a : Value} {t : TypeId} (h : W.heap[H]? = some (.cells #[a] t (0, 0))) : W.cell? ⟨H, 0, none⟩ = some a ∧ (∀ o, W.frozen? ⟨H, o, none⟩ = false) ∧ H < W.heap.size :=
  ⟨by rw [cell_of_row W H 0 _ _ (0, 0) h]; rfl, fun o => frozen_of_row W H o _ _ h, al_lt h⟩
theorem attacked_any (b : Nat) (s k d : Int) (w : World) :
    Calls Tryd.prog 58 #[.pointer (some ⟨b, 0, none⟩), .int .i64 s, .agg #[.int .i64 k, .int .i64 d]] w fun e w' =>
      e = .returned (.func (.func 92) #[] #[.pointer (some ⟨w.heap.size + 2, 0, none⟩), .pointer (some ⟨w.heap.size + 1, 0, none⟩), .pointer (some ⟨w.heap.size, 0, none⟩)]) ∧
      w' = ((w.alloc (.cells #[.pointer (some ⟨b, 0, none⟩)] 101)).alloc (.cells #[.int .i64 s] 3)).alloc (.cells #[.int .i64 k, .int .i64 d] 25) := by
  go_enter Tryd.func58, Tryd.ntmps58
  go_wp2
  go_ret
  exact ⟨rfl, rfl⟩
end Go.Proofs.YtlfapakllhhadaaDoor
