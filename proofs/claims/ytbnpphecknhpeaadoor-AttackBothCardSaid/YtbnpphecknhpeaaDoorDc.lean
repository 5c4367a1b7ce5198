/-
  slices.Sorted of an iterator's elements.
-/
import Derived.Shelf.SortM.Plain
import Derived.Shelf.SortM.SortNone
import Derived.Shelf.SlGeneric
import Derived.Ground.SlgmProg
import Derived.Test.YtbnpphecknhpeaaDoorDb
import Derived.OwnWalkIn
import Derived.TacticsInMore
import Derived.LoopIn
import Derived.Sort.OwnSortedInts
namespace Go.Proofs.YtbnpphecknhpeaaDoor
open Go.RowKit Go.Sort
set_option linter.unusedSimpArgs false
set_option linter.unusedVariables false

def sort_ren : Go.Shelf.Ren := ⟨fun | 5 => 41 | 8 => 59 | 7 => 58 | 19 => 74 | 20 => 75 | 10 => 65 | 11 => 66 | 12 => 67 | 13 => 68 | 14 => 69 | 15 => 70 | 16 => 71 | 17 => 72 | 18 => 73 | 30 => 77 | 31 => 78 | 32 => 79 | 33 => 80 | 34 => 81 | 35 => 82 | 40 => 83 | n => n, fun | 23 => 30 | 25 => 3 | 3 => 3 | 32 => 84 | 22 => 30 | 0 => 0 | 44 => 100 | 46 => 102 | 4 => 4 | 36 => 92 | 35 => 91 | 41 => 97 | 5 => 5 | 9 => 9 | 53 => 104 | 57 => 108 | 63 => 110 | 64 => 77 | n => n, fun | n => n⟩
theorem sort_lays : Go.Proofs.SlLaysM.n5 Tryd.prog sort_ren := {
  mixed := by kernel_rfl
  f5 := ⟨Tryd.f41.name, by decide, Tryd.func41.trans (congrArg some (by kernel_rfl))⟩
  f7 := ⟨Tryd.f58.name, by decide, Tryd.func58.trans (congrArg some (by kernel_rfl))⟩
  f8 := Tryd.func59.trans (congrArg some (by kernel_rfl))
  f10 := ⟨Tryd.f65.name, by decide, Tryd.func65.trans (congrArg some (by kernel_rfl))⟩
  f11 := ⟨Tryd.f66.name, by decide, Tryd.func66.trans (congrArg some (by kernel_rfl))⟩
  f12 := ⟨Tryd.f67.name, by decide, Tryd.func67.trans (congrArg some (by kernel_rfl))⟩
  f13 := ⟨Tryd.f68.name, by decide, Tryd.func68.trans (congrArg some (by kernel_rfl))⟩
  f14 := ⟨Tryd.f69.name, by decide, Tryd.func69.trans (congrArg some (by kernel_rfl))⟩
  f15 := ⟨Tryd.f70.name, by decide, Tryd.func70.trans (congrArg some (by kernel_rfl))⟩
  f16 := ⟨Tryd.f71.name, by decide, Tryd.func71.trans (congrArg some (by kernel_rfl))⟩
  f17 := ⟨Tryd.f72.name, by decide, Tryd.func72.trans (congrArg some (by kernel_rfl))⟩
  f18 := ⟨Tryd.f73.name, by decide, Tryd.func73.trans (congrArg some (by kernel_rfl))⟩
  f19 := Tryd.func74.trans (congrArg some (by kernel_rfl))
  f20 := Tryd.func75.trans (congrArg some (by kernel_rfl))
  f30 := ⟨Tryd.f77.name, by decide, Tryd.func77.trans (congrArg some (by kernel_rfl))⟩
  f31 := Tryd.func78.trans (congrArg some (by kernel_rfl))
  f32 := Tryd.func79.trans (congrArg some (by kernel_rfl))
  f33 := ⟨Tryd.f80.name, by decide, Tryd.func80.trans (congrArg some (by kernel_rfl))⟩
  f34 := ⟨Tryd.f81.name, by decide, Tryd.func81.trans (congrArg some (by kernel_rfl))⟩
  f35 := ⟨Tryd.f82.name, by decide, Tryd.func82.trans (congrArg some (by kernel_rfl))⟩
  f40 := ⟨Tryd.f83.name, by decide, Tryd.func83.trans (congrArg some (by kernel_rfl))⟩
  t0 := Tryd.underlying0
  a0 := Tryd.isAgg0
  z0 := Tryd.sizeOf0
  v0 := Tryd.zeroValue0
  t3 := Tryd.underlying3
  a3 := Tryd.isAgg3
  z3 := Tryd.sizeOf3
  v3 := Tryd.zeroValue3
  t4 := Tryd.underlying4
  a4 := Tryd.isAgg4
  z4 := Tryd.sizeOf4
  v4 := Tryd.zeroValue4
  t5 := Tryd.underlying5
  a5 := Tryd.isAgg5
  z5 := Tryd.sizeOf5
  v5 := Tryd.zeroValue5
  t9 := Tryd.underlying9
  a9 := Tryd.isAgg9
  z9 := Tryd.sizeOf9
  v9 := Tryd.zeroValue9
  t22 := Tryd.underlying30
  a22 := Tryd.isAgg30
  z22 := Tryd.sizeOf30
  v22 := Tryd.zeroValue30
  t23 := Tryd.underlying30
  a23 := Tryd.isAgg30
  z23 := Tryd.sizeOf30
  v23 := Tryd.zeroValue30
  t25 := Tryd.underlying3
  a25 := Tryd.isAgg3
  z25 := Tryd.sizeOf3
  v25 := Tryd.zeroValue3
  t32 := Tryd.underlying84
  a32 := Tryd.isAgg84
  z32 := Tryd.sizeOf84
  v32 := Tryd.zeroValue84
  t35 := Tryd.underlying91
  a35 := Tryd.isAgg91
  z35 := Tryd.sizeOf91
  v35 := Tryd.zeroValue91
  t36 := Tryd.underlying92
  a36 := Tryd.isAgg92
  z36 := Tryd.sizeOf92
  v36 := Tryd.zeroValue92
  t41 := Tryd.underlying97
  a41 := Tryd.isAgg97
  z41 := Tryd.sizeOf97
  v41 := Tryd.zeroValue97
  t44 := Tryd.underlying100
  a44 := Tryd.isAgg100
  z44 := Tryd.sizeOf100
  v44 := Tryd.zeroValue100
  t46 := Tryd.underlying102
  a46 := Tryd.isAgg102
  z46 := Tryd.sizeOf102
  v46 := Tryd.zeroValue102
  t53 := Tryd.underlying104
  a53 := Tryd.isAgg104
  z53 := Tryd.sizeOf104
  v53 := Tryd.zeroValue104
  t57 := Tryd.underlying108
  a57 := Tryd.isAgg108
  z57 := Tryd.sizeOf108
  v57 := Tryd.zeroValue108
  t63 := Tryd.underlying110
  a63 := Tryd.isAgg110
  z63 := Tryd.sizeOf110
  v63 := Tryd.zeroValue110
  t64 := Tryd.underlying77
  a64 := Tryd.isAgg77
  z64 := Tryd.sizeOf77
  v64 := Tryd.zeroValue77 }
attribute [local go_sem] Oper.semAt_some

theorem wpListIn_append_lies {F : Fence} {n : Nat} {P : Program} (w : World) {ops : Array Oper} {rest : List Oper} {o : Oper} {a : Act} {Q : Exit → Act → World → Prop}
    (hg : o.guard = none) (s x : Operand) (t : TypeId) (hop : o.op = Op.call { callee := Callee.builtin Builtin.append, args := #[s, x], argTypes := #[t, t] })
    (base : Nat) (e : TypeId) (i : TypeInfo) (z : Value) (size bytes : Nat) (h1 : P.underlying t = some (.slice e)) (h2 : P.info? e = some i) (h3 : i.zero = some z) (h4 : i.size = size) (h5 : i.bytes = bytes) (h6 : z.cells.size = size) (h7 : 0 < size)
    (v : Value) (k : Nat) (xs : List Value) (hs : a.eval s = v) (hown : w.ownsRow base e size v k xs) (ad : Addr) (m c : Nat) (news : List Value) (hx : a.eval x = .slice (some ad) m c) (hn : news.length = m * size)
    (hc : ∀ j u, news[j]? = some u → w.cell? (ad.add j) = some u) (h1c : ∀ u ∈ news, u.oneCell' = true) (hm : 0 < m) (b1 : k + m ≤ maxLen) (b2 : (k + m) * bytes ≤ 140737488355328) (b3 : base ≤ w.heap.size) (H : Nat) (hH : w.heap.size = H)
    (hK : ∀ g cap w', w'.ownsRow base e size (.slice (some ⟨g, 0, none⟩) (k + m) cap) (k + m) (xs ++ news) → w.grownBy w' v.ownBlock → (v.ownBlock = some g ∨ g = H) → g < w'.heap.size → wpListIn F n P ops Q rest (a.put o.dst (.slice (some ⟨g, 0, none⟩) (k + m) cap)) w') :
    wpListIn F n P ops Q (o :: rest) a w := by
  refine wpListIn_plain hg fun K hK' => ?_
  obtain ⟨g, cap, w', hrun, r1, r2, r3, r4⟩ := run_append_lies (P := P) w t o.type base e i z size bytes h1 h2 h3 h4 h5 h6 h7 v k xs hown ad m c news hn hc h1c hm b1 b2 b3 H hH
  unfold Oper.wpIn
  refine ⟨?_, ?_⟩
  · simp [Oper.about, hop, resolve, Target.leads, Sem.run_pure]
  · rw [Oper.semAt_plain F _ _ (by rw [hop]; intro c hc'; cases hc')]
    simp [execOp, hop, resolve, invoke, builtin, hs, hx, hrun, Result.andThen]
    exact hK' _ _ (hK g cap w' r1 r2 r3 r4)
theorem owns_same {w w' : World} {base : Nat} {e : TypeId} {k : Nat} {v : Value} {n : Nat} {xs : List Value} (h : w.ownsRow base e k v n xs) (hs : ∀ g, v.ownBlock = some g → g < w.heap.size → w'.heap[g]? = w.heap[g]?) : w'.ownsRow base e k v n xs := by
  refine ⟨h.1, ?_⟩
  rcases h.2 with h2 | ⟨g, cap, cur, rfl, h1, h2, h3⟩
  · exact .inl h2
  · exact .inr ⟨g, cap, cur, rfl, h1, (hs g rfl (Array.getElem?_eq_some_iff.1 h2).1).trans h2, h3⟩
/-- what stands between two rounds: the row in its box -/
structure ApI (w : World) (t : TypeId) (pre : List Int) (X : Nat → Prop) (W : World) : Prop where
  below : Below w.heap.size w W
  box : ∃ v, W.heap[w.heap.size]? = some (.cells #[v] t (0, 0)) ∧ W.ownsRow w.heap.size 3 1 v pre.length (ivals pre) ∧ (v = .slice none 0 0 ↔ pre = []) ∧ ∀ k, X k ↔ k = w.heap.size ∨ v.ownBlock = some k
theorem ApI.lt {w : World} {t : TypeId} {pre : List Int} {X : Nat → Prop} {W : World} (h : ApI w t pre X W) : ∀ k, X k → k < W.heap.size := by
  obtain ⟨v, hv, hr, _, hx⟩ := h.box
  intro k hk
  rcases (hx k).1 hk with rfl | h1
  · exact (Array.getElem?_eq_some_iff.1 hv).1
  · exact (hr.lt k h1).2
theorem ApI.spare {w : World} {t : TypeId} {pre : List Int} {X : Nat → Prop} {A B : World} {n : Nat} (h : ApI w t pre X A) (hn : w.heap.size ≤ n) (hs : Spares n X A B) : ApI w t pre X B := by
  obtain ⟨v, hv, hr, hz, hx⟩ := h.box
  refine ⟨h.below.trans (hs.below h.below.size hn), v, (hs.block _ (Array.getElem?_eq_some_iff.1 hv).1 (.inr ((hx _).2 (.inl rfl)))).trans hv, owns_same hr fun g hg hl => hs.block g hl (.inr ((hx g).2 (.inr hg))), hz, hx⟩
set_option maxHeartbeats 2000000 in
set_option maxRecDepth 100000 in
theorem appendSeq_any (g : FuncId) (lb : Array Value) (eg : ∀ args w, (callFunc g args).run Tryd.prog w = .ok (.enter g args) w) (N : Nat → Prop) (xs : List Int) (hlen : xs.length ≤ 1000) (w : World) (hseq : Comes Tryd.prog g lb N (Value.int .i64) xs w) :
    Calls Tryd.prog 57 #[.slice none 0 0, .func (.func g) #[] lb] w fun e w' => ∃ v, e = .returned v ∧ Below w.heap.size w w' ∧ w'.ownsRow w.heap.size 3 1 v xs.length (ivals xs) := by
  obtain ⟨i0, hi, hz0, hz1, hz2⟩ := info_parts infoInt
  refine calls_of_marks Tryd.func57 rfl ?_
  simp only [Tryd.ntmps57, List.size_toArray, List.length_cons, List.length_nil, Nat.reduceAdd, Nat.reduceSub, Array.replicate_succ, Array.replicate_zero, List.push_toArray, List.append_toArray, List.nil_append, List.cons_append]
  go_wp2
  refine wp_range_over (gf := g) (lb := lb) rfl eg hseq (below_new _) rfl (fun pre X W => ApI w 30 pre X W) (fun _ _ _ _ => False)
    (fun s X A B h hs => h.spare (by simp) hs) (fun _ _ _ _ _ h _ => h) (fun s X A h => h.lt) (X0 := fun k => k = w.heap.size) ?start ?disj
    (fun x => { tmps := #[.slice none 0 0, .func (.func g) #[] lb, .pointer (some ⟨w.heap.size, 0, none⟩), undef, .slice none 0 0, .int .i64 x, .func (.func g) #[] lb, .int .i64 x, undef, undef, undef, undef, undef], defers := [] }) ?assign ?body ?done ?stop
  case start => exact ⟨below_new _, _, sl_at rfl, World.ownsRow_nil _ _ _ _, by simp, fun k => by simp [Value.ownBlock]⟩
  case disj =>
    rintro k rfl hk
    have := hseq.1 _ hk
    omega
  case assign =>
    intro l x W K hK
    gi_wp2
    exact hK
  case body =>
    intro l pre x X W h hpre _
    have hlp := hpre.length_le
    simp at hlp
    obtain ⟨v, hv, hrow, hz, hx⟩ := h.box
    have hB := h.below.size
    have hc : W.cell? ⟨w.heap.size, 0, none⟩ = some v := by rw [cell_of_row W _ 0 _ _ (0, 0) hv]; rfl
    have HX := Lib.hid hx
    have HV := Lib.hid hv
    have HH := Lib.hid h
    clear hx hz h
    have hne : v.ownBlock ≠ some w.heap.size := owns_off hrow hv (by decide)
    gi_wp2_with (gi_at_builtin; refine wpListIn_append_lies _ rfl _ _ 30 rfl w.heap.size 3 i0 (.int .i64 0) 1 8 Tryd.underlying30 hi hz0 hz1 hz2 rfl (by decide) _ _ _ rfl (owns_go hrow ((Below.refl _ _).alloc (Nat.le_refl _) _)) ⟨W.heap.size, 0, none⟩ 1 1 [.int .i64 x] rfl rfl (World.news_of_block (heap_alloc_new _ _)) (by intro y hy; simp at hy; subst hy; rfl) (by decide) (by unfold maxLen; omega) (by omega) (by simp; omega) (W.heap.size + 1) (by simp) ?_; intro g1 cap1 w1 hown1 hgrow1 hat1 hlt1; have hv1 := sl_grown (al_old hv _) hgrow1 hne; have hc1 : w1.cell? ⟨w.heap.size, 0, none⟩ = some v := (by rw [cell_of_row w1 _ 0 _ _ (0, 0) hv1]; rfl); have hf1 := frozen_of_row w1 w.heap.size 0 _ _ hv1)
    rw [ivals_snoc] at hown1
    have hne1 : (Value.slice (some ⟨g1, 0, none⟩) (pre.length + 1) cap1).ownBlock ≠ some w.heap.size := owns_off hown1 hv1 (by decide)
    refine ⟨fun k => k = w.heap.size ∨ some g1 = some k, ?_, ?_, ?_, ?_⟩
    · have hg0 : W.grownBy w1 v.ownBlock := ⟨hgrow1.os, hgrow1.tape, hgrow1.output, Nat.le_trans (by simp) hgrow1.size, fun k hk hn => (hgrow1.block k (by simp; omega) hn).trans (heap_alloc_old W _ hk)⟩
      refine ⟨hg0.os, hg0.tape, hg0.output, by rw [World.size_setCell]; exact hg0.size, fun k hk hn => ?_⟩
      rw [Below.heap_setCell _ _ _ k (fun e => hn ((HX.out k).2 (.inl e)))]
      exact hg0.block k hk (fun e => hn ((HX.out k).2 (.inr e.symm)))
    · rintro k (rfl | hk)
      · exact .inl ((HX.out _).2 (.inl rfl))
      · rcases hat1 with h1 | h1
        · exact .inl ((HX.out _).2 (.inr (h1.trans hk)))
        · right; cases hk; omega
    · have hb1 : Below w.heap.size w w1 := (HH.out.below.alloc hB _).grown hgrow1 (by simp; omega) (fun k e => (hrow.lt k e).1)
      exact hb1.setCell (p := ⟨w.heap.size, 0, none⟩) (Nat.le_refl _) _
    · refine ⟨_, Go.heap_setCell_same w1 w.heap.size 0 _ _ _ hv1, ?_, by simp, fun k => Iff.rfl⟩
      rw [List.length_append]
      exact owns_same hown1 fun g hg hl => Below.heap_setCell _ _ _ g (fun e => by rw [e] at hg; exact hne1 hg)
  case done =>
    intro Y W h hK _ h2
    obtain ⟨v, hv, hrow, _, _⟩ := h.box
    have hc : W.cell? ⟨w.heap.size, 0, none⟩ = some v := by rw [cell_of_row W _ 0 _ _ (0, 0) hv]; rfl
    obtain ⟨v2, hv2, hrow2, _, _⟩ := h2.box
    have e2 : v2 = v := by
      have h3 := (World.putObj_heap_other (w := W) (o := .deferred none) (k := w.heap.size) (r := (w.alloc (.cells #[.slice none 0 0] 30)).heap.size) (by simp)).trans hv
      rw [h3] at hv2
      simpa using hv2.symm
    subst e2
    have HR := Lib.hid hrow2
    have HB := Lib.hid h2.below
    clear hv hrow h2 h hv2 hrow2
    go_wp2
    refine ⟨by simp, .inl ⟨_, _, rfl, run_takeDeferred hK, ?_⟩⟩
    exact ⟨_, results_tmp rfl _ _ _, v2, rfl, HB.out, HR.out⟩
  case stop =>
    intro c pre Y W _ h
    exact h.elim
theorem collect_any (g : FuncId) (lb : Array Value) (eg : ∀ args w, (callFunc g args).run Tryd.prog w = .ok (.enter g args) w) (N : Nat → Prop) (xs : List Int) (hlen : xs.length ≤ 1000) (w : World) (hseq : Comes Tryd.prog g lb N (Value.int .i64) xs w) :
    Calls Tryd.prog 40 #[.func (.func g) #[] lb] w fun e w' => ∃ v, e = .returned v ∧ Below w.heap.size w w' ∧ w'.ownsRow w.heap.size 3 1 v xs.length (ivals xs) := by
  have HA := Lib.hid (appendSeq_any g lb eg N xs hlen w hseq)
  clear hseq
  go_enter Tryd.func40, Tryd.ntmps40
  go_wp2_with fail
  refine HA.out.mono ?_
  rintro e w1 ⟨v, rfl, hb, hown⟩
  have HB := Lib.hid hb
  have HO := Lib.hid hown
  clear hb hown HA
  go_wp2
  go_ret
  exact ⟨v, rfl, HB.out, HO.out⟩
/-- rising -/
def risen (xs : List Int) : List Int := xs.mergeSort fun x y => decide (x ≤ y)
theorem risen_len (xs : List Int) : (risen xs).length = xs.length := by simp [risen]
set_option maxHeartbeats 1000000 in
theorem sorted_any (g : FuncId) (lb : Array Value) (eg : ∀ args w, (callFunc g args).run Tryd.prog w = .ok (.enter g args) w) (N : Nat → Prop) (xs : List Int) (hlen : xs.length ≤ 1000) (w : World) (hseq : Comes Tryd.prog g lb N (Value.int .i64) xs w) :
    Calls Tryd.prog 27 #[.func (.func g) #[] lb] w fun e w' => ∃ v, e = .returned v ∧ Below w.heap.size w w' ∧ w'.ownsRow w.heap.size 3 1 v (risen xs).length (ivals (risen xs)) := by
  have HA := Lib.hid (collect_any g lb eg N xs hlen w hseq)
  clear hseq
  go_enter Tryd.func27, Tryd.ntmps27
  go_wp2_with fail
  refine HA.out.mono ?_
  rintro e w1 ⟨v, rfl, hb, hown⟩
  have HB := Lib.hid hb
  have HO := Lib.hid hown
  clear hb HA
  rcases hown.2 with ⟨rfl, hz⟩ | ⟨gb, cap, cur, rfl, hbase, hgb, r1, r2, r3, r4⟩
  · obtain rfl : xs = [] := List.eq_nil_of_length_eq_zero hz
    clear hown
    have cS : Calls Tryd.prog 41 #[.slice none 0 0] w1 fun e w' => e = .returned (.tuple #[]) ∧ w' = w1 := AnyM.slices_Sort_int_none sort_lays none 0 w1
    go_wp2_with fail
    refine cS.mono ?_
    rintro e w' ⟨rfl, rfl⟩
    go_wp2
    go_ret
    exact ⟨.slice none 0 0, rfl, HB.out, by rw [show risen [] = [] by simp [risen]]; exact HO.out⟩
  · have hH : Holds (Value.int .i64) w1 gb 0 xs.toArray := holds_of_blockI hgb (by simpa [ivals] using r4)
    have cS : Calls Tryd.prog 41 #[.slice (some ⟨gb, 0, none⟩) xs.length cap] w1 fun e w' => e = .returned (.tuple #[]) ∧ ∃ n os, w' = grow (putRow (Value.int .i64) (Sort.ahead w1 n) gb 0 (risen xs).toArray) os :=
      AnyM.slices_Sort_int sort_lays gb 0 cap xs w1 hH (Array.getElem?_eq_some_iff.1 hgb).1 (by omega)
    have HS := Lib.hid (fun n os => ownsRow_sortedI (n := n) (os := os) (risen_len xs) hbase hgb r1 r2 r3)
    have HG := Lib.hid (fun n os => HB.out.grown (grownBy_sortedI (w := w1) (g := gb) (n := n) (os := os) (risen xs).toArray) HB.out.size (fun j hj => by cases hj; exact hbase))
    clear hown r1 r2 r3 r4 hbase hgb hH HO HB
    go_wp2_with fail
    refine cS.mono ?_
    rintro e w' ⟨rfl, n, os, hw⟩
    have HS2 := Lib.hid (HS.out n os)
    have HG2 := Lib.hid (HG.out n os)
    rw [← hw] at HS2 HG2
    clear hw HS HG cS
    go_wp2
    go_ret
    exact ⟨_, rfl, HG2.out, by rw [risen_len]; exact HS2.out⟩
end Go.Proofs.YtbnpphecknhpeaaDoor
