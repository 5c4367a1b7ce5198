/-
  Merged: Dc, Mb.
-/
import Derived.Shelf.SortM.Plain
import Derived.Shelf.SortM.SortNone
import Derived.Shelf.SlGeneric
import Derived.Ground.SlgmProg
import Derived.Test.YtjhlombbkodpaaaDoorG7
import Derived.OwnWalkIn
import Derived.TacticsInMore
import Derived.LoopIn
import Derived.Sort.OwnSortedInts
import Derived.Test.YtjhlombbkodpaaaDoorMa
import Derived.Test.YtjhlombbkodpaaaDoorG4
import Derived.Laws.OwnMore
import Derived.Lib.SliceRun
import Derived.Lib.SlKept

namespace Go.Proofs.YtjhlombbkodpaaaDoor
open Go.RowKit Go.Sort
set_option linter.unusedSimpArgs false
set_option linter.unusedVariables false
set_option maxRecDepth 20000

def sort_ren : Go.Shelf.Ren := ⟨fun | 5 => 37 | 8 => 77 | 7 => 76 | 19 => 118 | 20 => 119 | 10 => 109 | 11 => 110 | 12 => 111 | 13 => 112 | 14 => 113 | 15 => 114 | 16 => 115 | 17 => 116 | 18 => 117 | 30 => 124 | 31 => 125 | 32 => 126 | 33 => 127 | 34 => 128 | 35 => 129 | 40 => 130 | n => n, fun | 23 => 39 | 25 => 3 | 3 => 3 | 32 => 102 | 22 => 39 | 0 => 0 | 44 => 140 | 46 => 142 | 4 => 4 | 36 => 132 | 35 => 131 | 41 => 137 | 5 => 5 | 9 => 9 | 53 => 146 | 57 => 150 | 63 => 152 | 64 => 107 | n => n, fun | n => n⟩
theorem sort_lays : Go.Proofs.SlLaysM.n5 Tryd.prog sort_ren := {
  mixed := by kernel_rfl
  f5 := ⟨Tryd.f37.name, by decide, Tryd.func37.trans (congrArg some (by kernel_rfl))⟩
  f7 := ⟨Tryd.f76.name, by decide, Tryd.func76.trans (congrArg some (by kernel_rfl))⟩
  f8 := Tryd.func77.trans (congrArg some (by kernel_rfl))
  f10 := ⟨Tryd.f109.name, by decide, Tryd.func109.trans (congrArg some (by kernel_rfl))⟩
  f11 := ⟨Tryd.f110.name, by decide, Tryd.func110.trans (congrArg some (by kernel_rfl))⟩
  f12 := ⟨Tryd.f111.name, by decide, Tryd.func111.trans (congrArg some (by kernel_rfl))⟩
  f13 := ⟨Tryd.f112.name, by decide, Tryd.func112.trans (congrArg some (by kernel_rfl))⟩
  f14 := ⟨Tryd.f113.name, by decide, Tryd.func113.trans (congrArg some (by kernel_rfl))⟩
  f15 := ⟨Tryd.f114.name, by decide, Tryd.func114.trans (congrArg some (by kernel_rfl))⟩
  f16 := ⟨Tryd.f115.name, by decide, Tryd.func115.trans (congrArg some (by kernel_rfl))⟩
  f17 := ⟨Tryd.f116.name, by decide, Tryd.func116.trans (congrArg some (by kernel_rfl))⟩
  f18 := ⟨Tryd.f117.name, by decide, Tryd.func117.trans (congrArg some (by kernel_rfl))⟩
  f19 := Tryd.func118.trans (congrArg some (by kernel_rfl))
  f20 := Tryd.func119.trans (congrArg some (by kernel_rfl))
  f30 := ⟨Tryd.f124.name, by decide, Tryd.func124.trans (congrArg some (by kernel_rfl))⟩
  f31 := Tryd.func125.trans (congrArg some (by kernel_rfl))
  f32 := Tryd.func126.trans (congrArg some (by kernel_rfl))
  f33 := ⟨Tryd.f127.name, by decide, Tryd.func127.trans (congrArg some (by kernel_rfl))⟩
  f34 := ⟨Tryd.f128.name, by decide, Tryd.func128.trans (congrArg some (by kernel_rfl))⟩
  f35 := ⟨Tryd.f129.name, by decide, Tryd.func129.trans (congrArg some (by kernel_rfl))⟩
  f40 := ⟨Tryd.f130.name, by decide, Tryd.func130.trans (congrArg some (by kernel_rfl))⟩
  t0 := Tryd.underlying0
  a0 := Tryd.isAgg0
  z0 := Tryd.sizeOf0
  v0 := Tryd.zeroValue0
  t3 := Tryd.underlying3
  a3 := Tryd.isAgg3
  z3 := Tryd.sizeOf3
  v3 := Tryd.zeroValue3
  t4 := Tryd.underlying4
  a4 := Tryd.isAgg4
  z4 := Tryd.sizeOf4
  v4 := Tryd.zeroValue4
  t5 := Tryd.underlying5
  a5 := Tryd.isAgg5
  z5 := Tryd.sizeOf5
  v5 := Tryd.zeroValue5
  t9 := Tryd.underlying9
  a9 := Tryd.isAgg9
  z9 := Tryd.sizeOf9
  v9 := Tryd.zeroValue9
  t22 := Tryd.underlying39
  a22 := Tryd.isAgg39
  z22 := Tryd.sizeOf39
  v22 := Tryd.zeroValue39
  t23 := Tryd.underlying39
  a23 := Tryd.isAgg39
  z23 := Tryd.sizeOf39
  v23 := Tryd.zeroValue39
  t25 := Tryd.underlying3
  a25 := Tryd.isAgg3
  z25 := Tryd.sizeOf3
  v25 := Tryd.zeroValue3
  t32 := Tryd.underlying102
  a32 := Tryd.isAgg102
  z32 := Tryd.sizeOf102
  v32 := Tryd.zeroValue102
  t35 := Tryd.underlying131
  a35 := Tryd.isAgg131
  z35 := Tryd.sizeOf131
  v35 := Tryd.zeroValue131
  t36 := Tryd.underlying132
  a36 := Tryd.isAgg132
  z36 := Tryd.sizeOf132
  v36 := Tryd.zeroValue132
  t41 := Tryd.underlying137
  a41 := Tryd.isAgg137
  z41 := Tryd.sizeOf137
  v41 := Tryd.zeroValue137
  t44 := Tryd.underlying140
  a44 := Tryd.isAgg140
  z44 := Tryd.sizeOf140
  v44 := Tryd.zeroValue140
  t46 := Tryd.underlying142
  a46 := Tryd.isAgg142
  z46 := Tryd.sizeOf142
  v46 := Tryd.zeroValue142
  t53 := Tryd.underlying146
  a53 := Tryd.isAgg146
  z53 := Tryd.sizeOf146
  v53 := Tryd.zeroValue146
  t57 := Tryd.underlying150
  a57 := Tryd.isAgg150
  z57 := Tryd.sizeOf150
  v57 := Tryd.zeroValue150
  t63 := Tryd.underlying152
  a63 := Tryd.isAgg152
  z63 := Tryd.sizeOf152
  v63 := Tryd.zeroValue152
  t64 := Tryd.underlying107
  a64 := Tryd.isAgg107
  z64 := Tryd.sizeOf107
  v64 := Tryd.zeroValue107 }
attribute [local go_sem] Oper.semAt_some

theorem wpListIn_append_lies {F : Fence} {n : Nat} {P : Program} (w : World) {ops : Array Oper} {rest : List Oper} {o : Oper} {a : Act} {Q : Exit → Act → World → Prop}
    (hg : o.guard = none) (s x : Operand) (t : TypeId) (hop : o.op = Op.call { callee := Callee.builtin Builtin.append, args := #[s, x], argTypes := #[t, t] })
    (base : Nat) (e : TypeId) (i : TypeInfo) (z : Value) (size bytes : Nat) (h1 : P.underlying t = some (.slice e)) (h2 : P.info? e = some i) (h3 : i.zero = some z) (h4 : i.size = size) (h5 : i.bytes = bytes) (h6 : z.cells.size = size) (h7 : 0 < size)
    (v : Value) (k : Nat) (xs : List Value) (hs : a.eval s = v) (hown : w.ownsRow base e size v k xs) (ad : Addr) (m c : Nat) (news : List Value) (hx : a.eval x = .slice (some ad) m c) (hn : news.length = m * size)
    (hc : ∀ j u, news[j]? = some u → w.cell? (ad.add j) = some u) (h1c : ∀ u ∈ news, u.oneCell' = true) (hm : 0 < m) (b1 : k + m ≤ maxLen) (b2 : (k + m) * bytes ≤ 140737488355328) (b3 : base ≤ w.heap.size) (H : Nat) (hH : w.heap.size = H)
    (hK : ∀ g cap w', w'.ownsRow base e size (.slice (some ⟨g, 0, none⟩) (k + m) cap) (k + m) (xs ++ news) → w.grownBy w' v.ownBlock → (v.ownBlock = some g ∨ g = H) → g < w'.heap.size → wpListIn F n P ops Q rest (a.put o.dst (.slice (some ⟨g, 0, none⟩) (k + m) cap)) w') :
    wpListIn F n P ops Q (o :: rest) a w := by
  refine wpListIn_plain hg fun K hK' => ?_
  obtain ⟨g, cap, w', hrun, r1, r2, r3, r4⟩ := run_append_lies (P := P) w t o.type base e i z size bytes h1 h2 h3 h4 h5 h6 h7 v k xs hown ad m c news hn hc h1c hm b1 b2 b3 H hH
  unfold Oper.wpIn
  refine ⟨?_, ?_⟩
  · simp [Oper.about, hop, resolve, Target.leads, Sem.run_pure]
  · rw [Oper.semAt_plain F _ _ (by rw [hop]; intro c hc'; cases hc')]
    simp [execOp, hop, resolve, invoke, builtin, hs, hx, hrun, Result.andThen]
    exact hK' _ _ (hK g cap w' r1 r2 r3 r4)
theorem owns_same {w w' : World} {base : Nat} {e : TypeId} {k : Nat} {v : Value} {n : Nat} {xs : List Value} (h : w.ownsRow base e k v n xs) (hs : ∀ g, v.ownBlock = some g → g < w.heap.size → w'.heap[g]? = w.heap[g]?) : w'.ownsRow base e k v n xs := by
  refine ⟨h.1, ?_⟩
  rcases h.2 with h2 | ⟨g, cap, cur, rfl, h1, h2, h3⟩
  · exact .inl h2
  · exact .inr ⟨g, cap, cur, rfl, h1, (hs g rfl (Array.getElem?_eq_some_iff.1 h2).1).trans h2, h3⟩
/-- what stands between two rounds: the row in its box -/
structure ApI (w : World) (t : TypeId) (pre : List Int) (X : Nat → Prop) (W : World) : Prop where
  below : Below w.heap.size w W
  box : ∃ v, W.heap[w.heap.size]? = some (.cells #[v] t (0, 0)) ∧ W.ownsRow w.heap.size 3 1 v pre.length (ivals pre) ∧ (v = .slice none 0 0 ↔ pre = []) ∧ ∀ k, X k ↔ k = w.heap.size ∨ v.ownBlock = some k
theorem ApI.lt {w : World} {t : TypeId} {pre : List Int} {X : Nat → Prop} {W : World} (h : ApI w t pre X W) : ∀ k, X k → k < W.heap.size := by
  obtain ⟨v, hv, hr, _, hx⟩ := h.box
  intro k hk
  rcases (hx k).1 hk with rfl | h1
  · exact (Array.getElem?_eq_some_iff.1 hv).1
  · exact (hr.lt k h1).2
theorem ApI.spare {w : World} {t : TypeId} {pre : List Int} {X : Nat → Prop} {A B : World} {n : Nat} (h : ApI w t pre X A) (hn : w.heap.size ≤ n) (hs : Spares n X A B) : ApI w t pre X B := by
  obtain ⟨v, hv, hr, hz, hx⟩ := h.box
  refine ⟨h.below.trans (hs.below h.below.size hn), v, (hs.block _ (Array.getElem?_eq_some_iff.1 hv).1 (.inr ((hx _).2 (.inl rfl)))).trans hv, owns_same hr fun g hg hl => hs.block g hl (.inr ((hx g).2 (.inr hg))), hz, hx⟩
set_option maxHeartbeats 2000000 in
set_option maxRecDepth 100000 in
theorem appendSeq_any (g : FuncId) (lb : Array Value) (eg : ∀ args w, (callFunc g args).run Tryd.prog w = .ok (.enter g args) w) (N : Nat → Prop) (xs : List Int) (hlen : xs.length ≤ 1000) (w : World) (hseq : Comes Tryd.prog g lb N (Value.int .i64) xs w) :
    Calls Tryd.prog 92 #[.slice none 0 0, .func (.func g) #[] lb] w fun e w' => ∃ v, e = .returned v ∧ Below w.heap.size w w' ∧ w'.ownsRow w.heap.size 3 1 v xs.length (ivals xs) := by
  obtain ⟨i0, hi, hz0, hz1, hz2⟩ := info_parts infoInt
  refine calls_of_marks Tryd.func92 rfl ?_
  simp only [Tryd.ntmps92, List.size_toArray, List.length_cons, List.length_nil, Nat.reduceAdd, Nat.reduceSub, Array.replicate_succ, Array.replicate_zero, List.push_toArray, List.append_toArray, List.nil_append, List.cons_append]
  go_wp2
  refine wp_range_over (gf := g) (lb := lb) rfl eg hseq (below_new _) rfl (fun pre X W => ApI w 39 pre X W) (fun _ _ _ _ => False)
    (fun s X A B h hs => h.spare (by simp) hs) (fun _ _ _ _ _ h _ => h) (fun s X A h => h.lt) (X0 := fun k => k = w.heap.size) ?start ?disj
    (fun x => { tmps := #[.slice none 0 0, .func (.func g) #[] lb, .pointer (some ⟨w.heap.size, 0, none⟩), undef, .slice none 0 0, .int .i64 x, .func (.func g) #[] lb, .int .i64 x, undef, undef, undef, undef, undef], defers := [] }) ?assign ?body ?done ?stop
  case start => exact ⟨below_new _, _, sl_at rfl, World.ownsRow_nil _ _ _ _, by simp, fun k => by simp [Value.ownBlock]⟩
  case disj =>
    rintro k rfl hk
    have := hseq.1 _ hk
    omega
  case assign =>
    intro l x W K hK
    gi_wp2
    exact hK
  case body =>
    intro l pre x X W h hpre _
    have hlp := hpre.length_le
    simp at hlp
    obtain ⟨v, hv, hrow, hz, hx⟩ := h.box
    have hB := h.below.size
    have hc : W.cell? ⟨w.heap.size, 0, none⟩ = some v := by rw [cell_of_row W _ 0 _ _ (0, 0) hv]; rfl
    have HX := Lib.hid hx
    have HV := Lib.hid hv
    have HH := Lib.hid h
    clear hx hz h
    have hne : v.ownBlock ≠ some w.heap.size := owns_off hrow hv (by decide)
    gi_wp2_with (gi_at_builtin; refine wpListIn_append_lies _ rfl _ _ 39 rfl w.heap.size 3 i0 (.int .i64 0) 1 8 Tryd.underlying39 hi hz0 hz1 hz2 rfl (by decide) _ _ _ rfl (owns_go hrow ((Below.refl _ _).alloc (Nat.le_refl _) _)) ⟨W.heap.size, 0, none⟩ 1 1 [.int .i64 x] rfl rfl (World.news_of_block (heap_alloc_new _ _)) (by intro y hy; simp at hy; subst hy; rfl) (by decide) (by unfold maxLen; omega) (by omega) (by simp; omega) (W.heap.size + 1) (by simp) ?_; intro g1 cap1 w1 hown1 hgrow1 hat1 hlt1; have hv1 := sl_grown (al_old hv _) hgrow1 hne; have hc1 : w1.cell? ⟨w.heap.size, 0, none⟩ = some v := (by rw [cell_of_row w1 _ 0 _ _ (0, 0) hv1]; rfl); have hf1 := frozen_of_row w1 w.heap.size 0 _ _ hv1)
    rw [ivals_snoc] at hown1
    have hne1 : (Value.slice (some ⟨g1, 0, none⟩) (pre.length + 1) cap1).ownBlock ≠ some w.heap.size := owns_off hown1 hv1 (by decide)
    refine ⟨fun k => k = w.heap.size ∨ some g1 = some k, ?_, ?_, ?_, ?_⟩
    · have hg0 : W.grownBy w1 v.ownBlock := ⟨hgrow1.os, hgrow1.tape, hgrow1.output, Nat.le_trans (by simp) hgrow1.size, fun k hk hn => (hgrow1.block k (by simp; omega) hn).trans (heap_alloc_old W _ hk)⟩
      refine ⟨hg0.os, hg0.tape, hg0.output, by rw [World.size_setCell]; exact hg0.size, fun k hk hn => ?_⟩
      rw [Below.heap_setCell _ _ _ k (fun e => hn ((HX.out k).2 (.inl e)))]
      exact hg0.block k hk (fun e => hn ((HX.out k).2 (.inr e.symm)))
    · rintro k (rfl | hk)
      · exact .inl ((HX.out _).2 (.inl rfl))
      · rcases hat1 with h1 | h1
        · exact .inl ((HX.out _).2 (.inr (h1.trans hk)))
        · right; cases hk; omega
    · have hb1 : Below w.heap.size w w1 := (HH.out.below.alloc hB _).grown hgrow1 (by simp; omega) (fun k e => (hrow.lt k e).1)
      exact hb1.setCell (p := ⟨w.heap.size, 0, none⟩) (Nat.le_refl _) _
    · refine ⟨_, Go.heap_setCell_same w1 w.heap.size 0 _ _ _ hv1, ?_, by simp, fun k => Iff.rfl⟩
      rw [List.length_append]
      exact owns_same hown1 fun g hg hl => Below.heap_setCell _ _ _ g (fun e => by rw [e] at hg; exact hne1 hg)
  case done =>
    intro Y W h hK _ h2
    obtain ⟨v, hv, hrow, _, _⟩ := h.box
    have hc : W.cell? ⟨w.heap.size, 0, none⟩ = some v := by rw [cell_of_row W _ 0 _ _ (0, 0) hv]; rfl
    obtain ⟨v2, hv2, hrow2, _, _⟩ := h2.box
    have e2 : v2 = v := by
      have h3 := (World.putObj_heap_other (w := W) (o := .deferred none) (k := w.heap.size) (r := (w.alloc (.cells #[.slice none 0 0] 39)).heap.size) (by simp)).trans hv
      rw [h3] at hv2
      simpa using hv2.symm
    subst e2
    have HR := Lib.hid hrow2
    have HB := Lib.hid h2.below
    clear hv hrow h2 h hv2 hrow2
    go_wp2
    refine ⟨by simp, .inl ⟨_, _, rfl, run_takeDeferred hK, ?_⟩⟩
    exact ⟨_, results_tmp rfl _ _ _, v2, rfl, HB.out, HR.out⟩
  case stop =>
    intro c pre Y W _ h
    exact h.elim
theorem collect_any (g : FuncId) (lb : Array Value) (eg : ∀ args w, (callFunc g args).run Tryd.prog w = .ok (.enter g args) w) (N : Nat → Prop) (xs : List Int) (hlen : xs.length ≤ 1000) (w : World) (hseq : Comes Tryd.prog g lb N (Value.int .i64) xs w) :
    Calls Tryd.prog 58 #[.func (.func g) #[] lb] w fun e w' => ∃ v, e = .returned v ∧ Below w.heap.size w w' ∧ w'.ownsRow w.heap.size 3 1 v xs.length (ivals xs) := by
  have HA := Lib.hid (appendSeq_any g lb eg N xs hlen w hseq)
  clear hseq
  go_enter Tryd.func58, Tryd.ntmps58
  go_wp2_with fail
  refine HA.out.mono ?_
  rintro e w1 ⟨v, rfl, hb, hown⟩
  have HB := Lib.hid hb
  have HO := Lib.hid hown
  clear hb hown HA
  go_wp2
  go_ret
  exact ⟨v, rfl, HB.out, HO.out⟩
/-- rising -/
def risen (xs : List Int) : List Int := xs.mergeSort fun x y => decide (x ≤ y)
theorem risen_len (xs : List Int) : (risen xs).length = xs.length := by simp [risen]
set_option maxHeartbeats 1000000 in
theorem sorted_any (g : FuncId) (lb : Array Value) (eg : ∀ args w, (callFunc g args).run Tryd.prog w = .ok (.enter g args) w) (N : Nat → Prop) (xs : List Int) (hlen : xs.length ≤ 1000) (w : World) (hseq : Comes Tryd.prog g lb N (Value.int .i64) xs w) :
    Calls Tryd.prog 29 #[.func (.func g) #[] lb] w fun e w' => ∃ v, e = .returned v ∧ Below w.heap.size w w' ∧ w'.ownsRow w.heap.size 3 1 v (risen xs).length (ivals (risen xs)) := by
  have HA := Lib.hid (collect_any g lb eg N xs hlen w hseq)
  clear hseq
  go_enter Tryd.func29, Tryd.ntmps29
  go_wp2_with fail
  refine HA.out.mono ?_
  rintro e w1 ⟨v, rfl, hb, hown⟩
  have HB := Lib.hid hb
  have HO := Lib.hid hown
  clear hb HA
  rcases hown.2 with ⟨rfl, hz⟩ | ⟨gb, cap, cur, rfl, hbase, hgb, r1, r2, r3, r4⟩
  · obtain rfl : xs = [] := List.eq_nil_of_length_eq_zero hz
    clear hown
    have cS : Calls Tryd.prog 37 #[.slice none 0 0] w1 fun e w' => e = .returned (.tuple #[]) ∧ w' = w1 := AnyM.slices_Sort_int_none sort_lays none 0 w1
    go_wp2_with fail
    refine cS.mono ?_
    rintro e w' ⟨rfl, rfl⟩
    go_wp2
    go_ret
    exact ⟨.slice none 0 0, rfl, HB.out, by rw [show risen [] = [] by simp [risen]]; exact HO.out⟩
  · have hH : Holds (Value.int .i64) w1 gb 0 xs.toArray := holds_of_blockI hgb (by simpa [ivals] using r4)
    have cS : Calls Tryd.prog 37 #[.slice (some ⟨gb, 0, none⟩) xs.length cap] w1 fun e w' => e = .returned (.tuple #[]) ∧ ∃ n os, w' = grow (putRow (Value.int .i64) (Sort.ahead w1 n) gb 0 (risen xs).toArray) os :=
      AnyM.slices_Sort_int sort_lays gb 0 cap xs w1 hH (Array.getElem?_eq_some_iff.1 hgb).1 (by omega)
    have HS := Lib.hid (fun n os => ownsRow_sortedI (n := n) (os := os) (risen_len xs) hbase hgb r1 r2 r3)
    have HG := Lib.hid (fun n os => HB.out.grown (grownBy_sortedI (w := w1) (g := gb) (n := n) (os := os) (risen xs).toArray) HB.out.size (fun j hj => by cases hj; exact hbase))
    clear hown r1 r2 r3 r4 hbase hgb hH HO HB
    go_wp2_with fail
    refine cS.mono ?_
    rintro e w' ⟨rfl, n, os, hw⟩
    have HS2 := Lib.hid (HS.out n os)
    have HG2 := Lib.hid (HG.out n os)
    rw [← hw] at HS2 HG2
    clear hw HS HG cS
    go_wp2
    go_ret
    exact ⟨_, rfl, HG2.out, by rw [risen_len]; exact HS2.out⟩
end Go.Proofs.YtjhlombbkodpaaaDoor

namespace Go.Proofs.YtjhlombbkodpaaaDoor
open Go.RowKit Go.Sort Go.Lib
set_option linter.unusedSimpArgs false
set_option linter.unusedVariables false
set_option maxRecDepth 20000

theorem readsAt {B : Nat} {w : World} {b off n : Nat} {f : Nat → Value} (h : Reads B w (some ⟨b, off, none⟩) n f) {i : Nat} (hi : i < n) : w.cell? ⟨b, off + i, none⟩ = some (f i) := by
  rcases h with h0 | ⟨b', o', he, _, hc⟩
  · omega
  · injection he with he; injection he with e1 e2; subst e1; subst e2; exact hc i hi
theorem readsAddr {B : Nat} {w : World} {p : Option Addr} {n : Nat} {f : Nat → Value} (h : Reads B w p n f) {i : Nat} (hi : i < n) : ∃ b o, p = some ⟨b, o, none⟩ := by
  rcases h with h0 | ⟨b, o, h1, _⟩
  · omega
  · exact ⟨b, o, h1⟩
/-- the first of a row of which p holds -/
def FI (p : Int → Bool) (xs : List Int) (r : Int) : Prop :=
  (r = -1 ∧ ∀ k, k < xs.length → p (xs.getD k 0) = false) ∨ ∃ k : Nat, k < xs.length ∧ r = (k : Int) ∧ p (xs.getD k 0) = true ∧ ∀ j, j < k → p (xs.getD j 0) = false
set_option maxHeartbeats 1000000 in
theorem indexFunc_any (g : FuncId) (b : Nat) (eg : ∀ args w, (callFunc g args).run Tryd.prog w = .ok (.enter g args) w) (p : Int → Bool) (S : World → Prop) (hS : ∀ W W', S W → Below W.heap.size W W' → S W')
    (hp : ∀ W (x : Int), S W → 0 ≤ x → x < 64 → Calls Tryd.prog g #[.pointer (some ⟨b, 0, none⟩), .int .i64 x] W fun e w' => e = .returned (.bool (p x)) ∧ Below W.heap.size W w')
    (base : Nat) (xs : List Int) (hx : ∀ x ∈ xs, 0 ≤ x ∧ x < 64) (v : Value) (w : World) (hs : S w) (hlen : xs.length ≤ 1000) (hown : w.ownsRow base 3 1 v xs.length (ivals xs)) :
    Calls Tryd.prog 122 #[v, .func (.func g) #[.pointer (some ⟨b, 0, none⟩)] #[]] w fun e w' => (∃ r, e = .returned (.int .i64 r) ∧ FI p xs r) ∧ Below w.heap.size w w' := by
  rw [ivals_range] at hown
  obtain ⟨pa, ca, rfl, hr, _⟩ := sq_reads hown
  have hxs : ∀ k, k < xs.length → 0 ≤ xs.getD k 0 ∧ xs.getD k 0 < 64 := fun k hk => by
    have : xs.getD k 0 = xs[k] := by simp [List.getD, hk]
    rw [this]; exact hx _ (List.getElem_mem hk)
  obtain ⟨F, hF⟩ : ∃ F : Nat → Int, (fun k => xs.getD k 0) = F := ⟨_, rfl⟩
  have hF2 : ∀ k, xs.getD k 0 = F k := fun k => congrFun hF k
  obtain ⟨n, hn⟩ : ∃ n, xs.length = n := ⟨_, rfl⟩
  have HFI := Lib.hid (show ∀ r, ((r = -1 ∧ ∀ k, k < n → p (F k) = false) ∨ ∃ k : Nat, k < n ∧ r = (k : Int) ∧ p (F k) = true ∧ ∀ j, j < k → p (F j) = false) → FI p xs r from fun r h => by unfold FI; rw [hn]; simp only [hF2]; exact h)
  have HX := Lib.hid (show ∀ k, k < n → 0 ≤ F k ∧ F k < 64 from fun k hk => by rw [← hF2]; exact hxs k (by rw [hn]; exact hk))
  have HR := Lib.hid (show Reads w.heap.size w pa n (fun k => .int .i64 (F k)) by rw [← hn]; simpa only [hF2] using hr)
  have HP := Lib.hid hp
  have HS := Lib.hid hS
  have HS0 := Lib.hid hs
  rw [hn] at hlen
  rw [hn]
  generalize FI p xs = R at *
  have HB0 := Lib.hid (Below.refl w.heap.size w)
  clear hown hr hxs hF hF2 hn hx hp hS hs
  go_enter Tryd.func122, Tryd.ntmps122
  go_wp2
  go_loopw [8] (fun i wr => ∃ j : Nat, j ≤ n ∧ i = .int .i64 (j : Int) ∧ S wr ∧ Below w.heap.size w wr ∧ ∀ k, k < j → p (F k) = false) (fun i _ => n - (intOf i).toNat)
  case atStart => exact ⟨0, Nat.zero_le _, rfl, HS0.out, HB0.out, fun k hk => by omega⟩
  case round =>
    clear HS0 HB0
    obtain ⟨j, hj, rfl, h1, h2, h3⟩ := hrel
    have HS1 := Lib.hid h1
    have HB1 := Lib.hid h2
    have HN := Lib.hid h3
    clear h1 h2 h3
    by_cases hlt : j < n
    · have hrr := HR.out.below HB1.out
      obtain ⟨ab, ao, rfl⟩ := readsAddr hrr hlt
      have e0 := readsAt hrr hlt
      obtain ⟨x0, x1⟩ := HX.out j hlt
      obtain ⟨x, hx⟩ : ∃ x, F j = x := ⟨_, rfl⟩
      rw [hx] at e0 x0 x1
      have HXJ := Lib.hid hx
      have hc := HP.out wr x HS1.out x0 x1
      clear hx hrr
      obtain ⟨bx, hbx⟩ : ∃ b, p x = b := ⟨_, rfl⟩
      rw [hbx] at hc
      have HBX := Lib.hid hbx
      clear hbx
      cases bx
      · go_wp2_with (go_at_fn g; refine hc.mono ?_; rintro e w2 ⟨rfl, hb⟩)
        go_roundw
        case rel => exact ⟨j + 1, hlt, by go_num, HS.out _ _ HS1.out hb, HB1.out.trans (hb.mono HB1.out.size), fun k hk => by
          rcases Nat.lt_succ_iff_lt_or_eq.1 hk with h | rfl
          · exact HN.out k h
          · rw [HXJ.out]; exact HBX.out⟩
        case measure => simp [intOf]; omega
      · go_wp2_with (go_at_fn g; refine hc.mono ?_; rintro e w2 ⟨rfl, hb⟩)
        go_ret
        exact ⟨⟨_, rfl, HFI.out _ (.inr ⟨j, hlt, rfl, by rw [HXJ.out]; exact HBX.out, HN.out⟩)⟩, HB1.out.trans (hb.mono HB1.out.size)⟩
    · obtain rfl : j = n := by omega
      go_wp2
      go_ret
      exact ⟨⟨_, rfl, HFI.out _ (.inl ⟨rfl, HN.out⟩)⟩, HB1.out⟩
theorem own_setCells {e : TypeId} {g cap n base : Nat} (vs : List Value) : ∀ (o : Nat) (w : World) (xs : List Value), w.ownsRow base e 1 (.slice (some ⟨g, 0, none⟩) n cap) n xs →
    (∃ ys, (w.setCells g o vs).ownsRow base e 1 (.slice (some ⟨g, 0, none⟩) n cap) n ys ∧ ys.take o = xs.take o) ∧ w.grownBy (w.setCells g o vs) (some g) := by
  induction vs with
  | nil => exact fun o w xs h => ⟨⟨xs, h, rfl⟩, World.grownBy.refl _ _⟩
  | cons v r ih =>
    intro o w xs h
    obtain ⟨h1, h2⟩ := h.stored o v
    obtain ⟨⟨ys, h3, h4⟩, h5⟩ := ih (o + 1) _ _ h1
    refine ⟨⟨ys, h3, ?_⟩, h2.trans h5⟩
    have h6 := congrArg (List.take o) h4
    rw [List.take_take, List.take_take, Nat.min_eq_left (Nat.le_succ o)] at h6
    rw [h6]
    apply List.ext_getElem?
    intro k
    simp only [List.getElem?_take]
    split
    · rw [List.getElem?_set_ne (by omega)]
    · rfl
theorem own_cut {e : TypeId} {g cap n base i : Nat} {w : World} {xs : List Value} (h : w.ownsRow base e 1 (.slice (some ⟨g, 0, none⟩) n cap) n xs) (hi : i ≤ n) : w.ownsRow base e 1 (.slice (some ⟨g, 0, none⟩) i cap) i (xs.take i) := by
  have hl := h.1
  rcases h.2 with ⟨h', _⟩ | ⟨g', cap', cur, h', hb, hg, hnc, hcm, hcs, htake⟩
  · simp at h'
  · simp only [Value.slice.injEq, Option.some.injEq, Addr.mk.injEq, and_true, true_and] at h'
    obtain ⟨rfl, rfl⟩ := h'
    refine ⟨by simp; omega, .inr ⟨g, cap, cur, rfl, hb, hg, by omega, hcm, hcs, ?_⟩⟩
    rw [← htake, List.take_take]
    congr 1
    omega
/-- a row that is rewritten -/
structure DL (base : Nat) (S : World → Prop) (w W : World) (g n cap : Nat) (dk : Array Int) : Prop where
  o : W.ownsRow base 3 1 (.slice (some ⟨g, 0, none⟩) n cap) n (ivals dk.toList)
  s : S W
  b : Below base w W
  z : base ≤ W.heap.size
theorem DL.go {base : Nat} {S : World → Prop} (hS : ∀ W W', S W → Below base W W' → S W') {w W W' : World} {g n cap : Nat} {dk : Array Int} (h : DL base S w W g n cap dk) (b : Below W.heap.size W W') : DL base S w W' g n cap dk :=
  ⟨owns_go h.o b, hS _ _ h.s (b.mono h.z), h.b.trans (b.mono h.z), Nat.le_trans h.z b.size⟩
theorem DL.cell {base : Nat} {S : World → Prop} {w W : World} {g n cap : Nat} {dk : Array Int} (h : DL base S w W g n cap dk) (hn : dk.size = n) (j : Nat) (hj : j < n) : W.cell? ⟨g, j, none⟩ = some (.int .i64 dk[j]!) ∧ W.frozen? ⟨g, j, none⟩ = false := by
  refine ⟨?_, h.o.frozenAt j⟩
  rw [h.o.cellAt j (by omega)]
  unfold ivals
  rw [List.getElem?_map, Array.getElem?_toList, getElem!_pos dk j (by omega), Array.getElem?_eq_getElem (by omega)]
  rfl
theorem DL.set {base : Nat} {S : World → Prop} (hS : ∀ W W', S W → Below base W W' → S W') {w W : World} {g n cap : Nat} {dk : Array Int} (h : DL base S w W g n cap dk) (i : Nat) (x : Int) : DL base S w (W.setCell ⟨g, i, none⟩ (.int .i64 x)) g n cap (dk.setIfInBounds i x) := by
  have hg : base ≤ g := (h.o.lt g rfl).1
  have hb : Below base W (W.setCell ⟨g, i, none⟩ (.int .i64 x)) := (Below.refl base W).setCell (p := ⟨g, i, none⟩) hg _
  refine ⟨?_, hS _ _ h.s hb, h.b.trans hb, Nat.le_trans h.z hb.size⟩
  have := (h.o.stored i (.int .i64 x)).1
  rw [show ivals (dk.setIfInBounds i x).toList = (ivals dk.toList).set i (.int .i64 x) by unfold ivals; rw [Array.toList_setIfInBounds, List.map_set]]
  exact this
set_option maxHeartbeats 2000000 in
theorem deleteFunc_any (g : FuncId) (b : Nat) (eg : ∀ args w, (callFunc g args).run Tryd.prog w = .ok (.enter g args) w) (p : Int → Bool) (S : World → Prop) (base : Nat) (hz : ∀ W, S W → base ≤ W.heap.size) (hS : ∀ W W', S W → Below base W W' → S W')
    (hp : ∀ W (x : Int), S W → 0 ≤ x → x < 64 → Calls Tryd.prog g #[.pointer (some ⟨b, 0, none⟩), .int .i64 x] W fun e w' => e = .returned (.bool (p x)) ∧ Below W.heap.size W w')
    (xs : List Int) (hx : ∀ x ∈ xs, 0 ≤ x ∧ x < 64) (v : Value) (w : World) (hs : S w) (hlen : xs.length ≤ 1000) (hown : w.ownsRow base 3 1 v xs.length (ivals xs)) :
    Calls Tryd.prog 105 #[v, .func (.func g) #[.pointer (some ⟨b, 0, none⟩)] #[]] w fun e w' => ∃ v', e = .returned v' ∧ Below base w w' ∧ w'.ownsRow base 3 1 v' (xs.filter fun x => !p x).length (ivals (xs.filter fun x => !p x)) := by
  have HIF := Lib.hid (indexFunc_any g b eg p S (fun W W' h hb => hS W W' h (hb.mono (hz W h))) hp base xs hx v w hs hlen hown)
  have hbw := hz w hs
  rcases hown.2 with ⟨rfl, h0⟩ | ⟨gb, cap, cur, rfl, hb0, hgb, hnc, hcm, hcs, htk⟩
  · obtain rfl : xs = [] := List.eq_nil_of_length_eq_zero h0
    have HO := Lib.hid hown
    clear hown hp hS hz hx
    go_enter Tryd.func105, Tryd.ntmps105
    go_wp2_with fail
    refine HIF.out.mono ?_
    rintro e w2 ⟨⟨r, rfl, hr⟩, hb⟩
    obtain rfl : r = -1 := by
      rcases hr with ⟨h, _⟩ | ⟨k, hk, _⟩
      · exact h
      · simp at hk
    go_wp2
    go_ret
    exact ⟨_, rfl, hb.mono hbw, owns_go HO.out hb⟩
  · obtain ⟨n, hn⟩ : ∃ n, xs.length = n := ⟨_, rfl⟩
    have HD0 := Lib.hid (show DL base S w w gb n cap xs.toArray from ⟨by rw [← hn]; simpa using hown, hs, Below.refl _ _, hbw⟩)
    have HXR := Lib.hid (show ∀ k, k < n → 0 ≤ (xs.toArray)[k]! ∧ (xs.toArray)[k]! < 64 from fun k hk => by
      rw [getElem!_pos xs.toArray k (by simpa [hn] using hk)]
      exact hx _ (by simp))
    have HGD := Lib.hid (show ∀ k, k < n → xs.getD k 0 = (xs.toArray)[k]! from fun k hk => by
      rw [getElem!_pos xs.toArray k (by simpa [hn] using hk)]
      simp [List.getD, hn, hk])
    have HP := Lib.hid hp
    have HS := Lib.hid hS
    have HO := Lib.hid hown
    obtain ⟨kp, hkp⟩ : ∃ kp : Nat → Bool, kp = fun j => !p (xs.toArray)[j]! := ⟨_, rfl⟩
    have HK := Lib.hid hkp
    clear hkp
    have HFL := Lib.hid (show (xs.filter fun x => !p x) = keptUpTo kp xs.toArray n by
      rw [HK.out, ← show xs.toArray.size = n by simpa using hn]
      exact (keptUpTo_filter (fun x => !p x) xs.toArray).symm)
    rw [hn] at HIF hlen ⊢
    clear hown hp hS hz hx hs hgb hcs htk cur hb0
    go_enter Tryd.func105, Tryd.ntmps105
    go_wp2_with fail
    refine HIF.out.mono ?_
    rintro e w2 ⟨⟨r, rfl, hr⟩, hb⟩
    unfold FI at hr
    rw [hn] at hr
    rcases hr with ⟨rfl, hall⟩ | ⟨k0, hk0, rfl, ht, hall⟩
    · have HALL := Lib.hid hall
      clear hall
      go_wp2
      go_ret
      refine ⟨_, rfl, hb.mono hbw, ?_⟩
      have e1 : (xs.filter fun x => !p x) = xs := List.filter_eq_self.2 fun x hx => by
        obtain ⟨k, hk, e⟩ := List.mem_iff_getElem.1 hx
        have := HALL.out k (by omega)
        rw [show xs.getD k 0 = x by simp [List.getD, hk, e]] at this
        rw [this]; rfl
      rw [e1]
      have := owns_go HO.out hb
      rwa [hn] at this ⊢
    · have HD := Lib.hid (HD0.out.go HS.out hb)
      have HK0 := Lib.hid (show KeptInv kp xs.toArray (k0 + 1) k0 xs.toArray from KeptInv.start (fun j hj => by
        rw [HK.out]; show (!p (xs.toArray)[j]!) = true
        rw [← HGD.out j (by omega), hall j hj]; rfl) (by
        rw [HK.out]; show (!p (xs.toArray)[k0]!) = false
        rw [← HGD.out k0 hk0, ht]; rfl))
      have hk1 : ((k0 : Int) == -1) = false := by simp
      clear hall ht hb HD0
      go_wp2
      go_loopw [5, 6, 7] (fun s5 s6 _ wr => ∃ (i j : Nat) (dk : Array Int), s5 = .int .i64 (i : Int) ∧ s6 = .int .i64 (j : Int) ∧ j ≤ n ∧ DL base S w wr gb n cap dk ∧ Hid (KeptInv kp xs.toArray j i dk)) (fun _ s6 _ _ => n - (intOf s6).toNat)
      case atStart => exact ⟨k0, k0 + 1, xs.toArray, rfl, by go_num, hk0, HD.out, HK0⟩
      case round =>
        clear HD HK0
        obtain ⟨i, j, dk, rfl, rfl, hjn, h1, HI⟩ := hrel
        have HD := Lib.hid h1
        clear h1
        have hij : i < j := HI.out.lt
        have hds : dk.size = n := by rw [HI.out.size]; simpa using hn
        by_cases hlt : j < n
        · obtain ⟨cj, _⟩ := HD.out.cell hds j hlt
          obtain ⟨ci, fi⟩ := HD.out.cell hds i (by omega)
          rw [HI.out.high j (by omega)] at cj
          obtain ⟨x0, x1⟩ := HXR.out j hlt
          obtain ⟨x, hxj⟩ : ∃ x, (xs.toArray)[j]! = x := ⟨_, rfl⟩
          rw [hxj] at cj x0 x1
          have hc := HP.out wr x HD.out.s x0 x1
          obtain ⟨bx, hbx⟩ : ∃ b, p x = b := ⟨_, rfl⟩
          rw [hbx] at hc
          have HKJ := Lib.hid (show kp j = !bx by rw [HK.out]; show (!p (xs.toArray)[j]!) = !bx; rw [hxj, hbx])
          have HXJ := Lib.hid hxj
          generalize dk[i]! = old at ci
          clear hxj hbx x0 x1 ci fi
          cases bx
          · go_wp2_with (go_at_fn g; refine hc.mono ?_; rintro e w3 ⟨rfl, hb⟩; replace HD := Lib.hid (HD.out.go HS.out hb); obtain ⟨ci, fi⟩ := HD.out.cell hds i (by omega); clear hb cj)
            go_roundw
            case rel => exact ⟨i + 1, j + 1, dk.setIfInBounds i x, by go_num, by go_num, hlt, HD.out.set HS.out i x, Lib.hid (by
              have := HI.out.keep (by simpa [hn] using hlt) HKJ.out
              rwa [HXJ.out] at this)⟩
            case measure => simp [intOf]; omega
          · go_wp2_with (go_at_fn g; refine hc.mono ?_; rintro e w3 ⟨rfl, hb⟩; replace HD := Lib.hid (HD.out.go HS.out hb); clear hb cj)
            go_roundw
            case rel => exact ⟨i, j + 1, dk, rfl, by go_num, hlt, HD.out, Lib.hid (HI.out.skip HKJ.out)⟩
            case measure => simp [intOf]; omega
        · obtain rfl : j = n := by omega
          have hcl : ∀ ty, (Builtin.clear_ #[39] ty #[.slice (some ⟨gb, i, none⟩) (j - i) (cap - i)]).run Tryd.prog wr = .ok (.tuple #[]) (wr.setCells gb i (List.replicate (j - i) (.int .i64 0))) :=
            fun ty => by
              have h := Lib.run_clear_slice (P := Tryd.prog) wr 39 3 ty (.int .i64 0) Tryd.underlying39 (fun w => by kernel_rfl) rfl rfl gb i (j - i) (cap - i) (by omega) (fun t ht => by rw [(HD.out.cell hds (i + t) (by omega)).1]; rfl) (fun t ht => (HD.out.cell hds (i + t) (by omega)).2)
              exact h
          obtain ⟨⟨ys, h3, h4⟩, h5⟩ := own_setCells (List.replicate (j - i) (.int .i64 0)) i wr (ivals dk.toList) HD.out.o
          have h6 := own_cut h3 (show i ≤ j by omega)
          have hgb : base ≤ gb := (HD.out.o.lt gb rfl).1
          have HB6 := Lib.hid (show Below base w (wr.setCells gb i (List.replicate (j - i) (.int .i64 0))) from HD.out.b.grown h5 HD.out.z (fun k e => by cases e; exact hgb))
          have hlen6 : (keptUpTo kp xs.toArray j).length = i := HI.out.len
          have HRES := Lib.hid (show (wr.setCells gb i (List.replicate (j - i) (.int .i64 0))).ownsRow base 3 1 (.slice (some ⟨gb, 0, none⟩) i cap) (keptUpTo kp xs.toArray j).length (ivals (keptUpTo kp xs.toArray j)) by
            rw [hlen6]
            have e : ys.take i = ivals (keptUpTo kp xs.toArray j) := by
              rw [h4]
              apply List.ext_getElem?
              intro k
              unfold ivals
              by_cases hk : k < i
              · rw [List.getElem?_take, if_pos hk, List.getElem?_map, List.getElem?_map, HI.out.low k hk, Array.getElem?_toList, getElem!_pos dk k (by omega), Array.getElem?_eq_getElem (by omega)]
              · rw [List.getElem?_take, if_neg hk, List.getElem?_eq_none (by simp; omega)]
            rw [← e]; exact h6)
          rw [← HFL.out] at HRES
          have hi0 : (0 : Int) ≤ (i : Int) := by omega
          clear h3 h4 h5 h6 hgb
          go_wp2
          go_ret
          exact ⟨_, rfl, HB6.out, HRES.out⟩
end Go.Proofs.YtjhlombbkodpaaaDoor
