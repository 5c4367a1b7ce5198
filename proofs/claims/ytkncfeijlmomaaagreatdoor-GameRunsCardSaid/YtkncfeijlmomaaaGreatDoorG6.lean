/-
  Merged: Db, Dc, Mb, Dd, De.
-/
import Derived.Test.YtkncfeijlmomaaaGreatDoorG4
import Derived.Test.YtkncfeijlmomaaaGreatDoorG5
import Derived.Test.YtkncfeijlmomaaaGreatDoorG3
import Derived.Shelf.SortM.Plain
import Derived.Shelf.SortM.SortNone
import Derived.Shelf.SlGeneric
import Derived.Ground.SlgmProg
import Derived.OwnWalkIn
import Derived.TacticsInMore
import Derived.LoopIn
import Derived.Sort.OwnSortedInts
import Derived.Laws.OwnMore
import Derived.Lib.SliceRun
import Derived.Lib.SlKept

namespace Go.Proofs.YtkncfeijlmomaaaGreatDoor
open Go.RowKit Go.Sort
set_option linter.unusedSimpArgs false
set_option linter.unusedVariables false
set_option maxRecDepth 20000

def gFrom (k d : Int) : Nat := if sideB d then (if k = 1 then (if d = 0 then 4 else 6) else if k = 2 then 8 else if k = 3 then 4 else 0) else 0
def gTo (k d : Int) : Nat := if sideB d then (if k = 1 then (if d = 0 then 6 else 8) else if k = 2 then 16 else if k = 3 then 8 else if k = 4 then 4 else if k = 5 then 8 else if k = 6 then 8 else 0) else 0
def gFar (k d : Int) : Bool := sideB d && (k == 3 || k == 4 || k == 5)
theorem kind_cases (k : Int) : k = 1 ∨ k = 2 ∨ k = 3 ∨ k = 4 ∨ k = 5 ∨ k = 6 ∨ ((k == 1) = false ∧ (k == 2) = false ∧ (k == 3) = false ∧ (k == 4) = false ∧ (k == 5) = false ∧ (k == 6) = false) := by
  by_cases h1 : k = 1
  · exact .inl h1
  by_cases h2 : k = 2
  · exact .inr (.inl h2)
  by_cases h3 : k = 3
  · exact .inr (.inr (.inl h3))
  by_cases h4 : k = 4
  · exact .inr (.inr (.inr (.inl h4)))
  by_cases h5 : k = 5
  · exact .inr (.inr (.inr (.inr (.inl h5))))
  by_cases h6 : k = 6
  · exact .inr (.inr (.inr (.inr (.inr (.inl h6)))))
  · exact .inr (.inr (.inr (.inr (.inr (.inr ⟨by simp [h1], by simp [h2], by simp [h3], by simp [h4], by simp [h5], by simp [h6]⟩)))))
theorem aSide_any (d : Int) (w : World) :
    Calls Tryz.prog 124 #[.int .i64 d] w fun e w' => e = .returned (.bool (sideB d)) ∧ w = w' := by
  rcases side_cases d with ⟨rfl, hb⟩ | ⟨rfl, hb⟩ | ⟨h0, h1, hb⟩
  all_goals rw [hb]
  all_goals clear hb
  all_goals
    go_enter Tryz.func124, Tryz.ntmps124
    go_wp2
    go_ret
    exact ⟨rfl, rfl⟩
theorem infoGait : (Tryz.prog.info? 208).map (·.size) = some 3 := by kernel_rfl
set_option maxHeartbeats 1000000 in
theorem pawnGait_any (d : Int) (w : World) (hs : sideB d = true) :
    Calls Tryz.prog 241 #[.int .i64 d] w fun e w' => e = .returned (.agg #[.int .i64 (gFrom 1 d), .int .i64 (gTo 1 d), .bool (gFar 1 d)]) ∧ Below w.heap.size w w' := by
  rcases side_cases d with ⟨rfl, hb⟩ | ⟨rfl, hb⟩ | ⟨h0, h1, hb⟩
  · go_enter Tryz.func241, Tryz.ntmps241
    go_wp2
    refine bodyPost_ret (v := .agg #[.int .i64 4, .int .i64 6, .bool false]) ?_ rfl ⟨rfl, below_new _⟩
    exact results_cell_row (p := 2) (ty := 208) rfl _ _ w.heap.size 208 _ (0, 0) _ rfl (sl_at rfl) Tryz.underlying208 rfl infoGait
  · go_enter Tryz.func241, Tryz.ntmps241
    go_wp2
    refine bodyPost_ret (v := .agg #[.int .i64 6, .int .i64 8, .bool false]) ?_ rfl ⟨rfl, below_new _⟩
    exact results_cell_row (p := 2) (ty := 208) rfl _ _ w.heap.size 208 _ (0, 0) _ rfl (sl_at rfl) Tryz.underlying208 rfl infoGait
  · rw [hb] at hs; cases hs
set_option maxHeartbeats 4000000 in
set_option maxRecDepth 100000 in
theorem gaitOf_any (k d : Int) (w : World) :
    Calls Tryz.prog 205 #[.agg #[.int .i64 k, .int .i64 d]] w fun e w' => e = .returned (.agg #[.int .i64 (gFrom k d), .int .i64 (gTo k d), .bool (gFar k d)]) ∧ Below w.heap.size w w' := by
  obtain ⟨a, ha⟩ : ∃ a, gFrom k d = a := ⟨_, rfl⟩
  obtain ⟨b, hb⟩ : ∃ b, gTo k d = b := ⟨_, rfl⟩
  obtain ⟨c, hc⟩ : ∃ c, gFar k d = c := ⟨_, rfl⟩
  rw [ha, hb, hc]
  cases hs : sideB d
  · have ea : a = 0 := by rw [← ha]; simp [gFrom, hs]
    have eb : b = 0 := by rw [← hb]; simp [gTo, hs]
    have ec : c = false := by rw [← hc]; simp [gFar, hs]
    subst ea eb ec
    clear ha hb hc
    have HS := Lib.hid hs
    clear hs
    go_enter Tryz.func205, Tryz.ntmps205
    go_wp2_with fail
    refine (aSide_any d _).mono ?_
    rw [HS.out]
    rintro e w1 ⟨rfl, rfl⟩
    go_wp2
    refine bodyPost_ret (v := .agg #[.int .i64 0, .int .i64 0, .bool false]) ?_ rfl ⟨rfl, (below_new _).alloc (by simp) _⟩
    exact results_cell_row (p := 2) (ty := 208) rfl _ _ (w.heap.size + 1) 208 _ (0, 0) _ rfl (sl_at (by simp)) Tryz.underlying208 rfl infoGait
  · by_cases hk1 : k = 1
    · subst hk1
      have HP := Lib.hid (fun W => pawnGait_any d W hs)
      rw [ha, hb, hc] at HP
      have HS := Lib.hid hs
      clear hs ha hb hc
      go_enter Tryz.func205, Tryz.ntmps205
      go_wp2_with fail
      refine (aSide_any d _).mono ?_
      rw [HS.out]
      rintro e w1 ⟨rfl, rfl⟩
      go_wp2_with fail
      refine (HP.out _).mono ?_
      rintro e w1 ⟨rfl, hb1⟩
      have hz := hb1.size
      simp only [World.size_alloc] at hz
      have hl := sl_go (sl_at (W := w.alloc (.cells #[.int .i64 1, .int .i64 d] 25)) (o := .cells #[.int .i64 0, .int .i64 0, .bool false] 208) (H := w.heap.size + 1) (by simp)) hb1
      obtain ⟨c0, c1, c2, fr, _⟩ := row3 hl
      have HB := Lib.hid (((below_new (w := w) _).alloc (by simp) _).trans (hb1.mono (by simp; omega)))
      have HL := Lib.hid hl
      clear hl hb1
      go_wp2
      refine bodyPost_ret (v := .agg #[.int .i64 a, .int .i64 b, .bool c]) ?_ rfl ⟨rfl, below_put3 _ _ _ HB.out (Nat.le_succ _)⟩
      exact results_cell_row (p := 2) (ty := 208) rfl _ _ (w.heap.size + 1) 208 _ (0, 0) _ rfl (put3 _ _ _ HL.out) Tryz.underlying208 rfl infoGait
    · have hk := kind_cases k
      rcases hk with rfl | rfl | rfl | rfl | rfl | rfl | ⟨e1, e2, e3, e4, e5, e6⟩
      · exact absurd rfl hk1
      all_goals
        have ea : a = gFrom _ d := ha.symm
        have eb : b = gTo _ d := hb.symm
        have ec : c = gFar _ d := hc.symm
        simp [gFrom, gTo, gFar, hs] at ea eb ec
      rotate_right
      · simp at e1 e2 e3 e4 e5 e6
        clear ea eb ec
        have ea : a = 0 := by rw [← ha]; unfold gFrom; rw [if_pos hs, if_neg e1, if_neg e2, if_neg e3]
        have eb : b = 0 := by rw [← hb]; unfold gTo; rw [if_pos hs, if_neg e1, if_neg e2, if_neg e3, if_neg e4, if_neg e5, if_neg e6]
        have ec : c = false := by rw [← hc]; simp [gFar, e3, e4, e5]
        have f1 : (k == 1) = false := by simp [e1]
        have f2 : (k == 2) = false := by simp [e2]
        have f3 : (k == 3) = false := by simp [e3]
        have f4 : (k == 4) = false := by simp [e4]
        have f5 : (k == 5) = false := by simp [e5]
        have f6 : (k == 6) = false := by simp [e6]
        subst ea eb ec
        clear ha hb hc e1 e2 e3 e4 e5 e6 hk1
        have HS := Lib.hid hs
        clear hs
        go_enter Tryz.func205, Tryz.ntmps205
        go_wp2_with fail
        refine (aSide_any d _).mono ?_
        rw [HS.out]
        rintro e w1 ⟨rfl, rfl⟩
        go_wp2
        refine bodyPost_ret (v := .agg #[.int .i64 0, .int .i64 0, .bool false]) ?_ rfl ⟨rfl, (below_new _).alloc (by simp) _⟩
        exact results_cell_row (p := 2) (ty := 208) rfl _ _ (w.heap.size + 1) 208 _ (0, 0) _ rfl (sl_at (by simp)) Tryz.underlying208 rfl infoGait
      all_goals
        subst ea eb ec
        clear ha hb hc hk1
        have HS := Lib.hid hs
        clear hs
        go_enter Tryz.func205, Tryz.ntmps205
        go_wp2_with fail
        refine (aSide_any d _).mono ?_
        rw [HS.out]
        rintro e w1 ⟨rfl, rfl⟩
        go_wp2
        first
          | (refine bodyPost_ret (v := .agg #[.int .i64 8, .int .i64 16, .bool false]) ?_ rfl ⟨rfl, (below_new _).alloc (by simp) _⟩
             exact results_cell_row (p := 2) (ty := 208) rfl _ _ (w.heap.size + 1) 208 _ (0, 0) _ rfl (sl_at (by simp)) Tryz.underlying208 rfl infoGait)
          | (refine bodyPost_ret (v := .agg #[.int .i64 4, .int .i64 8, .bool true]) ?_ rfl ⟨rfl, (below_new _).alloc (by simp) _⟩
             exact results_cell_row (p := 2) (ty := 208) rfl _ _ (w.heap.size + 1) 208 _ (0, 0) _ rfl (sl_at (by simp)) Tryz.underlying208 rfl infoGait)
          | (refine bodyPost_ret (v := .agg #[.int .i64 0, .int .i64 4, .bool true]) ?_ rfl ⟨rfl, (below_new _).alloc (by simp) _⟩
             exact results_cell_row (p := 2) (ty := 208) rfl _ _ (w.heap.size + 1) 208 _ (0, 0) _ rfl (sl_at (by simp)) Tryz.underlying208 rfl infoGait)
          | (refine bodyPost_ret (v := .agg #[.int .i64 0, .int .i64 8, .bool true]) ?_ rfl ⟨rfl, (below_new _).alloc (by simp) _⟩
             exact results_cell_row (p := 2) (ty := 208) rfl _ _ (w.heap.size + 1) 208 _ (0, 0) _ rfl (sl_at (by simp)) Tryz.underlying208 rfl infoGait)
          | (refine bodyPost_ret (v := .agg #[.int .i64 0, .int .i64 8, .bool false]) ?_ rfl ⟨rfl, (below_new _).alloc (by simp) _⟩
             exact results_cell_row (p := 2) (ty := 208) rfl _ _ (w.heap.size + 1) 208 _ (0, 0) _ rfl (sl_at (by simp)) Tryz.underlying208 rfl infoGait)
/-- does something stand there -/
def occB (P : Nat → Int) (s : Nat) : Bool := !pe (P (2 * s)) (P (2 * s + 1)) 0 0
theorem aStands_any (b : Nat) (P : Nat → Int) (s : Nat) (hs : s < 64) (w : World) (hp : PB w b P) :
    Calls Tryz.prog 206 #[.pointer (some ⟨b, 0, none⟩), .int .i64 (s : Int)] w fun e w' => e = .returned (.bool (occB P s)) ∧ w = w' := by
  have e1 := hp.cell (s * 2) (by omega)
  have e2 := hp.cell (s * 2 + 1) (by omega)
  have h0 : (0 : Int) ≤ s := by omega
  have h1 : (s : Int) < 64 := by omega
  unfold occB
  rw [Nat.mul_comm 2 s]
  generalize P (s * 2) = k at e1
  generalize P (s * 2 + 1) = d at e2
  clear hp
  go_enter Tryz.func206, Tryz.ntmps206
  go_wp2
  go_ret
  exact ⟨rfl, rfl⟩
end Go.Proofs.YtkncfeijlmomaaaGreatDoor

namespace Go.Proofs.YtkncfeijlmomaaaGreatDoor
open Go.RowKit Go.Sort
set_option linter.unusedSimpArgs false
set_option linter.unusedVariables false
set_option maxRecDepth 20000

def sort_ren : Go.Shelf.Ren := ⟨fun | 5 => 158 | 8 => 185 | 7 => 184 | 19 => 228 | 20 => 229 | 10 => 219 | 11 => 220 | 12 => 221 | 13 => 222 | 14 => 223 | 15 => 224 | 16 => 225 | 17 => 226 | 18 => 227 | 30 => 249 | 31 => 250 | 32 => 251 | 33 => 252 | 34 => 253 | 35 => 254 | 40 => 258 | n => n, fun | 23 => 63 | 25 => 3 | 3 => 3 | 32 => 192 | 22 => 63 | 0 => 0 | 44 => 235 | 46 => 188 | 4 => 4 | 36 => 227 | 35 => 226 | 41 => 232 | 5 => 5 | 9 => 9 | 53 => 248 | 57 => 252 | 63 => 254 | 64 => 203 | n => n, fun | n => n⟩
theorem sort_lays : Go.Proofs.SlLaysM.n5 Tryz.prog sort_ren := {
  mixed := by kernel_rfl
  f5 := ⟨Tryz.f158.name, by decide, Tryz.func158.trans (congrArg some (by kernel_rfl))⟩
  f7 := ⟨Tryz.f184.name, by decide, Tryz.func184.trans (congrArg some (by kernel_rfl))⟩
  f8 := Tryz.func185.trans (congrArg some (by kernel_rfl))
  f10 := ⟨Tryz.f219.name, by decide, Tryz.func219.trans (congrArg some (by kernel_rfl))⟩
  f11 := ⟨Tryz.f220.name, by decide, Tryz.func220.trans (congrArg some (by kernel_rfl))⟩
  f12 := ⟨Tryz.f221.name, by decide, Tryz.func221.trans (congrArg some (by kernel_rfl))⟩
  f13 := ⟨Tryz.f222.name, by decide, Tryz.func222.trans (congrArg some (by kernel_rfl))⟩
  f14 := ⟨Tryz.f223.name, by decide, Tryz.func223.trans (congrArg some (by kernel_rfl))⟩
  f15 := ⟨Tryz.f224.name, by decide, Tryz.func224.trans (congrArg some (by kernel_rfl))⟩
  f16 := ⟨Tryz.f225.name, by decide, Tryz.func225.trans (congrArg some (by kernel_rfl))⟩
  f17 := ⟨Tryz.f226.name, by decide, Tryz.func226.trans (congrArg some (by kernel_rfl))⟩
  f18 := ⟨Tryz.f227.name, by decide, Tryz.func227.trans (congrArg some (by kernel_rfl))⟩
  f19 := Tryz.func228.trans (congrArg some (by kernel_rfl))
  f20 := Tryz.func229.trans (congrArg some (by kernel_rfl))
  f30 := ⟨Tryz.f249.name, by decide, Tryz.func249.trans (congrArg some (by kernel_rfl))⟩
  f31 := Tryz.func250.trans (congrArg some (by kernel_rfl))
  f32 := Tryz.func251.trans (congrArg some (by kernel_rfl))
  f33 := ⟨Tryz.f252.name, by decide, Tryz.func252.trans (congrArg some (by kernel_rfl))⟩
  f34 := ⟨Tryz.f253.name, by decide, Tryz.func253.trans (congrArg some (by kernel_rfl))⟩
  f35 := ⟨Tryz.f254.name, by decide, Tryz.func254.trans (congrArg some (by kernel_rfl))⟩
  f40 := ⟨Tryz.f258.name, by decide, Tryz.func258.trans (congrArg some (by kernel_rfl))⟩
  t0 := Tryz.underlying0
  a0 := Tryz.isAgg0
  z0 := Tryz.sizeOf0
  v0 := Tryz.zeroValue0
  t3 := Tryz.underlying3
  a3 := Tryz.isAgg3
  z3 := Tryz.sizeOf3
  v3 := Tryz.zeroValue3
  t4 := Tryz.underlying4
  a4 := Tryz.isAgg4
  z4 := Tryz.sizeOf4
  v4 := Tryz.zeroValue4
  t5 := Tryz.underlying5
  a5 := Tryz.isAgg5
  z5 := Tryz.sizeOf5
  v5 := Tryz.zeroValue5
  t9 := Tryz.underlying9
  a9 := Tryz.isAgg9
  z9 := Tryz.sizeOf9
  v9 := Tryz.zeroValue9
  t22 := Tryz.underlying63
  a22 := Tryz.isAgg63
  z22 := Tryz.sizeOf63
  v22 := Tryz.zeroValue63
  t23 := Tryz.underlying63
  a23 := Tryz.isAgg63
  z23 := Tryz.sizeOf63
  v23 := Tryz.zeroValue63
  t25 := Tryz.underlying3
  a25 := Tryz.isAgg3
  z25 := Tryz.sizeOf3
  v25 := Tryz.zeroValue3
  t32 := Tryz.underlying192
  a32 := Tryz.isAgg192
  z32 := Tryz.sizeOf192
  v32 := Tryz.zeroValue192
  t35 := Tryz.underlying226
  a35 := Tryz.isAgg226
  z35 := Tryz.sizeOf226
  v35 := Tryz.zeroValue226
  t36 := Tryz.underlying227
  a36 := Tryz.isAgg227
  z36 := Tryz.sizeOf227
  v36 := Tryz.zeroValue227
  t41 := Tryz.underlying232
  a41 := Tryz.isAgg232
  z41 := Tryz.sizeOf232
  v41 := Tryz.zeroValue232
  t44 := Tryz.underlying235
  a44 := Tryz.isAgg235
  z44 := Tryz.sizeOf235
  v44 := Tryz.zeroValue235
  t46 := Tryz.underlying188
  a46 := Tryz.isAgg188
  z46 := Tryz.sizeOf188
  v46 := Tryz.zeroValue188
  t53 := Tryz.underlying248
  a53 := Tryz.isAgg248
  z53 := Tryz.sizeOf248
  v53 := Tryz.zeroValue248
  t57 := Tryz.underlying252
  a57 := Tryz.isAgg252
  z57 := Tryz.sizeOf252
  v57 := Tryz.zeroValue252
  t63 := Tryz.underlying254
  a63 := Tryz.isAgg254
  z63 := Tryz.sizeOf254
  v63 := Tryz.zeroValue254
  t64 := Tryz.underlying203
  a64 := Tryz.isAgg203
  z64 := Tryz.sizeOf203
  v64 := Tryz.zeroValue203 }
attribute [local go_sem] Oper.semAt_some

theorem wpListIn_append_lies {F : Fence} {n : Nat} {P : Program} (w : World) {ops : Array Oper} {rest : List Oper} {o : Oper} {a : Act} {Q : Exit → Act → World → Prop}
    (hg : o.guard = none) (s x : Operand) (t : TypeId) (hop : o.op = Op.call { callee := Callee.builtin Builtin.append, args := #[s, x], argTypes := #[t, t] })
    (base : Nat) (e : TypeId) (i : TypeInfo) (z : Value) (size bytes : Nat) (h1 : P.underlying t = some (.slice e)) (h2 : P.info? e = some i) (h3 : i.zero = some z) (h4 : i.size = size) (h5 : i.bytes = bytes) (h6 : z.cells.size = size) (h7 : 0 < size)
    (v : Value) (k : Nat) (xs : List Value) (hs : a.eval s = v) (hown : w.ownsRow base e size v k xs) (ad : Addr) (m c : Nat) (news : List Value) (hx : a.eval x = .slice (some ad) m c) (hn : news.length = m * size)
    (hc : ∀ j u, news[j]? = some u → w.cell? (ad.add j) = some u) (h1c : ∀ u ∈ news, u.oneCell' = true) (hm : 0 < m) (b1 : k + m ≤ maxLen) (b2 : (k + m) * bytes ≤ 140737488355328) (b3 : base ≤ w.heap.size) (H : Nat) (hH : w.heap.size = H)
    (hK : ∀ g cap w', w'.ownsRow base e size (.slice (some ⟨g, 0, none⟩) (k + m) cap) (k + m) (xs ++ news) → w.grownBy w' v.ownBlock → (v.ownBlock = some g ∨ g = H) → g < w'.heap.size → wpListIn F n P ops Q rest (a.put o.dst (.slice (some ⟨g, 0, none⟩) (k + m) cap)) w') :
    wpListIn F n P ops Q (o :: rest) a w := by
  refine wpListIn_plain hg fun K hK' => ?_
  obtain ⟨g, cap, w', hrun, r1, r2, r3, r4⟩ := run_append_lies (P := P) w t o.type base e i z size bytes h1 h2 h3 h4 h5 h6 h7 v k xs hown ad m c news hn hc h1c hm b1 b2 b3 H hH
  unfold Oper.wpIn
  refine ⟨?_, ?_⟩
  · simp [Oper.about, hop, resolve, Target.leads, Sem.run_pure]
  · rw [Oper.semAt_plain F _ _ (by rw [hop]; intro c hc'; cases hc')]
    simp [execOp, hop, resolve, invoke, builtin, hs, hx, hrun, Result.andThen]
    exact hK' _ _ (hK g cap w' r1 r2 r3 r4)
theorem owns_same {w w' : World} {base : Nat} {e : TypeId} {k : Nat} {v : Value} {n : Nat} {xs : List Value} (h : w.ownsRow base e k v n xs) (hs : ∀ g, v.ownBlock = some g → g < w.heap.size → w'.heap[g]? = w.heap[g]?) : w'.ownsRow base e k v n xs := by
  refine ⟨h.1, ?_⟩
  rcases h.2 with h2 | ⟨g, cap, cur, rfl, h1, h2, h3⟩
  · exact .inl h2
  · exact .inr ⟨g, cap, cur, rfl, h1, (hs g rfl (Array.getElem?_eq_some_iff.1 h2).1).trans h2, h3⟩
/-- what stands between two rounds: the row in its box -/
structure ApI (w : World) (t : TypeId) (pre : List Int) (X : Nat → Prop) (W : World) : Prop where
  below : Below w.heap.size w W
  box : ∃ v, W.heap[w.heap.size]? = some (.cells #[v] t (0, 0)) ∧ W.ownsRow w.heap.size 3 1 v pre.length (ivals pre) ∧ (v = .slice none 0 0 ↔ pre = []) ∧ ∀ k, X k ↔ k = w.heap.size ∨ v.ownBlock = some k
theorem ApI.lt {w : World} {t : TypeId} {pre : List Int} {X : Nat → Prop} {W : World} (h : ApI w t pre X W) : ∀ k, X k → k < W.heap.size := by
  obtain ⟨v, hv, hr, _, hx⟩ := h.box
  intro k hk
  rcases (hx k).1 hk with rfl | h1
  · exact (Array.getElem?_eq_some_iff.1 hv).1
  · exact (hr.lt k h1).2
theorem ApI.spare {w : World} {t : TypeId} {pre : List Int} {X : Nat → Prop} {A B : World} {n : Nat} (h : ApI w t pre X A) (hn : w.heap.size ≤ n) (hs : Spares n X A B) : ApI w t pre X B := by
  obtain ⟨v, hv, hr, hz, hx⟩ := h.box
  refine ⟨h.below.trans (hs.below h.below.size hn), v, (hs.block _ (Array.getElem?_eq_some_iff.1 hv).1 (.inr ((hx _).2 (.inl rfl)))).trans hv, owns_same hr fun g hg hl => hs.block g hl (.inr ((hx g).2 (.inr hg))), hz, hx⟩
set_option maxHeartbeats 2000000 in
set_option maxRecDepth 100000 in
theorem appendSeq_any (g : FuncId) (lb : Array Value) (eg : ∀ args w, (callFunc g args).run Tryz.prog w = .ok (.enter g args) w) (N : Nat → Prop) (xs : List Int) (hlen : xs.length ≤ 1000) (w : World) (hseq : Comes Tryz.prog g lb N (Value.int .i64) xs w) :
    Calls Tryz.prog 259 #[.slice none 0 0, .func (.func g) #[] lb] w fun e w' => ∃ v, e = .returned v ∧ Below w.heap.size w w' ∧ w'.ownsRow w.heap.size 3 1 v xs.length (ivals xs) := by
  obtain ⟨i0, hi, hz0, hz1, hz2⟩ := info_parts infoInt
  refine calls_of_marks Tryz.func259 rfl ?_
  simp only [Tryz.ntmps259, List.size_toArray, List.length_cons, List.length_nil, Nat.reduceAdd, Nat.reduceSub, Array.replicate_succ, Array.replicate_zero, List.push_toArray, List.append_toArray, List.nil_append, List.cons_append]
  go_wp2
  refine wp_range_over (gf := g) (lb := lb) rfl eg hseq (below_new _) rfl (fun pre X W => ApI w 63 pre X W) (fun _ _ _ _ => False)
    (fun s X A B h hs => h.spare (by simp) hs) (fun _ _ _ _ _ h _ => h) (fun s X A h => h.lt) (X0 := fun k => k = w.heap.size) ?start ?disj
    (fun x => { tmps := #[.slice none 0 0, .func (.func g) #[] lb, .pointer (some ⟨w.heap.size, 0, none⟩), undef, .slice none 0 0, .int .i64 x, .func (.func g) #[] lb, .int .i64 x, undef, undef, undef, undef, undef], defers := [] }) ?assign ?body ?done ?stop
  case start => exact ⟨below_new _, _, sl_at rfl, World.ownsRow_nil _ _ _ _, by simp, fun k => by simp [Value.ownBlock]⟩
  case disj =>
    rintro k rfl hk
    have := hseq.1 _ hk
    omega
  case assign =>
    intro l x W K hK
    gi_wp2
    exact hK
  case body =>
    intro l pre x X W h hpre _
    have hlp := hpre.length_le
    simp at hlp
    obtain ⟨v, hv, hrow, hz, hx⟩ := h.box
    have hB := h.below.size
    have hc : W.cell? ⟨w.heap.size, 0, none⟩ = some v := by rw [cell_of_row W _ 0 _ _ (0, 0) hv]; rfl
    have HX := Lib.hid hx
    have HV := Lib.hid hv
    have HH := Lib.hid h
    clear hx hz h
    have hne : v.ownBlock ≠ some w.heap.size := owns_off hrow hv (by decide)
    gi_wp2_with (gi_at_builtin; refine wpListIn_append_lies _ rfl _ _ 63 rfl w.heap.size 3 i0 (.int .i64 0) 1 8 Tryz.underlying63 hi hz0 hz1 hz2 rfl (by decide) _ _ _ rfl (owns_go hrow ((Below.refl _ _).alloc (Nat.le_refl _) _)) ⟨W.heap.size, 0, none⟩ 1 1 [.int .i64 x] rfl rfl (World.news_of_block (heap_alloc_new _ _)) (by intro y hy; simp at hy; subst hy; rfl) (by decide) (by unfold maxLen; omega) (by omega) (by simp; omega) (W.heap.size + 1) (by simp) ?_; intro g1 cap1 w1 hown1 hgrow1 hat1 hlt1; have hv1 := sl_grown (al_old hv _) hgrow1 hne; have hc1 : w1.cell? ⟨w.heap.size, 0, none⟩ = some v := (by rw [cell_of_row w1 _ 0 _ _ (0, 0) hv1]; rfl); have hf1 := frozen_of_row w1 w.heap.size 0 _ _ hv1)
    rw [ivals_snoc] at hown1
    have hne1 : (Value.slice (some ⟨g1, 0, none⟩) (pre.length + 1) cap1).ownBlock ≠ some w.heap.size := owns_off hown1 hv1 (by decide)
    refine ⟨fun k => k = w.heap.size ∨ some g1 = some k, ?_, ?_, ?_, ?_⟩
    · have hg0 : W.grownBy w1 v.ownBlock := ⟨hgrow1.os, hgrow1.tape, hgrow1.output, Nat.le_trans (by simp) hgrow1.size, fun k hk hn => (hgrow1.block k (by simp; omega) hn).trans (heap_alloc_old W _ hk)⟩
      refine ⟨hg0.os, hg0.tape, hg0.output, by rw [World.size_setCell]; exact hg0.size, fun k hk hn => ?_⟩
      rw [Below.heap_setCell _ _ _ k (fun e => hn ((HX.out k).2 (.inl e)))]
      exact hg0.block k hk (fun e => hn ((HX.out k).2 (.inr e.symm)))
    · rintro k (rfl | hk)
      · exact .inl ((HX.out _).2 (.inl rfl))
      · rcases hat1 with h1 | h1
        · exact .inl ((HX.out _).2 (.inr (h1.trans hk)))
        · right; cases hk; omega
    · have hb1 : Below w.heap.size w w1 := (HH.out.below.alloc hB _).grown hgrow1 (by simp; omega) (fun k e => (hrow.lt k e).1)
      exact hb1.setCell (p := ⟨w.heap.size, 0, none⟩) (Nat.le_refl _) _
    · refine ⟨_, Go.heap_setCell_same w1 w.heap.size 0 _ _ _ hv1, ?_, by simp, fun k => Iff.rfl⟩
      rw [List.length_append]
      exact owns_same hown1 fun g hg hl => Below.heap_setCell _ _ _ g (fun e => by rw [e] at hg; exact hne1 hg)
  case done =>
    intro Y W h hK _ h2
    obtain ⟨v, hv, hrow, _, _⟩ := h.box
    have hc : W.cell? ⟨w.heap.size, 0, none⟩ = some v := by rw [cell_of_row W _ 0 _ _ (0, 0) hv]; rfl
    obtain ⟨v2, hv2, hrow2, _, _⟩ := h2.box
    have e2 : v2 = v := by
      have h3 := (World.putObj_heap_other (w := W) (o := .deferred none) (k := w.heap.size) (r := (w.alloc (.cells #[.slice none 0 0] 63)).heap.size) (by simp)).trans hv
      rw [h3] at hv2
      simpa using hv2.symm
    subst e2
    have HR := Lib.hid hrow2
    have HB := Lib.hid h2.below
    clear hv hrow h2 h hv2 hrow2
    go_wp2
    refine ⟨by simp, .inl ⟨_, _, rfl, run_takeDeferred hK, ?_⟩⟩
    exact ⟨_, results_tmp rfl _ _ _, v2, rfl, HB.out, HR.out⟩
  case stop =>
    intro c pre Y W _ h
    exact h.elim
theorem collect_any (g : FuncId) (lb : Array Value) (eg : ∀ args w, (callFunc g args).run Tryz.prog w = .ok (.enter g args) w) (N : Nat → Prop) (xs : List Int) (hlen : xs.length ≤ 1000) (w : World) (hseq : Comes Tryz.prog g lb N (Value.int .i64) xs w) :
    Calls Tryz.prog 257 #[.func (.func g) #[] lb] w fun e w' => ∃ v, e = .returned v ∧ Below w.heap.size w w' ∧ w'.ownsRow w.heap.size 3 1 v xs.length (ivals xs) := by
  have HA := Lib.hid (appendSeq_any g lb eg N xs hlen w hseq)
  clear hseq
  go_enter Tryz.func257, Tryz.ntmps257
  go_wp2_with fail
  refine HA.out.mono ?_
  rintro e w1 ⟨v, rfl, hb, hown⟩
  have HB := Lib.hid hb
  have HO := Lib.hid hown
  clear hb hown HA
  go_wp2
  go_ret
  exact ⟨v, rfl, HB.out, HO.out⟩
/-- rising -/
def risen (xs : List Int) : List Int := xs.mergeSort fun x y => decide (x ≤ y)
theorem risen_len (xs : List Int) : (risen xs).length = xs.length := by simp [risen]
set_option maxHeartbeats 1000000 in
theorem sorted_any (g : FuncId) (lb : Array Value) (eg : ∀ args w, (callFunc g args).run Tryz.prog w = .ok (.enter g args) w) (N : Nat → Prop) (xs : List Int) (hlen : xs.length ≤ 1000) (w : World) (hseq : Comes Tryz.prog g lb N (Value.int .i64) xs w) :
    Calls Tryz.prog 246 #[.func (.func g) #[] lb] w fun e w' => ∃ v, e = .returned v ∧ Below w.heap.size w w' ∧ w'.ownsRow w.heap.size 3 1 v (risen xs).length (ivals (risen xs)) := by
  have HA := Lib.hid (collect_any g lb eg N xs hlen w hseq)
  clear hseq
  go_enter Tryz.func246, Tryz.ntmps246
  go_wp2_with fail
  refine HA.out.mono ?_
  rintro e w1 ⟨v, rfl, hb, hown⟩
  have HB := Lib.hid hb
  have HO := Lib.hid hown
  clear hb HA
  rcases hown.2 with ⟨rfl, hz⟩ | ⟨gb, cap, cur, rfl, hbase, hgb, r1, r2, r3, r4⟩
  · obtain rfl : xs = [] := List.eq_nil_of_length_eq_zero hz
    clear hown
    have cS : Calls Tryz.prog 158 #[.slice none 0 0] w1 fun e w' => e = .returned (.tuple #[]) ∧ w' = w1 := AnyM.slices_Sort_int_none sort_lays none 0 w1
    go_wp2_with fail
    refine cS.mono ?_
    rintro e w' ⟨rfl, rfl⟩
    go_wp2
    go_ret
    exact ⟨.slice none 0 0, rfl, HB.out, by rw [show risen [] = [] by simp [risen]]; exact HO.out⟩
  · have hH : Holds (Value.int .i64) w1 gb 0 xs.toArray := holds_of_blockI hgb (by simpa [ivals] using r4)
    have cS : Calls Tryz.prog 158 #[.slice (some ⟨gb, 0, none⟩) xs.length cap] w1 fun e w' => e = .returned (.tuple #[]) ∧ ∃ n os, w' = grow (putRow (Value.int .i64) (Sort.ahead w1 n) gb 0 (risen xs).toArray) os :=
      AnyM.slices_Sort_int sort_lays gb 0 cap xs w1 hH (Array.getElem?_eq_some_iff.1 hgb).1 (by omega)
    have HS := Lib.hid (fun n os => ownsRow_sortedI (n := n) (os := os) (risen_len xs) hbase hgb r1 r2 r3)
    have HG := Lib.hid (fun n os => HB.out.grown (grownBy_sortedI (w := w1) (g := gb) (n := n) (os := os) (risen xs).toArray) HB.out.size (fun j hj => by cases hj; exact hbase))
    clear hown r1 r2 r3 r4 hbase hgb hH HO HB
    go_wp2_with fail
    refine cS.mono ?_
    rintro e w' ⟨rfl, n, os, hw⟩
    have HS2 := Lib.hid (HS.out n os)
    have HG2 := Lib.hid (HG.out n os)
    rw [← hw] at HS2 HG2
    clear hw HS HG cS
    go_wp2
    go_ret
    exact ⟨_, rfl, HG2.out, by rw [risen_len]; exact HS2.out⟩
end Go.Proofs.YtkncfeijlmomaaaGreatDoor

namespace Go.Proofs.YtkncfeijlmomaaaGreatDoor
open Go.RowKit Go.Sort Go.Lib
set_option linter.unusedSimpArgs false
set_option linter.unusedVariables false
set_option maxRecDepth 20000

theorem readsAt {B : Nat} {w : World} {b off n : Nat} {f : Nat → Value} (h : Reads B w (some ⟨b, off, none⟩) n f) {i : Nat} (hi : i < n) : w.cell? ⟨b, off + i, none⟩ = some (f i) := by
  rcases h with h0 | ⟨b', o', he, _, hc⟩
  · omega
  · injection he with he; injection he with e1 e2; subst e1; subst e2; exact hc i hi
theorem readsAddr {B : Nat} {w : World} {p : Option Addr} {n : Nat} {f : Nat → Value} (h : Reads B w p n f) {i : Nat} (hi : i < n) : ∃ b o, p = some ⟨b, o, none⟩ := by
  rcases h with h0 | ⟨b, o, h1, _⟩
  · omega
  · exact ⟨b, o, h1⟩
/-- the first of a row of which p holds -/
def FI (p : Int → Bool) (xs : List Int) (r : Int) : Prop :=
  (r = -1 ∧ ∀ k, k < xs.length → p (xs.getD k 0) = false) ∨ ∃ k : Nat, k < xs.length ∧ r = (k : Int) ∧ p (xs.getD k 0) = true ∧ ∀ j, j < k → p (xs.getD j 0) = false
set_option maxHeartbeats 1000000 in
theorem indexFunc_any (g : FuncId) (b : Nat) (eg : ∀ args w, (callFunc g args).run Tryz.prog w = .ok (.enter g args) w) (p : Int → Bool) (S : World → Prop) (hS : ∀ W W', S W → Below W.heap.size W W' → S W')
    (hp : ∀ W (x : Int), S W → 0 ≤ x → x < 64 → Calls Tryz.prog g #[.pointer (some ⟨b, 0, none⟩), .int .i64 x] W fun e w' => e = .returned (.bool (p x)) ∧ Below W.heap.size W w')
    (base : Nat) (xs : List Int) (hx : ∀ x ∈ xs, 0 ≤ x ∧ x < 64) (v : Value) (w : World) (hs : S w) (hlen : xs.length ≤ 1000) (hown : w.ownsRow base 3 1 v xs.length (ivals xs)) :
    Calls Tryz.prog 247 #[v, .func (.func g) #[.pointer (some ⟨b, 0, none⟩)] #[]] w fun e w' => (∃ r, e = .returned (.int .i64 r) ∧ FI p xs r) ∧ Below w.heap.size w w' := by
  rw [ivals_range] at hown
  obtain ⟨pa, ca, rfl, hr, _⟩ := sq_reads hown
  have hxs : ∀ k, k < xs.length → 0 ≤ xs.getD k 0 ∧ xs.getD k 0 < 64 := fun k hk => by
    have : xs.getD k 0 = xs[k] := by simp [List.getD, hk]
    rw [this]; exact hx _ (List.getElem_mem hk)
  obtain ⟨F, hF⟩ : ∃ F : Nat → Int, (fun k => xs.getD k 0) = F := ⟨_, rfl⟩
  have hF2 : ∀ k, xs.getD k 0 = F k := fun k => congrFun hF k
  obtain ⟨n, hn⟩ : ∃ n, xs.length = n := ⟨_, rfl⟩
  have HFI := Lib.hid (show ∀ r, ((r = -1 ∧ ∀ k, k < n → p (F k) = false) ∨ ∃ k : Nat, k < n ∧ r = (k : Int) ∧ p (F k) = true ∧ ∀ j, j < k → p (F j) = false) → FI p xs r from fun r h => by unfold FI; rw [hn]; simp only [hF2]; exact h)
  have HX := Lib.hid (show ∀ k, k < n → 0 ≤ F k ∧ F k < 64 from fun k hk => by rw [← hF2]; exact hxs k (by rw [hn]; exact hk))
  have HR := Lib.hid (show Reads w.heap.size w pa n (fun k => .int .i64 (F k)) by rw [← hn]; simpa only [hF2] using hr)
  have HP := Lib.hid hp
  have HS := Lib.hid hS
  have HS0 := Lib.hid hs
  rw [hn] at hlen
  rw [hn]
  generalize FI p xs = R at *
  have HB0 := Lib.hid (Below.refl w.heap.size w)
  clear hown hr hxs hF hF2 hn hx hp hS hs
  go_enter Tryz.func247, Tryz.ntmps247
  go_wp2
  go_loopw [8] (fun i wr => ∃ j : Nat, j ≤ n ∧ i = .int .i64 (j : Int) ∧ S wr ∧ Below w.heap.size w wr ∧ ∀ k, k < j → p (F k) = false) (fun i _ => n - (intOf i).toNat)
  case atStart => exact ⟨0, Nat.zero_le _, rfl, HS0.out, HB0.out, fun k hk => by omega⟩
  case round =>
    clear HS0 HB0
    obtain ⟨j, hj, rfl, h1, h2, h3⟩ := hrel
    have HS1 := Lib.hid h1
    have HB1 := Lib.hid h2
    have HN := Lib.hid h3
    clear h1 h2 h3
    by_cases hlt : j < n
    · have hrr := HR.out.below HB1.out
      obtain ⟨ab, ao, rfl⟩ := readsAddr hrr hlt
      have e0 := readsAt hrr hlt
      obtain ⟨x0, x1⟩ := HX.out j hlt
      obtain ⟨x, hx⟩ : ∃ x, F j = x := ⟨_, rfl⟩
      rw [hx] at e0 x0 x1
      have HXJ := Lib.hid hx
      have hc := HP.out wr x HS1.out x0 x1
      clear hx hrr
      obtain ⟨bx, hbx⟩ : ∃ b, p x = b := ⟨_, rfl⟩
      rw [hbx] at hc
      have HBX := Lib.hid hbx
      clear hbx
      cases bx
      · go_wp2_with (go_at_fn g; refine hc.mono ?_; rintro e w2 ⟨rfl, hb⟩)
        go_roundw
        case rel => exact ⟨j + 1, hlt, by go_num, HS.out _ _ HS1.out hb, HB1.out.trans (hb.mono HB1.out.size), fun k hk => by
          rcases Nat.lt_succ_iff_lt_or_eq.1 hk with h | rfl
          · exact HN.out k h
          · rw [HXJ.out]; exact HBX.out⟩
        case measure => simp [intOf]; omega
      · go_wp2_with (go_at_fn g; refine hc.mono ?_; rintro e w2 ⟨rfl, hb⟩)
        go_ret
        exact ⟨⟨_, rfl, HFI.out _ (.inr ⟨j, hlt, rfl, by rw [HXJ.out]; exact HBX.out, HN.out⟩)⟩, HB1.out.trans (hb.mono HB1.out.size)⟩
    · obtain rfl : j = n := by omega
      go_wp2
      go_ret
      exact ⟨⟨_, rfl, HFI.out _ (.inl ⟨rfl, HN.out⟩)⟩, HB1.out⟩
theorem own_setCells {e : TypeId} {g cap n base : Nat} (vs : List Value) : ∀ (o : Nat) (w : World) (xs : List Value), w.ownsRow base e 1 (.slice (some ⟨g, 0, none⟩) n cap) n xs →
    (∃ ys, (w.setCells g o vs).ownsRow base e 1 (.slice (some ⟨g, 0, none⟩) n cap) n ys ∧ ys.take o = xs.take o) ∧ w.grownBy (w.setCells g o vs) (some g) := by
  induction vs with
  | nil => exact fun o w xs h => ⟨⟨xs, h, rfl⟩, World.grownBy.refl _ _⟩
  | cons v r ih =>
    intro o w xs h
    obtain ⟨h1, h2⟩ := h.stored o v
    obtain ⟨⟨ys, h3, h4⟩, h5⟩ := ih (o + 1) _ _ h1
    refine ⟨⟨ys, h3, ?_⟩, h2.trans h5⟩
    have h6 := congrArg (List.take o) h4
    rw [List.take_take, List.take_take, Nat.min_eq_left (Nat.le_succ o)] at h6
    rw [h6]
    apply List.ext_getElem?
    intro k
    simp only [List.getElem?_take]
    split
    · rw [List.getElem?_set_ne (by omega)]
    · rfl
theorem own_cut {e : TypeId} {g cap n base i : Nat} {w : World} {xs : List Value} (h : w.ownsRow base e 1 (.slice (some ⟨g, 0, none⟩) n cap) n xs) (hi : i ≤ n) : w.ownsRow base e 1 (.slice (some ⟨g, 0, none⟩) i cap) i (xs.take i) := by
  have hl := h.1
  rcases h.2 with ⟨h', _⟩ | ⟨g', cap', cur, h', hb, hg, hnc, hcm, hcs, htake⟩
  · simp at h'
  · simp only [Value.slice.injEq, Option.some.injEq, Addr.mk.injEq, and_true, true_and] at h'
    obtain ⟨rfl, rfl⟩ := h'
    refine ⟨by simp; omega, .inr ⟨g, cap, cur, rfl, hb, hg, by omega, hcm, hcs, ?_⟩⟩
    rw [← htake, List.take_take]
    congr 1
    omega
/-- a row that is rewritten -/
structure DL (base : Nat) (S : World → Prop) (w W : World) (g n cap : Nat) (dk : Array Int) : Prop where
  o : W.ownsRow base 3 1 (.slice (some ⟨g, 0, none⟩) n cap) n (ivals dk.toList)
  s : S W
  b : Below base w W
  z : base ≤ W.heap.size
theorem DL.go {base : Nat} {S : World → Prop} (hS : ∀ W W', S W → Below base W W' → S W') {w W W' : World} {g n cap : Nat} {dk : Array Int} (h : DL base S w W g n cap dk) (b : Below W.heap.size W W') : DL base S w W' g n cap dk :=
  ⟨owns_go h.o b, hS _ _ h.s (b.mono h.z), h.b.trans (b.mono h.z), Nat.le_trans h.z b.size⟩
theorem DL.cell {base : Nat} {S : World → Prop} {w W : World} {g n cap : Nat} {dk : Array Int} (h : DL base S w W g n cap dk) (hn : dk.size = n) (j : Nat) (hj : j < n) : W.cell? ⟨g, j, none⟩ = some (.int .i64 dk[j]!) ∧ W.frozen? ⟨g, j, none⟩ = false := by
  refine ⟨?_, h.o.frozenAt j⟩
  rw [h.o.cellAt j (by omega)]
  unfold ivals
  rw [List.getElem?_map, Array.getElem?_toList, getElem!_pos dk j (by omega), Array.getElem?_eq_getElem (by omega)]
  rfl
theorem DL.set {base : Nat} {S : World → Prop} (hS : ∀ W W', S W → Below base W W' → S W') {w W : World} {g n cap : Nat} {dk : Array Int} (h : DL base S w W g n cap dk) (i : Nat) (x : Int) : DL base S w (W.setCell ⟨g, i, none⟩ (.int .i64 x)) g n cap (dk.setIfInBounds i x) := by
  have hg : base ≤ g := (h.o.lt g rfl).1
  have hb : Below base W (W.setCell ⟨g, i, none⟩ (.int .i64 x)) := (Below.refl base W).setCell (p := ⟨g, i, none⟩) hg _
  refine ⟨?_, hS _ _ h.s hb, h.b.trans hb, Nat.le_trans h.z hb.size⟩
  have := (h.o.stored i (.int .i64 x)).1
  rw [show ivals (dk.setIfInBounds i x).toList = (ivals dk.toList).set i (.int .i64 x) by unfold ivals; rw [Array.toList_setIfInBounds, List.map_set]]
  exact this
set_option maxHeartbeats 2000000 in
theorem deleteFunc_any (g : FuncId) (b : Nat) (eg : ∀ args w, (callFunc g args).run Tryz.prog w = .ok (.enter g args) w) (p : Int → Bool) (S : World → Prop) (base : Nat) (hz : ∀ W, S W → base ≤ W.heap.size) (hS : ∀ W W', S W → Below base W W' → S W')
    (hp : ∀ W (x : Int), S W → 0 ≤ x → x < 64 → Calls Tryz.prog g #[.pointer (some ⟨b, 0, none⟩), .int .i64 x] W fun e w' => e = .returned (.bool (p x)) ∧ Below W.heap.size W w')
    (xs : List Int) (hx : ∀ x ∈ xs, 0 ≤ x ∧ x < 64) (v : Value) (w : World) (hs : S w) (hlen : xs.length ≤ 1000) (hown : w.ownsRow base 3 1 v xs.length (ivals xs)) :
    Calls Tryz.prog 215 #[v, .func (.func g) #[.pointer (some ⟨b, 0, none⟩)] #[]] w fun e w' => ∃ v', e = .returned v' ∧ Below base w w' ∧ w'.ownsRow base 3 1 v' (xs.filter fun x => !p x).length (ivals (xs.filter fun x => !p x)) := by
  have HIF := Lib.hid (indexFunc_any g b eg p S (fun W W' h hb => hS W W' h (hb.mono (hz W h))) hp base xs hx v w hs hlen hown)
  have hbw := hz w hs
  rcases hown.2 with ⟨rfl, h0⟩ | ⟨gb, cap, cur, rfl, hb0, hgb, hnc, hcm, hcs, htk⟩
  · obtain rfl : xs = [] := List.eq_nil_of_length_eq_zero h0
    have HO := Lib.hid hown
    clear hown hp hS hz hx
    go_enter Tryz.func215, Tryz.ntmps215
    go_wp2_with fail
    refine HIF.out.mono ?_
    rintro e w2 ⟨⟨r, rfl, hr⟩, hb⟩
    obtain rfl : r = -1 := by
      rcases hr with ⟨h, _⟩ | ⟨k, hk, _⟩
      · exact h
      · simp at hk
    go_wp2
    go_ret
    exact ⟨_, rfl, hb.mono hbw, owns_go HO.out hb⟩
  · obtain ⟨n, hn⟩ : ∃ n, xs.length = n := ⟨_, rfl⟩
    have HD0 := Lib.hid (show DL base S w w gb n cap xs.toArray from ⟨by rw [← hn]; simpa using hown, hs, Below.refl _ _, hbw⟩)
    have HXR := Lib.hid (show ∀ k, k < n → 0 ≤ (xs.toArray)[k]! ∧ (xs.toArray)[k]! < 64 from fun k hk => by
      rw [getElem!_pos xs.toArray k (by simpa [hn] using hk)]
      exact hx _ (by simp))
    have HGD := Lib.hid (show ∀ k, k < n → xs.getD k 0 = (xs.toArray)[k]! from fun k hk => by
      rw [getElem!_pos xs.toArray k (by simpa [hn] using hk)]
      simp [List.getD, hn, hk])
    have HP := Lib.hid hp
    have HS := Lib.hid hS
    have HO := Lib.hid hown
    obtain ⟨kp, hkp⟩ : ∃ kp : Nat → Bool, kp = fun j => !p (xs.toArray)[j]! := ⟨_, rfl⟩
    have HK := Lib.hid hkp
    clear hkp
    have HFL := Lib.hid (show (xs.filter fun x => !p x) = keptUpTo kp xs.toArray n by
      rw [HK.out, ← show xs.toArray.size = n by simpa using hn]
      exact (keptUpTo_filter (fun x => !p x) xs.toArray).symm)
    rw [hn] at HIF hlen ⊢
    clear hown hp hS hz hx hs hgb hcs htk cur hb0
    go_enter Tryz.func215, Tryz.ntmps215
    go_wp2_with fail
    refine HIF.out.mono ?_
    rintro e w2 ⟨⟨r, rfl, hr⟩, hb⟩
    unfold FI at hr
    rw [hn] at hr
    rcases hr with ⟨rfl, hall⟩ | ⟨k0, hk0, rfl, ht, hall⟩
    · have HALL := Lib.hid hall
      clear hall
      go_wp2
      go_ret
      refine ⟨_, rfl, hb.mono hbw, ?_⟩
      have e1 : (xs.filter fun x => !p x) = xs := List.filter_eq_self.2 fun x hx => by
        obtain ⟨k, hk, e⟩ := List.mem_iff_getElem.1 hx
        have := HALL.out k (by omega)
        rw [show xs.getD k 0 = x by simp [List.getD, hk, e]] at this
        rw [this]; rfl
      rw [e1]
      have := owns_go HO.out hb
      rwa [hn] at this ⊢
    · have HD := Lib.hid (HD0.out.go HS.out hb)
      have HK0 := Lib.hid (show KeptInv kp xs.toArray (k0 + 1) k0 xs.toArray from KeptInv.start (fun j hj => by
        rw [HK.out]; show (!p (xs.toArray)[j]!) = true
        rw [← HGD.out j (by omega), hall j hj]; rfl) (by
        rw [HK.out]; show (!p (xs.toArray)[k0]!) = false
        rw [← HGD.out k0 hk0, ht]; rfl))
      have hk1 : ((k0 : Int) == -1) = false := by simp
      clear hall ht hb HD0
      go_wp2
      go_loopw [5, 6, 7] (fun s5 s6 _ wr => ∃ (i j : Nat) (dk : Array Int), s5 = .int .i64 (i : Int) ∧ s6 = .int .i64 (j : Int) ∧ j ≤ n ∧ DL base S w wr gb n cap dk ∧ Hid (KeptInv kp xs.toArray j i dk)) (fun _ s6 _ _ => n - (intOf s6).toNat)
      case atStart => exact ⟨k0, k0 + 1, xs.toArray, rfl, by go_num, hk0, HD.out, HK0⟩
      case round =>
        clear HD HK0
        obtain ⟨i, j, dk, rfl, rfl, hjn, h1, HI⟩ := hrel
        have HD := Lib.hid h1
        clear h1
        have hij : i < j := HI.out.lt
        have hds : dk.size = n := by rw [HI.out.size]; simpa using hn
        by_cases hlt : j < n
        · obtain ⟨cj, _⟩ := HD.out.cell hds j hlt
          obtain ⟨ci, fi⟩ := HD.out.cell hds i (by omega)
          rw [HI.out.high j (by omega)] at cj
          obtain ⟨x0, x1⟩ := HXR.out j hlt
          obtain ⟨x, hxj⟩ : ∃ x, (xs.toArray)[j]! = x := ⟨_, rfl⟩
          rw [hxj] at cj x0 x1
          have hc := HP.out wr x HD.out.s x0 x1
          obtain ⟨bx, hbx⟩ : ∃ b, p x = b := ⟨_, rfl⟩
          rw [hbx] at hc
          have HKJ := Lib.hid (show kp j = !bx by rw [HK.out]; show (!p (xs.toArray)[j]!) = !bx; rw [hxj, hbx])
          have HXJ := Lib.hid hxj
          generalize dk[i]! = old at ci
          clear hxj hbx x0 x1 ci fi
          cases bx
          · go_wp2_with (go_at_fn g; refine hc.mono ?_; rintro e w3 ⟨rfl, hb⟩; replace HD := Lib.hid (HD.out.go HS.out hb); obtain ⟨ci, fi⟩ := HD.out.cell hds i (by omega); clear hb cj)
            go_roundw
            case rel => exact ⟨i + 1, j + 1, dk.setIfInBounds i x, by go_num, by go_num, hlt, HD.out.set HS.out i x, Lib.hid (by
              have := HI.out.keep (by simpa [hn] using hlt) HKJ.out
              rwa [HXJ.out] at this)⟩
            case measure => simp [intOf]; omega
          · go_wp2_with (go_at_fn g; refine hc.mono ?_; rintro e w3 ⟨rfl, hb⟩; replace HD := Lib.hid (HD.out.go HS.out hb); clear hb cj)
            go_roundw
            case rel => exact ⟨i, j + 1, dk, rfl, by go_num, hlt, HD.out, Lib.hid (HI.out.skip HKJ.out)⟩
            case measure => simp [intOf]; omega
        · obtain rfl : j = n := by omega
          have hcl : ∀ ty, (Builtin.clear_ #[63] ty #[.slice (some ⟨gb, i, none⟩) (j - i) (cap - i)]).run Tryz.prog wr = .ok (.tuple #[]) (wr.setCells gb i (List.replicate (j - i) (.int .i64 0))) :=
            fun ty => by
              have h := Lib.run_clear_slice (P := Tryz.prog) wr 63 3 ty (.int .i64 0) Tryz.underlying63 (fun w => by kernel_rfl) rfl rfl gb i (j - i) (cap - i) (by omega) (fun t ht => by rw [(HD.out.cell hds (i + t) (by omega)).1]; rfl) (fun t ht => (HD.out.cell hds (i + t) (by omega)).2)
              exact h
          obtain ⟨⟨ys, h3, h4⟩, h5⟩ := own_setCells (List.replicate (j - i) (.int .i64 0)) i wr (ivals dk.toList) HD.out.o
          have h6 := own_cut h3 (show i ≤ j by omega)
          have hgb : base ≤ gb := (HD.out.o.lt gb rfl).1
          have HB6 := Lib.hid (show Below base w (wr.setCells gb i (List.replicate (j - i) (.int .i64 0))) from HD.out.b.grown h5 HD.out.z (fun k e => by cases e; exact hgb))
          have hlen6 : (keptUpTo kp xs.toArray j).length = i := HI.out.len
          have HRES := Lib.hid (show (wr.setCells gb i (List.replicate (j - i) (.int .i64 0))).ownsRow base 3 1 (.slice (some ⟨gb, 0, none⟩) i cap) (keptUpTo kp xs.toArray j).length (ivals (keptUpTo kp xs.toArray j)) by
            rw [hlen6]
            have e : ys.take i = ivals (keptUpTo kp xs.toArray j) := by
              rw [h4]
              apply List.ext_getElem?
              intro k
              unfold ivals
              by_cases hk : k < i
              · rw [List.getElem?_take, if_pos hk, List.getElem?_map, List.getElem?_map, HI.out.low k hk, Array.getElem?_toList, getElem!_pos dk k (by omega), Array.getElem?_eq_getElem (by omega)]
              · rw [List.getElem?_take, if_neg hk, List.getElem?_eq_none (by simp; omega)]
            rw [← e]; exact h6)
          rw [← HFL.out] at HRES
          have hi0 : (0 : Int) ≤ (i : Int) := by omega
          clear h3 h4 h5 h6 hgb
          go_wp2
          go_ret
          exact ⟨_, rfl, HB6.out, HRES.out⟩
end Go.Proofs.YtkncfeijlmomaaaGreatDoor

namespace Go.Proofs.YtkncfeijlmomaaaGreatDoor
open Go.RowKit Go.Sort
set_option linter.unusedSimpArgs false
set_option linter.unusedVariables false
set_option maxRecDepth 20000

def stN (i : Nat) : Int := [1, 0, -1, 0, 0, 1, 0, -1, -1, 1, 1, 1, -1, -1, 1, -1, -1, -2, 1, -2, -2, -1, 2, -1, -2, 1, 2, 1, -1, 2, 1, 2].getD i 0
def dF (i : Nat) : Int := stN (i * 2)
def dR (i : Nat) : Int := stN (i * 2 + 1)
theorem stN_small : ∀ i, i < 32 → -2 ≤ stN i ∧ stN i ≤ 2 := by decide
theorem dF_I (i : Nat) (h : i < 16) : I64 (dF i) := by have := stN_small (i * 2) (by omega); unfold I64 dF; omega
theorem dR_I (i : Nat) (h : i < 16) : I64 (dR i) := by have := stN_small (i * 2 + 1) (by omega); unfold I64 dR; omega
def rayN (i : Nat) : Nat → Int → List Int
  | 0, _ => []
  | n + 1, t => if sq t then t :: rayN i n (stp t (dF i) (dR i)) else []
/-- a square, and those on a way from it on -/
def ray (i : Nat) (t : Int) : List Int := rayN i 8 t
theorem ray_on0 : ∀ i, i < 16 → ∀ t, t < 64 → ray i ((t : Nat) : Int) = (t : Int) :: ray i (stp (t : Int) (dF i) (dR i)) := by decide +kernel
theorem ray_on (i : Nat) (hi : i < 16) (t : Int) (ht : sq t = true) : ray i t = t :: ray i (stp t (dF i) (dR i)) := by
  obtain ⟨h0, h1⟩ := (sq_iff t).1 ht
  obtain ⟨n, rfl⟩ := Int.eq_ofNat_of_zero_le h0
  exact ray_on0 i hi n (by omega)
theorem ray_off (i : Nat) (t : Int) (ht : sq t = false) : ray i t = [] := by unfold ray rayN; simp [ht]
/-- up to the first on which something stands, if it goes on at all -/
def cut (occ : Nat → Bool) (far : Bool) : List Int → List Int
  | [] => []
  | x :: r => x :: (if far && !occ x.toNat then cut occ far r else [])
/-- what is attacked on way i -/
def wayL (P : Nat → Int) (s k d : Int) (i : Nat) : List Int := cut (occB P) (gFar k d) (ray i (stp s (dF i) (dR i)))
def attUp (P : Nat → Int) (s k d : Int) (n : Nat) : List Int := (List.range n).flatMap fun i => wayL P s k d (gFrom k d + i)
/-- what a piece attacks, way by way -/
def attL (P : Nat → Int) (s k d : Int) : List Int := attUp P s k d (gTo k d - gFrom k d)
theorem attUp_succ (P : Nat → Int) (s k d : Int) (n : Nat) : attUp P s k d (n + 1) = attUp P s k d n ++ wayL P s k d (gFrom k d + n) := by
  unfold attUp; rw [List.range_succ, List.flatMap_append]; simp
theorem attUp_pre (P : Nat → Int) (s k d : Int) {n m : Nat} (h : n ≤ m) : attUp P s k d n <+: attUp P s k d m := by
  induction m with
  | zero => obtain rfl : n = 0 := by omega
            exact List.prefix_refl _
  | succ m ih =>
    rcases (show n ≤ m ∨ n = m + 1 by omega) with h1 | rfl
    · rw [attUp_succ]; exact (ih h1).trans (List.prefix_append _ _)
    · exact List.prefix_refl _
theorem rayN_sq (i : Nat) : ∀ (n : Nat) (t x : Int), x ∈ rayN i n t → sq x = true
  | 0, _, _, h => by cases h
  | n + 1, t, x, h => by
    unfold rayN at h
    split at h
    · rename_i hs
      rcases List.mem_cons.1 h with rfl | h
      · exact hs
      · exact rayN_sq i n _ x h
    · cases h
theorem cut_mem (occ : Nat → Bool) (far : Bool) : ∀ (l : List Int) (x : Int), x ∈ cut occ far l → x ∈ l
  | [], _, h => h
  | y :: r, x, h => by
    unfold cut at h
    rcases List.mem_cons.1 h with rfl | h
    · exact List.mem_cons_self ..
    · split at h
      · exact List.mem_cons_of_mem _ (cut_mem occ far r x h)
      · cases h
theorem attL_sq (P : Nat → Int) (s k d x : Int) (h : x ∈ attL P s k d) : sq x = true := by
  unfold attL attUp wayL at h
  obtain ⟨i, _, h⟩ := List.mem_flatMap.1 h
  exact rayN_sq _ _ _ _ (cut_mem _ _ _ _ h)
theorem gait_small (k d : Int) : gFrom k d ≤ gTo k d ∧ gTo k d ≤ 16 := by
  unfold gFrom gTo
  cases sideB d <;> simp
  repeat' split
  all_goals omega
/-- the steps' table -/
structure GS (B : Nat) (w : World) : Prop where
  lt : 2 < B
  cell : ∀ i, i < 32 → w.cell? ⟨2, i, none⟩ = some (.int .i64 (stN i))
theorem GS.below {B : Nat} {w w' : World} (h : GS B w) (g : Below B w w') : GS B w' :=
  ⟨h.lt, fun i hi => by rw [g.cell (p := ⟨2, i, none⟩) h.lt]; exact h.cell i hi⟩
theorem GS.mono {B B' : Nat} {w : World} (h : GS B w) (hb : B ≤ B') : GS B' w := ⟨Nat.lt_of_lt_of_le h.lt hb, h.cell⟩
theorem GS.same {B : Nat} {w w' : World} (h : GS B w) (e : w'.heap[2]? = w.heap[2]?) : GS B w' :=
  ⟨h.lt, fun i hi => by rw [World.cell?_of_block (a := ⟨2, i, none⟩) e]; exact h.cell i hi⟩
theorem PB.same {w w' : World} {b : Nat} {P : Nat → Int} (h : PB w b P) (hs : w.heap.size ≤ w'.heap.size) (e : w'.heap[b]? = w.heap[b]?) : PB w' b P :=
  ⟨Nat.lt_of_lt_of_le h.lt hs, fun i hi => by rw [World.cell?_of_block (a := ⟨b, i, none⟩) e]; exact h.cell i hi, fun i => by rw [World.frozen?_of_block (a := ⟨b, i, none⟩) e]; exact h.fr i⟩
/-- what the iterator reads -/
structure AR (b fb sb : Nat) (P : Nat → Int) (s : Int) (W : World) : Prop where
  f : W.heap[fb]? = some (.cells #[.pointer (some ⟨b, 0, none⟩)] 186 (0, 0))
  s : W.heap[sb]? = some (.cells #[.int .i64 s] 3 (0, 0))
  p : PB W b P
  t : GS W.heap.size W
/-- .. the blocks -/
def AN (b fb sb xb : Nat) (k : Nat) : Prop := k = b ∨ k = fb ∨ k = sb ∨ k = xb ∨ k = 2
theorem AR.turn {b fb sb xb : Nat} {P : Nat → Int} {s : Int} {X : Nat → Prop} {A B : World} (h : AR b fb sb P s A) (hx : ∀ k, X k → ¬ AN b fb sb xb k) (ht : Turns X A B) : AR b fb sb P s B :=
  ⟨(ht.block _ (al_lt h.f) (fun e => hx _ e (.inr (.inl rfl)))).trans h.f, (ht.block _ (al_lt h.s) (fun e => hx _ e (.inr (.inr (.inl rfl))))).trans h.s,
   h.p.same ht.size (ht.block _ h.p.lt (fun e => hx _ e (.inl rfl))), (h.t.same (ht.block _ h.t.lt (fun e => hx _ e (.inr (.inr (.inr (.inr rfl))))))).mono ht.size⟩
theorem AR.go {b fb sb : Nat} {P : Nat → Int} {s : Int} {A B : World} (h : AR b fb sb P s A) (g : Below A.heap.size A B) : AR b fb sb P s B :=
  ⟨sl_go h.f g, sl_go h.s g, h.p.go g, (h.t.below g).mono g.size⟩
theorem AR.reads (b fb sb xb : Nat) (P : Nat → Int) (s : Int) : ∀ Y A B, AR b fb sb P s A → (∀ q, Y q → ¬ AN b fb sb xb q) → Turns Y A B → AR b fb sb P s B := fun _ _ _ h hx ht => h.turn hx ht
theorem row1 {W : World} {H : Nat} {a : Value} {t : TypeId} (h : W.heap[H]? = some (.cells #[a] t (0, 0))) : W.cell? ⟨H, 0, none⟩ = some a ∧ (∀ o, W.frozen? ⟨H, o, none⟩ = false) ∧ H < W.heap.size :=
  ⟨by rw [cell_of_row W H 0 _ _ (0, 0) h]; rfl, fun o => frozen_of_row W H o _ _ h, al_lt h⟩
theorem attacked_any (b : Nat) (s k d : Int) (w : World) :
    Calls Tryz.prog 177 #[.pointer (some ⟨b, 0, none⟩), .int .i64 s, .agg #[.int .i64 k, .int .i64 d]] w fun e w' =>
      e = .returned (.func (.func 204) #[] #[.pointer (some ⟨w.heap.size + 2, 0, none⟩), .pointer (some ⟨w.heap.size + 1, 0, none⟩), .pointer (some ⟨w.heap.size, 0, none⟩)]) ∧
      w' = ((w.alloc (.cells #[.pointer (some ⟨b, 0, none⟩)] 186)).alloc (.cells #[.int .i64 s] 3)).alloc (.cells #[.int .i64 k, .int .i64 d] 25) := by
  go_enter Tryz.func177, Tryz.ntmps177
  go_wp2
  go_ret
  exact ⟨rfl, rfl⟩
end Go.Proofs.YtkncfeijlmomaaaGreatDoor

namespace Go.Proofs.YtkncfeijlmomaaaGreatDoor
open Go.RowKit Go.Sort
set_option linter.unusedSimpArgs false
set_option linter.unusedVariables false
set_option maxRecDepth 20000
attribute [local go_sem] Oper.semAt_some

set_option maxHeartbeats 4000000 in
set_option maxRecDepth 100000 in
theorem attacked_comes (b fb sb xb : Nat) (P : Nat → Int) (s k d : Int) (w : World) (har : AR b fb sb P s w) (hxb : w.heap[xb]? = some (.cells #[.int .i64 k, .int .i64 d] 25 (0, 0))) :
    Comes Tryz.prog 204 #[.pointer (some ⟨xb, 0, none⟩), .pointer (some ⟨sb, 0, none⟩), .pointer (some ⟨fb, 0, none⟩)] (AN b fb sb xb) (Value.int .i64) (attL P s k d) w := by
  refine ⟨?_, fun l J Jx X W hW hXN hJ hJx hlt hY h0 => ?_⟩
  · rintro q (rfl | rfl | rfl | rfl | rfl)
    · exact har.p.lt
    · exact al_lt har.f
    · exact al_lt har.s
    · exact al_lt hxb
    · exact har.t.lt
  have HA := Lib.hid (har.go hW)
  have hx1 := sl_go hxb hW
  obtain ⟨x0, x1, xf, _⟩ := row2 hx1
  clear har hxb hW hx1
  have hgs := gait_small k d
  go_enter Tryz.func204, Tryz.ntmps204
  have HJ := Lib.hid hJ
  have HJX := Lib.hid hJx
  have HLT := Lib.hid hlt
  have HY := Lib.hid hY
  have HR := Lib.hid (AR.reads b fb sb xb P s)
  have HN := Lib.hid (show ∀ A, AR b fb sb P s A → xb < A.heap.size → ∀ q, AN b fb sb xb q → q < A.heap.size from fun A h hq q hn => by
    rcases hn with rfl | rfl | rfl | rfl | rfl
    · exact h.p.lt
    · exact al_lt h.f
    · exact al_lt h.s
    · exact hq
    · exact h.t.lt)
  clear hJ hJx hlt hY
  go_wp2_with fail
  refine (gaitOf_any k d _).mono ?_
  rintro e w1 ⟨rfl, hb1⟩
  have HK := Lib.hid ((show Keep J (AR b fb sb P s) (AN b fb sb xb) [] [] X W from ⟨h0, HA.out, fun p hp => (by cases hp), fun q hq => ⟨hXN q hq, fun p hp => (by cases hp)⟩⟩).go HR.out HJ.out hb1)
  have HZ := Lib.hid (Nat.lt_of_lt_of_le ‹xb < W.heap.size› hb1.size)
  clear hb1 h0 HA x0 x1 xf hXN
  have HL := Lib.hid (show attL P s k d = attUp P s k d (gTo k d - gFrom k d) from rfl)
  have HW := Lib.hid (show ∀ i, wayL P s k d i = cut (occB P) (gFar k d) (ray i (stp s (dF i) (dR i))) from fun _ => rfl)
  have HS := Lib.hid (attUp_succ P s k d)
  obtain ⟨g0, hg0⟩ : ∃ g, gFrom k d = g := ⟨_, rfl⟩
  obtain ⟨g1, hg1⟩ : ∃ g, gTo k d = g := ⟨_, rfl⟩
  obtain ⟨fa, hfa⟩ : ∃ f, gFar k d = f := ⟨_, rfl⟩
  rw [hg0, hg1] at HL hgs
  rw [hg0] at HS
  rw [hfa] at HW
  rw [hg0, hg1, hfa]
  clear hg0 hg1 hfa
  have HG := Lib.hid hgs
  clear hgs
  go_wp2
  have HK2 := Lib.hid (HK.out.add (t := w1.heap.size) (o := .cells #[.int .i64 g0, .int .i64 g1, .bool fa] 208 (0, 0)) HR.out HJ.out HLT.out rfl)
  clear HK
  go_loopw [6] (fun i wr => ∃ (m : Nat) (Y : Nat → Prop), g0 ≤ m ∧ m ≤ g1 ∧ i = .int .i64 (m : Int) ∧ xb < wr.heap.size ∧ Keep J (AR b fb sb P s) (AN b fb sb xb) [(w1.heap.size, .cells #[.int .i64 g0, .int .i64 g1, .bool fa] 208 (0, 0))] (attUp P s k d (m - g0)) Y wr) (fun i _ => g1 - (intOf i).toNat)
  case atStart => exact ⟨g0, _, Nat.le_refl _, HG.out.1, rfl, by simp; have := HZ.out; omega, by rw [Nat.sub_self]; exact HK2.out⟩
  case round =>
    clear HK2 HZ
    obtain ⟨v1, rfl⟩ : ∃ v, v = wr := ⟨_, rfl⟩
    obtain ⟨m, Y, hm0, hm1, rfl, hz, hk⟩ := hrel
    have HK := Lib.hid hk
    have HZ1 := Lib.hid hz
    have hh := hk.head
    dsimp only at hh
    obtain ⟨c0, c1, c2, fr, _⟩ := row3 hh
    by_cases hlt : m < g1
    · have hm16 : m < 16 := by have := HG.out.2; omega
      have h0 : (0 : Int) ≤ m := by omega
      have h1 : (m : Int) < 16 := by omega
      have e1 : v1.cell? ⟨2, m * 2, none⟩ = some (.int .i64 (dF m)) := hk.r.t.cell (m * 2) (by omega)
      have e2 : v1.cell? ⟨2, m * 2 + 1, none⟩ = some (.int .i64 (dR m)) := hk.r.t.cell (m * 2 + 1) (by omega)
      have hI := dF_I m hm16
      have hI' := dR_I m hm16
      have HWM := Lib.hid (HW.out m)
      have HRO := Lib.hid (ray_on m hm16)
      obtain ⟨x, hx⟩ : ∃ x, dF m = x := ⟨_, rfl⟩
      obtain ⟨y, hy⟩ : ∃ y, dR m = y := ⟨_, rfl⟩
      rw [hx] at e1 hI
      rw [hy] at e2 hI'
      rw [hx, hy] at HWM HRO
      clear hx hy
      obtain ⟨s0, sf, _⟩ := row1 hk.r.s
      clear hk hz hh
      have HI := Lib.hid (And.intro hI hI')
      clear hI hI'
      go_wp2_with fail
      refine (step_any s x y _ HI.out.1 HI.out.2).mono ?_
      rintro e w2 ⟨rfl, hb2⟩
      have HK3 := Lib.hid ((HK.out.add (t := v1.heap.size) (o := .cells #[.int .i64 x, .int .i64 y] 211 (0, 0)) HR.out HJ.out HLT.out rfl).go HR.out HJ.out hb2)
      have hs2 := hb2.size
      rw [World.size_alloc] at hs2
      have HZ2 := Lib.hid (show xb < w2.heap.size by have := HZ1.out; omega)
      clear hb2 hs2 HK HZ1 c0 c1 c2 fr e1 e2 s0 sf h0 h1
      obtain ⟨pr, hpr⟩ : ∃ p, attUp P s k d (m - g0) = p := ⟨_, rfl⟩
      rw [hpr] at HK3
      have HPR := Lib.hid hpr
      clear hpr
      go_wp2
      go_loopw [8] (fun v wr => ∃ (t : Int) (pi : List Int) (Y : Nat → Prop), v = .int .i64 t ∧ xb < wr.heap.size ∧ wayL P s k d m = pi ++ cut (occB P) fa (ray m t) ∧ Keep J (AR b fb sb P s) (AN b fb sb xb) [(v1.heap.size, .cells #[.int .i64 x, .int .i64 y] 211 (0, 0)), (w1.heap.size, .cells #[.int .i64 g0, .int .i64 g1, .bool fa] 208 (0, 0))] (pr ++ pi) Y wr) (fun v _ => (ray m (intOf v)).length)
      case atStart => exact ⟨_, [], _, rfl, HZ2.out, by rw [List.nil_append]; exact HWM.out, by rw [List.append_nil]; exact HK3.out⟩
      case round =>
        clear HK3 HZ2
        obtain ⟨t, pi, Z, rfl, hz, hw, hk⟩ := hrel
        have HZ3 := Lib.hid hz
        have HWL := Lib.hid hw
        have HK4 := Lib.hid hk
        clear hz hw hk
        cases hs : sq t
        · have HSQ := Lib.hid hs
          have HEND := Lib.hid (show attUp P s k d (m + 1 - g0) = pr ++ pi by
            rw [show m + 1 - g0 = (m - g0) + 1 by omega, HS.out, HPR.out, show g0 + (m - g0) = m by omega, HWL.out, ray_off m t hs, show cut (occB P) fa [] = [] from rfl, List.append_nil])
          clear hs
          go_wp2_with fail
          refine (is_any t _).mono ?_
          rw [HSQ.out]
          rintro e w3 ⟨rfl, hb3⟩
          have HK5 := Lib.hid (HK4.out.go HR.out HJ.out hb3)
          have HZ4 := Lib.hid (Nat.lt_of_lt_of_le HZ3.out hb3.size)
          clear hb3 HK4 HZ3
          have h0 : (0 : Int) ≤ m := by omega
          have h1 : (m : Int) < 16 := by omega
          go_wp2
          go_roundw
          case rel => exact ⟨m + 1, Z, by omega, by omega, by go_num, HZ4.out, by rw [HEND.out]; exact HK5.out.drop⟩
          case measure => simp [intOf]; omega
        · obtain ⟨t0, t1⟩ := (sq_iff t).1 hs
          obtain ⟨n, rfl⟩ := Int.eq_ofNat_of_zero_le t0
          have HSQ := Lib.hid hs
          have hr := HRO.out _ hs
          have hw2 : wayL P s k d m = pi ++ (n : Int) :: (if fa && !occB P n then cut (occB P) fa (ray m (stp n x y)) else []) := by rw [HWL.out, hr]; rfl
          have HW2 := Lib.hid hw2
          have HRR := Lib.hid hr
          have HPF := Lib.hid (show (pr ++ pi) ++ [(n : Int)] <+: attL P s k d by
            have h1 : (pr ++ pi) ++ [(n : Int)] <+: attUp P s k d (m - g0 + 1) := by
              rw [HS.out, HPR.out, show g0 + (m - g0) = m by omega, hw2]
              exact ⟨if fa && !occB P n then cut (occB P) fa (ray m (stp n x y)) else [], by simp⟩
            rw [HL.out]
            exact h1.trans (attUp_pre P s k d (by omega)))
          clear hs hr hw2
          go_wp2_with fail
          refine (is_any n _).mono ?_
          rw [HSQ.out]
          rintro e w3 ⟨rfl, hb3⟩
          have HK5 := Lib.hid (HK4.out.go HR.out HJ.out hb3)
          have HZ4 := Lib.hid (Nat.lt_of_lt_of_le HZ3.out hb3.size)
          clear hb3 HK4 HZ3
          go_upto_region 8 with (fail)
          obtain ⟨fn, tmps, assign, body, hy, hR8⟩ := HY.out _ (n : Int) Z w3 HK5.out.j HPF.out
          refine (wpIn_wide (n := 0)).1 ?_
          gi_wp2
          refine ⟨rfl, (roundIn_wide hR8).mono ?_⟩
          clear hR8 hy
          rintro e B ⟨Z2, hT, hZ2, (⟨rfl, hJB⟩ | ⟨rfl, hJB⟩)⟩
          · have HK6 := Lib.hid (HK5.out.turn HR.out (HN.out _ HK5.out.r HZ4.out) hT hZ2 hJB)
            have HZ5 := Lib.hid (Nat.lt_of_lt_of_le HZ4.out hT.size)
            clear hT hZ2 hJB HK5 HZ4
            have hg := HK6.out.next
            have ht := HK6.out.head
            dsimp only at hg ht
            obtain ⟨c0, c1, c2, fr, _⟩ := row3 hg
            obtain ⟨d0, d1, dr, _⟩ := row2 ht
            obtain ⟨f0, ff, _⟩ := row1 HK6.out.r.f
            have hpb := HK6.out.r.p
            clear hg ht
            have HPB := Lib.hid hpb
            clear hpb
            gi_wp2
            have h0 : (0 : Int) ≤ m := by omega
            have h1 : (m : Int) < 16 := by omega
            have HEND := Lib.hid (show (fa && !occB P n) = false → attUp P s k d (m + 1 - g0) = pr ++ pi ++ [(n : Int)] from fun he => by
              rw [show m + 1 - g0 = (m - g0) + 1 by omega, HS.out, HPR.out, show g0 + (m - g0) = m by omega, HW2.out, he]; simp)
            clear HWL
            cases fa
            · go_wp2
              go_roundw
              case rel => exact ⟨m + 1, Z2, by omega, by omega, by go_num, HZ5.out, by rw [HEND.out rfl]; exact HK6.out.drop⟩
              case measure => simp [intOf]; omega
            · have hn64 : n < 64 := by omega
              go_wp2_with fail
              refine (aStands_any b P n hn64 _ HPB.out).mono ?_
              cases ho : occB P n
              · rw [ho] at HW2
                have HW3 := Lib.hid (show wayL P s k d m = (pi ++ [(n : Int)]) ++ cut (occB P) true (ray m (stp n x y)) by rw [HW2.out]; simp)
                clear HEND HW2 ho
                rintro e B2 ⟨rfl, rfl⟩
                go_wp2_with fail
                refine (step_any n x y _ HI.out.1 HI.out.2).mono ?_
                rintro e B3 ⟨rfl, hb3⟩
                have HK7 := Lib.hid (HK6.out.go HR.out HJ.out hb3)
                have HZ6 := Lib.hid (Nat.lt_of_lt_of_le HZ5.out hb3.size)
                clear hb3 HK6 HZ5 c0 c1 c2 fr d0 d1 dr f0 ff
                go_wp2
                go_roundw
                case rel => exact ⟨stp n x y, pi ++ [(n : Int)], Z2, rfl, HZ6.out, HW3.out, by rw [← List.append_assoc]; exact HK7.out⟩
                case measure => simp [intOf, HRR.out]
              · have HE2 := Lib.hid (HEND.out (by rw [ho]; rfl))
                clear HEND HW2 ho
                rintro e B2 ⟨rfl, rfl⟩
                go_wp2
                go_roundw
                case rel => exact ⟨m + 1, Z2, by omega, by omega, by go_num, HZ5.out, by rw [HE2.out]; exact HK6.out.drop⟩
                case measure => simp [intOf]; omega
          · gi_wp2
            go_wp2
            refine bodyPost_ret (results_none rfl _ _ _) rfl ?_
            exact ⟨⟨_, rfl⟩, Z2, .inr ⟨_, HPF.out, hJB⟩⟩
    · obtain rfl : m = g1 := by omega
      clear hh hk hz
      go_wp2
      go_end0
      exact ⟨⟨_, rfl⟩, Y, .inl (by rw [HL.out]; exact HK.out.j)⟩
end Go.Proofs.YtkncfeijlmomaaaGreatDoor
