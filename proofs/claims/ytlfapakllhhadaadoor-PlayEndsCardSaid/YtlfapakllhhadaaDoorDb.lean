/-
  Contracts: how pieces go: gaits, what stands, the steps' table.
-/
import Derived.Test.YtlfapakllhhadaaDoorDa
import Derived.Test.YtlfapakllhhadaaDoorG6
import Derived.Test.YtlfapakllhhadaaDoorG5
namespace Go.Proofs.YtlfapakllhhadaaDoor
open Go.RowKit Go.Sort
set_option linter.unusedSimpArgs false
set_option linter.unusedVariables false
set_option maxRecDepth 20000

def gFrom (k d : Int) : Nat := if sideB d then (if k = 1 then (if d = 0 then 4 else 6) else if k = 2 then 8 else if k = 3 then 4 else 0) else 0
def gTo (k d : Int) : Nat := if sideB d then (if k = 1 then (if d = 0 then 6 else 8) else if k = 2 then 16 else if k = 3 then 8 else if k = 4 then 4 else if k = 5 then 8 else if k = 6 then 8 else 0) else 0
def gFar (k d : Int) : Bool := sideB d && (k == 3 || k == 4 || k == 5)
def gaiV (a b : Int) (c : Bool) : Value := .agg #[.int .i64 a, .int .i64 b, .bool c]
theorem kind_cases (k : Int) : k = 1 ∨ k = 2 ∨ k = 3 ∨ k = 4 ∨ k = 5 ∨ k = 6 ∨ ((k == 1) = false ∧ (k == 2) = false ∧ (k == 3) = false ∧ (k == 4) = false ∧ (k == 5) = false ∧ (k == 6) = false) := by
  by_cases h1 : k = 1
  · exact .inl h1
  by_cases h2 : k = 2
  · exact .inr (.inl h2)
  by_cases h3 : k = 3
  · exact .inr (.inr (.inl h3))
  by_cases h4 : k = 4
  · exact .inr (.inr (.inr (.inl h4)))
  by_cases h5 : k = 5
  · exact .inr (.inr (.inr (.inr (.inl h5))))
  by_cases h6 : k = 6
  · exact .inr (.inr (.inr (.inr (.inr (.inl h6)))))
  · exact .inr (.inr (.inr (.inr (.inr (.inr ⟨by simp [h1], by simp [h2], by simp [h3], by simp [h4], by simp [h5], by simp [h6]⟩)))))
theorem aSide_any (d : Int) (w : World) :
    Calls Tryd.prog 120 #[.int .i64 d] w fun e w' => e = .returned (.bool (sideB d)) ∧ w = w' := by
  rcases side_cases d with ⟨rfl, hb⟩ | ⟨rfl, hb⟩ | ⟨h0, h1, hb⟩
  all_goals rw [hb]
  all_goals clear hb
  all_goals
    go_enter Tryd.func120, Tryd.ntmps120
    go_wp2
    go_ret
    exact ⟨rfl, rfl⟩
theorem infoGait : (Tryd.prog.info? 103).map (·.size) = some 3 := by kernel_rfl
theorem infoStep : (Tryd.prog.info? 106).map (·.size) = some 2 := by kernel_rfl
set_option maxHeartbeats 1000000 in
theorem pawnGait_any (d : Int) (w : World) (hs : sideB d = true) :
    Calls Tryd.prog 121 #[.int .i64 d] w fun e w' => e = .returned (.agg #[.int .i64 (gFrom 1 d), .int .i64 (gTo 1 d), .bool (gFar 1 d)]) ∧ Below w.heap.size w w' := by
  rcases side_cases d with ⟨rfl, hb⟩ | ⟨rfl, hb⟩ | ⟨h0, h1, hb⟩
  · go_enter Tryd.func121, Tryd.ntmps121
    go_wp2
    refine bodyPost_ret (v := .agg #[.int .i64 4, .int .i64 6, .bool false]) ?_ rfl ⟨rfl, below_new _⟩
    exact results_cell_row (p := 2) (ty := 103) rfl _ _ w.heap.size 103 _ (0, 0) _ rfl (sl_at rfl) Tryd.underlying103 rfl infoGait
  · go_enter Tryd.func121, Tryd.ntmps121
    go_wp2
    refine bodyPost_ret (v := .agg #[.int .i64 6, .int .i64 8, .bool false]) ?_ rfl ⟨rfl, below_new _⟩
    exact results_cell_row (p := 2) (ty := 103) rfl _ _ w.heap.size 103 _ (0, 0) _ rfl (sl_at rfl) Tryd.underlying103 rfl infoGait
  · rw [hb] at hs; cases hs
set_option maxHeartbeats 4000000 in
set_option maxRecDepth 100000 in
theorem gaitOf_any (k d : Int) (w : World) :
    Calls Tryd.prog 93 #[.agg #[.int .i64 k, .int .i64 d]] w fun e w' => e = .returned (.agg #[.int .i64 (gFrom k d), .int .i64 (gTo k d), .bool (gFar k d)]) ∧ Below w.heap.size w w' := by
  obtain ⟨a, ha⟩ : ∃ a, gFrom k d = a := ⟨_, rfl⟩
  obtain ⟨b, hb⟩ : ∃ b, gTo k d = b := ⟨_, rfl⟩
  obtain ⟨c, hc⟩ : ∃ c, gFar k d = c := ⟨_, rfl⟩
  rw [ha, hb, hc]
  cases hs : sideB d
  · have ea : a = 0 := by rw [← ha]; simp [gFrom, hs]
    have eb : b = 0 := by rw [← hb]; simp [gTo, hs]
    have ec : c = false := by rw [← hc]; simp [gFar, hs]
    subst ea eb ec
    clear ha hb hc
    have HS := Lib.hid hs
    clear hs
    go_enter Tryd.func93, Tryd.ntmps93
    go_wp2_with fail
    refine (aSide_any d _).mono ?_
    rw [HS.out]
    rintro e w1 ⟨rfl, rfl⟩
    go_wp2
    refine bodyPost_ret (v := .agg #[.int .i64 0, .int .i64 0, .bool false]) ?_ rfl ⟨rfl, (below_new _).alloc (by simp) _⟩
    exact results_cell_row (p := 2) (ty := 103) rfl _ _ (w.heap.size + 1) 103 _ (0, 0) _ rfl (sl_at (by simp)) Tryd.underlying103 rfl infoGait
  · by_cases hk1 : k = 1
    · subst hk1
      have HP := Lib.hid (fun W => pawnGait_any d W hs)
      rw [ha, hb, hc] at HP
      have HS := Lib.hid hs
      clear hs ha hb hc
      go_enter Tryd.func93, Tryd.ntmps93
      go_wp2_with fail
      refine (aSide_any d _).mono ?_
      rw [HS.out]
      rintro e w1 ⟨rfl, rfl⟩
      go_wp2_with fail
      refine (HP.out _).mono ?_
      rintro e w1 ⟨rfl, hb1⟩
      have hz := hb1.size
      simp only [World.size_alloc] at hz
      have hl := sl_go (sl_at (W := w.alloc (.cells #[.int .i64 1, .int .i64 d] 25)) (o := .cells #[.int .i64 0, .int .i64 0, .bool false] 103) (H := w.heap.size + 1) (by simp)) hb1
      obtain ⟨c0, c1, c2, fr, _⟩ := row3 hl
      have HB := Lib.hid (((below_new (w := w) _).alloc (by simp) _).trans (hb1.mono (by simp; omega)))
      have HL := Lib.hid hl
      clear hl hb1
      go_wp2
      refine bodyPost_ret (v := .agg #[.int .i64 a, .int .i64 b, .bool c]) ?_ rfl ⟨rfl, below_put3 _ _ _ HB.out (Nat.le_succ _)⟩
      exact results_cell_row (p := 2) (ty := 103) rfl _ _ (w.heap.size + 1) 103 _ (0, 0) _ rfl (put3 _ _ _ HL.out) Tryd.underlying103 rfl infoGait
    · have hk := kind_cases k
      rcases hk with rfl | rfl | rfl | rfl | rfl | rfl | ⟨e1, e2, e3, e4, e5, e6⟩
      · exact absurd rfl hk1
      all_goals
        have ea : a = gFrom _ d := ha.symm
        have eb : b = gTo _ d := hb.symm
        have ec : c = gFar _ d := hc.symm
        simp [gFrom, gTo, gFar, hs] at ea eb ec
      rotate_right
      · simp at e1 e2 e3 e4 e5 e6
        clear ea eb ec
        have ea : a = 0 := by rw [← ha]; unfold gFrom; rw [if_pos hs, if_neg e1, if_neg e2, if_neg e3]
        have eb : b = 0 := by rw [← hb]; unfold gTo; rw [if_pos hs, if_neg e1, if_neg e2, if_neg e3, if_neg e4, if_neg e5, if_neg e6]
        have ec : c = false := by rw [← hc]; simp [gFar, e3, e4, e5]
        have f1 : (k == 1) = false := by simp [e1]
        have f2 : (k == 2) = false := by simp [e2]
        have f3 : (k == 3) = false := by simp [e3]
        have f4 : (k == 4) = false := by simp [e4]
        have f5 : (k == 5) = false := by simp [e5]
        have f6 : (k == 6) = false := by simp [e6]
        subst ea eb ec
        clear ha hb hc e1 e2 e3 e4 e5 e6 hk1
        have HS := Lib.hid hs
        clear hs
        go_enter Tryd.func93, Tryd.ntmps93
        go_wp2_with fail
        refine (aSide_any d _).mono ?_
        rw [HS.out]
        rintro e w1 ⟨rfl, rfl⟩
        go_wp2
        refine bodyPost_ret (v := .agg #[.int .i64 0, .int .i64 0, .bool false]) ?_ rfl ⟨rfl, (below_new _).alloc (by simp) _⟩
        exact results_cell_row (p := 2) (ty := 103) rfl _ _ (w.heap.size + 1) 103 _ (0, 0) _ rfl (sl_at (by simp)) Tryd.underlying103 rfl infoGait
      all_goals
        subst ea eb ec
        clear ha hb hc hk1
        have HS := Lib.hid hs
        clear hs
        go_enter Tryd.func93, Tryd.ntmps93
        go_wp2_with fail
        refine (aSide_any d _).mono ?_
        rw [HS.out]
        rintro e w1 ⟨rfl, rfl⟩
        go_wp2
        first
          | (refine bodyPost_ret (v := .agg #[.int .i64 8, .int .i64 16, .bool false]) ?_ rfl ⟨rfl, (below_new _).alloc (by simp) _⟩
             exact results_cell_row (p := 2) (ty := 103) rfl _ _ (w.heap.size + 1) 103 _ (0, 0) _ rfl (sl_at (by simp)) Tryd.underlying103 rfl infoGait)
          | (refine bodyPost_ret (v := .agg #[.int .i64 4, .int .i64 8, .bool true]) ?_ rfl ⟨rfl, (below_new _).alloc (by simp) _⟩
             exact results_cell_row (p := 2) (ty := 103) rfl _ _ (w.heap.size + 1) 103 _ (0, 0) _ rfl (sl_at (by simp)) Tryd.underlying103 rfl infoGait)
          | (refine bodyPost_ret (v := .agg #[.int .i64 0, .int .i64 4, .bool true]) ?_ rfl ⟨rfl, (below_new _).alloc (by simp) _⟩
             exact results_cell_row (p := 2) (ty := 103) rfl _ _ (w.heap.size + 1) 103 _ (0, 0) _ rfl (sl_at (by simp)) Tryd.underlying103 rfl infoGait)
          | (refine bodyPost_ret (v := .agg #[.int .i64 0, .int .i64 8, .bool true]) ?_ rfl ⟨rfl, (below_new _).alloc (by simp) _⟩
             exact results_cell_row (p := 2) (ty := 103) rfl _ _ (w.heap.size + 1) 103 _ (0, 0) _ rfl (sl_at (by simp)) Tryd.underlying103 rfl infoGait)
          | (refine bodyPost_ret (v := .agg #[.int .i64 0, .int .i64 8, .bool false]) ?_ rfl ⟨rfl, (below_new _).alloc (by simp) _⟩
             exact results_cell_row (p := 2) (ty := 103) rfl _ _ (w.heap.size + 1) 103 _ (0, 0) _ rfl (sl_at (by simp)) Tryd.underlying103 rfl infoGait)
/-- does something stand there -/
def occB (P : Nat → Int) (s : Nat) : Bool := !pe (P (2 * s)) (P (2 * s + 1)) 0 0
theorem aStands_any (b : Nat) (P : Nat → Int) (s : Nat) (hs : s < 64) (w : World) (hp : PB w b P) :
    Calls Tryd.prog 95 #[.pointer (some ⟨b, 0, none⟩), .int .i64 (s : Int)] w fun e w' => e = .returned (.bool (occB P s)) ∧ w = w' := by
  have e1 := hp.cell (s * 2) (by omega)
  have e2 := hp.cell (s * 2 + 1) (by omega)
  have h0 : (0 : Int) ≤ s := by omega
  have h1 : (s : Int) < 64 := by omega
  unfold occB
  rw [Nat.mul_comm 2 s]
  generalize P (s * 2) = k at e1
  generalize P (s * 2 + 1) = d at e2
  clear hp
  go_enter Tryd.func95, Tryd.ntmps95
  go_wp2
  go_ret
  exact ⟨rfl, rfl⟩
end Go.Proofs.YtlfapakllhhadaaDoor
