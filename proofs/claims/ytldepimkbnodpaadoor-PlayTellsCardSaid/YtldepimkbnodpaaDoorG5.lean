/-
  Merged: Bg, Bh.
-/
import Derived.Test.YtldepimkbnodpaaDoorBf

namespace Go.Proofs.YtldepimkbnodpaaDoor
open Go.RowKit
set_option linter.unusedSimpArgs false
set_option linter.unusedVariables false

def sideB (d : Int) : Bool := d == 0 || d == 1
def mayB (k d : Int) : Bool := decide (1 ≤ k) && decide (k ≤ 6) && sideB d
def oth (d : Int) : Int := if d = 0 then 1 else 0
def casB (c : Int) : Bool := decide (0 ≤ c) && decide (c ≤ 15)
def tCas (c : Int) : Int := if casB c then c % 4 * 4 + c / 4 else c
def tSq (s : Int) : Int := if sq s then 8 * (7 - s / 8) + s % 8 else s
/-- a piece, turned: its side -/
def tSide (k d : Int) : Int := if mayB k d then oth d else d
theorem side_cases (d : Int) : (d = 0 ∧ sideB d = true) ∨ (d = 1 ∧ sideB d = true) ∨ ((d == 0) = false ∧ (d == 1) = false ∧ sideB d = false) := by
  by_cases h : d = 0
  · subst h; exact .inl ⟨rfl, rfl⟩
  · by_cases h1 : d = 1
    · subst h1; exact .inr (.inl ⟨rfl, rfl⟩)
    · exact .inr (.inr ⟨by simp [h], by simp [h1], by simp [sideB, h, h1]⟩)
theorem may_cases (k d : Int) : (k < 1 ∧ mayB k d = false) ∨ (6 < k ∧ mayB k d = false) ∨ (1 ≤ k ∧ k ≤ 6 ∧ mayB k d = sideB d) := by
  unfold mayB
  by_cases h1 : 1 ≤ k <;> by_cases h2 : k ≤ 6 <;> simp [h1, h2] <;> omega
theorem cas_cases (c : Int) : (c < 0 ∧ casB c = false) ∨ (15 < c ∧ casB c = false) ∨ (0 ≤ c ∧ c ≤ 15 ∧ casB c = true) := by
  unfold casB
  by_cases h1 : 0 ≤ c <;> by_cases h2 : c ≤ 15 <;> simp [h1, h2] <;> omega
theorem none_any (k d : Int) (w : World) :
    Calls Tryd.prog 70 #[.agg #[.int .i64 k, .int .i64 d]] w fun e w' => e = .returned (.bool (pe k d 0 0)) ∧ Below w.heap.size w w' := by
  go_enter Tryd.func70, Tryd.ntmps70
  go_wp2
  go_ret
  exact ⟨rfl, below_new _⟩
theorem isSide_any (d : Int) (w : World) :
    Calls Tryd.prog 72 #[.int .i64 d] w fun e w' => e = .returned (.bool (sideB d)) ∧ w = w' := by
  rcases side_cases d with ⟨rfl, hb⟩ | ⟨rfl, hb⟩ | ⟨h0, h1, hb⟩
  all_goals rw [hb]
  all_goals clear hb
  all_goals
    go_enter Tryd.func72, Tryd.ntmps72
    go_wp2
    go_ret
    exact ⟨rfl, rfl⟩
set_option maxHeartbeats 1000000 in
theorem mayBe_any (k d : Int) (w : World) :
    Calls Tryd.prog 60 #[.agg #[.int .i64 k, .int .i64 d]] w fun e w' => e = .returned (.bool (mayB k d)) ∧ Below w.heap.size w w' := by
  rcases may_cases k d with ⟨h1, hb⟩ | ⟨h1, hb⟩ | ⟨h1, h2, hb⟩
  · rw [hb]
    clear hb
    go_enter Tryd.func60, Tryd.ntmps60
    go_wp2
    go_ret
    exact ⟨q_b (by first | rfl | (simp; omega)), below_new _⟩
  · rw [hb]
    clear hb
    go_enter Tryd.func60, Tryd.ntmps60
    go_wp2
    go_ret
    exact ⟨q_b (by first | rfl | (simp; omega)), below_new _⟩
  · rw [hb]
    clear hb
    obtain ⟨b, hbb⟩ : ∃ b, sideB d = b := ⟨_, rfl⟩
    rw [hbb]
    have HBB := Lib.hid hbb
    clear hbb
    go_enter Tryd.func60, Tryd.ntmps60
    go_wp2_with fail
    refine (isSide_any d _).mono ?_
    rw [HBB.out]
    rintro e w1 ⟨rfl, rfl⟩
    go_wp2
    go_ret
    exact ⟨rfl, below_new _⟩
set_option maxHeartbeats 1000000 in
theorem rMay_any (k d : Int) (w : World) :
    Calls Tryd.prog 50 #[.agg #[.int .i64 k, .int .i64 d]] w fun e w' => e = .returned (.bool (mayB k d)) ∧ Below w.heap.size w w' := by
  rcases may_cases k d with ⟨h1, hb⟩ | ⟨h1, hb⟩ | ⟨h1, h2, hb⟩
  · rw [hb]
    clear hb
    go_enter Tryd.func50, Tryd.ntmps50
    go_wp2
    go_ret
    exact ⟨q_b (by first | rfl | (simp; omega)), below_new _⟩
  · rw [hb]
    clear hb
    go_enter Tryd.func50, Tryd.ntmps50
    go_wp2
    go_ret
    exact ⟨q_b (by first | rfl | (simp; omega)), below_new _⟩
  · rw [hb]
    clear hb
    rcases side_cases d with ⟨rfl, hb⟩ | ⟨rfl, hb⟩ | ⟨h3, h4, hb⟩
    all_goals rw [hb]
    all_goals clear hb
    all_goals
      go_enter Tryd.func50, Tryd.ntmps50
      go_wp2
      go_ret
      exact ⟨q_b (by first | rfl | (simp; done) | (simp; omega)), below_new _⟩
theorem other_any (d : Int) (w : World) :
    Calls Tryd.prog 19 #[.int .i64 d] w fun e w' => e = .returned (.int .i64 (oth d)) ∧ w = w' := by
  unfold oth
  by_cases h : d = 0
  · subst h
    rw [if_pos rfl]
    go_enter Tryd.func19, Tryd.ntmps19
    go_wp2
    go_ret
    exact ⟨rfl, rfl⟩
  · rw [if_neg h]
    have h0 : (d == 0) = false := by simp [h]
    clear h
    go_enter Tryd.func19, Tryd.ntmps19
    go_wp2
    go_ret
    exact ⟨rfl, rfl⟩
theorem rOther_any (d : Int) (w : World) :
    Calls Tryd.prog 27 #[.int .i64 d] w fun e w' => e = .returned (.int .i64 (oth d)) ∧ w = w' := by
  unfold oth
  by_cases h : d = 0
  · subst h
    rw [if_pos rfl]
    go_enter Tryd.func27, Tryd.ntmps27
    go_wp2
    go_ret
    exact ⟨rfl, rfl⟩
  · rw [if_neg h]
    have h0 : (d == 0) = false := by simp [h]
    clear h
    go_enter Tryd.func27, Tryd.ntmps27
    go_wp2
    go_ret
    exact ⟨rfl, rfl⟩
theorem isCastle_any (c : Int) (w : World) :
    Calls Tryd.prog 61 #[.int .i64 c] w fun e w' => e = .returned (.bool (casB c)) ∧ w = w' := by
  rcases cas_cases c with ⟨h1, hb⟩ | ⟨h1, hb⟩ | ⟨h1, h2, hb⟩
  all_goals rw [hb]
  all_goals clear hb
  all_goals
    go_enter Tryd.func61, Tryd.ntmps61
    go_wp2
    go_ret
    exact ⟨q_b (by first | rfl | (simp; omega)), rfl⟩
theorem tm4 {s : Int} (h : 0 ≤ s) : s.tmod 4 = s % 4 := Int.tmod_eq_emod_of_nonneg h
theorem td4 {s : Int} (h : 0 ≤ s) : s.tdiv 4 = s / 4 := Int.tdiv_eq_ediv_of_nonneg h
theorem turnCastle_any (c : Int) (w : World) :
    Calls Tryd.prog 38 #[.int .i64 c] w fun e w' => e = .returned (.int .i64 (tCas c)) ∧ w = w' := by
  unfold tCas
  cases hc : casB c
  · simp only [Bool.false_eq_true, if_false]
    have HC := Lib.hid hc
    clear hc
    go_enter Tryd.func38, Tryd.ntmps38
    go_wp2_with fail
    refine (isCastle_any c _).mono ?_
    rw [HC.out]
    rintro e w1 ⟨rfl, rfl⟩
    go_wp2
    go_ret
    exact ⟨rfl, rfl⟩
  · simp only [if_true]
    have HC := Lib.hid hc
    have h0 : 0 ≤ c ∧ c ≤ 15 := by unfold casB at hc; simpa using hc
    obtain ⟨h0, h1⟩ := h0
    have h2 := tm4 h0
    have h3 := td4 h0
    clear hc
    go_enter Tryd.func38, Tryd.ntmps38
    go_wp2_with fail
    refine (isCastle_any c _).mono ?_
    rw [HC.out]
    rintro e w1 ⟨rfl, rfl⟩
    go_wp2
    go_ret
    exact ⟨rfl, rfl⟩
theorem onEnd_any (s : Int) (w : World) :
    Calls Tryd.prog 71 #[.int .i64 s] w fun e w' => e = .returned (.bool (sR s == 0 || sR s == 7)) ∧ Below w.heap.size w w' := by
  obtain ⟨r, hr⟩ : ∃ r, sR s = r := ⟨_, rfl⟩
  have HR := Lib.hid hr
  rw [hr]
  clear hr
  by_cases h0 : r = 0
  · subst h0
    go_enter Tryd.func71, Tryd.ntmps71
    go_wp2_with fail
    refine (rank_any s _).mono ?_
    rw [HR.out]
    rintro e w1 ⟨rfl, hb1⟩
    have HB := Lib.hid hb1
    clear hb1
    go_wp2
    go_ret
    exact ⟨rfl, HB.out⟩
  · have h1 : (r == 0) = false := by simp [h0]
    have h2 : (r == 0 || r == 7) = (r == 7) := by rw [h1]; rfl
    rw [h2]
    clear h0 h2
    go_enter Tryd.func71, Tryd.ntmps71
    go_wp2_with fail
    refine (rank_any s _).mono ?_
    rw [HR.out]
    rintro e w1 ⟨rfl, hb1⟩
    have HB := Lib.hid hb1
    clear hb1
    go_wp2
    go_ret
    exact ⟨rfl, HB.out⟩
theorem turnSquare_any (s : Int) (w : World) :
    Calls Tryd.prog 37 #[.int .i64 s] w fun e w' => e = .returned (.int .i64 (tSq s)) ∧ Below w.heap.size w w' := by
  unfold tSq
  cases hs : sq s
  · simp only [Bool.false_eq_true, if_false]
    have HS := Lib.hid hs
    clear hs
    go_enter Tryd.func37, Tryd.ntmps37
    go_wp2_with fail
    refine (is_any s _).mono ?_
    rw [HS.out]
    rintro e w1 ⟨rfl, hb1⟩
    go_wp2
    go_ret
    exact ⟨rfl, hb1⟩
  · obtain ⟨h0, h1⟩ := (sq_iff s).1 hs
    simp only [if_true]
    have hF : sF s = s % 8 := by unfold sF; rw [if_pos hs]
    have hR : sR s = s / 8 := by unfold sR; rw [if_pos hs]
    have hA : sAt (s % 8) (7 - s / 8) = 8 * (7 - s / 8) + s % 8 := by
      unfold sAt
      rw [if_pos ((onB_iff _ _).2 (by omega))]
    have h2 : 0 ≤ s / 8 ∧ s / 8 ≤ 7 := by omega
    obtain ⟨r, hr⟩ : ∃ r, s / 8 = r := ⟨_, rfl⟩
    obtain ⟨f, hf⟩ : ∃ f, s % 8 = f := ⟨_, rfl⟩
    rw [hr] at hR hA h2 ⊢
    rw [hf] at hF hA ⊢
    obtain ⟨h3, h4⟩ := h2
    have HS := Lib.hid hs
    have HF := Lib.hid hF
    have HR := Lib.hid hR
    have HA := Lib.hid hA
    clear hs hF hR hA hr hf
    go_enter Tryd.func37, Tryd.ntmps37
    go_wp2_with fail
    refine (is_any s _).mono ?_
    rw [HS.out]
    rintro e w1 ⟨rfl, hb1⟩
    go_wp2_with fail
    refine (file_any s _).mono ?_
    rw [HF.out]
    rintro e w2 ⟨rfl, hb2⟩
    go_wp2_with fail
    refine (rank_any s _).mono ?_
    rw [HR.out]
    rintro e w3 ⟨rfl, hb3⟩
    go_wp2_with fail
    refine (at_any f (7 - r) _).mono ?_
    rw [HA.out]
    rintro e w4 ⟨rfl, hb4⟩
    go_wp2
    go_ret
    exact ⟨rfl, ((hb1.trans (hb2.mono hb1.size)).trans (hb3.mono (Nat.le_trans hb1.size hb2.size))).trans (hb4.mono (Nat.le_trans hb1.size (Nat.le_trans hb2.size hb3.size)))⟩
end Go.Proofs.YtldepimkbnodpaaDoor

namespace Go.Proofs.YtldepimkbnodpaaDoor
open Go.RowKit
set_option linter.unusedSimpArgs false
set_option linter.unusedVariables false

/-- the square of a side's king -/
def kingN (P : Nat → Int) (d : Int) : Int := (fnd P 6 d 64).headD (-1)
theorem kingN_eq (P : Nat → Int) (d : Int) : kingN P d = (fnd P 6 d 64).headD (-1) := by unfold kingN; rfl
theorem fnd_headD (P : Nat → Int) (k d : Int) (j : Nat) (h : fnd P k d j = []) (hp : pe (P (2 * j)) (P (2 * j + 1)) k d = true) (n : Nat) (hn : j < n) : (fnd P k d n).headD (-1) = j := by
  obtain ⟨m, rfl⟩ : ∃ m, n = j + 1 + m := ⟨n - (j + 1), by omega⟩
  clear hn
  have : ∃ r, fnd P k d (j + 1 + m) = (j : Int) :: r := by
    induction m with
    | zero => exact ⟨[], by show fnd P k d j ++ _ = _; rw [h, if_pos hp]; rfl⟩
    | succ m ih =>
      obtain ⟨r, hr⟩ := ih
      exact ⟨_, by show fnd P k d (j + 1 + m) ++ _ = _; rw [hr, List.cons_append]⟩
  obtain ⟨r, hr⟩ := this
  rw [hr]; rfl
end Go.Proofs.YtldepimkbnodpaaDoor
