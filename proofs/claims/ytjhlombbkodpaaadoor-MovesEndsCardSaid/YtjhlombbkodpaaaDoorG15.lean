/-
  Merged: Mk, Bs.
-/
import Derived.Test.YtjhlombbkodpaaaDoorMj
import Derived.Test.YtjhlombbkodpaaaDoorDo
import Derived.Test.YtjhlombbkodpaaaDoorG14
import Derived.Test.YtjhlombbkodpaaaDoorG11

namespace Go.Proofs.YtjhlombbkodpaaaDoor
open Go.RowKit Go.Sort
set_option linter.unusedSimpArgs false
set_option linter.unusedVariables false
set_option maxRecDepth 20000

theorem fromL_mem (P : Nat → Int) (s n : Nat) (hs : s < 64) (hn : n < 64) : (n : Int) ∈ fromL P (s : Int) ↔ attR P s n = true := by
  rw [from_eq]
  unfold rFromL
  rw [if_pos ((sq_iff _).2 (by omega)), upList_mem]
  constructor
  · rintro ⟨i, hi, h, e⟩
    obtain rfl : n = i := by omega
    simpa using h
  · intro h
    exact ⟨n, hn, by simpa using h, rfl⟩
theorem fromL_nodup (P : Nat → Int) (s : Int) : (fromL P s).Nodup := by
  rw [from_eq]
  unfold rFromL
  split
  · exact (upList_lt _ _).imp fun h => Int.ne_of_lt h
  · exact List.nodup_nil
theorem freeL_mem (P : Nat → Int) (s n : Nat) (hs : s < 64) (hn : n < 64) : (n : Int) ∈ freeL P (s : Int) ↔ (attR P s n && !mownB P n) = true := by
  unfold freeL
  rw [List.mem_filter, fromL_mem P s n hs hn, Bool.and_eq_true, Int.toNat_natCast]
theorem slantL_mem (P : Nat → Int) (s n : Nat) (hs : s < 64) (hn : n < 64) : (n : Int) ∈ slantL P (s : Int) ↔ (attR P s n && slantB P n) = true := by
  unfold slantL
  rw [List.mem_filter, fromL_mem P s n hs hn, Bool.and_eq_true, Int.toNat_natCast]
theorem attR_pawn (P : Nat → Int) (s n : Nat) (h1 : P (2 * s) = 1) (h : attR P s n = true) : (s % 8 : Nat) ≠ n % 8 := by
  unfold attR attK kindB at h
  rw [if_pos h1] at h
  simp only [Bool.and_eq_true, beq_iff_eq] at h
  have h2 := h.2.1
  unfold absI fD at h2
  split at h2 <;> omega
theorem attR_king (P : Nat → Int) (s n : Nat) (h1 : P (2 * s) = 6) (h : attR P s n = true) : fD s n ≤ 1 ∧ -1 ≤ fD s n := by
  unfold attR attK kindB at h
  rw [if_neg (by omega), if_neg (by omega), if_pos h1] at h
  simp only [Bool.and_eq_true, decide_eq_true_eq] at h
  have h2 := h.2.1
  unfold absI at h2
  split at h2 <;> omega
theorem attR_ne (P : Nat → Int) (s n : Nat) (h : attR P s n = true) : s ≠ n := by
  unfold attR attK at h
  simp only [Bool.and_eq_true, Bool.not_eq_true', beq_eq_false_iff_ne] at h
  exact h.1.2
theorem stp_up (a d : Int) (h : sq (stp a 0 d) = true) : stp a 0 d = a + 8 * d := by
  unfold stp at h ⊢
  split
  · omega
  · rename_i h1
    rw [if_neg h1] at h
    exact absurd h (by decide)
/-- a pawn's squares straight ahead -/
theorem aheadL_form (P : Nat → Int) (s : Nat) : aheadL P s = [] ∨ (aheadL P s = [(s : Int) + 8 * onN P] ∧ emB P ((s : Int) + 8 * onN P).toNat = true) ∨ (aheadL P s = [(s : Int) + 8 * onN P, (s : Int) + 16 * onN P] ∧ emB P ((s : Int) + 8 * onN P).toNat = true ∧ emB P ((s : Int) + 16 * onN P).toNat = true) := by
  have key : ∀ n, upW P (onN P) (n + 1) (stp (s : Int) 0 (onN P)) = [] ∨ ((upW P (onN P) (n + 1) (stp (s : Int) 0 (onN P)) = (s + 8 * onN P) :: upW P (onN P) n (stp (s + 8 * onN P) 0 (onN P))) ∧ emB P ((s : Int) + 8 * onN P).toNat = true) := by
    intro n
    rw [upW]
    by_cases h : (sq (stp (s : Int) 0 (onN P)) && emB P (stp (s : Int) 0 (onN P)).toNat) = true
    · rw [if_pos h]
      rw [Bool.and_eq_true] at h
      have e := stp_up _ _ h.1
      rw [e] at h ⊢
      exact .inr ⟨rfl, h.2⟩
    · rw [if_neg h]; exact .inl rfl
  have key2 : ∀ b : Int, upW P (onN P) 1 (stp b 0 (onN P)) = [] ∨ (upW P (onN P) 1 (stp b 0 (onN P)) = [b + 8 * onN P] ∧ emB P (b + 8 * onN P).toNat = true) := by
    intro b
    rw [upW]
    by_cases h : (sq (stp b 0 (onN P)) && emB P (stp b 0 (onN P)).toNat) = true
    · rw [if_pos h]
      rw [Bool.and_eq_true] at h
      have e := stp_up _ _ h.1
      rw [e] at h ⊢
      exact .inr ⟨rfl, h.2⟩
    · rw [if_neg h]; exact .inl rfl
  unfold aheadL farN
  split
  · rcases key 1 with h | ⟨h, h1⟩
    · exact .inl h
    · rcases key2 (s + 8 * onN P) with g | ⟨g, g1⟩
      · rw [g] at h; exact .inr (.inl ⟨h, h1⟩)
      · have e : (s : Int) + 8 * onN P + 8 * onN P = s + 16 * onN P := by omega
        rw [g, e] at h
        rw [e] at g1
        exact .inr (.inr ⟨h, h1, g1⟩)
  · rcases key 0 with h | ⟨h, h1⟩
    · exact .inl h
    · exact .inr (.inl ⟨h, h1⟩)
theorem onN_or (P : Nat → Int) : onN P = 1 ∨ onN P = -1 := by unfold onN; split <;> simp
theorem aheadL_mem (P : Nat → Int) (s : Nat) (x : Int) (h : x ∈ aheadL P s) : emB P x.toNat = true ∧ (x = s + 8 * onN P ∨ x = s + 16 * onN P) := by
  rcases aheadL_form P s with e | ⟨e, h1⟩ | ⟨e, h1, h2⟩ <;> rw [e] at h
  · cases h
  · simp only [List.mem_singleton] at h; subst h; exact ⟨h1, .inl rfl⟩
  · simp only [List.mem_cons, List.not_mem_nil, or_false] at h
    rcases h with rfl | rfl
    · exact ⟨h1, .inl rfl⟩
    · exact ⟨h2, .inr rfl⟩
theorem aheadL_nodup (P : Nat → Int) (s : Nat) : (aheadL P s).Nodup := by
  rcases aheadL_form P s with e | ⟨e, _⟩ | ⟨e, _, _⟩ <;> rw [e]
  · exact List.nodup_nil
  · simp
  · have := onN_or P
    simp; omega
theorem cst_j (P : Nat → Int) (s : Int) (j : Nat) (h : cstB P s j = true) : s = mcsN (j * 4 + 2) ∧ P 128 = mcsN (j * 4 + 1) ∧ clrB P (wayJ j) (cornJ j) (mcsN (j * 4 + 1)) = true := by
  unfold cstB at h
  simp only [Bool.and_eq_true, beq_iff_eq] at h
  exact ⟨h.1.1.1, h.1.1.2, h.2⟩
theorem cst_not (P : Nat → Int) (s : Int) (j : Nat) (h : s ≠ mcsN (j * 4 + 2)) : cstB P s j = false := by
  cases e : cstB P s j
  · rfl
  · exact absurd (cst_j P s j e).1 h
theorem castlesL_nodup (P : Nat → Int) (s : Nat) : (castlesL P (s : Int) 4).Nodup := by
  by_cases e4 : s = 4
  · subst e4
    have h2 : cstB P ((4 : Nat) : Int) 2 = false := cst_not _ _ _ (by decide)
    have h3 : cstB P ((4 : Nat) : Int) 3 = false := cst_not _ _ _ (by decide)
    simp only [castlesL, h2, h3]
    cases cstB P ((4 : Nat) : Int) 0 <;> cases cstB P ((4 : Nat) : Int) 1 <;> decide
  · by_cases e6 : s = 60
    · subst e6
      have h2 : cstB P ((60 : Nat) : Int) 0 = false := cst_not _ _ _ (by decide)
      have h3 : cstB P ((60 : Nat) : Int) 1 = false := cst_not _ _ _ (by decide)
      simp only [castlesL, h2, h3]
      cases cstB P ((60 : Nat) : Int) 2 <;> cases cstB P ((60 : Nat) : Int) 3 <;> decide
    · have h0 : cstB P (s : Int) 0 = false := cst_not _ _ _ (by simp [mcsN]; omega)
      have h1 : cstB P (s : Int) 1 = false := cst_not _ _ _ (by simp [mcsN]; omega)
      have h2 : cstB P (s : Int) 2 = false := cst_not _ _ _ (by simp [mcsN]; omega)
      have h3 : cstB P (s : Int) 3 = false := cst_not _ _ _ (by simp [mcsN]; omega)
      simp [castlesL, h0, h1, h2, h3]
/-- a castling goes two files on, to a square on which nothing stands -/
theorem castlesL_to (P : Nat → Int) (s n : Nat) (h : (n : Int) ∈ castlesL P (s : Int) 4) : (fD s n = 2 ∨ fD s n = -2) ∧ emB P n = true := by
  obtain ⟨j, hj, hc, hx⟩ := castlesL_mem P _ _ _ h
  obtain ⟨h1, _, h3⟩ := cst_j P _ _ hc
  have hem : ∀ k, k < (wayJ j).length - 1 → emB P ((wayJ j).getD k 0).toNat = true := by
    unfold clrB at h3
    rw [Bool.and_eq_true, List.all_eq_true] at h3
    exact fun k hk => h3.1 k (List.mem_range.2 hk)
  rcases (show j = 0 ∨ j = 1 ∨ j = 2 ∨ j = 3 by omega) with rfl | rfl | rfl | rfl
  · obtain rfl : s = 4 := by simp [mcsN] at h1; omega
    obtain rfl : n = 6 := by rw [show stp ((4 : Nat) : Int) (2 * mcsN (0 * 4 + 3)) 0 = 6 by decide] at hx; omega
    exact ⟨by decide, hem 1 (by decide)⟩
  · obtain rfl : s = 4 := by simp [mcsN] at h1; omega
    obtain rfl : n = 2 := by rw [show stp ((4 : Nat) : Int) (2 * mcsN (1 * 4 + 3)) 0 = 2 by decide] at hx; omega
    exact ⟨by decide, hem 1 (by decide)⟩
  · obtain rfl : s = 60 := by simp [mcsN] at h1; omega
    obtain rfl : n = 62 := by rw [show stp ((60 : Nat) : Int) (2 * mcsN (2 * 4 + 3)) 0 = 62 by decide] at hx; omega
    exact ⟨by decide, hem 1 (by decide)⟩
  · obtain rfl : s = 60 := by simp [mcsN] at h1; omega
    obtain rfl : n = 58 := by rw [show stp ((60 : Nat) : Int) (2 * mcsN (3 * 4 + 3)) 0 = 58 by decide] at hx; omega
    exact ⟨by decide, hem 1 (by decide)⟩
/-- a piece goes there -/
def goB (P : Nat → Int) (s t : Nat) : Bool :=
  if P (2 * s) = 1 then (aheadL P s).contains (t : Int) || (attR P s t && slantB P t)
  else (attR P s t && !mownB P t) || (P (2 * s) == 6 && (castlesL P (s : Int) 4).contains (t : Int))
theorem goals_up (P : Nat → Int) (s : Nat) (hs : s < 64) : risen (goalsL P s) = upList (goB P s) 64 := by
  have hr := goalsL_range P s
  have nat : ∀ x : Int, x ∈ goalsL P s → ∃ n : Nat, x = (n : Int) ∧ n < 64 := fun x hx => ⟨x.toNat, by have := hr x hx; omega, by have := hr x hx; omega⟩
  refine risen_up _ _ ?_ (fun x hx => (sq_iff x).2 (hr x hx)) fun n hn => ?_
  · unfold goalsL at nat ⊢
    split
    · rename_i h1
      rw [if_pos h1] at nat
      refine List.nodup_append.2 ⟨aheadL_nodup P s, (fromL_nodup P _).filter _, fun a ha b hb e => ?_⟩
      subst e
      obtain ⟨n, rfl, hn⟩ := nat _ (List.mem_append.2 (.inl ha))
      have h2 := (aheadL_mem P s _ ha).2
      have h3 := (slantL_mem P s n hs hn).1 hb
      rw [Bool.and_eq_true] at h3
      have h4 := attR_pawn P s n h1 h3.1
      have := onN_or P
      omega
    · rename_i h1
      rw [if_neg h1] at nat
      split
      · rename_i h6
        rw [if_pos h6] at nat
        refine List.nodup_append.2 ⟨(fromL_nodup P _).filter _, castlesL_nodup P s, fun a ha b hb e => ?_⟩
        subst e
        obtain ⟨n, rfl, hn⟩ := nat _ (List.mem_append.2 (.inl ha))
        have h2 := (castlesL_to P s n hb).1
        have h3 := (freeL_mem P s n hs hn).1 ha
        rw [Bool.and_eq_true] at h3
        have h4 := attR_king P s n h6 h3.1
        omega
      · exact (fromL_nodup P _).filter _
  · unfold goalsL goB
    split
    · rw [List.mem_append, slantL_mem P s n hs hn, Bool.or_eq_true, List.contains_iff_mem]
    · split
      · rename_i h6
        rw [List.mem_append, freeL_mem P s n hs hn, Bool.or_eq_true, h6]
        simp
      · rename_i h6
        rw [freeL_mem P s n hs hn, Bool.or_eq_true, show (P (2 * s) == 6) = false by simp [h6]]
        simp
theorem movesL_up (P : Nat → Int) (s : Nat) (hs : s < 64) : movesL P s = putL P s (upList (goB P s) 64) := by unfold movesL; rw [goals_up P s hs]
theorem allM_up (P : Nat → Int) : allM P = (upList (ownB P) 64).flatMap fun x => putL P x.toNat (upList (goB P x.toNat) 64) := by
  unfold allM flatM
  simp only [List.flatMap_def]
  refine congrArg List.flatten (List.map_congr_left fun x hx => ?_)
  obtain ⟨i, hi, _, rfl⟩ := (upList_mem _ _ _).1 hx
  exact movesL_up P _ (by simpa using hi)
theorem allM_start : allM startN = [(1, 16, 0), (1, 18, 0), (6, 21, 0), (6, 23, 0), (8, 16, 0), (8, 24, 0), (9, 17, 0), (9, 25, 0), (10, 18, 0), (10, 26, 0), (11, 19, 0), (11, 27, 0), (12, 20, 0), (12, 28, 0), (13, 21, 0), (13, 29, 0), (14, 22, 0), (14, 30, 0), (15, 23, 0), (15, 31, 0)] := by
  rw [allM_up]
  decide +kernel
end Go.Proofs.YtjhlombbkodpaaaDoor

namespace Go.Proofs.YtjhlombbkodpaaaDoor
open Go.RowKit Go.Sort
set_option linter.unusedSimpArgs false
set_option linter.unusedVariables false

/-- the squares of a position are loaded, in a region that does not draw -/
theorem wpList_sqs {ops : Array Oper} {rest : List Oper} {op : Oper} {a : Act} {w : World} {Q : Exit → Act → World → Prop} (hw : Region.wanted op (yielded ops a.tmps) = true) (x : Operand) (ho : op.op = .load 26 x)
    (b : Nat) (P : Nat → Int) (Z : Array Value) (hZ : Z = (nums P 0 128).toArray) (hx : a.eval x = .pointer (some ⟨b, 0, none⟩)) (hc : PB w b P) (h : wpList Tryd.prog ops Q rest (a.put op.dst (.agg Z)) w) : wpList Tryd.prog ops Q (op :: rest) a w := by
  subst hZ
  exact BigFrame.wpList_want hw fun _ hK => wp_load_mid 26 x ho b 0 hx (nums P 0 128) _ hc.squares Tryd.underlying26 rfl (by rw [infoSqs, nums_len]) (hK _ _ h)
theorem index_two (x y : Int) (j : Nat) (hj : j < 2) (w : World) : (part 3 #[.int .i64 x, .int .i64 y] j).run Tryd.prog w = .ok (.int .i64 (if j = 0 then x else y)) w := by
  rcases (show j = 0 ∨ j = 1 by omega) with rfl | rfl <;> simp [part, isAgg, run_underlying Tryd.underlying3]
theorem infoInt1 : (Tryd.prog.info? 3).map (·.size) = some 1 := by kernel_rfl
theorem equal_two (x y u v : Int) (n : Nat) (w : World) : (Op.equalIn (n + 2) 115 (.agg #[.int .i64 x, .int .i64 y]) (.agg #[.int .i64 u, .int .i64 v])).run Tryd.prog w = .ok (x == u && y == v) w := by
  have e1 : ∀ a b : Int, (Op.equalIn (n + 1) 3 (.int .i64 a) (.int .i64 b)).run Tryd.prog w = .ok (a == b) w := fun a b => run_equalIn_int w n 3 .i64 .i64 a b Tryd.underlying3
  rw [Op.equalIn]
  simp only [Sem.run_bind, run_underlying Tryd.underlying115, Result.andThen_ok, size_of_info infoInt1, Std.Legacy.Range.forIn_eq_forIn_range', Std.Legacy.Range.size, Nat.sub_zero, Nat.add_sub_cancel, Nat.div_one]
  have h0 := index_two x y 0 (by omega) w
  have h1 := index_two x y 1 (by omega) w
  have g0 := index_two u v 0 (by omega) w
  have g1 := index_two u v 1 (by omega) w
  simp only [if_true, show ¬ (1 = 0) by omega, if_false] at h0 h1 g0 g1
  cases hx : x == u <;> cases hy : y == v <;> simp [List.range', h0, h1, g0, g1, e1, hx, hy]
@[go_sem high] theorem eql_two (x y u v : Int) (w : World) : (binOp .eql 115 (.agg #[.int .i64 x, .int .i64 y]) (.agg #[.int .i64 u, .int .i64 v])).run Tryd.prog w = .ok (.bool (x == u && y == v)) w := by
  have e := equal_two x y u v 9998 w
  rw [run_eql_struct, e]; rfl
/-- what stands in the checker's walk: the position, the count of kings -/
structure PKb (w W : World) (blk : Nat) (P : Nat → Int) (j : Nat) : Prop where
  p : PB W blk P
  x : W.heap[w.heap.size]? = some (.cells #[.int .i64 (cnt P 0 j : Nat), .int .i64 (cnt P 1 j : Nat)] 115 (0, 0))
  b : Below w.heap.size w W
  s : w.heap.size + 1 ≤ W.heap.size
  n : blk < w.heap.size
theorem PKb.go {w W W' : World} {b : Nat} {P : Nat → Int} {j : Nat} (h : PKb w W b P j) (g : Below W.heap.size W W') : PKb w W' b P j :=
  ⟨h.p.go g, sl_go h.x g, h.b.trans (g.mono h.b.size), Nat.le_trans h.s g.size, h.n⟩
theorem PKb.alloc {w W : World} {b : Nat} {P : Nat → Int} {j : Nat} (h : PKb w W b P j) (o : Obj) : PKb w (W.alloc o) b P j := h.go (below_new _)
theorem PKb.same {w W : World} {b : Nat} {P : Nat → Int} {j : Nat} (h : PKb w W b P j) (h0 : cnt P 0 (j + 1) = cnt P 0 j) (h1 : cnt P 1 (j + 1) = cnt P 1 j) : PKb w W b P (j + 1) :=
  ⟨h.p, by rw [h0, h1]; exact h.x, h.b, h.s, h.n⟩
theorem PKb.up0 {w W : World} {b : Nat} {P : Nat → Int} {j : Nat} (h : PKb w W b P j) (h0 : cnt P 0 (j + 1) = cnt P 0 j + 1) (h1 : cnt P 1 (j + 1) = cnt P 1 j) : PKb w (W.setCell ⟨w.heap.size, 0, none⟩ (.int .i64 ((cnt P 0 j : Nat) + 1))) b P (j + 1) :=
  ⟨h.p.other (by have := h.n; omega) _ _, by have := Go.heap_setCell_same W (w.heap.size) 0 _ _ (.int .i64 ((cnt P 0 j : Nat) + 1)) h.x; rw [h0, h1]; exact this, h.b.setCell (p := ⟨w.heap.size, 0, none⟩) (by simp) _, by rw [World.size_setCell]; exact h.s, h.n⟩
theorem PKb.up1 {w W : World} {b : Nat} {P : Nat → Int} {j : Nat} (h : PKb w W b P j) (h0 : cnt P 0 (j + 1) = cnt P 0 j) (h1 : cnt P 1 (j + 1) = cnt P 1 j + 1) : PKb w (W.setCell ⟨w.heap.size, 1, none⟩ (.int .i64 ((cnt P 1 j : Nat) + 1))) b P (j + 1) :=
  ⟨h.p.other (by have := h.n; omega) _ _, by have := Go.heap_setCell_same W (w.heap.size) 1 _ _ (.int .i64 ((cnt P 1 j : Nat) + 1)) h.x; rw [h0, h1]; exact this, h.b.setCell (p := ⟨w.heap.size, 1, none⟩) (by simp) _, by rw [World.size_setCell]; exact h.s, h.n⟩
theorem one_eq (n : Nat) : ((n : Int) == 1) = (n == 1) := by
  rw [Bool.eq_iff_iff]; simp; omega
theorem on_end (j : Nat) (hj : j < 64) : (sR (j : Int) == 0 || sR (j : Int) == 7) = (decide (j < 8) || decide (56 ≤ j)) := by
  have hs : sR (j : Int) = (j : Int) / 8 := by unfold sR; rw [if_pos ((sq_iff _).2 (by omega))]
  rw [hs]
  by_cases h1 : j < 8
  · have : (j : Int) / 8 = 0 := by omega
    rw [this]; simp [h1]
  · by_cases h2 : 56 ≤ j
    · have : (j : Int) / 8 = 7 := by omega
      rw [this]; simp [h2]
    · have h3 : ¬ (j : Int) / 8 = 0 := by omega
      have h4 : ¬ (j : Int) / 8 = 7 := by omega
      simp [h1, h2, h3, h4]
set_option maxHeartbeats 2000000 in
set_option maxRecDepth 100000 in
theorem pieces_any (b : Nat) (P : Nat → Int) (w : World) (hp : PB w b P) :
    Calls Tryd.prog 63 #[.pointer (some ⟨b, 0, none⟩)] w fun e w' => e = .returned (.bool (piecesB P)) ∧ Below w.heap.size w w' := by
  have HK0 := Lib.hid (show PKb w (w.alloc (.cells #[.int .i64 0, .int .i64 0] 115)) b P 0 from ⟨hp.alloc _, sl_at rfl, below_new _, by simp, hp.lt⟩)
  obtain ⟨Z, hZ⟩ : ∃ Z, Z = (nums P 0 128).toArray := ⟨_, rfl⟩
  have HIX := Lib.hid (show ∀ (j : Nat) (hj : j < 64) (W : World), (Instr.index 26 (.agg Z) (.int .i64 (j : Int))).run Tryd.prog W = .ok (.agg #[.int .i64 (P (j * 2)), .int .i64 (P (j * 2 + 1))]) W from fun j hj W => by
    rw [Nat.mul_comm, hZ]; exact index_sqs P j hj W)
  have HZ := Lib.hid hZ
  clear hZ hp
  go_enter Tryd.func63, Tryd.ntmps63
  go_upto_region 2 with (fail)
  refine forget_B (fun W => PKb w W b P 0) HK0.out ?_
  clear HK0
  intro W h1
  have H1 := Lib.hid h1
  clear h1
  go_wp2_with (refine wpList_sqs (by rfl) _ (by rfl) b P Z HZ.out (by rfl) H1.out.p ?_)
  go_loopw [11] (fun i wr => ∃ j : Nat, j ≤ 64 ∧ i = .int .i64 (j : Int) ∧ PKb w wr b P j ∧ okS P j = true) (fun i _ => 64 - (intOf i).toNat)
  case atStart => exact ⟨0, Nat.zero_le _, rfl, H1.out, rfl⟩
  case round =>
    clear H1
    obtain ⟨j, hj, rfl, h1, h2⟩ := hrel
    have H1 := Lib.hid h1
    have H2 := Lib.hid h2
    clear h1 h2
    by_cases hlt : j < 64
    · have hix := HIX.out j hlt
      have hbd : badP P j = (!(pe (P (2 * j)) (P (2 * j + 1)) 0 0) && (!(mayB (P (2 * j)) (P (2 * j + 1))) || (P (2 * j) == 1 && (decide (j < 8) || decide (56 ≤ j))))) := rfl
      have hc0 : cnt P 0 (j + 1) = cnt P 0 j + if pe (P (2 * j)) (P (2 * j + 1)) 6 0 then 1 else 0 := rfl
      have hc1 : cnt P 1 (j + 1) = cnt P 1 j + if pe (P (2 * j)) (P (2 * j + 1)) 6 1 then 1 else 0 := rfl
      obtain ⟨k, hk⟩ : ∃ k, P (j * 2) = k := ⟨_, rfl⟩
      obtain ⟨d, hd⟩ : ∃ d, P (j * 2 + 1) = d := ⟨_, rfl⟩
      rw [Nat.mul_comm 2 j, hk, hd] at hbd hc0 hc1
      rw [hk, hd] at hix
      have HB := Lib.hid hbd
      have HC0 := Lib.hid hc0
      have HC1 := Lib.hid hc1
      have HON := Lib.hid (on_end j hlt)
      clear hk hd hbd hc0 hc1
      have hcl0 := cnt_le P 0 j
      have hcl1 := cnt_le P 1 j
      go_upto_region 5 with (fail)
      refine forget_B (fun W => PKb w W b P j ∧ W.heap[wr.heap.size]? = some (.cells #[.int .i64 k, .int .i64 d] 25 (0, 0)) ∧ w.heap.size + 1 ≤ wr.heap.size) ⟨H1.out.alloc _, sl_at rfl, H1.out.s⟩ ?_
      clear H1 hix
      rintro W3 ⟨h1, h2, h3⟩
      obtain ⟨q1, q2, qf, qz⟩ := row2 h2
      have H1 := Lib.hid h1
      have HQ := Lib.hid h2
      have HZZ := Lib.hid h3
      clear h1 h2 h3
      obtain ⟨a, ha⟩ : ∃ a, pe k d 0 0 = a := ⟨_, rfl⟩
      have HA := Lib.hid ha
      obtain ⟨m, hm⟩ : ∃ m, mayB k d = m := ⟨_, rfl⟩
      have HBM := Lib.hid hm
      have hsp := sq_parts k d j
      rw [ha, hm] at hsp
      clear ha hm
      go_wp2_with fail
      refine (none_any k d _).mono ?_
      rw [HA.out]
      rintro e w4 ⟨rfl, hb4⟩
      clear q1 q2 qf qz
      have h1 := H1.out.go hb4
      have h2 := sl_go HQ.out hb4
      clear H1 HQ hb4
      obtain ⟨q1, q2, qf, qz⟩ := row2 h2
      have H1 := Lib.hid h1
      have HQ := Lib.hid h2
      clear h1 h2
      rcases hsp with ⟨rfl, rfl⟩ | ⟨rfl, rfl⟩ | ⟨rfl, rfl, hsp⟩
      · have ha : a = true := by rw [← HA.out]; rfl
        subst ha
        have HS := Lib.hid (show okS P (j + 1) = true by show (okS P j && !(badP P j)) = true; rw [H2.out, HB.out]; rfl)
        have HXX := Lib.hid (H1.out.same HC0.out HC1.out)
        go_wp2
        go_roundw
        case rel => exact ⟨j + 1, by omega, by go_num, HXX.out, HS.out⟩
        case measure => simp [intOf]; omega
      · have HBD := Lib.hid (show badP P j = true by rw [HB.out, HA.out, HBM.out]; rfl)
        have HF := Lib.hid (show piecesB P = false by unfold piecesB; rw [okS_false P hlt HBD.out]; rfl)
        go_wp2_with fail
        refine (mayBe_any k d _).mono ?_
        rw [HBM.out]
        rintro e w5 ⟨rfl, hb5⟩
        go_wp2
        go_ret
        exact ⟨q_b HF.out.symm, H1.out.b.trans (hb5.mono H1.out.b.size)⟩
      · go_wp2_with fail
        refine (mayBe_any k d _).mono ?_
        rw [HBM.out]
        rintro e w5 ⟨rfl, hb5⟩
        clear q1 q2 qf qz
        have h1 := H1.out.go hb5
        have h2 := sl_go HQ.out hb5
        clear H1 HQ hb5
        obtain ⟨q1, q2, qf, qz⟩ := row2 h2
        have H1 := Lib.hid h1
        have HQ := Lib.hid h2
        clear h1 h2
        obtain ⟨x1, x2, xf, xz⟩ := row2 H1.out.x
        rcases hsp with ⟨rfl, hj8⟩ | ⟨rfl, rfl | rfl⟩ | ⟨hn1, hn6⟩
        · obtain ⟨eb, heb⟩ : ∃ e, (decide (j < 8) || decide (56 ≤ j)) = e := ⟨_, rfl⟩
          rw [heb] at HON HB
          have HBD := Lib.hid (show badP P j = eb by rw [HB.out, HA.out, HBM.out]; simp)
          clear heb hj8
          go_wp2_with fail
          refine (onEnd_any (j : Int) _).mono ?_
          rw [HON.out]
          rintro e w6 ⟨rfl, hb6⟩
          clear q1 q2 qf qz x1 x2 xf xz
          have h1 := H1.out.go hb6
          have h2 := sl_go HQ.out hb6
          clear H1 HQ hb6
          obtain ⟨q1, q2, qf, qz⟩ := row2 h2
          have H1 := Lib.hid h1
          clear h1 h2
          cases eb
          · have HS := Lib.hid (show okS P (j + 1) = true by show (okS P j && !(badP P j)) = true; rw [H2.out, HBD.out]; rfl)
            have HXX := Lib.hid (H1.out.same HC0.out HC1.out)
            go_wp2
            go_roundw
            case rel => exact ⟨j + 1, by omega, by go_num, HXX.out, HS.out⟩
            case measure => simp [intOf]; omega
          · have HF := Lib.hid (show piecesB P = false by unfold piecesB; rw [okS_false P hlt HBD.out]; rfl)
            go_wp2
            go_ret
            exact ⟨q_b HF.out.symm, H1.out.b⟩
        · have HBD := Lib.hid (show badP P j = false by rw [HB.out, HA.out, HBM.out]; rfl)
          have HS := Lib.hid (show okS P (j + 1) = true by show (okS P j && !(badP P j)) = true; rw [H2.out, HBD.out]; rfl)
          have HXX := Lib.hid (H1.out.up0 HC0.out HC1.out)
          generalize cnt P 0 j = n0 at *
          go_wp2
          go_roundw
          case rel => exact ⟨j + 1, by omega, by go_num, HXX.out, HS.out⟩
          case measure => simp [intOf]; omega
        · have HBD := Lib.hid (show badP P j = false by rw [HB.out, HA.out, HBM.out]; rfl)
          have HS := Lib.hid (show okS P (j + 1) = true by show (okS P j && !(badP P j)) = true; rw [H2.out, HBD.out]; rfl)
          have HXX := Lib.hid (H1.out.up1 HC0.out HC1.out)
          generalize cnt P 1 j = n1 at *
          go_wp2
          go_roundw
          case rel => exact ⟨j + 1, by omega, by go_num, HXX.out, HS.out⟩
          case measure => simp [intOf]; omega
        · have HBD := Lib.hid (show badP P j = false by rw [HB.out, HA.out, HBM.out, hn1]; rfl)
          have HS := Lib.hid (show okS P (j + 1) = true by show (okS P j && !(badP P j)) = true; rw [H2.out, HBD.out]; rfl)
          have hk6 : ∀ x, pe k d 6 x = false := fun x => by unfold pe; rw [hn6]; rfl
          have HXX := Lib.hid (H1.out.same (by rw [HC0.out, hk6]; rfl) (by rw [HC1.out, hk6]; rfl))
          clear hk6
          go_wp2
          go_roundw
          case rel => exact ⟨j + 1, by omega, by go_num, HXX.out, HS.out⟩
          case measure => simp [intOf]; omega
    · obtain rfl : j = 64 := by omega
      have hpb : piecesB P = ((cnt P 0 64 == 1) && (cnt P 1 64 == 1) && sideB (P 128)) := by unfold piecesB; rw [H2.out]; simp
      obtain ⟨x1, x2, xf, xz⟩ := row2 H1.out.x
      have e3 := H1.out.p.cell 128 (by omega)
      have c0 := cnt_le P 0 64
      have c1 := cnt_le P 1 64
      generalize cnt P 0 64 = n0 at *
      generalize cnt P 1 64 = n1 at *
      generalize P 128 = sd at *
      have HPB := Lib.hid hpb
      clear hpb
      obtain ⟨q0, hq0⟩ : ∃ q, ((n0 : Int) == 1) = q := ⟨_, rfl⟩
      obtain ⟨q1, hq1⟩ : ∃ q, ((n1 : Int) == 1) = q := ⟨_, rfl⟩
      have HQ0 := Lib.hid (show (n0 == 1) = q0 by rw [← hq0]; exact (one_eq n0).symm)
      have HQ1 := Lib.hid (show (n1 == 1) = q1 by rw [← hq1]; exact (one_eq n1).symm)
      obtain ⟨sb, hsb⟩ : ∃ s, sideB sd = s := ⟨_, rfl⟩
      have HSB := Lib.hid hsb
      clear hsb
      cases q0
      · go_wp2
        go_ret
        exact ⟨q_b (by rw [HPB.out, HQ0.out]; rfl), H1.out.b⟩
      · cases q1
        · go_wp2
          go_ret
          exact ⟨q_b (by rw [HPB.out, HQ0.out, HQ1.out]; rfl), H1.out.b⟩
        · go_wp2_with fail
          refine (isSide_any sd _).mono ?_
          rw [HSB.out]
          rintro e w6 ⟨rfl, rfl⟩
          go_wp2
          go_ret
          exact ⟨q_b (by rw [HPB.out, HQ0.out, HQ1.out, HSB.out]; simp), H1.out.b⟩
end Go.Proofs.YtjhlombbkodpaaaDoor
