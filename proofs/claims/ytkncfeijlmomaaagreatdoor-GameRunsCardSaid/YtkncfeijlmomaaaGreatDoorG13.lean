/-
  Merged: Mk, Bs, Bt, Bu.
-/
import Derived.Test.YtkncfeijlmomaaaGreatDoorG12
import Derived.Test.YtkncfeijlmomaaaGreatDoorG9
import Derived.Test.YtkncfeijlmomaaaGreatDoorG11

namespace Go.Proofs.YtkncfeijlmomaaaGreatDoor
open Go.RowKit Go.Sort
set_option linter.unusedSimpArgs false
set_option linter.unusedVariables false
set_option maxRecDepth 20000

theorem fromL_mem (P : Nat → Int) (s n : Nat) (hs : s < 64) (hn : n < 64) : (n : Int) ∈ fromL P (s : Int) ↔ attR P s n = true := by
  rw [from_eq]
  unfold rFromL
  rw [if_pos ((sq_iff _).2 (by omega)), upList_mem]
  constructor
  · rintro ⟨i, hi, h, e⟩
    obtain rfl : n = i := by omega
    simpa using h
  · intro h
    exact ⟨n, hn, by simpa using h, rfl⟩
theorem fromL_nodup (P : Nat → Int) (s : Int) : (fromL P s).Nodup := by
  rw [from_eq]
  unfold rFromL
  split
  · exact (upList_lt _ _).imp fun h => Int.ne_of_lt h
  · exact List.nodup_nil
theorem freeL_mem (P : Nat → Int) (s n : Nat) (hs : s < 64) (hn : n < 64) : (n : Int) ∈ freeL P (s : Int) ↔ (attR P s n && !mownB P n) = true := by
  unfold freeL
  rw [List.mem_filter, fromL_mem P s n hs hn, Bool.and_eq_true, Int.toNat_natCast]
theorem slantL_mem (P : Nat → Int) (s n : Nat) (hs : s < 64) (hn : n < 64) : (n : Int) ∈ slantL P (s : Int) ↔ (attR P s n && slantB P n) = true := by
  unfold slantL
  rw [List.mem_filter, fromL_mem P s n hs hn, Bool.and_eq_true, Int.toNat_natCast]
theorem attR_pawn (P : Nat → Int) (s n : Nat) (h1 : P (2 * s) = 1) (h : attR P s n = true) : (s % 8 : Nat) ≠ n % 8 := by
  unfold attR attK kindB at h
  rw [if_pos h1] at h
  simp only [Bool.and_eq_true, beq_iff_eq] at h
  have h2 := h.2.1
  unfold absI fD at h2
  split at h2 <;> omega
theorem attR_king (P : Nat → Int) (s n : Nat) (h1 : P (2 * s) = 6) (h : attR P s n = true) : fD s n ≤ 1 ∧ -1 ≤ fD s n := by
  unfold attR attK kindB at h
  rw [if_neg (by omega), if_neg (by omega), if_pos h1] at h
  simp only [Bool.and_eq_true, decide_eq_true_eq] at h
  have h2 := h.2.1
  unfold absI at h2
  split at h2 <;> omega
theorem attR_ne (P : Nat → Int) (s n : Nat) (h : attR P s n = true) : s ≠ n := by
  unfold attR attK at h
  simp only [Bool.and_eq_true, Bool.not_eq_true', beq_eq_false_iff_ne] at h
  exact h.1.2
theorem stp_up (a d : Int) (h : sq (stp a 0 d) = true) : stp a 0 d = a + 8 * d := by
  unfold stp at h ⊢
  split
  · omega
  · rename_i h1
    rw [if_neg h1] at h
    exact absurd h (by decide)
/-- a pawn's squares straight ahead -/
theorem aheadL_form (P : Nat → Int) (s : Nat) : aheadL P s = [] ∨ (aheadL P s = [(s : Int) + 8 * onN P] ∧ emB P ((s : Int) + 8 * onN P).toNat = true) ∨ (aheadL P s = [(s : Int) + 8 * onN P, (s : Int) + 16 * onN P] ∧ emB P ((s : Int) + 8 * onN P).toNat = true ∧ emB P ((s : Int) + 16 * onN P).toNat = true) := by
  have key : ∀ n, upW P (onN P) (n + 1) (stp (s : Int) 0 (onN P)) = [] ∨ ((upW P (onN P) (n + 1) (stp (s : Int) 0 (onN P)) = (s + 8 * onN P) :: upW P (onN P) n (stp (s + 8 * onN P) 0 (onN P))) ∧ emB P ((s : Int) + 8 * onN P).toNat = true) := by
    intro n
    rw [upW]
    by_cases h : (sq (stp (s : Int) 0 (onN P)) && emB P (stp (s : Int) 0 (onN P)).toNat) = true
    · rw [if_pos h]
      rw [Bool.and_eq_true] at h
      have e := stp_up _ _ h.1
      rw [e] at h ⊢
      exact .inr ⟨rfl, h.2⟩
    · rw [if_neg h]; exact .inl rfl
  have key2 : ∀ b : Int, upW P (onN P) 1 (stp b 0 (onN P)) = [] ∨ (upW P (onN P) 1 (stp b 0 (onN P)) = [b + 8 * onN P] ∧ emB P (b + 8 * onN P).toNat = true) := by
    intro b
    rw [upW]
    by_cases h : (sq (stp b 0 (onN P)) && emB P (stp b 0 (onN P)).toNat) = true
    · rw [if_pos h]
      rw [Bool.and_eq_true] at h
      have e := stp_up _ _ h.1
      rw [e] at h ⊢
      exact .inr ⟨rfl, h.2⟩
    · rw [if_neg h]; exact .inl rfl
  unfold aheadL farN
  split
  · rcases key 1 with h | ⟨h, h1⟩
    · exact .inl h
    · rcases key2 (s + 8 * onN P) with g | ⟨g, g1⟩
      · rw [g] at h; exact .inr (.inl ⟨h, h1⟩)
      · have e : (s : Int) + 8 * onN P + 8 * onN P = s + 16 * onN P := by omega
        rw [g, e] at h
        rw [e] at g1
        exact .inr (.inr ⟨h, h1, g1⟩)
  · rcases key 0 with h | ⟨h, h1⟩
    · exact .inl h
    · exact .inr (.inl ⟨h, h1⟩)
theorem onN_or (P : Nat → Int) : onN P = 1 ∨ onN P = -1 := by unfold onN; split <;> simp
theorem aheadL_mem (P : Nat → Int) (s : Nat) (x : Int) (h : x ∈ aheadL P s) : emB P x.toNat = true ∧ (x = s + 8 * onN P ∨ x = s + 16 * onN P) := by
  rcases aheadL_form P s with e | ⟨e, h1⟩ | ⟨e, h1, h2⟩ <;> rw [e] at h
  · cases h
  · simp only [List.mem_singleton] at h; subst h; exact ⟨h1, .inl rfl⟩
  · simp only [List.mem_cons, List.not_mem_nil, or_false] at h
    rcases h with rfl | rfl
    · exact ⟨h1, .inl rfl⟩
    · exact ⟨h2, .inr rfl⟩
theorem aheadL_nodup (P : Nat → Int) (s : Nat) : (aheadL P s).Nodup := by
  rcases aheadL_form P s with e | ⟨e, _⟩ | ⟨e, _, _⟩ <;> rw [e]
  · exact List.nodup_nil
  · simp
  · have := onN_or P
    simp; omega
theorem cst_j (P : Nat → Int) (s : Int) (j : Nat) (h : cstB P s j = true) : s = mcsN (j * 4 + 2) ∧ P 128 = mcsN (j * 4 + 1) ∧ clrB P (wayJ j) (cornJ j) (mcsN (j * 4 + 1)) = true := by
  unfold cstB at h
  simp only [Bool.and_eq_true, beq_iff_eq] at h
  exact ⟨h.1.1.1, h.1.1.2, h.2⟩
theorem cst_not (P : Nat → Int) (s : Int) (j : Nat) (h : s ≠ mcsN (j * 4 + 2)) : cstB P s j = false := by
  cases e : cstB P s j
  · rfl
  · exact absurd (cst_j P s j e).1 h
theorem castlesL_nodup (P : Nat → Int) (s : Nat) : (castlesL P (s : Int) 4).Nodup := by
  by_cases e4 : s = 4
  · subst e4
    have h2 : cstB P ((4 : Nat) : Int) 2 = false := cst_not _ _ _ (by decide)
    have h3 : cstB P ((4 : Nat) : Int) 3 = false := cst_not _ _ _ (by decide)
    simp only [castlesL, h2, h3]
    cases cstB P ((4 : Nat) : Int) 0 <;> cases cstB P ((4 : Nat) : Int) 1 <;> decide
  · by_cases e6 : s = 60
    · subst e6
      have h2 : cstB P ((60 : Nat) : Int) 0 = false := cst_not _ _ _ (by decide)
      have h3 : cstB P ((60 : Nat) : Int) 1 = false := cst_not _ _ _ (by decide)
      simp only [castlesL, h2, h3]
      cases cstB P ((60 : Nat) : Int) 2 <;> cases cstB P ((60 : Nat) : Int) 3 <;> decide
    · have h0 : cstB P (s : Int) 0 = false := cst_not _ _ _ (by simp [mcsN]; omega)
      have h1 : cstB P (s : Int) 1 = false := cst_not _ _ _ (by simp [mcsN]; omega)
      have h2 : cstB P (s : Int) 2 = false := cst_not _ _ _ (by simp [mcsN]; omega)
      have h3 : cstB P (s : Int) 3 = false := cst_not _ _ _ (by simp [mcsN]; omega)
      simp [castlesL, h0, h1, h2, h3]
/-- a castling goes two files on, to a square on which nothing stands -/
theorem castlesL_to (P : Nat → Int) (s n : Nat) (h : (n : Int) ∈ castlesL P (s : Int) 4) : (fD s n = 2 ∨ fD s n = -2) ∧ emB P n = true := by
  obtain ⟨j, hj, hc, hx⟩ := castlesL_mem P _ _ _ h
  obtain ⟨h1, _, h3⟩ := cst_j P _ _ hc
  have hem : ∀ k, k < (wayJ j).length - 1 → emB P ((wayJ j).getD k 0).toNat = true := by
    unfold clrB at h3
    rw [Bool.and_eq_true, List.all_eq_true] at h3
    exact fun k hk => h3.1 k (List.mem_range.2 hk)
  rcases (show j = 0 ∨ j = 1 ∨ j = 2 ∨ j = 3 by omega) with rfl | rfl | rfl | rfl
  · obtain rfl : s = 4 := by simp [mcsN] at h1; omega
    obtain rfl : n = 6 := by rw [show stp ((4 : Nat) : Int) (2 * mcsN (0 * 4 + 3)) 0 = 6 by decide] at hx; omega
    exact ⟨by decide, hem 1 (by decide)⟩
  · obtain rfl : s = 4 := by simp [mcsN] at h1; omega
    obtain rfl : n = 2 := by rw [show stp ((4 : Nat) : Int) (2 * mcsN (1 * 4 + 3)) 0 = 2 by decide] at hx; omega
    exact ⟨by decide, hem 1 (by decide)⟩
  · obtain rfl : s = 60 := by simp [mcsN] at h1; omega
    obtain rfl : n = 62 := by rw [show stp ((60 : Nat) : Int) (2 * mcsN (2 * 4 + 3)) 0 = 62 by decide] at hx; omega
    exact ⟨by decide, hem 1 (by decide)⟩
  · obtain rfl : s = 60 := by simp [mcsN] at h1; omega
    obtain rfl : n = 58 := by rw [show stp ((60 : Nat) : Int) (2 * mcsN (3 * 4 + 3)) 0 = 58 by decide] at hx; omega
    exact ⟨by decide, hem 1 (by decide)⟩
/-- a piece goes there -/
def goB (P : Nat → Int) (s t : Nat) : Bool :=
  if P (2 * s) = 1 then (aheadL P s).contains (t : Int) || (attR P s t && slantB P t)
  else (attR P s t && !mownB P t) || (P (2 * s) == 6 && (castlesL P (s : Int) 4).contains (t : Int))
theorem goals_up (P : Nat → Int) (s : Nat) (hs : s < 64) : risen (goalsL P s) = upList (goB P s) 64 := by
  have hr := goalsL_range P s
  have nat : ∀ x : Int, x ∈ goalsL P s → ∃ n : Nat, x = (n : Int) ∧ n < 64 := fun x hx => ⟨x.toNat, by have := hr x hx; omega, by have := hr x hx; omega⟩
  refine risen_up _ _ ?_ (fun x hx => (sq_iff x).2 (hr x hx)) fun n hn => ?_
  · unfold goalsL at nat ⊢
    split
    · rename_i h1
      rw [if_pos h1] at nat
      refine List.nodup_append.2 ⟨aheadL_nodup P s, (fromL_nodup P _).filter _, fun a ha b hb e => ?_⟩
      subst e
      obtain ⟨n, rfl, hn⟩ := nat _ (List.mem_append.2 (.inl ha))
      have h2 := (aheadL_mem P s _ ha).2
      have h3 := (slantL_mem P s n hs hn).1 hb
      rw [Bool.and_eq_true] at h3
      have h4 := attR_pawn P s n h1 h3.1
      have := onN_or P
      omega
    · rename_i h1
      rw [if_neg h1] at nat
      split
      · rename_i h6
        rw [if_pos h6] at nat
        refine List.nodup_append.2 ⟨(fromL_nodup P _).filter _, castlesL_nodup P s, fun a ha b hb e => ?_⟩
        subst e
        obtain ⟨n, rfl, hn⟩ := nat _ (List.mem_append.2 (.inl ha))
        have h2 := (castlesL_to P s n hb).1
        have h3 := (freeL_mem P s n hs hn).1 ha
        rw [Bool.and_eq_true] at h3
        have h4 := attR_king P s n h6 h3.1
        omega
      · exact (fromL_nodup P _).filter _
  · unfold goalsL goB
    split
    · rw [List.mem_append, slantL_mem P s n hs hn, Bool.or_eq_true, List.contains_iff_mem]
    · split
      · rename_i h6
        rw [List.mem_append, freeL_mem P s n hs hn, Bool.or_eq_true, h6]
        simp
      · rename_i h6
        rw [freeL_mem P s n hs hn, Bool.or_eq_true, show (P (2 * s) == 6) = false by simp [h6]]
        simp
theorem movesL_up (P : Nat → Int) (s : Nat) (hs : s < 64) : movesL P s = putL P s (upList (goB P s) 64) := by unfold movesL; rw [goals_up P s hs]
theorem allM_up (P : Nat → Int) : allM P = (upList (ownB P) 64).flatMap fun x => putL P x.toNat (upList (goB P x.toNat) 64) := by
  unfold allM flatM
  simp only [List.flatMap_def]
  refine congrArg List.flatten (List.map_congr_left fun x hx => ?_)
  obtain ⟨i, hi, _, rfl⟩ := (upList_mem _ _ _).1 hx
  exact movesL_up P _ (by simpa using hi)
end Go.Proofs.YtkncfeijlmomaaaGreatDoor

namespace Go.Proofs.YtkncfeijlmomaaaGreatDoor
open Go.RowKit Go.Sort
set_option linter.unusedSimpArgs false
set_option linter.unusedVariables false

/-- the squares of a position are loaded, in a region that does not draw -/
theorem wpList_sqs {ops : Array Oper} {rest : List Oper} {op : Oper} {a : Act} {w : World} {Q : Exit → Act → World → Prop} (hw : Region.wanted op (yielded ops a.tmps) = true) (x : Operand) (ho : op.op = .load 26 x)
    (b : Nat) (P : Nat → Int) (Z : Array Value) (hZ : Z = (nums P 0 128).toArray) (hx : a.eval x = .pointer (some ⟨b, 0, none⟩)) (hc : PB w b P) (h : wpList Tryz.prog ops Q rest (a.put op.dst (.agg Z)) w) : wpList Tryz.prog ops Q (op :: rest) a w := by
  subst hZ
  exact BigFrame.wpList_want hw fun _ hK => wp_load_mid 26 x ho b 0 hx (nums P 0 128) _ hc.squares Tryz.underlying26 rfl (by rw [infoSqs, nums_len]) (hK _ _ h)
theorem index_two (x y : Int) (j : Nat) (hj : j < 2) (w : World) : (part 3 #[.int .i64 x, .int .i64 y] j).run Tryz.prog w = .ok (.int .i64 (if j = 0 then x else y)) w := by
  rcases (show j = 0 ∨ j = 1 by omega) with rfl | rfl <;> simp [part, isAgg, run_underlying Tryz.underlying3]
theorem infoInt1 : (Tryz.prog.info? 3).map (·.size) = some 1 := by kernel_rfl
theorem equal_two (x y u v : Int) (n : Nat) (w : World) : (Op.equalIn (n + 2) 160 (.agg #[.int .i64 x, .int .i64 y]) (.agg #[.int .i64 u, .int .i64 v])).run Tryz.prog w = .ok (x == u && y == v) w := by
  have e1 : ∀ a b : Int, (Op.equalIn (n + 1) 3 (.int .i64 a) (.int .i64 b)).run Tryz.prog w = .ok (a == b) w := fun a b => run_equalIn_int w n 3 .i64 .i64 a b Tryz.underlying3
  rw [Op.equalIn]
  simp only [Sem.run_bind, run_underlying Tryz.underlying160, Result.andThen_ok, size_of_info infoInt1, Std.Legacy.Range.forIn_eq_forIn_range', Std.Legacy.Range.size, Nat.sub_zero, Nat.add_sub_cancel, Nat.div_one]
  have h0 := index_two x y 0 (by omega) w
  have h1 := index_two x y 1 (by omega) w
  have g0 := index_two u v 0 (by omega) w
  have g1 := index_two u v 1 (by omega) w
  simp only [if_true, show ¬ (1 = 0) by omega, if_false] at h0 h1 g0 g1
  cases hx : x == u <;> cases hy : y == v <;> simp [List.range', h0, h1, g0, g1, e1, hx, hy]
@[go_sem high] theorem eql_two (x y u v : Int) (w : World) : (binOp .eql 160 (.agg #[.int .i64 x, .int .i64 y]) (.agg #[.int .i64 u, .int .i64 v])).run Tryz.prog w = .ok (.bool (x == u && y == v)) w := by
  have e := equal_two x y u v 9998 w
  rw [run_eql_struct, e]; rfl
/-- what stands in the checker's walk: the position, the count of kings -/
structure PKb (w W : World) (blk : Nat) (P : Nat → Int) (j : Nat) : Prop where
  p : PB W blk P
  x : W.heap[w.heap.size]? = some (.cells #[.int .i64 (cnt P 0 j : Nat), .int .i64 (cnt P 1 j : Nat)] 160 (0, 0))
  b : Below w.heap.size w W
  s : w.heap.size + 1 ≤ W.heap.size
  n : blk < w.heap.size
theorem PKb.go {w W W' : World} {b : Nat} {P : Nat → Int} {j : Nat} (h : PKb w W b P j) (g : Below W.heap.size W W') : PKb w W' b P j :=
  ⟨h.p.go g, sl_go h.x g, h.b.trans (g.mono h.b.size), Nat.le_trans h.s g.size, h.n⟩
theorem PKb.alloc {w W : World} {b : Nat} {P : Nat → Int} {j : Nat} (h : PKb w W b P j) (o : Obj) : PKb w (W.alloc o) b P j := h.go (below_new _)
theorem PKb.same {w W : World} {b : Nat} {P : Nat → Int} {j : Nat} (h : PKb w W b P j) (h0 : cnt P 0 (j + 1) = cnt P 0 j) (h1 : cnt P 1 (j + 1) = cnt P 1 j) : PKb w W b P (j + 1) :=
  ⟨h.p, by rw [h0, h1]; exact h.x, h.b, h.s, h.n⟩
theorem PKb.up0 {w W : World} {b : Nat} {P : Nat → Int} {j : Nat} (h : PKb w W b P j) (h0 : cnt P 0 (j + 1) = cnt P 0 j + 1) (h1 : cnt P 1 (j + 1) = cnt P 1 j) : PKb w (W.setCell ⟨w.heap.size, 0, none⟩ (.int .i64 ((cnt P 0 j : Nat) + 1))) b P (j + 1) :=
  ⟨h.p.other (by have := h.n; omega) _ _, by have := Go.heap_setCell_same W (w.heap.size) 0 _ _ (.int .i64 ((cnt P 0 j : Nat) + 1)) h.x; rw [h0, h1]; exact this, h.b.setCell (p := ⟨w.heap.size, 0, none⟩) (by simp) _, by rw [World.size_setCell]; exact h.s, h.n⟩
theorem PKb.up1 {w W : World} {b : Nat} {P : Nat → Int} {j : Nat} (h : PKb w W b P j) (h0 : cnt P 0 (j + 1) = cnt P 0 j) (h1 : cnt P 1 (j + 1) = cnt P 1 j + 1) : PKb w (W.setCell ⟨w.heap.size, 1, none⟩ (.int .i64 ((cnt P 1 j : Nat) + 1))) b P (j + 1) :=
  ⟨h.p.other (by have := h.n; omega) _ _, by have := Go.heap_setCell_same W (w.heap.size) 1 _ _ (.int .i64 ((cnt P 1 j : Nat) + 1)) h.x; rw [h0, h1]; exact this, h.b.setCell (p := ⟨w.heap.size, 1, none⟩) (by simp) _, by rw [World.size_setCell]; exact h.s, h.n⟩
theorem one_eq (n : Nat) : ((n : Int) == 1) = (n == 1) := by
  rw [Bool.eq_iff_iff]; simp; omega
theorem on_end (j : Nat) (hj : j < 64) : (sR (j : Int) == 0 || sR (j : Int) == 7) = (decide (j < 8) || decide (56 ≤ j)) := by
  have hs : sR (j : Int) = (j : Int) / 8 := by unfold sR; rw [if_pos ((sq_iff _).2 (by omega))]
  rw [hs]
  by_cases h1 : j < 8
  · have : (j : Int) / 8 = 0 := by omega
    rw [this]; simp [h1]
  · by_cases h2 : 56 ≤ j
    · have : (j : Int) / 8 = 7 := by omega
      rw [this]; simp [h2]
    · have h3 : ¬ (j : Int) / 8 = 0 := by omega
      have h4 : ¬ (j : Int) / 8 = 7 := by omega
      simp [h1, h2, h3, h4]
set_option maxHeartbeats 2000000 in
set_option maxRecDepth 100000 in
theorem pieces_any (b : Nat) (P : Nat → Int) (w : World) (hp : PB w b P) :
    Calls Tryz.prog 149 #[.pointer (some ⟨b, 0, none⟩)] w fun e w' => e = .returned (.bool (piecesB P)) ∧ Below w.heap.size w w' := by
  have HK0 := Lib.hid (show PKb w (w.alloc (.cells #[.int .i64 0, .int .i64 0] 160)) b P 0 from ⟨hp.alloc _, sl_at rfl, below_new _, by simp, hp.lt⟩)
  obtain ⟨Z, hZ⟩ : ∃ Z, Z = (nums P 0 128).toArray := ⟨_, rfl⟩
  have HIX := Lib.hid (show ∀ (j : Nat) (hj : j < 64) (W : World), (Instr.index 26 (.agg Z) (.int .i64 (j : Int))).run Tryz.prog W = .ok (.agg #[.int .i64 (P (j * 2)), .int .i64 (P (j * 2 + 1))]) W from fun j hj W => by
    rw [Nat.mul_comm, hZ]; exact index_sqs P j hj W)
  have HZ := Lib.hid hZ
  clear hZ hp
  go_enter Tryz.func149, Tryz.ntmps149
  go_upto_region 2 with (fail)
  refine forget_B (fun W => PKb w W b P 0) HK0.out ?_
  clear HK0
  intro W h1
  have H1 := Lib.hid h1
  clear h1
  go_wp2_with (refine wpList_sqs (by rfl) _ (by rfl) b P Z HZ.out (by rfl) H1.out.p ?_)
  go_loopw [11] (fun i wr => ∃ j : Nat, j ≤ 64 ∧ i = .int .i64 (j : Int) ∧ PKb w wr b P j ∧ okS P j = true) (fun i _ => 64 - (intOf i).toNat)
  case atStart => exact ⟨0, Nat.zero_le _, rfl, H1.out, rfl⟩
  case round =>
    clear H1
    obtain ⟨j, hj, rfl, h1, h2⟩ := hrel
    have H1 := Lib.hid h1
    have H2 := Lib.hid h2
    clear h1 h2
    by_cases hlt : j < 64
    · have hix := HIX.out j hlt
      have hbd : badP P j = (!(pe (P (2 * j)) (P (2 * j + 1)) 0 0) && (!(mayB (P (2 * j)) (P (2 * j + 1))) || (P (2 * j) == 1 && (decide (j < 8) || decide (56 ≤ j))))) := rfl
      have hc0 : cnt P 0 (j + 1) = cnt P 0 j + if pe (P (2 * j)) (P (2 * j + 1)) 6 0 then 1 else 0 := rfl
      have hc1 : cnt P 1 (j + 1) = cnt P 1 j + if pe (P (2 * j)) (P (2 * j + 1)) 6 1 then 1 else 0 := rfl
      obtain ⟨k, hk⟩ : ∃ k, P (j * 2) = k := ⟨_, rfl⟩
      obtain ⟨d, hd⟩ : ∃ d, P (j * 2 + 1) = d := ⟨_, rfl⟩
      rw [Nat.mul_comm 2 j, hk, hd] at hbd hc0 hc1
      rw [hk, hd] at hix
      have HB := Lib.hid hbd
      have HC0 := Lib.hid hc0
      have HC1 := Lib.hid hc1
      have HON := Lib.hid (on_end j hlt)
      clear hk hd hbd hc0 hc1
      have hcl0 := cnt_le P 0 j
      have hcl1 := cnt_le P 1 j
      go_upto_region 5 with (fail)
      refine forget_B (fun W => PKb w W b P j ∧ W.heap[wr.heap.size]? = some (.cells #[.int .i64 k, .int .i64 d] 25 (0, 0)) ∧ w.heap.size + 1 ≤ wr.heap.size) ⟨H1.out.alloc _, sl_at rfl, H1.out.s⟩ ?_
      clear H1 hix
      rintro W3 ⟨h1, h2, h3⟩
      obtain ⟨q1, q2, qf, qz⟩ := row2 h2
      have H1 := Lib.hid h1
      have HQ := Lib.hid h2
      have HZZ := Lib.hid h3
      clear h1 h2 h3
      obtain ⟨a, ha⟩ : ∃ a, pe k d 0 0 = a := ⟨_, rfl⟩
      have HA := Lib.hid ha
      obtain ⟨m, hm⟩ : ∃ m, mayB k d = m := ⟨_, rfl⟩
      have HBM := Lib.hid hm
      have hsp := sq_parts k d j
      rw [ha, hm] at hsp
      clear ha hm
      go_wp2_with fail
      refine (none_any k d _).mono ?_
      rw [HA.out]
      rintro e w4 ⟨rfl, hb4⟩
      clear q1 q2 qf qz
      have h1 := H1.out.go hb4
      have h2 := sl_go HQ.out hb4
      clear H1 HQ hb4
      obtain ⟨q1, q2, qf, qz⟩ := row2 h2
      have H1 := Lib.hid h1
      have HQ := Lib.hid h2
      clear h1 h2
      rcases hsp with ⟨rfl, rfl⟩ | ⟨rfl, rfl⟩ | ⟨rfl, rfl, hsp⟩
      · have ha : a = true := by rw [← HA.out]; rfl
        subst ha
        have HS := Lib.hid (show okS P (j + 1) = true by show (okS P j && !(badP P j)) = true; rw [H2.out, HB.out]; rfl)
        have HXX := Lib.hid (H1.out.same HC0.out HC1.out)
        go_wp2
        go_roundw
        case rel => exact ⟨j + 1, by omega, by go_num, HXX.out, HS.out⟩
        case measure => simp [intOf]; omega
      · have HBD := Lib.hid (show badP P j = true by rw [HB.out, HA.out, HBM.out]; rfl)
        have HF := Lib.hid (show piecesB P = false by unfold piecesB; rw [okS_false P hlt HBD.out]; rfl)
        go_wp2_with fail
        refine (mayBe_any k d _).mono ?_
        rw [HBM.out]
        rintro e w5 ⟨rfl, hb5⟩
        go_wp2
        go_ret
        exact ⟨q_b HF.out.symm, H1.out.b.trans (hb5.mono H1.out.b.size)⟩
      · go_wp2_with fail
        refine (mayBe_any k d _).mono ?_
        rw [HBM.out]
        rintro e w5 ⟨rfl, hb5⟩
        clear q1 q2 qf qz
        have h1 := H1.out.go hb5
        have h2 := sl_go HQ.out hb5
        clear H1 HQ hb5
        obtain ⟨q1, q2, qf, qz⟩ := row2 h2
        have H1 := Lib.hid h1
        have HQ := Lib.hid h2
        clear h1 h2
        obtain ⟨x1, x2, xf, xz⟩ := row2 H1.out.x
        rcases hsp with ⟨rfl, hj8⟩ | ⟨rfl, rfl | rfl⟩ | ⟨hn1, hn6⟩
        · obtain ⟨eb, heb⟩ : ∃ e, (decide (j < 8) || decide (56 ≤ j)) = e := ⟨_, rfl⟩
          rw [heb] at HON HB
          have HBD := Lib.hid (show badP P j = eb by rw [HB.out, HA.out, HBM.out]; simp)
          clear heb hj8
          go_wp2_with fail
          refine (onEnd_any (j : Int) _).mono ?_
          rw [HON.out]
          rintro e w6 ⟨rfl, hb6⟩
          clear q1 q2 qf qz x1 x2 xf xz
          have h1 := H1.out.go hb6
          have h2 := sl_go HQ.out hb6
          clear H1 HQ hb6
          obtain ⟨q1, q2, qf, qz⟩ := row2 h2
          have H1 := Lib.hid h1
          clear h1 h2
          cases eb
          · have HS := Lib.hid (show okS P (j + 1) = true by show (okS P j && !(badP P j)) = true; rw [H2.out, HBD.out]; rfl)
            have HXX := Lib.hid (H1.out.same HC0.out HC1.out)
            go_wp2
            go_roundw
            case rel => exact ⟨j + 1, by omega, by go_num, HXX.out, HS.out⟩
            case measure => simp [intOf]; omega
          · have HF := Lib.hid (show piecesB P = false by unfold piecesB; rw [okS_false P hlt HBD.out]; rfl)
            go_wp2
            go_ret
            exact ⟨q_b HF.out.symm, H1.out.b⟩
        · have HBD := Lib.hid (show badP P j = false by rw [HB.out, HA.out, HBM.out]; rfl)
          have HS := Lib.hid (show okS P (j + 1) = true by show (okS P j && !(badP P j)) = true; rw [H2.out, HBD.out]; rfl)
          have HXX := Lib.hid (H1.out.up0 HC0.out HC1.out)
          generalize cnt P 0 j = n0 at *
          go_wp2
          go_roundw
          case rel => exact ⟨j + 1, by omega, by go_num, HXX.out, HS.out⟩
          case measure => simp [intOf]; omega
        · have HBD := Lib.hid (show badP P j = false by rw [HB.out, HA.out, HBM.out]; rfl)
          have HS := Lib.hid (show okS P (j + 1) = true by show (okS P j && !(badP P j)) = true; rw [H2.out, HBD.out]; rfl)
          have HXX := Lib.hid (H1.out.up1 HC0.out HC1.out)
          generalize cnt P 1 j = n1 at *
          go_wp2
          go_roundw
          case rel => exact ⟨j + 1, by omega, by go_num, HXX.out, HS.out⟩
          case measure => simp [intOf]; omega
        · have HBD := Lib.hid (show badP P j = false by rw [HB.out, HA.out, HBM.out, hn1]; rfl)
          have HS := Lib.hid (show okS P (j + 1) = true by show (okS P j && !(badP P j)) = true; rw [H2.out, HBD.out]; rfl)
          have hk6 : ∀ x, pe k d 6 x = false := fun x => by unfold pe; rw [hn6]; rfl
          have HXX := Lib.hid (H1.out.same (by rw [HC0.out, hk6]; rfl) (by rw [HC1.out, hk6]; rfl))
          clear hk6
          go_wp2
          go_roundw
          case rel => exact ⟨j + 1, by omega, by go_num, HXX.out, HS.out⟩
          case measure => simp [intOf]; omega
    · obtain rfl : j = 64 := by omega
      have hpb : piecesB P = ((cnt P 0 64 == 1) && (cnt P 1 64 == 1) && sideB (P 128)) := by unfold piecesB; rw [H2.out]; simp
      obtain ⟨x1, x2, xf, xz⟩ := row2 H1.out.x
      have e3 := H1.out.p.cell 128 (by omega)
      have c0 := cnt_le P 0 64
      have c1 := cnt_le P 1 64
      generalize cnt P 0 64 = n0 at *
      generalize cnt P 1 64 = n1 at *
      generalize P 128 = sd at *
      have HPB := Lib.hid hpb
      clear hpb
      obtain ⟨q0, hq0⟩ : ∃ q, ((n0 : Int) == 1) = q := ⟨_, rfl⟩
      obtain ⟨q1, hq1⟩ : ∃ q, ((n1 : Int) == 1) = q := ⟨_, rfl⟩
      have HQ0 := Lib.hid (show (n0 == 1) = q0 by rw [← hq0]; exact (one_eq n0).symm)
      have HQ1 := Lib.hid (show (n1 == 1) = q1 by rw [← hq1]; exact (one_eq n1).symm)
      obtain ⟨sb, hsb⟩ : ∃ s, sideB sd = s := ⟨_, rfl⟩
      have HSB := Lib.hid hsb
      clear hsb
      cases q0
      · go_wp2
        go_ret
        exact ⟨q_b (by rw [HPB.out, HQ0.out]; rfl), H1.out.b⟩
      · cases q1
        · go_wp2
          go_ret
          exact ⟨q_b (by rw [HPB.out, HQ0.out, HQ1.out]; rfl), H1.out.b⟩
        · go_wp2_with fail
          refine (isSide_any sd _).mono ?_
          rw [HSB.out]
          rintro e w6 ⟨rfl, rfl⟩
          go_wp2
          go_ret
          exact ⟨q_b (by rw [HPB.out, HQ0.out, HQ1.out, HSB.out]; simp), H1.out.b⟩
end Go.Proofs.YtkncfeijlmomaaaGreatDoor

namespace Go.Proofs.YtkncfeijlmomaaaGreatDoor
open Go.RowKit Go.Sort
set_option linter.unusedSimpArgs false
set_option linter.unusedVariables false

def casN (i : Nat) : Int := [1, 0, 4, 7, 2, 0, 4, 0, 4, 1, 60, 63, 8, 1, 60, 56].getD i 0
structure GB (B : Nat) (w : World) : Prop where
  o : 0 < B
  c : 1 < B
  off : ∀ i, i < 8 → w.cell? ⟨0, i, none⟩ = some (.int .i64 (offN i))
  cas : ∀ i, i < 16 → w.cell? ⟨1, i, none⟩ = some (.int .i64 (casN i))
theorem GB.below {B : Nat} {w w' : World} (h : GB B w) (g : Below B w w') : GB B w' :=
  ⟨h.o, h.c, fun i hi => by rw [g.cell (p := ⟨_, i, none⟩) h.o]; exact h.off i hi, fun i hi => by rw [g.cell (p := ⟨_, i, none⟩) h.c]; exact h.cas i hi⟩
theorem GB.mono {B B' : Nat} {w : World} (h : GB B w) (hb : B ≤ B') : GB B' w :=
  ⟨Nat.lt_of_lt_of_le h.o hb, Nat.lt_of_lt_of_le h.c hb, h.off, h.cas⟩
theorem GB.casR {B : Nat} {w : World} (h : GB B w) : w.rangeAt 1 0 (nums casN 0 16) := fun j v hv => by
  have hj : j < 16 := by have := (List.getElem?_eq_some_iff.1 hv).1; rwa [nums_len] at this
  rw [nums_get _ _ _ _ hj, Nat.zero_add] at hv
  rw [Nat.zero_add, h.cas j hj, hv]
theorem infoCas : (Tryz.prog.info? 179).map (·.size) = some 4 := by kernel_rfl
theorem infoCas4 : (Tryz.prog.info? 180).map (·.size) = some 16 := by kernel_rfl
theorem nums_four (P : Nat → Int) (a : Nat) : (nums P a 4).toArray = #[.int .i64 (P a), .int .i64 (P (a + 1)), .int .i64 (P (a + 2)), .int .i64 (P (a + 3))] := rfl
theorem index_cas (P : Nat → Int) (j : Nat) (hj : j < 4) (w : World) : (Instr.index 180 (.agg (nums P 0 16).toArray) (.int .i64 (j : Int))).run Tryz.prog w = .ok (.agg #[.int .i64 (P (j * 4)), .int .i64 (P (j * 4 + 1)), .int .i64 (P (j * 4 + 2)), .int .i64 (P (j * 4 + 3))]) w := by
  have px : (Go.part 179 (nums P 0 16).toArray (j * 4)).run Tryz.prog w = .ok (.agg #[.int .i64 (P (j * 4)), .int .i64 (P (j * 4 + 1)), .int .i64 (P (j * 4 + 2)), .int .i64 (P (j * 4 + 3))]) w := by
    simp only [Go.part, isAgg, Sem.run_bind, run_underlying Tryz.underlying179, Result.andThen_ok, Sem.run_pure, if_true, size_of_info infoCas, nums_cut P 0 16 (j * 4) (j * 4 + 4) (by omega) (by omega)]
    rw [show j * 4 + 4 - j * 4 = 4 by omega, nums_four, Nat.zero_add]
  have hr : 0 ≤ (j : Int) ∧ (j : Int) < (4 : Nat) := by omega
  simp only [Instr.index, asIntOf, Sem.run_bind, Sem.run_pure, Result.andThen_ok, run_underlying Tryz.underlying180, hr, and_self, if_true, size_of_info infoCas, Int.toNat_natCast, px]
/-- the castlings, one by one -/
def condC (P : Nat → Int) (j : Nat) : Bool := bits .and .i64 (P 129) (casN (j * 4)) == 0 || homeB P (casN (j * 4 + 1)) (casN (j * 4 + 2)).toNat (casN (j * 4 + 3)).toNat
def okC (P : Nat → Int) : Nat → Bool
  | 0 => true
  | n + 1 => okC P n && condC P n
theorem okC_four (P : Nat → Int) (h0 : 0 ≤ P 129) (h1 : P 129 ≤ 15) : castB P = okC P 4 := by
  have hc : casB (P 129) = true := by unfold casB; simp [h0, h1]
  unfold castB
  rw [hc]
  simp only [okC, condC, casN, Bool.true_and, Nat.zero_mul, Nat.one_mul, Nat.zero_add, List.getD_cons_zero, List.getD_cons_succ]
  generalize P 129 = c at *
  have hcc : c = 0 ∨ c = 1 ∨ c = 2 ∨ c = 3 ∨ c = 4 ∨ c = 5 ∨ c = 6 ∨ c = 7 ∨ c = 8 ∨ c = 9 ∨ c = 10 ∨ c = 11 ∨ c = 12 ∨ c = 13 ∨ c = 14 ∨ c = 15 := by omega
  rcases hcc with rfl | rfl | rfl | rfl | rfl | rfl | rfl | rfl | rfl | rfl | rfl | rfl | rfl | rfl | rfl | rfl <;> rfl
theorem okC_false (P : Nat → Int) {n m : Nat} (h : m < n) (hs : condC P m = false) : okC P n = false := by
  induction n with
  | zero => omega
  | succ n ih =>
    show (okC P n && condC P n) = false
    rcases Nat.lt_succ_iff_lt_or_eq.1 h with h | rfl
    · rw [ih h]; rfl
    · rw [hs, Bool.and_false]
theorem casN_sq (j : Nat) (hj : j < 4) : ∃ k r : Nat, casN (j * 4 + 2) = (k : Int) ∧ casN (j * 4 + 3) = (r : Int) ∧ k < 64 ∧ r < 64 := by
  rcases (show j = 0 ∨ j = 1 ∨ j = 2 ∨ j = 3 by omega) with rfl | rfl | rfl | rfl
  · exact ⟨4, 7, rfl, rfl, by omega, by omega⟩
  · exact ⟨4, 0, rfl, rfl, by omega, by omega⟩
  · exact ⟨60, 63, rfl, rfl, by omega, by omega⟩
  · exact ⟨60, 56, rfl, rfl, by omega, by omega⟩
/-- a row of numbers is loaded, in a region that does not draw -/
theorem wpList_cas {ops : Array Oper} {rest : List Oper} {op : Oper} {a : Act} {w : World} {Q : Exit → Act → World → Prop} (hw : Region.wanted op (yielded ops a.tmps) = true) (x : Operand) (ho : op.op = .load 180 x)
    (Z : Array Value) (hZ : Z = (nums casN 0 16).toArray) (hx : a.eval x = .pointer (some ⟨1, 0, none⟩)) (B : Nat) (hc : GB B w) (h : wpList Tryz.prog ops Q rest (a.put op.dst (.agg Z)) w) : wpList Tryz.prog ops Q (op :: rest) a w := by
  subst hZ
  exact BigFrame.wpList_want hw fun _ hK => wp_load_mid 180 x ho _ 0 hx (nums casN 0 16) _ hc.casR Tryz.underlying180 rfl (by rw [infoCas4, nums_len]) (hK _ _ h)
theorem row4z {W : World} {H : Nat} {a b c d : Value} {t : TypeId} (h : W.heap[H]? = some (.cells #[a, b, c, d] t (0, 0))) : W.cell? ⟨H, 0, none⟩ = some a := by rw [cell_of_row W H 0 _ _ (0, 0) h]; rfl
set_option maxHeartbeats 2000000 in
set_option maxRecDepth 100000 in
theorem castlings_any (b : Nat) (P : Nat → Int) (w : World) (hp : PB w b P) (B : Nat) (hg : GB B w) (hB : B ≤ w.heap.size) :
    Calls Tryz.prog 150 #[.pointer (some ⟨b, 0, none⟩)] w fun e w' => e = .returned (.bool (castB P)) ∧ Below w.heap.size w w' := by
  obtain ⟨Z, hZ⟩ : ∃ Z, Z = (nums casN 0 16).toArray := ⟨_, rfl⟩
  have HIX := Lib.hid (show ∀ (j : Nat) (hj : j < 4) (W : World), (Instr.index 180 (.agg Z) (.int .i64 (j : Int))).run Tryz.prog W = .ok (.agg #[.int .i64 (casN (j * 4)), .int .i64 (casN (j * 4 + 1)), .int .i64 (casN (j * 4 + 2)), .int .i64 (casN (j * 4 + 3))]) W from fun j hj W => by
    rw [hZ]; exact index_cas casN j hj W)
  have HZ := Lib.hid hZ
  have HP := Lib.hid hp
  have HG := Lib.hid hg
  have hbl := hp.lt
  have e1 := hp.cell 129 (by omega)
  have hov := okC_four P
  have hcf : casB (P 129) = false → castB P = false := fun h => by unfold castB; rw [h]; rfl
  have HCF := Lib.hid hcf
  have HOV := Lib.hid hov
  clear hZ hp hg hov hcf
  obtain ⟨c, hc⟩ : ∃ c, P 129 = c := ⟨_, rfl⟩
  rw [hc] at e1 HCF HOV
  have HC := Lib.hid hc
  clear hc
  obtain ⟨v, hv⟩ : ∃ v, casB c = v := ⟨_, rfl⟩
  have HV := Lib.hid hv
  cases v
  · have HF := Lib.hid (HCF.out hv)
    clear hv
    go_enter Tryz.func150, Tryz.ntmps150
    go_wp2_with fail
    refine (isCastle_any c _).mono ?_
    rw [HV.out]
    rintro e w1 ⟨rfl, rfl⟩
    go_wp2
    go_ret
    exact ⟨q_b HF.out.symm, Below.refl _ _⟩
  · have hc01 : 0 ≤ c ∧ c ≤ 15 := by unfold casB at hv; simpa using hv
    have HF := Lib.hid (HOV.out hc01.1 hc01.2)
    clear hv
    go_enter Tryz.func150, Tryz.ntmps150
    go_wp2_with fail
    refine (isCastle_any c _).mono ?_
    rw [HV.out]
    rintro e w1 ⟨rfl, rfl⟩
    clear e1
    go_wp2_with (refine wpList_cas (by rfl) _ (by rfl) Z HZ.out (by rfl) B HG.out ?_)
    go_loopw [13] (fun i wr => ∃ j : Nat, j ≤ 4 ∧ i = .int .i64 (j : Int) ∧ Below w.heap.size w wr ∧ okC P j = true) (fun i _ => 4 - (intOf i).toNat)
    case atStart => exact ⟨0, Nat.zero_le _, rfl, Below.refl _ _, rfl⟩
    case round =>
      obtain ⟨j, hj, rfl, h1, h2⟩ := hrel
      have H1 := Lib.hid h1
      have H2 := Lib.hid h2
      clear h1 h2
      by_cases hlt : j < 4
      · have hix := HIX.out j hlt
        obtain ⟨k, r, hk, hr, hk6, hr6⟩ := casN_sq j hlt
        have hcd : condC P j = (bits .and .i64 c (casN (j * 4)) == 0 || homeB P (casN (j * 4 + 1)) k r) := by
          unfold condC; rw [HC.out, hk, hr]; rfl
        rw [hk, hr] at hix
        obtain ⟨x, hx⟩ : ∃ x, bits .and .i64 c (casN (j * 4)) = x := ⟨_, rfl⟩
        rw [hx] at hcd
        generalize casN (j * 4) = y at hix hx
        generalize casN (j * 4 + 1) = d at hix hcd
        obtain ⟨hm, hhm⟩ : ∃ h, homeB P d k r = h := ⟨_, rfl⟩
        rw [hhm] at hcd
        have HHM := Lib.hid hhm
        have HCD := Lib.hid hcd
        clear hhm hcd hk hr
        go_upto_region 6 with (fail)
        refine forget_B (fun W => PB W b P ∧ Below w.heap.size w W ∧ W.heap[wr.heap.size]? = some (.cells #[.int .i64 y, .int .i64 d, .int .i64 (k : Int), .int .i64 (r : Int)] 179 (0, 0))) ⟨(HP.out.go H1.out).alloc _, H1.out.alloc H1.out.size _, sl_at rfl⟩ ?_
        rintro W3 ⟨hp3, hb3, hx3⟩
        have x1 := cell_regrown (hp3.cell 129 (by omega))
        rw [HC.out] at x1
        have v0 := cell_regrown (row4z hx3)
        have v1 := cell_regrown (row4 hx3).1
        have v2 := cell_regrown (row4 hx3).2.1
        have v3 := cell_regrown (row4 hx3).2.2
        have c1 : ∀ d' os, Calls Tryz.prog 172 #[.pointer (some ⟨b, 0, none⟩), .agg #[.int .i64 y, .int .i64 d, .int .i64 (k : Int), .int .i64 (r : Int)]] (grow (redrawn W3 d') os) fun e w'' => e = .returned (.bool hm) ∧ ∃ p : Regrown, w'' = grow (redrawn W3 p.d) p.os := fun d' os => by
          have := waits_any b P y d k r hk6 hr6 (grow (redrawn W3 d') os) (hp3.go (below_regrown W3 d' os))
          rw [HHM.out] at this
          exact Calls.regrown_of this
        have HB3 := Lib.hid hb3
        clear hp3 hb3 hx3 hix
        by_cases hx0 : x = 0
        · subst hx0
          have HS := Lib.hid (show okC P (j + 1) = true by show (okC P j && condC P j) = true; rw [H2.out, HCD.out]; rfl)
          refine wp_region_quiet_below (by kernel_rfl) (by kernel_rfl) ?_
          repeat (first | go_big_quiet_step (fail) | quiet_step (fail))
          refine wpQuiet_nil ?_
          rintro W4 ⟨q, rfl⟩
          go_wp2
          go_roundw
          case rel => exact ⟨j + 1, by omega, by go_num, HB3.out.trans ((below_regrown W3 q.d q.os).mono HB3.out.size), HS.out⟩
          case measure => simp [intOf]; omega
        · have hx1 : (x == 0) = false := by simp [hx0]
          have hx2 : (x != 0) = true := by simp [hx0]
          rw [hx1] at HCD
          cases hm
          · have HF2 := Lib.hid (show castB P = false by rw [HF.out]; exact okC_false P hlt (by rw [HCD.out]; rfl))
            clear hx1 hx0
            refine wp_region_quiet_below (by kernel_rfl) (by kernel_rfl) ?_
            repeat (first | go_big_quiet_step (exact c1 _ _) | quiet_step (exact c1 _ _))
            refine wpQuiet_nil ?_
            rintro W4 ⟨q, rfl⟩
            go_wp2
            go_ret
            exact ⟨q_b HF2.out.symm, HB3.out.trans ((below_regrown W3 q.d q.os).mono HB3.out.size)⟩
          · have HS := Lib.hid (show okC P (j + 1) = true by show (okC P j && condC P j) = true; rw [H2.out, HCD.out]; rfl)
            clear hx1 hx0
            refine wp_region_quiet_below (by kernel_rfl) (by kernel_rfl) ?_
            repeat (first | go_big_quiet_step (exact c1 _ _) | quiet_step (exact c1 _ _))
            refine wpQuiet_nil ?_
            rintro W4 ⟨q, rfl⟩
            go_wp2
            go_roundw
            case rel => exact ⟨j + 1, by omega, by go_num, HB3.out.trans ((below_regrown W3 q.d q.os).mono HB3.out.size), HS.out⟩
            case measure => simp [intOf]; omega
      · obtain rfl : j = 4 := by omega
        go_wp2
        go_ret
        exact ⟨q_b (by rw [HF.out, H2.out]), H1.out⟩
end Go.Proofs.YtkncfeijlmomaaaGreatDoor

namespace Go.Proofs.YtkncfeijlmomaaaGreatDoor
open Go.RowKit Go.Sort
set_option linter.unusedSimpArgs false
set_option linter.unusedVariables false

theorem infoLeap : (Tryz.prog.info? 183).map (·.size) = some 4 := by kernel_rfl
theorem leap0_any (w : World) :
    Calls Tryz.prog 173 #[.int .i64 0] w fun e w' => e = .returned (.agg #[.int .i64 5, .int .i64 (1), .int .i64 1, .int .i64 1]) ∧ Below w.heap.size w w' := by
  go_enter Tryz.func173, Tryz.ntmps173
  go_wp2
  refine bodyPost_ret (v := .agg #[.int .i64 5, .int .i64 (1), .int .i64 1, .int .i64 1]) ?_ rfl ⟨rfl, below_new _⟩
  exact results_cell_row (p := 2) (ty := 183) rfl _ _ w.heap.size 183 _ (0, 0) _ rfl (heap_alloc_new _ _) Tryz.underlying183 rfl infoLeap
theorem leap1_any (w : World) :
    Calls Tryz.prog 173 #[.int .i64 1] w fun e w' => e = .returned (.agg #[.int .i64 2, .int .i64 (-1), .int .i64 1, .int .i64 0]) ∧ Below w.heap.size w w' := by
  go_enter Tryz.func173, Tryz.ntmps173
  go_wp2
  refine bodyPost_ret (v := .agg #[.int .i64 2, .int .i64 (-1), .int .i64 1, .int .i64 0]) ?_ rfl ⟨rfl, below_new _⟩
  exact results_cell_row (p := 2) (ty := 183) rfl _ _ w.heap.size 183 _ (0, 0) _ rfl (heap_alloc_new _ _) Tryz.underlying183 rfl infoLeap
set_option maxHeartbeats 4000000 in
set_option maxRecDepth 100000 in
theorem over0_any (b : Nat) (P : Nat → Int) (w : World) (hp : PB w b P) (hs : P 128 = 0) :
    Calls Tryz.prog 151 #[.pointer (some ⟨b, 0, none⟩)] w fun e w' => e = .returned (.bool (overB P)) ∧ Below w.heap.size w w' := by
  have HP := Lib.hid hp
  have e1 := hp.cell 130 (by omega)
  have e2 := hp.cell 131 (by omega)
  have e3 := hp.cell 128 (by omega)
  have hbl := hp.lt
  rw [hs] at e3
  have hv : overB P = (P 130 == -1 || (sq (P 130) && P 131 == 0 && overC P (P 130).toNat 5 ((P 130).toNat + 8) ((P 130).toNat - 8) 1)) := by unfold overB; rw [hs]; rfl
  clear hp hs
  obtain ⟨o, hpo⟩ : ∃ o, P 130 = o := ⟨_, rfl⟩
  obtain ⟨hf, hph⟩ : ∃ o, P 131 = o := ⟨_, rfl⟩
  rw [hpo, hph] at hv
  rw [hpo] at e1
  rw [hph] at e2
  have HPO := Lib.hid hpo
  have HPH := Lib.hid hph
  clear hpo hph
  by_cases h0 : o = -1
  · subst h0
    have HV := Lib.hid (show overB P = true by rw [hv]; rfl)
    clear hv
    go_enter Tryz.func151, Tryz.ntmps151
    go_wp2
    go_ret
    exact ⟨q_b HV.out.symm, Below.refl _ _⟩
  · have hm : (o == -1) = false := by simp [h0]
    rw [hm, Bool.false_or] at hv
    obtain ⟨rk, hrk⟩ : ∃ r, sR o = r := ⟨_, rfl⟩
    have HRK := Lib.hid hrk
    have HV := Lib.hid hv
    clear hv hrk h0
    go_enter Tryz.func151, Tryz.ntmps151
    go_wp2_with fail
    refine (leap0_any _).mono ?_
    rintro e w1 ⟨rfl, hb1⟩
    go_upto_region 4 with (fail)
    refine forget_B (fun W => PB W b P ∧ Below w.heap.size w W ∧ W.heap[w1.heap.size]? = some (.cells #[.int .i64 5, .int .i64 (1), .int .i64 1, .int .i64 1] 183 (0, 0))) ⟨(HP.out.go hb1).alloc _, hb1.alloc hb1.size _, sl_at rfl⟩ ?_
    clear e1 e2 e3 HP hb1
    rintro W ⟨hp, hb, hx⟩
    have x1 := cell_regrown (hp.cell 130 (by omega))
    have x2 := cell_regrown (hp.cell 131 (by omega))
    rw [HPO.out] at x1
    rw [HPH.out] at x2
    have v0 := cell_regrown (row4z hx)
    have HP := Lib.hid hp
    have HB := Lib.hid hb
    have HX := Lib.hid hx
    clear hp hb hx
    have c1 := regrown_call (w := W) (rank_any o)
    rw [HRK.out] at c1
    by_cases hr : rk = 5
    · subst hr
      by_cases hh : hf = 0
      · subst hh
        refine wp_region_quiet_below (by kernel_rfl) (by kernel_rfl) ?_
        repeat (first | go_big_quiet_step (exact c1 _ _) | quiet_step (exact c1 _ _))
        refine wpQuiet_nil ?_
        rintro W4 ⟨q, rfl⟩
        have hsq : sq o = true := by
          have := HRK.out
          unfold sR at this
          cases h : sq o
          · rw [h] at this; simp at this
          · rfl
        obtain ⟨s0, s1⟩ := (sq_iff o).1 hsq
        obtain ⟨m, rfl⟩ : ∃ m : Nat, o = (m : Int) := ⟨o.toNat, by omega⟩
        have hq8 : m / 8 = 5 := by
          have := HRK.out
          unfold sR at this
          rw [if_pos hsq] at this
          omega
        have ha64 : m + 8 < 64 := by omega
        have hb64 : m - 8 < 64 := by omega
        have hv2 : overB P = (pe (P (2 * m)) (P (2 * m + 1)) 0 0 && pe (P (2 * (m + 8))) (P (2 * (m + 8) + 1)) 0 0 && pe (P (2 * (m - 8))) (P (2 * (m - 8) + 1)) 1 1) := by
          rw [HV.out, hsq, Int.toNat_natCast]; unfold overC; rw [hq8]; simp
        have hst : stp (m : Int) 0 (1) = ((m + 8 : Nat) : Int) := by
          unfold stp
          rw [if_pos (by rw [hsq, Bool.true_and]; exact (onB_iff _ _).2 (by omega))]
          omega
        have hst2 : stp (m : Int) 0 (-1) = ((m - 8 : Nat) : Int) := by
          unfold stp
          rw [if_pos (by rw [hsq, Bool.true_and]; exact (onB_iff _ _).2 (by omega))]
          omega
        clear hq8 x1 x2 v0 c1 HV HRK
        generalize m + 8 = a at *
        generalize m - 8 = b2 at *
        have HS1 := Lib.hid hst
        have HS2 := Lib.hid hst2
        clear hst hst2 hsq hm
        have b4 := below_regrown W q.d q.os
        have hp := HP.out.go b4
        have hx := sl_go HX.out b4
        have HB4 := Lib.hid (HB.out.trans (b4.mono HB.out.size))
        clear b4 HP HB HX
        generalize grow (redrawn W q.d) q.os = W4 at *
        have x1 := cell_regrown (hp.cell 130 (by omega))
        rw [HPO.out] at x1
        have v1 := cell_regrown (row4 hx).1
        have HP := Lib.hid hp
        have HX := Lib.hid hx
        clear hp hx
        have c1 := regrown_call (w := W4) (fun W => step_any (m : Int) 0 (1) W (by unfold I64; omega) (by unfold I64; omega))
        have c2 := regrown_call (w := W4) (fun W => step_any (m : Int) 0 (-1) W (by unfold I64; omega) (by unfold I64; omega))
        rw [HS1.out] at c1
        rw [HS2.out] at c2
        go_upto_region 6 with (fail)
        refine wp_region_quiet_below (by kernel_rfl) (by kernel_rfl) ?_
        iterate 8 (go_big_quiet_step (exact c1 _ _))
        repeat (go_big_quiet_step (exact c2 _ _))
        refine wpQuiet_nil ?_
        rintro W5 ⟨q, rfl⟩
        have b4 := below_regrown W4 q.d q.os
        have hp := HP.out.go b4
        have hx := sl_go HX.out b4
        have HB5 := Lib.hid (HB4.out.trans (b4.mono HB4.out.size))
        clear b4 HP HX HB4 x1 v1 c1 c2
        generalize grow (redrawn W4 q.d) q.os = W5 at *
        have x1 := cell_regrown (hp.cell 130 (by omega))
        rw [HPO.out] at x1
        have v2 := cell_regrown (row4 hx).2.1
        have v3 := cell_regrown (row4 hx).2.2
        have y1 := cell_regrown (hp.cell (m * 2) (by omega))
        have y2 := cell_regrown (hp.cell (m * 2 + 1) (by omega))
        have y3 := cell_regrown (hp.cell (a * 2) (by omega))
        have y4 := cell_regrown (hp.cell (a * 2 + 1) (by omega))
        have y5 := cell_regrown (hp.cell (b2 * 2) (by omega))
        have y6 := cell_regrown (hp.cell (b2 * 2 + 1) (by omega))
        have ga0 : (0 : Int) ≤ a := by omega
        have ga1 : (a : Int) < 64 := by omega
        have gb0 : (0 : Int) ≤ b2 := by omega
        have gb1 : (b2 : Int) < 64 := by omega
        clear hp hx
        rw [Nat.mul_comm 2 m, Nat.mul_comm 2 a, Nat.mul_comm 2 b2] at hv2
        obtain ⟨p1, hp1⟩ : ∃ p, pe (P (m * 2)) (P (m * 2 + 1)) 0 0 = p := ⟨_, rfl⟩
        obtain ⟨p2, hp2⟩ : ∃ p, pe (P (a * 2)) (P (a * 2 + 1)) 0 0 = p := ⟨_, rfl⟩
        obtain ⟨p3, hp3⟩ : ∃ p, pe (P (b2 * 2)) (P (b2 * 2 + 1)) 1 1 = p := ⟨_, rfl⟩
        have c1 := regrown_call (w := W5) (none_any (P (m * 2)) (P (m * 2 + 1)))
        have c2 := regrown_call (w := W5) (none_any (P (a * 2)) (P (a * 2 + 1)))
        rw [hp1] at c1
        rw [hp2] at c2
        rw [hp1, hp2, hp3] at hv2
        have HV := Lib.hid hv2
        clear hv2 hp1 hp2
        generalize P (m * 2) = k1 at *
        generalize P (m * 2 + 1) = d1 at *
        generalize P (a * 2) = k2 at *
        generalize P (a * 2 + 1) = d2 at *
        generalize P (b2 * 2) = k3 at *
        generalize P (b2 * 2 + 1) = d3 at *
        go_upto_region 7 with (fail)
        cases p1
        · refine wp_region_quiet_below (by kernel_rfl) (by kernel_rfl) ?_
          repeat (first | go_big_quiet_step (first | exact c1 _ _ | exact c2 _ _) | quiet_step (first | exact c1 _ _ | exact c2 _ _))
          refine wpQuiet_nil ?_
          rintro W6 ⟨q, rfl⟩
          go_wp2
          go_ret
          exact ⟨q_b (by rw [HV.out]; simp), HB5.out.trans ((below_regrown W5 q.d q.os).mono HB5.out.size)⟩
        · cases p2
          all_goals
            refine wp_region_quiet_below (by kernel_rfl) (by kernel_rfl) ?_
            repeat (first | go_big_quiet_step (first | exact c1 _ _ | exact c2 _ _) | quiet_step (first | exact c1 _ _ | exact c2 _ _))
            refine wpQuiet_nil ?_
            rintro W6 ⟨q, rfl⟩
            go_wp2
            go_ret
            exact ⟨q_b (by rw [HV.out]; simp), HB5.out.trans ((below_regrown W5 q.d q.os).mono HB5.out.size)⟩
      · have hh2 : (hf != 0) = true := by simp [hh]
        have HF := Lib.hid (show overB P = false by rw [HV.out]; simp [hh])
        clear hh
        refine wp_region_quiet_below (by kernel_rfl) (by kernel_rfl) ?_
        repeat (first | go_big_quiet_step (exact c1 _ _) | quiet_step (exact c1 _ _))
        refine wpQuiet_nil ?_
        rintro W4 ⟨q, rfl⟩
        go_wp2
        go_ret
        exact ⟨q_b HF.out.symm, HB.out.trans ((below_regrown W q.d q.os).mono HB.out.size)⟩
    · have hr2 : (rk != 5) = true := by simp [hr]
      have HF := Lib.hid (show overB P = false by
        rw [HV.out]
        cases hsq : sq o
        · rfl
        · obtain ⟨s0, s1⟩ := (sq_iff o).1 hsq
          have h2 := HRK.out
          unfold sR at h2
          rw [if_pos hsq] at h2
          have : (o.toNat / 8 == 5) = false := by simp; omega
          unfold overC; rw [this]; simp)
      clear hr
      refine wp_region_quiet_below (by kernel_rfl) (by kernel_rfl) ?_
      repeat (first | go_big_quiet_step (exact c1 _ _) | quiet_step (exact c1 _ _))
      refine wpQuiet_nil ?_
      rintro W4 ⟨q, rfl⟩
      go_wp2
      go_ret
      exact ⟨q_b HF.out.symm, HB.out.trans ((below_regrown W q.d q.os).mono HB.out.size)⟩
set_option maxHeartbeats 4000000 in
set_option maxRecDepth 100000 in
theorem over1_any (b : Nat) (P : Nat → Int) (w : World) (hp : PB w b P) (hs : P 128 = 1) :
    Calls Tryz.prog 151 #[.pointer (some ⟨b, 0, none⟩)] w fun e w' => e = .returned (.bool (overB P)) ∧ Below w.heap.size w w' := by
  have HP := Lib.hid hp
  have e1 := hp.cell 130 (by omega)
  have e2 := hp.cell 131 (by omega)
  have e3 := hp.cell 128 (by omega)
  have hbl := hp.lt
  rw [hs] at e3
  have hv : overB P = (P 130 == -1 || (sq (P 130) && P 131 == 0 && overC P (P 130).toNat 2 ((P 130).toNat - 8) ((P 130).toNat + 8) 0)) := by unfold overB; rw [hs]; rfl
  clear hp hs
  obtain ⟨o, hpo⟩ : ∃ o, P 130 = o := ⟨_, rfl⟩
  obtain ⟨hf, hph⟩ : ∃ o, P 131 = o := ⟨_, rfl⟩
  rw [hpo, hph] at hv
  rw [hpo] at e1
  rw [hph] at e2
  have HPO := Lib.hid hpo
  have HPH := Lib.hid hph
  clear hpo hph
  by_cases h0 : o = -1
  · subst h0
    have HV := Lib.hid (show overB P = true by rw [hv]; rfl)
    clear hv
    go_enter Tryz.func151, Tryz.ntmps151
    go_wp2
    go_ret
    exact ⟨q_b HV.out.symm, Below.refl _ _⟩
  · have hm : (o == -1) = false := by simp [h0]
    rw [hm, Bool.false_or] at hv
    obtain ⟨rk, hrk⟩ : ∃ r, sR o = r := ⟨_, rfl⟩
    have HRK := Lib.hid hrk
    have HV := Lib.hid hv
    clear hv hrk h0
    go_enter Tryz.func151, Tryz.ntmps151
    go_wp2_with fail
    refine (leap1_any _).mono ?_
    rintro e w1 ⟨rfl, hb1⟩
    go_upto_region 4 with (fail)
    refine forget_B (fun W => PB W b P ∧ Below w.heap.size w W ∧ W.heap[w1.heap.size]? = some (.cells #[.int .i64 2, .int .i64 (-1), .int .i64 1, .int .i64 0] 183 (0, 0))) ⟨(HP.out.go hb1).alloc _, hb1.alloc hb1.size _, sl_at rfl⟩ ?_
    clear e1 e2 e3 HP hb1
    rintro W ⟨hp, hb, hx⟩
    have x1 := cell_regrown (hp.cell 130 (by omega))
    have x2 := cell_regrown (hp.cell 131 (by omega))
    rw [HPO.out] at x1
    rw [HPH.out] at x2
    have v0 := cell_regrown (row4z hx)
    have HP := Lib.hid hp
    have HB := Lib.hid hb
    have HX := Lib.hid hx
    clear hp hb hx
    have c1 := regrown_call (w := W) (rank_any o)
    rw [HRK.out] at c1
    by_cases hr : rk = 2
    · subst hr
      by_cases hh : hf = 0
      · subst hh
        refine wp_region_quiet_below (by kernel_rfl) (by kernel_rfl) ?_
        repeat (first | go_big_quiet_step (exact c1 _ _) | quiet_step (exact c1 _ _))
        refine wpQuiet_nil ?_
        rintro W4 ⟨q, rfl⟩
        have hsq : sq o = true := by
          have := HRK.out
          unfold sR at this
          cases h : sq o
          · rw [h] at this; simp at this
          · rfl
        obtain ⟨s0, s1⟩ := (sq_iff o).1 hsq
        obtain ⟨m, rfl⟩ : ∃ m : Nat, o = (m : Int) := ⟨o.toNat, by omega⟩
        have hq8 : m / 8 = 2 := by
          have := HRK.out
          unfold sR at this
          rw [if_pos hsq] at this
          omega
        have ha64 : m - 8 < 64 := by omega
        have hb64 : m + 8 < 64 := by omega
        have hv2 : overB P = (pe (P (2 * m)) (P (2 * m + 1)) 0 0 && pe (P (2 * (m - 8))) (P (2 * (m - 8) + 1)) 0 0 && pe (P (2 * (m + 8))) (P (2 * (m + 8) + 1)) 1 0) := by
          rw [HV.out, hsq, Int.toNat_natCast]; unfold overC; rw [hq8]; simp
        have hst : stp (m : Int) 0 (-1) = ((m - 8 : Nat) : Int) := by
          unfold stp
          rw [if_pos (by rw [hsq, Bool.true_and]; exact (onB_iff _ _).2 (by omega))]
          omega
        have hst2 : stp (m : Int) 0 (1) = ((m + 8 : Nat) : Int) := by
          unfold stp
          rw [if_pos (by rw [hsq, Bool.true_and]; exact (onB_iff _ _).2 (by omega))]
          omega
        clear hq8 x1 x2 v0 c1 HV HRK
        generalize m - 8 = a at *
        generalize m + 8 = b2 at *
        have HS1 := Lib.hid hst
        have HS2 := Lib.hid hst2
        clear hst hst2 hsq hm
        have b4 := below_regrown W q.d q.os
        have hp := HP.out.go b4
        have hx := sl_go HX.out b4
        have HB4 := Lib.hid (HB.out.trans (b4.mono HB.out.size))
        clear b4 HP HB HX
        generalize grow (redrawn W q.d) q.os = W4 at *
        have x1 := cell_regrown (hp.cell 130 (by omega))
        rw [HPO.out] at x1
        have v1 := cell_regrown (row4 hx).1
        have HP := Lib.hid hp
        have HX := Lib.hid hx
        clear hp hx
        have c1 := regrown_call (w := W4) (fun W => step_any (m : Int) 0 (-1) W (by unfold I64; omega) (by unfold I64; omega))
        have c2 := regrown_call (w := W4) (fun W => step_any (m : Int) 0 (1) W (by unfold I64; omega) (by unfold I64; omega))
        rw [HS1.out] at c1
        rw [HS2.out] at c2
        go_upto_region 6 with (fail)
        refine wp_region_quiet_below (by kernel_rfl) (by kernel_rfl) ?_
        iterate 8 (go_big_quiet_step (exact c1 _ _))
        repeat (go_big_quiet_step (exact c2 _ _))
        refine wpQuiet_nil ?_
        rintro W5 ⟨q, rfl⟩
        have b4 := below_regrown W4 q.d q.os
        have hp := HP.out.go b4
        have hx := sl_go HX.out b4
        have HB5 := Lib.hid (HB4.out.trans (b4.mono HB4.out.size))
        clear b4 HP HX HB4 x1 v1 c1 c2
        generalize grow (redrawn W4 q.d) q.os = W5 at *
        have x1 := cell_regrown (hp.cell 130 (by omega))
        rw [HPO.out] at x1
        have v2 := cell_regrown (row4 hx).2.1
        have v3 := cell_regrown (row4 hx).2.2
        have y1 := cell_regrown (hp.cell (m * 2) (by omega))
        have y2 := cell_regrown (hp.cell (m * 2 + 1) (by omega))
        have y3 := cell_regrown (hp.cell (a * 2) (by omega))
        have y4 := cell_regrown (hp.cell (a * 2 + 1) (by omega))
        have y5 := cell_regrown (hp.cell (b2 * 2) (by omega))
        have y6 := cell_regrown (hp.cell (b2 * 2 + 1) (by omega))
        have ga0 : (0 : Int) ≤ a := by omega
        have ga1 : (a : Int) < 64 := by omega
        have gb0 : (0 : Int) ≤ b2 := by omega
        have gb1 : (b2 : Int) < 64 := by omega
        clear hp hx
        rw [Nat.mul_comm 2 m, Nat.mul_comm 2 a, Nat.mul_comm 2 b2] at hv2
        obtain ⟨p1, hp1⟩ : ∃ p, pe (P (m * 2)) (P (m * 2 + 1)) 0 0 = p := ⟨_, rfl⟩
        obtain ⟨p2, hp2⟩ : ∃ p, pe (P (a * 2)) (P (a * 2 + 1)) 0 0 = p := ⟨_, rfl⟩
        obtain ⟨p3, hp3⟩ : ∃ p, pe (P (b2 * 2)) (P (b2 * 2 + 1)) 1 0 = p := ⟨_, rfl⟩
        have c1 := regrown_call (w := W5) (none_any (P (m * 2)) (P (m * 2 + 1)))
        have c2 := regrown_call (w := W5) (none_any (P (a * 2)) (P (a * 2 + 1)))
        rw [hp1] at c1
        rw [hp2] at c2
        rw [hp1, hp2, hp3] at hv2
        have HV := Lib.hid hv2
        clear hv2 hp1 hp2
        generalize P (m * 2) = k1 at *
        generalize P (m * 2 + 1) = d1 at *
        generalize P (a * 2) = k2 at *
        generalize P (a * 2 + 1) = d2 at *
        generalize P (b2 * 2) = k3 at *
        generalize P (b2 * 2 + 1) = d3 at *
        go_upto_region 7 with (fail)
        cases p1
        · refine wp_region_quiet_below (by kernel_rfl) (by kernel_rfl) ?_
          repeat (first | go_big_quiet_step (first | exact c1 _ _ | exact c2 _ _) | quiet_step (first | exact c1 _ _ | exact c2 _ _))
          refine wpQuiet_nil ?_
          rintro W6 ⟨q, rfl⟩
          go_wp2
          go_ret
          exact ⟨q_b (by rw [HV.out]; simp), HB5.out.trans ((below_regrown W5 q.d q.os).mono HB5.out.size)⟩
        · cases p2
          all_goals
            refine wp_region_quiet_below (by kernel_rfl) (by kernel_rfl) ?_
            repeat (first | go_big_quiet_step (first | exact c1 _ _ | exact c2 _ _) | quiet_step (first | exact c1 _ _ | exact c2 _ _))
            refine wpQuiet_nil ?_
            rintro W6 ⟨q, rfl⟩
            go_wp2
            go_ret
            exact ⟨q_b (by rw [HV.out]; simp), HB5.out.trans ((below_regrown W5 q.d q.os).mono HB5.out.size)⟩
      · have hh2 : (hf != 0) = true := by simp [hh]
        have HF := Lib.hid (show overB P = false by rw [HV.out]; simp [hh])
        clear hh
        refine wp_region_quiet_below (by kernel_rfl) (by kernel_rfl) ?_
        repeat (first | go_big_quiet_step (exact c1 _ _) | quiet_step (exact c1 _ _))
        refine wpQuiet_nil ?_
        rintro W4 ⟨q, rfl⟩
        go_wp2
        go_ret
        exact ⟨q_b HF.out.symm, HB.out.trans ((below_regrown W q.d q.os).mono HB.out.size)⟩
    · have hr2 : (rk != 2) = true := by simp [hr]
      have HF := Lib.hid (show overB P = false by
        rw [HV.out]
        cases hsq : sq o
        · rfl
        · obtain ⟨s0, s1⟩ := (sq_iff o).1 hsq
          have h2 := HRK.out
          unfold sR at h2
          rw [if_pos hsq] at h2
          have : (o.toNat / 8 == 2) = false := by simp; omega
          unfold overC; rw [this]; simp)
      clear hr
      refine wp_region_quiet_below (by kernel_rfl) (by kernel_rfl) ?_
      repeat (first | go_big_quiet_step (exact c1 _ _) | quiet_step (exact c1 _ _))
      refine wpQuiet_nil ?_
      rintro W4 ⟨q, rfl⟩
      go_wp2
      go_ret
      exact ⟨q_b HF.out.symm, HB.out.trans ((below_regrown W q.d q.os).mono HB.out.size)⟩
end Go.Proofs.YtkncfeijlmomaaaGreatDoor
