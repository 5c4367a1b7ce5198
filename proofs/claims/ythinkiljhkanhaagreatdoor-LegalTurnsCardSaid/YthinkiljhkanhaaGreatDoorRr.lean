/-
  Mathematics of turned positions: checks, legal moves, how many rows there are.
-/
import Derived.Test.YthinkiljhkanhaaGreatDoorRq
import Derived.Test.YthinkiljhkanhaaGreatDoorG26
import Derived.Test.YthinkiljhkanhaaGreatDoorG20
namespace Go.Proofs.YthinkiljhkanhaaGreatDoor
open Go.RowKit Go.Sort
set_option linter.unusedSimpArgs false
set_option linter.unusedVariables false
set_option maxRecDepth 20000

theorem turn_k (P : Nat → Int) (s : Nat) (hs : s < 64) : turnN P (2 * mir s) = P (2 * s) := by rw [turnN_k P _ (mir_lt s hs), mir_mir s hs]
theorem turn_d (P : Nat → Int) (s : Nat) (hs : s < 64) : turnN P (2 * mir s + 1) = tSide (P (2 * s)) (P (2 * s + 1)) := by rw [turnN_d P _ (mir_lt s hs), mir_mir s hs]
theorem att_may (P : Nat → Int) (a s : Nat) (h : attR P a s = true) : mayB (P (2 * a)) (P (2 * a + 1)) = true := by
  unfold attR attK at h
  simp only [Bool.and_eq_true] at h
  exact h.1.1
theorem may_side (k d : Int) (h : mayB k d = true) : tSide k d = oth d := by unfold tSide; rw [if_pos h]
theorem hit_turn (P : Nat → Int) (s : Nat) (hs : s < 64) (d : Int) (h : ∃ a, a < 64 ∧ P (2 * a + 1) = d ∧ attR P a s = true) : ∃ a, a < 64 ∧ turnN P (2 * a + 1) = oth d ∧ attR (turnN P) a (mir s) = true := by
  obtain ⟨a, ha, h1, h2⟩ := h
  exact ⟨mir a, mir_lt a ha, by rw [turn_d P a ha, may_side _ _ (att_may P a s h2), h1], by rw [att_turn P a s ha hs]; exact h2⟩
theorem chk_turn1 (P : Nat → Int) (d : Int) (hd : d = 0 ∨ d = 1) (h : chkB P d = true) : chkB (turnN P) (oth d) = true := by
  obtain ⟨s, a, hs, ha, h1, h2, h3, h4⟩ := (chk_iff P d hd).1 h
  obtain ⟨b, hb, h5, h6⟩ := hit_turn P s hs _ ⟨a, ha, h3, h4⟩
  refine (chk_iff _ _ (oth_side hd).1).2 ⟨mir s, b, mir_lt s hs, hb, by rw [turn_k P s hs]; exact h1, ?_, h5, h6⟩
  rw [turn_d P s hs, h1, h2]
  unfold tSide
  rw [if_pos (may_of 6 d (by omega) (by omega) hd)]
theorem chk_turn (P : Nat → Int) (hf : Fit P) (hs : P 128 = 0 ∨ P 128 = 1) (d : Int) (hd : d = 0 ∨ d = 1) : chkB (turnN P) (oth d) = chkB P d := by
  rw [Bool.eq_iff_iff]
  refine ⟨fun h => ?_, chk_turn1 P d hd⟩
  have := chk_turn1 (turnN P) (oth d) (oth_side hd).1 h
  rw [turn_full P hf hs, (oth_side hd).2.1] at this
  exact this
theorem pos_turn (P : Nat → Int) (hr : rightB P = true) : posB (turnN P) = posB P := by
  have hd := right_side P hr
  unfold posB
  rw [right_turn P (right_fit P hr) hd, (turnN_parts P).1, chk_turn P (right_fit P hr) hd _ (oth_side hd).1]
theorem at_turn (P : Nat → Int) (hf : Fit P) (hs : P 128 = 0 ∨ P 128 = 1) (s : Nat) (hs2 : s < 64) (d : Int) (hd : d = 0 ∨ d = 1) : atkL (turnN P) ((mir s : Nat) : Int) (oth d) ≠ [] ↔ atkL P (s : Int) d ≠ [] := by
  rw [atk_iff _ _ (mir_lt s hs2), atk_iff P s hs2]
  refine ⟨fun h => ?_, hit_turn P s hs2 d⟩
  have := hit_turn (turnN P) (mir s) (mir_lt s hs2) (oth d) h
  rw [turn_full P hf hs, (oth_side hd).2.1, mir_mir s hs2] at this
  exact this
theorem king_goes (P : Nat → Int) (s n : Nat) (hs : s < 64) (hn : n < 64) (hk : P (2 * s) = 6) (hg : goB P s n = true) : (fD s n ≤ 1 ∧ -1 ≤ fD s n ∧ attR P s n = true) ∨ ((fD s n = 2 ∨ fD s n = -2) ∧ s / 8 = n / 8) := by
  unfold goB at hg
  rw [if_neg (by omega), hk] at hg
  simp only [Bool.or_eq_true, Bool.and_eq_true, beq_self_eq_true, true_and] at hg
  rcases hg with ⟨h1, _⟩ | h1
  · have := attR_king P s n hk h1
    exact .inl ⟨this.1, this.2, h1⟩
  · have hm : (n : Int) ∈ castlesL P (s : Int) 4 := List.contains_iff_mem.1 h1
    have h2 := (castlesL_to P s n hm).1
    obtain ⟨j, hj, hc, hx⟩ := castlesL_mem P _ _ _ hm
    obtain ⟨h3, h4⟩ := cst_to P _ j hj hc
    exact .inr ⟨h2, by omega⟩
theorem cst_files (P : Nat → Int) (s n : Nat) (hs : s < 64) (hn : n < 64) (hg : goB P s n = true) : cstM P s n = true ↔ (P (2 * s) = 6 ∧ (fD s n = 2 ∨ fD s n = -2) ∧ s / 8 = n / 8) := by
  unfold cstM
  rw [Nat.mul_comm s 2]
  simp only [Bool.and_eq_true, beq_iff_eq, Bool.or_eq_true]
  constructor
  · rintro ⟨hk, h⟩
    have := king_goes P s n hs hn hk hg
    refine ⟨hk, ?_⟩
    unfold fD at this ⊢
    omega
  · rintro ⟨hk, h1, h2⟩
    refine ⟨hk, ?_⟩
    unfold fD at h1
    omega
theorem cst_turn (P : Nat → Int) (m : Int × Int × Int) (s n : Nat) (h : MvOk P m s n) (h2 : MvOk (turnN P) (tM m) (mir s) (mir n)) : cstM (turnN P) (mir s) (mir n) = cstM P s n := by
  rw [Bool.eq_iff_iff, cst_files P s n h.hs h.hn h.g, cst_files _ _ _ h2.hs h2.hn h2.g, turn_k P s h.hs, fD_t]
  have e : mir s / 8 = mir n / 8 ↔ s / 8 = n / 8 := by have h1 := h.hs; have h2 := h.hn; unfold mir; omega
  rw [e]
theorem badC_turn (P : Nat → Int) (hr : rightB P = true) (m : Int × Int × Int) (s n : Nat) (h : MvOk P m s n) (h2 : MvOk (turnN P) (tM m) (mir s) (mir n)) : badC (turnN P) (mir s) (mir n) = badC P s n := by
  unfold badC
  rw [cst_turn P m s n h h2]
  cases hc : cstM P s n
  · rfl
  · obtain ⟨hk, hf, hq⟩ := (cst_files P s n h.hs h.hn h.g).1 hc
    have hd := right_side P hr
    have hfit := right_fit P hr
    have h1 := h.hs
    have h3 := h.hn
    have hmid : (((mir s : Nat) : Int) + ((mir n : Nat) : Int)) / 2 = ((mir ((s + n) / 2) : Nat) : Int) := by unfold fD at hf; unfold mir; omega
    have hmid2 : ((s : Int) + (n : Int)) / 2 = (((s + n) / 2 : Nat) : Int) := by omega
    unfold freeB
    rw [is_two, is_two, hmid, hmid2, (turnN_parts P).1]
    have one : ∀ x : Nat, x < 64 → isAt (turnN P) (oth (oth (P 128))) (fun _ => ((mir x : Nat) : Int)) 1 = isAt P (oth (P 128)) (fun _ => (x : Int)) 1 := fun x hx => by
      rw [Bool.eq_iff_iff, isAt_iff, isAt_iff]
      have := at_turn P hfit hd x hx _ (oth_side hd).1
      exact ⟨fun ⟨i, hi, g⟩ => ⟨i, hi, this.1 g⟩, fun ⟨i, hi, g⟩ => ⟨i, hi, this.2 g⟩⟩
    rw [one s h1, one _ (by omega)]
theorem mv_turn_like (P : Nat → Int) (hr : rightB P = true) (m : Int × Int × Int) (s n : Nat) (h : MvOk P m s n) : Like (mvP (turnN P) (mir s : Nat) (mir n : Nat) m.2.2) (turnN (mvP P s n m.2.2)) := fun i hi => by
  have h0 := mv_ok P m s n h
  rw [right_hand P hr] at h0
  exact mv_turn P hr s n m.2.2 h.hs h.hn h0 i (by omega) (by omega)
theorem okM_turn (P : Nat → Int) (hp : posB P = true) (m : Int × Int × Int) (s n : Nat) (h : MvOk P m s n) : okM (turnN P) (mir s) (mir n) m.2.2 = okM P s n m.2.2 := by
  obtain ⟨hr, hc⟩ := pos_parts P hp
  have hd := right_side P hr
  have h2 := tM_ok P (right_fit P hr) hd (right_cas P hr) m s n h
  have N := next_ok P hp m s n h
  have e2 : fltN (handP (turnN P)) ((mir s : Nat) : Int) ((mir n : Nat) : Int) m.2.2 = 0 := mv_ok (turnN P) (tM m) _ _ h2
  unfold okM badQ
  rw [badC_turn P hr m s n h h2, N.flt, e2, chk_like (mv_turn_like P hr m s n h), (turnN_parts P).1]
  have hds := N.side
  rw [chk_turn _ (right_fit _ N.right) (by rw [hds]; exact (oth_side hd).1) _ hd]
theorem leg_turn_mem (P : Nat → Int) (hp : posB P = true) (m : Int × Int × Int) (hm : m ∈ legM P) : tM m ∈ legM (turnN P) := by
  obtain ⟨s, n, h⟩ := leg_ok P hp m hm
  have hr := (pos_parts P hp).1
  have h2 := tM_ok P (right_fit P hr) (right_side P hr) (right_cas P hr) m s n h.x.mv
  refine (leg_mem (turnN P) (tM m) _ _ h2).2 ?_
  show okM (turnN P) (mir s) (mir n) m.2.2 = true
  rw [okM_turn P hp m s n h.x.mv]
  exact h.ok
theorem leg_nodup (P : Nat → Int) : (legM P).Nodup := (allM_nodup P).filter _
theorem leg_turn_le (P : Nat → Int) (hp : posB P = true) : (legM P).length ≤ (legM (turnN P)).length := by
  have h1 : ((legM P).map tM).Nodup := List.pairwise_map.2 ((leg_nodup P).imp fun {a b} h e => h (tM_inj a b e))
  have := nodup_le h1 (r := legM (turnN P)) fun x hx => by
    obtain ⟨m, hm, rfl⟩ := List.mem_map.1 hx
    exact leg_turn_mem P hp m hm
  rwa [List.length_map] at this
theorem leg_turn_len (P : Nat → Int) (hp : posB P = true) : (legM (turnN P)).length = (legM P).length := by
  have hr := (pos_parts P hp).1
  have hp2 : posB (turnN P) = true := by rw [pos_turn P hr]; exact hp
  have h2 := leg_turn_le (turnN P) hp2
  rw [turn_full P (right_fit P hr) (right_side P hr)] at h2
  exact Nat.le_antisymm h2 (leg_turn_le P hp)
theorem lm_turn_len (P : Nat → Int) (hr : rightB P = true) : (lmM (turnN P)).length = (lmM P).length := by
  unfold lmM
  rw [pos_turn P hr]
  cases hp : posB P
  · simp
  · simp only [if_true]; exact leg_turn_len P hp
theorem perm_of {l r : List (Int × Int × Int)} (hl : l.Nodup) (hr : r.Nodup) (hs : ∀ x ∈ l, x ∈ r) (hn : r.length ≤ l.length) : l.Perm r := by
  induction l generalizing r with
  | nil => simp only [List.length_nil, Nat.le_zero, List.length_eq_zero_iff] at hn; subst hn; exact List.Perm.refl _
  | cons a l ih =>
    rw [List.nodup_cons] at hl
    have ha : a ∈ r := hs a (by simp)
    have h1 := ih (r := r.erase a) hl.2 (hr.erase a) (fun x hx => (List.mem_erase_of_ne (by rintro rfl; exact hl.1 hx)).2 (hs x (by simp [hx]))) (by
      have h2 := List.length_erase_of_mem ha
      simp only [List.length_cons] at hn
      omega)
    exact (h1.cons a).trans (List.perm_cons_erase ha).symm
theorem leg_turn_perm (P : Nat → Int) (hp : posB P = true) : ((legM P).map tM).Perm (legM (turnN P)) :=
  perm_of (List.pairwise_map.2 ((leg_nodup P).imp fun {a b} h e => h (tM_inj a b e))) (leg_nodup _) (fun x hx => by
    obtain ⟨m, hm, rfl⟩ := List.mem_map.1 hx
    exact leg_turn_mem P hp m hm) (by rw [List.length_map, leg_turn_len P hp]; exact Nat.le_refl _)
theorem cntD_turn (d : Nat) : ∀ P, posB P = true → cntD d (turnN P) = cntD d P := by
  induction d with
  | zero => intro P _; rfl
  | succ d ih =>
    intro P hp
    rw [cntD_succ, cntD_succ]
    unfold cntS
    rw [← ((leg_turn_perm P hp).map _).sum_nat, List.map_map]
    refine congrArg List.sum (List.map_congr_left fun m hm => ?_)
    obtain ⟨s, n, h⟩ := leg_ok P hp m hm
    have hr := (pos_parts P hp).1
    have h2 := tM_ok P (right_fit P hr) (right_side P hr) (right_cas P hr) m s n h.x.mv
    have ho : okM (turnN P) (mir s) (mir n) m.2.2 = true := by rw [okM_turn P hp m s n h.x.mv]; exact h.ok
    simp only [Function.comp]
    rw [h2.f, h2.t, h.x.mv.f, h.x.mv.t, Int.toNat_natCast, Int.toNat_natCast, Int.toNat_natCast, Int.toNat_natCast, h.nx, ← ih _ h.pos]
    show cntD d (nxP (turnN P) (mir s) (mir n) m.2.2) = _
    have e : nxP (turnN P) (mir s) (mir n) m.2.2 = mvP (turnN P) (mir s : Nat) (mir n : Nat) m.2.2 := by unfold nxP; rw [if_pos ho]
    rw [e]
    exact cntD_like d (mv_turn_like P hr m s n h.x.mv)
theorem cntP_turn (P : Nat → Int) (hr : rightB P = true) (x : Int) : cntP (turnN P) x = cntP P x := by
  unfold cntP
  rw [pos_turn P hr]
  cases hp : posB P
  · simp
  · simp only [if_true]; exact cntD_turn _ P hp
end Go.Proofs.YthinkiljhkanhaaGreatDoor
