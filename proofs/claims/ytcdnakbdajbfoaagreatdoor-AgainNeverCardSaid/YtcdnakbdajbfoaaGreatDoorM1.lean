/-
  Merged: Ro, Wa, Rq, Wb, Wd.
-/
import Derived.Test.YtcdnakbdajbfoaaGreatDoorRm
import Derived.Test.YtcdnakbdajbfoaaGreatDoorG27
import Derived.Test.YtcdnakbdajbfoaaGreatDoorG23
import Derived.Test.YtcdnakbdajbfoaaGreatDoorG17
import Derived.Test.YtcdnakbdajbfoaaGreatDoorG1
import Derived.Test.YtcdnakbdajbfoaaGreatDoorG21
import Derived.Lib.ItoaLen

namespace Go.Proofs.YtcdnakbdajbfoaaGreatDoor
open Go.RowKit Go.Sort
set_option linter.unusedSimpArgs false
set_option linter.unusedVariables false
set_option maxRecDepth 20000

abbrev ff := false
theorem one_reads (V : World) (x : Int) : Reads (V.alloc (.cells #[.int .i64 x] 3)).heap.size (V.alloc (.cells #[.int .i64 x] 3)) (some ⟨V.heap.size, 0, none⟩) 1 (fun _ => .int .i64 x) := by
  refine .inr ⟨V.heap.size, 0, rfl, by simp, fun i hi => ?_⟩
  have h : (V.alloc (.cells #[.int .i64 x] 3)).heap[V.heap.size]? = some (.cells #[.int .i64 x] 3 (0, 0)) := sl_at rfl
  obtain ⟨q1, _, _⟩ := row1 h
  obtain rfl : i = 0 := by omega
  exact q1
theorem atk_iff (P : Nat → Int) (s : Nat) (hs : s < 64) (d : Int) : atkL P (s : Int) d ≠ [] ↔ ∃ a, a < 64 ∧ P (2 * a + 1) = d ∧ attR P a s = true := by
  have hsq : sq (s : Int) = true := (sq_iff _).2 ⟨by omega, by omega⟩
  rw [Ne, ← rTo_nil]
  unfold rToL
  rw [hsq, if_pos rfl, Int.toNat_natCast]
  constructor
  · intro h
    obtain ⟨x, hx⟩ := List.exists_mem_of_ne_nil _ h
    obtain ⟨a, ha, hq, _⟩ := (upList_mem _ _ _).1 hx
    simp only [Bool.and_eq_true, beq_iff_eq] at hq
    exact ⟨a, ha, hq.1, hq.2⟩
  · rintro ⟨a, ha, h1, h2⟩ h
    have := (upList_mem (fun a => P (2 * a + 1) == d && attR P a s) 64 (a : Int)).2 ⟨a, ha, by simp [h1, h2], rfl⟩
    rw [h] at this
    cases this
theorem isAt_iff (P : Nat → Int) (d : Int) (f : Nat → Int) (n : Nat) : isAt P d f n = true ↔ ∃ i, i < n ∧ atkL P (f i) d ≠ [] := by
  constructor
  · intro h
    unfold isAt at h
    obtain ⟨i, hi, h2⟩ := List.any_eq_true.1 h
    refine ⟨i, List.mem_range.1 hi, fun e => ?_⟩
    rw [e] at h2; cases h2
  · rintro ⟨i, hi, h⟩
    exact isAt_hit hi h
theorem chk_iff (P : Nat → Int) (d : Int) (hd : d = 0 ∨ d = 1) : chkB P d = true ↔ ∃ s a : Nat, s < 64 ∧ a < 64 ∧ P (2 * s) = 6 ∧ P (2 * s + 1) = d ∧ P (2 * a + 1) = oth d ∧ attR P a s = true := by
  have hsd : sideB d = true := by rcases hd with rfl | rfl <;> rfl
  unfold chkB
  rw [hsd, Bool.true_and, isAt_iff]
  constructor
  · rintro ⟨i, hi, h⟩
    have hm : getI (fnd P 6 d 64) i ∈ fnd P 6 d 64 := by
      unfold getI; rw [List.getD_eq_getElem?_getD, List.getElem?_eq_getElem hi]; exact List.getElem_mem hi
    obtain ⟨s, hs, hx, h1, h2⟩ := (fnd_mem _ _ _ _ _).1 hm
    rw [hx] at h
    obtain ⟨a, ha, h3, h4⟩ := (atk_iff P s hs _).1 h
    exact ⟨s, a, hs, ha, h1, h2, h3, h4⟩
  · rintro ⟨s, a, hs, ha, h1, h2, h3, h4⟩
    have hm : (s : Int) ∈ fnd P 6 d 64 := (fnd_mem _ _ _ _ _).2 ⟨s, hs, rfl, h1, h2⟩
    obtain ⟨i, hi, e⟩ := List.getElem_of_mem hm
    refine ⟨i, hi, ?_⟩
    have : getI (fnd P 6 d 64) i = (s : Int) := by unfold getI; rw [List.getD_eq_getElem?_getD, List.getElem?_eq_getElem hi, e]; rfl
    rw [this]
    exact (atk_iff P s hs _).2 ⟨a, ha, h3, h4⟩
theorem pos_parts (P : Nat → Int) (h : posB P = true) : rightB P = true ∧ chkB P (oth (P 128)) = false := by
  unfold posB at h; simpa using h
theorem no_king (P : Nat → Int) (hp : posB P = true) (m : Int × Int × Int) (s n : Nat) (h : MvOk P m s n) : ¬ (P (2 * n) = 6 ∧ P (2 * n + 1) = oth (P 128)) := by
  rintro ⟨h1, h2⟩
  obtain ⟨hr, hc⟩ := pos_parts P hp
  have hd := right_side P hr
  have hem : emB P n = false := by unfold emB; rw [Bool.eq_false_iff]; intro e; have := ((pe_iff _ _ _ _).1 e).1; omega
  obtain ⟨p1, p2⟩ := own_parts P s h.o
  have ha := (goB_hit P s n p1 h.g hem).1
  have hoo := oth_side hd
  have : chkB P (oth (P 128)) = true := (chk_iff P _ hoo.1).2 ⟨n, s, h.hn, h.hs, h1, h2, by rw [hoo.2.1]; exact p2, ha⟩
  rw [hc] at this; cases this
structure NxOk (P : Nat → Int) (m : Int × Int × Int) (s n : Nat) : Prop where
  mv : MvOk P m s n
  right : rightB (mvP P s n m.2.2) = true
  side : mvP P s n m.2.2 128 = oth (P 128)
  flt : fltN (handP P) s n m.2.2 = 0
  d : P 128 = 0 ∨ P 128 = 1
theorem next_ok (P : Nat → Int) (hp : posB P = true) (m : Int × Int × Int) (s n : Nat) (h : MvOk P m s n) : NxOk P m s n :=
  ⟨h, right_next P (pos_parts P hp).1 s n m.2.2 h.hs h.hn h.o h.g h.b (no_king P hp m s n h), mv_side9 P s n m.2.2 h.hs h.hn (mv_ok P m s n h), mv_ok P m s n h, right_side P (pos_parts P hp).1⟩
structure LgOk (P : Nat → Int) (m : Int × Int × Int) (s n : Nat) : Prop where
  x : NxOk P m s n
  ok : okM P s n m.2.2 = true
  nx : nxP P s n m.2.2 = mvP P s n m.2.2
  pos : posB (mvP P s n m.2.2) = true
  chk : chkB (mvP P s n m.2.2) (P 128) = false
theorem okM_parts (P : Nat → Int) (s n : Nat) (k : Int) (h : okM P s n k = true) : badC P s n = false ∧ fltN (handP P) s n k = 0 ∧ chkB (mvP P s n k) (P 128) = false := by
  unfold okM badQ at h
  simp only [Bool.and_eq_true, Bool.not_eq_true', Bool.or_eq_false_iff, beq_eq_false_iff_ne, bne_iff_ne, Bool.not_eq_false', beq_iff_eq] at h
  exact ⟨h.1, h.2.1, h.2.2⟩
theorem okM_leg (P : Nat → Int) (hp : posB P = true) (m : Int × Int × Int) (s n : Nat) (h : MvOk P m s n) (ho : okM P s n m.2.2 = true) : LgOk P m s n := by
  have N := next_ok P hp m s n h
  obtain ⟨_, _, hc⟩ := okM_parts P s n _ ho
  refine ⟨N, ho, by unfold nxP; rw [if_pos ho], ?_, hc⟩
  unfold posB
  rw [N.right, N.side, (oth_side N.d).2.1, hc]; rfl
theorem okL_at (P : Nat → Int) (m : Int × Int × Int) (s n : Nat) (h : MvOk P m s n) : okL P m = okM P s n m.2.2 := by
  unfold okL; rw [h.f, h.t, Int.toNat_natCast, Int.toNat_natCast]
theorem leg_ok (P : Nat → Int) (hp : posB P = true) (m : Int × Int × Int) (hm : m ∈ legM P) : ∃ s n, LgOk P m s n := by
  unfold legM at hm
  obtain ⟨h1, h2⟩ := List.mem_filter.1 hm
  obtain ⟨s, n, h⟩ := (allM_iff P m).1 h1
  rw [okL_at P m s n h] at h2
  exact ⟨s, n, okM_leg P hp m s n h h2⟩
theorem leg_mem (P : Nat → Int) (m : Int × Int × Int) (s n : Nat) (h : MvOk P m s n) : m ∈ legM P ↔ okM P s n m.2.2 = true := by
  unfold legM
  rw [List.mem_filter, okL_at P m s n h]
  exact ⟨fun h => h.2, fun h2 => ⟨(allM_iff P m).2 ⟨s, n, h⟩, h2⟩⟩
def fineB (P : Nat → Int) (s n : Nat) (k : Int) : Bool := (fltN (handP P) s n k == 0) && !chkB (mvP P s n k) (P 128) && (!cstM P s n || (!chkB P (P 128) && !isAt P (oth (P 128)) (fun _ => ((s : Int) + (n : Int)) / 2) 1))
theorem is_two (P : Nat → Int) (d a b : Int) : isAt P d (wayF a b) 2 = (isAt P d (fun _ => a) 1 || isAt P d (fun _ => b) 1) := by
  unfold isAt
  simp [List.range_succ, wayF]
theorem one_king (P : Nat → Int) (hr : rightB P = true) (s : Nat) (hs : s < 64) (hk : P (2 * s) = 6) (ho : P (2 * s + 1) = P 128) : fnd P 6 (P 128) 64 = [(s : Int)] := by
  have hd := right_side P hr
  obtain ⟨r1, r2, r3, r4, r5, r6, r7⟩ := right_parts9 P hr
  have hl : (fnd P 6 (P 128) 64).length = 1 := by rw [cnt_fnd]; rcases hd with e | e <;> rw [e] <;> assumption
  obtain ⟨x, hx⟩ := List.length_eq_one_iff.1 hl
  have hm : (s : Int) ∈ fnd P 6 (P 128) 64 := (fnd_mem _ _ _ _ _).2 ⟨s, hs, rfl, hk, ho⟩
  rw [hx] at hm ⊢
  simp only [List.mem_singleton] at hm
  rw [hm]
theorem chk_king (P : Nat → Int) (hr : rightB P = true) (s : Nat) (hs : s < 64) (hk : P (2 * s) = 6) (ho : P (2 * s + 1) = P 128) : chkB P (P 128) = isAt P (oth (P 128)) (fun _ => (s : Int)) 1 := by
  have hd := right_side P hr
  have hsd : sideB (P 128) = true := by rcases hd with e | e <;> rw [e] <;> rfl
  unfold chkB
  rw [one_king P hr s hs hk ho, hsd]
  rfl
theorem fine_ok (P : Nat → Int) (hr : rightB P = true) (s n : Nat) (k : Int) (hs : s < 64) (ho : ownB P s = true) : fineB P s n k = okM P s n k := by
  obtain ⟨p1, p2⟩ := own_parts P s ho
  unfold fineB okM badC badQ freeB
  cases hc : cstM P s n
  · simp [Bool.and_comm]
  · have hk : P (2 * s) = 6 := by
      unfold cstM at hc
      simp only [Bool.and_eq_true, beq_iff_eq] at hc
      rw [Nat.mul_comm]; exact hc.1
    rw [is_two, ← chk_king P hr s hs hk p2]
    cases (fltN (handP P) s n k == 0) <;> cases chkB (mvP P s n k) (P 128) <;> cases chkB P (P 128) <;> cases isAt P (oth (P 128)) (fun _ => ((s : Int) + (n : Int)) / 2) 1 <;> rfl
end Go.Proofs.YtcdnakbdajbfoaaGreatDoor

namespace Go.Proofs.YtcdnakbdajbfoaaGreatDoor
open Go.RowKit Go.Sort
set_option linter.unusedSimpArgs false
set_option linter.unusedVariables false
set_option maxRecDepth 20000

def LikeS (P Q : Nat → Int) : Prop := ∀ i, i < 130 → P i = Q i
theorem LikeS.k {P Q : Nat → Int} (h : LikeS P Q) {s : Nat} (hs : s < 64) : P (2 * s) = Q (2 * s) := h _ (by omega)
theorem LikeS.d {P Q : Nat → Int} (h : LikeS P Q) {s : Nat} (hs : s < 64) : P (2 * s + 1) = Q (2 * s + 1) := h _ (by omega)
theorem LikeS.sd {P Q : Nat → Int} (h : LikeS P Q) : P 128 = Q 128 := h _ (by omega)
theorem LikeS.cas {P Q : Nat → Int} (h : LikeS P Q) : P 129 = Q 129 := h _ (by omega)
theorem LikeS.symm {P Q : Nat → Int} (h : LikeS P Q) : LikeS Q P := fun i hi => (h i hi).symm
theorem occ_likeS {P Q : Nat → Int} (h : LikeS P Q) (s : Nat) (hs : s < 64) : occS P s = occS Q s := by unfold occS; rw [h.k hs, h.d hs]
theorem em_likeS {P Q : Nat → Int} (h : LikeS P Q) (s : Nat) (hs : s < 64) : emB P s = emB Q s := by unfold emB; rw [h.k hs, h.d hs]
theorem open_likeS {P Q : Nat → Int} (h : LikeS P Q) (a b : Nat) (ha : a < 64) (hb : b < 64) (hg : good a b = true) : openB P a b = openB Q a b := by
  unfold openB
  rw [Bool.eq_iff_iff, List.all_eq_true, List.all_eq_true]
  constructor
  · intro H s hs
    have := H s hs
    rwa [occ_likeS h s (bet_lt a b ha hb hg s hs)] at this
  · intro H s hs
    have := H s hs
    rwa [← occ_likeS h s (bet_lt a b ha hb hg s hs)] at this
theorem att_likeS {P Q : Nat → Int} (h : LikeS P Q) (a b : Nat) (ha : a < 64) (hb : b < 64) : attR P a b = attR Q a b := by
  unfold attR
  rw [h.k ha, h.d ha]
  generalize Q (2 * a) = k
  generalize Q (2 * a + 1) = d
  unfold attK
  cases hab : a == b
  · have hgood : good a b = (fD a b == 0 || rD a b == 0 || absI (fD a b) == absI (rD a b)) := by unfold good; rw [hab]; rfl
    have hop : ∀ c : Bool, (c = true → good a b = true) → (c && openB P a b) = (c && openB Q a b) := by
      intro c hc
      cases c
      · rfl
      · rw [open_likeS h a b ha hb (hc rfl)]
    congr 1
    unfold kindB
    by_cases h1 : k = 1
    · rw [if_pos h1, if_pos h1]
    rw [if_neg h1, if_neg h1]
    by_cases h2 : k = 2
    · rw [if_pos h2, if_pos h2]
    rw [if_neg h2, if_neg h2]
    by_cases h6 : k = 6
    · rw [if_pos h6, if_pos h6]
    rw [if_neg h6, if_neg h6]
    by_cases h4 : k = 4
    · rw [if_pos h4, if_pos h4]
      exact hop _ fun hc => by rw [hgood]; simp only [Bool.or_eq_true] at hc ⊢; exact .inl hc
    rw [if_neg h4, if_neg h4]
    by_cases h3 : k = 3
    · rw [if_pos h3, if_pos h3]
      exact hop _ fun hc => by rw [hgood, hc, Bool.or_true]
    rw [if_neg h3, if_neg h3]
    exact hop _ fun hc => by rw [hgood]; exact hc
  · simp
theorem atk_likeS {P Q : Nat → Int} (h : LikeS P Q) (s : Nat) (hs : s < 64) (d : Int) : atkL P (s : Int) d ≠ [] ↔ atkL Q (s : Int) d ≠ [] := by
  rw [atk_iff P s hs, atk_iff Q s hs]
  constructor
  · rintro ⟨a, ha, h1, h2⟩
    exact ⟨a, ha, by rw [← h.d ha]; exact h1, by rw [← att_likeS h a s ha hs]; exact h2⟩
  · rintro ⟨a, ha, h1, h2⟩
    exact ⟨a, ha, by rw [h.d ha]; exact h1, by rw [att_likeS h a s ha hs]; exact h2⟩
theorem isAt_likeS {P Q : Nat → Int} (h : LikeS P Q) (d : Int) (f : Nat → Int) (n : Nat) (hf : ∀ i, i < n → ∃ s : Nat, s < 64 ∧ f i = (s : Int)) : isAt P d f n = isAt Q d f n := by
  rw [Bool.eq_iff_iff, isAt_iff, isAt_iff]
  constructor
  · rintro ⟨i, hi, h1⟩
    obtain ⟨s, hs, e⟩ := hf i hi
    rw [e] at h1
    exact ⟨i, hi, by rw [e]; exact (atk_likeS h s hs d).1 h1⟩
  · rintro ⟨i, hi, h1⟩
    obtain ⟨s, hs, e⟩ := hf i hi
    rw [e] at h1
    exact ⟨i, hi, by rw [e]; exact (atk_likeS h s hs d).2 h1⟩
theorem pwn_likeS {P Q : Nat → Int} (h : LikeS P Q) (s : Nat) (hs : s < 64) : pwnB P s = pwnB Q s := by unfold pwnB; rw [h.k hs]
theorem rk_likeS {P Q : Nat → Int} (h : LikeS P Q) (s : Nat) : rkN P s = rkN Q s := by unfold rkN; rw [h.sd]
theorem own_likeS {P Q : Nat → Int} (h : LikeS P Q) (s : Nat) (hs : s < 64) : ownB P s = ownB Q s := by unfold ownB; rw [h.sd, h.k hs, h.d hs]
theorem bec_likeS {P Q : Nat → Int} (h : LikeS P Q) (f t : Nat) (hf : f < 64) (k : Int) : becB P f t k = becB Q f t k := by unfold becB; rw [pwn_likeS h f hf, rk_likeS h]
theorem on_likeS {P Q : Nat → Int} (h : LikeS P Q) : onN P = onN Q := by unfold onN; rw [h.sd]
theorem upW_likeS {P Q : Nat → Int} (h : LikeS P Q) (on : Int) (n : Nat) : ∀ a, upW P on n a = upW Q on n a := by
  induction n with
  | zero => intro a; rfl
  | succ n ih =>
    intro a
    unfold upW
    cases hs : sq a
    · simp
    · have := (sq_iff a).1 hs
      rw [em_likeS h a.toNat (by omega), ih]
theorem ahead_likeS {P Q : Nat → Int} (h : LikeS P Q) (s : Nat) : aheadL P s = aheadL Q s := by unfold aheadL farN; rw [on_likeS h, rk_likeS h, upW_likeS h]
theorem moth_likeS {P Q : Nat → Int} (h : LikeS P Q) (s : Nat) (hs : s < 64) : mothB P s = mothB Q s := by unfold mothB; rw [em_likeS h s hs, h.d hs, h.sd]
theorem mown_likeS {P Q : Nat → Int} (h : LikeS P Q) (s : Nat) (hs : s < 64) : mownB P s = mownB Q s := by unfold mownB; rw [em_likeS h s hs, h.d hs, h.sd]
theorem clr_likeS {P Q : Nat → Int} (h : LikeS P Q) (j : Nat) (hj : j < 4) (d : Int) : clrB P (wayJ j) (cornJ j) d = clrB Q (wayJ j) (cornJ j) d := by
  have hx : ∀ xs : List Int, (∀ k, k < xs.length - 1 → (xs.getD k 0).toNat < 64) → ((List.range (xs.length - 1)).all fun k => emB P (xs.getD k 0).toNat) = ((List.range (xs.length - 1)).all fun k => emB Q (xs.getD k 0).toNat) := fun xs hxs => by
    rw [Bool.eq_iff_iff, List.all_eq_true, List.all_eq_true]
    constructor
    · intro H k hk
      rw [← em_likeS h _ (hxs k (List.mem_range.1 hk))]; exact H k hk
    · intro H k hk
      rw [em_likeS h _ (hxs k (List.mem_range.1 hk))]; exact H k hk
  have hw : ∀ j, j < 4 → (∀ k, k < (wayJ j).length - 1 → ((wayJ j).getD k 0).toNat < 64) ∧ cornJ j < 64 := by decide
  unfold clrB
  rw [hx _ (hw j hj).1, h.k (hw j hj).2, h.d (hw j hj).2]
theorem cst_likeS {P Q : Nat → Int} (h : LikeS P Q) (s : Int) (j : Nat) (hj : j < 4) : cstB P s j = cstB Q s j := by
  unfold cstB hasB
  rw [clr_likeS h j hj, h.sd, h.cas]
theorem castles_likeS {P Q : Nat → Int} (h : LikeS P Q) (s : Int) (n : Nat) (hn : n ≤ 4) : castlesL P s n = castlesL Q s n := by
  induction n with
  | zero => rfl
  | succ n ih => unfold castlesL; rw [ih (by omega), cst_likeS h s n (by omega)]
theorem hand_likeS {P Q : Nat → Int} (h : LikeS P Q) : LikeS (handP P) (handP Q) := fun i hi => by
  unfold handP
  rw [h.cas]
  by_cases e : i = 129
  · subst e; rw [setN_at, setN_at]
  · rw [setN_off _ _ _ _ e, setN_off _ _ _ _ e]; exact h i hi
theorem flt_likeS {P Q : Nat → Int} (h : LikeS P Q) (s n : Nat) (k : Int) (hs : s < 64) : fltN P (s : Int) (n : Int) k = fltN Q (s : Int) (n : Int) k := by
  unfold fltN
  rw [Int.toNat_natCast, Int.toNat_natCast, own_likeS h s hs, bec_likeS h s n hs]
theorem lng_likeS {P Q : Nat → Int} (h : LikeS P Q) (f t : Nat) (hf : f < 64) : lngB P f t = lngB Q f t := by unfold lngB; rw [pwn_likeS h f hf, rk_likeS h, rk_likeS h]
theorem csX_likeS {P Q : Nat → Int} (h : LikeS P Q) (f t j : Nat) (hf : f < 64) : csX P f t j = csX Q f t j := by unfold csX; rw [h.cas, h.k hf, h.d hf]
theorem csI_likeS {P Q : Nat → Int} (h : LikeS P Q) (f t n : Nat) (hf : f < 64) : csI P f t n = csI Q f t n := by
  induction n with
  | zero => rfl
  | succ n ih => unfold csI; rw [ih, csX_likeS h f t n hf]
theorem cnt_pcS {P Q : Nat → Int} (h : LikeS P Q) (z : Bool) : PcE (cntN P z) (cntN Q z) := fun s hs => by
  rw [cnt_off _ _ _ (by omega) (by omega), cnt_off _ _ _ (by omega) (by omega), cnt_off _ _ _ (by omega) (by omega), cnt_off _ _ _ (by omega) (by omega)]
  exact ⟨h.k hs, h.d hs⟩
theorem way_inS (s n : Nat) (hs : s < 64) (hn : n < 64) : ∀ i, i < 2 → ∃ x : Nat, x < 64 ∧ wayF (s : Int) (((s : Int) + (n : Int)) / 2) i = (x : Int) := fun i _ => by
  unfold wayF
  split
  · exact ⟨s, hs, rfl⟩
  · exact ⟨(s + n) / 2, by omega, by omega⟩
theorem badC_likeS {P Q : Nat → Int} (h : LikeS P Q) (s n : Nat) (hs : s < 64) (hn : n < 64) : badC P s n = badC Q s n := by
  unfold badC cstM freeB
  rw [h (s * 2) (by omega), h.sd, isAt_likeS h _ _ 2 (way_inS s n hs hn)]
end Go.Proofs.YtcdnakbdajbfoaaGreatDoor

namespace Go.Proofs.YtcdnakbdajbfoaaGreatDoor
open Go.RowKit Go.Sort
set_option linter.unusedSimpArgs false
set_option linter.unusedVariables false
set_option maxRecDepth 20000

def Like (P Q : Nat → Int) : Prop := ∀ i, i < 131 → P i = Q i
theorem Like.k {P Q : Nat → Int} (h : Like P Q) {s : Nat} (hs : s < 64) : P (2 * s) = Q (2 * s) := h _ (by omega)
theorem Like.d {P Q : Nat → Int} (h : Like P Q) {s : Nat} (hs : s < 64) : P (2 * s + 1) = Q (2 * s + 1) := h _ (by omega)
theorem Like.sd {P Q : Nat → Int} (h : Like P Q) : P 128 = Q 128 := h _ (by omega)
theorem Like.cas {P Q : Nat → Int} (h : Like P Q) : P 129 = Q 129 := h _ (by omega)
theorem Like.ov {P Q : Nat → Int} (h : Like P Q) : P 130 = Q 130 := h _ (by omega)
theorem Like.symm {P Q : Nat → Int} (h : Like P Q) : Like Q P := fun i hi => (h i hi).symm
theorem occ_like {P Q : Nat → Int} (h : Like P Q) (s : Nat) (hs : s < 64) : occS P s = occS Q s := by unfold occS; rw [h.k hs, h.d hs]
theorem em_like {P Q : Nat → Int} (h : Like P Q) (s : Nat) (hs : s < 64) : emB P s = emB Q s := by unfold emB; rw [h.k hs, h.d hs]
theorem open_like {P Q : Nat → Int} (h : Like P Q) (a b : Nat) (ha : a < 64) (hb : b < 64) (hg : good a b = true) : openB P a b = openB Q a b := by
  unfold openB
  rw [Bool.eq_iff_iff, List.all_eq_true, List.all_eq_true]
  constructor
  · intro H s hs
    have := H s hs
    rwa [occ_like h s (bet_lt a b ha hb hg s hs)] at this
  · intro H s hs
    have := H s hs
    rwa [← occ_like h s (bet_lt a b ha hb hg s hs)] at this
theorem att_like {P Q : Nat → Int} (h : Like P Q) (a b : Nat) (ha : a < 64) (hb : b < 64) : attR P a b = attR Q a b := by
  unfold attR
  rw [h.k ha, h.d ha]
  generalize Q (2 * a) = k
  generalize Q (2 * a + 1) = d
  unfold attK
  cases hab : a == b
  · have hgood : good a b = (fD a b == 0 || rD a b == 0 || absI (fD a b) == absI (rD a b)) := by unfold good; rw [hab]; rfl
    have hop : ∀ c : Bool, (c = true → good a b = true) → (c && openB P a b) = (c && openB Q a b) := by
      intro c hc
      cases c
      · rfl
      · rw [open_like h a b ha hb (hc rfl)]
    congr 1
    unfold kindB
    by_cases h1 : k = 1
    · rw [if_pos h1, if_pos h1]
    rw [if_neg h1, if_neg h1]
    by_cases h2 : k = 2
    · rw [if_pos h2, if_pos h2]
    rw [if_neg h2, if_neg h2]
    by_cases h6 : k = 6
    · rw [if_pos h6, if_pos h6]
    rw [if_neg h6, if_neg h6]
    by_cases h4 : k = 4
    · rw [if_pos h4, if_pos h4]
      exact hop _ fun hc => by rw [hgood]; simp only [Bool.or_eq_true] at hc ⊢; exact .inl hc
    rw [if_neg h4, if_neg h4]
    by_cases h3 : k = 3
    · rw [if_pos h3, if_pos h3]
      exact hop _ fun hc => by rw [hgood, hc, Bool.or_true]
    rw [if_neg h3, if_neg h3]
    exact hop _ fun hc => by rw [hgood]; exact hc
  · simp
theorem atk_like {P Q : Nat → Int} (h : Like P Q) (s : Nat) (hs : s < 64) (d : Int) : atkL P (s : Int) d ≠ [] ↔ atkL Q (s : Int) d ≠ [] := by
  rw [atk_iff P s hs, atk_iff Q s hs]
  constructor
  · rintro ⟨a, ha, h1, h2⟩
    exact ⟨a, ha, by rw [← h.d ha]; exact h1, by rw [← att_like h a s ha hs]; exact h2⟩
  · rintro ⟨a, ha, h1, h2⟩
    exact ⟨a, ha, by rw [h.d ha]; exact h1, by rw [att_like h a s ha hs]; exact h2⟩
theorem isAt_like {P Q : Nat → Int} (h : Like P Q) (d : Int) (f : Nat → Int) (n : Nat) (hf : ∀ i, i < n → ∃ s : Nat, s < 64 ∧ f i = (s : Int)) : isAt P d f n = isAt Q d f n := by
  rw [Bool.eq_iff_iff, isAt_iff, isAt_iff]
  constructor
  · rintro ⟨i, hi, h1⟩
    obtain ⟨s, hs, e⟩ := hf i hi
    rw [e] at h1
    exact ⟨i, hi, by rw [e]; exact (atk_like h s hs d).1 h1⟩
  · rintro ⟨i, hi, h1⟩
    obtain ⟨s, hs, e⟩ := hf i hi
    rw [e] at h1
    exact ⟨i, hi, by rw [e]; exact (atk_like h s hs d).2 h1⟩
theorem chk_like {P Q : Nat → Int} (h : Like P Q) (d : Int) : chkB P d = chkB Q d := by
  by_cases hd : d = 0 ∨ d = 1
  · rw [Bool.eq_iff_iff, chk_iff P d hd, chk_iff Q d hd]
    constructor
    · rintro ⟨s, a, hs, ha, h1, h2, h3, h4⟩
      exact ⟨s, a, hs, ha, by rw [← h.k hs]; exact h1, by rw [← h.d hs]; exact h2, by rw [← h.d ha]; exact h3, by rw [← att_like h a s ha hs]; exact h4⟩
    · rintro ⟨s, a, hs, ha, h1, h2, h3, h4⟩
      exact ⟨s, a, hs, ha, by rw [h.k hs]; exact h1, by rw [h.d hs]; exact h2, by rw [h.d ha]; exact h3, by rw [att_like h a s ha hs]; exact h4⟩
  · have : sideB d = false := by unfold sideB; simp; omega
    unfold chkB
    rw [this, Bool.false_and, Bool.false_and]
theorem pwn_like {P Q : Nat → Int} (h : Like P Q) (s : Nat) (hs : s < 64) : pwnB P s = pwnB Q s := by unfold pwnB; rw [h.k hs]
theorem rk_like {P Q : Nat → Int} (h : Like P Q) (s : Nat) : rkN P s = rkN Q s := by unfold rkN; rw [h.sd]
theorem own_like {P Q : Nat → Int} (h : Like P Q) (s : Nat) (hs : s < 64) : ownB P s = ownB Q s := by unfold ownB; rw [h.sd, h.k hs, h.d hs]
theorem bec_like {P Q : Nat → Int} (h : Like P Q) (f t : Nat) (hf : f < 64) (k : Int) : becB P f t k = becB Q f t k := by unfold becB; rw [pwn_like h f hf, rk_like h]
theorem last_like {P Q : Nat → Int} (h : Like P Q) (f t : Nat) (hf : f < 64) : lastB P f t = lastB Q f t := by unfold lastB; rw [pwn_like h f hf, rk_like h]
theorem on_like {P Q : Nat → Int} (h : Like P Q) : onN P = onN Q := by unfold onN; rw [h.sd]
theorem upW_like {P Q : Nat → Int} (h : Like P Q) (on : Int) (n : Nat) : ∀ a, upW P on n a = upW Q on n a := by
  induction n with
  | zero => intro a; rfl
  | succ n ih =>
    intro a
    unfold upW
    cases hs : sq a
    · simp
    · have := (sq_iff a).1 hs
      rw [em_like h a.toNat (by omega), ih]
theorem ahead_like {P Q : Nat → Int} (h : Like P Q) (s : Nat) : aheadL P s = aheadL Q s := by unfold aheadL farN; rw [on_like h, rk_like h, upW_like h]
theorem moth_like {P Q : Nat → Int} (h : Like P Q) (s : Nat) (hs : s < 64) : mothB P s = mothB Q s := by unfold mothB; rw [em_like h s hs, h.d hs, h.sd]
theorem mown_like {P Q : Nat → Int} (h : Like P Q) (s : Nat) (hs : s < 64) : mownB P s = mownB Q s := by unfold mownB; rw [em_like h s hs, h.d hs, h.sd]
theorem slant_like {P Q : Nat → Int} (h : Like P Q) (s : Nat) (hs : s < 64) : slantB P s = slantB Q s := by unfold slantB; rw [moth_like h s hs, em_like h s hs, h.ov]
theorem clr_like {P Q : Nat → Int} (h : Like P Q) (j : Nat) (hj : j < 4) (d : Int) : clrB P (wayJ j) (cornJ j) d = clrB Q (wayJ j) (cornJ j) d := by
  have hx : ∀ xs : List Int, (∀ k, k < xs.length - 1 → (xs.getD k 0).toNat < 64) → ((List.range (xs.length - 1)).all fun k => emB P (xs.getD k 0).toNat) = ((List.range (xs.length - 1)).all fun k => emB Q (xs.getD k 0).toNat) := fun xs hxs => by
    rw [Bool.eq_iff_iff, List.all_eq_true, List.all_eq_true]
    constructor
    · intro H k hk
      rw [← em_like h _ (hxs k (List.mem_range.1 hk))]; exact H k hk
    · intro H k hk
      rw [em_like h _ (hxs k (List.mem_range.1 hk))]; exact H k hk
  have hw : ∀ j, j < 4 → (∀ k, k < (wayJ j).length - 1 → ((wayJ j).getD k 0).toNat < 64) ∧ cornJ j < 64 := by decide
  unfold clrB
  rw [hx _ (hw j hj).1, h.k (hw j hj).2, h.d (hw j hj).2]
theorem cst_like {P Q : Nat → Int} (h : Like P Q) (s : Int) (j : Nat) (hj : j < 4) : cstB P s j = cstB Q s j := by
  unfold cstB hasB
  rw [clr_like h j hj, h.sd, h.cas]
theorem castles_like {P Q : Nat → Int} (h : Like P Q) (s : Int) (n : Nat) (hn : n ≤ 4) : castlesL P s n = castlesL Q s n := by
  induction n with
  | zero => rfl
  | succ n ih => unfold castlesL; rw [ih (by omega), cst_like h s n (by omega)]
theorem go_like {P Q : Nat → Int} (h : Like P Q) (s t : Nat) (hs : s < 64) (ht : t < 64) : goB P s t = goB Q s t := by
  unfold goB
  rw [h.k hs, ahead_like h, att_like h s t hs ht, slant_like h t ht, mown_like h t ht, castles_like h _ 4 (by omega)]
theorem up_congr (p q : Nat → Bool) (n : Nat) (h : ∀ i, i < n → p i = q i) : upList p n = upList q n := by
  unfold upList
  rw [List.filter_congr fun x hx => h x (List.mem_range.1 hx)]
theorem all_like {P Q : Nat → Int} (h : Like P Q) : allM P = allM Q := by
  rw [allM_up, allM_up, up_congr (ownB P) (ownB Q) 64 fun i hi => own_like h i hi]
  simp only [List.flatMap_def]
  refine congrArg List.flatten (List.map_congr_left fun x hx => ?_)
  obtain ⟨i, hi, _, rfl⟩ := (upList_mem _ _ _).1 hx
  simp only [Int.toNat_natCast]
  rw [up_congr (goB P i) (goB Q i) 64 fun t ht => go_like h i t hi ht]
  unfold putL
  simp only [List.flatMap_def]
  refine congrArg List.flatten (List.map_congr_left fun y _ => ?_)
  unfold oneM
  rw [last_like h i _ hi]
theorem hand_like {P Q : Nat → Int} (h : Like P Q) : Like (handP P) (handP Q) := fun i hi => by
  unfold handP
  rw [h.cas]
  by_cases e : i = 129
  · subst e; rw [setN_at, setN_at]
  · rw [setN_off _ _ _ _ e, setN_off _ _ _ _ e]; exact h i hi
theorem flt_like {P Q : Nat → Int} (h : Like P Q) (s n : Nat) (k : Int) (hs : s < 64) : fltN P (s : Int) (n : Int) k = fltN Q (s : Int) (n : Int) k := by
  unfold fltN
  rw [Int.toNat_natCast, Int.toNat_natCast, own_like h s hs, bec_like h s n hs]
theorem ovrB_like {P Q : Nat → Int} (h : Like P Q) (f t : Nat) (hf : f < 64) (ht : t < 64) : ovrB P f t = ovrB Q f t := by unfold ovrB; rw [pwn_like h f hf, h.ov, em_like h t ht]
theorem tks_like {P Q : Nat → Int} (h : Like P Q) (f t : Nat) (hf : f < 64) (ht : t < 64) : tksN P f t = tksN Q f t := by
  have e : atN P f t = atN Q f t := by unfold atN; rw [ovrB_like h f t hf ht]
  unfold tksN
  rw [e, em_like h _ (atN_lt Q f t hf ht)]
theorem lng_like {P Q : Nat → Int} (h : Like P Q) (f t : Nat) (hf : f < 64) : lngB P f t = lngB Q f t := by unfold lngB; rw [pwn_like h f hf, rk_like h, rk_like h]
theorem csX_like {P Q : Nat → Int} (h : Like P Q) (f t j : Nat) (hf : f < 64) : csX P f t j = csX Q f t j := by unfold csX; rw [h.cas, h.k hf, h.d hf]
theorem csI_like {P Q : Nat → Int} (h : Like P Q) (f t n : Nat) (hf : f < 64) : csI P f t n = csI Q f t n := by
  induction n with
  | zero => rfl
  | succ n ih => unfold csI; rw [ih, csX_like h f t n hf]
theorem cnt_pc {P Q : Nat → Int} (h : Like P Q) (z : Bool) : PcE (cntN P z) (cntN Q z) := fun s hs => by
  rw [cnt_off _ _ _ (by omega) (by omega), cnt_off _ _ _ (by omega) (by omega), cnt_off _ _ _ (by omega) (by omega), cnt_off _ _ _ (by omega) (by omega)]
  exact ⟨h.k hs, h.d hs⟩
theorem put_pc {P Q : Nat → Int} (h : PcE P Q) (f t : Nat) (k tk : Int) (hf : f < 64) : PcE (putM P f t k tk) (putM Q f t k tk) := fun s hs => by
  rw [put_k, put_k, put_d, put_d, (h f hf).1, (h f hf).2, (h s hs).1, (h s hs).2]
  exact ⟨rfl, rfl⟩
theorem pt_pc {P Q : Nat → Int} (h : PcE P Q) (m : Nat) (k d : Int) : PcE (ptN P m k d) (ptN Q m k d) := fun s hs => by
  rw [ptN_k, ptN_k, ptN_d, ptN_d, (h s hs).1, (h s hs).2]
  exact ⟨rfl, rfl⟩
theorem rkk_pc {P Q : Nat → Int} (h : PcE P Q) (f t : Nat) (o : Option Nat) : PcE (rkkN P f t o) (rkkN Q f t o) := by
  cases o with
  | none => exact h
  | some j => exact pt_pc (pt_pc h _ _ _) _ _ _
theorem pcs_pc {P Q : Nat → Int} (h : Like P Q) (f t : Nat) (k : Int) (hf : f < 64) (ht : t < 64) : PcE (pcsN P f t k) (pcsN Q f t k) := by
  unfold pcsN
  rw [pwn_like h f hf, tks_like h f t hf ht, csI_like h f t 4 hf]
  exact rkk_pc (put_pc (cnt_pc h _) _ _ _ _ hf) _ _ _
theorem cm_like {P Q : Nat → Int} (h : Like P Q) (f t : Nat) (k : Int) (hf : f < 64) (ht : t < 64) : Like (cmN P f t k) (cmN Q f t k) := fun i hi => by
  by_cases h1 : i < 128
  · have hp := pcs_pc h f t k hf ht (i / 2) (by omega)
    rcases (show i = 2 * (i / 2) ∨ i = 2 * (i / 2) + 1 by omega) with e | e
    · rw [e, cm_k _ _ _ _ _ (by omega), cm_k _ _ _ _ _ (by omega)]; exact hp.1
    · rw [e, cm_d _ _ _ _ _ (by omega), cm_d _ _ _ _ _ (by omega)]; exact hp.2
  · unfold cmN
    rcases (show i = 128 ∨ i = 129 ∨ i = 130 by omega) with rfl | rfl | rfl
    · rw [lst_side, lst_side, pcs_end _ _ _ _ hf ht _ (by omega), pcs_end _ _ _ _ hf ht _ (by omega), cnt_off _ _ _ (by omega) (by omega), cnt_off _ _ _ (by omega) (by omega), h.sd]
    · rw [lst_cas, lst_cas, pcs_end _ _ _ _ hf ht _ (by omega), pcs_end _ _ _ _ hf ht _ (by omega), cnt_off _ _ _ (by omega) (by omega), cnt_off _ _ _ (by omega) (by omega), h.cas]
    · rw [lst_over, lst_over]
      unfold ovrN
      rw [lng_like h f t hf]
theorem mv_like {P Q : Nat → Int} (h : Like P Q) (s n : Nat) (k : Int) (hs : s < 64) (hn : n < 64) : Like (mvP P (s : Int) (n : Int) k) (mvP Q (s : Int) (n : Int) k) := by
  unfold mvP
  rw [flt_like (hand_like h) s n k hs, Int.toNat_natCast, Int.toNat_natCast]
  split
  · exact cm_like (hand_like h) s n k hs hn
  · exact fun _ _ => rfl
theorem way_in (s n : Nat) (hs : s < 64) (hn : n < 64) : ∀ i, i < 2 → ∃ x : Nat, x < 64 ∧ wayF (s : Int) (((s : Int) + (n : Int)) / 2) i = (x : Int) := fun i _ => by
  unfold wayF
  split
  · exact ⟨s, hs, rfl⟩
  · exact ⟨(s + n) / 2, by omega, by omega⟩
theorem badC_like {P Q : Nat → Int} (h : Like P Q) (s n : Nat) (hs : s < 64) (hn : n < 64) : badC P s n = badC Q s n := by
  unfold badC cstM freeB
  rw [h (s * 2) (by omega), h.sd, isAt_like h _ _ 2 (way_in s n hs hn)]
theorem okM_like {P Q : Nat → Int} (h : Like P Q) (s n : Nat) (k : Int) (hs : s < 64) (hn : n < 64) : okM P s n k = okM Q s n k := by
  unfold okM badQ
  rw [badC_like h s n hs hn, flt_like (hand_like h) s n k hs, chk_like (mv_like h s n k hs hn), h.sd]
theorem nx_like {P Q : Nat → Int} (h : Like P Q) (s n : Nat) (k : Int) (hs : s < 64) (hn : n < 64) : Like (nxP P s n k) (nxP Q s n k) := by
  unfold nxP
  rw [okM_like h s n k hs hn]
  split
  · exact mv_like h s n k hs hn
  · exact fun _ _ => rfl
theorem leg_like {P Q : Nat → Int} (h : Like P Q) : legM P = legM Q := by
  unfold legM
  rw [all_like h]
  refine List.filter_congr fun m hm => ?_
  obtain ⟨s, n, hv⟩ := allM_mem Q m hm
  unfold okL
  rw [hv.f, hv.t, Int.toNat_natCast, Int.toNat_natCast, okM_like h s n _ hv.hs hv.hn]
theorem leg_all (P : Nat → Int) (m : Int × Int × Int) (h : m ∈ legM P) : m ∈ allM P := (List.mem_filter.1 h).1
end Go.Proofs.YtcdnakbdajbfoaaGreatDoor

namespace Go.Proofs.YtcdnakbdajbfoaaGreatDoor
open Go.RowKit Go.Sort
set_option linter.unusedSimpArgs false
set_option linter.unusedVariables false
set_option maxRecDepth 20000

theorem lessM_not {a b : Int × Int × Int} (h : lessM a b) : ¬ lessM b a := fun h2 => by
  have := lessV_not _ _ _ _ _ _ h
  unfold lessM at h2
  rw [this] at h2; cases h2
theorem rise_eq : ∀ {l1 l2 : List (Int × Int × Int)}, l1.Pairwise lessM → l2.Pairwise lessM → (∀ x, x ∈ l1 ↔ x ∈ l2) → l1 = l2
  | [], [], _, _, _ => rfl
  | [], b :: l, _, _, h => absurd ((h b).2 (List.mem_cons_self ..)) (by simp)
  | a :: l, [], _, _, h => absurd ((h a).1 (List.mem_cons_self ..)) (by simp)
  | a :: l1, b :: l2, h1, h2, h => by
    obtain ⟨p1, q1⟩ := List.pairwise_cons.1 h1
    obtain ⟨p2, q2⟩ := List.pairwise_cons.1 h2
    have hab : a = b := by
      rcases List.mem_cons.1 ((h a).1 (List.mem_cons_self ..)) with e | e
      · exact e
      · rcases List.mem_cons.1 ((h b).2 (List.mem_cons_self ..)) with e2 | e2
        · exact e2.symm
        · exact absurd (p2 a e) (lessM_not (p1 b e2))
    subst hab
    refine congrArg _ (rise_eq q1 q2 fun x => ⟨fun hx => ?_, fun hx => ?_⟩)
    · rcases List.mem_cons.1 ((h x).1 (List.mem_cons_of_mem _ hx)) with e | e
      · subst e; exact absurd (p1 x hx) (fun e => lessM_not e e)
      · exact e
    · rcases List.mem_cons.1 ((h x).2 (List.mem_cons_of_mem _ hx)) with e | e
      · subst e; exact absurd (p2 x hx) (fun e => lessM_not e e)
      · exact e
theorem leg_rise (P : Nat → Int) : (legM P).Pairwise lessM := (allM_rise P).filter _
theorem Like.s {P Q : Nat → Int} (h : Like P Q) : LikeS P Q := fun i hi => h i (by omega)
theorem LikeS.full {P Q : Nat → Int} (h : LikeS P Q) (ho : P 130 = Q 130) : Like P Q := fun i hi => by
  by_cases e : i = 130
  · subst e; exact ho
  · exact h i (by omega)
theorem pawn_em (P : Nat → Int) (s n : Nat) (hg : goB P s n = true) (hp : pwnB P s = true) (hf : smF s n = false) (he : emB P n = true) : (n : Int) = P 130 := by
  unfold pwnB at hp
  have hk : P (2 * s) = 1 := by simpa using hp
  unfold goB at hg
  rw [if_pos hk, Bool.or_eq_true] at hg
  rcases hg with h | h
  · exfalso
    have h2 := (aheadL_mem P s _ (List.contains_iff_mem.1 h)).2
    have h3 := onN_or P
    have : s % 8 = n % 8 := by omega
    unfold smF at hf
    rw [this] at hf; simp at hf
  · rw [Bool.and_eq_true] at h
    have h2 := h.2
    unfold slantB mothB at h2
    rw [he] at h2
    simpa using h2
theorem go_over {P Q : Nat → Int} (h : LikeS P Q) (s t : Nat) (hs : s < 64) (ht : t < 64) (h1 : ovrB P s t = false) (h2 : ovrB Q s t = false) : goB P s t = goB Q s t := by
  unfold goB
  rw [h.k hs, ahead_likeS h, att_likeS h s t hs ht, mown_likeS h t ht, castles_likeS h _ 4 (by omega)]
  by_cases hk : Q (2 * s) = 1
  · rw [if_pos hk, if_pos hk]
    cases ha : attR Q s t
    · rfl
    · have hf := attR_pawn Q s t hk ha
      have hm : smF s t = false := by unfold smF; simpa using hf
      unfold ovrB at h1 h2
      have p1 : pwnB P s = true := by unfold pwnB; rw [h.k hs, hk]; rfl
      have p2 : pwnB Q s = true := by unfold pwnB; rw [hk]; rfl
      rw [p1, hm] at h1
      rw [p2, hm] at h2
      simp only [Bool.not_false, Bool.true_and] at h1 h2
      unfold slantB
      rw [h1, h2, moth_likeS h t ht]
  · rw [if_neg hk, if_neg hk]
theorem hand_ovr (P : Nat → Int) (f t : Nat) (hf : f < 64) (ht : t < 64) : ovrB (handP P) f t = ovrB P f t := by
  unfold ovrB pwnB emB
  rw [hand_off P 130 (by omega), hand_off P _ (by omega), hand_off P _ (by omega), hand_off P _ (by omega)]
theorem tks_over {P Q : Nat → Int} (h : LikeS P Q) (f t : Nat) (hf : f < 64) (ht : t < 64) (h1 : ovrB P f t = false) (h2 : ovrB Q f t = false) : tksN P f t = tksN Q f t := by
  unfold tksN atN
  rw [h1, h2]
  simp only [Bool.false_eq_true, if_false]
  rw [em_likeS h t ht]
theorem pcs_over {P Q : Nat → Int} (h : LikeS P Q) (f t : Nat) (k : Int) (hf : f < 64) (ht : t < 64) (h1 : ovrB P f t = false) (h2 : ovrB Q f t = false) : PcE (pcsN P f t k) (pcsN Q f t k) := by
  unfold pcsN
  rw [pwn_likeS h f hf, tks_over h f t hf ht h1 h2, csI_likeS h f t 4 hf]
  exact rkk_pc (put_pc (cnt_pcS h _) _ _ _ _ hf) _ _ _
theorem cm_over {P Q : Nat → Int} (h : LikeS P Q) (f t : Nat) (k : Int) (hf : f < 64) (ht : t < 64) (h1 : ovrB P f t = false) (h2 : ovrB Q f t = false) : Like (cmN P f t k) (cmN Q f t k) := fun i hi => by
  by_cases h3 : i < 128
  · have hp := pcs_over h f t k hf ht h1 h2 (i / 2) (by omega)
    rcases (show i = 2 * (i / 2) ∨ i = 2 * (i / 2) + 1 by omega) with e | e
    · rw [e, cm_k _ _ _ _ _ (by omega), cm_k _ _ _ _ _ (by omega)]; exact hp.1
    · rw [e, cm_d _ _ _ _ _ (by omega), cm_d _ _ _ _ _ (by omega)]; exact hp.2
  · unfold cmN
    rcases (show i = 128 ∨ i = 129 ∨ i = 130 by omega) with rfl | rfl | rfl
    · rw [lst_side, lst_side, pcs_end _ _ _ _ hf ht _ (by omega), pcs_end _ _ _ _ hf ht _ (by omega), cnt_off _ _ _ (by omega) (by omega), cnt_off _ _ _ (by omega) (by omega), h.sd]
    · rw [lst_cas, lst_cas, pcs_end _ _ _ _ hf ht _ (by omega), pcs_end _ _ _ _ hf ht _ (by omega), cnt_off _ _ _ (by omega) (by omega), cnt_off _ _ _ (by omega) (by omega), h.cas]
    · rw [lst_over, lst_over]
      unfold ovrN
      rw [lng_likeS h f t hf]
theorem mv_over {P Q : Nat → Int} (h : LikeS P Q) (s n : Nat) (k : Int) (hs : s < 64) (hn : n < 64) (h1 : ovrB P s n = false) (h2 : ovrB Q s n = false) : Like (mvP P (s : Int) (n : Int) k) (mvP Q (s : Int) (n : Int) k) := by
  unfold mvP
  rw [flt_likeS (hand_likeS h) s n k hs, Int.toNat_natCast, Int.toNat_natCast]
  split
  · exact cm_over (hand_likeS h) s n k hs hn (by rw [hand_ovr _ _ _ hs hn]; exact h1) (by rw [hand_ovr _ _ _ hs hn]; exact h2)
  · exact fun _ _ => rfl
theorem okM_over {P Q : Nat → Int} (h : LikeS P Q) (s n : Nat) (k : Int) (hs : s < 64) (hn : n < 64) (h1 : ovrB P s n = false) (h2 : ovrB Q s n = false) : okM P s n k = okM Q s n k := by
  unfold okM badQ
  rw [badC_likeS h s n hs hn, flt_likeS (hand_likeS h) s n k hs, chk_like (mv_over h s n k hs hn h1 h2), h.sd]
theorem nx_over {P Q : Nat → Int} (h : LikeS P Q) (s n : Nat) (k : Int) (hs : s < 64) (hn : n < 64) (h1 : ovrB P s n = false) (h2 : ovrB Q s n = false) : Like (nxP P s n k) (nxP Q s n k) := by
  unfold nxP
  rw [okM_over h s n k hs hn h1 h2]
  split
  · exact mv_over h s n k hs hn h1 h2
  · exact fun _ _ => rfl
def tkO (P : Nat → Int) : Int := if P 130 = -1 then -1 else if (lmM P).any (fun m => ovrB P m.1.toNat m.2.1.toNat) then P 130 else -1
theorem tkO_none (P : Nat → Int) (hp : posB P = true) (h : tkO P = -1) (m : Int × Int × Int) (s n : Nat) (hm : MvOk P m s n) (ho : okM P s n m.2.2 = true) : ovrB P s n = false := by
  cases e : ovrB P s n
  · rfl
  · exfalso
    have e0 := e
    unfold ovrB at e
    simp only [Bool.and_eq_true, beq_iff_eq] at e
    have h1 : P 130 ≠ -1 := by omega
    unfold tkO at h
    rw [if_neg h1] at h
    have ha : (lmM P).any (fun m => ovrB P m.1.toNat m.2.1.toNat) = true := by
      refine List.any_eq_true.2 ⟨m, ?_, by rw [hm.f, hm.t, Int.toNat_natCast, Int.toNat_natCast]; exact e0⟩
      unfold lmM
      rw [if_pos hp]
      exact (leg_mem P m s n hm).2 ho
    rw [if_pos ha] at h
    exact h1 h
theorem leg_to {P Q : Nat → Int} (h : LikeS P Q) (hp : posB P = true) (hn : tkO P = -1) (m : Int × Int × Int) (hm : m ∈ legM P) : m ∈ legM Q ∧ ∃ s n, MvOk P m s n ∧ ovrB P s n = false ∧ ovrB Q s n = false := by
  obtain ⟨s, n, hv⟩ := allM_mem P m (leg_all P m hm)
  have hok := (leg_mem P m s n hv).1 hm
  have h1 := tkO_none P hp hn m s n hv hok
  have h2 : ovrB Q s n = false := by
    cases e : ovrB Q s n
    · rfl
    · exfalso
      unfold ovrB at e
      simp only [Bool.and_eq_true, Bool.not_eq_true'] at e
      have hp1 : pwnB P s = true := by rw [pwn_likeS h s hv.hs]; exact e.1.1.1
      have he1 : emB P n = true := by rw [em_likeS h n hv.hn]; exact e.2
      have := pawn_em P s n hv.g hp1 e.1.1.2 he1
      unfold ovrB at h1
      rw [hp1, e.1.1.2, he1, this] at h1
      simp at h1
  have hq : MvOk Q m s n := ⟨hv.f, hv.t, hv.hs, hv.hn, by rw [← own_likeS h s hv.hs]; exact hv.o, by rw [← go_over h s n hv.hs hv.hn h1 h2]; exact hv.g, by rw [← bec_likeS h s n hv.hs]; exact hv.b⟩
  exact ⟨(leg_mem Q m s n hq).2 (by rw [← okM_over h s n _ hv.hs hv.hn h1 h2]; exact hok), s, n, hv, h1, h2⟩
theorem LikeS.back {P Q : Nat → Int} (h : LikeS P Q) : LikeS Q P := fun i hi => (h i hi).symm
theorem same_leg {P Q : Nat → Int} (h : LikeS P Q) (hp : posB P = true) (hq : posB Q = true) (ht : tkO P = tkO Q) :
    legM P = legM Q ∧ ∀ m ∈ legM P, Like (nxP P m.1.toNat m.2.1.toNat m.2.2) (nxP Q m.1.toNat m.2.1.toNat m.2.2) := by
  by_cases ho : P 130 = Q 130
  · have hl := h.full ho
    refine ⟨leg_like hl, fun m hm => ?_⟩
    obtain ⟨s, n, hv⟩ := allM_mem P m (leg_all P m hm)
    rw [hv.f, hv.t, Int.toNat_natCast, Int.toNat_natCast]
    exact nx_like hl s n _ hv.hs hv.hn
  · have hn1 : tkO P = -1 ∧ tkO Q = -1 := by
      have a : tkO P = -1 ∨ tkO P = P 130 := by unfold tkO; split; exact .inl rfl; split; exact .inr rfl; exact .inl rfl
      have b : tkO Q = -1 ∨ tkO Q = Q 130 := by unfold tkO; split; exact .inl rfl; split; exact .inr rfl; exact .inl rfl
      omega
    refine ⟨rise_eq (leg_rise P) (leg_rise Q) fun x => ⟨fun hx => (leg_to h hp hn1.1 x hx).1, fun hx => (leg_to h.back hq hn1.2 x hx).1⟩, fun m hm => ?_⟩
    obtain ⟨_, s, n, hv, h1, h2⟩ := leg_to h hp hn1.1 m hm
    rw [hv.f, hv.t, Int.toNat_natCast, Int.toNat_natCast]
    exact nx_over h s n _ hv.hs hv.hn h1 h2
theorem tkO_like {P Q : Nat → Int} (h : Like P Q) (hp : posB P = posB Q) : tkO P = tkO Q := by
  unfold tkO lmM
  rw [h.ov, hp, leg_like h]
  split
  · rfl
  · have : ((if posB Q = true then legM Q else []).any fun m => ovrB P m.1.toNat m.2.1.toNat) = ((if posB Q = true then legM Q else []).any fun m => ovrB Q m.1.toNat m.2.1.toNat) := by
      split
      · rw [Bool.eq_iff_iff, List.any_eq_true, List.any_eq_true]
        constructor
        · rintro ⟨m, hm, e⟩
          obtain ⟨s, n, hv⟩ := allM_mem Q m (leg_all Q m hm)
          rw [hv.f, hv.t, Int.toNat_natCast, Int.toNat_natCast] at e
          exact ⟨m, hm, by rw [hv.f, hv.t, Int.toNat_natCast, Int.toNat_natCast, ← ovrB_like h s n hv.hs hv.hn]; exact e⟩
        · rintro ⟨m, hm, e⟩
          obtain ⟨s, n, hv⟩ := allM_mem Q m (leg_all Q m hm)
          rw [hv.f, hv.t, Int.toNat_natCast, Int.toNat_natCast] at e
          exact ⟨m, hm, by rw [hv.f, hv.t, Int.toNat_natCast, Int.toNat_natCast, ovrB_like h s n hv.hs hv.hn]; exact e⟩
      · rfl
    rw [this]
end Go.Proofs.YtcdnakbdajbfoaaGreatDoor

namespace Go.Proofs.YtcdnakbdajbfoaaGreatDoor
open Go.RowKit Go.Sort
set_option linter.unusedSimpArgs false
set_option linter.unusedVariables false
set_option maxRecDepth 20000

theorem dec_digit (u : Nat) : ∀ b ∈ Lib.decDigits u, 48 ≤ b.toNat ∧ b.toNat ≤ 57 := by
  induction u using Nat.strongRecOn with
  | _ u ih =>
    by_cases h : u < 10
    · rw [Lib.decDigits_one h]
      intro b hb
      rw [List.mem_singleton.1 hb, UInt8.toNat_ofNat']
      omega
    · rw [Lib.decDigits, dif_neg h]
      intro b hb
      rcases List.mem_append.1 hb with hb | hb
      · exact ih (u / 10) (by omega) b hb
      · rw [List.mem_singleton.1 hb, UInt8.toNat_ofNat']
        omega
def valD (l : List UInt8) : Nat := l.foldl (fun a b => a * 10 + (b.toNat - 48)) 0
theorem valD_dec (u : Nat) : valD (Lib.decDigits u) = u := by
  induction u using Nat.strongRecOn with
  | _ u ih =>
    by_cases h : u < 10
    · rw [Lib.decDigits_one h]
      unfold valD
      simp only [List.foldl_cons, List.foldl_nil, UInt8.toNat_ofNat']
      omega
    · rw [Lib.decDigits, dif_neg h]
      have := ih (u / 10) (by omega)
      unfold valD at this ⊢
      rw [List.foldl_append, this]
      simp only [List.foldl_cons, List.foldl_nil, UInt8.toNat_ofNat']
      omega
theorem dec_inj {u v : Nat} (h : Lib.decDigits u = Lib.decDigits v) : u = v := by rw [← valD_dec u, h, valD_dec]
theorem dec_no (u : Nat) (b : UInt8) (hb : b.toNat < 48) : b ∉ Lib.decDigits u := fun h => by have := dec_digit u b h; omega
theorem itoa_no (n : Int) : (32 : UInt8) ∉ Lib.itoa n := by
  unfold Lib.itoa
  split
  · intro h
    rcases List.mem_cons.1 h with h | h
    · exact absurd h (by decide)
    · exact dec_no _ 32 (by decide) h
  · exact dec_no _ 32 (by decide)
theorem itoa_inj {n m : Int} (h : Lib.itoa n = Lib.itoa m) : n = m := by
  unfold Lib.itoa at h
  split at h <;> split at h
  · have := dec_inj (List.cons.inj h).2; omega
  · exact absurd (h ▸ List.mem_cons_self .. : (45 : UInt8) ∈ Lib.decDigits m.toNat) (dec_no _ 45 (by decide))
  · exact absurd (h ▸ List.mem_cons_self .. : (45 : UInt8) ∈ Lib.decDigits n.toNat) (dec_no _ 45 (by decide))
  · have := dec_inj h; omega
def kyT (l : List Int) : List UInt8 := l.flatMap fun n => Lib.itoa n ++ [32]
theorem kyT_append (l m : List Int) : kyT (l ++ m) = kyT l ++ kyT m := List.flatMap_append ..
theorem kyT_one (n : Int) : kyT [n] = Lib.itoa n ++ [32] := by simp [kyT]
theorem cut_at {α : Type} {x : α} : ∀ {a b r s : List α}, x ∉ a → x ∉ b → a ++ x :: r = b ++ x :: s → a = b ∧ r = s
  | [], [], _, _, _, _, h => ⟨rfl, (List.cons.inj h).2⟩
  | [], c :: b, _, _, _, h2, h => absurd ((List.cons.inj h).1 ▸ List.mem_cons_self ..) h2
  | c :: a, [], _, _, h1, _, h => absurd ((List.cons.inj h).1.symm ▸ List.mem_cons_self ..) h1
  | c :: a, d :: b, _, _, h1, h2, h => by
    obtain ⟨e, h⟩ := List.cons.inj h
    obtain ⟨e2, e3⟩ := cut_at (fun k => h1 (List.mem_cons_of_mem _ k)) (fun k => h2 (List.mem_cons_of_mem _ k)) h
    exact ⟨by rw [e, e2], e3⟩
theorem kyT_inj : ∀ {l m : List Int}, kyT l = kyT m → l = m
  | [], [], _ => rfl
  | [], n :: m, h => by simp [kyT] at h
  | n :: l, [], h => by simp [kyT] at h
  | n :: l, k :: m, h => by
    have h2 : Lib.itoa n ++ 32 :: kyT l = Lib.itoa k ++ 32 :: kyT m := by simpa [kyT, List.append_assoc] using h
    obtain ⟨a, b⟩ := cut_at (itoa_no n) (itoa_no k) h2
    rw [itoa_inj a, kyT_inj b]
theorem kyT_len : ∀ l : List Int, (∀ n ∈ l, -9223372036854775808 ≤ n ∧ n ≤ 9223372036854775807) → (kyT l).length ≤ 22 * l.length
  | [], _ => Nat.le_refl _
  | n :: l, h => by
    have h1 := kyT_len l fun k hk => h k (List.mem_cons_of_mem _ hk)
    have h2 := Lib.itoa_length_le n (h n (List.mem_cons_self ..)).1 (h n (List.mem_cons_self ..)).2
    have e : kyT (n :: l) = Lib.itoa n ++ [32] ++ kyT l := by simp [kyT]
    rw [e]
    simp only [List.length_append, List.length_cons, List.length_nil]
    omega
def uncN (P : Nat → Int) : Nat → Int := setN (setN P 131 0) 132 1
theorem unc_off (P : Nat → Int) (i : Nat) (h : i ≠ 131) (h2 : i ≠ 132) : uncN P i = P i := by unfold uncN setN; rw [if_neg h2, if_neg h]
theorem unc_like (P : Nat → Int) : Like P (uncN P) := fun i hi => (unc_off P i (by omega) (by omega)).symm
theorem okS_congr {P Q : Nat → Int} : ∀ n, (∀ i, i < 2 * n → P i = Q i) → okS P n = okS Q n
  | 0, _ => rfl
  | n + 1, h => by
    unfold okS badP
    rw [okS_congr n fun i hi => h i (by omega), h (2 * n) (by omega), h (2 * n + 1) (by omega)]
theorem cnt_congr {P Q : Nat → Int} (d : Int) : ∀ n, (∀ i, i < 2 * n → P i = Q i) → cnt P d n = cnt Q d n
  | 0, _ => rfl
  | n + 1, h => by
    unfold cnt
    rw [cnt_congr d n fun i hi => h i (by omega), h (2 * n) (by omega), h (2 * n + 1) (by omega)]
theorem home_congr {P Q : Nat → Int} (h : LikeS P Q) (d : Int) (k r : Nat) (hk : k < 64) (hr : r < 64) : homeB P d k r = homeB Q d k r := by
  unfold homeB
  rw [h.k hk, h.d hk, h.k hr, h.d hr]
theorem pieces_congr {P Q : Nat → Int} (h : LikeS P Q) : piecesB P = piecesB Q := by
  unfold piecesB
  rw [okS_congr 64 fun i hi => h i (by omega), cnt_congr 0 64 fun i hi => h i (by omega), cnt_congr 1 64 fun i hi => h i (by omega), h.sd]
theorem cast_congr {P Q : Nat → Int} (h : LikeS P Q) : castB P = castB Q := by
  unfold castB
  rw [h.cas, home_congr h 0 4 7 (by omega) (by omega), home_congr h 0 4 0 (by omega) (by omega), home_congr h 1 60 63 (by omega) (by omega), home_congr h 1 60 56 (by omega) (by omega)]
theorem overC_congr {P Q : Nat → Int} (h : LikeS P Q) (o rank a b : Nat) (d : Int) (ho : o < 64) (ha : a < 64) (hb : b < 64) : overC P o rank a b d = overC Q o rank a b d := by
  unfold overC
  rw [h.k ho, h.d ho, h.k ha, h.d ha, h.k hb, h.d hb]
theorem over_congr {P Q : Nat → Int} (h : Like P Q) (h1 : P 131 = Q 131) : overB P = overB Q := by
  have hs : LikeS P Q := fun i hi => h i (by omega)
  unfold overB
  rw [h.ov, h.sd, h1]
  cases e : sq (Q 130)
  · rfl
  · obtain ⟨o, ho, hq⟩ : ∃ o : Nat, o < 64 ∧ Q 130 = (o : Int) := by
      unfold sq at e
      simp only [Bool.and_eq_true, decide_eq_true_eq] at e
      exact ⟨(Q 130).toNat, by omega, by omega⟩
    rw [hq, Int.toNat_natCast]
    have c1 : overC P o 2 (o - 8) (o + 8) 0 = overC Q o 2 (o - 8) (o + 8) 0 := by
      by_cases h56 : o + 8 < 64
      · exact overC_congr hs o 2 _ _ 0 ho (by omega) h56
      · unfold overC
        have : (o / 8 == 2) = false := by simp; omega
        rw [this]; rfl
    have c2 : overC P o 5 (o + 8) (o - 8) 1 = overC Q o 5 (o + 8) (o - 8) 1 := by
      by_cases h56 : o + 8 < 64
      · exact overC_congr hs o 5 _ _ 1 ho h56 (by omega)
      · unfold overC
        have : (o / 8 == 5) = false := by simp; omega
        rw [this]; rfl
    rw [c1, c2]
theorem pos_congr {P Q : Nat → Int} (h : Like P Q) (h1 : P 131 = Q 131) (h2 : P 132 = Q 132) : posB P = posB Q := by
  unfold posB rightB
  rw [pieces_congr h.s, cast_congr h.s, over_congr h h1, h1, h2, chk_like h, h.sd]
theorem over_unc {P : Nat → Int} (h : overB P = true) : overB (uncN P) = true := by
  have h2 : overB (uncN P) = overB (setN P 131 0) := over_congr (fun i hi => by unfold uncN setN; simp [show i ≠ 132 by omega]) (by unfold uncN setN; simp)
  rw [h2]
  by_cases e : P 131 = 0
  · rw [← h]
    exact (over_congr (fun i hi => by unfold setN; split <;> simp_all) (by unfold setN; simp [e]))
  · unfold overB at h ⊢
    have e0 : (P 131 == 0) = false := by simpa using e
    rw [e0] at h
    have h3 : (P 130 == -1) = true := by cases e3 : P 130 == -1 <;> rw [e3] at h <;> simp at h ⊢
    have e4 : setN P 131 0 130 = P 130 := by unfold setN; simp
    rw [e4, h3]; rfl
theorem pos_unc {P : Nat → Int} (h : posB P = true) : posB (uncN P) = true := by
  unfold posB rightB at h ⊢
  simp only [Bool.and_eq_true] at h
  obtain ⟨⟨⟨⟨⟨⟨⟨a, b⟩, c⟩, -⟩, -⟩, -⟩, -⟩, d⟩ := h
  have hl := unc_like P
  rw [pieces_congr hl.s] at a
  rw [cast_congr hl.s] at b
  rw [chk_like hl, hl.sd] at d
  have e1 : uncN P 131 = 0 := by unfold uncN setN; simp
  have e2 : uncN P 132 = 1 := by unfold uncN setN; simp
  rw [a, b, over_unc c, d, e1, e2]
  rfl
def ovU (P : Nat → Int) : Int := tkO (uncN P)
theorem ovU_pos {P : Nat → Int} (h : posB P = true) : ovU P = tkO P := (tkO_like (unc_like P) (by rw [h, pos_unc h])).symm
theorem ovU_like {P Q : Nat → Int} (h : Like P Q) : ovU P = ovU Q := by
  have h2 : Like (uncN P) (uncN Q) := fun i hi => by rw [unc_off P i (by omega) (by omega), unc_off Q i (by omega) (by omega)]; exact h i hi
  exact tkO_like h2 (pos_congr h2 (by unfold uncN setN; simp) (by unfold uncN setN; simp))
theorem tkO_or (P : Nat → Int) : tkO P = -1 ∨ tkO P = P 130 := by
  unfold tkO
  split
  · exact .inl rfl
  · split
    · exact .inr rfl
    · exact .inl rfl
theorem ovU_or (P : Nat → Int) : ovU P = -1 ∨ ovU P = P 130 := by
  have := tkO_or (uncN P)
  rwa [unc_off P 130 (by omega) (by omega)] at this
def samB (P Q : Nat → Int) : Bool := ((List.range 130).all fun i => P i == Q i) && (ovU P == ovU Q)
theorem samB_iff (P Q : Nat → Int) : samB P Q = true ↔ LikeS P Q ∧ ovU P = ovU Q := by
  unfold samB LikeS
  rw [Bool.and_eq_true, List.all_eq_true, beq_iff_eq]
  constructor
  · rintro ⟨a, b⟩
    exact ⟨fun i hi => by simpa using a i (List.mem_range.2 hi), b⟩
  · rintro ⟨a, b⟩
    exact ⟨fun i hi => by simpa using a i (List.mem_range.1 hi), b⟩
theorem samB_refl (P : Nat → Int) : samB P P = true := (samB_iff P P).2 ⟨fun _ _ => rfl, rfl⟩
theorem samB_like {P Q : Nat → Int} (h : Like P Q) : samB P Q = true := (samB_iff P Q).2 ⟨h.s, ovU_like h⟩
def kyL (P : Nat → Int) : List Int := (List.range 130).map P ++ [ovU P]
def kyB (P : Nat → Int) : List UInt8 := kyT (kyL P)
theorem kyL_len (P : Nat → Int) : (kyL P).length = 131 := by simp [kyL]
theorem kyB_iff (P Q : Nat → Int) : kyB P = kyB Q ↔ samB P Q = true := by
  rw [samB_iff]
  constructor
  · intro h
    have h2 := kyT_inj h
    unfold kyL at h2
    obtain ⟨a, b⟩ := List.append_inj h2 (by simp)
    refine ⟨fun i hi => ?_, (List.cons.inj b).1⟩
    have := List.map_inj_left.1 a i (List.mem_range.2 hi)
    exact this
  · rintro ⟨a, b⟩
    unfold kyB kyL
    rw [b, List.map_congr_left fun i hi => a i (List.mem_range.1 hi)]
end Go.Proofs.YtcdnakbdajbfoaaGreatDoor
