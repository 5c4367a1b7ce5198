/-
  Mathematics of positions that are the same ahead of their counts: the same moves, the same legal moves, the same behind them.
-/
import Derived.Test.YthinkiljhkanhaaGreatDoorRo
import Derived.Test.YthinkiljhkanhaaGreatDoorG26
import Derived.Test.YthinkiljhkanhaaGreatDoorG20
namespace Go.Proofs.YthinkiljhkanhaaGreatDoor
open Go.RowKit Go.Sort
set_option linter.unusedSimpArgs false
set_option linter.unusedVariables false
set_option maxRecDepth 20000

/-- the same ahead of the counts -/
def Like (P Q : Nat → Int) : Prop := ∀ i, i < 131 → P i = Q i
theorem Like.k {P Q : Nat → Int} (h : Like P Q) {s : Nat} (hs : s < 64) : P (2 * s) = Q (2 * s) := h _ (by omega)
theorem Like.d {P Q : Nat → Int} (h : Like P Q) {s : Nat} (hs : s < 64) : P (2 * s + 1) = Q (2 * s + 1) := h _ (by omega)
theorem Like.sd {P Q : Nat → Int} (h : Like P Q) : P 128 = Q 128 := h _ (by omega)
theorem Like.cas {P Q : Nat → Int} (h : Like P Q) : P 129 = Q 129 := h _ (by omega)
theorem Like.ov {P Q : Nat → Int} (h : Like P Q) : P 130 = Q 130 := h _ (by omega)
theorem Like.symm {P Q : Nat → Int} (h : Like P Q) : Like Q P := fun i hi => (h i hi).symm
theorem occ_like {P Q : Nat → Int} (h : Like P Q) (s : Nat) (hs : s < 64) : occS P s = occS Q s := by unfold occS; rw [h.k hs, h.d hs]
theorem em_like {P Q : Nat → Int} (h : Like P Q) (s : Nat) (hs : s < 64) : emB P s = emB Q s := by unfold emB; rw [h.k hs, h.d hs]
theorem open_like {P Q : Nat → Int} (h : Like P Q) (a b : Nat) (ha : a < 64) (hb : b < 64) (hg : good a b = true) : openB P a b = openB Q a b := by
  unfold openB
  rw [Bool.eq_iff_iff, List.all_eq_true, List.all_eq_true]
  constructor
  · intro H s hs
    have := H s hs
    rwa [occ_like h s (bet_lt a b ha hb hg s hs)] at this
  · intro H s hs
    have := H s hs
    rwa [← occ_like h s (bet_lt a b ha hb hg s hs)] at this
theorem att_like {P Q : Nat → Int} (h : Like P Q) (a b : Nat) (ha : a < 64) (hb : b < 64) : attR P a b = attR Q a b := by
  unfold attR
  rw [h.k ha, h.d ha]
  generalize Q (2 * a) = k
  generalize Q (2 * a + 1) = d
  unfold attK
  cases hab : a == b
  · have hgood : good a b = (fD a b == 0 || rD a b == 0 || absI (fD a b) == absI (rD a b)) := by unfold good; rw [hab]; rfl
    have hop : ∀ c : Bool, (c = true → good a b = true) → (c && openB P a b) = (c && openB Q a b) := by
      intro c hc
      cases c
      · rfl
      · rw [open_like h a b ha hb (hc rfl)]
    congr 1
    unfold kindB
    by_cases h1 : k = 1
    · rw [if_pos h1, if_pos h1]
    rw [if_neg h1, if_neg h1]
    by_cases h2 : k = 2
    · rw [if_pos h2, if_pos h2]
    rw [if_neg h2, if_neg h2]
    by_cases h6 : k = 6
    · rw [if_pos h6, if_pos h6]
    rw [if_neg h6, if_neg h6]
    by_cases h4 : k = 4
    · rw [if_pos h4, if_pos h4]
      exact hop _ fun hc => by rw [hgood]; simp only [Bool.or_eq_true] at hc ⊢; exact .inl hc
    rw [if_neg h4, if_neg h4]
    by_cases h3 : k = 3
    · rw [if_pos h3, if_pos h3]
      exact hop _ fun hc => by rw [hgood, hc, Bool.or_true]
    rw [if_neg h3, if_neg h3]
    exact hop _ fun hc => by rw [hgood]; exact hc
  · simp
theorem atk_like {P Q : Nat → Int} (h : Like P Q) (s : Nat) (hs : s < 64) (d : Int) : atkL P (s : Int) d ≠ [] ↔ atkL Q (s : Int) d ≠ [] := by
  rw [atk_iff P s hs, atk_iff Q s hs]
  constructor
  · rintro ⟨a, ha, h1, h2⟩
    exact ⟨a, ha, by rw [← h.d ha]; exact h1, by rw [← att_like h a s ha hs]; exact h2⟩
  · rintro ⟨a, ha, h1, h2⟩
    exact ⟨a, ha, by rw [h.d ha]; exact h1, by rw [att_like h a s ha hs]; exact h2⟩
theorem isAt_like {P Q : Nat → Int} (h : Like P Q) (d : Int) (f : Nat → Int) (n : Nat) (hf : ∀ i, i < n → ∃ s : Nat, s < 64 ∧ f i = (s : Int)) : isAt P d f n = isAt Q d f n := by
  rw [Bool.eq_iff_iff, isAt_iff, isAt_iff]
  constructor
  · rintro ⟨i, hi, h1⟩
    obtain ⟨s, hs, e⟩ := hf i hi
    rw [e] at h1
    exact ⟨i, hi, by rw [e]; exact (atk_like h s hs d).1 h1⟩
  · rintro ⟨i, hi, h1⟩
    obtain ⟨s, hs, e⟩ := hf i hi
    rw [e] at h1
    exact ⟨i, hi, by rw [e]; exact (atk_like h s hs d).2 h1⟩
theorem chk_like {P Q : Nat → Int} (h : Like P Q) (d : Int) : chkB P d = chkB Q d := by
  by_cases hd : d = 0 ∨ d = 1
  · rw [Bool.eq_iff_iff, chk_iff P d hd, chk_iff Q d hd]
    constructor
    · rintro ⟨s, a, hs, ha, h1, h2, h3, h4⟩
      exact ⟨s, a, hs, ha, by rw [← h.k hs]; exact h1, by rw [← h.d hs]; exact h2, by rw [← h.d ha]; exact h3, by rw [← att_like h a s ha hs]; exact h4⟩
    · rintro ⟨s, a, hs, ha, h1, h2, h3, h4⟩
      exact ⟨s, a, hs, ha, by rw [h.k hs]; exact h1, by rw [h.d hs]; exact h2, by rw [h.d ha]; exact h3, by rw [att_like h a s ha hs]; exact h4⟩
  · have : sideB d = false := by unfold sideB; simp; omega
    unfold chkB
    rw [this, Bool.false_and, Bool.false_and]
theorem pwn_like {P Q : Nat → Int} (h : Like P Q) (s : Nat) (hs : s < 64) : pwnB P s = pwnB Q s := by unfold pwnB; rw [h.k hs]
theorem rk_like {P Q : Nat → Int} (h : Like P Q) (s : Nat) : rkN P s = rkN Q s := by unfold rkN; rw [h.sd]
theorem own_like {P Q : Nat → Int} (h : Like P Q) (s : Nat) (hs : s < 64) : ownB P s = ownB Q s := by unfold ownB; rw [h.sd, h.k hs, h.d hs]
theorem bec_like {P Q : Nat → Int} (h : Like P Q) (f t : Nat) (hf : f < 64) (k : Int) : becB P f t k = becB Q f t k := by unfold becB; rw [pwn_like h f hf, rk_like h]
theorem last_like {P Q : Nat → Int} (h : Like P Q) (f t : Nat) (hf : f < 64) : lastB P f t = lastB Q f t := by unfold lastB; rw [pwn_like h f hf, rk_like h]
theorem on_like {P Q : Nat → Int} (h : Like P Q) : onN P = onN Q := by unfold onN; rw [h.sd]
theorem upW_like {P Q : Nat → Int} (h : Like P Q) (on : Int) (n : Nat) : ∀ a, upW P on n a = upW Q on n a := by
  induction n with
  | zero => intro a; rfl
  | succ n ih =>
    intro a
    unfold upW
    cases hs : sq a
    · simp
    · have := (sq_iff a).1 hs
      rw [em_like h a.toNat (by omega), ih]
theorem ahead_like {P Q : Nat → Int} (h : Like P Q) (s : Nat) : aheadL P s = aheadL Q s := by unfold aheadL farN; rw [on_like h, rk_like h, upW_like h]
theorem moth_like {P Q : Nat → Int} (h : Like P Q) (s : Nat) (hs : s < 64) : mothB P s = mothB Q s := by unfold mothB; rw [em_like h s hs, h.d hs, h.sd]
theorem mown_like {P Q : Nat → Int} (h : Like P Q) (s : Nat) (hs : s < 64) : mownB P s = mownB Q s := by unfold mownB; rw [em_like h s hs, h.d hs, h.sd]
theorem slant_like {P Q : Nat → Int} (h : Like P Q) (s : Nat) (hs : s < 64) : slantB P s = slantB Q s := by unfold slantB; rw [moth_like h s hs, em_like h s hs, h.ov]
theorem clr_like {P Q : Nat → Int} (h : Like P Q) (j : Nat) (hj : j < 4) (d : Int) : clrB P (wayJ j) (cornJ j) d = clrB Q (wayJ j) (cornJ j) d := by
  have hx : ∀ xs : List Int, (∀ k, k < xs.length - 1 → (xs.getD k 0).toNat < 64) → ((List.range (xs.length - 1)).all fun k => emB P (xs.getD k 0).toNat) = ((List.range (xs.length - 1)).all fun k => emB Q (xs.getD k 0).toNat) := fun xs hxs => by
    rw [Bool.eq_iff_iff, List.all_eq_true, List.all_eq_true]
    constructor
    · intro H k hk
      rw [← em_like h _ (hxs k (List.mem_range.1 hk))]; exact H k hk
    · intro H k hk
      rw [em_like h _ (hxs k (List.mem_range.1 hk))]; exact H k hk
  have hw : ∀ j, j < 4 → (∀ k, k < (wayJ j).length - 1 → ((wayJ j).getD k 0).toNat < 64) ∧ cornJ j < 64 := by decide
  unfold clrB
  rw [hx _ (hw j hj).1, h.k (hw j hj).2, h.d (hw j hj).2]
theorem cst_like {P Q : Nat → Int} (h : Like P Q) (s : Int) (j : Nat) (hj : j < 4) : cstB P s j = cstB Q s j := by
  unfold cstB hasB
  rw [clr_like h j hj, h.sd, h.cas]
theorem castles_like {P Q : Nat → Int} (h : Like P Q) (s : Int) (n : Nat) (hn : n ≤ 4) : castlesL P s n = castlesL Q s n := by
  induction n with
  | zero => rfl
  | succ n ih => unfold castlesL; rw [ih (by omega), cst_like h s n (by omega)]
theorem go_like {P Q : Nat → Int} (h : Like P Q) (s t : Nat) (hs : s < 64) (ht : t < 64) : goB P s t = goB Q s t := by
  unfold goB
  rw [h.k hs, ahead_like h, att_like h s t hs ht, slant_like h t ht, mown_like h t ht, castles_like h _ 4 (by omega)]
theorem up_congr (p q : Nat → Bool) (n : Nat) (h : ∀ i, i < n → p i = q i) : upList p n = upList q n := by
  unfold upList
  rw [List.filter_congr fun x hx => h x (List.mem_range.1 hx)]
theorem all_like {P Q : Nat → Int} (h : Like P Q) : allM P = allM Q := by
  rw [allM_up, allM_up, up_congr (ownB P) (ownB Q) 64 fun i hi => own_like h i hi]
  simp only [List.flatMap_def]
  refine congrArg List.flatten (List.map_congr_left fun x hx => ?_)
  obtain ⟨i, hi, _, rfl⟩ := (upList_mem _ _ _).1 hx
  simp only [Int.toNat_natCast]
  rw [up_congr (goB P i) (goB Q i) 64 fun t ht => go_like h i t hi ht]
  unfold putL
  simp only [List.flatMap_def]
  refine congrArg List.flatten (List.map_congr_left fun y _ => ?_)
  unfold oneM
  rw [last_like h i _ hi]
theorem hand_like {P Q : Nat → Int} (h : Like P Q) : Like (handP P) (handP Q) := fun i hi => by
  unfold handP
  rw [h.cas]
  by_cases e : i = 129
  · subst e; rw [setN_at, setN_at]
  · rw [setN_off _ _ _ _ e, setN_off _ _ _ _ e]; exact h i hi
theorem flt_like {P Q : Nat → Int} (h : Like P Q) (s n : Nat) (k : Int) (hs : s < 64) : fltN P (s : Int) (n : Int) k = fltN Q (s : Int) (n : Int) k := by
  unfold fltN
  rw [Int.toNat_natCast, Int.toNat_natCast, own_like h s hs, bec_like h s n hs]
theorem ovrB_like {P Q : Nat → Int} (h : Like P Q) (f t : Nat) (hf : f < 64) (ht : t < 64) : ovrB P f t = ovrB Q f t := by unfold ovrB; rw [pwn_like h f hf, h.ov, em_like h t ht]
theorem tks_like {P Q : Nat → Int} (h : Like P Q) (f t : Nat) (hf : f < 64) (ht : t < 64) : tksN P f t = tksN Q f t := by
  have e : atN P f t = atN Q f t := by unfold atN; rw [ovrB_like h f t hf ht]
  unfold tksN
  rw [e, em_like h _ (atN_lt Q f t hf ht)]
theorem lng_like {P Q : Nat → Int} (h : Like P Q) (f t : Nat) (hf : f < 64) : lngB P f t = lngB Q f t := by unfold lngB; rw [pwn_like h f hf, rk_like h, rk_like h]
theorem csX_like {P Q : Nat → Int} (h : Like P Q) (f t j : Nat) (hf : f < 64) : csX P f t j = csX Q f t j := by unfold csX; rw [h.cas, h.k hf, h.d hf]
theorem csI_like {P Q : Nat → Int} (h : Like P Q) (f t n : Nat) (hf : f < 64) : csI P f t n = csI Q f t n := by
  induction n with
  | zero => rfl
  | succ n ih => unfold csI; rw [ih, csX_like h f t n hf]
theorem cnt_pc {P Q : Nat → Int} (h : Like P Q) (z : Bool) : PcE (cntN P z) (cntN Q z) := fun s hs => by
  rw [cnt_off _ _ _ (by omega) (by omega), cnt_off _ _ _ (by omega) (by omega), cnt_off _ _ _ (by omega) (by omega), cnt_off _ _ _ (by omega) (by omega)]
  exact ⟨h.k hs, h.d hs⟩
theorem put_pc {P Q : Nat → Int} (h : PcE P Q) (f t : Nat) (k tk : Int) (hf : f < 64) : PcE (putM P f t k tk) (putM Q f t k tk) := fun s hs => by
  rw [put_k, put_k, put_d, put_d, (h f hf).1, (h f hf).2, (h s hs).1, (h s hs).2]
  exact ⟨rfl, rfl⟩
theorem pt_pc {P Q : Nat → Int} (h : PcE P Q) (m : Nat) (k d : Int) : PcE (ptN P m k d) (ptN Q m k d) := fun s hs => by
  rw [ptN_k, ptN_k, ptN_d, ptN_d, (h s hs).1, (h s hs).2]
  exact ⟨rfl, rfl⟩
theorem rkk_pc {P Q : Nat → Int} (h : PcE P Q) (f t : Nat) (o : Option Nat) : PcE (rkkN P f t o) (rkkN Q f t o) := by
  cases o with
  | none => exact h
  | some j => exact pt_pc (pt_pc h _ _ _) _ _ _
theorem pcs_pc {P Q : Nat → Int} (h : Like P Q) (f t : Nat) (k : Int) (hf : f < 64) (ht : t < 64) : PcE (pcsN P f t k) (pcsN Q f t k) := by
  unfold pcsN
  rw [pwn_like h f hf, tks_like h f t hf ht, csI_like h f t 4 hf]
  exact rkk_pc (put_pc (cnt_pc h _) _ _ _ _ hf) _ _ _
theorem cm_like {P Q : Nat → Int} (h : Like P Q) (f t : Nat) (k : Int) (hf : f < 64) (ht : t < 64) : Like (cmN P f t k) (cmN Q f t k) := fun i hi => by
  by_cases h1 : i < 128
  · have hp := pcs_pc h f t k hf ht (i / 2) (by omega)
    rcases (show i = 2 * (i / 2) ∨ i = 2 * (i / 2) + 1 by omega) with e | e
    · rw [e, cm_k _ _ _ _ _ (by omega), cm_k _ _ _ _ _ (by omega)]; exact hp.1
    · rw [e, cm_d _ _ _ _ _ (by omega), cm_d _ _ _ _ _ (by omega)]; exact hp.2
  · unfold cmN
    rcases (show i = 128 ∨ i = 129 ∨ i = 130 by omega) with rfl | rfl | rfl
    · rw [lst_side, lst_side, pcs_end _ _ _ _ hf ht _ (by omega), pcs_end _ _ _ _ hf ht _ (by omega), cnt_off _ _ _ (by omega) (by omega), cnt_off _ _ _ (by omega) (by omega), h.sd]
    · rw [lst_cas, lst_cas, pcs_end _ _ _ _ hf ht _ (by omega), pcs_end _ _ _ _ hf ht _ (by omega), cnt_off _ _ _ (by omega) (by omega), cnt_off _ _ _ (by omega) (by omega), h.cas]
    · rw [lst_over, lst_over]
      unfold ovrN
      rw [lng_like h f t hf]
theorem mv_like {P Q : Nat → Int} (h : Like P Q) (s n : Nat) (k : Int) (hs : s < 64) (hn : n < 64) : Like (mvP P (s : Int) (n : Int) k) (mvP Q (s : Int) (n : Int) k) := by
  unfold mvP
  rw [flt_like (hand_like h) s n k hs, Int.toNat_natCast, Int.toNat_natCast]
  split
  · exact cm_like (hand_like h) s n k hs hn
  · exact fun _ _ => rfl
theorem way_in (s n : Nat) (hs : s < 64) (hn : n < 64) : ∀ i, i < 2 → ∃ x : Nat, x < 64 ∧ wayF (s : Int) (((s : Int) + (n : Int)) / 2) i = (x : Int) := fun i _ => by
  unfold wayF
  split
  · exact ⟨s, hs, rfl⟩
  · exact ⟨(s + n) / 2, by omega, by omega⟩
theorem badC_like {P Q : Nat → Int} (h : Like P Q) (s n : Nat) (hs : s < 64) (hn : n < 64) : badC P s n = badC Q s n := by
  unfold badC cstM freeB
  rw [h (s * 2) (by omega), h.sd, isAt_like h _ _ 2 (way_in s n hs hn)]
theorem okM_like {P Q : Nat → Int} (h : Like P Q) (s n : Nat) (k : Int) (hs : s < 64) (hn : n < 64) : okM P s n k = okM Q s n k := by
  unfold okM badQ
  rw [badC_like h s n hs hn, flt_like (hand_like h) s n k hs, chk_like (mv_like h s n k hs hn), h.sd]
theorem nx_like {P Q : Nat → Int} (h : Like P Q) (s n : Nat) (k : Int) (hs : s < 64) (hn : n < 64) : Like (nxP P s n k) (nxP Q s n k) := by
  unfold nxP
  rw [okM_like h s n k hs hn]
  split
  · exact mv_like h s n k hs hn
  · exact fun _ _ => rfl
/-- positions that are the same ahead of their counts have the same legal moves -/
theorem leg_like {P Q : Nat → Int} (h : Like P Q) : legM P = legM Q := by
  unfold legM
  rw [all_like h]
  refine List.filter_congr fun m hm => ?_
  obtain ⟨s, n, hv⟩ := allM_mem Q m hm
  unfold okL
  rw [hv.f, hv.t, Int.toNat_natCast, Int.toNat_natCast, okM_like h s n _ hv.hs hv.hn]
theorem leg_all (P : Nat → Int) (m : Int × Int × Int) (h : m ∈ legM P) : m ∈ allM P := (List.mem_filter.1 h).1
theorem cntD_like (d : Nat) : ∀ {P Q : Nat → Int}, Like P Q → cntD d P = cntD d Q := by
  induction d with
  | zero => intro P Q h; rfl
  | succ d ih =>
    intro P Q h
    rw [cntD_succ, cntD_succ]
    unfold cntS
    rw [leg_like h]
    refine congrArg List.sum (List.map_congr_left fun m hm => ?_)
    obtain ⟨s, n, hv⟩ := allM_mem Q m (leg_all Q m hm)
    rw [hv.f, hv.t, Int.toNat_natCast, Int.toNat_natCast]
    exact ih (nx_like h s n _ hv.hs hv.hn)
end Go.Proofs.YthinkiljhkanhaaGreatDoor
