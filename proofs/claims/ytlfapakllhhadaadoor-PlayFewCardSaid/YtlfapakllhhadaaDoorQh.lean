/-
  The law PlayFew: what is other behind a move.
-/
import Derived.Test.YtlfapakllhhadaaDoorQg
namespace Go.Proofs.YtlfapakllhhadaaDoor
open Go.RowKit Go.Sort
set_option linter.unusedSimpArgs false
set_option linter.unusedVariables false
set_option maxRecDepth 20000

/-- how many below n -/
def cf (g : Nat → Bool) : Nat → Nat
  | 0 => 0
  | n + 1 => cf g n + if g n then 1 else 0
def updB (g : Nat → Bool) (a : Nat) (v : Bool) : Nat → Bool := fun s => if s = a then v else g s
theorem cf_congr (g h : Nat → Bool) (n : Nat) (e : ∀ s, s < n → g s = h s) : cf g n = cf h n := by
  induction n with
  | zero => rfl
  | succ n ih => simp only [cf]; rw [ih (fun s hs => e s (by omega)), e n (by omega)]
theorem cf_off (g : Nat → Bool) (a : Nat) (v : Bool) (n : Nat) (h : n ≤ a) : cf (updB g a v) n = cf g n :=
  cf_congr _ _ n fun s hs => by unfold updB; rw [if_neg (by omega)]
theorem cf_upd (g : Nat → Bool) (a : Nat) (v : Bool) (n : Nat) (h : a < n) : cf (updB g a v) n + (if g a then 1 else 0) = cf g n + (if v then 1 else 0) := by
  induction n with
  | zero => omega
  | succ n ih =>
    simp only [cf]
    by_cases e : n = a
    · subst e
      rw [cf_off _ _ _ _ (Nat.le_refl _)]
      have : updB g n v n = v := by unfold updB; rw [if_pos rfl]
      rw [this]; omega
    · have : updB g a v n = g n := by unfold updB; rw [if_neg e]
      rw [this]
      have := ih (by omega)
      omega
theorem cf_none (n : Nat) : cf (fun _ => false) n = 0 := by
  induction n with
  | zero => rfl
  | succ n ih => simp only [cf, ih]; rfl
theorem cf_le (g : Nat → Bool) (n : Nat) : cf g n ≤ n := by
  induction n with
  | zero => exact Nat.le_refl _
  | succ n ih => simp only [cf]; split <;> omega
theorem csX_king (P : Nat → Int) (f t j : Nat) (hj : j < 4) (h : csX P f t j = true) : P (2 * f) = 6 ∧ ((t : Int) - f = 2 ∨ (f : Int) - t = 2) := by
  unfold csX at h
  simp only [Bool.and_eq_true, beq_iff_eq, pe_iff] at h
  obtain ⟨⟨⟨_, h1⟩, h2⟩, h3, _⟩ := h
  refine ⟨h3, ?_⟩
  rcases (show j = 0 ∨ j = 1 ∨ j = 2 ∨ j = 3 by omega) with rfl | rfl | rfl | rfl
  · rw [show kasN (0 * 5 + 2) = 4 from rfl] at h1; rw [show kasN (0 * 5 + 3) = 6 from rfl] at h2; omega
  · rw [show kasN (1 * 5 + 2) = 4 from rfl] at h1; rw [show kasN (1 * 5 + 3) = 2 from rfl] at h2; omega
  · rw [show kasN (2 * 5 + 2) = 60 from rfl] at h1; rw [show kasN (2 * 5 + 3) = 62 from rfl] at h2; omega
  · rw [show kasN (3 * 5 + 2) = 60 from rfl] at h1; rw [show kasN (3 * 5 + 3) = 58 from rfl] at h2; omega
theorem csI_none (P : Nat → Int) (f t : Nat) (h : ¬ (P (2 * f) = 6 ∧ ((t : Int) - f = 2 ∨ (f : Int) - t = 2))) : csI P f t 4 = none := by
  have hx : ∀ j, j < 4 → csX P f t j = false := fun j hj => by
    cases e : csX P f t j
    · rfl
    · exact absurd (csX_king P f t j hj e) h
  exact csI_next _ _ _ _ (csI_next _ _ _ _ (csI_next _ _ _ _ (csI_next _ _ _ _ rfl (hx 0 (by omega))) (hx 1 (by omega))) (hx 2 (by omega))) (hx 3 (by omega))
theorem mv_sq (P : Nat → Int) (h : rightB P = true) (f t : Nat) (k : Int) (hf : f < 64) (ht : t < 64) (h0 : fltN P f t k = 0) (hn : ¬ (P (2 * f) = 6 ∧ ((t : Int) - f = 2 ∨ (f : Int) - t = 2))) (i : Nat) (hi : i < 128) :
    mvP P f t k i = putM (cntN P (pwnB P f || (tksN P f t != -1))) f t k (tksN P f t) i := by
  unfold mvP
  rw [right_hand P h, if_pos h0]
  simp only [Int.toNat_natCast]
  unfold cmN
  rw [lst_off _ _ _ _ _ (by omega) (by omega) (by omega)]
  unfold pcsN
  rw [csI_none P f t hn]
  rfl
theorem mv_k (P : Nat → Int) (h : rightB P = true) (f t : Nat) (k : Int) (hf : f < 64) (ht : t < 64) (h0 : fltN P f t k = 0) (hn : ¬ (P (2 * f) = 6 ∧ ((t : Int) - f = 2 ∨ (f : Int) - t = 2))) (s : Nat) (hs : s < 64) :
    mvP P f t k (2 * s) = if s = t then (if k == 0 then P (2 * f) else k) else if s = f then 0 else if (s : Int) = tksN P f t then 0 else P (2 * s) := by
  rw [mv_sq P h f t k hf ht h0 hn _ (by omega)]
  unfold putM
  rw [ptN_k, cnt_off _ _ _ (by omega) (by omega)]
  split
  · rfl
  · rcases tks_cases P f t hf ht with e | ⟨n, e, hn⟩
    · rw [e]
      simp only [beq_self_eq_true, if_true]
      rw [ptN_k, cnt_off _ _ _ (by omega) (by omega), if_neg (show ¬ (s : Int) = -1 by omega)]
    · rw [e, if_neg (by simp), ptN_k, ptN_k, cnt_off _ _ _ (by omega) (by omega)]
      simp only [Int.toNat_natCast]
      by_cases e1 : s = n
      · rw [if_pos e1, if_pos (show (s : Int) = n by omega)]
        all_goals (try (split <;> rfl))
      · rw [if_neg e1, if_neg (show ¬ (s : Int) = n by omega)]
theorem mv_d (P : Nat → Int) (h : rightB P = true) (f t : Nat) (k : Int) (hf : f < 64) (ht : t < 64) (h0 : fltN P f t k = 0) (hn : ¬ (P (2 * f) = 6 ∧ ((t : Int) - f = 2 ∨ (f : Int) - t = 2))) (s : Nat) (hs : s < 64) :
    mvP P f t k (2 * s + 1) = if s = t then P (2 * f + 1) else if s = f then 0 else if (s : Int) = tksN P f t then 0 else P (2 * s + 1) := by
  rw [mv_sq P h f t k hf ht h0 hn _ (by omega)]
  unfold putM
  rw [ptN_d, cnt_off _ _ _ (by omega) (by omega)]
  split
  · rfl
  · rcases tks_cases P f t hf ht with e | ⟨n, e, hn⟩
    · rw [e]
      simp only [beq_self_eq_true, if_true]
      rw [ptN_d, cnt_off _ _ _ (by omega) (by omega), if_neg (show ¬ (s : Int) = -1 by omega)]
    · rw [e, if_neg (by simp), ptN_d, ptN_d, cnt_off _ _ _ (by omega) (by omega)]
      simp only [Int.toNat_natCast]
      by_cases e1 : s = n
      · rw [if_pos e1, if_pos (show (s : Int) = n by omega)]
        all_goals (try (split <;> rfl))
      · rw [if_neg e1, if_neg (show ¬ (s : Int) = n by omega)]
/-- a square differs; something stands -/
def diB (P Q : Nat → Int) (s : Nat) : Bool := !pe (P (2 * s)) (P (2 * s + 1)) (Q (2 * s)) (Q (2 * s + 1))
def knB (P : Nat → Int) (s : Nat) : Bool := P (2 * s) != 0
theorem em_kn (P : Nat → Int) (h : Fit P) (s : Nat) (hs : s < 64) : knB P s = !emB P s := by
  unfold knB emB
  rcases h s hs with e | e
  · rw [e]
    have := (pe_iff _ _ _ _).1 e
    rw [this.1]; rfl
  · have h1 : P (2 * s) ≠ 0 := by
      intro e0; unfold mayB at e; rw [e0] at e; simp at e
    have h2 : pe (P (2 * s)) (P (2 * s + 1)) 0 0 = false := by
      cases e2 : pe (P (2 * s)) (P (2 * s + 1)) 0 0
      · rfl
      · exact absurd ((pe_iff _ _ _ _).1 e2).1 h1
    rw [h2]; simpa using h1
theorem flt_ne (P : Nat → Int) (f t : Nat) (k : Int) (h : fltN P f t k = 0) : f ≠ t := by
  rintro rfl
  unfold fltN at h
  rw [if_pos (by simp)] at h
  cases h
/-- what may be of a move's taking -/
theorem tks_three (P : Nat → Int) (h : Fit P) (f t : Nat) (hf : f < 64) (ht : t < 64) (hne : f ≠ t) :
    (tksN P f t = -1 ∧ knB P t = false) ∨ (tksN P f t = (t : Int) ∧ knB P t = true) ∨ ∃ n : Nat, tksN P f t = (n : Int) ∧ n < 64 ∧ n ≠ t ∧ n ≠ f ∧ knB P n = true ∧ knB P t = false ∧ P (2 * f) = 1 := by
  unfold tksN atN
  by_cases ho : ovrB P f t = true
  · have ho2 := ho
    unfold ovrB at ho2
    simp only [Bool.and_eq_true] at ho2
    obtain ⟨⟨⟨o1, o2⟩, _⟩, o4⟩ := ho2
    have ot : knB P t = false := by rw [em_kn P h t ht, o4]; rfl
    rw [if_pos ho]
    have hs : f % 8 ≠ t % 8 := by unfold smF at o2; simpa using o2
    by_cases hr : f / 8 = t / 8
    · have e : 8 * (f / 8) + t % 8 = t := by omega
      rw [e, if_pos o4]
      exact .inl ⟨rfl, ot⟩
    · cases e : emB P (8 * (f / 8) + t % 8)
      · rw [if_neg (by simp)]
        refine .inr (.inr ⟨_, rfl, by omega, by omega, by omega, by rw [em_kn P h _ (by omega), e]; rfl, ot, ?_⟩)
        unfold pwnB at o1; simpa using o1
      · rw [if_pos rfl]; exact .inl ⟨rfl, ot⟩
  · rw [if_neg ho]
    cases e : emB P t
    · rw [if_neg (by simp)]; exact .inr (.inl ⟨rfl, by rw [em_kn P h t ht, e]; rfl⟩)
    · rw [if_pos rfl]; exact .inl ⟨rfl, by rw [em_kn P h t ht, e]; rfl⟩
theorem mv_few (P : Nat → Int) (h : rightB P = true) (f t : Nat) (k : Int) (hf : f < 64) (ht : t < 64) (h0 : fltN P f t k = 0) (hn : ¬ (P (2 * f) = 6 ∧ ((t : Int) - f = 2 ∨ (f : Int) - t = 2))) :
    cf (diB P (mvP P f t k)) 64 ≤ 3 ∧ 1 ≤ cf (diB P (mvP P f t k)) 64 ∧ (cf (diB P (mvP P f t k)) 64 = 3 → P (2 * f) = 1) ∧ cf (knB (mvP P f t k)) 64 + (if tksN P f t = -1 then 0 else 1) = cf (knB P) 64 := by
  have hne := flt_ne P f t k h0
  obtain ⟨⟨k1, k6⟩, hd, hk⟩ := flt_of P f t k h0
  have hfit := right_fit P h
  have hkk : (if k == 0 then P (2 * f) else k) ≠ 0 := by
    split
    · omega
    · rename_i e; simpa using e
  have hQk := mv_k P h f t k hf ht h0 hn
  have hQd := mv_d P h f t k hf ht h0 hn
  generalize mvP P f t k = Q at *
  have kf : knB P f = true := by unfold knB; simp; omega
  have df : diB P Q f = true := by
    unfold diB
    rw [hQk f hf, if_neg hne, if_pos rfl]
    cases e : pe (P (2 * f)) (P (2 * f + 1)) 0 (Q (2 * f + 1))
    · rfl
    · have := ((pe_iff _ _ _ _).1 e).1; omega
  have same : ∀ s, s < 64 → s ≠ t → s ≠ f → (s : Int) ≠ tksN P f t → diB P Q s = false ∧ knB Q s = knB P s := fun s hs h1 h2 h3 => by
    have e1 := hQk s hs
    have e2 := hQd s hs
    rw [if_neg h1, if_neg h2, if_neg h3] at e1 e2
    refine ⟨?_, by unfold knB; rw [e1]⟩
    unfold diB; rw [e1, e2, (pe_iff _ _ _ _).2 ⟨rfl, rfl⟩]; rfl
  have kt : knB Q t = true := by unfold knB; rw [hQk t ht, if_pos rfl]; simpa using hkk
  have kqf : knB Q f = false := by unfold knB; rw [hQk f hf, if_neg hne, if_pos rfl]; rfl
  have z := cf_none 64
  rcases tks_three P hfit f t hf ht hne with ⟨e, ot⟩ | ⟨e, ot⟩ | ⟨n, e, hn64, hnt, hnf, on, ot, hp⟩
  · have eD : cf (diB P Q) 64 = cf (updB (updB (fun _ => false) f true) t (diB P Q t)) 64 := cf_congr _ _ _ fun s hs => by
      unfold updB
      split
      · rename_i e1; rw [e1]
      · split
        · rename_i e2; rw [e2, df]
        · rename_i h1 h2; exact (same s hs h1 h2 (by rw [e]; omega)).1
    have eK : cf (knB Q) 64 = cf (updB (updB (knB P) f false) t true) 64 := cf_congr _ _ _ fun s hs => by
      unfold updB
      split
      · rename_i e1; rw [e1, kt]
      · split
        · rename_i e2; rw [e2, kqf]
        · rename_i h1 h2; exact (same s hs h1 h2 (by rw [e]; omega)).2
    have c1 := cf_upd (fun _ => false) f true 64 hf
    have c2 := cf_upd (updB (fun _ => false) f true) t (diB P Q t) 64 ht
    have c3 := cf_upd (knB P) f false 64 hf
    have c4 := cf_upd (updB (knB P) f false) t true 64 ht
    have u1 : updB (fun _ => false) f true t = false := by unfold updB; rw [if_neg (by omega)]
    have u2 : updB (knB P) f false t = false := by unfold updB; rw [if_neg (by omega), ot]
    rw [u1] at c2
    rw [u2] at c4
    rw [kf] at c3
    rw [e, eD, eK]
    simp only [if_true, if_false, Bool.false_eq_true] at *
    split at c2 <;> refine ⟨by omega, by omega, fun h => by omega, by omega⟩
  · have eD : cf (diB P Q) 64 = cf (updB (updB (fun _ => false) f true) t (diB P Q t)) 64 := cf_congr _ _ _ fun s hs => by
      unfold updB
      split
      · rename_i e1; rw [e1]
      · split
        · rename_i e2; rw [e2, df]
        · rename_i h1 h2; exact (same s hs h1 h2 (by rw [e]; omega)).1
    have eK : cf (knB Q) 64 = cf (updB (updB (knB P) f false) t true) 64 := cf_congr _ _ _ fun s hs => by
      unfold updB
      split
      · rename_i e1; rw [e1, kt]
      · split
        · rename_i e2; rw [e2, kqf]
        · rename_i h1 h2; exact (same s hs h1 h2 (by rw [e]; omega)).2
    have c1 := cf_upd (fun _ => false) f true 64 hf
    have c2 := cf_upd (updB (fun _ => false) f true) t (diB P Q t) 64 ht
    have c3 := cf_upd (knB P) f false 64 hf
    have c4 := cf_upd (updB (knB P) f false) t true 64 ht
    have u1 : updB (fun _ => false) f true t = false := by unfold updB; rw [if_neg (by omega)]
    have u2 : updB (knB P) f false t = true := by unfold updB; rw [if_neg (by omega), ot]
    rw [u1] at c2
    rw [u2] at c4
    rw [kf] at c3
    rw [e, eD, eK, if_neg (show ¬ (t : Int) = -1 by omega)]
    simp only [if_true, if_false, Bool.false_eq_true] at *
    split at c2 <;> refine ⟨by omega, by omega, fun h => by omega, by omega⟩
  · have dn : n ≠ t ∧ n ≠ f := ⟨hnt, hnf⟩
    have eD : cf (diB P Q) 64 = cf (updB (updB (updB (fun _ => false) f true) t (diB P Q t)) n (diB P Q n)) 64 := cf_congr _ _ _ fun s hs => by
      unfold updB
      split
      · rename_i e1; rw [e1]
      · split
        · rename_i e1; rw [e1]
        · split
          · rename_i e2; rw [e2, df]
          · rename_i h3 h1 h2; exact (same s hs h1 h2 (by rw [e]; omega)).1
    have kqn : knB Q n = false := by unfold knB; rw [hQk n hn64, if_neg hnt, if_neg hnf, if_pos e.symm]; rfl
    have eK : cf (knB Q) 64 = cf (updB (updB (updB (knB P) f false) n false) t true) 64 := cf_congr _ _ _ fun s hs => by
      unfold updB
      split
      · rename_i e1; rw [e1, kt]
      · split
        · rename_i e1; rw [e1, kqn]
        · split
          · rename_i e2; rw [e2, kqf]
          · rename_i h1 h3 h2; exact (same s hs h1 h2 (by rw [e]; omega)).2
    have c1 := cf_upd (fun _ => false) f true 64 hf
    have c2 := cf_upd (updB (fun _ => false) f true) t (diB P Q t) 64 ht
    have c2' := cf_upd (updB (updB (fun _ => false) f true) t (diB P Q t)) n (diB P Q n) 64 hn64
    have c3 := cf_upd (knB P) f false 64 hf
    have c3' := cf_upd (updB (knB P) f false) n false 64 hn64
    have c4 := cf_upd (updB (updB (knB P) f false) n false) t true 64 ht
    have u1 : updB (fun _ => false) f true t = false := by unfold updB; rw [if_neg (by omega)]
    have u1' : updB (updB (fun _ => false) f true) t (diB P Q t) n = false := by unfold updB; rw [if_neg hnt, if_neg hnf]
    have u3 : updB (knB P) f false n = true := by unfold updB; rw [if_neg hnf, on]
    have u2 : updB (updB (knB P) f false) n false t = false := by unfold updB; rw [if_neg (by omega), if_neg (by omega), ot]
    rw [u1] at c2
    rw [u1'] at c2'
    rw [u3] at c3'
    rw [u2] at c4
    rw [kf] at c3
    rw [e, eD, eK, if_neg (show ¬ (n : Int) = -1 by omega)]
    simp only [if_true, if_false, Bool.false_eq_true] at *
    split at c2 <;> split at c2' <;> refine ⟨by omega, by omega, fun h => hp, by omega⟩
def lostL : List Int := [0, 1, 2, 3, 4, 8, 12]
theorem lostN_in (s : Nat) : lostN s ∈ lostL := by
  unfold lostN
  repeat' split
  all_goals decide
theorem cas_less : ∀ c ∈ List.range 16, ∀ a ∈ lostL, ∀ b ∈ lostL, bits .andNot .i64 (bits .andNot .i64 (c : Int) (bits .or .i64 a b)) (c : Int) = 0 := by decide +kernel
theorem casM_less (c : Int) (h : casB c = true) (f t : Nat) : bits .andNot .i64 (casM c f t) c = 0 := by
  have hc : 0 ≤ c ∧ c ≤ 15 := by unfold casB at h; simpa using h
  obtain ⟨n, rfl⟩ := Int.eq_ofNat_of_zero_le hc.1
  exact cas_less n (List.mem_range.2 (by omega)) _ (lostN_in f) _ (lostN_in t)
theorem right_cnt (P : Nat → Int) (h : rightB P = true) : 0 ≤ P 131 ∧ P 131 ≤ 1024 ∧ 1 ≤ P 132 ∧ P 132 ≤ 16384 := by
  unfold rightB at h
  simp only [Bool.and_eq_true, decide_eq_true_eq] at h
  exact ⟨h.1.1.1.2, h.1.1.2, h.1.2, h.2⟩
theorem mv_rest (P : Nat → Int) (h : rightB P = true) (f t : Nat) (k : Int) (hf : f < 64) (ht : t < 64) (h0 : fltN P f t k = 0) :
    bits .andNot .i64 (mvP P f t k 129) (P 129) = 0 ∧ mvP P f t k 132 = (if P 128 = 1 ∧ P 132 < 16384 then P 132 + 1 else P 132) ∧ (mvP P f t k 131 = 0 ↔ (tksN P f t ≠ -1 ∨ P (2 * f) = 1)) ∧ (mvP P f t k 130 = -1 ∨ P (2 * f) = 1) := by
  obtain ⟨r1, r2, r3, r4⟩ := right_cnt P h
  have hm : mvP P f t k = cmN P f t k := by unfold mvP; rw [right_hand P h, if_pos h0]; rfl
  rw [hm]
  unfold cmN
  refine ⟨?_, ?_, ?_, ?_⟩
  · rw [lst_cas, pcs_end _ _ _ _ hf ht _ (by omega), cnt_off _ _ _ (by omega) (by omega)]
    exact casM_less _ (right_cas P h) f t
  · rw [lst_off _ _ _ _ _ (by omega) (by omega) (by omega), pcs_end _ _ _ _ hf ht _ (by omega)]
    unfold cntN
    by_cases e : P 128 = 1
    · rw [if_pos (by simpa using e), setN_at]
      unfold incN
      by_cases e2 : P 132 < 16384
      · rw [if_neg (by omega), if_pos ⟨e, e2⟩]; unfold wrap64; omega
      · rw [if_pos (by omega), if_neg (by omega)]; omega
    · rw [if_neg (by simpa using e), setN_off _ _ _ _ (by omega), if_neg (fun h => e h.1)]
  · rw [lst_off _ _ _ _ _ (by omega) (by omega) (by omega), pcs_end _ _ _ _ hf ht _ (by omega), cnt_half]
    have hp : pwnB P f = true ↔ P (2 * f) = 1 := by unfold pwnB; simp
    have hi : incN (P 131) 1024 ≠ 0 := by
      unfold incN
      split
      · omega
      · unfold wrap64; omega
    by_cases e : (pwnB P f || (tksN P f t != -1)) = true
    · rw [if_pos e]
      simp only [Bool.or_eq_true, bne_iff_ne, hp] at e
      exact ⟨fun _ => e.symm, fun _ => rfl⟩
    · rw [if_neg e]
      simp only [Bool.or_eq_true, bne_iff_ne, hp] at e
      exact ⟨fun h => absurd h hi, fun h => absurd h.symm e⟩
  · rw [lst_over]
    unfold ovrN
    split
    · rename_i e
      unfold lngB pwnB at e
      simp only [Bool.and_eq_true, beq_iff_eq] at e
      exact .inr e.1.1.1
    · exact .inl rfl
/-- why a move of numbers is refused -/
theorem md_flt (P : Nat → Int) (h : rightB P = true) (a1 a2 a3 : Int) (f t : Nat) (hf : f < 64) (ht : t < 64) (ef : mdF P a1 = f) (et : mdT P a2 = t) (h0 : fltN P f t (mdB P f t a3) ≠ 0) :
    (fltN P f t (mdB P f t a3) = 6 ∧ f = t) ∨ (fltN P f t (mdB P f t a3) = 8 ∧ P (2 * f) = 1) := by
  unfold fltN at h0 ⊢
  by_cases e : f = t
  · subst e; exact .inl ⟨if_pos (by simp), rfl⟩
  · have sm : ∀ s : Nat, s < 64 → sq (s : Int) = true := fun s hs => (sq_iff _).2 (by omega)
    have hc : (!sq (f : Int) || !sq (t : Int) || (f : Int) == (t : Int)) = false := by rw [sm f hf, sm t ht]; simp; omega
    rw [hc] at h0 ⊢
    simp only [Bool.false_eq_true, if_false, Int.toNat_natCast] at h0 ⊢
    by_cases hb : (ownB P f && becB P f t (mdB P f t a3)) = true
    · rw [if_pos hb] at h0; exact absurd rfl h0
    · rw [if_neg hb]
      refine .inr ⟨rfl, ?_⟩
      -- a piece of the mover's stands there
      by_cases hl : (ownL P 64).length = 0
      · unfold mdF at ef; unfold mdT at et; rw [if_pos hl] at ef et; omega
      · obtain ⟨j, hj, ej, hj0, hjd⟩ : ∃ j : Nat, j < 64 ∧ (f : Int) = j ∧ P (2 * j) ≠ 0 ∧ P (2 * j + 1) = P 128 := by
          unfold mdF at ef
          rw [if_neg hl] at ef
          have h1 : 0 ≤ a1 % ((ownL P 64).length : Int) := Int.emod_nonneg _ (by omega)
          have h2 : a1 % ((ownL P 64).length : Int) < (ownL P 64).length := Int.emod_lt_of_pos _ (by omega)
          have h3 : (a1 % ((ownL P 64).length : Int)).toNat < (ownL P 64).length := by omega
          have hg : (ownL P 64).getD (a1 % ((ownL P 64).length : Int)).toNat 0 = (ownL P 64)[(a1 % ((ownL P 64).length : Int)).toNat] := by simp [List.getD, h3]
          obtain ⟨j, hj, e, h4, h5⟩ := ownL_mem P 64 _ (List.getElem_mem h3)
          exact ⟨j, hj, by rw [← ef, hg, e], h4, h5⟩
        obtain rfl : f = j := by omega
        have hm : mayB (P (2 * f)) (P (2 * f + 1)) = true := by
          rcases right_fit P h f hf with e | e
          · exact absurd ((pe_iff _ _ _ _).1 e).1 hj0
          · exact e
        have ho : ownB P f = true := by
          unfold mayB at hm
          simp only [Bool.and_eq_true, decide_eq_true_eq] at hm
          unfold ownB
          simp only [Bool.and_eq_true, decide_eq_true_eq, beq_iff_eq]
          refine ⟨⟨⟨?_, hjd⟩, ?_⟩, ?_⟩
          · rcases right_side P h with e | e <;> rw [e] <;> rfl
          · first | exact hm.1.1 | omega
          · first | exact hm.1.2 | omega
        rw [ho, Bool.true_and] at hb
        cases hp : pwnB P f
        · exfalso
          apply hb
          unfold becB mdB
          rw [hp, if_neg hl]
          have : (P ((f : Int).toNat * 2) == 1) = false := by rw [Int.toNat_natCast, Nat.mul_comm]; exact hp
          rw [this]; rfl
        · unfold pwnB at hp; simpa using hp
end Go.Proofs.YtlfapakllhhadaaDoor
