/-
  A number that no legal move makes greater, and that a pawn's move, a take, a lost castling make less: mathematics alone (for layer 12).
-/
import Derived.Test.YtcdnakbdajbfoaaGreatDoorM1
namespace Go.Proofs.YtcdnakbdajbfoaaGreatDoor
open Go.RowKit Go.Sort
set_option linter.unusedSimpArgs false
set_option linter.unusedVariables false
set_option maxRecDepth 20000

def sumW (w : Nat → Nat) : Nat → Nat
  | 0 => 0
  | n + 1 => sumW w n + w n
theorem sumW_congr {v w : Nat → Nat} : ∀ n, (∀ x, x < n → v x = w x) → sumW v n = sumW w n
  | 0, _ => rfl
  | n + 1, h => by
    unfold sumW
    rw [sumW_congr n fun x hx => h x (by omega), h n (by omega)]
theorem sumW_one {v w : Nat → Nat} (a : Nat) : ∀ n, a < n → (∀ x, x < n → x ≠ a → v x = w x) → sumW v n + w a = sumW w n + v a
  | 0, h, _ => absurd h (by omega)
  | n + 1, h, h2 => by
    unfold sumW
    by_cases e : a = n
    · subst e
      rw [sumW_congr a fun x hx => h2 x (by omega) (by omega)]; omega
    · have := sumW_one a n (by omega) fun x hx => h2 x (by omega)
      rw [h2 n (by omega) (fun e2 => e e2.symm)]; omega
def setW (w : Nat → Nat) (a v x : Nat) : Nat := if x = a then v else w x
theorem setW_at (w : Nat → Nat) (a v : Nat) : setW w a v a = v := by unfold setW; rw [if_pos rfl]
theorem setW_off (w : Nat → Nat) (a v x : Nat) (h : x ≠ a) : setW w a v x = w x := by unfold setW; rw [if_neg h]
theorem sumW_set (w : Nat → Nat) (a v n : Nat) (h : a < n) : sumW (setW w a v) n + w a = sumW w n + v := by
  have := sumW_one (v := setW w a v) (w := w) a n h fun x _ hx => setW_off _ _ _ _ hx
  rwa [setW_at] at this
def wtN (k d : Int) (x : Nat) : Nat := if k = 0 then 0 else if k = 1 then (if d = 0 then 8 - x / 8 else 1 + x / 8) else 1
def wtP (P : Nat → Int) (x : Nat) : Nat := wtN (P (2 * x)) (P (2 * x + 1)) x
def phiN (P : Nat → Int) : Nat := sumW (wtP P) 64
theorem wt_pos (k d : Int) (x : Nat) (hx : x < 64) (h : k ≠ 0) : 1 ≤ wtN k d x := by
  unfold wtN
  rw [if_neg h]
  split
  · split <;> omega
  · exact Nat.le_refl _
theorem wt_pawn (d : Int) (x : Nat) : wtN 1 d x = if d = 0 then 8 - x / 8 else 1 + x / 8 := rfl
theorem ovr_em (P : Nat → Int) (s n : Nat) (h : ovrB P s n = true) : emB P n = true := by
  unfold ovrB at h
  simp only [Bool.and_eq_true] at h
  exact h.2
theorem tks_noneC (P : Nat → Int) (s n : Nat) (h : tksN P s n = -1) : emB P n = true := by
  by_cases ho : ovrB P s n = true
  · exact ovr_em P s n ho
  · unfold tksN atN at h
    rw [if_neg ho] at h
    by_cases he : emB P n = true
    · exact he
    · rw [if_neg he] at h; omega
theorem tks_far (P : Nat → Int) (s n a : Nat) (h : tksN P s n = (a : Int)) (hne : a ≠ n) : emB P n = true := by
  by_cases ho : ovrB P s n = true
  · exact ovr_em P s n ho
  · unfold tksN atN at h
    rw [if_neg ho] at h
    by_cases he : emB P n = true
    · exact he
    · rw [if_neg he] at h; omega
theorem em_zero (P : Nat → Int) (x : Nat) (h : emB P x = true) : P (2 * x) = 0 := ((pe_iff _ _ _ _).1 h).1
theorem em_not (P : Nat → Int) (hf : Fit P) (x : Nat) (hx : x < 64) (h : emB P x = false) : P (2 * x) ≠ 0 := by
  intro e
  rcases hf x hx with h1 | h1
  · unfold emB at h; rw [h1] at h; cases h
  · unfold mayB at h1; rw [e] at h1; simp at h1
theorem wt_moved (P : Nat → Int) (m : Int × Int × Int) (s n : Nat) (h : MvOk P m s n) :
    wtN (if m.2.2 == 0 then P (2 * s) else m.2.2) (P 128) n ≤ wtP P s ∧ (P (2 * s) = 1 → wtN (if m.2.2 == 0 then P (2 * s) else m.2.2) (P 128) n < wtP P s) := by
  obtain ⟨p1, p2⟩ := own_parts P s h.o
  have hd : P 128 = 0 ∨ P 128 = 1 := by unfold sideB at p1; simpa using p1
  have ho := h.o
  unfold ownB at ho
  simp only [Bool.and_eq_true, decide_eq_true_eq, beq_iff_eq] at ho
  have hk1 := ho.1.2
  have hk2 := ho.2
  have hb := h.b
  have hs := h.hs
  have hn := h.hn
  unfold wtP
  rw [p2]
  by_cases hk : P (2 * s) = 1
  · have hw := goB_pawn_how P s n hs hn hk p2 p1 h.g
    have hlt : wtN (if m.2.2 == 0 then P (2 * s) else m.2.2) (P 128) n < wtN (P (2 * s)) (P 128) s := by
      unfold becB pwnB at hb
      rw [hk] at hb ⊢
      have hon : onN P = if P 128 = 1 then -1 else 1 := rfl
      by_cases h0 : m.2.2 = 0
      · rw [h0]
        simp only [BEq.rfl, if_true]
        rw [wt_pawn, wt_pawn]
        rcases hd with e | e
        · rw [e] at hon ⊢
          rw [if_pos rfl, if_pos rfl]
          rw [if_neg (by decide)] at hon
          omega
        · rw [e] at hon ⊢
          rw [if_neg (by decide), if_neg (by decide)]
          rw [if_pos rfl] at hon
          omega
      · have hr : rkN P n = 7 ∧ 2 ≤ m.2.2 := by
          split at hb
          · rename_i h7
            simp only [Bool.and_eq_true, decide_eq_true_eq, beq_iff_eq] at h7 hb
            exact ⟨h7.2, hb.1⟩
          · simp only [beq_iff_eq] at hb
            exact absurd hb h0
        rw [if_neg (by simpa using h0)]
        have h1 : wtN m.2.2 (P 128) n = 1 := by unfold wtN; rw [if_neg h0, if_neg (by omega)]
        rw [h1, wt_pawn]
        have h7 := hr.1
        unfold rkN at h7
        rcases hd with e | e
        · rw [e] at hon h7 ⊢
          rw [if_pos rfl] at h7 ⊢
          rw [if_neg (by decide)] at hon
          omega
        · rw [e] at hon h7 ⊢
          rw [if_neg (by decide)] at h7 ⊢
          rw [if_pos rfl] at hon
          omega
    exact ⟨Nat.le_of_lt hlt, fun _ => hlt⟩
  · have h0 : m.2.2 = 0 := by
      unfold becB pwnB at hb
      rw [show (P (2 * s) == 1) = false by simpa using hk] at hb
      simpa using hb
    rw [h0]
    simp only [BEq.rfl, if_true]
    refine ⟨?_, fun e => absurd e hk⟩
    unfold wtN
    rw [if_neg (by omega), if_neg hk, if_neg (by omega), if_neg hk]
    exact Nat.le_refl _
theorem phi_next (P : Nat → Int) (hr : rightB P = true) (m : Int × Int × Int) (s n : Nat) (h : MvOk P m s n) :
    phiN (mvP P s n m.2.2) ≤ phiN P ∧ (P (2 * s) = 1 ∨ tksN P s n ≠ -1 → phiN (mvP P s n m.2.2) < phiN P) := by
  have hs := h.hs
  have hn := h.hn
  obtain ⟨p1, p2⟩ := own_parts P s h.o
  have h0 := mv_ok P m s n h
  have hsn := goB_ne P s n h.g
  have hfit := right_fit P hr
  obtain ⟨w1, w2⟩ := wt_moved P m s n h
  have e1 : ∀ i, mvP P s n m.2.2 i = cmN P s n m.2.2 i := fun i => by
    unfold mvP; rw [if_pos h0, right_hand P hr, Int.toNat_natCast, Int.toNat_natCast]
  have htk := tks_cases P s n hs hn
  have hcz : ∀ z x, x < 128 → cntN P z x = P x := fun z x hx => cnt_off _ _ _ (by omega) (by omega)
  have hM : ∀ z x, x < 64 → putM (cntN P z) s n m.2.2 (tksN P s n) (2 * x) = (if x = n then (if m.2.2 == 0 then P (2 * s) else m.2.2) else if tksN P s n ≠ -1 ∧ x = (tksN P s n).toNat then 0 else if x = s then 0 else P (2 * x)) := fun z x hx => by
    rw [put_k, hcz z _ (by omega), hcz z _ (by omega)]
  have hMd : ∀ z x, x < 64 → putM (cntN P z) s n m.2.2 (tksN P s n) (2 * x + 1) = (if x = n then P 128 else if tksN P s n ≠ -1 ∧ x = (tksN P s n).toNat then 0 else if x = s then 0 else P (2 * x + 1)) := fun z x hx => by
    rw [put_d, hcz z _ (by omega), hcz z _ (by omega), p2]
  have hz : ∀ d x, wtN 0 d x = 0 := fun d x => rfl
  generalize hv : wtN (if m.2.2 == 0 then P (2 * s) else m.2.2) (P 128) n = v at w1 w2
  have s1 := sumW_set (wtP P) s 0 64 hs
  have hws : wtP P s ≤ sumW (wtP P) 64 := by omega
  cases hj : csI P s n 4 with
  | none =>
    have hq : ∀ i, pcsN P s n m.2.2 i = putM (cntN P (pwnB P s || (tksN P s n != -1))) s n m.2.2 (tksN P s n) i := fun i => by unfold pcsN; rw [hj]; rfl
    have hw : ∀ x, x < 64 → wtP (mvP P s n m.2.2) x = if x = n then v else if tksN P s n ≠ -1 ∧ x = (tksN P s n).toNat then 0 else if x = s then 0 else wtP P x := fun x hx => by
      unfold wtP
      rw [e1, e1, cm_k _ _ _ _ _ hx, cm_d _ _ _ _ _ hx, hq, hq, hM _ _ hx, hMd _ _ hx]
      by_cases c1 : x = n
      · rw [if_pos c1, if_pos c1, if_pos c1, c1, hv]
      · rw [if_neg c1, if_neg c1, if_neg c1]
        split
        · exact hz _ _
        · split
          · exact hz _ _
          · rfl
    rcases htk with et | ⟨a, et, ha⟩
    · have hem : P (2 * n) = 0 := em_zero P n (tks_noneC P s n et)
      have hwn : wtP P n = 0 := by unfold wtP; rw [hem]; rfl
      have s2 := sumW_set (setW (wtP P) s 0) n v 64 hn
      rw [setW_off _ _ _ _ (Ne.symm hsn), hwn] at s2
      have hph : phiN (mvP P s n m.2.2) = sumW (setW (setW (wtP P) s 0) n v) 64 := by
        unfold phiN
        refine sumW_congr 64 fun x hx => ?_
        rw [hw x hx]
        unfold setW
        rw [if_neg (show ¬ (tksN P s n ≠ -1 ∧ x = (tksN P s n).toNat) from fun e => e.1 et)]
      rw [hph]
      unfold phiN
      refine ⟨by omega, fun hc => ?_⟩
      rcases hc with hc | hc
      · have := w2 hc; omega
      · exact absurd et hc
    · have hane : P (2 * a) ≠ 0 := by
        refine em_not P hfit a ha ?_
        unfold tksN at et
        split at et
        · omega
        · rename_i he
          have : atN P s n = a := by omega
          rw [this] at he
          simpa using he
      have hwa : 1 ≤ wtP P a := wt_pos _ _ _ ha hane
      by_cases han : a = n
      · subst han
        have s2 := sumW_set (setW (wtP P) s 0) a v 64 hn
        rw [setW_off _ _ _ _ (Ne.symm hsn)] at s2
        have hph : phiN (mvP P s a m.2.2) = sumW (setW (setW (wtP P) s 0) a v) 64 := by
          unfold phiN
          refine sumW_congr 64 fun x hx => ?_
          rw [hw x hx]
          unfold setW
          by_cases c1 : x = a
          · rw [if_pos c1, if_pos c1]
          · rw [if_neg c1, if_neg c1, if_neg (show ¬ (tksN P s a ≠ -1 ∧ x = (tksN P s a).toNat) from fun e => c1 (by have := e.2; rw [et] at this; simpa using this))]
        rw [hph]
        unfold phiN
        refine ⟨by omega, fun _ => by omega⟩
      · have hap := tks_pawn P hr s n hs hn h.o h.g a et han
        have hemn : wtP P n = 0 := by
          have : P (2 * n) = 0 := em_zero P n (tks_far P s n a et han)
          unfold wtP; rw [this]; rfl
        have s2 := sumW_set (setW (wtP P) s 0) a 0 64 ha
        rw [setW_off _ _ _ _ hap.2] at s2
        have s3 := sumW_set (setW (setW (wtP P) s 0) a 0) n v 64 hn
        rw [setW_off _ _ _ _ (Ne.symm han), setW_off _ _ _ _ (Ne.symm hsn), hemn] at s3
        have hph : phiN (mvP P s n m.2.2) = sumW (setW (setW (setW (wtP P) s 0) a 0) n v) 64 := by
          unfold phiN
          refine sumW_congr 64 fun x hx => ?_
          rw [hw x hx]
          unfold setW
          by_cases c1 : x = n
          · rw [if_pos c1, if_pos c1]
          · rw [if_neg c1, if_neg c1]
            by_cases c2 : x = a
            · rw [if_pos c2, if_pos ⟨by omega, by rw [et]; simpa using c2⟩]
            · rw [if_neg c2, if_neg (show ¬ (tksN P s n ≠ -1 ∧ x = (tksN P s n).toNat) from fun e => c2 (by have := e.2; rw [et] at this; simpa using this))]
        rw [hph]
        unfold phiN
        refine ⟨by omega, fun _ => by omega⟩
  | some j =>
    obtain ⟨hj4, h1, h2, h3, h4, h5, h6, h7, h8, h9, h10, h11, h12, h13, h14⟩ := cas_facts P hr s n j hs hn h.o h.g hj
    have hq : ∀ i, pcsN P s n m.2.2 i = ptN (ptN (putM (cntN P (pwnB P s || (tksN P s n != -1))) s n m.2.2 (tksN P s n)) (homeC j) 0 0) ((s + n) / 2) 4 (homeD j) i := fun i => by
      unfold pcsN
      rw [hj]
      show ptN (ptN (putM (cntN P (pwnB P s || (tksN P s n != -1))) s n m.2.2 (tksN P s n)) (kasN (j * 5 + 4)).toNat 0 0) ((s + n) / 2) 4 (kasN (j * 5 + 1)) i = _
      rw [h8, h9]
    have hc64 : homeC j < 64 := by rcases (show j = 0 ∨ j = 1 ∨ j = 2 ∨ j = 3 by omega) with rfl | rfl | rfl | rfl <;> decide
    have hemn : wtP P n = 0 := by
      have : P (2 * n) = 0 := em_zero P n (tks_noneC P s n h7)
      unfold wtP; rw [this]; rfl
    have hmid : wtP P ((s + n) / 2) = 0 := by unfold wtP; rw [h6]; rfl
    have hcor : wtP P (homeC j) = 1 := by unfold wtP; rw [h4]; rfl
    have hmc : (s + n) / 2 ≠ homeC j := by intro e; rw [e] at h6; rw [h6] at h4; cases h4
    have s2 := sumW_set (setW (wtP P) s 0) (homeC j) 0 64 hc64
    rw [setW_off _ _ _ _ h11, hcor] at s2
    have s3 := sumW_set (setW (setW (wtP P) s 0) (homeC j) 0) ((s + n) / 2) 1 64 h10
    rw [setW_off _ _ _ _ hmc, setW_off _ _ _ _ h13, hmid] at s3
    have s4 := sumW_set (setW (setW (setW (wtP P) s 0) (homeC j) 0) ((s + n) / 2) 1) n v 64 hn
    rw [setW_off _ _ _ _ (Ne.symm h14), setW_off _ _ _ _ (Ne.symm h12), setW_off _ _ _ _ (Ne.symm hsn), hemn] at s4
    have hph : phiN (mvP P s n m.2.2) = sumW (setW (setW (setW (setW (wtP P) s 0) (homeC j) 0) ((s + n) / 2) 1) n v) 64 := by
      unfold phiN
      refine sumW_congr 64 fun x hx => ?_
      unfold wtP
      rw [e1, e1, cm_k _ _ _ _ _ hx, cm_d _ _ _ _ _ hx, hq, hq, ptN_k, ptN_d, ptN_k, ptN_d, hM _ _ hx, hMd _ _ hx]
      unfold setW
      have hnt : ¬ (tksN P s n ≠ -1 ∧ x = (tksN P s n).toNat) := fun e => e.1 h7
      rw [if_neg hnt, if_neg hnt]
      by_cases c1 : x = n
      · rw [if_neg (show ¬ x = (s + n) / 2 from fun e => h14 (by rw [← e]; exact c1)), if_neg (show ¬ x = (s + n) / 2 from fun e => h14 (by rw [← e]; exact c1)), if_neg (show ¬ x = homeC j from fun e => h12 (by rw [← e]; exact c1)), if_neg (show ¬ x = homeC j from fun e => h12 (by rw [← e]; exact c1)), if_pos c1, if_pos c1, if_pos c1, c1, hv]
      · rw [if_neg c1, if_neg c1, if_neg c1]
        by_cases c2 : x = (s + n) / 2
        · rw [if_pos c2, if_pos c2, if_pos c2]; rfl
        · rw [if_neg c2, if_neg c2, if_neg c2]
          by_cases c3 : x = homeC j
          · rw [if_pos c3, if_pos c3, if_pos c3]; rfl
          · rw [if_neg c3, if_neg c3, if_neg c3]
            by_cases c4 : x = s
            · rw [if_pos c4, if_pos c4, if_pos c4]; rfl
            · rw [if_neg c4, if_neg c4, if_neg c4]
    rw [hph]
    unfold phiN
    refine ⟨by omega, fun hc => ?_⟩
    rcases hc with hc | hc
    · rw [h2] at hc; cases hc
    · exact absurd h7 hc
def bits4 (c : Nat) : Nat := c % 2 + c / 2 % 2 + c / 4 % 2 + c / 8 % 2
theorem bits_less : ∀ c : Fin 16, ∀ a : Fin 16, ∀ b : Fin 16, bits4 (bits .andNot .i64 (c.val : Int) (bits .or .i64 (a.val : Int) (b.val : Int))).toNat ≤ bits4 c.val ∧
    (bits .andNot .i64 (c.val : Int) (bits .or .i64 (a.val : Int) (b.val : Int)) ≠ (c.val : Int) → bits4 (bits .andNot .i64 (c.val : Int) (bits .or .i64 (a.val : Int) (b.val : Int))).toNat < bits4 c.val) := by decide +kernel
theorem casM_bits (c : Int) (hc : casB c = true) (s n : Nat) : bits4 (casM c s n).toNat ≤ bits4 c.toNat ∧ (casM c s n ≠ c → bits4 (casM c s n).toNat < bits4 c.toNat) := by
  have h15 : 0 ≤ c ∧ c ≤ 15 := by unfold casB at hc; simpa using hc
  obtain ⟨a1, a2⟩ := lost_range (s : Int)
  obtain ⟨b1, b2⟩ := lost_range (n : Int)
  have h := bits_less ⟨c.toNat, by omega⟩ ⟨(lostN (s : Int)).toNat, by omega⟩ ⟨(lostN (n : Int)).toNat, by omega⟩
  simp only [Int.toNat_of_nonneg h15.1, Int.toNat_of_nonneg a1, Int.toNat_of_nonneg b1] at h
  exact h
def psiN (P : Nat → Int) : Nat := phiN P + bits4 (P 129).toNat
theorem psi_like {P Q : Nat → Int} (h : LikeS P Q) : psiN P = psiN Q := by
  unfold psiN phiN
  rw [h.cas, sumW_congr 64 fun x hx => (show wtP P x = wtP Q x by unfold wtP; rw [h.k hx, h.d hx])]
theorem psi_next (P : Nat → Int) (hp : posB P = true) (m : Int × Int × Int) (hm : m ∈ legM P) :
    psiN (nxP P m.1.toNat m.2.1.toNat m.2.2) ≤ psiN P ∧ (nxP P m.1.toNat m.2.1.toNat m.2.2 131 = 0 ∨ nxP P m.1.toNat m.2.1.toNat m.2.2 129 ≠ P 129 → psiN (nxP P m.1.toNat m.2.1.toNat m.2.2) < psiN P) := by
  obtain ⟨s, n, h⟩ := leg_ok P hp m hm
  have hv := h.x.mv
  have hr := (pos_parts P hp).1
  rw [hv.f, hv.t, Int.toNat_natCast, Int.toNat_natCast, h.nx]
  obtain ⟨g1, g2⟩ := phi_next P hr m s n hv
  have e1 : ∀ i, mvP P s n m.2.2 i = cmN P s n m.2.2 i := fun i => by
    unfold mvP; rw [if_pos h.x.flt, right_hand P hr, Int.toNat_natCast, Int.toNat_natCast]
  have q129 : mvP P s n m.2.2 129 = casM (P 129) s n := by rw [e1]; unfold cmN; rw [lst_cas, pcs_end _ _ _ _ hv.hs hv.hn _ (by omega), cnt_off _ _ _ (by omega) (by omega)]
  have q131 : mvP P s n m.2.2 131 = if (pwnB P s || (tksN P s n != -1)) = true then 0 else incN (P 131) 1024 := by
    rw [e1]; unfold cmN; rw [lst_off _ _ _ _ _ (by omega) (by omega) (by omega), pcs_end _ _ _ _ hv.hs hv.hn _ (by omega), cnt_half]
  obtain ⟨c1, c2⟩ := casM_bits (P 129) (right_cas P hr) s n
  have h131 := (right_parts9 P hr).2.2.2.2.2.1
  unfold psiN
  rw [q129]
  refine ⟨by omega, fun hc => ?_⟩
  rcases hc with hc | hc
  · have hpt : (pwnB P s || (tksN P s n != -1)) = true := by
      rw [q131] at hc
      cases e : (pwnB P s || (tksN P s n != -1))
      · rw [e] at hc
        exfalso
        simp only [Bool.false_eq_true, if_false] at hc
        unfold incN wrap64 at hc
        split at hc <;> omega
      · rfl
    have := g2 (by
      rw [Bool.or_eq_true] at hpt
      rcases hpt with e | e
      · left; unfold pwnB at e; simpa using e
      · right; simpa using e)
    omega
  · have := c2 hc
    omega
end Go.Proofs.YtcdnakbdajbfoaaGreatDoor
