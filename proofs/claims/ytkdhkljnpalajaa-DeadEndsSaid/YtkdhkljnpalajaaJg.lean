/-
  What is left of a position turned, of one with a piece less, with a heavy one more: DeadLess.
-/
import Derived.Test.YtkdhkljnpalajaaJf
namespace Go.Proofs.Ytkdhkljnpalajaa
open Go.RowKit Go.Sort
set_option linter.unusedSimpArgs false
set_option linter.unusedVariables false
set_option maxRecDepth 20000

theorem TB.other4 {t : TypeId} {W : World} {b c : Nat} {x : LF} (h : TB t W b x) (hne : b ≠ c) (v0 v1 v2 v3 : Value) : TB t ((((W.setCell ⟨c, 0, none⟩ v0).setCell ⟨c, 1, none⟩ v1).setCell ⟨c, 2, none⟩ v2).setCell ⟨c, 3, none⟩ v3) b x :=
  (((h.other (gr1_B v0) hne).other (gr1_B v1) hne).other (gr1_B v2) hne).other (gr1_B v3) hne
section
variable {P : Program} {md : Region.Mode} {ops : Array Oper} {Q : Exit → Act → World → Prop}
theorem three_to {S : World → Prop} {i j k : Nat} {o o2 o3 : Oper} {fuel : Nat} {listed l1 l2 l3 : Array Bool} {a : Act} {w : World} (ho : ops[i]? = some o) (ho2 : ops[j]? = some o2) (ho3 : ops[k]? = some o3) (hr : Region.ready md ops listed = [i, j, k]) (hl : listed.setIfInBounds i true = l1) (hl2 : listed.setIfInBounds j true = l2) (hl3 : listed.setIfInBounds k true = l3)
    (h : ∀ K' : Act → World → Prop, Shut (∀ a w, S w → (S w → wpAnyH P md ops Q S fuel l1 a w) → K' a w) → if Region.wanted o (yielded ops a.tmps) = true then Oper.wp P o a w K' Q else K' (a.put o.dst undef) w)
    (h2 : ∀ K' : Act → World → Prop, Shut (∀ a w, S w → (S w → wpAnyH P md ops Q S fuel l2 a w) → K' a w) → if Region.wanted o2 (yielded ops a.tmps) = true then Oper.wp P o2 a w K' Q else K' (a.put o2.dst undef) w)
    (h3 : ∀ K' : Act → World → Prop, Shut (∀ a w, S w → (S w → wpAnyH P md ops Q S fuel l3 a w) → K' a w) → if Region.wanted o3 (yielded ops a.tmps) = true then Oper.wp P o3 a w K' Q else K' (a.put o3.dst undef) w) : wpAnyH P md ops Q S (fuel + 1) listed a w := by
  subst hl hl2 hl3
  exact wpAnyH_ready hr (by simp) (AllReadyH.cons ho h (AllReadyH.cons ho2 h2 (AllReadyH.cons ho3 h3 AllReadyH.nil)))
end
theorem wpQuiet_pos {ops : Array Oper} {C : World → Prop} {Q : Act → Prop} {rest : List Oper} {o : Oper} {a : Act} (hw : Region.wanted o (yielded ops a.tmps) = true) (x : Operand) (ho : o.op = .load 29 x)
    (b : Nat) (P : Nat → Int) (X : Array Value) (hX : X = (pc P).toArray) (hx : a.eval x = .pointer (some ⟨b, 0, none⟩)) (hc : ∀ W, C W → PB W b P) (h : wpQuiet Try.prog ops C Q rest (a.put o.dst (.agg X))) : wpQuiet Try.prog ops C Q (o :: rest) a := by
  subst hX
  exact wpQuiet_rows (b := b) (ty := 29) (x := x) (cs := pc P) (fun W hW => (hc W hW).range) Try.underlying29 rfl (by rw [infoPos, pc_len]) hw ho hx h
theorem yields_posC {ops : Array Oper} {S : World → Prop} {op : Oper} {a : Act} (hw : Region.wanted op (yielded ops a.tmps) = true) (x : Operand) (ho : op.op = .load 29 x)
    (b : Nat) (P : Nat → Int) (X : Array Value) (hX : X = (pc P).toArray) (hx : a.eval x = .pointer (some ⟨b, 0, none⟩)) (hS : ∀ w, S w → PB w b P) : YieldsIf Try.prog ops S op (.agg X) a := by
  subst hX
  exact yieldsIf_load_mid hw 29 x ho b 0 hx (pc P) _ (fun w h => (hS w h).range) Try.underlying29 rfl (by rw [infoPos, pc_len])
def sumN (F : Nat → Int) : Nat → Int
  | 0 => 0
  | n + 1 => sumN F n + F n
theorem sumN_congr {F G : Nat → Int} : ∀ n : Nat, (∀ i, i < n → F i = G i) → sumN F n = sumN G n
  | 0, _ => rfl
  | n + 1, h => by unfold sumN; rw [sumN_congr n fun i hi => h i (by omega), h n (by omega)]
theorem sumN_one {F G : Nat → Int} (s : Nat) : ∀ n : Nat, (∀ i, i ≠ s → F i = G i) → sumN F n - sumN G n = if s < n then F s - G s else 0
  | 0, _ => by simp [sumN]
  | n + 1, h => by
    have ih := sumN_one s n h
    unfold sumN
    by_cases hs : s = n
    · subst hs
      rw [if_neg (by omega)] at ih
      rw [if_pos (by omega)]
      omega
    · rw [h n (fun e => hs e.symm)]
      by_cases hlt : s < n
      · rw [if_pos hlt] at ih; rw [if_pos (by omega)]; omega
      · rw [if_neg hlt] at ih; rw [if_neg (by omega)]; omega
theorem sumN_nn {F : Nat → Int} (h : ∀ i, 0 ≤ F i) : ∀ n : Nat, 0 ≤ sumN F n
  | 0 => by simp [sumN]
  | n + 1 => by have := sumN_nn h n; have := h n; unfold sumN; omega
theorem sumN_ge {F : Nat → Int} (h : ∀ i, 0 ≤ F i) (s : Nat) : ∀ n : Nat, s < n → F s ≤ sumN F n
  | 0, hs => by omega
  | n + 1, hs => by
    unfold sumN
    have := h n
    by_cases e : s = n
    · subst e; have := sumN_nn h s; omega
    · have := sumN_ge h s n (by omega); omega
set_option maxHeartbeats 2000000 in
theorem sumN_mir (F : Nat → Int) : sumN F 64 = sumN (fun i => F (mir i)) 64 := by
  simp only [sumN, mir, Nat.reduceDiv, Nat.reduceMod, Nat.reduceMul, Nat.reduceSub, Nat.reduceAdd]
  omega
/-- is a kind heavy? one knight? -/
def hv (k : Int) : Int := if k = 0 ∨ k = 6 ∨ k = 2 ∨ k = 3 then 0 else 1
def kv (k : Int) : Int := if k = 2 then 1 else 0
def bv (k : Int) (b : Bool) : Int := if k = 3 ∧ b = true then 1 else 0
theorem cnt_sums (P : Nat → Int) : ∀ n : Nat, (cntD P n).h = sumN (fun i => hv (P (i * 2))) n ∧ (cntD P n).k = sumN (fun i => kv (P (i * 2))) n ∧
    (cntD P n).d = sumN (fun i => bv (P (i * 2)) (dark (i : Int))) n ∧ (cntD P n).l = sumN (fun i => bv (P (i * 2)) (!dark (i : Int))) n
  | 0 => ⟨rfl, rfl, rfl, rfl⟩
  | n + 1 => by
    obtain ⟨h1, h2, h3, h4⟩ := cnt_sums P n
    show (addK (P (n * 2)) (dark (n : Int)) (cntD P n)).h = sumN _ n + hv (P (n * 2)) ∧ (addK (P (n * 2)) (dark (n : Int)) (cntD P n)).k = sumN _ n + kv (P (n * 2)) ∧
      (addK (P (n * 2)) (dark (n : Int)) (cntD P n)).d = sumN _ n + bv (P (n * 2)) (dark (n : Int)) ∧ (addK (P (n * 2)) (dark (n : Int)) (cntD P n)).l = sumN _ n + bv (P (n * 2)) (!dark (n : Int))
    rw [← h1, ← h2, ← h3, ← h4]
    generalize cntD P n = x
    generalize P (n * 2) = k
    generalize dark (n : Int) = b
    unfold addK hv kv bv
    by_cases c0 : k = 0
    · subst c0; simp
    by_cases c6 : k = 6
    · subst c6; simp
    by_cases c2 : k = 2
    · subst c2; simp
    by_cases c3 : k = 3
    · subst c3; cases b <;> simp
    · simp [c0, c6, c2, c3]
theorem LF.ext' {x y : LF} (h1 : x.h = y.h) (h2 : x.k = y.k) (h3 : x.d = y.d) (h4 : x.l = y.l) : x = y := by
  cases x; cases y; simp only at h1 h2 h3 h4; subst h1 h2 h3 h4; rfl
theorem dark_mir (i : Nat) (hi : i < 64) : dark (mir i : Int) = !dark (i : Int) := by
  rw [dark_nat _ (mir_lt i hi), dark_nat i hi]
  unfold mir
  have : (8 * (7 - i / 8) + i % 8) % 8 = i % 8 := by omega
  have h2 : (8 * (7 - i / 8) + i % 8) / 8 = 7 - i / 8 := by omega
  rw [this, h2]
  by_cases h : (i % 8 + i / 8) % 2 = 0
  · rw [decide_eq_true h, decide_eq_false (by omega)]; rfl
  · rw [decide_eq_false h, decide_eq_true (by omega)]; rfl
/-- turned: the same, but that dark squares are light -/
theorem cnt_turn (P : Nat → Int) : cntD (turnN P) 64 = ⟨(cntD P 64).h, (cntD P 64).k, (cntD P 64).l, (cntD P 64).d⟩ := by
  obtain ⟨h1, h2, h3, h4⟩ := cnt_sums P 64
  obtain ⟨g1, g2, g3, g4⟩ := cnt_sums (turnN P) 64
  have hk : ∀ i, i < 64 → turnN P (i * 2) = P (mir i * 2) := fun i hi => by rw [Nat.mul_comm i 2, turnN_k P i hi, Nat.mul_comm 2]
  refine LF.ext' ?_ ?_ ?_ ?_
  · rw [g1, h1, sumN_mir (fun i => hv (P (i * 2)))]; exact sumN_congr 64 fun i hi => by rw [hk i hi]
  · rw [g2, h2, sumN_mir (fun i => kv (P (i * 2)))]; exact sumN_congr 64 fun i hi => by rw [hk i hi]
  · rw [g3, h4, sumN_mir (fun i => bv (P (i * 2)) (!dark (i : Int)))]; exact sumN_congr 64 fun i hi => by rw [hk i hi, dark_mir i hi, Bool.not_not]
  · rw [g4, h3, sumN_mir (fun i => bv (P (i * 2)) (dark (i : Int)))]; exact sumN_congr 64 fun i hi => by rw [hk i hi, dark_mir i hi]
theorem dead_iff (x : LF) : deadB x = true ↔ x.h ≤ 0 ∧ x.k ≤ 1 ∧ (x.k = 1 → x.d ≤ 0 ∧ x.l ≤ 0) ∧ (x.d ≤ 0 ∨ x.l ≤ 0) := by
  unfold deadB
  by_cases c1 : 0 < x.h ∨ 1 < x.k
  · rw [if_pos c1]; constructor
    · intro h; cases h
    · intro h; omega
  · rw [if_neg c1]
    by_cases c2 : x.k = 1
    · rw [if_pos c2]
      simp only [Bool.and_eq_true, Bool.not_eq_true', decide_eq_false_iff_not]
      omega
    · rw [if_neg c2]
      simp only [Bool.or_eq_true, Bool.not_eq_true', decide_eq_false_iff_not]
      omega
theorem dead_swap (x : LF) : deadB ⟨x.h, x.k, x.l, x.d⟩ = deadB x := by
  rw [Bool.eq_iff_iff, dead_iff, dead_iff]
  dsimp only
  omega
theorem dead_less {x y : LF} (h1 : y.h ≤ x.h) (h2 : y.k ≤ x.k) (h3 : y.d ≤ x.d) (h4 : y.l ≤ x.l) (h : deadB x = true) : deadB y = true := by
  rw [dead_iff] at h ⊢
  omega
theorem dead_heavy {x : LF} (h : 0 < x.h) : deadB x = false := by
  rw [Bool.eq_false_iff, ne_eq, dead_iff]; omega
/-- another piece on a square -/
theorem cnt_less (P : Nat → Int) (s : Nat) (hs : s < 64) (d : Int) (h : deadB (cntD P 64) = true) : deadB (cntD (setN (setN P (s * 2) 0) (s * 2 + 1) d) 64) = true := by
  have hc : ∀ i, setN (setN P (s * 2) 0) (s * 2 + 1) d (i * 2) = if i = s then 0 else P (i * 2) := fun i => by
    unfold setN; rw [if_neg (by omega)]
    by_cases e : i = s
    · rw [if_pos (by omega), if_pos e]
    · rw [if_neg (by omega), if_neg e]
  obtain ⟨h1, h2, h3, h4⟩ := cnt_sums P 64
  obtain ⟨g1, g2, g3, g4⟩ := cnt_sums (setN (setN P (s * 2) 0) (s * 2 + 1) d) 64
  have key : ∀ (V : Int → Nat → Int), (∀ i, V 0 i = 0) → (∀ k i, 0 ≤ V k i) → sumN (fun i => V (setN (setN P (s * 2) 0) (s * 2 + 1) d (i * 2)) i) 64 ≤ sumN (fun i => V (P (i * 2)) i) 64 := fun V hV0 hV => by
    have := sumN_one (F := fun i => V (P (i * 2)) i) (G := fun i => V (setN (setN P (s * 2) 0) (s * 2 + 1) d (i * 2)) i) s 64 (fun i hi => by rw [hc i, if_neg hi])
    rw [if_pos hs] at this
    rw [hc s, if_pos rfl, hV0] at this
    have := hV (P (s * 2)) s
    omega
  refine dead_less ?_ ?_ ?_ ?_ h
  · rw [g1, h1]; exact key (fun k _ => hv k) (fun _ => rfl) (fun k _ => by unfold hv; split <;> omega)
  · rw [g2, h2]; exact key (fun k _ => kv k) (fun _ => rfl) (fun k _ => by unfold kv; split <;> omega)
  · rw [g3, h3]; exact key (fun k i => bv k (dark (i : Int))) (fun _ => by simp [bv]) (fun k _ => by unfold bv; split <;> omega)
  · rw [g4, h4]; exact key (fun k i => bv k (!dark (i : Int))) (fun _ => by simp [bv]) (fun k _ => by unfold bv; split <;> omega)
theorem cnt_more (P : Nat → Int) (s : Nat) (hs : s < 64) (k d : Int) (hk : k = 1 ∨ k = 4 ∨ k = 5) : deadB (cntD (setN (setN P (s * 2) k) (s * 2 + 1) d) 64) = false := by
  refine dead_heavy ?_
  obtain ⟨g1, _, _, _⟩ := cnt_sums (setN (setN P (s * 2) k) (s * 2 + 1) d) 64
  rw [g1]
  have := sumN_ge (F := fun i => hv (setN (setN P (s * 2) k) (s * 2 + 1) d (i * 2))) (fun i => by unfold hv; split <;> omega) s 64 hs
  have hc : setN (setN P (s * 2) k) (s * 2 + 1) d (s * 2) = k := by unfold setN; rw [if_neg (by omega), if_pos rfl]
  rw [hc] at this
  have h1 : hv k = 1 := by rcases hk with rfl | rfl | rfl <;> rfl
  omega
end Go.Proofs.Ytkdhkljnpalajaa
