/-
  Merged: SqE, SqG, SqH.
-/
import Derived.Test.YtldepimkbnodpaaDoorSqD
import Derived.WideShapes

namespace Go.Proofs.YtldepimkbnodpaaDoor
open Go.RowKit
set_option linter.unusedSimpArgs false
set_option linter.unusedVariables false

theorem i64_of {n : Int} (h0 : -1000000 ≤ n) (h1 : n ≤ 1000000) : I64 n := ⟨by omega, by omega⟩
theorem ex_row (i : Nat) (hi : i < 5) : (#[Value.int .i64 11, Value.int .i64 20, Value.int .i64 29, Value.int .i64 38, Value.int .i64 47] : Array Value)[i]? = some (.int .i64 (rq 2 1 1 i)) := by
  match i, hi with
  | 0, _ => rfl
  | 1, _ => rfl
  | 2, _ => rfl
  | 3, _ => rfl
  | 4, _ => rfl
theorem ex_ray : RayN 2 1 1 5 := ⟨by decide, by decide⟩
theorem name_back {x : Int} (h : sq x = true) : isN (nmV x) = true ∧ nN (nmV x) = x := by
  obtain ⟨h0, h1⟩ := (sq_iff x).1 h
  have e : nmV x = nm x := by unfold nmV; rw [if_pos h]
  have e0 : nb (nm x) 0 = 97 + x % 8 := ch_nat (n := 97 + x % 8) (by omega) (by omega)
  have e1 : nb (nm x) 1 = 49 + x / 8 := ch_nat (n := 49 + x / 8) (by omega) (by omega)
  have hi : isN (nmV x) = true := by
    rw [e]; unfold isN; rw [e0, e1]
    rw [show decide ((nm x).size = 2) = true from rfl, Bool.true_and]
    exact (onB_iff _ _).2 (by omega)
  refine ⟨hi, ?_⟩
  unfold nN
  rw [if_pos hi, e, e0, e1]
  omega
theorem at_back {x : Int} (h : sq x = true) : sAt (sF x) (sR x) = x := by
  obtain ⟨h0, h1⟩ := (sq_iff x).1 h
  unfold sF sR sAt
  rw [if_pos h, if_pos h, if_pos ((onB_iff _ _).2 (by omega))]
  omega
theorem stp_or (x f r : Int) : stp x f r = -1 ∨ sq (stp x f r) = true := by
  cases h : sq (stp x f r)
  · left
    unfold stp at h ⊢
    split
    · rename_i hc
      rw [if_pos hc] at h
      rw [Bool.and_eq_true] at hc
      obtain ⟨s0, s1⟩ := (sq_iff _).1 hc.1
      obtain ⟨u0, u1, u2, u3⟩ := (onB_iff _ _).1 hc.2
      rw [(sq_iff _).2 (by omega)] at h; cases h
    · rfl
  · exact .inr rfl
theorem step_back {x f r : Int} (h : sq (stp x f r) = true) : stp (stp x f r) (-f) (-r) = x := by
  obtain ⟨h1, h2, h3⟩ := stp_sq h
  obtain ⟨s0, s1⟩ := (sq_iff x).1 h1
  exact stp_hit h s0 s1 (by omega) (by omega)
theorem step_dark {x f r : Int} (h : sq (stp x f r) = true) : dark (stp x f r) = (dark x == decide ((f + r + 14) % 2 = 0)) := by
  obtain ⟨h1, h2, h3⟩ := stp_sq h
  unfold dark
  rw [h, h1, h2, h3]
  by_cases p : (x % 8 + x / 8) % 2 = 0 <;> by_cases q : (f + r + 14) % 2 = 0
  all_goals simp only [p, q, decide_true, decide_false, Bool.true_and, Bool.false_and, decide_eq_true_eq]
  all_goals simp
  all_goals omega
theorem step_two {x f r k : Int} (h : sq (stp x f r) = true) (h2 : sq (stp (stp x f r) k 0) = true) : stp x (f + k) r = stp (stp x f r) k 0 := by
  obtain ⟨a1, a2, a3⟩ := stp_sq h
  obtain ⟨b1, b2, b3⟩ := stp_sq h2
  obtain ⟨t0, t1⟩ := (sq_iff _).1 h2
  exact stp_hit a1 t0 t1 (by omega) (by omega)
end Go.Proofs.YtldepimkbnodpaaDoor

namespace Go.Proofs.YtldepimkbnodpaaDoor
open Go.RowKit
set_option linter.unusedSimpArgs false
set_option linter.unusedVariables false

/-- a string is a square's name just if it is some square's name -/
theorem isN_some {S : ByteArray} (h : isN S = true) : sq (nN S) = true ∧ nmV (nN S) = S := by
  unfold isN at h
  rw [Bool.and_eq_true, decide_eq_true_eq] at h
  obtain ⟨hz, hb⟩ := h
  obtain ⟨u0, u1, u2, u3⟩ := (onB_iff _ _).1 hb
  have hn : nN S = 8 * (nb S 1 - 49) + (nb S 0 - 97) := by
    unfold nN isN; rw [if_pos (by rw [Bool.and_eq_true, decide_eq_true_eq]; exact ⟨hz, hb⟩)]
  have hsq : sq (nN S) = true := (sq_iff _).2 (by omega)
  refine ⟨hsq, ?_⟩
  unfold nmV
  rw [if_pos hsq]
  unfold nm
  rw [show 97 + nN S % 8 = nb S 0 by omega, show 49 + nN S / 8 = nb S 1 by omega]
  clear hn hsq u0 u1 u2 u3 hb
  obtain ⟨⟨l⟩⟩ := S
  match l, hz with
  | [x, y], _ =>
    have e0 : ch (nb ⟨⟨[x, y]⟩⟩ 0) = x := by unfold ch nb; simp
    have e1 : ch (nb ⟨⟨[x, y]⟩⟩ 1) = y := by unfold ch nb; simp
    rw [e0, e1]
theorem isN_hit {S : ByteArray} {t : Int} (ht : sq t = true) (h : nmV t = S) : isN S = true ∧ nN S = t := by
  subst h; exact name_back ht
theorem isN_miss {S : ByteArray} (h : ∀ t : Nat, t < 64 → ¬ nmV (t : Int) = S) : isN S = false ∧ nN S = 0 := by
  have hf : isN S = false := by
    cases hi : isN S
    · rfl
    · obtain ⟨h1, h2⟩ := isN_some hi
      obtain ⟨t0, t1⟩ := (sq_iff _).1 h1
      exact absurd (by rw [show (((nN S).toNat : Nat) : Int) = nN S by omega]; exact h2) (h (nN S).toNat (by omega))
  exact ⟨hf, by unfold nN; rw [hf]; rfl⟩
theorem rq_neg {s a b : Int} {n : Nat} (h : sq (rq s a b n) = false) : rq s a b n = -1 := by
  cases n with
  | zero => rcases stp_or s a b with h3 | h3
            · exact h3
            · rw [show rq s a b 0 = stp s a b from rfl, h3] at h; cases h
  | succ n => rcases stp_or (rq s a b n) a b with h3 | h3
              · exact h3
              · rw [show rq s a b (n + 1) = stp (rq s a b n) a b from rfl, h3] at h; cases h
end Go.Proofs.YtldepimkbnodpaaDoor

namespace Go.Proofs.YtldepimkbnodpaaDoor
open Go.RowKit
set_option linter.unusedSimpArgs false
set_option linter.unusedVariables false

/-- a row of steps: each a file's and a rank's -/
def Reads2 (B : Nat) (w : World) (p : Option Addr) (n : Nat) (f g : Nat → Int) : Prop :=
  n = 0 ∨ ∃ b off, p = some ⟨b, off, none⟩ ∧ b < B ∧ ∀ i, i < n → w.cell? ⟨b, off + i * 2, none⟩ = some (.int .i64 (f i)) ∧ w.cell? ⟨b, off + i * 2 + 1, none⟩ = some (.int .i64 (g i))
theorem Reads2.below {B : Nat} {w w' : World} {p : Option Addr} {n : Nat} {f g : Nat → Int} (h : Reads2 B w p n f g) (hb : Below B w w') : Reads2 B w' p n f g := by
  rcases h with h | ⟨b, off, h1, h2, h3⟩
  · exact .inl h
  · exact .inr ⟨b, off, h1, h2, fun i hi => ⟨(hb.cell (p := ⟨b, off + i * 2, none⟩) h2).trans (h3 i hi).1, (hb.cell (p := ⟨b, off + i * 2 + 1, none⟩) h2).trans (h3 i hi).2⟩⟩
theorem Reads2.mono {B B' : Nat} {w : World} {p : Option Addr} {n : Nat} {f g : Nat → Int} (h : Reads2 B w p n f g) (hB : B ≤ B') : Reads2 B' w p n f g := by
  rcases h with h | ⟨b, off, h1, h2, h3⟩
  · exact .inl h
  · exact .inr ⟨b, off, h1, Nat.lt_of_lt_of_le h2 hB, h3⟩
/-- the squares at the first steps -/
def rg (s : Int) (f g : Nat → Int) : Nat → List Int
  | 0 => []
  | k + 1 => rg s f g k ++ if sq (stp s (f k) (g k)) then [stp s (f k) (g k)] else []
theorem rg_len (s : Int) (f g : Nat → Int) (k : Nat) : (rg s f g k).length ≤ k := by
  induction k with
  | zero => exact Nat.le_refl _
  | succ k ih =>
    simp only [rg, List.length_append]
    split <;> simp <;> omega
def ivals (l : List Int) : List Value := l.map fun x => .int .i64 x
theorem ivals_range (l : List Int) : ivals l = (List.range l.length).map fun i => .int .i64 (l.getD i 0) := by
  apply List.ext_getElem?
  intro i
  unfold ivals
  by_cases h : i < l.length
  · simp [h, List.getElem?_eq_getElem h]
  · rw [List.getElem?_eq_none (by simp; omega), List.getElem?_eq_none (by simp; omega)]
theorem ivals_snoc (l : List Int) (x : Int) : ivals l ++ [.int .i64 x] = ivals (l ++ [x]) := by unfold ivals; rw [List.map_append]; rfl

end Go.Proofs.YtldepimkbnodpaaDoor
