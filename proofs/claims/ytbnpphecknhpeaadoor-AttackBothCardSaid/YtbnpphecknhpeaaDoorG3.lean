/-
  Merged: SqG, SqH.
-/
import Derived.Test.YtbnpphecknhpeaaDoorSqE
import Derived.WideShapes

namespace Go.Proofs.YtbnpphecknhpeaaDoor
open Go.RowKit
set_option linter.unusedSimpArgs false
set_option linter.unusedVariables false

/-- a string is a square's name just if it is some square's name -/
theorem isN_some {S : ByteArray} (h : isN S = true) : sq (nN S) = true ∧ nmV (nN S) = S := by
  unfold isN at h
  rw [Bool.and_eq_true, decide_eq_true_eq] at h
  obtain ⟨hz, hb⟩ := h
  obtain ⟨u0, u1, u2, u3⟩ := (onB_iff _ _).1 hb
  have hn : nN S = 8 * (nb S 1 - 49) + (nb S 0 - 97) := by
    unfold nN isN; rw [if_pos (by rw [Bool.and_eq_true, decide_eq_true_eq]; exact ⟨hz, hb⟩)]
  have hsq : sq (nN S) = true := (sq_iff _).2 (by omega)
  refine ⟨hsq, ?_⟩
  unfold nmV
  rw [if_pos hsq]
  unfold nm
  rw [show 97 + nN S % 8 = nb S 0 by omega, show 49 + nN S / 8 = nb S 1 by omega]
  clear hn hsq u0 u1 u2 u3 hb
  obtain ⟨⟨l⟩⟩ := S
  match l, hz with
  | [x, y], _ =>
    have e0 : ch (nb ⟨⟨[x, y]⟩⟩ 0) = x := by unfold ch nb; simp
    have e1 : ch (nb ⟨⟨[x, y]⟩⟩ 1) = y := by unfold ch nb; simp
    rw [e0, e1]
theorem isN_hit {S : ByteArray} {t : Int} (ht : sq t = true) (h : nmV t = S) : isN S = true ∧ nN S = t := by
  subst h; exact name_back ht
theorem isN_miss {S : ByteArray} (h : ∀ t : Nat, t < 64 → ¬ nmV (t : Int) = S) : isN S = false ∧ nN S = 0 := by
  have hf : isN S = false := by
    cases hi : isN S
    · rfl
    · obtain ⟨h1, h2⟩ := isN_some hi
      obtain ⟨t0, t1⟩ := (sq_iff _).1 h1
      exact absurd (by rw [show (((nN S).toNat : Nat) : Int) = nN S by omega]; exact h2) (h (nN S).toNat (by omega))
  exact ⟨hf, by unfold nN; rw [hf]; rfl⟩
theorem rq_neg {s a b : Int} {n : Nat} (h : sq (rq s a b n) = false) : rq s a b n = -1 := by
  cases n with
  | zero => rcases stp_or s a b with h3 | h3
            · exact h3
            · rw [show rq s a b 0 = stp s a b from rfl, h3] at h; cases h
  | succ n => rcases stp_or (rq s a b n) a b with h3 | h3
              · exact h3
              · rw [show rq s a b (n + 1) = stp (rq s a b n) a b from rfl, h3] at h; cases h
end Go.Proofs.YtbnpphecknhpeaaDoor

namespace Go.Proofs.YtbnpphecknhpeaaDoor
open Go.RowKit
set_option linter.unusedSimpArgs false
set_option linter.unusedVariables false

/-- a row of steps: each a file's and a rank's -/
def Reads2 (B : Nat) (w : World) (p : Option Addr) (n : Nat) (f g : Nat → Int) : Prop :=
  n = 0 ∨ ∃ b off, p = some ⟨b, off, none⟩ ∧ b < B ∧ ∀ i, i < n → w.cell? ⟨b, off + i * 2, none⟩ = some (.int .i64 (f i)) ∧ w.cell? ⟨b, off + i * 2 + 1, none⟩ = some (.int .i64 (g i))
theorem Reads2.below {B : Nat} {w w' : World} {p : Option Addr} {n : Nat} {f g : Nat → Int} (h : Reads2 B w p n f g) (hb : Below B w w') : Reads2 B w' p n f g := by
  rcases h with h | ⟨b, off, h1, h2, h3⟩
  · exact .inl h
  · exact .inr ⟨b, off, h1, h2, fun i hi => ⟨(hb.cell (p := ⟨b, off + i * 2, none⟩) h2).trans (h3 i hi).1, (hb.cell (p := ⟨b, off + i * 2 + 1, none⟩) h2).trans (h3 i hi).2⟩⟩
theorem Reads2.mono {B B' : Nat} {w : World} {p : Option Addr} {n : Nat} {f g : Nat → Int} (h : Reads2 B w p n f g) (hB : B ≤ B') : Reads2 B' w p n f g := by
  rcases h with h | ⟨b, off, h1, h2, h3⟩
  · exact .inl h
  · exact .inr ⟨b, off, h1, Nat.lt_of_lt_of_le h2 hB, h3⟩
/-- the squares at the first steps -/
def rg (s : Int) (f g : Nat → Int) : Nat → List Int
  | 0 => []
  | k + 1 => rg s f g k ++ if sq (stp s (f k) (g k)) then [stp s (f k) (g k)] else []
theorem rg_len (s : Int) (f g : Nat → Int) (k : Nat) : (rg s f g k).length ≤ k := by
  induction k with
  | zero => exact Nat.le_refl _
  | succ k ih =>
    simp only [rg, List.length_append]
    split <;> simp <;> omega
def ivals (l : List Int) : List Value := l.map fun x => .int .i64 x
theorem ivals_range (l : List Int) : ivals l = (List.range l.length).map fun i => .int .i64 (l.getD i 0) := by
  apply List.ext_getElem?
  intro i
  unfold ivals
  by_cases h : i < l.length
  · simp [h, List.getElem?_eq_getElem h]
  · rw [List.getElem?_eq_none (by simp; omega), List.getElem?_eq_none (by simp; omega)]
theorem ivals_snoc (l : List Int) (x : Int) : ivals l ++ [.int .i64 x] = ivals (l ++ [x]) := by unfold ivals; rw [List.map_append]; rfl

end Go.Proofs.YtbnpphecknhpeaaDoor
