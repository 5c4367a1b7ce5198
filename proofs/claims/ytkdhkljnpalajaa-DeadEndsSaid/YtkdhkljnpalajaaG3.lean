/-
  Merged: Be, SqD, SqE, SqG, SqH, Bf, Bg, Bh.
-/
import Derived.Test.YtkdhkljnpalajaaBd
import Derived.Test.YtkdhkljnpalajaaG2
import Derived.WideShapes

namespace Go.Proofs.Ytkdhkljnpalajaa
open Go.RowKit
set_option linter.unusedSimpArgs false
set_option linter.unusedVariables false

end Go.Proofs.Ytkdhkljnpalajaa

namespace Go.Proofs.Ytkdhkljnpalajaa
open Go.RowKit
set_option linter.unusedSimpArgs false
set_option linter.unusedVariables false
set_option maxRecDepth 20000

end Go.Proofs.Ytkdhkljnpalajaa

namespace Go.Proofs.Ytkdhkljnpalajaa
open Go.RowKit
set_option linter.unusedSimpArgs false
set_option linter.unusedVariables false

end Go.Proofs.Ytkdhkljnpalajaa

namespace Go.Proofs.Ytkdhkljnpalajaa
open Go.RowKit
set_option linter.unusedSimpArgs false
set_option linter.unusedVariables false

end Go.Proofs.Ytkdhkljnpalajaa

namespace Go.Proofs.Ytkdhkljnpalajaa
open Go.RowKit
set_option linter.unusedSimpArgs false
set_option linter.unusedVariables false

/-- a row of steps: each a file's and a rank's -/
def Reads2 (B : Nat) (w : World) (p : Option Addr) (n : Nat) (f g : Nat → Int) : Prop :=
  n = 0 ∨ ∃ b off, p = some ⟨b, off, none⟩ ∧ b < B ∧ ∀ i, i < n → w.cell? ⟨b, off + i * 2, none⟩ = some (.int .i64 (f i)) ∧ w.cell? ⟨b, off + i * 2 + 1, none⟩ = some (.int .i64 (g i))
theorem Reads2.below {B : Nat} {w w' : World} {p : Option Addr} {n : Nat} {f g : Nat → Int} (h : Reads2 B w p n f g) (hb : Below B w w') : Reads2 B w' p n f g := by
  rcases h with h | ⟨b, off, h1, h2, h3⟩
  · exact .inl h
  · exact .inr ⟨b, off, h1, h2, fun i hi => ⟨(hb.cell (p := ⟨b, off + i * 2, none⟩) h2).trans (h3 i hi).1, (hb.cell (p := ⟨b, off + i * 2 + 1, none⟩) h2).trans (h3 i hi).2⟩⟩
theorem Reads2.mono {B B' : Nat} {w : World} {p : Option Addr} {n : Nat} {f g : Nat → Int} (h : Reads2 B w p n f g) (hB : B ≤ B') : Reads2 B' w p n f g := by
  rcases h with h | ⟨b, off, h1, h2, h3⟩
  · exact .inl h
  · exact .inr ⟨b, off, h1, Nat.lt_of_lt_of_le h2 hB, h3⟩
end Go.Proofs.Ytkdhkljnpalajaa

namespace Go.Proofs.Ytkdhkljnpalajaa
open Go.RowKit
set_option linter.unusedSimpArgs false
set_option linter.unusedVariables false

theorem forget_B {P : Program} {c : Code} {Q : Exit → Act → World → Prop} {a : Act} {W : World} (S : World → Prop) (hS : S W) (h : ∀ W, S W → c.wp P Q a W) : c.wp P Q a W := h W hS
theorem forgetL_B {P : Program} {ops : Array Oper} {Q : Exit → Act → World → Prop} {rest : List Oper} {a : Act} {w : World} (S : World → Prop) (h : S w) (H : ∀ W, S W → wpList P ops Q rest a W) : wpList P ops Q rest a w := H w h
theorem PB.gr {w w' : World} {b : Nat} {P : Nat → Int} {row : Option Nat} (h : PB w b P) (g : w.grownBy w' row) (hne : some b ≠ row) : PB w' b P :=
  ⟨Nat.lt_of_lt_of_le h.lt g.size, fun i hi => by rw [World.cell?_of_block (a := ⟨b, i, none⟩) (g.block b h.lt hne)]; exact h.cell i hi, fun i => by rw [World.frozen?_of_block (a := ⟨b, i, none⟩) (g.block b h.lt hne)]; exact h.fr i⟩
end Go.Proofs.Ytkdhkljnpalajaa

namespace Go.Proofs.Ytkdhkljnpalajaa
open Go.RowKit
set_option linter.unusedSimpArgs false
set_option linter.unusedVariables false

def sideB (d : Int) : Bool := d == 0 || d == 1
def mayB (k d : Int) : Bool := decide (1 ≤ k) && decide (k ≤ 6) && sideB d
def oth (d : Int) : Int := if d = 0 then 1 else 0
def casB (c : Int) : Bool := decide (0 ≤ c) && decide (c ≤ 15)
def tCas (c : Int) : Int := if casB c then c % 4 * 4 + c / 4 else c
def tSq (s : Int) : Int := if sq s then 8 * (7 - s / 8) + s % 8 else s
/-- a piece, turned: its side -/
def tSide (k d : Int) : Int := if mayB k d then oth d else d
theorem side_cases (d : Int) : (d = 0 ∧ sideB d = true) ∨ (d = 1 ∧ sideB d = true) ∨ ((d == 0) = false ∧ (d == 1) = false ∧ sideB d = false) := by
  by_cases h : d = 0
  · subst h; exact .inl ⟨rfl, rfl⟩
  · by_cases h1 : d = 1
    · subst h1; exact .inr (.inl ⟨rfl, rfl⟩)
    · exact .inr (.inr ⟨by simp [h], by simp [h1], by simp [sideB, h, h1]⟩)
theorem may_cases (k d : Int) : (k < 1 ∧ mayB k d = false) ∨ (6 < k ∧ mayB k d = false) ∨ (1 ≤ k ∧ k ≤ 6 ∧ mayB k d = sideB d) := by
  unfold mayB
  by_cases h1 : 1 ≤ k <;> by_cases h2 : k ≤ 6 <;> simp [h1, h2] <;> omega
theorem cas_cases (c : Int) : (c < 0 ∧ casB c = false) ∨ (15 < c ∧ casB c = false) ∨ (0 ≤ c ∧ c ≤ 15 ∧ casB c = true) := by
  unfold casB
  by_cases h1 : 0 ≤ c <;> by_cases h2 : c ≤ 15 <;> simp [h1, h2] <;> omega
theorem isSide_any (d : Int) (w : World) :
    Calls Try.prog 39 #[.int .i64 d] w fun e w' => e = .returned (.bool (sideB d)) ∧ w = w' := by
  rcases side_cases d with ⟨rfl, hb⟩ | ⟨rfl, hb⟩ | ⟨h0, h1, hb⟩
  all_goals rw [hb]
  all_goals clear hb
  all_goals
    go_enter Try.func39, Try.ntmps39
    go_wp2
    go_ret
    exact ⟨rfl, rfl⟩
set_option maxHeartbeats 1000000 in
theorem mayBe_any (k d : Int) (w : World) :
    Calls Try.prog 29 #[.agg #[.int .i64 k, .int .i64 d]] w fun e w' => e = .returned (.bool (mayB k d)) ∧ Below w.heap.size w w' := by
  rcases may_cases k d with ⟨h1, hb⟩ | ⟨h1, hb⟩ | ⟨h1, h2, hb⟩
  · rw [hb]
    clear hb
    go_enter Try.func29, Try.ntmps29
    go_wp2
    go_ret
    exact ⟨q_b (by first | rfl | (simp; omega)), below_new _⟩
  · rw [hb]
    clear hb
    go_enter Try.func29, Try.ntmps29
    go_wp2
    go_ret
    exact ⟨q_b (by first | rfl | (simp; omega)), below_new _⟩
  · rw [hb]
    clear hb
    obtain ⟨b, hbb⟩ : ∃ b, sideB d = b := ⟨_, rfl⟩
    rw [hbb]
    have HBB := Lib.hid hbb
    clear hbb
    go_enter Try.func29, Try.ntmps29
    go_wp2_with fail
    refine (isSide_any d _).mono ?_
    rw [HBB.out]
    rintro e w1 ⟨rfl, rfl⟩
    go_wp2
    go_ret
    exact ⟨rfl, below_new _⟩
theorem other_any (d : Int) (w : World) :
    Calls Try.prog 25 #[.int .i64 d] w fun e w' => e = .returned (.int .i64 (oth d)) ∧ w = w' := by
  unfold oth
  by_cases h : d = 0
  · subst h
    rw [if_pos rfl]
    go_enter Try.func25, Try.ntmps25
    go_wp2
    go_ret
    exact ⟨rfl, rfl⟩
  · rw [if_neg h]
    have h0 : (d == 0) = false := by simp [h]
    clear h
    go_enter Try.func25, Try.ntmps25
    go_wp2
    go_ret
    exact ⟨rfl, rfl⟩
theorem isCastle_any (c : Int) (w : World) :
    Calls Try.prog 34 #[.int .i64 c] w fun e w' => e = .returned (.bool (casB c)) ∧ w = w' := by
  rcases cas_cases c with ⟨h1, hb⟩ | ⟨h1, hb⟩ | ⟨h1, h2, hb⟩
  all_goals rw [hb]
  all_goals clear hb
  all_goals
    go_enter Try.func34, Try.ntmps34
    go_wp2
    go_ret
    exact ⟨q_b (by first | rfl | (simp; omega)), rfl⟩
theorem tm4 {s : Int} (h : 0 ≤ s) : s.tmod 4 = s % 4 := Int.tmod_eq_emod_of_nonneg h
theorem td4 {s : Int} (h : 0 ≤ s) : s.tdiv 4 = s / 4 := Int.tdiv_eq_ediv_of_nonneg h
theorem turnCastle_any (c : Int) (w : World) :
    Calls Try.prog 26 #[.int .i64 c] w fun e w' => e = .returned (.int .i64 (tCas c)) ∧ w = w' := by
  unfold tCas
  cases hc : casB c
  · simp only [Bool.false_eq_true, if_false]
    have HC := Lib.hid hc
    clear hc
    go_enter Try.func26, Try.ntmps26
    go_wp2_with fail
    refine (isCastle_any c _).mono ?_
    rw [HC.out]
    rintro e w1 ⟨rfl, rfl⟩
    go_wp2
    go_ret
    exact ⟨rfl, rfl⟩
  · simp only [if_true]
    have HC := Lib.hid hc
    have h0 : 0 ≤ c ∧ c ≤ 15 := by unfold casB at hc; simpa using hc
    obtain ⟨h0, h1⟩ := h0
    have h2 := tm4 h0
    have h3 := td4 h0
    clear hc
    go_enter Try.func26, Try.ntmps26
    go_wp2_with fail
    refine (isCastle_any c _).mono ?_
    rw [HC.out]
    rintro e w1 ⟨rfl, rfl⟩
    go_wp2
    go_ret
    exact ⟨rfl, rfl⟩
theorem turnSquare_any (s : Int) (w : World) :
    Calls Try.prog 24 #[.int .i64 s] w fun e w' => e = .returned (.int .i64 (tSq s)) ∧ Below w.heap.size w w' := by
  unfold tSq
  cases hs : sq s
  · simp only [Bool.false_eq_true, if_false]
    have HS := Lib.hid hs
    clear hs
    go_enter Try.func24, Try.ntmps24
    go_wp2_with fail
    refine (is_any s _).mono ?_
    rw [HS.out]
    rintro e w1 ⟨rfl, hb1⟩
    go_wp2
    go_ret
    exact ⟨rfl, hb1⟩
  · obtain ⟨h0, h1⟩ := (sq_iff s).1 hs
    simp only [if_true]
    have hF : sF s = s % 8 := by unfold sF; rw [if_pos hs]
    have hR : sR s = s / 8 := by unfold sR; rw [if_pos hs]
    have hA : sAt (s % 8) (7 - s / 8) = 8 * (7 - s / 8) + s % 8 := by
      unfold sAt
      rw [if_pos ((onB_iff _ _).2 (by omega))]
    have h2 : 0 ≤ s / 8 ∧ s / 8 ≤ 7 := by omega
    obtain ⟨r, hr⟩ : ∃ r, s / 8 = r := ⟨_, rfl⟩
    obtain ⟨f, hf⟩ : ∃ f, s % 8 = f := ⟨_, rfl⟩
    rw [hr] at hR hA h2 ⊢
    rw [hf] at hF hA ⊢
    obtain ⟨h3, h4⟩ := h2
    have HS := Lib.hid hs
    have HF := Lib.hid hF
    have HR := Lib.hid hR
    have HA := Lib.hid hA
    clear hs hF hR hA hr hf
    go_enter Try.func24, Try.ntmps24
    go_wp2_with fail
    refine (is_any s _).mono ?_
    rw [HS.out]
    rintro e w1 ⟨rfl, hb1⟩
    go_wp2_with fail
    refine (file_any s _).mono ?_
    rw [HF.out]
    rintro e w2 ⟨rfl, hb2⟩
    go_wp2_with fail
    refine (rank_any s _).mono ?_
    rw [HR.out]
    rintro e w3 ⟨rfl, hb3⟩
    go_wp2_with fail
    refine (at_any f (7 - r) _).mono ?_
    rw [HA.out]
    rintro e w4 ⟨rfl, hb4⟩
    go_wp2
    go_ret
    exact ⟨rfl, ((hb1.trans (hb2.mono hb1.size)).trans (hb3.mono (Nat.le_trans hb1.size hb2.size))).trans (hb4.mono (Nat.le_trans hb1.size (Nat.le_trans hb2.size hb3.size)))⟩
end Go.Proofs.Ytkdhkljnpalajaa

namespace Go.Proofs.Ytkdhkljnpalajaa
open Go.RowKit
set_option linter.unusedSimpArgs false
set_option linter.unusedVariables false

end Go.Proofs.Ytkdhkljnpalajaa
