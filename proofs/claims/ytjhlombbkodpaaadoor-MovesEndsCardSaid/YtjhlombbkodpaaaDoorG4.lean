/-
  Merged: SqE, SqG, SqH, Bf, Bg, Bh.
-/
import Derived.Test.YtjhlombbkodpaaaDoorSqD
import Derived.WideShapes
import Derived.Test.YtjhlombbkodpaaaDoorG3

namespace Go.Proofs.YtjhlombbkodpaaaDoor
open Go.RowKit
set_option linter.unusedSimpArgs false
set_option linter.unusedVariables false

theorem i64_of {n : Int} (h0 : -1000000 ≤ n) (h1 : n ≤ 1000000) : I64 n := ⟨by omega, by omega⟩
theorem ex_row (i : Nat) (hi : i < 5) : (#[Value.int .i64 11, Value.int .i64 20, Value.int .i64 29, Value.int .i64 38, Value.int .i64 47] : Array Value)[i]? = some (.int .i64 (rq 2 1 1 i)) := by
  match i, hi with
  | 0, _ => rfl
  | 1, _ => rfl
  | 2, _ => rfl
  | 3, _ => rfl
  | 4, _ => rfl
theorem ex_ray : RayN 2 1 1 5 := ⟨by decide, by decide⟩
theorem name_back {x : Int} (h : sq x = true) : isN (nmV x) = true ∧ nN (nmV x) = x := by
  obtain ⟨h0, h1⟩ := (sq_iff x).1 h
  have e : nmV x = nm x := by unfold nmV; rw [if_pos h]
  have e0 : nb (nm x) 0 = 97 + x % 8 := ch_nat (n := 97 + x % 8) (by omega) (by omega)
  have e1 : nb (nm x) 1 = 49 + x / 8 := ch_nat (n := 49 + x / 8) (by omega) (by omega)
  have hi : isN (nmV x) = true := by
    rw [e]; unfold isN; rw [e0, e1]
    rw [show decide ((nm x).size = 2) = true from rfl, Bool.true_and]
    exact (onB_iff _ _).2 (by omega)
  refine ⟨hi, ?_⟩
  unfold nN
  rw [if_pos hi, e, e0, e1]
  omega
theorem at_back {x : Int} (h : sq x = true) : sAt (sF x) (sR x) = x := by
  obtain ⟨h0, h1⟩ := (sq_iff x).1 h
  unfold sF sR sAt
  rw [if_pos h, if_pos h, if_pos ((onB_iff _ _).2 (by omega))]
  omega
theorem stp_or (x f r : Int) : stp x f r = -1 ∨ sq (stp x f r) = true := by
  cases h : sq (stp x f r)
  · left
    unfold stp at h ⊢
    split
    · rename_i hc
      rw [if_pos hc] at h
      rw [Bool.and_eq_true] at hc
      obtain ⟨s0, s1⟩ := (sq_iff _).1 hc.1
      obtain ⟨u0, u1, u2, u3⟩ := (onB_iff _ _).1 hc.2
      rw [(sq_iff _).2 (by omega)] at h; cases h
    · rfl
  · exact .inr rfl
theorem step_back {x f r : Int} (h : sq (stp x f r) = true) : stp (stp x f r) (-f) (-r) = x := by
  obtain ⟨h1, h2, h3⟩ := stp_sq h
  obtain ⟨s0, s1⟩ := (sq_iff x).1 h1
  exact stp_hit h s0 s1 (by omega) (by omega)
theorem step_dark {x f r : Int} (h : sq (stp x f r) = true) : dark (stp x f r) = (dark x == decide ((f + r + 14) % 2 = 0)) := by
  obtain ⟨h1, h2, h3⟩ := stp_sq h
  unfold dark
  rw [h, h1, h2, h3]
  by_cases p : (x % 8 + x / 8) % 2 = 0 <;> by_cases q : (f + r + 14) % 2 = 0
  all_goals simp only [p, q, decide_true, decide_false, Bool.true_and, Bool.false_and, decide_eq_true_eq]
  all_goals simp
  all_goals omega
theorem step_two {x f r k : Int} (h : sq (stp x f r) = true) (h2 : sq (stp (stp x f r) k 0) = true) : stp x (f + k) r = stp (stp x f r) k 0 := by
  obtain ⟨a1, a2, a3⟩ := stp_sq h
  obtain ⟨b1, b2, b3⟩ := stp_sq h2
  obtain ⟨t0, t1⟩ := (sq_iff _).1 h2
  exact stp_hit a1 t0 t1 (by omega) (by omega)
end Go.Proofs.YtjhlombbkodpaaaDoor

namespace Go.Proofs.YtjhlombbkodpaaaDoor
open Go.RowKit
set_option linter.unusedSimpArgs false
set_option linter.unusedVariables false

/-- a string is a square's name just if it is some square's name -/
theorem isN_some {S : ByteArray} (h : isN S = true) : sq (nN S) = true ∧ nmV (nN S) = S := by
  unfold isN at h
  rw [Bool.and_eq_true, decide_eq_true_eq] at h
  obtain ⟨hz, hb⟩ := h
  obtain ⟨u0, u1, u2, u3⟩ := (onB_iff _ _).1 hb
  have hn : nN S = 8 * (nb S 1 - 49) + (nb S 0 - 97) := by
    unfold nN isN; rw [if_pos (by rw [Bool.and_eq_true, decide_eq_true_eq]; exact ⟨hz, hb⟩)]
  have hsq : sq (nN S) = true := (sq_iff _).2 (by omega)
  refine ⟨hsq, ?_⟩
  unfold nmV
  rw [if_pos hsq]
  unfold nm
  rw [show 97 + nN S % 8 = nb S 0 by omega, show 49 + nN S / 8 = nb S 1 by omega]
  clear hn hsq u0 u1 u2 u3 hb
  obtain ⟨⟨l⟩⟩ := S
  match l, hz with
  | [x, y], _ =>
    have e0 : ch (nb ⟨⟨[x, y]⟩⟩ 0) = x := by unfold ch nb; simp
    have e1 : ch (nb ⟨⟨[x, y]⟩⟩ 1) = y := by unfold ch nb; simp
    rw [e0, e1]
theorem isN_hit {S : ByteArray} {t : Int} (ht : sq t = true) (h : nmV t = S) : isN S = true ∧ nN S = t := by
  subst h; exact name_back ht
theorem isN_miss {S : ByteArray} (h : ∀ t : Nat, t < 64 → ¬ nmV (t : Int) = S) : isN S = false ∧ nN S = 0 := by
  have hf : isN S = false := by
    cases hi : isN S
    · rfl
    · obtain ⟨h1, h2⟩ := isN_some hi
      obtain ⟨t0, t1⟩ := (sq_iff _).1 h1
      exact absurd (by rw [show (((nN S).toNat : Nat) : Int) = nN S by omega]; exact h2) (h (nN S).toNat (by omega))
  exact ⟨hf, by unfold nN; rw [hf]; rfl⟩
theorem rq_neg {s a b : Int} {n : Nat} (h : sq (rq s a b n) = false) : rq s a b n = -1 := by
  cases n with
  | zero => rcases stp_or s a b with h3 | h3
            · exact h3
            · rw [show rq s a b 0 = stp s a b from rfl, h3] at h; cases h
  | succ n => rcases stp_or (rq s a b n) a b with h3 | h3
              · exact h3
              · rw [show rq s a b (n + 1) = stp (rq s a b n) a b from rfl, h3] at h; cases h
end Go.Proofs.YtjhlombbkodpaaaDoor

namespace Go.Proofs.YtjhlombbkodpaaaDoor
open Go.RowKit
set_option linter.unusedSimpArgs false
set_option linter.unusedVariables false

/-- a row of steps: each a file's and a rank's -/
def Reads2 (B : Nat) (w : World) (p : Option Addr) (n : Nat) (f g : Nat → Int) : Prop :=
  n = 0 ∨ ∃ b off, p = some ⟨b, off, none⟩ ∧ b < B ∧ ∀ i, i < n → w.cell? ⟨b, off + i * 2, none⟩ = some (.int .i64 (f i)) ∧ w.cell? ⟨b, off + i * 2 + 1, none⟩ = some (.int .i64 (g i))
theorem Reads2.below {B : Nat} {w w' : World} {p : Option Addr} {n : Nat} {f g : Nat → Int} (h : Reads2 B w p n f g) (hb : Below B w w') : Reads2 B w' p n f g := by
  rcases h with h | ⟨b, off, h1, h2, h3⟩
  · exact .inl h
  · exact .inr ⟨b, off, h1, h2, fun i hi => ⟨(hb.cell (p := ⟨b, off + i * 2, none⟩) h2).trans (h3 i hi).1, (hb.cell (p := ⟨b, off + i * 2 + 1, none⟩) h2).trans (h3 i hi).2⟩⟩
theorem Reads2.mono {B B' : Nat} {w : World} {p : Option Addr} {n : Nat} {f g : Nat → Int} (h : Reads2 B w p n f g) (hB : B ≤ B') : Reads2 B' w p n f g := by
  rcases h with h | ⟨b, off, h1, h2, h3⟩
  · exact .inl h
  · exact .inr ⟨b, off, h1, Nat.lt_of_lt_of_le h2 hB, h3⟩
/-- the squares at the first steps -/
def rg (s : Int) (f g : Nat → Int) : Nat → List Int
  | 0 => []
  | k + 1 => rg s f g k ++ if sq (stp s (f k) (g k)) then [stp s (f k) (g k)] else []
theorem rg_len (s : Int) (f g : Nat → Int) (k : Nat) : (rg s f g k).length ≤ k := by
  induction k with
  | zero => exact Nat.le_refl _
  | succ k ih =>
    simp only [rg, List.length_append]
    split <;> simp <;> omega
def ivals (l : List Int) : List Value := l.map fun x => .int .i64 x
theorem ivals_range (l : List Int) : ivals l = (List.range l.length).map fun i => .int .i64 (l.getD i 0) := by
  apply List.ext_getElem?
  intro i
  unfold ivals
  by_cases h : i < l.length
  · simp [h, List.getElem?_eq_getElem h]
  · rw [List.getElem?_eq_none (by simp; omega), List.getElem?_eq_none (by simp; omega)]
theorem ivals_snoc (l : List Int) (x : Int) : ivals l ++ [.int .i64 x] = ivals (l ++ [x]) := by unfold ivals; rw [List.map_append]; rfl

end Go.Proofs.YtjhlombbkodpaaaDoor

namespace Go.Proofs.YtjhlombbkodpaaaDoor
open Go.RowKit
set_option linter.unusedSimpArgs false
set_option linter.unusedVariables false

theorem forget_B {P : Program} {c : Code} {Q : Exit → Act → World → Prop} {a : Act} {W : World} (S : World → Prop) (hS : S W) (h : ∀ W, S W → c.wp P Q a W) : c.wp P Q a W := h W hS
theorem forgetL_B {P : Program} {ops : Array Oper} {Q : Exit → Act → World → Prop} {rest : List Oper} {a : Act} {w : World} (S : World → Prop) (h : S w) (H : ∀ W, S W → wpList P ops Q rest a W) : wpList P ops Q rest a w := H w h
/-- the squares below n on which a piece stands -/
def fnd (P : Nat → Int) (k d : Int) : Nat → List Int
  | 0 => []
  | n + 1 => fnd P k d n ++ if pe (P (2 * n)) (P (2 * n + 1)) k d then [(n : Int)] else []
theorem fnd_len (P : Nat → Int) (k d : Int) (n : Nat) : (fnd P k d n).length ≤ n := by
  induction n with
  | zero => exact Nat.le_refl _
  | succ n ih => simp only [fnd, List.length_append]; split <;> simp <;> omega
theorem fnd_mem (P : Nat → Int) (k d : Int) (n : Nat) (x : Int) : x ∈ fnd P k d n ↔ ∃ j : Nat, j < n ∧ x = j ∧ P (2 * j) = k ∧ P (2 * j + 1) = d := by
  induction n with
  | zero => simp [fnd]
  | succ n ih =>
    simp only [fnd, List.mem_append, ih]
    constructor
    · rintro (⟨j, h1, h2⟩ | h)
      · exact ⟨j, by omega, h2⟩
      · split at h
        · rename_i hp
          simp at h
          exact ⟨n, by omega, h, (pe_iff _ _ _ _).1 hp⟩
        · cases h
    · rintro ⟨j, h1, h2, h3⟩
      rcases (show j < n ∨ j = n by omega) with h | rfl
      · exact .inl ⟨j, h, h2, h3⟩
      · right; rw [if_pos ((pe_iff _ _ _ _).2 h3)]; simp [h2]
theorem PB.gr {w w' : World} {b : Nat} {P : Nat → Int} {row : Option Nat} (h : PB w b P) (g : w.grownBy w' row) (hne : some b ≠ row) : PB w' b P :=
  ⟨Nat.lt_of_lt_of_le h.lt g.size, fun i hi => by rw [World.cell?_of_block (a := ⟨b, i, none⟩) (g.block b h.lt hne)]; exact h.cell i hi, fun i => by rw [World.frozen?_of_block (a := ⟨b, i, none⟩) (g.block b h.lt hne)]; exact h.fr i⟩
theorem owns_base {w : World} {B B' : Nat} {e : TypeId} {z : Nat} {v : Value} {n : Nat} {xs : List Value} (h : w.ownsRow B e z v n xs) (hB : B' ≤ B) : w.ownsRow B' e z v n xs := by
  refine ⟨h.1, ?_⟩
  rcases h.2 with h2 | ⟨g, cap, cur, h1, h2, h3⟩
  · exact .inl h2
  · exact .inr ⟨g, cap, cur, h1, Nat.le_trans hB h2, h3⟩
/-- what a function that has a position and a piece begins with -/
theorem two_boxes (P : Nat → Int) (k d : Int) (w : World) (X : Array Value) (hX : X = (pc P).toArray) (t u : TypeId) :
    PB ((w.alloc (.cells X t)).alloc (.cells #[.int .i64 k, .int .i64 d] u)) w.heap.size P ∧ ((w.alloc (.cells X t)).alloc (.cells #[.int .i64 k, .int .i64 d] u)).heap[w.heap.size + 1]? = some (.cells #[.int .i64 k, .int .i64 d] u (0, 0)) ∧
    Below w.heap.size w ((w.alloc (.cells X t)).alloc (.cells #[.int .i64 k, .int .i64 d] u)) ∧ ((w.alloc (.cells X t)).alloc (.cells #[.int .i64 k, .int .i64 d] u)).heap.size = w.heap.size + 2 := by
  subst hX
  exact ⟨(PB.new rfl).alloc _, sl_at (by simp), (below_new _).alloc (by simp) _, by simp⟩

end Go.Proofs.YtjhlombbkodpaaaDoor

namespace Go.Proofs.YtjhlombbkodpaaaDoor
open Go.RowKit
set_option linter.unusedSimpArgs false
set_option linter.unusedVariables false

def sideB (d : Int) : Bool := d == 0 || d == 1
def mayB (k d : Int) : Bool := decide (1 ≤ k) && decide (k ≤ 6) && sideB d
def oth (d : Int) : Int := if d = 0 then 1 else 0
def casB (c : Int) : Bool := decide (0 ≤ c) && decide (c ≤ 15)
def tCas (c : Int) : Int := if casB c then c % 4 * 4 + c / 4 else c
def tSq (s : Int) : Int := if sq s then 8 * (7 - s / 8) + s % 8 else s
/-- a piece, turned: its side -/
def tSide (k d : Int) : Int := if mayB k d then oth d else d
theorem side_cases (d : Int) : (d = 0 ∧ sideB d = true) ∨ (d = 1 ∧ sideB d = true) ∨ ((d == 0) = false ∧ (d == 1) = false ∧ sideB d = false) := by
  by_cases h : d = 0
  · subst h; exact .inl ⟨rfl, rfl⟩
  · by_cases h1 : d = 1
    · subst h1; exact .inr (.inl ⟨rfl, rfl⟩)
    · exact .inr (.inr ⟨by simp [h], by simp [h1], by simp [sideB, h, h1]⟩)
theorem may_cases (k d : Int) : (k < 1 ∧ mayB k d = false) ∨ (6 < k ∧ mayB k d = false) ∨ (1 ≤ k ∧ k ≤ 6 ∧ mayB k d = sideB d) := by
  unfold mayB
  by_cases h1 : 1 ≤ k <;> by_cases h2 : k ≤ 6 <;> simp [h1, h2] <;> omega
theorem cas_cases (c : Int) : (c < 0 ∧ casB c = false) ∨ (15 < c ∧ casB c = false) ∨ (0 ≤ c ∧ c ≤ 15 ∧ casB c = true) := by
  unfold casB
  by_cases h1 : 0 ≤ c <;> by_cases h2 : c ≤ 15 <;> simp [h1, h2] <;> omega
theorem none_any (k d : Int) (w : World) :
    Calls Tryd.prog 96 #[.agg #[.int .i64 k, .int .i64 d]] w fun e w' => e = .returned (.bool (pe k d 0 0)) ∧ Below w.heap.size w w' := by
  go_enter Tryd.func96, Tryd.ntmps96
  go_wp2
  go_ret
  exact ⟨rfl, below_new _⟩
theorem isSide_any (d : Int) (w : World) :
    Calls Tryd.prog 98 #[.int .i64 d] w fun e w' => e = .returned (.bool (sideB d)) ∧ w = w' := by
  rcases side_cases d with ⟨rfl, hb⟩ | ⟨rfl, hb⟩ | ⟨h0, h1, hb⟩
  all_goals rw [hb]
  all_goals clear hb
  all_goals
    go_enter Tryd.func98, Tryd.ntmps98
    go_wp2
    go_ret
    exact ⟨rfl, rfl⟩
set_option maxHeartbeats 1000000 in
theorem mayBe_any (k d : Int) (w : World) :
    Calls Tryd.prog 67 #[.agg #[.int .i64 k, .int .i64 d]] w fun e w' => e = .returned (.bool (mayB k d)) ∧ Below w.heap.size w w' := by
  rcases may_cases k d with ⟨h1, hb⟩ | ⟨h1, hb⟩ | ⟨h1, h2, hb⟩
  · rw [hb]
    clear hb
    go_enter Tryd.func67, Tryd.ntmps67
    go_wp2
    go_ret
    exact ⟨q_b (by first | rfl | (simp; omega)), below_new _⟩
  · rw [hb]
    clear hb
    go_enter Tryd.func67, Tryd.ntmps67
    go_wp2
    go_ret
    exact ⟨q_b (by first | rfl | (simp; omega)), below_new _⟩
  · rw [hb]
    clear hb
    obtain ⟨b, hbb⟩ : ∃ b, sideB d = b := ⟨_, rfl⟩
    rw [hbb]
    have HBB := Lib.hid hbb
    clear hbb
    go_enter Tryd.func67, Tryd.ntmps67
    go_wp2_with fail
    refine (isSide_any d _).mono ?_
    rw [HBB.out]
    rintro e w1 ⟨rfl, rfl⟩
    go_wp2
    go_ret
    exact ⟨rfl, below_new _⟩
set_option maxHeartbeats 1000000 in
theorem rMay_any (k d : Int) (w : World) :
    Calls Tryd.prog 42 #[.agg #[.int .i64 k, .int .i64 d]] w fun e w' => e = .returned (.bool (mayB k d)) ∧ Below w.heap.size w w' := by
  rcases may_cases k d with ⟨h1, hb⟩ | ⟨h1, hb⟩ | ⟨h1, h2, hb⟩
  · rw [hb]
    clear hb
    go_enter Tryd.func42, Tryd.ntmps42
    go_wp2
    go_ret
    exact ⟨q_b (by first | rfl | (simp; omega)), below_new _⟩
  · rw [hb]
    clear hb
    go_enter Tryd.func42, Tryd.ntmps42
    go_wp2
    go_ret
    exact ⟨q_b (by first | rfl | (simp; omega)), below_new _⟩
  · rw [hb]
    clear hb
    rcases side_cases d with ⟨rfl, hb⟩ | ⟨rfl, hb⟩ | ⟨h3, h4, hb⟩
    all_goals rw [hb]
    all_goals clear hb
    all_goals
      go_enter Tryd.func42, Tryd.ntmps42
      go_wp2
      go_ret
      exact ⟨q_b (by first | rfl | (simp; done) | (simp; omega)), below_new _⟩
theorem other_any (d : Int) (w : World) :
    Calls Tryd.prog 16 #[.int .i64 d] w fun e w' => e = .returned (.int .i64 (oth d)) ∧ w = w' := by
  unfold oth
  by_cases h : d = 0
  · subst h
    rw [if_pos rfl]
    go_enter Tryd.func16, Tryd.ntmps16
    go_wp2
    go_ret
    exact ⟨rfl, rfl⟩
  · rw [if_neg h]
    have h0 : (d == 0) = false := by simp [h]
    clear h
    go_enter Tryd.func16, Tryd.ntmps16
    go_wp2
    go_ret
    exact ⟨rfl, rfl⟩
theorem rOther_any (d : Int) (w : World) :
    Calls Tryd.prog 81 #[.int .i64 d] w fun e w' => e = .returned (.int .i64 (oth d)) ∧ w = w' := by
  unfold oth
  by_cases h : d = 0
  · subst h
    rw [if_pos rfl]
    go_enter Tryd.func81, Tryd.ntmps81
    go_wp2
    go_ret
    exact ⟨rfl, rfl⟩
  · rw [if_neg h]
    have h0 : (d == 0) = false := by simp [h]
    clear h
    go_enter Tryd.func81, Tryd.ntmps81
    go_wp2
    go_ret
    exact ⟨rfl, rfl⟩
theorem isCastle_any (c : Int) (w : World) :
    Calls Tryd.prog 71 #[.int .i64 c] w fun e w' => e = .returned (.bool (casB c)) ∧ w = w' := by
  rcases cas_cases c with ⟨h1, hb⟩ | ⟨h1, hb⟩ | ⟨h1, h2, hb⟩
  all_goals rw [hb]
  all_goals clear hb
  all_goals
    go_enter Tryd.func71, Tryd.ntmps71
    go_wp2
    go_ret
    exact ⟨q_b (by first | rfl | (simp; omega)), rfl⟩
theorem tm4 {s : Int} (h : 0 ≤ s) : s.tmod 4 = s % 4 := Int.tmod_eq_emod_of_nonneg h
theorem td4 {s : Int} (h : 0 ≤ s) : s.tdiv 4 = s / 4 := Int.tdiv_eq_ediv_of_nonneg h
theorem turnCastle_any (c : Int) (w : World) :
    Calls Tryd.prog 34 #[.int .i64 c] w fun e w' => e = .returned (.int .i64 (tCas c)) ∧ w = w' := by
  unfold tCas
  cases hc : casB c
  · simp only [Bool.false_eq_true, if_false]
    have HC := Lib.hid hc
    clear hc
    go_enter Tryd.func34, Tryd.ntmps34
    go_wp2_with fail
    refine (isCastle_any c _).mono ?_
    rw [HC.out]
    rintro e w1 ⟨rfl, rfl⟩
    go_wp2
    go_ret
    exact ⟨rfl, rfl⟩
  · simp only [if_true]
    have HC := Lib.hid hc
    have h0 : 0 ≤ c ∧ c ≤ 15 := by unfold casB at hc; simpa using hc
    obtain ⟨h0, h1⟩ := h0
    have h2 := tm4 h0
    have h3 := td4 h0
    clear hc
    go_enter Tryd.func34, Tryd.ntmps34
    go_wp2_with fail
    refine (isCastle_any c _).mono ?_
    rw [HC.out]
    rintro e w1 ⟨rfl, rfl⟩
    go_wp2
    go_ret
    exact ⟨rfl, rfl⟩
theorem onEnd_any (s : Int) (w : World) :
    Calls Tryd.prog 97 #[.int .i64 s] w fun e w' => e = .returned (.bool (sR s == 0 || sR s == 7)) ∧ Below w.heap.size w w' := by
  obtain ⟨r, hr⟩ : ∃ r, sR s = r := ⟨_, rfl⟩
  have HR := Lib.hid hr
  rw [hr]
  clear hr
  by_cases h0 : r = 0
  · subst h0
    go_enter Tryd.func97, Tryd.ntmps97
    go_wp2_with fail
    refine (rank_any s _).mono ?_
    rw [HR.out]
    rintro e w1 ⟨rfl, hb1⟩
    have HB := Lib.hid hb1
    clear hb1
    go_wp2
    go_ret
    exact ⟨rfl, HB.out⟩
  · have h1 : (r == 0) = false := by simp [h0]
    have h2 : (r == 0 || r == 7) = (r == 7) := by rw [h1]; rfl
    rw [h2]
    clear h0 h2
    go_enter Tryd.func97, Tryd.ntmps97
    go_wp2_with fail
    refine (rank_any s _).mono ?_
    rw [HR.out]
    rintro e w1 ⟨rfl, hb1⟩
    have HB := Lib.hid hb1
    clear hb1
    go_wp2
    go_ret
    exact ⟨rfl, HB.out⟩
theorem turnSquare_any (s : Int) (w : World) :
    Calls Tryd.prog 33 #[.int .i64 s] w fun e w' => e = .returned (.int .i64 (tSq s)) ∧ Below w.heap.size w w' := by
  unfold tSq
  cases hs : sq s
  · simp only [Bool.false_eq_true, if_false]
    have HS := Lib.hid hs
    clear hs
    go_enter Tryd.func33, Tryd.ntmps33
    go_wp2_with fail
    refine (is_any s _).mono ?_
    rw [HS.out]
    rintro e w1 ⟨rfl, hb1⟩
    go_wp2
    go_ret
    exact ⟨rfl, hb1⟩
  · obtain ⟨h0, h1⟩ := (sq_iff s).1 hs
    simp only [if_true]
    have hF : sF s = s % 8 := by unfold sF; rw [if_pos hs]
    have hR : sR s = s / 8 := by unfold sR; rw [if_pos hs]
    have hA : sAt (s % 8) (7 - s / 8) = 8 * (7 - s / 8) + s % 8 := by
      unfold sAt
      rw [if_pos ((onB_iff _ _).2 (by omega))]
    have h2 : 0 ≤ s / 8 ∧ s / 8 ≤ 7 := by omega
    obtain ⟨r, hr⟩ : ∃ r, s / 8 = r := ⟨_, rfl⟩
    obtain ⟨f, hf⟩ : ∃ f, s % 8 = f := ⟨_, rfl⟩
    rw [hr] at hR hA h2 ⊢
    rw [hf] at hF hA ⊢
    obtain ⟨h3, h4⟩ := h2
    have HS := Lib.hid hs
    have HF := Lib.hid hF
    have HR := Lib.hid hR
    have HA := Lib.hid hA
    clear hs hF hR hA hr hf
    go_enter Tryd.func33, Tryd.ntmps33
    go_wp2_with fail
    refine (is_any s _).mono ?_
    rw [HS.out]
    rintro e w1 ⟨rfl, hb1⟩
    go_wp2_with fail
    refine (file_any s _).mono ?_
    rw [HF.out]
    rintro e w2 ⟨rfl, hb2⟩
    go_wp2_with fail
    refine (rank_any s _).mono ?_
    rw [HR.out]
    rintro e w3 ⟨rfl, hb3⟩
    go_wp2_with fail
    refine (at_any f (7 - r) _).mono ?_
    rw [HA.out]
    rintro e w4 ⟨rfl, hb4⟩
    go_wp2
    go_ret
    exact ⟨rfl, ((hb1.trans (hb2.mono hb1.size)).trans (hb3.mono (Nat.le_trans hb1.size hb2.size))).trans (hb4.mono (Nat.le_trans hb1.size (Nat.le_trans hb2.size hb3.size)))⟩
end Go.Proofs.YtjhlombbkodpaaaDoor

namespace Go.Proofs.YtjhlombbkodpaaaDoor
open Go.RowKit
set_option linter.unusedSimpArgs false
set_option linter.unusedVariables false

/-- the square of a side's king -/
def kingN (P : Nat → Int) (d : Int) : Int := (fnd P 6 d 64).headD (-1)
theorem kingN_eq (P : Nat → Int) (d : Int) : kingN P d = (fnd P 6 d 64).headD (-1) := by unfold kingN; rfl
theorem fnd_headD (P : Nat → Int) (k d : Int) (j : Nat) (h : fnd P k d j = []) (hp : pe (P (2 * j)) (P (2 * j + 1)) k d = true) (n : Nat) (hn : j < n) : (fnd P k d n).headD (-1) = j := by
  obtain ⟨m, rfl⟩ : ∃ m, n = j + 1 + m := ⟨n - (j + 1), by omega⟩
  clear hn
  have : ∃ r, fnd P k d (j + 1 + m) = (j : Int) :: r := by
    induction m with
    | zero => exact ⟨[], by show fnd P k d j ++ _ = _; rw [h, if_pos hp]; rfl⟩
    | succ m ih =>
      obtain ⟨r, hr⟩ := ih
      exact ⟨_, by show fnd P k d (j + 1 + m) ++ _ = _; rw [hr, List.cons_append]⟩
  obtain ⟨r, hr⟩ := this
  rw [hr]; rfl
end Go.Proofs.YtjhlombbkodpaaaDoor
