/-
  Merged: Dn, Dp, Ro, Rh, Wa, Rq, Wb, Wd.
-/
import Derived.Test.YtkncfeijlmomaaaGreatDoorG18
import Derived.Test.YtkncfeijlmomaaaGreatDoorG9
import Derived.Test.YtkncfeijlmomaaaGreatDoorG19
import Derived.Test.YtkncfeijlmomaaaGreatDoorG1
import Derived.Test.YtkncfeijlmomaaaGreatDoorG17
import Derived.Test.YtkncfeijlmomaaaGreatDoorG20
import Derived.Test.YtkncfeijlmomaaaGreatDoorG16
import Derived.Lib.ItoaLen

namespace Go.Proofs.YtkncfeijlmomaaaGreatDoor
open Go.RowKit Go.Sort
set_option linter.unusedSimpArgs false
set_option linter.unusedVariables false
set_option maxRecDepth 20000

end Go.Proofs.YtkncfeijlmomaaaGreatDoor

namespace Go.Proofs.YtkncfeijlmomaaaGreatDoor
open Go.RowKit Go.Sort
set_option linter.unusedSimpArgs false
set_option linter.unusedVariables false
set_option maxRecDepth 20000

theorem rTo_nil (P : Nat → Int) (s d : Int) : rToL P s d = [] ↔ atkL P s d = [] := by
  rw [← to_eq]
  unfold toL
  rw [← List.length_eq_zero_iff, ← List.length_eq_zero_iff, risen_len]
/-- what stands in the loop of the document's Is -/
structure RI (w W : World) (P : Nat → Int) (b o : Nat) (s : Int) : Prop where
  p : PB W w.heap.size P
  c : W.cell? ⟨b, o, none⟩ = some (.int .i64 s)
  l : b < W.heap.size
  b : Below w.heap.size w W
theorem RI.go {w W W' : World} {P : Nat → Int} {b o : Nat} {s : Int} (h : RI w W P b o s) (g : Below W.heap.size W W') : RI w W' P b o s :=
  ⟨h.p.go g, (g.cell (p := ⟨b, o, none⟩) h.l).trans h.c, Nat.lt_of_lt_of_le h.l g.size, h.b.trans (g.mono h.b.size)⟩
structure RI2 (w W : World) (P : Nat → Int) : Prop where
  p : PB W w.heap.size P
  b : Below w.heap.size w W
theorem RI2.go {w W W' : World} {P : Nat → Int} (h : RI2 w W P) (g : Below W.heap.size W W') : RI2 w W' P := ⟨h.p.go g, h.b.trans (g.mono h.b.size)⟩
end Go.Proofs.YtkncfeijlmomaaaGreatDoor

namespace Go.Proofs.YtkncfeijlmomaaaGreatDoor
open Go.RowKit Go.Sort
set_option linter.unusedSimpArgs false
set_option linter.unusedVariables false
set_option maxRecDepth 20000

abbrev ff := false
theorem one_reads (V : World) (x : Int) : Reads (V.alloc (.cells #[.int .i64 x] 3)).heap.size (V.alloc (.cells #[.int .i64 x] 3)) (some ⟨V.heap.size, 0, none⟩) 1 (fun _ => .int .i64 x) := by
  refine .inr ⟨V.heap.size, 0, rfl, by simp, fun i hi => ?_⟩
  have h : (V.alloc (.cells #[.int .i64 x] 3)).heap[V.heap.size]? = some (.cells #[.int .i64 x] 3 (0, 0)) := sl_at rfl
  obtain ⟨q1, _, _⟩ := row1 h
  obtain rfl : i = 0 := by omega
  exact q1
/-- a square is attacked by a side -/
theorem atk_iff (P : Nat → Int) (s : Nat) (hs : s < 64) (d : Int) : atkL P (s : Int) d ≠ [] ↔ ∃ a, a < 64 ∧ P (2 * a + 1) = d ∧ attR P a s = true := by
  have hsq : sq (s : Int) = true := (sq_iff _).2 ⟨by omega, by omega⟩
  rw [Ne, ← rTo_nil]
  unfold rToL
  rw [hsq, if_pos rfl, Int.toNat_natCast]
  constructor
  · intro h
    obtain ⟨x, hx⟩ := List.exists_mem_of_ne_nil _ h
    obtain ⟨a, ha, hq, _⟩ := (upList_mem _ _ _).1 hx
    simp only [Bool.and_eq_true, beq_iff_eq] at hq
    exact ⟨a, ha, hq.1, hq.2⟩
  · rintro ⟨a, ha, h1, h2⟩ h
    have := (upList_mem (fun a => P (2 * a + 1) == d && attR P a s) 64 (a : Int)).2 ⟨a, ha, by simp [h1, h2], rfl⟩
    rw [h] at this
    cases this
theorem isAt_iff (P : Nat → Int) (d : Int) (f : Nat → Int) (n : Nat) : isAt P d f n = true ↔ ∃ i, i < n ∧ atkL P (f i) d ≠ [] := by
  constructor
  · intro h
    unfold isAt at h
    obtain ⟨i, hi, h2⟩ := List.any_eq_true.1 h
    refine ⟨i, List.mem_range.1 hi, fun e => ?_⟩
    rw [e] at h2; cases h2
  · rintro ⟨i, hi, h⟩
    exact isAt_hit hi h
theorem chk_iff (P : Nat → Int) (d : Int) (hd : d = 0 ∨ d = 1) : chkB P d = true ↔ ∃ s a : Nat, s < 64 ∧ a < 64 ∧ P (2 * s) = 6 ∧ P (2 * s + 1) = d ∧ P (2 * a + 1) = oth d ∧ attR P a s = true := by
  have hsd : sideB d = true := by rcases hd with rfl | rfl <;> rfl
  unfold chkB
  rw [hsd, Bool.true_and, isAt_iff]
  constructor
  · rintro ⟨i, hi, h⟩
    have hm : getI (fnd P 6 d 64) i ∈ fnd P 6 d 64 := by
      unfold getI; rw [List.getD_eq_getElem?_getD, List.getElem?_eq_getElem hi]; exact List.getElem_mem hi
    obtain ⟨s, hs, hx, h1, h2⟩ := (fnd_mem _ _ _ _ _).1 hm
    rw [hx] at h
    obtain ⟨a, ha, h3, h4⟩ := (atk_iff P s hs _).1 h
    exact ⟨s, a, hs, ha, h1, h2, h3, h4⟩
  · rintro ⟨s, a, hs, ha, h1, h2, h3, h4⟩
    have hm : (s : Int) ∈ fnd P 6 d 64 := (fnd_mem _ _ _ _ _).2 ⟨s, hs, rfl, h1, h2⟩
    obtain ⟨i, hi, e⟩ := List.getElem_of_mem hm
    refine ⟨i, hi, ?_⟩
    have : getI (fnd P 6 d 64) i = (s : Int) := by unfold getI; rw [List.getD_eq_getElem?_getD, List.getElem?_eq_getElem hi, e]; rfl
    rw [this]
    exact (atk_iff P s hs _).2 ⟨a, ha, h3, h4⟩
theorem pos_parts (P : Nat → Int) (h : posB P = true) : rightB P = true ∧ chkB P (oth (P 128)) = false := by
  unfold posB at h; simpa using h
/-- where a position may be played on no move takes a king -/
theorem no_king (P : Nat → Int) (hp : posB P = true) (m : Int × Int × Int) (s n : Nat) (h : MvOk P m s n) : ¬ (P (2 * n) = 6 ∧ P (2 * n + 1) = oth (P 128)) := by
  rintro ⟨h1, h2⟩
  obtain ⟨hr, hc⟩ := pos_parts P hp
  have hd := right_side P hr
  have hem : emB P n = false := by unfold emB; rw [Bool.eq_false_iff]; intro e; have := ((pe_iff _ _ _ _).1 e).1; omega
  obtain ⟨p1, p2⟩ := own_parts P s h.o
  have ha := (goB_hit P s n p1 h.g hem).1
  have hoo := oth_side hd
  have : chkB P (oth (P 128)) = true := (chk_iff P _ hoo.1).2 ⟨n, s, h.hn, h.hs, h1, h2, by rw [hoo.2.1]; exact p2, ha⟩
  rw [hc] at this; cases this
/-- behind a move that takes no king the position is right, the other side moves -/
structure NxOk (P : Nat → Int) (m : Int × Int × Int) (s n : Nat) : Prop where
  mv : MvOk P m s n
  right : rightB (mvP P s n m.2.2) = true
  side : mvP P s n m.2.2 128 = oth (P 128)
  flt : fltN (handP P) s n m.2.2 = 0
  d : P 128 = 0 ∨ P 128 = 1
theorem next_ok (P : Nat → Int) (hp : posB P = true) (m : Int × Int × Int) (s n : Nat) (h : MvOk P m s n) : NxOk P m s n :=
  ⟨h, right_next P (pos_parts P hp).1 s n m.2.2 h.hs h.hn h.o h.g h.b (no_king P hp m s n h), mv_side9 P s n m.2.2 h.hs h.hn (mv_ok P m s n h), mv_ok P m s n h, right_side P (pos_parts P hp).1⟩
structure LgOk (P : Nat → Int) (m : Int × Int × Int) (s n : Nat) : Prop where
  x : NxOk P m s n
  ok : okM P s n m.2.2 = true
  nx : nxP P s n m.2.2 = mvP P s n m.2.2
  pos : posB (mvP P s n m.2.2) = true
  chk : chkB (mvP P s n m.2.2) (P 128) = false
theorem okM_parts (P : Nat → Int) (s n : Nat) (k : Int) (h : okM P s n k = true) : badC P s n = false ∧ fltN (handP P) s n k = 0 ∧ chkB (mvP P s n k) (P 128) = false := by
  unfold okM badQ at h
  simp only [Bool.and_eq_true, Bool.not_eq_true', Bool.or_eq_false_iff, beq_eq_false_iff_ne, bne_iff_ne, Bool.not_eq_false', beq_iff_eq] at h
  exact ⟨h.1, h.2.1, h.2.2⟩
theorem okM_leg (P : Nat → Int) (hp : posB P = true) (m : Int × Int × Int) (s n : Nat) (h : MvOk P m s n) (ho : okM P s n m.2.2 = true) : LgOk P m s n := by
  have N := next_ok P hp m s n h
  obtain ⟨_, _, hc⟩ := okM_parts P s n _ ho
  refine ⟨N, ho, by unfold nxP; rw [if_pos ho], ?_, hc⟩
  unfold posB
  rw [N.right, N.side, (oth_side N.d).2.1, hc]; rfl
theorem okL_at (P : Nat → Int) (m : Int × Int × Int) (s n : Nat) (h : MvOk P m s n) : okL P m = okM P s n m.2.2 := by
  unfold okL; rw [h.f, h.t, Int.toNat_natCast, Int.toNat_natCast]
theorem leg_ok (P : Nat → Int) (hp : posB P = true) (m : Int × Int × Int) (hm : m ∈ legM P) : ∃ s n, LgOk P m s n := by
  unfold legM at hm
  obtain ⟨h1, h2⟩ := List.mem_filter.1 hm
  obtain ⟨s, n, h⟩ := (allM_iff P m).1 h1
  rw [okL_at P m s n h] at h2
  exact ⟨s, n, okM_leg P hp m s n h h2⟩
theorem leg_mem (P : Nat → Int) (m : Int × Int × Int) (s n : Nat) (h : MvOk P m s n) : m ∈ legM P ↔ okM P s n m.2.2 = true := by
  unfold legM
  rw [List.mem_filter, okL_at P m s n h]
  exact ⟨fun h => h.2, fun h2 => ⟨(allM_iff P m).2 ⟨s, n, h⟩, h2⟩⟩
/-! ### the document's fine -/
end Go.Proofs.YtkncfeijlmomaaaGreatDoor

namespace Go.Proofs.YtkncfeijlmomaaaGreatDoor
open Go.RowKit Go.Sort
set_option linter.unusedSimpArgs false
set_option linter.unusedVariables false
set_option maxRecDepth 20000
attribute [local go_sem] Oper.semAt_some

/-- how many rows of so many legal moves there are -/
def cntD : Nat → (Nat → Int) → Nat
  | 0, _ => 1
  | d + 1, P => ((legM P).map fun m => cntD d (nxP P m.1.toNat m.2.1.toNat m.2.2)).sum
def cntS (d : Nat) (P : Nat → Int) (l : List (Int × Int × Int)) : Nat := (l.map fun m => cntD d (nxP P m.1.toNat m.2.1.toNat m.2.2)).sum
/-- what stands between two rounds: the rows that are counted -/
structure ApC (d : Nat) (P : Nat → Int) (w : World) (pre : List (Int × Int × Int)) (X : Nat → Prop) (W : World) : Prop where
  below : Below w.heap.size w W
  box : W.heap[w.heap.size]? = some (.cells #[.int .i64 ((cntS d P pre : Nat) : Int)] 3 (0, 0))
  x : ∀ k, X k ↔ k = w.heap.size
theorem ApC.lt {d : Nat} {P : Nat → Int} {w : World} {pre : List (Int × Int × Int)} {X : Nat → Prop} {W : World} (h : ApC d P w pre X W) : ∀ k, X k → k < W.heap.size := by
  intro k hk
  rw [(h.x k).1 hk]
  exact al_lt h.box
theorem ApC.spare {d : Nat} {P : Nat → Int} {w : World} {pre : List (Int × Int × Int)} {X : Nat → Prop} {A B : World} {n : Nat} (h : ApC d P w pre X A) (hn : w.heap.size ≤ n) (hs : Spares n X A B) : ApC d P w pre X B :=
  ⟨h.below.trans (hs.below h.below.size hn), (hs.block _ (al_lt h.box) (.inr ((h.x _).2 rfl))).trans h.box, h.x⟩
end Go.Proofs.YtkncfeijlmomaaaGreatDoor

namespace Go.Proofs.YtkncfeijlmomaaaGreatDoor
open Go.RowKit Go.Sort
set_option linter.unusedSimpArgs false
set_option linter.unusedVariables false
set_option maxRecDepth 20000

/-- the same but for Over and the counts -/
def LikeS (P Q : Nat → Int) : Prop := ∀ i, i < 130 → P i = Q i
theorem LikeS.k {P Q : Nat → Int} (h : LikeS P Q) {s : Nat} (hs : s < 64) : P (2 * s) = Q (2 * s) := h _ (by omega)
theorem LikeS.d {P Q : Nat → Int} (h : LikeS P Q) {s : Nat} (hs : s < 64) : P (2 * s + 1) = Q (2 * s + 1) := h _ (by omega)
theorem LikeS.sd {P Q : Nat → Int} (h : LikeS P Q) : P 128 = Q 128 := h _ (by omega)
theorem LikeS.cas {P Q : Nat → Int} (h : LikeS P Q) : P 129 = Q 129 := h _ (by omega)
theorem LikeS.symm {P Q : Nat → Int} (h : LikeS P Q) : LikeS Q P := fun i hi => (h i hi).symm
end Go.Proofs.YtkncfeijlmomaaaGreatDoor

namespace Go.Proofs.YtkncfeijlmomaaaGreatDoor
open Go.RowKit Go.Sort
set_option linter.unusedSimpArgs false
set_option linter.unusedVariables false
set_option maxRecDepth 20000

/-- the same ahead of the counts -/
def Like (P Q : Nat → Int) : Prop := ∀ i, i < 131 → P i = Q i
theorem Like.k {P Q : Nat → Int} (h : Like P Q) {s : Nat} (hs : s < 64) : P (2 * s) = Q (2 * s) := h _ (by omega)
theorem Like.d {P Q : Nat → Int} (h : Like P Q) {s : Nat} (hs : s < 64) : P (2 * s + 1) = Q (2 * s + 1) := h _ (by omega)
theorem Like.sd {P Q : Nat → Int} (h : Like P Q) : P 128 = Q 128 := h _ (by omega)
theorem Like.cas {P Q : Nat → Int} (h : Like P Q) : P 129 = Q 129 := h _ (by omega)
theorem Like.ov {P Q : Nat → Int} (h : Like P Q) : P 130 = Q 130 := h _ (by omega)
theorem Like.symm {P Q : Nat → Int} (h : Like P Q) : Like Q P := fun i hi => (h i hi).symm
theorem leg_all (P : Nat → Int) (m : Int × Int × Int) (h : m ∈ legM P) : m ∈ allM P := (List.mem_filter.1 h).1
end Go.Proofs.YtkncfeijlmomaaaGreatDoor

namespace Go.Proofs.YtkncfeijlmomaaaGreatDoor
open Go.RowKit Go.Sort
set_option linter.unusedSimpArgs false
set_option linter.unusedVariables false
set_option maxRecDepth 20000

/-! ### rising rows with the same moves are the same -/
/-! ### moves that take nothing over -/
theorem Like.s {P Q : Nat → Int} (h : Like P Q) : LikeS P Q := fun i hi => h i (by omega)
/-! ### what may be taken over -/
def tkO (P : Nat → Int) : Int := if P 130 = -1 then -1 else if (lmM P).any (fun m => ovrB P m.1.toNat m.2.1.toNat) then P 130 else -1
theorem LikeS.back {P Q : Nat → Int} (h : LikeS P Q) : LikeS Q P := fun i hi => (h i hi).symm
end Go.Proofs.YtkncfeijlmomaaaGreatDoor

namespace Go.Proofs.YtkncfeijlmomaaaGreatDoor
open Go.RowKit Go.Sort
set_option linter.unusedSimpArgs false
set_option linter.unusedVariables false
set_option maxRecDepth 20000

/-! ### numerals -/
/-- numbers, a blank behind each -/
def kyT (l : List Int) : List UInt8 := l.flatMap fun n => Lib.itoa n ++ [32]
theorem kyT_append (l m : List Int) : kyT (l ++ m) = kyT l ++ kyT m := List.flatMap_append ..
theorem kyT_one (n : Int) : kyT [n] = Lib.itoa n ++ [32] := by simp [kyT]
theorem kyT_len : ∀ l : List Int, (∀ n ∈ l, -9223372036854775808 ≤ n ∧ n ≤ 9223372036854775807) → (kyT l).length ≤ 22 * l.length
  | [], _ => Nat.le_refl _
  | n :: l, h => by
    have h1 := kyT_len l fun k hk => h k (List.mem_cons_of_mem _ hk)
    have h2 := Lib.itoa_length_le n (h n (List.mem_cons_self ..)).1 (h n (List.mem_cons_self ..)).2
    have e : kyT (n :: l) = Lib.itoa n ++ [32] ++ kyT l := by simp [kyT]
    rw [e]
    simp only [List.length_append, List.length_cons, List.length_nil]
    omega
/-! ### positions without counts -/
/-- with counts that a position may have whatever else it has -/
def uncN (P : Nat → Int) : Nat → Int := setN (setN P 131 0) 132 1
theorem unc_off (P : Nat → Int) (i : Nat) (h : i ≠ 131) (h2 : i ≠ 132) : uncN P i = P i := by unfold uncN setN; rw [if_neg h2, if_neg h]
/-- what may be taken over, whatever the counts are -/
def ovU (P : Nat → Int) : Int := tkO (uncN P)
theorem tkO_or (P : Nat → Int) : tkO P = -1 ∨ tkO P = P 130 := by
  unfold tkO
  split
  · exact .inl rfl
  · split
    · exact .inr rfl
    · exact .inl rfl
theorem ovU_or (P : Nat → Int) : ovU P = -1 ∨ ovU P = P 130 := by
  have := tkO_or (uncN P)
  rwa [unc_off P 130 (by omega) (by omega)] at this
/-! ### positions that are the same -/
def samB (P Q : Nat → Int) : Bool := ((List.range 130).all fun i => P i == Q i) && (ovU P == ovU Q)
theorem samB_iff (P Q : Nat → Int) : samB P Q = true ↔ LikeS P Q ∧ ovU P = ovU Q := by
  unfold samB LikeS
  rw [Bool.and_eq_true, List.all_eq_true, beq_iff_eq]
  constructor
  · rintro ⟨a, b⟩
    exact ⟨fun i hi => by simpa using a i (List.mem_range.2 hi), b⟩
  · rintro ⟨a, b⟩
    exact ⟨fun i hi => by simpa using a i (List.mem_range.1 hi), b⟩
/-- the numbers of a position's text -/
def kyL (P : Nat → Int) : List Int := (List.range 130).map P ++ [ovU P]
def kyB (P : Nat → Int) : List UInt8 := kyT (kyL P)
theorem kyL_len (P : Nat → Int) : (kyL P).length = 131 := by simp [kyL]
end Go.Proofs.YtkncfeijlmomaaaGreatDoor
