/-
  Mathematics of legal moves: checks, attacked squares; behind a legal move the position may be played on; what the document calls fine.
-/
import Derived.Test.YthinkiljhkanhaaGreatDoorRm
import Derived.Test.YthinkiljhkanhaaGreatDoorG25
import Derived.Test.YthinkiljhkanhaaGreatDoorG21
import Derived.Test.YthinkiljhkanhaaGreatDoorG16
import Derived.Test.YthinkiljhkanhaaGreatDoorG1
namespace Go.Proofs.YthinkiljhkanhaaGreatDoor
open Go.RowKit Go.Sort
set_option linter.unusedSimpArgs false
set_option linter.unusedVariables false
set_option maxRecDepth 20000

abbrev tt := true
abbrev ff := false
theorem take_go {P : Program} {md : Region.Mode} {ops : Array Oper} {Q : Exit → Act → World → Prop} {S : World → Prop} {i : Nat} {oi : Oper} {d : Option Tmp} {v : Value} {fuel : Nat} {listed l' : Array Bool} {a : Act} {w : World} (hi : ops[i]? = some oi) (hd : oi.dst = d) (hy : YieldsIf P ops S oi v a) (h : wpAnyH P md ops Q S fuel l' (a.put d v) w)
    (hs : Region.noSelect ops = true := by kernel_rfl) (hf : Region.free md ops listed i = true := by kernel_rfl) (hr : (Region.ready md ops listed).contains i = true := by kernel_rfl) (hl : listed.setIfInBounds i true = l' := by kernel_rfl)
    (hQ : ∀ c a w, Q (.panic c) (a.put d v) w → Q (.panic c) a w := by exact fun _ _ _ h => h) (hS : S w := by assumption) : wpAnyH P md ops Q S (fuel + 1) listed a w := take_to hi hd hs hf hr hl hQ hy hS h
theorem one_reads (V : World) (x : Int) : Reads (V.alloc (.cells #[.int .i64 x] 3)).heap.size (V.alloc (.cells #[.int .i64 x] 3)) (some ⟨V.heap.size, 0, none⟩) 1 (fun _ => .int .i64 x) := by
  refine .inr ⟨V.heap.size, 0, rfl, by simp, fun i hi => ?_⟩
  have h : (V.alloc (.cells #[.int .i64 x] 3)).heap[V.heap.size]? = some (.cells #[.int .i64 x] 3 (0, 0)) := sl_at rfl
  obtain ⟨q1, _, _⟩ := row1 h
  obtain rfl : i = 0 := by omega
  exact q1
/-- a square is attacked by a side -/
theorem atk_iff (P : Nat → Int) (s : Nat) (hs : s < 64) (d : Int) : atkL P (s : Int) d ≠ [] ↔ ∃ a, a < 64 ∧ P (2 * a + 1) = d ∧ attR P a s = true := by
  have hsq : sq (s : Int) = true := (sq_iff _).2 ⟨by omega, by omega⟩
  rw [Ne, ← rTo_nil]
  unfold rToL
  rw [hsq, if_pos rfl, Int.toNat_natCast]
  constructor
  · intro h
    obtain ⟨x, hx⟩ := List.exists_mem_of_ne_nil _ h
    obtain ⟨a, ha, hq, _⟩ := (upList_mem _ _ _).1 hx
    simp only [Bool.and_eq_true, beq_iff_eq] at hq
    exact ⟨a, ha, hq.1, hq.2⟩
  · rintro ⟨a, ha, h1, h2⟩ h
    have := (upList_mem (fun a => P (2 * a + 1) == d && attR P a s) 64 (a : Int)).2 ⟨a, ha, by simp [h1, h2], rfl⟩
    rw [h] at this
    cases this
theorem isAt_iff (P : Nat → Int) (d : Int) (f : Nat → Int) (n : Nat) : isAt P d f n = true ↔ ∃ i, i < n ∧ atkL P (f i) d ≠ [] := by
  constructor
  · intro h
    unfold isAt at h
    obtain ⟨i, hi, h2⟩ := List.any_eq_true.1 h
    refine ⟨i, List.mem_range.1 hi, fun e => ?_⟩
    rw [e] at h2; cases h2
  · rintro ⟨i, hi, h⟩
    exact isAt_hit hi h
theorem chk_iff (P : Nat → Int) (d : Int) (hd : d = 0 ∨ d = 1) : chkB P d = true ↔ ∃ s a : Nat, s < 64 ∧ a < 64 ∧ P (2 * s) = 6 ∧ P (2 * s + 1) = d ∧ P (2 * a + 1) = oth d ∧ attR P a s = true := by
  have hsd : sideB d = true := by rcases hd with rfl | rfl <;> rfl
  unfold chkB
  rw [hsd, Bool.true_and, isAt_iff]
  constructor
  · rintro ⟨i, hi, h⟩
    have hm : getI (fnd P 6 d 64) i ∈ fnd P 6 d 64 := by
      unfold getI; rw [List.getD_eq_getElem?_getD, List.getElem?_eq_getElem hi]; exact List.getElem_mem hi
    obtain ⟨s, hs, hx, h1, h2⟩ := (fnd_mem _ _ _ _ _).1 hm
    rw [hx] at h
    obtain ⟨a, ha, h3, h4⟩ := (atk_iff P s hs _).1 h
    exact ⟨s, a, hs, ha, h1, h2, h3, h4⟩
  · rintro ⟨s, a, hs, ha, h1, h2, h3, h4⟩
    have hm : (s : Int) ∈ fnd P 6 d 64 := (fnd_mem _ _ _ _ _).2 ⟨s, hs, rfl, h1, h2⟩
    obtain ⟨i, hi, e⟩ := List.getElem_of_mem hm
    refine ⟨i, hi, ?_⟩
    have : getI (fnd P 6 d 64) i = (s : Int) := by unfold getI; rw [List.getD_eq_getElem?_getD, List.getElem?_eq_getElem hi, e]; rfl
    rw [this]
    exact (atk_iff P s hs _).2 ⟨a, ha, h3, h4⟩
theorem pos_parts (P : Nat → Int) (h : posB P = true) : rightB P = true ∧ chkB P (oth (P 128)) = false := by
  unfold posB at h; simpa using h
/-- where a position may be played on no move takes a king -/
theorem no_king (P : Nat → Int) (hp : posB P = true) (m : Int × Int × Int) (s n : Nat) (h : MvOk P m s n) : ¬ (P (2 * n) = 6 ∧ P (2 * n + 1) = oth (P 128)) := by
  rintro ⟨h1, h2⟩
  obtain ⟨hr, hc⟩ := pos_parts P hp
  have hd := right_side P hr
  have hem : emB P n = false := by unfold emB; rw [Bool.eq_false_iff]; intro e; have := ((pe_iff _ _ _ _).1 e).1; omega
  obtain ⟨p1, p2⟩ := own_parts P s h.o
  have ha := (goB_hit P s n p1 h.g hem).1
  have hoo := oth_side hd
  have : chkB P (oth (P 128)) = true := (chk_iff P _ hoo.1).2 ⟨n, s, h.hn, h.hs, h1, h2, by rw [hoo.2.1]; exact p2, ha⟩
  rw [hc] at this; cases this
/-- behind a move that takes no king the position is right, the other side moves -/
structure NxOk (P : Nat → Int) (m : Int × Int × Int) (s n : Nat) : Prop where
  mv : MvOk P m s n
  right : rightB (mvP P s n m.2.2) = true
  side : mvP P s n m.2.2 128 = oth (P 128)
  flt : fltN (handP P) s n m.2.2 = 0
  d : P 128 = 0 ∨ P 128 = 1
theorem next_ok (P : Nat → Int) (hp : posB P = true) (m : Int × Int × Int) (s n : Nat) (h : MvOk P m s n) : NxOk P m s n :=
  ⟨h, right_next P (pos_parts P hp).1 s n m.2.2 h.hs h.hn h.o h.g h.b (no_king P hp m s n h), mv_side9 P s n m.2.2 h.hs h.hn (mv_ok P m s n h), mv_ok P m s n h, right_side P (pos_parts P hp).1⟩
structure LgOk (P : Nat → Int) (m : Int × Int × Int) (s n : Nat) : Prop where
  x : NxOk P m s n
  ok : okM P s n m.2.2 = true
  nx : nxP P s n m.2.2 = mvP P s n m.2.2
  pos : posB (mvP P s n m.2.2) = true
  chk : chkB (mvP P s n m.2.2) (P 128) = false
theorem okM_parts (P : Nat → Int) (s n : Nat) (k : Int) (h : okM P s n k = true) : badC P s n = false ∧ fltN (handP P) s n k = 0 ∧ chkB (mvP P s n k) (P 128) = false := by
  unfold okM badQ at h
  simp only [Bool.and_eq_true, Bool.not_eq_true', Bool.or_eq_false_iff, beq_eq_false_iff_ne, bne_iff_ne, Bool.not_eq_false', beq_iff_eq] at h
  exact ⟨h.1, h.2.1, h.2.2⟩
theorem okM_leg (P : Nat → Int) (hp : posB P = true) (m : Int × Int × Int) (s n : Nat) (h : MvOk P m s n) (ho : okM P s n m.2.2 = true) : LgOk P m s n := by
  have N := next_ok P hp m s n h
  obtain ⟨_, _, hc⟩ := okM_parts P s n _ ho
  refine ⟨N, ho, by unfold nxP; rw [if_pos ho], ?_, hc⟩
  unfold posB
  rw [N.right, N.side, (oth_side N.d).2.1, hc]; rfl
theorem okL_at (P : Nat → Int) (m : Int × Int × Int) (s n : Nat) (h : MvOk P m s n) : okL P m = okM P s n m.2.2 := by
  unfold okL; rw [h.f, h.t, Int.toNat_natCast, Int.toNat_natCast]
theorem leg_ok (P : Nat → Int) (hp : posB P = true) (m : Int × Int × Int) (hm : m ∈ legM P) : ∃ s n, LgOk P m s n := by
  unfold legM at hm
  obtain ⟨h1, h2⟩ := List.mem_filter.1 hm
  obtain ⟨s, n, h⟩ := (allM_iff P m).1 h1
  rw [okL_at P m s n h] at h2
  exact ⟨s, n, okM_leg P hp m s n h h2⟩
theorem leg_mem (P : Nat → Int) (m : Int × Int × Int) (s n : Nat) (h : MvOk P m s n) : m ∈ legM P ↔ okM P s n m.2.2 = true := by
  unfold legM
  rw [List.mem_filter, okL_at P m s n h]
  exact ⟨fun h => h.2, fun h2 => ⟨(allM_iff P m).2 ⟨s, n, h⟩, h2⟩⟩
/-! ### the document's fine -/
def fineB (P : Nat → Int) (s n : Nat) (k : Int) : Bool := (fltN (handP P) s n k == 0) && !chkB (mvP P s n k) (P 128) && (!cstM P s n || (!chkB P (P 128) && !isAt P (oth (P 128)) (fun _ => ((s : Int) + (n : Int)) / 2) 1))
theorem is_two (P : Nat → Int) (d a b : Int) : isAt P d (wayF a b) 2 = (isAt P d (fun _ => a) 1 || isAt P d (fun _ => b) 1) := by
  unfold isAt
  simp [List.range_succ, wayF]
theorem one_king (P : Nat → Int) (hr : rightB P = true) (s : Nat) (hs : s < 64) (hk : P (2 * s) = 6) (ho : P (2 * s + 1) = P 128) : fnd P 6 (P 128) 64 = [(s : Int)] := by
  have hd := right_side P hr
  obtain ⟨r1, r2, r3, r4, r5, r6, r7⟩ := right_parts9 P hr
  have hl : (fnd P 6 (P 128) 64).length = 1 := by rw [cnt_fnd]; rcases hd with e | e <;> rw [e] <;> assumption
  obtain ⟨x, hx⟩ := List.length_eq_one_iff.1 hl
  have hm : (s : Int) ∈ fnd P 6 (P 128) 64 := (fnd_mem _ _ _ _ _).2 ⟨s, hs, rfl, hk, ho⟩
  rw [hx] at hm ⊢
  simp only [List.mem_singleton] at hm
  rw [hm]
theorem chk_king (P : Nat → Int) (hr : rightB P = true) (s : Nat) (hs : s < 64) (hk : P (2 * s) = 6) (ho : P (2 * s + 1) = P 128) : chkB P (P 128) = isAt P (oth (P 128)) (fun _ => (s : Int)) 1 := by
  have hd := right_side P hr
  have hsd : sideB (P 128) = true := by rcases hd with e | e <;> rw [e] <;> rfl
  unfold chkB
  rw [one_king P hr s hs hk ho, hsd]
  rfl
theorem fine_ok (P : Nat → Int) (hr : rightB P = true) (s n : Nat) (k : Int) (hs : s < 64) (ho : ownB P s = true) : fineB P s n k = okM P s n k := by
  obtain ⟨p1, p2⟩ := own_parts P s ho
  unfold fineB okM badC badQ freeB
  cases hc : cstM P s n
  · simp [Bool.and_comm]
  · have hk : P (2 * s) = 6 := by
      unfold cstM at hc
      simp only [Bool.and_eq_true, beq_iff_eq] at hc
      rw [Nat.mul_comm]; exact hc.1
    rw [is_two, ← chk_king P hr s hs hk p2]
    cases (fltN (handP P) s n k == 0) <;> cases chkB (mvP P s n k) (P 128) <;> cases chkB P (P 128) <;> cases isAt P (oth (P 128)) (fun _ => ((s : Int) + (n : Int)) / 2) 1 <;> rfl
end Go.Proofs.YthinkiljhkanhaaGreatDoor
