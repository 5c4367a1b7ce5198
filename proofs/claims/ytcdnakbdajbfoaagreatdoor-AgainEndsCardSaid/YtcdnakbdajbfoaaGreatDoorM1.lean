/-
  Merged: Ro, Wa, Rq, Wb, Wd.
-/
import Derived.Test.YtcdnakbdajbfoaaGreatDoorRm
import Derived.Test.YtcdnakbdajbfoaaGreatDoorG27
import Derived.Test.YtcdnakbdajbfoaaGreatDoorG23
import Derived.Test.YtcdnakbdajbfoaaGreatDoorG17
import Derived.Test.YtcdnakbdajbfoaaGreatDoorG1
import Derived.Test.YtcdnakbdajbfoaaGreatDoorG21
import Derived.Lib.ItoaLen

namespace Go.Proofs.YtcdnakbdajbfoaaGreatDoor
open Go.RowKit Go.Sort
set_option linter.unusedSimpArgs false
set_option linter.unusedVariables false
set_option maxRecDepth 20000

abbrev ff := false
theorem one_reads (V : World) (x : Int) : Reads (V.alloc (.cells #[.int .i64 x] 3)).heap.size (V.alloc (.cells #[.int .i64 x] 3)) (some ⟨V.heap.size, 0, none⟩) 1 (fun _ => .int .i64 x) := by
  refine .inr ⟨V.heap.size, 0, rfl, by simp, fun i hi => ?_⟩
  have h : (V.alloc (.cells #[.int .i64 x] 3)).heap[V.heap.size]? = some (.cells #[.int .i64 x] 3 (0, 0)) := sl_at rfl
  obtain ⟨q1, _, _⟩ := row1 h
  obtain rfl : i = 0 := by omega
  exact q1
theorem atk_iff (P : Nat → Int) (s : Nat) (hs : s < 64) (d : Int) : atkL P (s : Int) d ≠ [] ↔ ∃ a, a < 64 ∧ P (2 * a + 1) = d ∧ attR P a s = true := by
  have hsq : sq (s : Int) = true := (sq_iff _).2 ⟨by omega, by omega⟩
  rw [Ne, ← rTo_nil]
  unfold rToL
  rw [hsq, if_pos rfl, Int.toNat_natCast]
  constructor
  · intro h
    obtain ⟨x, hx⟩ := List.exists_mem_of_ne_nil _ h
    obtain ⟨a, ha, hq, _⟩ := (upList_mem _ _ _).1 hx
    simp only [Bool.and_eq_true, beq_iff_eq] at hq
    exact ⟨a, ha, hq.1, hq.2⟩
  · rintro ⟨a, ha, h1, h2⟩ h
    have := (upList_mem (fun a => P (2 * a + 1) == d && attR P a s) 64 (a : Int)).2 ⟨a, ha, by simp [h1, h2], rfl⟩
    rw [h] at this
    cases this
theorem isAt_iff (P : Nat → Int) (d : Int) (f : Nat → Int) (n : Nat) : isAt P d f n = true ↔ ∃ i, i < n ∧ atkL P (f i) d ≠ [] := by
  constructor
  · intro h
    unfold isAt at h
    obtain ⟨i, hi, h2⟩ := List.any_eq_true.1 h
    refine ⟨i, List.mem_range.1 hi, fun e => ?_⟩
    rw [e] at h2; cases h2
  · rintro ⟨i, hi, h⟩
    exact isAt_hit hi h
theorem chk_iff (P : Nat → Int) (d : Int) (hd : d = 0 ∨ d = 1) : chkB P d = true ↔ ∃ s a : Nat, s < 64 ∧ a < 64 ∧ P (2 * s) = 6 ∧ P (2 * s + 1) = d ∧ P (2 * a + 1) = oth d ∧ attR P a s = true := by
  have hsd : sideB d = true := by rcases hd with rfl | rfl <;> rfl
  unfold chkB
  rw [hsd, Bool.true_and, isAt_iff]
  constructor
  · rintro ⟨i, hi, h⟩
    have hm : getI (fnd P 6 d 64) i ∈ fnd P 6 d 64 := by
      unfold getI; rw [List.getD_eq_getElem?_getD, List.getElem?_eq_getElem hi]; exact List.getElem_mem hi
    obtain ⟨s, hs, hx, h1, h2⟩ := (fnd_mem _ _ _ _ _).1 hm
    rw [hx] at h
    obtain ⟨a, ha, h3, h4⟩ := (atk_iff P s hs _).1 h
    exact ⟨s, a, hs, ha, h1, h2, h3, h4⟩
  · rintro ⟨s, a, hs, ha, h1, h2, h3, h4⟩
    have hm : (s : Int) ∈ fnd P 6 d 64 := (fnd_mem _ _ _ _ _).2 ⟨s, hs, rfl, h1, h2⟩
    obtain ⟨i, hi, e⟩ := List.getElem_of_mem hm
    refine ⟨i, hi, ?_⟩
    have : getI (fnd P 6 d 64) i = (s : Int) := by unfold getI; rw [List.getD_eq_getElem?_getD, List.getElem?_eq_getElem hi, e]; rfl
    rw [this]
    exact (atk_iff P s hs _).2 ⟨a, ha, h3, h4⟩
theorem pos_parts (P : Nat → Int) (h : posB P = true) : rightB P = true ∧ chkB P (oth (P 128)) = false := by
  unfold posB at h; simpa using h
theorem no_king (P : Nat → Int) (hp : posB P = true) (m : Int × Int × Int) (s n : Nat) (h : MvOk P m s n) : ¬ (P (2 * n) = 6 ∧ P (2 * n + 1) = oth (P 128)) := by
  rintro ⟨h1, h2⟩
  obtain ⟨hr, hc⟩ := pos_parts P hp
  have hd := right_side P hr
  have hem : emB P n = false := by unfold emB; rw [Bool.eq_false_iff]; intro e; have := ((pe_iff _ _ _ _).1 e).1; omega
  obtain ⟨p1, p2⟩ := own_parts P s h.o
  have ha := (goB_hit P s n p1 h.g hem).1
  have hoo := oth_side hd
  have : chkB P (oth (P 128)) = true := (chk_iff P _ hoo.1).2 ⟨n, s, h.hn, h.hs, h1, h2, by rw [hoo.2.1]; exact p2, ha⟩
  rw [hc] at this; cases this
structure NxOk (P : Nat → Int) (m : Int × Int × Int) (s n : Nat) : Prop where
  mv : MvOk P m s n
  right : rightB (mvP P s n m.2.2) = true
  side : mvP P s n m.2.2 128 = oth (P 128)
  flt : fltN (handP P) s n m.2.2 = 0
  d : P 128 = 0 ∨ P 128 = 1
theorem next_ok (P : Nat → Int) (hp : posB P = true) (m : Int × Int × Int) (s n : Nat) (h : MvOk P m s n) : NxOk P m s n :=
  ⟨h, right_next P (pos_parts P hp).1 s n m.2.2 h.hs h.hn h.o h.g h.b (no_king P hp m s n h), mv_side9 P s n m.2.2 h.hs h.hn (mv_ok P m s n h), mv_ok P m s n h, right_side P (pos_parts P hp).1⟩
structure LgOk (P : Nat → Int) (m : Int × Int × Int) (s n : Nat) : Prop where
  x : NxOk P m s n
  ok : okM P s n m.2.2 = true
  nx : nxP P s n m.2.2 = mvP P s n m.2.2
  pos : posB (mvP P s n m.2.2) = true
  chk : chkB (mvP P s n m.2.2) (P 128) = false
theorem okM_parts (P : Nat → Int) (s n : Nat) (k : Int) (h : okM P s n k = true) : badC P s n = false ∧ fltN (handP P) s n k = 0 ∧ chkB (mvP P s n k) (P 128) = false := by
  unfold okM badQ at h
  simp only [Bool.and_eq_true, Bool.not_eq_true', Bool.or_eq_false_iff, beq_eq_false_iff_ne, bne_iff_ne, Bool.not_eq_false', beq_iff_eq] at h
  exact ⟨h.1, h.2.1, h.2.2⟩
theorem okM_leg (P : Nat → Int) (hp : posB P = true) (m : Int × Int × Int) (s n : Nat) (h : MvOk P m s n) (ho : okM P s n m.2.2 = true) : LgOk P m s n := by
  have N := next_ok P hp m s n h
  obtain ⟨_, _, hc⟩ := okM_parts P s n _ ho
  refine ⟨N, ho, by unfold nxP; rw [if_pos ho], ?_, hc⟩
  unfold posB
  rw [N.right, N.side, (oth_side N.d).2.1, hc]; rfl
theorem okL_at (P : Nat → Int) (m : Int × Int × Int) (s n : Nat) (h : MvOk P m s n) : okL P m = okM P s n m.2.2 := by
  unfold okL; rw [h.f, h.t, Int.toNat_natCast, Int.toNat_natCast]
theorem leg_ok (P : Nat → Int) (hp : posB P = true) (m : Int × Int × Int) (hm : m ∈ legM P) : ∃ s n, LgOk P m s n := by
  unfold legM at hm
  obtain ⟨h1, h2⟩ := List.mem_filter.1 hm
  obtain ⟨s, n, h⟩ := (allM_iff P m).1 h1
  rw [okL_at P m s n h] at h2
  exact ⟨s, n, okM_leg P hp m s n h h2⟩
theorem leg_mem (P : Nat → Int) (m : Int × Int × Int) (s n : Nat) (h : MvOk P m s n) : m ∈ legM P ↔ okM P s n m.2.2 = true := by
  unfold legM
  rw [List.mem_filter, okL_at P m s n h]
  exact ⟨fun h => h.2, fun h2 => ⟨(allM_iff P m).2 ⟨s, n, h⟩, h2⟩⟩
def fineB (P : Nat → Int) (s n : Nat) (k : Int) : Bool := (fltN (handP P) s n k == 0) && !chkB (mvP P s n k) (P 128) && (!cstM P s n || (!chkB P (P 128) && !isAt P (oth (P 128)) (fun _ => ((s : Int) + (n : Int)) / 2) 1))
theorem is_two (P : Nat → Int) (d a b : Int) : isAt P d (wayF a b) 2 = (isAt P d (fun _ => a) 1 || isAt P d (fun _ => b) 1) := by
  unfold isAt
  simp [List.range_succ, wayF]
theorem one_king (P : Nat → Int) (hr : rightB P = true) (s : Nat) (hs : s < 64) (hk : P (2 * s) = 6) (ho : P (2 * s + 1) = P 128) : fnd P 6 (P 128) 64 = [(s : Int)] := by
  have hd := right_side P hr
  obtain ⟨r1, r2, r3, r4, r5, r6, r7⟩ := right_parts9 P hr
  have hl : (fnd P 6 (P 128) 64).length = 1 := by rw [cnt_fnd]; rcases hd with e | e <;> rw [e] <;> assumption
  obtain ⟨x, hx⟩ := List.length_eq_one_iff.1 hl
  have hm : (s : Int) ∈ fnd P 6 (P 128) 64 := (fnd_mem _ _ _ _ _).2 ⟨s, hs, rfl, hk, ho⟩
  rw [hx] at hm ⊢
  simp only [List.mem_singleton] at hm
  rw [hm]
theorem chk_king (P : Nat → Int) (hr : rightB P = true) (s : Nat) (hs : s < 64) (hk : P (2 * s) = 6) (ho : P (2 * s + 1) = P 128) : chkB P (P 128) = isAt P (oth (P 128)) (fun _ => (s : Int)) 1 := by
  have hd := right_side P hr
  have hsd : sideB (P 128) = true := by rcases hd with e | e <;> rw [e] <;> rfl
  unfold chkB
  rw [one_king P hr s hs hk ho, hsd]
  rfl
theorem fine_ok (P : Nat → Int) (hr : rightB P = true) (s n : Nat) (k : Int) (hs : s < 64) (ho : ownB P s = true) : fineB P s n k = okM P s n k := by
  obtain ⟨p1, p2⟩ := own_parts P s ho
  unfold fineB okM badC badQ freeB
  cases hc : cstM P s n
  · simp [Bool.and_comm]
  · have hk : P (2 * s) = 6 := by
      unfold cstM at hc
      simp only [Bool.and_eq_true, beq_iff_eq] at hc
      rw [Nat.mul_comm]; exact hc.1
    rw [is_two, ← chk_king P hr s hs hk p2]
    cases (fltN (handP P) s n k == 0) <;> cases chkB (mvP P s n k) (P 128) <;> cases chkB P (P 128) <;> cases isAt P (oth (P 128)) (fun _ => ((s : Int) + (n : Int)) / 2) 1 <;> rfl
end Go.Proofs.YtcdnakbdajbfoaaGreatDoor

namespace Go.Proofs.YtcdnakbdajbfoaaGreatDoor
open Go.RowKit Go.Sort
set_option linter.unusedSimpArgs false
set_option linter.unusedVariables false
set_option maxRecDepth 20000

def LikeS (P Q : Nat → Int) : Prop := ∀ i, i < 130 → P i = Q i
theorem LikeS.k {P Q : Nat → Int} (h : LikeS P Q) {s : Nat} (hs : s < 64) : P (2 * s) = Q (2 * s) := h _ (by omega)
theorem LikeS.d {P Q : Nat → Int} (h : LikeS P Q) {s : Nat} (hs : s < 64) : P (2 * s + 1) = Q (2 * s + 1) := h _ (by omega)
theorem LikeS.sd {P Q : Nat → Int} (h : LikeS P Q) : P 128 = Q 128 := h _ (by omega)
theorem LikeS.cas {P Q : Nat → Int} (h : LikeS P Q) : P 129 = Q 129 := h _ (by omega)
theorem LikeS.symm {P Q : Nat → Int} (h : LikeS P Q) : LikeS Q P := fun i hi => (h i hi).symm
end Go.Proofs.YtcdnakbdajbfoaaGreatDoor

namespace Go.Proofs.YtcdnakbdajbfoaaGreatDoor
open Go.RowKit Go.Sort
set_option linter.unusedSimpArgs false
set_option linter.unusedVariables false
set_option maxRecDepth 20000

def Like (P Q : Nat → Int) : Prop := ∀ i, i < 131 → P i = Q i
theorem Like.k {P Q : Nat → Int} (h : Like P Q) {s : Nat} (hs : s < 64) : P (2 * s) = Q (2 * s) := h _ (by omega)
theorem Like.d {P Q : Nat → Int} (h : Like P Q) {s : Nat} (hs : s < 64) : P (2 * s + 1) = Q (2 * s + 1) := h _ (by omega)
theorem Like.sd {P Q : Nat → Int} (h : Like P Q) : P 128 = Q 128 := h _ (by omega)
theorem Like.cas {P Q : Nat → Int} (h : Like P Q) : P 129 = Q 129 := h _ (by omega)
theorem Like.ov {P Q : Nat → Int} (h : Like P Q) : P 130 = Q 130 := h _ (by omega)
theorem Like.symm {P Q : Nat → Int} (h : Like P Q) : Like Q P := fun i hi => (h i hi).symm
theorem leg_all (P : Nat → Int) (m : Int × Int × Int) (h : m ∈ legM P) : m ∈ allM P := (List.mem_filter.1 h).1
end Go.Proofs.YtcdnakbdajbfoaaGreatDoor

namespace Go.Proofs.YtcdnakbdajbfoaaGreatDoor
open Go.RowKit Go.Sort
set_option linter.unusedSimpArgs false
set_option linter.unusedVariables false
set_option maxRecDepth 20000

theorem Like.s {P Q : Nat → Int} (h : Like P Q) : LikeS P Q := fun i hi => h i (by omega)
def tkO (P : Nat → Int) : Int := if P 130 = -1 then -1 else if (lmM P).any (fun m => ovrB P m.1.toNat m.2.1.toNat) then P 130 else -1
theorem LikeS.back {P Q : Nat → Int} (h : LikeS P Q) : LikeS Q P := fun i hi => (h i hi).symm
end Go.Proofs.YtcdnakbdajbfoaaGreatDoor

namespace Go.Proofs.YtcdnakbdajbfoaaGreatDoor
open Go.RowKit Go.Sort
set_option linter.unusedSimpArgs false
set_option linter.unusedVariables false
set_option maxRecDepth 20000

theorem dec_digit (u : Nat) : ∀ b ∈ Lib.decDigits u, 48 ≤ b.toNat ∧ b.toNat ≤ 57 := by
  induction u using Nat.strongRecOn with
  | _ u ih =>
    by_cases h : u < 10
    · rw [Lib.decDigits_one h]
      intro b hb
      rw [List.mem_singleton.1 hb, UInt8.toNat_ofNat']
      omega
    · rw [Lib.decDigits, dif_neg h]
      intro b hb
      rcases List.mem_append.1 hb with hb | hb
      · exact ih (u / 10) (by omega) b hb
      · rw [List.mem_singleton.1 hb, UInt8.toNat_ofNat']
        omega
def valD (l : List UInt8) : Nat := l.foldl (fun a b => a * 10 + (b.toNat - 48)) 0
theorem valD_dec (u : Nat) : valD (Lib.decDigits u) = u := by
  induction u using Nat.strongRecOn with
  | _ u ih =>
    by_cases h : u < 10
    · rw [Lib.decDigits_one h]
      unfold valD
      simp only [List.foldl_cons, List.foldl_nil, UInt8.toNat_ofNat']
      omega
    · rw [Lib.decDigits, dif_neg h]
      have := ih (u / 10) (by omega)
      unfold valD at this ⊢
      rw [List.foldl_append, this]
      simp only [List.foldl_cons, List.foldl_nil, UInt8.toNat_ofNat']
      omega
theorem dec_inj {u v : Nat} (h : Lib.decDigits u = Lib.decDigits v) : u = v := by rw [← valD_dec u, h, valD_dec]
theorem dec_no (u : Nat) (b : UInt8) (hb : b.toNat < 48) : b ∉ Lib.decDigits u := fun h => by have := dec_digit u b h; omega
theorem itoa_no (n : Int) : (32 : UInt8) ∉ Lib.itoa n := by
  unfold Lib.itoa
  split
  · intro h
    rcases List.mem_cons.1 h with h | h
    · exact absurd h (by decide)
    · exact dec_no _ 32 (by decide) h
  · exact dec_no _ 32 (by decide)
theorem itoa_inj {n m : Int} (h : Lib.itoa n = Lib.itoa m) : n = m := by
  unfold Lib.itoa at h
  split at h <;> split at h
  · have := dec_inj (List.cons.inj h).2; omega
  · exact absurd (h ▸ List.mem_cons_self .. : (45 : UInt8) ∈ Lib.decDigits m.toNat) (dec_no _ 45 (by decide))
  · exact absurd (h ▸ List.mem_cons_self .. : (45 : UInt8) ∈ Lib.decDigits n.toNat) (dec_no _ 45 (by decide))
  · have := dec_inj h; omega
def kyT (l : List Int) : List UInt8 := l.flatMap fun n => Lib.itoa n ++ [32]
theorem kyT_append (l m : List Int) : kyT (l ++ m) = kyT l ++ kyT m := List.flatMap_append ..
theorem kyT_one (n : Int) : kyT [n] = Lib.itoa n ++ [32] := by simp [kyT]
theorem cut_at {α : Type} {x : α} : ∀ {a b r s : List α}, x ∉ a → x ∉ b → a ++ x :: r = b ++ x :: s → a = b ∧ r = s
  | [], [], _, _, _, _, h => ⟨rfl, (List.cons.inj h).2⟩
  | [], c :: b, _, _, _, h2, h => absurd ((List.cons.inj h).1 ▸ List.mem_cons_self ..) h2
  | c :: a, [], _, _, h1, _, h => absurd ((List.cons.inj h).1.symm ▸ List.mem_cons_self ..) h1
  | c :: a, d :: b, _, _, h1, h2, h => by
    obtain ⟨e, h⟩ := List.cons.inj h
    obtain ⟨e2, e3⟩ := cut_at (fun k => h1 (List.mem_cons_of_mem _ k)) (fun k => h2 (List.mem_cons_of_mem _ k)) h
    exact ⟨by rw [e, e2], e3⟩
theorem kyT_inj : ∀ {l m : List Int}, kyT l = kyT m → l = m
  | [], [], _ => rfl
  | [], n :: m, h => by simp [kyT] at h
  | n :: l, [], h => by simp [kyT] at h
  | n :: l, k :: m, h => by
    have h2 : Lib.itoa n ++ 32 :: kyT l = Lib.itoa k ++ 32 :: kyT m := by simpa [kyT, List.append_assoc] using h
    obtain ⟨a, b⟩ := cut_at (itoa_no n) (itoa_no k) h2
    rw [itoa_inj a, kyT_inj b]
theorem kyT_len : ∀ l : List Int, (∀ n ∈ l, -9223372036854775808 ≤ n ∧ n ≤ 9223372036854775807) → (kyT l).length ≤ 22 * l.length
  | [], _ => Nat.le_refl _
  | n :: l, h => by
    have h1 := kyT_len l fun k hk => h k (List.mem_cons_of_mem _ hk)
    have h2 := Lib.itoa_length_le n (h n (List.mem_cons_self ..)).1 (h n (List.mem_cons_self ..)).2
    have e : kyT (n :: l) = Lib.itoa n ++ [32] ++ kyT l := by simp [kyT]
    rw [e]
    simp only [List.length_append, List.length_cons, List.length_nil]
    omega
def uncN (P : Nat → Int) : Nat → Int := setN (setN P 131 0) 132 1
theorem unc_off (P : Nat → Int) (i : Nat) (h : i ≠ 131) (h2 : i ≠ 132) : uncN P i = P i := by unfold uncN setN; rw [if_neg h2, if_neg h]
def ovU (P : Nat → Int) : Int := tkO (uncN P)
theorem tkO_or (P : Nat → Int) : tkO P = -1 ∨ tkO P = P 130 := by
  unfold tkO
  split
  · exact .inl rfl
  · split
    · exact .inr rfl
    · exact .inl rfl
theorem ovU_or (P : Nat → Int) : ovU P = -1 ∨ ovU P = P 130 := by
  have := tkO_or (uncN P)
  rwa [unc_off P 130 (by omega) (by omega)] at this
def samB (P Q : Nat → Int) : Bool := ((List.range 130).all fun i => P i == Q i) && (ovU P == ovU Q)
theorem samB_iff (P Q : Nat → Int) : samB P Q = true ↔ LikeS P Q ∧ ovU P = ovU Q := by
  unfold samB LikeS
  rw [Bool.and_eq_true, List.all_eq_true, beq_iff_eq]
  constructor
  · rintro ⟨a, b⟩
    exact ⟨fun i hi => by simpa using a i (List.mem_range.2 hi), b⟩
  · rintro ⟨a, b⟩
    exact ⟨fun i hi => by simpa using a i (List.mem_range.1 hi), b⟩
theorem samB_refl (P : Nat → Int) : samB P P = true := (samB_iff P P).2 ⟨fun _ _ => rfl, rfl⟩
def kyL (P : Nat → Int) : List Int := (List.range 130).map P ++ [ovU P]
def kyB (P : Nat → Int) : List UInt8 := kyT (kyL P)
theorem kyL_len (P : Nat → Int) : (kyL P).length = 131 := by simp [kyL]
theorem kyB_iff (P Q : Nat → Int) : kyB P = kyB Q ↔ samB P Q = true := by
  rw [samB_iff]
  constructor
  · intro h
    have h2 := kyT_inj h
    unfold kyL at h2
    obtain ⟨a, b⟩ := List.append_inj h2 (by simp)
    refine ⟨fun i hi => ?_, (List.cons.inj b).1⟩
    have := List.map_inj_left.1 a i (List.mem_range.2 hi)
    exact this
  · rintro ⟨a, b⟩
    unfold kyB kyL
    rw [b, List.map_congr_left fun i hi => a i (List.mem_range.1 hi)]
end Go.Proofs.YtcdnakbdajbfoaaGreatDoor
