/-
  The law AttackBoth: what it asks of lists; its walk.
-/
import Derived.Test.YtbnpphecknhpeaaDoorDr
namespace Go.Proofs.YtbnpphecknhpeaaDoor
open Go.RowKit Go.Sort
set_option linter.unusedSimpArgs false
set_option linter.unusedVariables false

def hasB (f : Nat → Int) (n : Nat) (x : Int) : Bool := (List.range n).any fun i => f i == x
theorem hasB_hit {f : Nat → Int} {n i : Nat} {x : Int} (hi : i < n) (h : f i = x) : hasB f n x = true :=
  List.any_eq_true.2 ⟨i, List.mem_range.2 hi, by simp [h]⟩
theorem hasB_miss {f : Nat → Int} {n : Nat} {x : Int} (h : ∀ i, i < n → f i ≠ x) : hasB f n x = false :=
  List.any_eq_false.2 fun i hi => by simp [h i (List.mem_range.1 hi)]
theorem hasB_mem (l : List Int) (x : Int) : hasB (getI l) l.length x = true ↔ x ∈ l := by
  unfold hasB getI
  rw [List.any_eq_true]
  constructor
  · rintro ⟨i, hi, h⟩
    have hi' := List.mem_range.1 hi
    rw [List.getD_eq_getElem?_getD, List.getElem?_eq_getElem hi'] at h
    have : l[i] = x := by simpa using h
    exact this ▸ List.getElem_mem hi'
  · intro h
    obtain ⟨i, hi, e⟩ := List.getElem_of_mem h
    refine ⟨i, List.mem_range.2 hi, ?_⟩
    rw [List.getD_eq_getElem?_getD, List.getElem?_eq_getElem hi]
    simp [e]
set_option maxHeartbeats 1000000 in
set_option maxRecDepth 100000 in
theorem has_any (B : Nat) (p : Option Addr) (n c : Nat) (f : Nat → Int) (x : Int) (w : World) (hn : n ≤ 1000000) (hr : Reads B w p n (fun i => .int .i64 (f i))) :
    Calls Tryd.prog 21 #[.slice p n c, .int .i64 x] w fun e w' => e = .returned (.bool (hasB f n x)) ∧ w = w' := by
  have HR := Lib.hid hr
  clear hr
  go_enter Tryd.func21, Tryd.ntmps21
  go_wp2
  go_loopw [5] (fun v wr => ∃ i : Nat, i ≤ n ∧ v = .int .i64 (i : Int) ∧ w = wr ∧ ∀ j, j < i → f j ≠ x) (fun v _ => n - (intOf v).toNat)
  case atStart => exact ⟨0, Nat.zero_le _, rfl, rfl, fun j hj => by omega⟩
  case round =>
    obtain ⟨i, hi, rfl, rfl, hall⟩ := hrel
    have HALL := Lib.hid hall
    clear hall
    by_cases hlt : i < n
    · rcases HR.out with h0 | ⟨b, off, rfl, hbb, hc⟩
      · omega
      have e0 : w.cell? ⟨b, off + i, none⟩ = some (.int .i64 (f i)) := hc i hlt
      obtain ⟨y, hy⟩ : ∃ y, f i = y := ⟨_, rfl⟩
      rw [hy] at e0
      by_cases hxy : y = x
      · have HTT := Lib.hid (show hasB f n x = true from hasB_hit hlt (hy.trans hxy))
        subst hxy
        clear hc hy
        go_wp2
        go_ret
        exact ⟨q_b HTT.out.symm, rfl⟩
      · have hyx : (y == x) = false := by simp [hxy]
        have HNX := Lib.hid (show ∀ j, j < i + 1 → f j ≠ x from fun j hj => by
          rcases (show j < i ∨ j = i by omega) with h | rfl
          · exact HALL.out j h
          · rw [hy]; exact hxy)
        clear hc hy hxy
        go_wp2
        go_roundw
        case rel => exact ⟨i + 1, by omega, by go_num, by trivial, HNX.out⟩
        case measure => simp [intOf]; omega
    · obtain rfl : i = n := by omega
      have HTT := Lib.hid (hasB_miss HALL.out)
      go_wp2
      go_ret
      exact ⟨q_b HTT.out.symm, rfl⟩
/-! ### what the lists hold -/
theorem has_from (P : Nat → Int) (s t : Nat) (hs : s < 64) (ht : t < 64) : hasB (getI (rFromL P s)) (rFromL P s).length (t : Int) = attR P s t := by
  have h := hasB_mem (rFromL P s) (t : Int)
  have hsq : sq (s : Int) = true := (sq_iff _).2 ⟨by omega, by omega⟩
  unfold rFromL at h ⊢
  rw [hsq] at h ⊢
  simp only [if_true, Int.toNat_natCast] at h ⊢
  rw [upList_mem] at h
  rw [Bool.eq_iff_iff, h]
  constructor
  · rintro ⟨i, hi, h1, h2⟩
    obtain rfl : t = i := by omega
    exact h1
  · intro h1; exact ⟨t, ht, h1, rfl⟩
theorem has_to (P : Nat → Int) (s t : Nat) (d : Int) (hs : s < 64) (ht : t < 64) : hasB (getI (rToL P t d)) (rToL P t d).length (s : Int) = (P (2 * s + 1) == d && attR P s t) := by
  have h := hasB_mem (rToL P t d) (s : Int)
  have hsq : sq (t : Int) = true := (sq_iff _).2 ⟨by omega, by omega⟩
  unfold rToL at h ⊢
  rw [hsq] at h ⊢
  simp only [if_true, Int.toNat_natCast] at h ⊢
  rw [upList_mem] at h
  rw [Bool.eq_iff_iff, h]
  constructor
  · rintro ⟨i, hi, h1, h2⟩
    obtain rfl : s = i := by omega
    exact h1
  · intro h1; exact ⟨s, hs, h1, rfl⟩
theorem att_self (P : Nat → Int) (s : Nat) : attR P s s = false := by unfold attR attK; simp
theorem from_in (P : Nat → Int) (s k : Nat) (hk : k < (rFromL P s).length) : ∃ x : Nat, getI (rFromL P s) k = (x : Int) ∧ x < 64 := by
  have hm : getI (rFromL P s) k ∈ rFromL P s := by
    unfold getI; rw [List.getD_eq_getElem?_getD, List.getElem?_eq_getElem hk]; exact List.getElem_mem hk
  generalize getI (rFromL P s) k = y at hm ⊢
  unfold rFromL at hm
  split at hm
  · obtain ⟨i, hi, _, e⟩ := (upList_mem _ _ _).1 hm
    exact ⟨i, e, hi⟩
  · simp at hm
theorem from_up (P : Nat → Int) (s k : Nat) (hk : k + 1 < (rFromL P s).length) : getI (rFromL P s) k < getI (rFromL P s) (k + 1) := by
  have hp : (rFromL P s).Pairwise (fun x y => x < y) := by
    unfold rFromL
    split
    · exact upList_lt _ _
    · exact List.Pairwise.nil
  have := List.pairwise_iff_getElem.1 hp k (k + 1) (by omega) hk (by omega)
  unfold getI
  rw [List.getD_eq_getElem?_getD, List.getElem?_eq_getElem (by omega), List.getD_eq_getElem?_getD, List.getElem?_eq_getElem hk]
  exact this
theorem is_one (P : Nat → Int) (t : Int) (d : Int) (f : Nat → Int) (h : f 0 = t) : isAt P d f 1 = decide (0 < (rToL P t d).length) := by
  unfold isAt
  simp only [List.range_one, List.any_cons, List.any_nil, Bool.or_false, h]
  have := atk_nil P t d
  cases hl : rToL P t d with
  | nil => rw [(this.1 hl)]; rfl
  | cons a b =>
    cases ha : atkL P t d with
    | nil => rw [this.2 ha] at hl; cases hl
    | cons _ _ => simp
theorem chk_oth (P : Nat → Int) (d : Int) (hd : d = 0 ∨ d = 1) : chkB P (oth d) = isAt P d (getI (fnd P 6 (oth d) 64)) (fnd P 6 (oth d) 64).length := by
  have e : oth (oth d) = d := by rcases hd with rfl | rfl <;> rfl
  unfold chkB
  rw [oth_side, Bool.true_and, e]
theorem rFromL_len64 (P : Nat → Int) (s : Int) : (rFromL P s).length ≤ 64 := by
  unfold rFromL
  split
  · exact upList_len _ _
  · simp
theorem rToL_len64 (P : Nat → Int) (s d : Int) : (rToL P s d).length ≤ 64 := by
  unfold rToL
  split
  · exact upList_len _ _
  · simp
theorem Reads.cell {B : Nat} {w : World} {b off n : Nat} {f : Nat → Value} (h : Reads B w (some ⟨b, off, none⟩) n f) {i : Nat} (hi : i < n) : w.cell? ⟨b, off + i, none⟩ = some (f i) := by
  rcases h with h0 | ⟨b', off', h1, _, h3⟩
  · omega
  · have := Option.some.inj h1
    injection this with e1 e2
    subst e1 e2
    exact h3 i hi
theorem Reads.addr {B : Nat} {w : World} {p : Option Addr} {n : Nat} {f : Nat → Value} (h : Reads B w p n f) {i : Nat} (hi : i < n) : ∃ b o, p = some ⟨b, o, none⟩ := by
  rcases h with h0 | ⟨b, o, h1, _⟩
  · omega
  · exact ⟨b, o, h1⟩
end Go.Proofs.YtbnpphecknhpeaaDoor
