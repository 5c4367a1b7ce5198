/-
  Contracts: the document's answers on squares; Pick.
-/
import Derived.Test.YtaiihdkcpbkmaaaSqB
import Derived.Test.YtaiihdkcpbkmaaaBits
import Derived.Deep.RegionLaw
import Derived.Deep.AppendLies
import Derived.OwnWalk
namespace Go.Proofs.Ytaiihdkcpbkmaaa
open Go.RowKit
set_option linter.unusedSimpArgs false
set_option linter.unusedVariables false

theorem rIs_any (s : Int) (w : World) :
    Calls Try.prog 11 #[.int .i64 s] w fun e w' => e = .returned (.bool (sq s)) ∧ w = w' := by
  rcases sq_cases s with ⟨h1, hb⟩ | ⟨h1, hb⟩ | ⟨h1, h2, hb⟩
  all_goals rw [hb]
  all_goals clear hb
  all_goals
    go_enter Try.func11, Try.ntmps11
    go_wp2
    go_ret
    exact ⟨q_b (by first | rfl | (simp; omega)), rfl⟩
set_option maxHeartbeats 1000000 in
theorem rAt_any (f r : Int) (w : World) (hf : I64 f) (hr : I64 r) :
    Calls Try.prog 13 #[.int .i64 f, .int .i64 r] w fun e w' => e = .returned (.int .i64 (sAt f r)) ∧ w = w' := by
  have hc := onB_cases f r
  obtain ⟨A, hA⟩ : ∃ A, sAt f r = A := ⟨_, rfl⟩
  have hA2 : A = if onB f r then 8 * r + f else -1 := by rw [← hA]; rfl
  rw [hA]
  clear hA
  have HA := Lib.hid hA2
  clear hA2
  rcases hc with ⟨h1, hb⟩ | ⟨h1, hb⟩ | ⟨h1, h2, ⟨h3, hb⟩ | ⟨h3, hb⟩ | ⟨h3, h4, hb⟩⟩
  all_goals have HB := Lib.hid hb
  all_goals clear hb
  all_goals
    go_enter Try.func13, Try.ntmps13
    go_wp2
    go_ret
    exact ⟨q_i (by rw [HA.out, HB.out]; first | rfl | (simp; done) | (simp; omega)), rfl⟩
theorem tm8 {s : Int} (h : 0 ≤ s) : s.tmod 8 = s % 8 := Int.tmod_eq_emod_of_nonneg h
theorem td8 {s : Int} (h : 0 ≤ s) : s.tdiv 8 = s / 8 := Int.tdiv_eq_ediv_of_nonneg h
theorem rFile_any (s : Int) (w : World) :
    Calls Try.prog 15 #[.int .i64 s] w fun e w' => e = .returned (.int .i64 (sF s)) ∧ w = w' := by
  unfold sF
  cases hs : sq s
  · simp only [Bool.false_eq_true, if_false]
    have HS := Lib.hid hs
    clear hs
    go_enter Try.func15, Try.ntmps15
    go_wp2_with fail
    refine (rIs_any s _).mono ?_
    rw [HS.out]
    rintro e w1 ⟨rfl, rfl⟩
    go_wp2
    go_ret
    exact ⟨rfl, rfl⟩
  · obtain ⟨h0, h1⟩ := (sq_iff s).1 hs
    simp only [if_true]
    have HS := Lib.hid hs
    clear hs
    have h2 := tm8 h0
    go_enter Try.func15, Try.ntmps15
    go_wp2_with fail
    refine (rIs_any s _).mono ?_
    rw [HS.out]
    rintro e w1 ⟨rfl, rfl⟩
    go_wp2
    go_ret
    exact ⟨q_i (by first | rfl | exact h2), rfl⟩
theorem rRank_any (s : Int) (w : World) :
    Calls Try.prog 17 #[.int .i64 s] w fun e w' => e = .returned (.int .i64 (sR s)) ∧ w = w' := by
  unfold sR
  cases hs : sq s
  · simp only [Bool.false_eq_true, if_false]
    have HS := Lib.hid hs
    clear hs
    go_enter Try.func17, Try.ntmps17
    go_wp2_with fail
    refine (rIs_any s _).mono ?_
    rw [HS.out]
    rintro e w1 ⟨rfl, rfl⟩
    go_wp2
    go_ret
    exact ⟨rfl, rfl⟩
  · obtain ⟨h0, h1⟩ := (sq_iff s).1 hs
    simp only [if_true]
    have HS := Lib.hid hs
    clear hs
    have h2 := td8 h0
    go_enter Try.func17, Try.ntmps17
    go_wp2_with fail
    refine (rIs_any s _).mono ?_
    rw [HS.out]
    rintro e w1 ⟨rfl, rfl⟩
    go_wp2
    go_ret
    exact ⟨q_i (by first | rfl | exact h2), rfl⟩
theorem rDark_any (s : Int) (w : World) :
    Calls Try.prog 19 #[.int .i64 s] w fun e w' => e = .returned (.bool (dark s)) ∧ w = w' := by
  cases hs : sq s
  · have hd : dark s = false := by unfold dark; rw [hs]; rfl
    rw [hd]
    have HS := Lib.hid hs
    clear hs hd
    go_enter Try.func19, Try.ntmps19
    go_wp2_with fail
    refine (rIs_any s _).mono ?_
    rw [HS.out]
    rintro e w1 ⟨rfl, rfl⟩
    go_wp2
    go_ret
    exact ⟨rfl, rfl⟩
  · obtain ⟨h0, h1⟩ := (sq_iff s).1 hs
    have hd : dark s = decide ((s % 8 + s / 8) % 2 = 0) := by unfold dark; rw [hs]; rfl
    rw [hd]
    have HS := Lib.hid hs
    clear hs hd
    have h2 := td8 h0
    have h3 := tm8 h0
    have h4 : (s % 8 + s / 8).tmod 2 = (s % 8 + s / 8) % 2 := Int.tmod_eq_emod_of_nonneg (by omega)
    go_enter Try.func19, Try.ntmps19
    go_wp2_with fail
    refine (rIs_any s _).mono ?_
    rw [HS.out]
    rintro e w1 ⟨rfl, rfl⟩
    go_wp2
    go_ret
    exact ⟨q_b (by first | rfl | (simp [h2, h3, h4]; rfl)), rfl⟩
theorem tmod_64 (a : Int) : a % 64 = if a.tmod 64 < 0 then a.tmod 64 + 64 else a.tmod 64 := by
  rcases Int.lt_or_le a 0 with h | h
  · have e : a.tmod 64 = -((-a) % 64) := by
      rw [← Int.tmod_eq_emod_of_nonneg (show 0 ≤ -a by omega), Int.neg_tmod, Int.neg_neg]
    rw [e]
    split <;> omega
  · rw [Int.tmod_eq_emod_of_nonneg h]
    split <;> omega
theorem pick64_any (a : Int) (w : World) :
    Calls Try.prog 29 #[.int .i64 a, .int .i64 64] w fun e w' => e = .returned (.int .i64 (a % 64)) ∧ w = w' := by
  have h1 := Int.tmod_lt_of_pos a (b := 64) (by omega)
  have h2 := Int.lt_tmod_of_pos a (b := 64) (by omega)
  have hm := tmod_64 a
  by_cases h0 : a.tmod 64 < 0
  · rw [if_pos h0] at hm
    rw [hm]
    clear hm
    have s1 : IntKind.i64.wrap (a.tmod 64 + 64) = a.tmod 64 + 64 := IntWalk.i64_in _ (by omega)
    go_enter Try.func29, Try.ntmps29
    go_wp2
    go_ret
    exact ⟨rfl, rfl⟩
  · rw [if_neg h0] at hm
    rw [hm]
    clear hm
    go_enter Try.func29, Try.ntmps29
    go_wp2
    go_ret
    exact ⟨rfl, rfl⟩
theorem tmod_15 (a : Int) : a % 15 = if a.tmod 15 < 0 then a.tmod 15 + 15 else a.tmod 15 := by
  rcases Int.lt_or_le a 0 with h | h
  · have e : a.tmod 15 = -((-a) % 15) := by
      rw [← Int.tmod_eq_emod_of_nonneg (show 0 ≤ -a by omega), Int.neg_tmod, Int.neg_neg]
    rw [e]
    split <;> omega
  · rw [Int.tmod_eq_emod_of_nonneg h]
    split <;> omega
theorem pick15_any (a : Int) (w : World) :
    Calls Try.prog 29 #[.int .i64 a, .int .i64 15] w fun e w' => e = .returned (.int .i64 (a % 15)) ∧ w = w' := by
  have h1 := Int.tmod_lt_of_pos a (b := 15) (by omega)
  have h2 := Int.lt_tmod_of_pos a (b := 15) (by omega)
  have hm := tmod_15 a
  by_cases h0 : a.tmod 15 < 0
  · rw [if_pos h0] at hm
    rw [hm]
    clear hm
    have s1 : IntKind.i64.wrap (a.tmod 15 + 15) = a.tmod 15 + 15 := IntWalk.i64_in _ (by omega)
    go_enter Try.func29, Try.ntmps29
    go_wp2
    go_ret
    exact ⟨rfl, rfl⟩
  · rw [if_neg h0] at hm
    rw [hm]
    clear hm
    go_enter Try.func29, Try.ntmps29
    go_wp2
    go_ret
    exact ⟨rfl, rfl⟩

/-- what a value that owns a row reads as -/
theorem sq_reads {w : World} {base : Nat} {e : TypeId} {v : Value} {n : Nat} {f : Nat → Value} (h : w.ownsRow base e 1 v n ((List.range n).map f)) :
    ∃ p c, v = .slice p n c ∧ Reads w.heap.size w p n f ∧ n ≤ c ∧ c ≤ maxLen := by
  rcases h.2 with ⟨rfl, rfl⟩ | ⟨g, cap, cur, rfl, h1, h2, h3, h4, h5, h6⟩
  · exact ⟨none, 0, rfl, .inl rfl, Nat.le_refl _, by unfold maxLen; omega⟩
  · refine ⟨_, cap, rfl, .inr ⟨g, 0, rfl, ?_, fun i hi => ?_⟩, h3, h4⟩
    · rcases Nat.lt_or_ge g w.heap.size with h | h
      · exact h
      · rw [Array.getElem?_eq_none h] at h2; cases h2
    · rw [Nat.zero_add, h.cellAt i (by omega)]
      simp [hi]
/-- two like rows of numbers are compared -/
theorem sameInts_any (B : Nat) (p q : Option Addr) (n c d : Nat) (f : Nat → Int) (w : World) (hn : n ≤ 9223372036854775807)
    (hp : Reads B w p n (fun i => .int .i64 (f i))) (hq : Reads B w q n (fun i => .int .i64 (f i))) :
    Calls Try.prog 24 #[.slice p n c, .slice q n d] w fun e w' => e = .returned (.bool true) ∧ Below w.heap.size w w' := by
  go_enter Try.func24, Try.ntmps24
  go_wp2
  go_loopw [5] (fun i wr => ∃ k : Nat, k ≤ n ∧ i = .int .i64 k ∧ Below w.heap.size w wr ∧ Below B w wr) (fun i _ => n - (intOf i).toNat)
  case atStart => exact ⟨0, Nat.zero_le _, rfl, Below.refl _ _, Below.refl _ _⟩
  case round =>
    obtain ⟨k, hk, rfl, hb, hb2⟩ := hrel
    by_cases hlt : k < n
    · rcases hp.below hb2 with h0 | ⟨b, off, rfl, hb', hc⟩
      · omega
      rcases hq.below hb2 with h0 | ⟨b2, off2, rfl, hb2', hc2⟩
      · omega
      have hcell := hc k hlt
      have hcell2 := hc2 k hlt
      clear hc hc2 hp hq
      go_wp2
      go_region
      go_wp2
      go_roundw
      case rel => exact ⟨k + 1, by omega, by go_num, hb.drew, hb2.drew⟩
      case measure => simp [intOf]; omega
    · obtain rfl : k = n := by omega
      go_wp2
      go_ret
      exact ⟨rfl, hb⟩
theorem stp_hit {s a b t : Int} (hs : sq s = true) (h0 : 0 ≤ t) (h1 : t < 64) (ha : t % 8 - s % 8 = a) (hb : t / 8 - s / 8 = b) : stp s a b = t := by
  obtain ⟨s0, s1⟩ := (sq_iff s).1 hs
  unfold stp
  rw [if_pos (by rw [hs, Bool.true_and]; exact (onB_iff _ _).2 (by omega))]
  omega
theorem stp_miss {s a b : Int} (h : ∀ t : Nat, t < 64 → ¬ ((t : Int) % 8 - s % 8 = a ∧ (t : Int) / 8 - s / 8 = b)) : stp s a b = -1 := by
  unfold stp
  split
  · rename_i hc
    rw [Bool.and_eq_true] at hc
    obtain ⟨s0, s1⟩ := (sq_iff s).1 hc.1
    obtain ⟨u0, u1, u2, u3⟩ := (onB_iff _ _).1 hc.2
    exact absurd ⟨by omega, by omega⟩ (h (s + a + 8 * b).toNat (by omega))
  · rfl
set_option maxHeartbeats 2000000 in
theorem rStep_any (s a b : Int) (w : World) (ha : I64 a) (hb : I64 b) :
    Calls Try.prog 23 #[.int .i64 s, .int .i64 a, .int .i64 b] w fun e w' => e = .returned (.int .i64 (stp s a b)) ∧ Below w.heap.size w w' := by
  cases hs : sq s
  · rw [stp_off hs]
    have HS := Lib.hid hs
    clear hs
    go_enter Try.func23, Try.ntmps23
    go_wp2
    go_loopw [7] (fun i wr => i = .int .i64 0 ∧ wr = w) (fun i _ => 0)
    case atStart => exact ⟨rfl, rfl⟩
    case round =>
      obtain ⟨rfl, rfl⟩ := hrel
      go_wp2_with fail
      refine (rIs_any s _).mono ?_
      rw [HS.out]
      rintro e w1 ⟨rfl, rfl⟩
      go_wp2
      go_ret
      exact ⟨rfl, Below.refl _ _⟩
  · obtain ⟨s0, s1⟩ := (sq_iff s).1 hs
    obtain ⟨x, hx⟩ : ∃ x, stp s a b = x := ⟨_, rfl⟩
    have hhit : ∀ t : Nat, t < 64 → (t : Int) % 8 - s % 8 = a → (t : Int) / 8 - s / 8 = b → x = (t : Int) := fun t ht h1 h2 => by rw [← hx]; exact stp_hit hs (by omega) (by omega) h1 h2
    have hmiss : (∀ t : Nat, t < 64 → ¬ ((t : Int) % 8 - s % 8 = a ∧ (t : Int) / 8 - s / 8 = b)) → x = -1 := fun h => by rw [← hx]; exact stp_miss h
    rw [hx]
    clear hx
    have h2 := tm8 s0
    have h3 := td8 s0
    have HS := Lib.hid hs
    have HH := Lib.hid hhit
    have HM := Lib.hid hmiss
    clear hs hhit hmiss
    go_enter Try.func23, Try.ntmps23
    go_wp2
    go_loopw [7] (fun i wr => ∃ k : Nat, k ≤ 64 ∧ i = .int .i64 k ∧ wr = w ∧ ∀ t : Nat, t < k → ¬ ((t : Int) % 8 - s % 8 = a ∧ (t : Int) / 8 - s / 8 = b)) (fun i _ => 64 - (intOf i).toNat)
    case atStart => exact ⟨0, by omega, rfl, rfl, fun t ht => by omega⟩
    case round =>
      obtain ⟨k, hk, rfl, rfl, hno⟩ := hrel
      have HN := Lib.hid hno
      clear hno
      by_cases hlt : k < 64
      · have h4 := tm8 (s := (k : Int)) (by omega)
        have h5 := td8 (s := (k : Int)) (by omega)
        by_cases c1 : (k : Int) % 8 - s % 8 = a
        · have C1 := Lib.hid c1
          have d1 : ((k : Int) % 8 - s % 8 == a) = true := by simp [c1]
          clear c1
          by_cases c2 : (k : Int) / 8 - s / 8 = b
          · have C2 := Lib.hid c2
            have d2 : ((k : Int) / 8 - s / 8 == b) = true := by simp [c2]
            clear c2
            go_wp2_with fail
            refine (rIs_any s _).mono ?_
            rw [HS.out]
            rintro e w1 ⟨rfl, rfl⟩
            go_wp2
            go_ret
            exact ⟨q_i (HH.out k hlt C1.out C2.out).symm, Below.refl _ _⟩
          · have C2 := Lib.hid c2
            have d2 : ((k : Int) / 8 - s / 8 == b) = false := by simp [c2]
            clear c2
            go_wp2_with fail
            refine (rIs_any s _).mono ?_
            rw [HS.out]
            rintro e w1 ⟨rfl, rfl⟩
            go_wp2
            go_roundw
            case rel =>
              exact ⟨k + 1, by omega, by go_num, (by first | rfl | trivial), fun t ht => by
                rcases Nat.lt_or_ge t k with h | h
                · exact HN.out t h
                · obtain rfl : t = k := by omega
                  exact fun hh => C2.out hh.2⟩
            case measure => simp [intOf]; omega
        · have C1 := Lib.hid c1
          have d1 : ((k : Int) % 8 - s % 8 == a) = false := by simp [c1]
          clear c1
          go_wp2_with fail
          refine (rIs_any s _).mono ?_
          rw [HS.out]
          rintro e w1 ⟨rfl, rfl⟩
          go_wp2
          go_roundw
          case rel =>
            exact ⟨k + 1, by omega, by go_num, (by first | rfl | trivial), fun t ht => by
              rcases Nat.lt_or_ge t k with h | h
              · exact HN.out t h
              · obtain rfl : t = k := by omega
                exact fun hh => C1.out hh.1⟩
          case measure => simp [intOf]; omega
      · obtain rfl : k = 64 := by omega
        have HX := Lib.hid (HM.out HN.out)
        go_wp2
        go_ret
        exact ⟨q_i HX.out.symm, Below.refl _ _⟩
end Go.Proofs.Ytaiihdkcpbkmaaa
