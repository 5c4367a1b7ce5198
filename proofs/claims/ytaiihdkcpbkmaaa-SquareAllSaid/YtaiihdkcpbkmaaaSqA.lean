/-
  Contracts: what package square exports, but for rows of squares.
-/
import Derived.Test.YtaiihdkcpbkmaaaSq
import Derived.Deep.Cut
import Derived.Deep.CutRange
import Derived.Deep.RegionWith
namespace Go.Proofs.Ytaiihdkcpbkmaaa
open Go.RowKit
set_option linter.unusedSimpArgs false
set_option linter.unusedVariables false

theorem size_place (w : World) : (sizeOf 43).run Try.prog w = .ok 2 w := by
  obtain ⟨i, hi, hz⟩ : ∃ i, Try.prog.info? 43 = some i ∧ i.size = 2 := by
    have h := infoPlace
    cases hi : Try.prog.info? 43 with
    | none => rw [hi] at h; cases h
    | some i => rw [hi] at h; exact ⟨i, rfl, Option.some.inj h⟩
  simp [sizeOf, typeInfo, hi, hz]
theorem field_place (x y z : Int) (w : World) : (Instr.field 45 (.agg #[.int .i64 x, .int .i64 y, .int .i64 z]) 0).run Try.prog w = .ok (.agg #[.int .i64 x, .int .i64 y]) w := by
  simp [Instr.field, asAgg, part, isAgg, run_underlying Try.underlying45, run_underlying Try.underlying43, size_place]
theorem field_number (x y z : Int) (w : World) : (Instr.field 45 (.agg #[.int .i64 x, .int .i64 y, .int .i64 z]) 1).run Try.prog w = .ok (.int .i64 z) w := by
  simp [Instr.field, asAgg, part, isAgg, run_underlying Try.underlying45, run_underlying Try.underlying3]
theorem field_file (x y : Int) (w : World) : (Instr.field 43 (.agg #[.int .i64 x, .int .i64 y]) 0).run Try.prog w = .ok (.int .i64 x) w := by
  simp [Instr.field, asAgg, part, isAgg, run_underlying Try.underlying43, run_underlying Try.underlying3]
theorem field_rank (x y : Int) (w : World) : (Instr.field 43 (.agg #[.int .i64 x, .int .i64 y]) 1).run Try.prog w = .ok (.int .i64 y) w := by
  simp [Instr.field, asAgg, part, isAgg, run_underlying Try.underlying43, run_underlying Try.underlying3]
attribute [go_sem] field_place field_number field_file field_rank

theorem is_any (s : Int) (w : World) :
    Calls Try.prog 10 #[.int .i64 s] w fun e w' => e = .returned (.bool (sq s)) ∧ Below w.heap.size w w' := by
  go_enter Try.func10, Try.ntmps10
  go_wp2_with fail
  refine (spotOf_any s _).mono ?_
  rintro e w1 ⟨rfl, hb1⟩
  go_wp2_with fail
  refine (onBsq_any s _).mono ?_
  rintro e w2 ⟨rfl, hb2⟩
  go_wp2
  go_ret
  exact ⟨rfl, hb1.trans (hb2.mono hb1.size)⟩
theorem at_any (f r : Int) (w : World) :
    Calls Try.prog 12 #[.int .i64 f, .int .i64 r] w fun e w' => e = .returned (.int .i64 (sAt f r)) ∧ Below w.heap.size w w' := by
  have hN : sN (sAt f r) = sAt f r := by
    rcases sAt_cases f r with ⟨_, e⟩ | ⟨h0, h1, h2, h3, _, e⟩
    · rw [e]; rfl
    · rw [e]; exact sN_at h0 h1 h2 h3
  have HN := Lib.hid hN
  clear hN
  go_enter Try.func12, Try.ntmps12
  go_wp2_with fail
  refine (spotAt_any f r _).mono ?_
  rw [HN.out]
  rintro e w1 ⟨rfl, hb1⟩
  go_wp2
  go_ret
  exact ⟨rfl, hb1⟩
theorem file_any (s : Int) (w : World) :
    Calls Try.prog 14 #[.int .i64 s] w fun e w' => e = .returned (.int .i64 (sF s)) ∧ Below w.heap.size w w' := by
  go_enter Try.func14, Try.ntmps14
  go_wp2_with fail
  refine (spotOf_any s _).mono ?_
  rintro e w1 ⟨rfl, hb1⟩
  go_wp2
  go_ret
  exact ⟨rfl, hb1⟩
theorem rank_any (s : Int) (w : World) :
    Calls Try.prog 16 #[.int .i64 s] w fun e w' => e = .returned (.int .i64 (sR s)) ∧ Below w.heap.size w w' := by
  go_enter Try.func16, Try.ntmps16
  go_wp2_with fail
  refine (spotOf_any s _).mono ?_
  rintro e w1 ⟨rfl, hb1⟩
  go_wp2
  go_ret
  exact ⟨rfl, hb1⟩
theorem stp_sN {s : Int} (a b : Int) : sN (stp s a b) = stp s a b := by
  cases h : (sq s && onB (s % 8 + a) (s / 8 + b))
  · unfold stp; rw [h]; rfl
  · rw [Bool.and_eq_true] at h
    obtain ⟨u0, u1, u2, u3⟩ := (onB_iff _ _).1 h.2
    obtain ⟨v0, v1⟩ := (sq_iff _).1 h.1
    unfold stp
    rw [h.1, h.2]
    simp only [Bool.and_self, if_true]
    unfold sN
    rw [if_pos ((sq_iff _).2 (by omega))]
theorem step_any (s a b : Int) (w : World) (ha : I64 a) (hb : I64 b) :
    Calls Try.prog 22 #[.int .i64 s, .int .i64 a, .int .i64 b] w fun e w' => e = .returned (.int .i64 (stp s a b)) ∧ Below w.heap.size w w' := by
  have HN := Lib.hid (stp_sN (s := s) a b)
  go_enter Try.func22, Try.ntmps22
  go_wp2_with fail
  refine (spotOf_any s _).mono ?_
  rintro e w1 ⟨rfl, hb1⟩
  go_wp2_with fail
  refine (next_any s a b _ ha hb).mono ?_
  rw [HN.out]
  rintro e w2 ⟨rfl, hb2⟩
  go_wp2
  go_ret
  exact ⟨rfl, hb1.trans (hb2.mono hb1.size)⟩
set_option maxHeartbeats 1000000 in
theorem darkSq_any (s : Int) (w : World) :
    Calls Try.prog 18 #[.int .i64 s] w fun e w' => e = .returned (.bool (dark s)) ∧ Below w.heap.size w w' := by
  cases hs : sq s
  · have hd : dark s = false := by unfold dark; rw [hs]; rfl
    rw [hd]
    have HS := Lib.hid hs
    clear hs hd
    go_enter Try.func18, Try.ntmps18
    go_wp2_with fail
    refine (spotOf_any s _).mono ?_
    rintro e w1 ⟨rfl, hb1⟩
    go_wp2_with fail
    refine (onBsq_any s _).mono ?_
    rw [HS.out]
    rintro e w2 ⟨rfl, hb2⟩
    go_wp2
    go_ret
    exact ⟨rfl, hb1.trans (((below_new _).trans (hb2.mono (by simp))).mono hb1.size)⟩
  · obtain ⟨h0, h1⟩ := (sq_iff s).1 hs
    have hF : sF s = s % 8 := by unfold sF; rw [if_pos hs]
    have hR : sR s = s / 8 := by unfold sR; rw [if_pos hs]
    have hd : dark s = decide ((sF s + sR s) % 2 = 0) := by unfold dark; rw [hs, hF, hR]; rfl
    have hF2 : 0 ≤ sF s ∧ sF s < 8 := by rw [hF]; omega
    have hR2 : 0 ≤ sR s ∧ sR s < 8 := by rw [hR]; omega
    rw [hd]
    obtain ⟨d, hdd⟩ : ∃ d, decide ((sF s + sR s) % 2 = 0) = d := ⟨_, rfl⟩
    rw [hdd]
    have HD := Lib.hid hdd
    have HS := Lib.hid hs
    clear hs hd hdd hF hR h0 h1
    go_enter Try.func18, Try.ntmps18
    go_wp2_with fail
    refine (spotOf_any s _).mono ?_
    rintro e w1 ⟨rfl, hb1⟩
    have l1 : (w1.alloc (.cells #[.int .i64 (sF s), .int .i64 (sR s), .int .i64 (sN s)] 45)).heap[w1.heap.size]? = some (.cells #[.int .i64 (sF s), .int .i64 (sR s), .int .i64 (sN s)] 45 (0, 0)) := sl_at rfl
    go_wp2_with fail
    refine (onBsq_any s _).mono ?_
    rw [HS.out]
    rintro e w2 ⟨rfl, hb2⟩
    obtain ⟨p0, p1, p2, _, pz⟩ := row3 (sl_go l1 hb2)
    go_wp2_with fail
    refine (dark_any (sF s) (sR s) _ hF2.1 hF2.2 hR2.1 hR2.2).mono ?_
    rw [HD.out]
    rintro e w3 ⟨rfl, hb3⟩
    go_wp2
    go_ret
    exact ⟨rfl, hb1.trans ((((below_new _).trans (hb2.mono (by simp))).trans (hb3.mono (by omega))).mono hb1.size)⟩
end Go.Proofs.Ytaiihdkcpbkmaaa
