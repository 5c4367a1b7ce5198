/-
  Contracts of the document's side: Is.
-/
import Derived.Test.YthinkiljhkanhaaGreatDoorRu
namespace Go.Proofs.YthinkiljhkanhaaGreatDoor
open Go.RowKit Go.Sort
set_option linter.unusedSimpArgs false
set_option linter.unusedVariables false
set_option maxRecDepth 20000

theorem lm_len (P : Nat → Int) : (lmM P).length ≤ 17920 := by
  unfold lmM; split
  · exact legM_len P
  · simp
theorem lm_has (P : Nat → Int) (f t k : Int) : (posB P && legB P f t k) = (lmM P).contains (f, t, k) := by
  unfold lmM legB
  cases posB P
  · simp
  · rfl
set_option maxHeartbeats 8000000 in
set_option maxRecDepth 100000 in
theorem rIs10_any (P : Nat → Int) (f t k : Int) (w : World) :
    Calls Tryz.prog 21 #[.agg (pc P).toArray, .agg #[.int .i64 f, .int .i64 t, .int .i64 k]] w fun e w' => e = .returned (.bool (posB P && legB P f t k)) ∧ Below w.heap.size w w' := by
  obtain ⟨X, hX⟩ : ∃ X, X = (pc P).toArray := ⟨_, rfl⟩
  have HC := Lib.hid (MC.begin w P f t k X hX)
  have MM := Lib.hid (fun W => rMoves10_any P W)
  rw [← hX] at MM ⊢
  have HX := Lib.hid hX
  have hll := lm_len P
  have hvv := lm_has P f t k
  obtain ⟨L, hL⟩ : ∃ L, lmM P = L := ⟨_, rfl⟩
  rw [hL] at MM hll hvv
  rw [hvv, ← any_is]
  obtain ⟨n, hn⟩ : ∃ n, L.length = n := ⟨_, rfl⟩
  obtain ⟨F, hF⟩ : ∃ F, mF L = F := ⟨_, rfl⟩
  obtain ⟨T, hT⟩ : ∃ F, mT L = F := ⟨_, rfl⟩
  obtain ⟨K, hK⟩ : ∃ F, mK L = F := ⟨_, rfl⟩
  have HOWN := Lib.hid (fun (W : World) base v (h : W.ownsRow base 41 3 v L.length (mvals L)) => reads3_own h)
  rw [hn, hF, hT, hK] at HOWN
  rw [hn] at MM hll
  rw [hF, hT, hK, hn]
  clear hX hvv hL hn hF hT hK
  go_enter Tryz.func21, Tryz.ntmps21
  go_upto_region 1 with (fail)
  generalize (w.alloc (.cells X 29)).alloc (.cells #[.int .i64 f, .int .i64 t, .int .i64 k] 41) = W at *
  go_wp2_with (refine wpList_pos (by rfl) _ (by rfl) w.heap.size P X HX.out (by rfl) HC.out.p ?_)
  refine (MM.out _).mono ?_
  rintro e w1 ⟨v, rfl, hb, hown⟩
  obtain ⟨p, c, rfl, hr⟩ := HOWN.out _ _ _ hown
  replace HC := Lib.hid (HC.out.go hb)
  have HR := Lib.hid hr
  clear hb hown hr MM HOWN
  dsimp only
  refine list_go (by assumption) ?_
  go_wp2
  go_loopw [6] (fun v wr => ∃ j : Nat, j ≤ n ∧ v = .int .i64 (j : Int) ∧ (∀ i, i < j → isM F T K f t k i = false) ∧ MC w wr P f t k ∧ Below w1.heap.size w1 wr) (fun v _ => n - (intOf v).toNat)
  case atStart => exact ⟨0, Nat.zero_le _, rfl, fun i hi => by omega, HC.out, Below.refl _ _⟩
  case round =>
    clear HC
    obtain ⟨j, hj, rfl, h1, h2, h3⟩ := hrel
    have HN := Lib.hid h1
    have HC := Lib.hid h2
    have HB := Lib.hid h3
    clear h1 h2 h3
    by_cases hlt : j < n
    · have hrd := HR.out.below HB.out
      obtain ⟨pb, po, rfl⟩ := hrd.addr hlt
      obtain ⟨e0, e1, e2⟩ := hrd.cells hlt
      obtain ⟨m0, m1, m2, mf, mz⟩ := row3 HC.out.m
      have HI := Lib.hid (show isM F T K f t k j = (f == F j && t == T j && k == K j) from rfl)
      have HNX := Lib.hid (show isM F T K f t k j = false → ∀ i, i < j + 1 → isM F T K f t k i = false from fun h i hi => by
        rcases Nat.lt_or_ge i j with h1 | h1
        · exact HN.out i h1
        · obtain rfl : i = j := by omega
          exact h)
      generalize F j = fj at *
      generalize T j = tj at *
      generalize K j = kj at *
      have g0 := cell_regrown e0
      have g1 := cell_regrown e1
      have g2 := cell_regrown e2
      have k0 := cell_regrown m0
      have k1 := cell_regrown m1
      have k2 := cell_regrown m2
      have i0 : (0 : Int) ≤ (j : Int) := by omega
      have hlti : (j : Int) < (n : Int) := by omega
      clear e0 e1 e2 hrd m0 m1 m2 mf mz
      by_cases h1 : f = fj
      · subst h1
        by_cases h2 : t = tj
        · subst h2
          by_cases h3 : k = kj
          · subst h3
            go_upto_region 5 with (fail)
            refine wp_region_quiet_below (by kernel_rfl) (by kernel_rfl) ?_
            repeat (go_big_quiet_step (fail))
            refine wpQuiet_nil ?_
            rintro W9 ⟨pq, rfl⟩
            have hb9 := below_regrown wr pq.d pq.os
            replace HC := Lib.hid (HC.out.go hb9)
            replace HB := Lib.hid (HB.out.trans (hb9.mono HB.out.size))
            clear hb9 g0 g1 g2 k0 k1 k2
            generalize grow (redrawn wr pq.d) pq.os = W9 at HC HB ⊢
            go_wp2
            go_ret
            exact ⟨q_b (by unfold anyM; exact (List.any_eq_true.2 ⟨j, List.mem_range.2 hlt, by rw [HI.out]; simp⟩).symm), HC.out.b⟩
          · have HE := Lib.hid (show (k == kj) = false by simp [h3])
            have he : (kj == k) = false := by simp; omega
            clear h3
            go_upto_region 5 with (fail)
            refine wp_region_quiet_below (by kernel_rfl) (by kernel_rfl) ?_
            repeat (go_big_quiet_step (fail))
            refine wpQuiet_nil ?_
            rintro W9 ⟨pq, rfl⟩
            have hb9 := below_regrown wr pq.d pq.os
            replace HC := Lib.hid (HC.out.go hb9)
            replace HB := Lib.hid (HB.out.trans (hb9.mono HB.out.size))
            clear hb9 g0 g1 g2 k0 k1 k2
            generalize grow (redrawn wr pq.d) pq.os = W9 at HC HB ⊢
            go_wp2
            go_roundw
            case rel => exact ⟨j + 1, by omega, by go_num, HNX.out (by rw [HI.out]; simp [HE.out]), HC.out, HB.out⟩
            case measure => simp [intOf]; omega
        · have HE := Lib.hid (show (t == tj) = false by simp [h2])
          have he : (tj == t) = false := by simp; omega
          clear h2
          go_upto_region 5 with (fail)
          refine wp_region_quiet_below (by kernel_rfl) (by kernel_rfl) ?_
          repeat (go_big_quiet_step (fail))
          refine wpQuiet_nil ?_
          rintro W9 ⟨pq, rfl⟩
          have hb9 := below_regrown wr pq.d pq.os
          replace HC := Lib.hid (HC.out.go hb9)
          replace HB := Lib.hid (HB.out.trans (hb9.mono HB.out.size))
          clear hb9 g0 g1 g2 k0 k1 k2
          generalize grow (redrawn wr pq.d) pq.os = W9 at HC HB ⊢
          go_wp2
          go_roundw
          case rel => exact ⟨j + 1, by omega, by go_num, HNX.out (by rw [HI.out]; simp [HE.out]), HC.out, HB.out⟩
          case measure => simp [intOf]; omega
      · have HE := Lib.hid (show (f == fj) = false by simp [h1])
        have he : (fj == f) = false := by simp; omega
        clear h1
        go_upto_region 5 with (fail)
        refine wp_region_quiet_below (by kernel_rfl) (by kernel_rfl) ?_
        repeat (go_big_quiet_step (fail))
        refine wpQuiet_nil ?_
        rintro W9 ⟨pq, rfl⟩
        have hb9 := below_regrown wr pq.d pq.os
        replace HC := Lib.hid (HC.out.go hb9)
        replace HB := Lib.hid (HB.out.trans (hb9.mono HB.out.size))
        clear hb9 g0 g1 g2 k0 k1 k2
        generalize grow (redrawn wr pq.d) pq.os = W9 at HC HB ⊢
        go_wp2
        go_roundw
        case rel => exact ⟨j + 1, by omega, by go_num, HNX.out (by rw [HI.out]; simp [HE.out]), HC.out, HB.out⟩
        case measure => simp [intOf]; omega
    · obtain rfl : j = n := by omega
      go_wp2
      go_ret
      exact ⟨q_b (by
        unfold anyM
        symm
        rw [List.any_eq_false]
        intro i hi
        rw [HN.out i (by simpa using hi)]; simp), HC.out.b⟩
end Go.Proofs.YthinkiljhkanhaaGreatDoor
