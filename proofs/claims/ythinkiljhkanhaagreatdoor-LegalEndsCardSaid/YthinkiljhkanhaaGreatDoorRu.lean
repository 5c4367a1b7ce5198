/-
  Contracts of the document's side: Moves, Is.
-/
import Derived.Test.YthinkiljhkanhaaGreatDoorRt
import Derived.Test.YthinkiljhkanhaaGreatDoorRs
import Derived.Test.YthinkiljhkanhaaGreatDoorG20
namespace Go.Proofs.YthinkiljhkanhaaGreatDoor
open Go.RowKit Go.Sort
set_option linter.unusedSimpArgs false
set_option linter.unusedVariables false
set_option maxRecDepth 20000

set_option maxHeartbeats 8000000 in
set_option maxRecDepth 100000 in
theorem rMoves10_any (P : Nat → Int) (w : World) :
    Calls Tryz.prog 19 #[.agg (pc P).toArray] w fun e w' => ∃ v, e = .returned v ∧ Below w.heap.size w w' ∧ w'.ownsRow w.heap.size 41 3 v (lmM P).length (mvals (lmM P)) := by
  obtain ⟨i1, hi1, hk⟩ := infoMv9
  simp only [Prod.mk.injEq] at hk
  obtain ⟨hk0, hk1, hk2⟩ := hk
  obtain ⟨X, hX⟩ : ∃ X, X = (pc P).toArray := ⟨_, rfl⟩
  have MP := Lib.hid (fun W => rPosition_any P W)
  have MA := Lib.hid (fun W => rAll9_any P W)
  have MF := Lib.hid (fun s n k hs hn W => rFine_any P s n k hs hn W)
  rw [← hX] at MP MA MF ⊢
  have HX := Lib.hid hX
  have HP := Lib.hid (pos_box P w X hX 29)
  have HB := Lib.hid (below_new (w := w) (.cells X 29))
  obtain ⟨ps, hps⟩ : ∃ x, posB P = x := ⟨_, rfl⟩
  rw [hps] at MP
  have HL := Lib.hid (show lmM P = if ps then legM P else [] by unfold lmM; rw [hps])
  have HRT := Lib.hid (show ps = true → rightB P = true from fun h => (pos_parts P (by rw [hps, h])).1)
  have HSTEP := Lib.hid (legU_step P)
  have HFULL := Lib.hid (legU_full P)
  have HMEM := Lib.hid (allM_mem P)
  clear hX hps
  go_enter Tryz.func19, Tryz.ntmps19
  go_upto_region 1 with (fail)
  generalize w.alloc (.cells X 29) = W at *
  go_wp2_with (refine wpList_pos (by rfl) _ (by rfl) w.heap.size P X HX.out (by rfl) HP.out ?_)
  refine (MP.out _).mono ?_
  rintro e w1 ⟨rfl, hb⟩
  replace HP := Lib.hid (HP.out.go hb)
  replace HB := Lib.hid (HB.out.trans (hb.mono HB.out.size))
  clear hb MP
  dsimp only
  refine list_go (by assumption) ?_
  cases ps
  · have HL2 := Lib.hid (show lmM P = [] from HL.out)
    clear HL HRT HSTEP HFULL HMEM MA MF
    go_wp2
    go_ret
    exact ⟨.slice none 0 0, rfl, HB.out, by rw [HL2.out]; exact World.ownsRow_nil _ _ _ _⟩
  · have HL2 := Lib.hid (show lmM P = legM P from HL.out)
    have HRR := Lib.hid (HRT.out rfl)
    clear HL HRT
    go_wp2_with (refine wpList_pos (by rfl) _ (by rfl) w.heap.size P X HX.out (by rfl) HP.out ?_)
    refine (MA.out _).mono ?_
    rintro e w2 ⟨v, rfl, hb, hown⟩
    obtain ⟨p, c, rfl, hr⟩ := reads3_own hown
    replace HP := Lib.hid (HP.out.go hb)
    replace HB := Lib.hid (HB.out.trans (hb.mono HB.out.size))
    have hnb := allM_len P
    obtain ⟨n, hn⟩ : ∃ n, (allM P).length = n := ⟨_, rfl⟩
    rw [hn] at hr hnb ⊢
    have HN := Lib.hid hn
    have HR := Lib.hid hr
    clear hb MA hown hr hn
    dsimp only
    refine list_go (by assumption) ?_
    go_wp2
    go_loopw [3, 5] (fun ov iv wr => ∃ m : Nat, m ≤ n ∧ iv = .int .i64 (m : Int) ∧ Below w2.heap.size w2 wr ∧ wr.ownsRow w2.heap.size 41 3 ov (legU P m).length (mvals (legU P m))) (fun _ iv _ => n - (intOf iv).toNat)
    case atStart => exact ⟨0, Nat.zero_le _, rfl, Below.refl _ _, World.ownsRow_nil _ _ _ _⟩
    case round =>
      obtain ⟨m, hm, rfl, hb, hown⟩ := hrel
      have HB1 := Lib.hid hb
      have HOW := Lib.hid hown
      clear hb hown
      by_cases hlt : m < n
      · obtain ⟨s, t, k, hs, ht, q1, q2, q3, hstep, _⟩ := HSTEP.out m (by rw [HN.out]; exact hlt)
        have hf := MF.out s t k hs ht
        have how : ownB P s = true := by
          have hmem : (allM P)[m]'(by rw [HN.out]; exact hlt) ∈ allM P := List.getElem_mem _
          obtain ⟨s', n', hv⟩ := HMEM.out _ hmem
          have hg : (allM P).getD m (0, 0, 0) = (allM P)[m]'(by rw [HN.out]; exact hlt) := by rw [List.getD_eq_getElem?_getD, List.getElem?_eq_getElem (by rw [HN.out]; exact hlt)]; rfl
          have h1 : mF (allM P) m = (s' : Int) := by unfold mF; rw [hg, hv.f]
          rw [q1] at h1
          obtain rfl : s = s' := by omega
          exact hv.o
        rw [fine_ok P HRR.out s t k hs how] at hf
        have hrd := HR.out.below HB1.out
        obtain ⟨pb, po, rfl⟩ := hrd.addr hlt
        obtain ⟨e0, e1, e2⟩ := hrd.cells hlt
        rw [q1] at e0
        rw [q2] at e1
        rw [q3] at e2
        obtain ⟨ok, hok⟩ : ∃ x, okM P s t k = x := ⟨_, rfl⟩
        rw [hok] at hf hstep
        have hll : (legU P m).length ≤ n := by rw [← HN.out]; unfold legU; exact Nat.le_trans (List.length_filter_le _ _) (by rw [List.length_take]; omega)
        obtain ⟨L, hL⟩ : ∃ L, legU P m = L := ⟨_, rfl⟩
        rw [hL] at hstep hll HOW
        have HPR := Lib.hid (HP.out.go HB1.out)
        have HST := Lib.hid hstep
        have c22 : ∀ dd os, Calls Tryz.prog 52 #[.agg X, .agg #[.int .i64 (s : Int), .int .i64 (t : Int), .int .i64 k]] (grow (redrawn wr dd) os) fun e w'' => e = .returned (.bool ok) ∧ ∃ p : Regrown, w'' = grow (redrawn wr p.d) p.os := fun dd os => Calls.regrown_of (hf _)
        clear q1 q2 q3 hrd hok hL hstep hf how hs ht
        have i0 : (0 : Int) ≤ (m : Int) := by omega
        have hlti : (m : Int) < (n : Int) := by omega
        have g0 := cell_regrown e0
        have g1 := cell_regrown e1
        have g2 := cell_regrown e2
        have HCP := Lib.hid HPR.out.regrown
        have HE := Lib.hid (And.intro e0 (And.intro e1 e2))
        clear e0 e1 e2
        go_upto_region 8 with (fail)
        refine wp_region_quiet_below (by kernel_rfl) (by kernel_rfl) ?_
        refine wpQuiet_pos (by rfl) _ (by rfl) w.heap.size P X HX.out (by rfl) HCP.out ?_
        try simp only [Act.put, List.setIfInBounds_toArray, List.set_cons_zero, List.set_cons_succ]
        iterate 4 (go_big_quiet_step (fail))
        go_big_quiet_step (exact c22 _ _)
        repeat (go_big_quiet_step (fail))
        refine wpQuiet_nil ?_
        rintro W9 ⟨pq, rfl⟩
        have hb9 := below_regrown wr pq.d pq.os
        replace HOW := Lib.hid (owns_go HOW.out hb9)
        replace HB1 := Lib.hid (HB1.out.trans (hb9.mono HB1.out.size))
        obtain ⟨e0, e1, e2⟩ := HE.out
        replace e0 := g0 pq.d pq.os
        replace e1 := g1 pq.d pq.os
        replace e2 := g2 pq.d pq.os
        clear hb9 g0 g1 g2 c22 HCP HPR HE
        generalize grow (redrawn wr pq.d) pq.os = W9 at *
        cases ok
        · have HS2 := Lib.hid (show legU P (m + 1) = L by rw [HST.out]; simp)
          clear HST e0 e1 e2
          go_wp2
          go_roundw
          case rel => exact ⟨m + 1, by omega, by go_num, HB1.out, by rw [HS2.out]; exact HOW.out⟩
          case measure => simp [intOf]; omega
        · have HS2 := Lib.hid (show legU P (m + 1) = L ++ [((s : Int), (t : Int), k)] by rw [HST.out]; simp)
          have hm1 : L.length + 1 ≤ maxLen := by unfold maxLen; omega
          clear HST
          go_wp2_with (at_builtin; refine wpList_append_lies _ rfl (.tmp 23) (.tmp 28) 30 rfl w2.heap.size 41 i1 (.agg #[.int .i64 0, .int .i64 0, .int .i64 0]) 3 24 Tryz.underlying30 hi1 hk0 hk1 hk2 rfl (by decide) _ L.length (mvals L) rfl (owns_go HOW.out ((Below.refl _ _).alloc (Nat.le_refl _) _)) ⟨W9.heap.size, 0, none⟩ 1 1 [.int .i64 (s : Int), .int .i64 (t : Int), .int .i64 k] rfl rfl (World.news_of_block (heap_alloc_new _ _)) ?c2 (by decide) hm1 (by omega) (by have h : w2.heap.size ≤ W9.heap.size := HB1.out.size; simp; omega) (W9.heap.size + 1) (by simp) ?next)
          case c2 => intro y hy; simp at hy; rcases hy with rfl | rfl | rfl <;> rfl
          case next =>
            intro g1 cap1 w4 hown1 hgrow1 hat1 hlt3
            rw [mvals_snoc] at hown1
            have HB4 := Lib.hid ((HB1.out.alloc HB1.out.size _).grown hgrow1 (by have h : w2.heap.size ≤ W9.heap.size := HB1.out.size; simp; omega) (fun b e => (HOW.out.lt b e).1))
            have HO4 := Lib.hid hown1
            clear hgrow1 hown1 hat1 HB1 HOW e0 e1 e2
            go_wp2
            go_roundw
            case rel => exact ⟨m + 1, by omega, by go_num, HB4.out, by rw [HS2.out, List.length_append]; exact HO4.out⟩
            case measure => simp [intOf]; omega
      · obtain rfl : m = n := by omega
        have HLU := Lib.hid (show legU P m = legM P by rw [← HFULL.out, HN.out])
        go_wp2
        go_ret
        exact ⟨_, rfl, HB.out.trans (HB1.out.mono HB.out.size), by rw [HL2.out, ← HLU.out]; exact owns_base HOW.out HB.out.size⟩
end Go.Proofs.YthinkiljhkanhaaGreatDoor
