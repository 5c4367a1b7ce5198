/-
  The document's side of again: what may be taken over.
-/
import Derived.Test.YtcdnakbdajbfoaaGreatDoorYb
import Derived.Test.YtcdnakbdajbfoaaGreatDoorM2
namespace Go.Proofs.YtcdnakbdajbfoaaGreatDoor
open Go.RowKit Go.Sort
set_option linter.unusedSimpArgs false
set_option linter.unusedVariables false
set_option maxRecDepth 20000

theorem tmod_ne (s n : Nat) : (((s : Int) % 8) != ((n : Int) % 8)) = !smF s n := by
  unfold smF

  cases e : s % 8 == n % 8
  · simp only [beq_eq_false_iff_ne, ne_eq] at e
    simp only [Bool.not_false, bne_iff_ne, ne_eq]
    omega
  · simp only [beq_iff_eq] at e
    have : (s : Int) % 8 = (n : Int) % 8 := by omega
    simp [this]
theorem ovr_is (P : Nat → Int) (s n : Nat) : ovrB P s n = (((n : Int) == P 130) && (P (2 * s) == 1) && (((s : Int) % 8) != ((n : Int) % 8)) && pe (P (2 * n)) (P (2 * n + 1)) 0 0) := by
  rw [tmod_ne]
  unfold ovrB pwnB emB
  generalize ((n : Int) == P 130) = a
  generalize (P (2 * s) == 1) = b
  generalize smF s n = c
  generalize pe (P (2 * n)) (P (2 * n + 1)) 0 0 = d
  cases a <;> cases b <;> cases c <;> cases d <;> rfl
theorem tkO_is2 (P : Nat → Int) : tkO P = if P 130 = -1 then -1 else if (lmM P).any (fun m => ovrB P m.1.toNat m.2.1.toNat) then P 130 else -1 := rfl
theorem lm_sq (P : Nat → Int) (i : Nat) (hi : i < (lmM P).length) : ∃ s n : Nat, s < 64 ∧ n < 64 ∧ mF (lmM P) i = (s : Int) ∧ mT (lmM P) i = (n : Int) := by
  have hp : posB P = true := by
    cases e : posB P
    · unfold lmM at hi; rw [e] at hi; simp at hi
    · rfl
  have e : lmM P = legM P := by unfold lmM; rw [if_pos hp]
  rw [e] at hi ⊢
  obtain ⟨s, n, hv⟩ := allM_mem P _ (leg_all P _ (List.getElem_mem hi))
  refine ⟨s, n, hv.hs, hv.hn, ?_, ?_⟩
  · unfold mF; rw [List.getD_eq_getElem?_getD, List.getElem?_eq_getElem hi]; exact hv.f
  · unfold mT; rw [List.getD_eq_getElem?_getD, List.getElem?_eq_getElem hi]; exact hv.t
set_option maxHeartbeats 4000000 in
set_option maxRecDepth 100000 in
theorem rOver12_any (P : Nat → Int) (w : World) :
    Calls Tryz.prog 10 #[.agg (pc P).toArray] w fun e w' => e = .returned (.int .i64 (tkO P)) ∧ Below w.heap.size w w' := by
  obtain ⟨X, hX⟩ : ∃ X, X = (pc P).toArray := ⟨_, rfl⟩
  have HI := Lib.hid (OV.begin 0 w P X hX)
  have HM := Lib.hid (fun W => rMoves10_any P W)
  rw [← hX] at HM ⊢
  have hR := tkO_is2 P
  have hsq := lm_sq P
  obtain ⟨L, hL⟩ : ∃ L, lmM P = L := ⟨_, rfl⟩
  rw [hL] at HM hR hsq
  obtain ⟨T, hT⟩ : ∃ T, tkO P = T := ⟨_, rfl⟩
  rw [hT] at hR ⊢
  have HYES := Lib.hid (fun i (hi : i < L.length) => any_at (q := fun f t k => ovrB P f.toNat t.toNat) (l := L) hi)
  have HNO := Lib.hid (any_none (q := fun f t k => ovrB P f.toNat t.toNat) (l := L))
  have HOWN := Lib.hid (fun (W : World) base v (h : W.ownsRow base 52 3 v L.length (mvals L)) => reads3_own h)
  have HSQ := Lib.hid hsq
  obtain ⟨ov, hov⟩ : ∃ x, P 130 = x := ⟨_, rfl⟩
  have HC := Lib.hid (fun W (h : OV 0 w W P) => by have := h.p.cell 130 (by omega); rw [hov] at this; exact this)
  rw [hov] at hR
  have HOV := Lib.hid hov
  have HR := Lib.hid hR
  have HX := Lib.hid hX
  obtain ⟨n, hn⟩ : ∃ n, L.length = n := ⟨_, rfl⟩
  have n0 : n ≤ 17920 := by
    rw [← hn, ← hL]
    unfold lmM
    split
    · exact legM_len P
    · exact Nat.zero_le _
  rw [hn] at HM HYES HNO HOWN HSQ
  generalize mF L = F at *
  generalize mT L = G at *
  generalize mK L = K at *
  clear hX hL hT hR hov hn hsq
  go_enter Tryz.func10, Tryz.ntmps10
  go_upto_region 1 with (fail)
  refine forget_B (fun W => OV 0 w W P) HI.out ?_
  clear HI
  intro W hi
  have HI := Lib.hid hi
  clear hi
  have c0 := HC.out _ HI.out
  by_cases h1 : ov = -1
  · have HV := Lib.hid h1
    have e1 : (ov == -1) = true := by simp [h1]
    clear h1
    go_wp2
    go_ret
    exact ⟨q_i (by rw [HR.out, if_pos HV.out]), HI.out.b⟩
  · have HV := Lib.hid h1
    have e1 : (ov == -1) = false := by simpa using h1
    clear h1
    go_wp2_with (first | refine wpList_pos (by rfl) _ (by rfl) w.heap.size P X HX.out (by rfl) HI.out.p ?_ | fail)
    refine (HM.out _).mono ?_
    rintro e w1 ⟨v, rfl, hb, hown⟩
    obtain ⟨rp, rc, rfl, hr3⟩ := HOWN.out _ _ _ hown
    replace HI := Lib.hid (HI.out.go hb)
    have H3 := Lib.hid hr3
    clear hb hown hr3 HM HOWN c0 e1
    dsimp only
    refine list_go (by assumption) ?_
    go_wp2
    go_loopw [4] (fun x wr => ∃ i : Nat, i ≤ n ∧ x = .int .i64 (i : Int) ∧ (∀ j, j < i → ovrB P (F j).toNat (G j).toNat = false) ∧ OV 0 w wr P ∧ Reads3 wr.heap.size wr rp n F G K) (fun x _ => n - (intOf x).toNat)
    case atStart => exact ⟨0, Nat.zero_le _, rfl, fun j hj => absurd hj (Nat.not_lt_zero _), HI.out, H3.out⟩
    case round =>
      clear HI H3
      obtain ⟨i, hi, rfl, hz, hv, hr⟩ := hrel
      have HI := Lib.hid hv
      have HZ := Lib.hid hz
      have H3 := Lib.hid hr
      clear hv hz hr
      by_cases hlt : i < n
      · have hrd := H3.out
        obtain ⟨pb, po, rfl⟩ := hrd.addr hlt
        obtain ⟨e0, e1, e2⟩ := hrd.cells hlt
        obtain ⟨s, t, hs, ht, hs2, ht2⟩ := HSQ.out i hlt
        have HY := Lib.hid (HYES.out i hlt)
        have HZ2 := Lib.hid (fun (e : ovrB P (F i).toNat (G i).toNat = false) j (hj : j < i + 1) => show ovrB P (F j).toNat (G j).toNat = false from if h : j < i then HZ.out j h else (show j = i by omega) ▸ e)
        rw [hs2, ht2, Int.toNat_natCast, Int.toNat_natCast] at HY HZ2
        rw [hs2] at e0
        rw [ht2] at e1
        have hor := ovr_is P s t
        rw [HOV.out] at hor
        obtain ⟨ks, hks⟩ : ∃ x, P (2 * s) = x := ⟨_, rfl⟩
        obtain ⟨kt, hkt⟩ : ∃ x, P (2 * t) = x := ⟨_, rfl⟩
        obtain ⟨dt, hdt⟩ : ∃ x, P (2 * t + 1) = x := ⟨_, rfl⟩
        have HCS := Lib.hid (fun W (h : OV 0 w W P) => show W.cell? ⟨w.heap.size, s * 2, none⟩ = some (.int .i64 ks) ∧ W.cell? ⟨w.heap.size, t * 2, none⟩ = some (.int .i64 kt) ∧ W.cell? ⟨w.heap.size, t * 2 + 1, none⟩ = some (.int .i64 dt) from by
          rw [Nat.mul_comm s, Nat.mul_comm t, ← hks, ← hkt, ← hdt]
          exact ⟨h.p.cell _ (by omega), h.p.cell _ (by omega), h.p.cell _ (by omega)⟩)
        rw [hks, hkt, hdt] at hor
        obtain ⟨q1, hq1⟩ : ∃ b, ((t : Int) == ov) = b := ⟨_, rfl⟩
        obtain ⟨q2, hq2⟩ : ∃ b, (ks == 1) = b := ⟨_, rfl⟩
        obtain ⟨q3, hq3⟩ : ∃ b, (((s : Int) % 8) != ((t : Int) % 8)) = b := ⟨_, rfl⟩
        obtain ⟨q4, hq4⟩ : ∃ b, pe kt dt 0 0 = b := ⟨_, rfl⟩
        rw [hq1, hq2, hq3, hq4] at hor
        have HRR := Lib.hid hor
        generalize K i = k at *
        have i0 : (0 : Int) ≤ (i : Int) := by omega
        have s0 : (0 : Int) ≤ (s : Int) := by omega
        have s1 : (s : Int) < 64 := by omega
        have t0 : (0 : Int) ≤ (t : Int) := by omega
        have t1 : (t : Int) < 64 := by omega
        clear hrd hks hkt hdt hs2 ht2 hor
        go_upto_region 8 with (fail)
        clear e0 e1 e2
        refine forget_B (fun W => (OV 0 w W P ∧ Reads3 W.heap.size W (some ⟨pb, po, none⟩) n F G K) ∧ W.heap[wr.heap.size]? = some (.cells #[.int .i64 (s : Int), .int .i64 (t : Int), .int .i64 k] 52 (0, 0))) ⟨⟨HI.out.go (below_new _), (H3.out.below (below_new _)).mono (below_new _).size⟩, sl_at rfl⟩ ?_
        clear HI H3
        intro W1 hs1
        obtain ⟨m0, m1, m2, mf, mz⟩ := row3 hs1.2
        have HI := Lib.hid hs1.1
        clear hs1
        generalize wr.heap.size = mb at *
        have c0 := HC.out _ HI.out.1
        obtain ⟨cs, ct, cd⟩ := HCS.out _ HI.out.1
        cases q1
        · clear hq2 hq3 hq4
          go_wp2
          go_roundw
          case rel => exact ⟨i + 1, by omega, by go_num, HZ2.out (by rw [HRR.out]; rfl), HI.out.1, HI.out.2⟩
          case measure => simp [intOf]; omega
        · cases q2
          · clear hq3 hq4
            go_wp2
            go_roundw
            case rel => exact ⟨i + 1, by omega, by go_num, HZ2.out (by rw [HRR.out]; rfl), HI.out.1, HI.out.2⟩
            case measure => simp [intOf]; omega
          · cases q3
            · clear hq4
              go_wp2
              go_roundw
              case rel => exact ⟨i + 1, by omega, by go_num, HZ2.out (by rw [HRR.out]; rfl), HI.out.1, HI.out.2⟩
              case measure => simp [intOf]; omega
            · cases q4
              · skip
                go_wp2
                go_roundw
                case rel => exact ⟨i + 1, by omega, by go_num, HZ2.out (by rw [HRR.out]; rfl), HI.out.1, HI.out.2⟩
                case measure => simp [intOf]; omega
              · go_wp2
                go_ret
                exact ⟨q_i (by rw [HR.out, if_neg HV.out, HY.out (by rw [HRR.out]; rfl)]; rfl), HI.out.1.b⟩
      · obtain rfl : i = n := by omega
        go_wp2
        go_ret
        exact ⟨q_i (by rw [HR.out, if_neg HV.out, HNO.out HZ.out]; rfl), HI.out.b⟩
end Go.Proofs.YtcdnakbdajbfoaaGreatDoor
