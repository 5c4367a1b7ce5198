/-
  Contracts: the document's names, ways and rings.
-/
import Derived.Test.YtaiihdkcpbkmaaaSqE
import Derived.WideShapes
namespace Go.Proofs.Ytaiihdkcpbkmaaa
open Go.RowKit
set_option linter.unusedSimpArgs false
set_option linter.unusedVariables false

set_option maxHeartbeats 1000000 in
theorem rName_any (s : Int) (w : World) :
    Calls Try.prog 21 #[.int .i64 s] w fun e w' => e = .returned (.string (nmV s)) ∧ Below w.heap.size w w' := by
  unfold nmV
  cases hs : sq s
  · simp only [Bool.false_eq_true, if_false]
    have HS := Lib.hid hs
    clear hs
    go_enter Try.func21, Try.ntmps21
    go_wp2_with fail
    refine (rIs_any s _).mono ?_
    rw [HS.out]
    rintro e w1 ⟨rfl, rfl⟩
    go_wp2
    go_ret
    exact ⟨rfl, Below.refl _ _⟩
  · obtain ⟨h0, h1⟩ := (sq_iff s).1 hs
    simp only [if_true]
    unfold nm
    have HS := Lib.hid hs
    clear hs
    have h2 := tm8 h0
    have h3 := td8 h0
    have c1 : IntKind.u8.wrap (97 + s % 8) = 97 + s % 8 := IntWalk.u8_in _ (by omega)
    have c2 : IntKind.u8.wrap (49 + s / 8) = 49 + s / 8 := IntWalk.u8_in _ (by omega)
    have e1 : ((ch (97 + s % 8)).toNat : Int) = 97 + s % 8 := ch_nat (by omega) (by omega)
    have e2 : ((ch (49 + s / 8)).toNat : Int) = 49 + s / 8 := ch_nat (by omega) (by omega)
    have cv : (convert 39 9 (.slice (some ⟨w.heap.size, 0, none⟩) 2 2)).run Try.prog (w.alloc (.cells #[.int .u8 (97 + s % 8), .int .u8 (49 + s / 8)] 5)) = .ok (.string ⟨#[ch (97 + s % 8), ch (49 + s / 8)]⟩) (w.alloc (.cells #[.int .u8 (97 + s % 8), .int .u8 (49 + s / 8)] 5)) :=
      run_convert_bytes_back (P := Try.prog) _ 39 9 5 ⟨w.heap.size, 0, none⟩ 2 [ch (97 + s % 8), ch (49 + s / 8)] Try.underlying39 Try.underlying5 Try.underlying9 (fun j hj => by
        obtain ⟨p0, p1, _, _⟩ := row2 (sl_at (W := w) (o := .cells #[.int .u8 (97 + s % 8), .int .u8 (49 + s / 8)] 5) rfl)
        match j, hj with
        | 0, _ => show World.cell? _ ⟨w.heap.size, 0 + 0, none⟩ = some (.int .u8 ((ch (97 + s % 8)).toNat : Int)); rw [e1]; exact p0
        | 1, _ => show World.cell? _ ⟨w.heap.size, 0 + 1, none⟩ = some (.int .u8 ((ch (49 + s / 8)).toNat : Int)); rw [e2]; exact p1)
    clear e1 e2
    go_enter Try.func21, Try.ntmps21
    go_wp2_with fail
    refine (rIs_any s _).mono ?_
    rw [HS.out]
    rintro e w1 ⟨rfl, rfl⟩
    go_wp2
    go_ret
    exact ⟨rfl, below_new _⟩
/-- a string is a square's name just if it is some square's name -/
theorem isN_some {S : ByteArray} (h : isN S = true) : sq (nN S) = true ∧ nmV (nN S) = S := by
  unfold isN at h
  rw [Bool.and_eq_true, decide_eq_true_eq] at h
  obtain ⟨hz, hb⟩ := h
  obtain ⟨u0, u1, u2, u3⟩ := (onB_iff _ _).1 hb
  have hn : nN S = 8 * (nb S 1 - 49) + (nb S 0 - 97) := by
    unfold nN isN; rw [if_pos (by rw [Bool.and_eq_true, decide_eq_true_eq]; exact ⟨hz, hb⟩)]
  have hsq : sq (nN S) = true := (sq_iff _).2 (by omega)
  refine ⟨hsq, ?_⟩
  unfold nmV
  rw [if_pos hsq]
  unfold nm
  rw [show 97 + nN S % 8 = nb S 0 by omega, show 49 + nN S / 8 = nb S 1 by omega]
  clear hn hsq u0 u1 u2 u3 hb
  obtain ⟨⟨l⟩⟩ := S
  match l, hz with
  | [x, y], _ =>
    have e0 : ch (nb ⟨⟨[x, y]⟩⟩ 0) = x := by unfold ch nb; simp
    have e1 : ch (nb ⟨⟨[x, y]⟩⟩ 1) = y := by unfold ch nb; simp
    rw [e0, e1]
theorem isN_hit {S : ByteArray} {t : Int} (ht : sq t = true) (h : nmV t = S) : isN S = true ∧ nN S = t := by
  subst h; exact name_back ht
theorem isN_miss {S : ByteArray} (h : ∀ t : Nat, t < 64 → ¬ nmV (t : Int) = S) : isN S = false ∧ nN S = 0 := by
  have hf : isN S = false := by
    cases hi : isN S
    · rfl
    · obtain ⟨h1, h2⟩ := isN_some hi
      obtain ⟨t0, t1⟩ := (sq_iff _).1 h1
      exact absurd (by rw [show (((nN S).toNat : Nat) : Int) = nN S by omega]; exact h2) (h (nN S).toNat (by omega))
  exact ⟨hf, by unfold nN; rw [hf]; rfl⟩
set_option maxHeartbeats 1000000 in
theorem rNamed_any (S : ByteArray) (w : World) :
    Calls Try.prog 9 #[.string S] w fun e w' => e = .returned (.tuple #[.int .i64 (nN S), .bool (isN S)]) ∧ Below w.heap.size w w' := by
  obtain ⟨x, hx⟩ : ∃ x, nN S = x := ⟨_, rfl⟩
  obtain ⟨b, hb⟩ : ∃ b, isN S = b := ⟨_, rfl⟩
  rw [hx, hb]
  have HX := Lib.hid hx
  have HB := Lib.hid hb
  clear hx hb
  go_enter Try.func9, Try.ntmps9
  go_wp2
  go_loopw [4] (fun i wr => ∃ k : Nat, k ≤ 64 ∧ i = .int .i64 k ∧ Below w.heap.size w wr ∧ ∀ t : Nat, t < k → ¬ nmV (t : Int) = S) (fun i _ => 64 - (intOf i).toNat)
  case atStart => exact ⟨0, by omega, rfl, Below.refl _ _, fun t ht => by omega⟩
  case round =>
    obtain ⟨k, hk, rfl, hbk, hno⟩ := hrel
    have HN := Lib.hid hno
    have HBK := Lib.hid hbk
    clear hno hbk
    by_cases hlt : k < 64
    · obtain ⟨N, hN⟩ : ∃ N, nmV (k : Int) = N := ⟨_, rfl⟩
      have HNN := Lib.hid hN
      clear hN
      by_cases hq : N = S
      · subst hq
        have hit := isN_hit ((sq_iff (k : Int)).2 (by omega)) HNN.out
        have HI := Lib.hid hit
        clear hit
        go_wp2_with fail
        refine (rName_any (k : Int) _).mono ?_
        rw [HNN.out]
        rintro e w1 ⟨rfl, hb1⟩
        go_wp2
        go_ret2
        exact ⟨by rw [← HX.out, ← HB.out, HI.out.1, HI.out.2]; rfl, HBK.out.trans (hb1.mono HBK.out.size)⟩
      · have hq1 : (N.toList == S.toList) = false := by
          rw [beq_eq_false_iff_ne]
          intro e
          rw [ByteArray.toList_eq, ByteArray.toList_eq] at e
          exact hq (Go.WideShapes.bytes_inj e)
        go_wp2_with fail
        refine (rName_any (k : Int) _).mono ?_
        rw [HNN.out]
        rintro e w1 ⟨rfl, hb1⟩
        have HB1 := Lib.hid (HBK.out.trans (hb1.mono HBK.out.size))
        clear hb1
        go_wp2
        go_roundw
        case rel =>
          exact ⟨k + 1, by omega, by go_num, HB1.out, fun t ht => by
            rcases Nat.lt_or_ge t k with h | h
            · exact HN.out t h
            · obtain rfl : t = k := by omega
              rw [HNN.out]; exact hq⟩
        case measure => simp [intOf]; omega
    · obtain rfl : k = 64 := by omega
      have HM := Lib.hid (isN_miss HN.out)
      go_wp2
      go_ret2
      exact ⟨by rw [← HX.out, ← HB.out, HM.out.1, HM.out.2]; rfl, HBK.out⟩
theorem rray_none (s : Int) (w : World) :
    Calls Try.prog 26 #[.int .i64 s, .int .i64 0, .int .i64 0] w fun e w' => e = .returned (.slice none 0 0) ∧ Below w.heap.size w w' := by
  go_enter Try.func26, Try.ntmps26
  go_wp2
  go_ret
  exact ⟨rfl, Below.refl _ _⟩
theorem rq_neg {s a b : Int} {n : Nat} (h : sq (rq s a b n) = false) : rq s a b n = -1 := by
  cases n with
  | zero => rcases stp_or s a b with h3 | h3
            · exact h3
            · rw [show rq s a b 0 = stp s a b from rfl, h3] at h; cases h
  | succ n => rcases stp_or (rq s a b n) a b with h3 | h3
              · exact h3
              · rw [show rq s a b (n + 1) = stp (rq s a b n) a b from rfl, h3] at h; cases h
set_option maxHeartbeats 1000000 in
theorem rray_any (s a b : Int) (n : Nat) (w : World) (ha : I64 a) (hb : I64 b) (hab : ¬ (a = 0 ∧ b = 0)) (hn : RayN s a b n) (h7 : n ≤ 7) :
    Calls Try.prog 26 #[.int .i64 s, .int .i64 a, .int .i64 b] w fun e w' => ∃ v, e = .returned v ∧ Below w.heap.size w w' ∧ w'.ownsRow w.heap.size 3 1 v n (rqC s a b n) := by
  obtain ⟨i0, hi, hz0, hz1, hz2⟩ := info_parts infoInt
  have HAB := Lib.hid hab
  have HN := Lib.hid hn
  clear hab hn
  go_enter Try.func26, Try.ntmps26
  go_upto_region 2 with (fail)
  go_cut [14] from 9 to 14 (fun t wx => t = .bool false ∧ wx = w)
  case first =>
    by_cases h1 : a = 0
    · have h2 : ¬ b = 0 := fun h2 => HAB.out ⟨h1, h2⟩
      have d1 : (a == 0) = true := by simp [h1]
      have d2 : (b == 0) = false := by simp [h2]
      clear h1
      go_wp2_with fail
      go_meet
      exact ⟨rfl, rfl⟩
    · have d1 : (a == 0) = false := by simp [h1]
      go_wp2_with fail
      go_meet
      exact ⟨rfl, rfl⟩
  case rest =>
    obtain ⟨rfl, rfl⟩ := hcut
    go_wp2_with fail
    refine (rStep_any s a b _ ha hb).mono ?_
    rintro e w1 ⟨rfl, hb1⟩
    have HB1 := Lib.hid hb1
    clear hb1
    go_wp2
    go_loopw [7, 8] (fun v t wr => ∃ k : Nat, k ≤ n ∧ t = .int .i64 (rq s a b k) ∧ Below wc.heap.size wc wr ∧ wr.ownsRow wc.heap.size 3 1 v k (rqC s a b k)) (fun v _ _ => n - vlen v)
    case atStart => exact ⟨0, Nat.zero_le _, rfl, HB1.out, World.ownsRow_nil _ _ _ _⟩
    case round =>
      obtain ⟨k, hk, rfl, hbk, hown⟩ := hrel
      by_cases hlt : k < n
      · have hsq := (sq_iff _).1 (HN.out.1 k hlt)
        have HRS := Lib.hid (rqC_succ s a b k)
        have HVL := Lib.hid (own_len hown)
        have HOW := Lib.hid hown
        have HBK := Lib.hid hbk
        obtain ⟨x, hx⟩ : ∃ x, rq s a b k = x := ⟨_, rfl⟩
        have HX := Lib.hid (show stp x a b = rq s a b (k + 1) by rw [← hx]; rfl)
        rw [hx] at hsq HRS ⊢
        clear hown hbk hx
        have hm1 : k + 1 ≤ maxLen := by unfold maxLen; omega
        go_wp2_with (at_builtin; refine wpList_append_lies _ rfl (.tmp 25) (.tmp 27) 32 rfl wc.heap.size 3 i0 (.int .i64 0) 1 8 Try.underlying32 hi hz0 hz1 hz2 rfl (by decide) _ k (rqC s a b k) rfl (HOW.out.alloc _) ⟨wr.heap.size, 0, none⟩ 1 1 [.int .i64 x] rfl rfl (World.news_of_block (heap_alloc_new _ _)) ?c2 (by decide) hm1 (by omega) (by simp; have := HBK.out.size; omega) (wr.heap.size + 1) (by simp) ?next)
        case c2 => intro y hy; simp at hy; subst hy; rfl
        case next =>
          intro g1 cap1 w3 hown1 hgrow1 hat1 hlt3
          rw [HRS.out] at hown1
          have HB3 := Lib.hid ((HBK.out.alloc HBK.out.size _).grown hgrow1 (by simp; have := HBK.out.size; omega) (fun b e => (HOW.out.lt b e).1))
          have HO3 := Lib.hid hown1
          clear hgrow1 hown1 hat1 HBK HOW
          go_wp2_with fail
          refine (rStep_any x a b _ ha hb).mono ?_
          rw [HX.out]
          rintro e w4 ⟨rfl, hb4⟩
          have HB4 := Lib.hid (HB3.out.trans (hb4.mono HB3.out.size))
          have HO4 := Lib.hid (owns_go HO3.out hb4)
          clear hb4 HB3 HO3
          go_wp2
          go_roundw
          case rel => exact ⟨k + 1, by omega, rfl, HB4.out, HO4.out⟩
          case measure => rw [HVL.out]; show n - (k + 1) < n - k; omega
      · obtain rfl : k = n := by omega
        rw [rq_neg HN.out.2]
        have HO := Lib.hid hown
        have HBK := Lib.hid hbk
        clear hown hbk
        go_wp2
        go_ret
        exact ⟨_, rfl, HBK.out, HO.out⟩
end Go.Proofs.Ytaiihdkcpbkmaaa
