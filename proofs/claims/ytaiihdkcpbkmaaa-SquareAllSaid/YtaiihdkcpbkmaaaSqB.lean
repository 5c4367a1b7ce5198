/-
  Contracts: names of squares; the document's answers on numbers.
-/
import Derived.Test.YtaiihdkcpbkmaaaSqR
import Derived.Laws.IdiomStrings
namespace Go.Proofs.Ytaiihdkcpbkmaaa
open Go.RowKit
set_option linter.unusedSimpArgs false
set_option linter.unusedVariables false

/-- a byte of a small number -/
def ch (n : Int) : UInt8 := UInt8.ofNat n.toNat
theorem ch_nat {n : Int} (h0 : 0 ≤ n) (h1 : n < 256) : ((ch n).toNat : Int) = n := by
  unfold ch; rw [UInt8.toNat_ofNat']; omega
/-- a square's name -/
def nm (s : Int) : ByteArray := ⟨#[ch (97 + s % 8), ch (49 + s / 8)]⟩
def nmV (s : Int) : ByteArray := if sq s then nm s else ⟨#[]⟩
set_option maxHeartbeats 1000000 in
theorem nameP_any (f r : Int) (w : World) (h0 : 0 ≤ f) (h1 : f < 8) (h2 : 0 ≤ r) (h3 : r < 8) :
    Calls Try.prog 34 #[.agg #[.int .i64 f, .int .i64 r]] w fun e w' => e = .returned (.string ⟨#[ch (97 + f), ch (49 + r)]⟩) ∧ Below w.heap.size w w' := by
  have c1 : IntKind.u8.wrap (97 + f) = 97 + f := IntWalk.u8_in _ (by omega)
  have c2 : IntKind.u8.wrap (49 + r) = 49 + r := IntWalk.u8_in _ (by omega)
  have e1 : ((ch (97 + f)).toNat : Int) = 97 + f := ch_nat (by omega) (by omega)
  have e2 : ((ch (49 + r)).toNat : Int) = 49 + r := ch_nat (by omega) (by omega)
  obtain ⟨w1, hw1⟩ : ∃ w1, w1 = (w.alloc (.cells #[.int .i64 f, .int .i64 r] 43)).alloc (.cells #[.int .u8 (97 + f), .int .u8 (49 + r)] 5) := ⟨_, rfl⟩
  have hl : w1.heap[w.heap.size + 1]? = some (.cells #[.int .u8 (97 + f), .int .u8 (49 + r)] 5 (0, 0)) := by subst hw1; exact sl_at (by simp)
  have hb : Below w.heap.size w w1 := by subst hw1; exact (below_new _).alloc (by simp) _
  have cv : (convert 39 9 (.slice (some ⟨w.heap.size + 1, 0, none⟩) 2 2)).run Try.prog w1 = .ok (.string ⟨#[ch (97 + f), ch (49 + r)]⟩) w1 := run_convert_bytes_back (P := Try.prog) w1 39 9 5 ⟨w.heap.size + 1, 0, none⟩ 2 [ch (97 + f), ch (49 + r)] Try.underlying39 Try.underlying5 Try.underlying9 (fun j hj => by
    obtain ⟨p0, p1, _, _⟩ := row2 hl
    match j, hj with
    | 0, _ => show w1.cell? ⟨w.heap.size + 1, 0 + 0, none⟩ = some (.int .u8 ((ch (97 + f)).toNat : Int)); rw [e1]; exact p0
    | 1, _ => show w1.cell? ⟨w.heap.size + 1, 0 + 1, none⟩ = some (.int .u8 ((ch (49 + r)).toNat : Int)); rw [e2]; exact p1)
  have HB := Lib.hid hb
  clear e1 e2 hl hb
  subst hw1
  go_enter Try.func34, Try.ntmps34
  go_wp2
  go_ret
  exact ⟨rfl, HB.out⟩
set_option maxHeartbeats 1000000 in
theorem name_any (s : Int) (w : World) :
    Calls Try.prog 20 #[.int .i64 s] w fun e w' => e = .returned (.string (nmV s)) ∧ Below w.heap.size w w' := by
  unfold nmV
  cases hs : sq s
  · simp only [Bool.false_eq_true, if_false]
    have HS := Lib.hid hs
    clear hs
    go_enter Try.func20, Try.ntmps20
    go_wp2_with fail
    refine (spotOf_any s _).mono ?_
    rintro e w1 ⟨rfl, hb1⟩
    go_wp2_with fail
    refine (onBsq_any s _).mono ?_
    rw [HS.out]
    rintro e w2 ⟨rfl, hb2⟩
    go_wp2
    go_ret
    exact ⟨rfl, hb1.trans (((below_new _).trans (hb2.mono (by simp))).mono hb1.size)⟩
  · obtain ⟨h0, h1⟩ := (sq_iff s).1 hs
    have hF : sF s = s % 8 := by unfold sF; rw [if_pos hs]
    have hR : sR s = s / 8 := by unfold sR; rw [if_pos hs]
    have hd : nm s = ⟨#[ch (97 + sF s), ch (49 + sR s)]⟩ := by unfold nm; rw [hF, hR]
    have hF2 : 0 ≤ sF s ∧ sF s < 8 := by rw [hF]; omega
    have hR2 : 0 ≤ sR s ∧ sR s < 8 := by rw [hR]; omega
    simp only [if_true]
    rw [hd]
    obtain ⟨d, hdd⟩ : ∃ d : ByteArray, ⟨#[ch (97 + sF s), ch (49 + sR s)]⟩ = d := ⟨_, rfl⟩
    rw [hdd]
    have HD := Lib.hid hdd
    have HS := Lib.hid hs
    clear hs hd hdd hF hR h0 h1
    go_enter Try.func20, Try.ntmps20
    go_wp2_with fail
    refine (spotOf_any s _).mono ?_
    rintro e w1 ⟨rfl, hb1⟩
    have l1 : (w1.alloc (.cells #[.int .i64 (sF s), .int .i64 (sR s), .int .i64 (sN s)] 45)).heap[w1.heap.size]? = some (.cells #[.int .i64 (sF s), .int .i64 (sR s), .int .i64 (sN s)] 45 (0, 0)) := sl_at rfl
    go_wp2_with fail
    refine (onBsq_any s _).mono ?_
    rw [HS.out]
    rintro e w2 ⟨rfl, hb2⟩
    obtain ⟨p0, p1, p2, _, pz⟩ := row3 (sl_go l1 hb2)
    go_wp2_with fail
    refine (nameP_any (sF s) (sR s) _ hF2.1 hF2.2 hR2.1 hR2.2).mono ?_
    rw [HD.out]
    rintro e w3 ⟨rfl, hb3⟩
    go_wp2
    go_ret
    exact ⟨rfl, hb1.trans ((((below_new _).trans (hb2.mono (by simp))).trans (hb3.mono (by omega))).mono hb1.size)⟩

theorem q_t {a b : Int} {c : Bool} (h : a = b) : Ending.returned (.tuple #[.int .i64 a, .bool c]) = .returned (.tuple #[.int .i64 b, .bool c]) := by rw [h]
/-- the bytes of a string, as numbers -/
def nb (S : ByteArray) (i : Nat) : Int := ((S.data.toList.getD i 0).toNat : Int)
/-- is it a square's name, and which? -/
def isN (S : ByteArray) : Bool := decide (S.size = 2) && onB (nb S 0 - 97) (nb S 1 - 49)
def nN (S : ByteArray) : Int := if isN S then 8 * (nb S 1 - 49) + (nb S 0 - 97) else 0
set_option maxHeartbeats 1000000 in
theorem named_any (S : ByteArray) (w : World) :
    Calls Try.prog 8 #[.string S] w fun e w' => e = .returned (.tuple #[.int .i64 (nN S), .bool (isN S)]) ∧ Below w.heap.size w w' := by
  by_cases hz : S.size = 2
  · have en : nN S = if onB (nb S 0 - 97) (nb S 1 - 49) then sAt (nb S 0 - 97) (nb S 1 - 49) else 0 := by
      unfold nN sAt isN; simp only [hz, decide_true, Bool.true_and]; split <;> rfl
    have ei : isN S = onB (nb S 0 - 97) (nb S 1 - 49) := by unfold isN; simp [hz]
    have e0 : nb S 0 = ((S[0]'(by omega)).toNat : Int) := by
      obtain ⟨⟨l⟩⟩ := S
      match l, hz with
      | [x, y], _ => rfl
    have e1 : nb S 1 = ((S[1]'(by omega)).toNat : Int) := by
      obtain ⟨⟨l⟩⟩ := S
      match l, hz with
      | [x, y], _ => rfl
    rw [en, ei, e0, e1]
    clear en ei e0 e1
    obtain ⟨x, q0⟩ : ∃ x, S[0]'(by omega) = x := ⟨_, rfl⟩
    obtain ⟨y, q1⟩ : ∃ y, S[1]'(by omega) = y := ⟨_, rfl⟩
    rw [q0, q1]
    have hx : x.toNat < 256 := x.toNat_lt
    have hy : y.toNat < 256 := y.toNat_lt
    have v0 : IntKind.i64.wrap (x.toNat : Int) = (x.toNat : Int) := IntWalk.i64_in _ (by omega)
    have v1 : IntKind.i64.wrap (y.toNat : Int) = (y.toNat : Int) := IntWalk.i64_in _ (by omega)
    have v2 : IntKind.i64.wrap ((x.toNat : Int) - 97) = (x.toNat : Int) - 97 := IntWalk.i64_in _ (by omega)
    have v3 : IntKind.i64.wrap ((y.toNat : Int) - 49) = (y.toNat : Int) - 49 := IntWalk.i64_in _ (by omega)
    have hsA := sAt_cases ((x.toNat : Int) - 97) ((y.toNat : Int) - 49)
    obtain ⟨A, hA⟩ : ∃ A, A = sAt ((x.toNat : Int) - 97) ((y.toNat : Int) - 49) := ⟨_, rfl⟩
    obtain ⟨b, hb⟩ : ∃ b, b = onB ((x.toNat : Int) - 97) ((y.toNat : Int) - 49) := ⟨_, rfl⟩
    rw [← hA, ← hb] at hsA ⊢
    have hsq : sq A = b := by
      rcases hsA with ⟨h, e⟩ | ⟨h0, h1, h2, h3, h, e⟩
      · rw [h, e]; rfl
      · rw [h, e]; exact sq_at h0 h1 h2 h3
    obtain ⟨N, hN⟩ : ∃ N, (if b then A else 0) = N := ⟨_, rfl⟩
    rw [hN]
    have hsn : sN A = if true then A else 0 := by
      rcases hsA with ⟨h, e⟩ | ⟨h0, h1, h2, h3, h, e⟩
      · rw [e]; rfl
      · rw [e]; exact sN_at h0 h1 h2 h3
    have HN := Lib.hid hN
    have HSN := Lib.hid hsn
    clear hN hsn
    have HA := Lib.hid hA
    have HB := Lib.hid hb
    have HSQ := Lib.hid hsq
    have HSA := Lib.hid hsA
    clear hA hb hsq hsA
    go_enter Try.func8, Try.ntmps8
    have HC := Lib.hid (show ∀ W, Calls Try.prog 30 #[.agg #[.int .i64 ((x.toNat : Int) - 97), .int .i64 ((y.toNat : Int) - 49)]] W fun e w' => e = .returned (.agg #[.int .i64 (sF A), .int .i64 (sR A), .int .i64 (sN A)]) ∧ Below W.heap.size W w' from fun W => by rw [HA.out]; exact spotAt_any _ _ W)
    go_upto_region 3 with (fail)
    go_cut [4] from 8 to 17 (fun v wx => ∃ H, v = .pointer (some ⟨H, 0, none⟩) ∧ Below w.heap.size w wx ∧ wx.heap[H]? = some (.cells #[.int .i64 (sF A), .int .i64 (sR A), .int .i64 (sN A)] 45 (0, 0)))
    case first =>
      refine wp_region_noPanic ?_
      refine wp_region_start (n := 12) (l := #[false, false, false, false, false, false, false, false, false, false, false, false]) (S := (fun _ => True)) (by kernel_rfl) rfl (by kernel_rfl) (by trivial) (fun hHeld => ?_)
      refine take_to (i := 0) (d := some 8) (v := ?_) (l' := #[true, false, false, false, false, false, false, false, false, false, false, false]) rfl rfl (by kernel_rfl) (by kernel_rfl) (by kernel_rfl) (by kernel_rfl) (fun _ _ _ h => h) (Or.inl ⟨by rfl, ?_⟩) (by assumption) ?_; rotate_left; · (intro w' hSw; (try dsimp only at hSw); go_simp; (try with_reducible rfl))
      try simp only [Act.put, List.setIfInBounds_toArray, List.set_cons_zero, List.set_cons_succ]
      refine take_to (i := 1) (d := some 9) (v := ?_) (l' := #[true, true, false, false, false, false, false, false, false, false, false, false]) rfl rfl (by kernel_rfl) (by kernel_rfl) (by kernel_rfl) (by kernel_rfl) (fun _ _ _ h => h) (Or.inl ⟨by rfl, ?_⟩) (by assumption) ?_; rotate_left; · (intro w' hSw; (try dsimp only at hSw); go_simp; (try with_reducible rfl))
      try simp only [Act.put, List.setIfInBounds_toArray, List.set_cons_zero, List.set_cons_succ]
      refine take_to (i := 2) (d := some 10) (v := ?_) (l' := #[true, true, true, false, false, false, false, false, false, false, false, false]) rfl rfl (by kernel_rfl) (by kernel_rfl) (by kernel_rfl) (by kernel_rfl) (fun _ _ _ h => h) (Or.inl ⟨by rfl, ?_⟩) (by assumption) ?_; rotate_left; · (intro w' hSw; (try dsimp only at hSw); go_simp; (try with_reducible rfl))
      try simp only [Act.put, List.setIfInBounds_toArray, List.set_cons_zero, List.set_cons_succ]
      refine take_to (i := 3) (d := some 11) (v := ?_) (l' := #[true, true, true, true, false, false, false, false, false, false, false, false]) rfl rfl (by kernel_rfl) (by kernel_rfl) (by kernel_rfl) (by kernel_rfl) (fun _ _ _ h => h) (Or.inl ⟨by rfl, ?_⟩) (by assumption) ?_; rotate_left; · (intro w' hSw; (try dsimp only at hSw); go_simp; (try with_reducible rfl))
      try simp only [Act.put, List.setIfInBounds_toArray, List.set_cons_zero, List.set_cons_succ]
      refine take_to (i := 4) (d := some 12) (v := ?_) (l' := #[true, true, true, true, true, false, false, false, false, false, false, false]) rfl rfl (by kernel_rfl) (by kernel_rfl) (by kernel_rfl) (by kernel_rfl) (fun _ _ _ h => h) (Or.inl ⟨by rfl, ?_⟩) (by assumption) ?_; rotate_left; · (intro w' hSw; (try dsimp only at hSw); go_simp; (try with_reducible rfl))
      try simp only [Act.put, List.setIfInBounds_toArray, List.set_cons_zero, List.set_cons_succ]
      refine take_to (i := 5) (d := some 13) (v := ?_) (l' := #[true, true, true, true, true, true, false, false, false, false, false, false]) rfl rfl (by kernel_rfl) (by kernel_rfl) (by kernel_rfl) (by kernel_rfl) (fun _ _ _ h => h) (Or.inl ⟨by rfl, ?_⟩) (by assumption) ?_; rotate_left; · (intro w' hSw; (try dsimp only at hSw); go_simp; (try with_reducible rfl))
      try simp only [Act.put, List.setIfInBounds_toArray, List.set_cons_zero, List.set_cons_succ]
      refine take_to (i := 6) (d := some 14) (v := ?_) (l' := #[true, true, true, true, true, true, true, false, false, false, false, false]) rfl rfl (by kernel_rfl) (by kernel_rfl) (by kernel_rfl) (by kernel_rfl) (fun _ _ _ h => h) (Or.inl ⟨by rfl, ?_⟩) (by assumption) ?_; rotate_left; · (intro w' hSw; (try dsimp only at hSw); go_simp; (try with_reducible rfl))
      try simp only [Act.put, List.setIfInBounds_toArray, List.set_cons_zero, List.set_cons_succ]
      refine take_to (i := 7) (d := some 15) (v := ?_) (l' := #[true, true, true, true, true, true, true, true, false, false, false, false]) rfl rfl (by kernel_rfl) (by kernel_rfl) (by kernel_rfl) (by kernel_rfl) (fun _ _ _ h => h) (Or.inl ⟨by rfl, ?_⟩) (by assumption) ?_; rotate_left; · (intro w' hSw; (try dsimp only at hSw); go_simp; (try with_reducible rfl))
      try simp only [Act.put, List.setIfInBounds_toArray, List.set_cons_zero, List.set_cons_succ]
      refine take_to (i := 8) (d := some 16) (v := ?_) (l' := #[true, true, true, true, true, true, true, true, true, false, false, false]) rfl rfl (by kernel_rfl) (by kernel_rfl) (by kernel_rfl) (by kernel_rfl) (fun _ _ _ h => h) (Or.inl ⟨by rfl, ?_⟩) (by assumption) ?_; rotate_left; · (intro w' hSw; (try dsimp only at hSw); go_simp; (try with_reducible rfl))
      try simp only [Act.put, List.setIfInBounds_toArray, List.set_cons_zero, List.set_cons_succ]
      refine two_to (i := 9) (j := 10) (l1 := #[true, true, true, true, true, true, true, true, true, true, false, false]) (l2 := #[true, true, true, true, true, true, true, true, true, false, true, false]) rfl rfl (by kernel_rfl) (by kernel_rfl) (by kernel_rfl) (fun K hK => ?_) (fun K hK => ?_)
      · skip
        go_simp
        refine (HC.out _).mono ?_
        rintro e w1 ⟨rfl, hb1⟩
        dsimp only
        try have hrow := row3 (sl_go HL.out hb1)
        refine hK.out _ _ (by trivial) (fun hHeld => ?_)
        clear hK K
        try simp only [Act.put, List.setIfInBounds_toArray, List.set_cons_zero, List.set_cons_succ]
        refine one_to (i := 10) (l' := #[true, true, true, true, true, true, true, true, true, true, true, false]) rfl (by kernel_rfl) (by kernel_rfl) (fun K hK => ?_)
        go_simp
        try have HL := Lib.hid (show ((w.alloc (.cells #[.int .i64 0, .int .i64 0, .int .i64 0] 45)).drew).heap[w.heap.size]? = some (.cells #[.int .i64 0, .int .i64 0, .int .i64 0] 45 (0, 0)) from sl_at rfl)
        refine hK.out _ _ (by trivial) (fun hHeld => ?_)
        clear hK K
        try simp only [Act.put, List.setIfInBounds_toArray, List.set_cons_zero, List.set_cons_succ]
        refine one_to (i := 11) (l' := #[true, true, true, true, true, true, true, true, true, true, true, true]) rfl (by kernel_rfl) (by kernel_rfl) (fun K hK => ?_)
        try obtain ⟨c0, c1, c2, fr, hz1⟩ := hrow
        go_simp
        refine hK.out _ _ (by trivial) (fun hHeld => ?_)
        clear hK K
        try simp only [Act.put, List.setIfInBounds_toArray, List.set_cons_zero, List.set_cons_succ]
        refine wpAnyH_done (by kernel_rfl) ?_ _
        refine NoPanic.normal ?_
        go_wp2_with fail
        go_meet
        first
          | exact ⟨w1.heap.size, rfl, Below.alloc (((Below.refl w.heap.size w).drew).trans hb1) hb1.size _, sl_at rfl⟩
          | exact ⟨w.heap.size, rfl, below_put3 _ _ _ ((below_new _).drew.trans (hb1.mono (by simp))) (Nat.le_refl _), put3 _ _ _ (sl_go HL.out hb1)⟩
      · skip
        go_simp
        try have HL := Lib.hid (show ((w.alloc (.cells #[.int .i64 0, .int .i64 0, .int .i64 0] 45)).drew).heap[w.heap.size]? = some (.cells #[.int .i64 0, .int .i64 0, .int .i64 0] 45 (0, 0)) from sl_at rfl)
        refine hK.out _ _ (by trivial) (fun hHeld => ?_)
        clear hK K
        try simp only [Act.put, List.setIfInBounds_toArray, List.set_cons_zero, List.set_cons_succ]
        refine one_to (i := 9) (l' := #[true, true, true, true, true, true, true, true, true, true, true, false]) rfl (by kernel_rfl) (by kernel_rfl) (fun K hK => ?_)
        go_simp
        refine (HC.out _).mono ?_
        rintro e w1 ⟨rfl, hb1⟩
        dsimp only
        try have hrow := row3 (sl_go HL.out hb1)
        refine hK.out _ _ (by trivial) (fun hHeld => ?_)
        clear hK K
        try simp only [Act.put, List.setIfInBounds_toArray, List.set_cons_zero, List.set_cons_succ]
        refine one_to (i := 11) (l' := #[true, true, true, true, true, true, true, true, true, true, true, true]) rfl (by kernel_rfl) (by kernel_rfl) (fun K hK => ?_)
        try obtain ⟨c0, c1, c2, fr, hz1⟩ := hrow
        go_simp
        refine hK.out _ _ (by trivial) (fun hHeld => ?_)
        clear hK K
        try simp only [Act.put, List.setIfInBounds_toArray, List.set_cons_zero, List.set_cons_succ]
        refine wpAnyH_done (by kernel_rfl) ?_ _
        refine NoPanic.normal ?_
        go_wp2_with fail
        go_meet
        first
          | exact ⟨w1.heap.size, rfl, Below.alloc (((Below.refl w.heap.size w).drew).trans hb1) hb1.size _, sl_at rfl⟩
          | exact ⟨w.heap.size, rfl, below_put3 _ _ _ ((below_new _).drew.trans (hb1.mono (by simp))) (Nat.le_refl _), put3 _ _ _ (sl_go HL.out hb1)⟩
    case rest =>
      obtain ⟨H, rfl, hbw, hl⟩ := hcut
      obtain ⟨p0, p1, p2, pfr, pz⟩ := row3 hl
      have HBW := Lib.hid hbw
      clear hl hbw
      cases b
      · go_wp2_with fail
        refine (onBsq_any A _).mono ?_
        rw [HSQ.out]
        rintro e w2 ⟨rfl, hb2⟩
        go_wp2
        go_ret2
        exact ⟨q_t HN.out, HBW.out.trans (hb2.mono HBW.out.size)⟩
      · go_wp2_with fail
        refine (onBsq_any A _).mono ?_
        rw [HSQ.out]
        rintro e w2 ⟨rfl, hb2⟩
        have d2 : w2.cell? ⟨H, 2, none⟩ = some (.int .i64 (sN A)) := by rw [hb2.cell (p := ⟨H, 2, none⟩) pz]; exact p2
        go_wp2
        go_ret2
        exact ⟨q_t (by rw [← HN.out]; exact HSN.out), HBW.out.trans (hb2.mono HBW.out.size)⟩
  · have hi : isN S = false := by unfold isN; simp [hz]
    have hn : nN S = 0 := by unfold nN; rw [hi]; rfl
    rw [hi, hn]
    clear hi hn
    go_enter Try.func8, Try.ntmps8
    go_wp2
    go_ret2
    exact ⟨rfl, Below.refl _ _⟩
end Go.Proofs.Ytaiihdkcpbkmaaa
