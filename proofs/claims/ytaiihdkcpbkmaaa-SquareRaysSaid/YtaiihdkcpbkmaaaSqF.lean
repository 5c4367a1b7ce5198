/-
  The walk of SquareRays.
-/
import Derived.Test.YtaiihdkcpbkmaaaSqE
namespace Go.Proofs.Ytaiihdkcpbkmaaa
open Go.RowKit
set_option linter.unusedSimpArgs false
set_option linter.unusedVariables false

/-- the places of a way, the begin ahead -/
def ps (s a b : Int) : Nat → Int
  | 0 => s
  | i + 1 => rq s a b i
theorem ps_step (s a b : Int) (i : Nat) : stp (ps s a b i) a b = ps s a b (i + 1) := by cases i <;> rfl
theorem ps_sq {s a b : Int} {n : Nat} (hs : sq s = true) (h : RayN s a b n) (i : Nat) (hi : i ≤ n) : sq (ps s a b i) = true := by
  cases i with
  | zero => exact hs
  | succ i => exact h.1 i (by omega)
theorem ps_end {s a b : Int} {n : Nat} (h : RayN s a b n) : ps s a b (n + 1) = -1 := by
  have h2 : sq (rq s a b n) = false := h.2
  show rq s a b n = -1
  cases n with
  | zero => rcases stp_or s a b with h3 | h3
            · exact h3
            · rw [show rq s a b 0 = stp s a b from rfl, h3] at h2; cases h2
  | succ n => rcases stp_or (rq s a b n) a b with h3 | h3
              · exact h3
              · rw [show rq s a b (n + 1) = stp (rq s a b n) a b from rfl, h3] at h2; cases h2
theorem ps_at {s a b : Int} {n : Nat} (h : RayN s a b n) (i : Nat) (hi : i ≤ n) : ps s a b i % 8 = s % 8 + (i : Int) * a ∧ ps s a b i / 8 = s / 8 + (i : Int) * b := by
  cases i with
  | zero => simp [ps]
  | succ i =>
    obtain ⟨_, h1, h2⟩ := rq_at i (h.1 i (by omega))
    exact ⟨by rw [show ps s a b (i + 1) = rq s a b i from rfl, h1]; push_cast; rfl, by rw [show ps s a b (i + 1) = rq s a b i from rfl, h2]; push_cast; rfl⟩
theorem ps_ne {s a b : Int} {n : Nat} (h : RayN s a b n) (hab : ¬ (a = 0 ∧ b = 0)) {i j : Nat} (hij : i < j) (hj : j ≤ n) : ps s a b i ≠ ps s a b j := by
  intro e
  obtain ⟨i1, i2⟩ := ps_at h i (by omega)
  obtain ⟨j1, j2⟩ := ps_at h j hj
  rw [e] at i1 i2
  have e1 : ((j : Int) - i) * a = 0 := by rw [Int.sub_mul]; omega
  have e2 : ((j : Int) - i) * b = 0 := by rw [Int.sub_mul]; omega
  rcases Int.mul_eq_zero.1 e1 with h1 | h1
  · omega
  · rcases Int.mul_eq_zero.1 e2 with h2 | h2
    · omega
    · exact hab ⟨h1, h2⟩
theorem ps_back {s a b : Int} {n : Nat} (h : RayN s a b n) (i : Nat) (hi : i < n) : stp (ps s a b (i + 1)) (-a) (-b) = ps s a b i := by
  rw [← ps_step]
  exact step_back (by rw [ps_step]; exact h.1 i hi)
/-- the way back leads over all of them -/
theorem rq_back {s a b : Int} {n : Nat} (h : RayN s a b n) (j : Nat) (hj : j < n) : rq (ps s a b n) (-a) (-b) j = ps s a b (n - 1 - j) := by
  induction j with
  | zero =>
    have := ps_back h (n - 1) (by omega)
    rw [show n - 1 + 1 = n by omega] at this
    exact this
  | succ j ih =>
    have h2 := ps_back h (n - 1 - (j + 1)) (by omega)
    rw [show n - 1 - (j + 1) + 1 = n - 1 - j by omega] at h2
    show stp (rq (ps s a b n) (-a) (-b) j) (-a) (-b) = _
    rw [ih (by omega)]
    exact h2
theorem back_long {s a b : Int} {n m : Nat} (hs : sq s = true) (h : RayN s a b n) (h2 : RayN (ps s a b n) (-a) (-b) m) : n ≤ m := by
  rcases Nat.lt_or_ge m n with hlt | hge
  · have h3 := rq_back h m hlt
    have h4 := h2.2
    rw [h3, ps_sq hs h _ (by omega)] at h4
    cases h4
  · exact hge
theorem ray_small {s a b : Int} {n : Nat} (hs : sq s = true) (h : RayN s a b n) (hn : 0 < n) : -7 ≤ a ∧ a ≤ 7 ∧ -7 ≤ b ∧ b ≤ 7 := by
  obtain ⟨i1, i2⟩ := ps_at h 1 (by omega)
  obtain ⟨s0, s1⟩ := (sq_iff s).1 hs
  obtain ⟨t0, t1⟩ := (sq_iff _).1 (ps_sq hs h 1 (by omega))
  omega

set_option maxHeartbeats 4000000 in
set_option maxRecDepth 100000 in
theorem rays_none (c : Int) (w : World) :
    Calls Try.prog 6 #[.int .i64 c, .int .i64 0, .int .i64 0] w fun e w' => e = .returned (.bool true) ∧ Below w.heap.size w w' := by
  go_enter Try.func6, Try.ntmps6
  go_wp2_with fail
  refine (awakeS_any _).mono ?_
  rintro e w1 ⟨rfl, hb1⟩
  go_wp2_with fail
  refine (pick64_any c _).mono ?_
  rintro e w' ⟨rfl, rfl⟩
  go_wp2_with fail
  refine (ray_none (c % 64) _).mono ?_
  rintro e w2 ⟨rfl, hb2⟩
  have HB2 := Lib.hid (hb1.trans (hb2.mono hb1.size))
  clear hb1 hb2
  go_wp2
  go_loopw [9, 10] (fun a i wr => i = .int .i64 0 ∧ wr = w2) (fun _ _ _ => 0)
  case atStart => exact ⟨rfl, rfl⟩
  case round =>
    obtain ⟨rfl, rfl⟩ := hrel
    go_wp2
    go_ret
    exact ⟨rfl, HB2.out⟩
set_option maxHeartbeats 4000000 in
set_option maxRecDepth 100000 in
theorem rays_some (c a b : Int) (w : World) (ha : I64 a) (hb : I64 b) (hab : ¬ (a = 0 ∧ b = 0)) :
    Calls Try.prog 6 #[.int .i64 c, .int .i64 a, .int .i64 b] w fun e w' => e = .returned (.bool true) ∧ Below w.heap.size w w' := by
  obtain ⟨x, hx⟩ : ∃ x, c % 64 = x := ⟨_, rfl⟩
  have x0 : 0 ≤ x ∧ x < 64 := by omega
  have hs : sq x = true := (sq_iff x).2 x0
  have P1 := pick64_any c
  rw [hx] at P1
  clear hx
  obtain ⟨n, hn7, hn⟩ := rayN_ex x a b hab
  have hab' : (a == 0 && b == 0) = false := by
    cases h1 : a == 0 <;> cases h2 : b == 0 <;> simp at h1 h2 ⊢
    exact hab ⟨h1, h2⟩
  have HS := Lib.hid hs
  have HN := Lib.hid hn
  have HAB := Lib.hid hab
  have P1 := Lib.hid P1
  clear hs hn hab
  go_enter Try.func6, Try.ntmps6
  go_wp2_with fail
  refine (awakeS_any _).mono ?_
  rintro e w1 ⟨rfl, hb1⟩
  go_wp2_with fail
  refine (P1.out _).mono ?_
  rintro e w' ⟨rfl, rfl⟩
  go_wp2_with fail
  refine (ray_any x a b n _ ha hb HAB.out HN.out hn7).mono ?_
  rintro e w2 ⟨v, rfl, hb2, hown⟩
  obtain ⟨p, cc, rfl, hr, _⟩ := sq_reads hown
  have HB2 := Lib.hid (hb1.trans (hb2.mono hb1.size))
  have HR := Lib.hid hr
  clear hb1 hb2 hown hr
  have d7 : decide ((7 : Int) < (n : Int)) = false := by simp; omega
  go_upto_region 5 with (fail)
  go_cut [37] from 22 to 37 (fun t wx => t = .bool false ∧ wx = w2)
  case first =>
    by_cases h1 : a = 0
    · have h2 : ¬ b = 0 := fun h2 => HAB.out ⟨h1, h2⟩
      have d1 : (a == 0) = true := by simp [h1]
      have d2 : (b == 0) = false := by simp [h2]
      clear h1
      go_wp2_with fail
      go_meet
      exact ⟨rfl, rfl⟩
    · have d1 : (a == 0) = false := by simp [h1]
      go_wp2_with fail
      go_meet
      exact ⟨rfl, rfl⟩
  case rest =>
    obtain ⟨rfl, rfl⟩ := hcut
    go_wp2
    go_loopw [9, 10] (fun at_ i wr => ∃ k : Nat, k ≤ n ∧ i = .int .i64 (k : Int) ∧ at_ = .int .i64 (ps x a b k) ∧ Below wc.heap.size wc wr) (fun _ i _ => n - (intOf i).toNat)
    case atStart => exact ⟨0, Nat.zero_le _, rfl, rfl, Below.refl _ _⟩
    case round =>
      obtain ⟨k, hk, rfl, rfl, hbk⟩ := hrel
      by_cases hlt : k < n
      · rcases HR.out.below hbk with h0 | ⟨b0, off, rfl, hbb, hc⟩
        · omega
        have hcell : wr.cell? ⟨b0, off + k, none⟩ = some (.int .i64 (rq x a b k)) := hc k hlt
        have hne : (rq x a b k == x) = false := by
          have := ps_ne HN.out HAB.out (i := 0) (j := k + 1) (by omega) (by omega)
          simp only [beq_eq_false_iff_ne]
          exact fun e => this e.symm
        have HST := Lib.hid (ps_step x a b k)
        have HC := Lib.hid hc
        have HBK := Lib.hid hbk
        have hbr0 := Lib.hid hbk
        clear hc hbk
        obtain ⟨y, hy⟩ : ∃ y, rq x a b k = y := ⟨_, rfl⟩
        rw [show ps x a b (k + 1) = rq x a b k from rfl, hy] at HST
        rw [hy] at hcell hne
        obtain ⟨z, hz⟩ : ∃ z, ps x a b k = z := ⟨_, rfl⟩
        rw [hz] at HST ⊢
        have HY := Lib.hid hy
        have HZ := Lib.hid hz
        clear hy hz
        go_upto_region 11 with (fail)
        have HCE := Lib.hid (show wr.drew.cell? ⟨b0, off + k, none⟩ = some (.int .i64 y) from hcell)
        clear hcell
        refine wp_region_noPanic ?_
        refine wp_region_start (n := 17) (l := #[false, false, false, false, false, false, false, false, false, false, false, false, false, false, false, false, false]) (S := (fun W => W.cell? ⟨b0, off + k, none⟩ = some (.int .i64 y))) (by kernel_rfl) rfl (by kernel_rfl) (by exact HCE.out) (fun hHeld => ?_)
        refine take_to (i := 0) (d := some 45) (v := ?_) (l' := #[true, false, false, false, false, false, false, false, false, false, false, false, false, false, false, false, false]) rfl rfl (by kernel_rfl) (by kernel_rfl) (by kernel_rfl) (by kernel_rfl) (fun _ _ _ h => h) (Or.inl ⟨by rfl, ?_⟩) (by assumption) ?_; rotate_left; · (intro w' hSw; (try dsimp only at hSw); go_simp; (try with_reducible rfl))
        try simp only [Act.put, List.setIfInBounds_toArray, List.set_cons_zero, List.set_cons_succ]
        refine take_to (i := 1) (d := some 46) (v := ?_) (l' := #[true, true, false, false, false, false, false, false, false, false, false, false, false, false, false, false, false]) rfl rfl (by kernel_rfl) (by kernel_rfl) (by kernel_rfl) (by kernel_rfl) (fun _ _ _ h => h) (Or.inl ⟨by rfl, ?_⟩) (by assumption) ?_; rotate_left; · (intro w' hSw; (try dsimp only at hSw); go_simp; (try with_reducible rfl))
        try simp only [Act.put, List.setIfInBounds_toArray, List.set_cons_zero, List.set_cons_succ]
        refine take_to (i := 2) (d := some 47) (v := ?_) (l' := #[true, true, true, false, false, false, false, false, false, false, false, false, false, false, false, false, false]) rfl rfl (by kernel_rfl) (by kernel_rfl) (by kernel_rfl) (by kernel_rfl) (fun _ _ _ h => h) (Or.inl ⟨by rfl, ?_⟩) (by assumption) ?_; rotate_left; · (intro w' hSw; (try dsimp only at hSw); go_simp; (try with_reducible rfl))
        try simp only [Act.put, List.setIfInBounds_toArray, List.set_cons_zero, List.set_cons_succ]
        refine take_to (i := 3) (d := some 48) (v := ?_) (l' := #[true, true, true, true, false, false, false, false, false, false, false, false, false, false, false, false, false]) rfl rfl (by kernel_rfl) (by kernel_rfl) (by kernel_rfl) (by kernel_rfl) (fun _ _ _ h => h) (Or.inl ⟨by rfl, ?_⟩) (by assumption) ?_; rotate_left; · (intro w' hSw; (try dsimp only at hSw); go_simp; (try with_reducible rfl))
        try simp only [Act.put, List.setIfInBounds_toArray, List.set_cons_zero, List.set_cons_succ]
        refine take_to (i := 4) (d := some 49) (v := ?_) (l' := #[true, true, true, true, true, false, false, false, false, false, false, false, false, false, false, false, false]) rfl rfl (by kernel_rfl) (by kernel_rfl) (by kernel_rfl) (by kernel_rfl) (fun _ _ _ h => h) (Or.inl ⟨by rfl, ?_⟩) (by assumption) ?_; rotate_left; · (intro w' hSw; (try dsimp only at hSw); go_simp; (try with_reducible rfl))
        try simp only [Act.put, List.setIfInBounds_toArray, List.set_cons_zero, List.set_cons_succ]
        refine take_to (i := 5) (d := some 50) (v := ?_) (l' := #[true, true, true, true, true, true, false, false, false, false, false, false, false, false, false, false, false]) rfl rfl (by kernel_rfl) (by kernel_rfl) (by kernel_rfl) (by kernel_rfl) (fun _ _ _ h => h) (Or.inl ⟨by rfl, ?_⟩) (by assumption) ?_; rotate_left; · (intro w' hSw; (try dsimp only at hSw); go_simp; (try with_reducible rfl))
        try simp only [Act.put, List.setIfInBounds_toArray, List.set_cons_zero, List.set_cons_succ]
        refine take_to (i := 6) (d := some 51) (v := ?_) (l' := #[true, true, true, true, true, true, true, false, false, false, false, false, false, false, false, false, false]) rfl rfl (by kernel_rfl) (by kernel_rfl) (by kernel_rfl) (by kernel_rfl) (fun _ _ _ h => h) (Or.inl ⟨by rfl, ?_⟩) (by assumption) ?_; rotate_left; · (intro w' hSw; (try dsimp only at hSw); go_simp; (try with_reducible rfl))
        try simp only [Act.put, List.setIfInBounds_toArray, List.set_cons_zero, List.set_cons_succ]
        refine take_to (i := 7) (d := some 52) (v := ?_) (l' := #[true, true, true, true, true, true, true, true, false, false, false, false, false, false, false, false, false]) rfl rfl (by kernel_rfl) (by kernel_rfl) (by kernel_rfl) (by kernel_rfl) (fun _ _ _ h => h) (Or.inl ⟨by rfl, ?_⟩) (by assumption) ?_; rotate_left; · (intro w' hSw; (try dsimp only at hSw); go_simp; (try with_reducible rfl))
        try simp only [Act.put, List.setIfInBounds_toArray, List.set_cons_zero, List.set_cons_succ]
        refine take_to (i := 8) (d := some 53) (v := ?_) (l' := #[true, true, true, true, true, true, true, true, true, false, false, false, false, false, false, false, false]) rfl rfl (by kernel_rfl) (by kernel_rfl) (by kernel_rfl) (by kernel_rfl) (fun _ _ _ h => h) (Or.inl ⟨by rfl, ?_⟩) (by assumption) ?_; rotate_left; · (intro w' hSw; (try dsimp only at hSw); go_simp; (try with_reducible rfl))
        try simp only [Act.put, List.setIfInBounds_toArray, List.set_cons_zero, List.set_cons_succ]
        refine take_to (i := 9) (d := some 54) (v := ?_) (l' := #[true, true, true, true, true, true, true, true, true, true, false, false, false, false, false, false, false]) rfl rfl (by kernel_rfl) (by kernel_rfl) (by kernel_rfl) (by kernel_rfl) (fun _ _ _ h => h) (Or.inl ⟨by rfl, ?_⟩) (by assumption) ?_; rotate_left; · (intro w' hSw; (try dsimp only at hSw); go_simp; (try with_reducible rfl))
        try simp only [Act.put, List.setIfInBounds_toArray, List.set_cons_zero, List.set_cons_succ]
        refine take_to (i := 11) (d := some 56) (v := ?_) (l' := #[true, true, true, true, true, true, true, true, true, true, false, true, false, false, false, false, false]) rfl rfl (by kernel_rfl) (by kernel_rfl) (by kernel_rfl) (by kernel_rfl) (fun _ _ _ h => h) (Or.inl ⟨by rfl, ?_⟩) (by assumption) ?_; rotate_left; · (intro w' hSw; (try dsimp only at hSw); go_simp; (try with_reducible rfl))
        try simp only [Act.put, List.setIfInBounds_toArray, List.set_cons_zero, List.set_cons_succ]
        refine take_to (i := 12) (d := some 57) (v := ?_) (l' := #[true, true, true, true, true, true, true, true, true, true, false, true, true, false, false, false, false]) rfl rfl (by kernel_rfl) (by kernel_rfl) (by kernel_rfl) (by kernel_rfl) (fun _ _ _ h => h) (Or.inl ⟨by rfl, ?_⟩) (by assumption) ?_; rotate_left; · (intro w' hSw; (try dsimp only at hSw); go_simp; (try with_reducible rfl))
        try simp only [Act.put, List.setIfInBounds_toArray, List.set_cons_zero, List.set_cons_succ]
        refine take_to (i := 13) (d := some 58) (v := ?_) (l' := #[true, true, true, true, true, true, true, true, true, true, false, true, true, true, false, false, false]) rfl rfl (by kernel_rfl) (by kernel_rfl) (by kernel_rfl) (by kernel_rfl) (fun _ _ _ h => h) (Or.inl ⟨by rfl, ?_⟩) (by assumption) ?_; rotate_left; · (intro w' hSw; (try dsimp only at hSw); go_simp; (try with_reducible rfl))
        try simp only [Act.put, List.setIfInBounds_toArray, List.set_cons_zero, List.set_cons_succ]
        refine take_to (i := 14) (d := some 59) (v := ?_) (l' := #[true, true, true, true, true, true, true, true, true, true, false, true, true, true, true, false, false]) rfl rfl (by kernel_rfl) (by kernel_rfl) (by kernel_rfl) (by kernel_rfl) (fun _ _ _ h => h) (Or.inl ⟨by rfl, ?_⟩) (by assumption) ?_; rotate_left; · (intro w' hSw; (try dsimp only at hSw); go_simp; (try with_reducible rfl))
        try simp only [Act.put, List.setIfInBounds_toArray, List.set_cons_zero, List.set_cons_succ]
        refine one_to (i := 10) (l' := #[true, true, true, true, true, true, true, true, true, true, true, true, true, true, true, false, false]) rfl (by kernel_rfl) (by kernel_rfl) (fun K hK => ?_)
        go_simp
        refine (step_any z a b _ ha hb).mono ?_
        rw [HST.out]
        rintro e w3 ⟨rfl, hb3⟩
        replace HCE := Lib.hid ((hb3.cell (p := ⟨b0, off + k, none⟩) (Nat.lt_of_lt_of_le hbb (HBK.out.size))).trans HCE.out)
        replace HBK := Lib.hid (HBK.out.drew.trans (hb3.mono HBK.out.size))
        clear hb3
        dsimp only
        refine hK.out _ _ (by exact HCE.out) (fun hHeld => ?_)
        clear hK K
        try simp only [Act.put, List.setIfInBounds_toArray, List.set_cons_zero, List.set_cons_succ]
        refine take_to (i := 15) (d := some 60) (v := ?_) (l' := #[true, true, true, true, true, true, true, true, true, true, true, true, true, true, true, true, false]) rfl rfl (by kernel_rfl) (by kernel_rfl) (by kernel_rfl) (by kernel_rfl) (fun _ _ _ h => h) (Or.inl ⟨by rfl, ?_⟩) (by assumption) ?_; rotate_left; · (intro w' hSw; (try dsimp only at hSw); go_simp; (try with_reducible rfl))
        try simp only [Act.put, List.setIfInBounds_toArray, List.set_cons_zero, List.set_cons_succ]
        refine take_to (i := 16) (d := some 61) (v := ?_) (l' := #[true, true, true, true, true, true, true, true, true, true, true, true, true, true, true, true, true]) rfl rfl (by kernel_rfl) (by kernel_rfl) (by kernel_rfl) (by kernel_rfl) (fun _ _ _ h => h) (Or.inl ⟨by rfl, ?_⟩) (by assumption) ?_; rotate_left; · (intro w' hSw; (try dsimp only at hSw); go_simp; (try with_reducible rfl))
        try simp only [Act.put, List.setIfInBounds_toArray, List.set_cons_zero, List.set_cons_succ]
        refine wpAnyH_done (by kernel_rfl) ?_ _
        refine NoPanic.normal ?_
        clear hHeld
        have hc3 := HCE.out
        clear HCE
        go_wp2
        obtain ⟨wo, hwo⟩ : ∃ wo : World, wo = wr := ⟨_, rfl⟩
        subst hwo
        go_loopw [11] (fun i wr => ∃ j : Nat, j ≤ k ∧ i = .int .i64 (j : Int) ∧ Below wc.heap.size wc wr ∧ wr.cell? ⟨b0, off + k, none⟩ = some (.int .i64 y)) (fun i _ => k - (intOf i).toNat)
        case atStart => exact ⟨0, Nat.zero_le _, rfl, HBK.out, hc3⟩
        case round =>
          clear HBK hc3
          obtain ⟨j, hj, rfl, hbq, hck⟩ := hrel
          by_cases hjk : j < k
          · have hcj : wr.cell? ⟨b0, off + j, none⟩ = some (.int .i64 (rq x a b j)) := by
              rw [hbq.cell (p := ⟨b0, off + j, none⟩) hbb]
              exact (hbr0.out.cell (p := ⟨b0, off + j, none⟩) hbb).symm.trans (HC.out j (by omega))
            have hnj : (rq x a b j == y) = false := by
              have := ps_ne HN.out HAB.out (i := j + 1) (j := k + 1) (by omega) (by omega)
              rw [← HY.out]
              simp only [beq_eq_false_iff_ne]
              exact this
            have HQ := Lib.hid hbq
            have HCK := Lib.hid hck
            clear hbq
            go_wp2
            go_region
            go_wp2
            go_roundw
            case rel => exact ⟨j + 1, by omega, by go_num, HQ.out.drew, HCK.out⟩
            case measure => simp [intOf]; omega
          · obtain rfl : j = k := by omega
            have HQ := Lib.hid hbq
            have HCK := Lib.hid hck
            clear hbq
            go_wp2
            go_roundw
            case rel => exact ⟨j + 1, by omega, by go_num, by rw [show ps x a b (j + 1) = rq x a b j from rfl, HY.out], HQ.out⟩
            case measure => simp [intOf]; omega
      · obtain rfl : k = n := by omega
        have HEN := Lib.hid (show stp (ps x a b k) a b = -1 from (ps_step x a b k).trans (ps_end HN.out))
        have HBK := Lib.hid hbk
        clear hbk
        cases k with
        | zero =>
          have HE0 := Lib.hid (show stp x a b = -1 from HEN.out)
          by_cases h1 : a = 0
          · have h2 : ¬ b = 0 := fun h2 => HAB.out ⟨h1, h2⟩
            have d1 : (a == 0) = true := by simp [h1]
            have d2 : (b == 0) = false := by simp [h2]
            clear h1
            go_wp2_with fail
            refine (step_any x a b _ ha hb).mono ?_
            rw [HE0.out]
            rintro e w3 ⟨rfl, hb3⟩
            go_wp2
            go_ret
            exact ⟨rfl, HB2.out.trans ((HBK.out.trans (hb3.mono HBK.out.size)).mono HB2.out.size)⟩
          · have d1 : (a == 0) = false := by simp [h1]
            go_wp2_with fail
            refine (step_any x a b _ ha hb).mono ?_
            rw [HE0.out]
            rintro e w3 ⟨rfl, hb3⟩
            go_wp2
            go_ret
            exact ⟨rfl, HB2.out.trans ((HBK.out.trans (hb3.mono HBK.out.size)).mono HB2.out.size)⟩
        | succ n =>
          have hsm := ray_small HS.out HN.out (by omega)
          obtain ⟨m, hm7, hm⟩ := rayN_ex (ps x a b (n + 1)) (-a) (-b) (fun h => HAB.out (by omega))
          have hnm := back_long HS.out HN.out hm
          have HBA := Lib.hid (fun j hj => rq_back HN.out j hj)
          obtain ⟨q, hq⟩ : ∃ q, ps x a b (n + 1) = q := ⟨_, rfl⟩
          rw [hq] at hm HEN HBA ⊢
          have HM := Lib.hid hm
          clear hm hq
          have hna : I64 (-a) := i64_of (by omega) (by omega)
          have hnb : I64 (-b) := i64_of (by omega) (by omega)
          go_wp2_with fail
          refine (ray_any q (-a) (-b) m _ hna hnb (fun h => HAB.out (by omega)) HM.out hm7).mono ?_
          rintro e w3 ⟨v, rfl, hb3, hown⟩
          obtain ⟨p2, c2, rfl, hr2, _⟩ := sq_reads hown
          have HB3 := Lib.hid (HBK.out.trans (hb3.mono HBK.out.size))
          have HR3 := Lib.hid (HR.out.below HB3.out)
          clear hown hb3 HBK
          rcases hr2 with h0 | ⟨b2, off2, rfl, hbb2, hc2⟩
          · omega
          rcases HR3.out with h0 | ⟨b1, off1, rfl, hbb1, hc1⟩
          · omega
          have HC2 := Lib.hid hc2
          have HC1 := Lib.hid hc1
          have hcx : w3.cell? ⟨b2, off2 + n, none⟩ = some (.int .i64 x) := by
            rw [hc2 n (by omega)]
            show some (Value.int .i64 (rq q (-a) (-b) n)) = _
            rw [HBA.out n (by omega), show n + 1 - 1 - n = 0 by omega]; rfl
          clear hc2 hc1
          go_wp2_with fail
          refine (step_any q a b _ ha hb).mono ?_
          rw [HEN.out]
          rintro e w4 ⟨rfl, hb4⟩
          clear hcx
          have HB4 := Lib.hid hb4
          clear hb4
          go_wp2
          go_loopw [13] (fun i wr => ∃ j : Nat, j ≤ n ∧ i = .int .i64 (j : Int) ∧ Below w3.heap.size w3 wr) (fun i _ => n - (intOf i).toNat)
          case atStart => exact ⟨0, Nat.zero_le _, rfl, HB4.out⟩
          case round =>
            obtain ⟨j, hj, rfl, hbj⟩ := hrel
            by_cases hjn : j < n
            · have e2 : w3.cell? ⟨b2, off2 + j, none⟩ = some (.int .i64 (rq x a b (n - 1 - j))) := by
                rw [HC2.out j (by omega)]
                show some (Value.int .i64 (rq q (-a) (-b) j)) = _
                rw [HBA.out j (by omega), show n + 1 - 1 - j = n - 1 - j + 1 by omega]; rfl
              have d2 : wr.cell? ⟨b2, off2 + j, none⟩ = some (.int .i64 (rq x a b (n - 1 - j))) := (hbj.cell (p := ⟨b2, off2 + j, none⟩) hbb2).trans e2
              have d1 : wr.cell? ⟨b1, off1 + (n - 1 - j), none⟩ = some (.int .i64 (rq x a b (n - 1 - j))) := (hbj.cell (p := ⟨b1, off1 + (n - 1 - j), none⟩) (Nat.lt_of_lt_of_le hbb1 HB3.out.size)).trans (HC1.out (n - 1 - j) (by omega))
              have HJ := Lib.hid hbj
              clear e2 hbj
              obtain ⟨t, ht⟩ : ∃ t : Nat, n - 1 - j = t := ⟨_, rfl⟩
              rw [ht] at d1 d2
              have q0 : IntKind.i64.wrap ((n : Int) + 1 - 2) = (n : Int) - 1 := by rw [show ((n : Int) + 1 - 2) = (n : Int) - 1 by omega]; exact IntWalk.i64_in _ (by omega)
              have q1 : IntKind.i64.wrap ((n : Int) - 1 - (j : Int)) = (t : Int) := by rw [show ((n : Int) - 1 - (j : Int)) = (t : Int) by omega]; exact IntWalk.i64_in _ (by omega)
              have q2 : t < n + 1 := by omega
              go_wp2
              go_region
              go_wp2
              go_roundw
              case rel => exact ⟨j + 1, by omega, by go_num, HJ.out.drew⟩
              case measure => simp [intOf]; omega
            · obtain rfl : j = n := by omega
              have HJ := Lib.hid (HB2.out.trans ((HB3.out.trans (hbj.mono HB3.out.size)).mono HB2.out.size))
              clear hbj
              go_wp2
              go_ret
              exact ⟨rfl, HJ.out⟩
theorem i64_wf' {n : Int} (h : (Lit.int .i64 n).wf = true) : I64 n := by
  simp [Lit.wf, IntKind.min, IntKind.max, IntKind.signed, IntKind.bits] at h; unfold I64; omega
theorem rays_walk (c a b : Int) (w : World) (ha : I64 a) (hb : I64 b) :
    Calls Try.prog 6 #[.int .i64 c, .int .i64 a, .int .i64 b] w fun e w' => e = .returned (.bool true) ∧ Below w.heap.size w w' := by
  by_cases h : a = 0 ∧ b = 0
  · obtain ⟨rfl, rfl⟩ := h
    exact rays_none c w
  · exact rays_some c a b w ha hb h
end Go.Proofs.Ytaiihdkcpbkmaaa
