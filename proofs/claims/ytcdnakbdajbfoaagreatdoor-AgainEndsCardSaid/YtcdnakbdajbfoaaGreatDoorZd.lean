/-
  The document's side of again: a position is put; the most.
-/
import Derived.Deep.CutRange
import Derived.Deep.CutBlock
import Derived.Test.YtcdnakbdajbfoaaGreatDoorZc
namespace Go.Proofs.YtcdnakbdajbfoaaGreatDoor
open Go.RowKit Go.Sort Go.Maps
set_option linter.unusedSimpArgs false
set_option linter.unusedVariables false
set_option maxRecDepth 20000

theorem cN_put (Ps : Nat → Nat → Int) (n : Nat) (Q : Nat → Int) : cN (putP Ps n Q) Q (n + 1) = cN Ps Q n + 1 := by
  show cN (putP Ps n Q) Q n + (if samB (putP Ps n Q n) Q then 1 else 0) = _
  rw [putP_at, samB_refl]
  have : ∀ m, m ≤ n → cN (putP Ps n Q) Q m = cN Ps Q m := fun m => by
    induction m with
    | zero => intro _; rfl
    | succ m ih =>
      intro hm
      show cN (putP Ps n Q) Q m + (if samB (putP Ps n Q m) Q then 1 else 0) = cN Ps Q m + (if samB (Ps m) Q then 1 else 0)
      rw [ih (by omega), putP_off _ _ _ (by omega)]
  rw [this n (Nat.le_refl _)]
  rfl
theorem posL_put (Ps : Nat → Nat → Int) (n : Nat) (Q : Nat → Int) : posL (putP Ps n Q) (n + 1) = posL Ps n ++ pc Q := by
  show posL (putP Ps n Q) n ++ pc (putP Ps n Q n) = _
  rw [putP_at, posL_congr n fun j hj => putP_off Ps n Q (by omega)]
theorem RK.nob {base rb : Nat} {sv : Value} {Ps : Nat → Nat → Int} {n : Nat} {W : World} (h : RK base rb sv Ps n W) : sv.ownBlock ≠ some rb := fun e => by
  rcases h.own.2 with ⟨hv, _⟩ | ⟨g, cap, cur, hv, _, hc, _⟩
  · rw [hv] at e; cases e
  · rw [hv] at e
    simp [Value.ownBlock] at e
    rw [e, h.c] at hc
    simp at hc
theorem own_sl {base n : Nat} {v : Value} {xs : List Value} {W : World} (h : W.ownsRow base 30 133 v n xs) : ∃ p c, v = .slice p n c := by
  rcases h.2 with ⟨rfl, rfl⟩ | ⟨g, cap, cur, rfl, _⟩
  · exact ⟨none, 0, rfl⟩
  · exact ⟨_, _, rfl⟩
theorem own_nob {base rb n : Nat} {sv v : Value} {xs : List Value} {W : World} (hc : W.heap[rb]? = some (.cells #[sv] 36 (0, 0))) (h : W.ownsRow base 30 133 v n xs) : v.ownBlock ≠ some rb := fun e => by
  rcases h.2 with ⟨hv, _⟩ | ⟨g, cap, cur, hv, _, hg, _⟩
  · rw [hv] at e; cases e
  · rw [hv] at e
    simp [Value.ownBlock] at e
    rw [e, hc] at hg
    simp at hg
theorem two_put {rb : Nat} {v v2 : Value} {w U U3 : World} (hb : Below w.heap.size w U) (hg : U.grownBy U3 v.ownBlock) (gs : U3.grownBy (U3.setCell ⟨rb, 0, none⟩ v2) (some rb)) : ∃ q, (q = rb ∨ v.ownBlock = some q) ∧ Two rb q w (U3.setCell ⟨rb, 0, none⟩ v2) := by
  cases hv : v.ownBlock with
  | none =>
    refine ⟨rb, .inl rfl, (Two.of hb).trans ?_⟩
    rw [hv] at hg
    exact (show Two rb rb U U3 from ⟨hg.os, hg.tape, hg.output, hg.size, fun k hk _ _ => hg.block k hk (by simp)⟩).trans (Two.grown gs (.inl rfl))
  | some q =>
    rw [hv] at hg
    exact ⟨q, .inr rfl, (Two.of hb).trans ((Two.grown hg (.inr rfl)).trans (Two.grown gs (.inl rfl)))⟩
set_option maxHeartbeats 4000000 in
set_option maxRecDepth 100000 in
theorem rPut12_any (base rb : Nat) (sv : Value) (Ps : Nat → Nat → Int) (n : Nat) (hn : n ≤ 900) (Q : Nat → Int) (hA : ∀ i, i < n → ovU (Ps i) = tkO (Ps i)) (hQ : ovU Q = tkO Q) (w : World) (h : RK base rb sv Ps n w) (hbw : base ≤ w.heap.size) :
    Calls Tryz.prog 15 #[.pointer (some ⟨rb, 0, none⟩), .agg (pc Q).toArray] w fun e w' => ∃ sv' q, e = .returned (.int .i64 ((cN Ps Q n : Nat) + 1 : Int)) ∧ RK base rb sv' (putP Ps n Q) (n + 1) w' ∧ (q = rb ∨ sv.ownBlock = some q) ∧ Two rb q w w' := by
  obtain ⟨X, hX⟩ : ∃ X, X = (pc Q).toArray := ⟨_, rfl⟩
  have HI := Lib.hid (show RV12 base rb sv Ps n Q w (w.alloc (.cells X 30)) from ⟨by rw [hX]; exact PB.new rfl, h.go (below_new _), below_new _⟩)
  have HMY := Lib.hid (fun sv' W (h : RK base rb sv' (putP Ps n Q) (n + 1) W) => rMany12_any base rb sv' (putP Ps n Q) (n + 1) (by omega) Q (fun i hi => by
    by_cases e : i = n
    · subst e; rw [putP_at]; exact hQ
    · rw [putP_off _ _ _ e]; exact hA i (by omega)) hQ W h)
  rw [cN_put, ← hX] at HMY
  have HLT := Lib.hid (show w.heap.size ≠ rb ∧ sv.ownBlock ≠ some w.heap.size ∧ sv.ownBlock ≠ some rb from ⟨by have := h.lt; omega, fun e => by have := (h.own.lt _ e).2; omega, h.nob⟩)
  have HBW := Lib.hid hbw
  have HBR := Lib.hid h.hb
  rw [← hX]
  have HX := Lib.hid hX
  clear hX h hA hQ hbw
  go_enter Tryz.func15, Tryz.ntmps15
  go_upto_region 1 with (fail)
  refine forget_B (fun W => RV12 base rb sv Ps n Q w W) HI.out ?_
  clear HI
  intro W1 hi
  have HI := Lib.hid hi
  clear hi
  go_cut [] from 5 to 14 (fun wx => ∃ sv' q, RK base rb sv' (putP Ps n Q) (n + 1) wx ∧ (q = rb ∨ sv.ownBlock = some q) ∧ Two rb q w wx ∧ PB wx w.heap.size Q)
  case first =>
    refine wp_region_noPanic ?_
    refine wp_region_start (n := 11) (l := #[false, false, false, false, false, false, false, false, false, false, false]) (S := (fun W => PB W w.heap.size Q)) (by kernel_rfl) rfl (by kernel_rfl) (by first | exact HI.out.p | exact (HI.out.go (Below.refl _ _).drew).p) (fun hHeld => ?_)
    replace HI := Lib.hid (HI.out.go (Below.refl W1.heap.size W1).drew)
    generalize W1.drew = U at *
    refine tq (i := 0) (d := some 5) rfl rfl ?_
    try simp only [aP, sA, sZ, sS]
    refine tq (i := 1) (d := some 6) rfl rfl ?_
    try simp only [aP, sA, sZ, sS]
    refine tq (i := 2) (d := some 7) rfl rfl ?_
    try simp only [aP, sA, sZ, sS]
    refine tq (i := 3) (d := some 8) rfl rfl ?_
    try simp only [aP, sA, sZ, sS]
    refine tg (i := 5) (d := some 10) (v := (.agg X)) rfl rfl ?_ ?_
    · exact yields_posC (by rfl) _ (by rfl) w.heap.size Q X HX.out (by rfl) (fun W h => h)
    try simp only [aP, sA, sZ, sS]
    refine wg (i := 4) (j := 6) rfl rfl (by kernel_rfl) (fun K hK => ?_) (fun K hK => ?_)
    · skip
      obtain ⟨y0, yf, yz⟩ := row1 HI.out.k.c
      go_simp
      clear y0 yf yz
      refine hK.out _ _ (by first | exact HI.out.p | exact (HI.out.go (Below.refl _ _).drew).p) (fun hHeld => ?_)
      clear hK K
      try simp only [aP, sA, sZ, sS]
      refine og (i := 6) rfl (by kernel_rfl) (fun K hK => ?_)
      rw [if_pos (by rfl)]
      refine wp_sliceP 1 _ rfl [X] (fun V hx => by rw [List.mem_singleton.1 hx, HX.out]; exact pc_size Q) rfl (by omega) (by omega) (by rfl) ?_
      rw [show ([X].flatMap fun X => X.toList).toArray = X by simp]
      have HQN := Lib.hid (show PB (U.alloc (.cells X 30)) U.heap.size Q by rw [HX.out]; exact PB.new rfl)
      replace HI := Lib.hid (HI.out.go (below_new (.cells X 30)))
      generalize U.alloc (.cells X 30) = U2 at *
      generalize U.heap.size = nb at *
      refine hK.out _ _ (by first | exact HI.out.p | exact (HI.out.go (Below.refl _ _).drew).p) (fun hHeld => ?_)
      clear hK K
      try simp only [aP, sA, sZ, sS]
      refine og (i := 7) rfl (by kernel_rfl) (fun K hK => ?_)
      rw [if_pos (by rfl)]
      obtain ⟨ie, hie, hz1, hz2, hz3⟩ := infoPosAll
      obtain ⟨z, hz, hzs⟩ := hz1
      refine wp_append_own _ _ _ 22 rfl base 30 ie z 133 1064 Tryz.underlying22 hie hz hz2 hz3 hzs (by omega) _ _ _ rfl HI.out.k.own ⟨nb, 0, none⟩ 1 1 (pc Q) rfl (by rw [pc_len]) (fun j u hj => by rw [Go.WideShapes.add_plain]; exact HQN.out.range j u hj) (fun u hu => Array.all_eq_true'.1 (pc_one Q) u (by simpa using hu)) (by unfold maxLen; omega) (by omega) (Nat.le_trans HBW.out HI.out.b.size) (fun v2 U3 hown2 hgrow _ => ?_)
      obtain ⟨vp, vc, rfl⟩ := own_sl hown2
      rw [← posL_put] at hown2
      have HPP := Lib.hid (show PB U3 w.heap.size Q from by
    have e := hgrow.block w.heap.size HI.out.p.lt (fun e => HLT.out.2.1 e.symm)
    exact ⟨Nat.lt_of_lt_of_le HI.out.p.lt hgrow.size, fun i hi => by rw [World.cell?_of_block (a := ⟨w.heap.size, i, none⟩) e]; exact HI.out.p.cell i hi, fun i => by rw [← HI.out.p.fr i]; simp only [World.frozen?, e]⟩)
      have HC3 := Lib.hid ((hgrow.block rb HI.out.k.lt (fun e => HLT.out.2.2 e.symm)).trans HI.out.k.c)
      have HOW := Lib.hid hown2
      have HGR := Lib.hid hgrow
      clear hown2 hgrow hie hz hzs hz2 hz3
      refine hK.out _ _ (by exact HPP.out) (fun hHeld => ?_)
      clear hK K
      try simp only [aP, sA, sZ, sS]
      refine tq (i := 8) (d := some 13) rfl rfl ?_
      try simp only [aP, sA, sZ, sS]
      refine tq (i := 9) (d := some 14) rfl rfl ?_
      try simp only [aP, sA, sZ, sS]
      refine og (i := 10) rfl (by kernel_rfl) (fun K hK => ?_)
      obtain ⟨y0, yf, yz⟩ := row1 HC3.out
      go_simp
      clear y0 yf yz
      have hs := Go.heap_setCell_same U3 rb 0 _ _ (.slice vp (n + 1) vc) HC3.out
      have gs := gr1_B (hb := rb) (i := 0) (w := U3) (.slice vp (n + 1) vc)
      have HP := Lib.hid (HPP.out.gr12 gs (Ne.symm HLT.out.1))
      obtain ⟨qq, hqq, htw⟩ : ∃ q, (q = rb ∨ sv.ownBlock = some q) ∧ Two rb q w (U3.setCell ⟨rb, 0, none⟩ (.slice vp (n + 1) vc)) := two_put HI.out.b HGR.out gs
      have HQQ := Lib.hid hqq
      have HTW := Lib.hid htw
      have HK := Lib.hid (show RK base rb (.slice vp (n + 1) vc) (putP Ps n Q) (n + 1) (U3.setCell ⟨rb, 0, none⟩ (.slice vp (n + 1) vc)) from ⟨hs, HOW.out.kept gs (by cases hv : (Value.slice vp (n + 1) vc).ownBlock with | none => exact .inl rfl | some q => exact .inr (by rw [← hv]; exact own_nob HC3.out HOW.out)), HBR.out⟩)
      clear hs gs hqq htw
      refine hK.out _ _ (by exact HP.out) (fun hHeld => ?_)
      clear hK K
      try simp only [aP, sA, sZ, sS]
      refine wpAnyH_done (by kernel_rfl) ?_ _
      refine NoPanic.normal ?_
      clear hHeld
      go_wp2_with fail
      go_meet
      exact ⟨_, qq, HK.out, HQQ.out, HTW.out, HP.out⟩
    · skip
      rw [if_pos (by rfl)]
      refine wp_sliceP 1 _ rfl [X] (fun V hx => by rw [List.mem_singleton.1 hx, HX.out]; exact pc_size Q) rfl (by omega) (by omega) (by rfl) ?_
      rw [show ([X].flatMap fun X => X.toList).toArray = X by simp]
      have HQN := Lib.hid (show PB (U.alloc (.cells X 30)) U.heap.size Q by rw [HX.out]; exact PB.new rfl)
      replace HI := Lib.hid (HI.out.go (below_new (.cells X 30)))
      generalize U.alloc (.cells X 30) = U2 at *
      generalize U.heap.size = nb at *
      refine hK.out _ _ (by first | exact HI.out.p | exact (HI.out.go (Below.refl _ _).drew).p) (fun hHeld => ?_)
      clear hK K
      try simp only [aP, sA, sZ, sS]
      refine og (i := 4) rfl (by kernel_rfl) (fun K hK => ?_)
      obtain ⟨y0, yf, yz⟩ := row1 HI.out.k.c
      go_simp
      clear y0 yf yz
      refine hK.out _ _ (by first | exact HI.out.p | exact (HI.out.go (Below.refl _ _).drew).p) (fun hHeld => ?_)
      clear hK K
      try simp only [aP, sA, sZ, sS]
      refine og (i := 7) rfl (by kernel_rfl) (fun K hK => ?_)
      rw [if_pos (by rfl)]
      obtain ⟨ie, hie, hz1, hz2, hz3⟩ := infoPosAll
      obtain ⟨z, hz, hzs⟩ := hz1
      refine wp_append_own _ _ _ 22 rfl base 30 ie z 133 1064 Tryz.underlying22 hie hz hz2 hz3 hzs (by omega) _ _ _ rfl HI.out.k.own ⟨nb, 0, none⟩ 1 1 (pc Q) rfl (by rw [pc_len]) (fun j u hj => by rw [Go.WideShapes.add_plain]; exact HQN.out.range j u hj) (fun u hu => Array.all_eq_true'.1 (pc_one Q) u (by simpa using hu)) (by unfold maxLen; omega) (by omega) (Nat.le_trans HBW.out HI.out.b.size) (fun v2 U3 hown2 hgrow _ => ?_)
      obtain ⟨vp, vc, rfl⟩ := own_sl hown2
      rw [← posL_put] at hown2
      have HPP := Lib.hid (show PB U3 w.heap.size Q from by
    have e := hgrow.block w.heap.size HI.out.p.lt (fun e => HLT.out.2.1 e.symm)
    exact ⟨Nat.lt_of_lt_of_le HI.out.p.lt hgrow.size, fun i hi => by rw [World.cell?_of_block (a := ⟨w.heap.size, i, none⟩) e]; exact HI.out.p.cell i hi, fun i => by rw [← HI.out.p.fr i]; simp only [World.frozen?, e]⟩)
      have HC3 := Lib.hid ((hgrow.block rb HI.out.k.lt (fun e => HLT.out.2.2 e.symm)).trans HI.out.k.c)
      have HOW := Lib.hid hown2
      have HGR := Lib.hid hgrow
      clear hown2 hgrow hie hz hzs hz2 hz3
      refine hK.out _ _ (by exact HPP.out) (fun hHeld => ?_)
      clear hK K
      try simp only [aP, sA, sZ, sS]
      refine tq (i := 8) (d := some 13) rfl rfl ?_
      try simp only [aP, sA, sZ, sS]
      refine tq (i := 9) (d := some 14) rfl rfl ?_
      try simp only [aP, sA, sZ, sS]
      refine og (i := 10) rfl (by kernel_rfl) (fun K hK => ?_)
      obtain ⟨y0, yf, yz⟩ := row1 HC3.out
      go_simp
      clear y0 yf yz
      have hs := Go.heap_setCell_same U3 rb 0 _ _ (.slice vp (n + 1) vc) HC3.out
      have gs := gr1_B (hb := rb) (i := 0) (w := U3) (.slice vp (n + 1) vc)
      have HP := Lib.hid (HPP.out.gr12 gs (Ne.symm HLT.out.1))
      obtain ⟨qq, hqq, htw⟩ : ∃ q, (q = rb ∨ sv.ownBlock = some q) ∧ Two rb q w (U3.setCell ⟨rb, 0, none⟩ (.slice vp (n + 1) vc)) := two_put HI.out.b HGR.out gs
      have HQQ := Lib.hid hqq
      have HTW := Lib.hid htw
      have HK := Lib.hid (show RK base rb (.slice vp (n + 1) vc) (putP Ps n Q) (n + 1) (U3.setCell ⟨rb, 0, none⟩ (.slice vp (n + 1) vc)) from ⟨hs, HOW.out.kept gs (by cases hv : (Value.slice vp (n + 1) vc).ownBlock with | none => exact .inl rfl | some q => exact .inr (by rw [← hv]; exact own_nob HC3.out HOW.out)), HBR.out⟩)
      clear hs gs hqq htw
      refine hK.out _ _ (by exact HP.out) (fun hHeld => ?_)
      clear hK K
      try simp only [aP, sA, sZ, sS]
      refine wpAnyH_done (by kernel_rfl) ?_ _
      refine NoPanic.normal ?_
      clear hHeld
      go_wp2_with fail
      go_meet
      exact ⟨_, qq, HK.out, HQQ.out, HTW.out, HP.out⟩
  case rest =>
  obtain ⟨sv', qq, h1, h2, h3, h4⟩ := hcut
  have HK := Lib.hid h1
  have HQQ := Lib.hid h2
  have HTW := Lib.hid h3
  have HP := Lib.hid h4
  clear h1 h2 h3 h4
  go_wp2_with (first | refine wpList_pos (by rfl) _ (by rfl) w.heap.size Q X HX.out (by rfl) HP.out ?_ | fail)
  refine (HMY.out _ _ HK.out).mono ?_
  rintro e w5 ⟨rfl, hb⟩
  have HK5 := Lib.hid (HK.out.go hb)
  have HT5 := Lib.hid (HTW.out.trans (Two.of hb))
  clear hb HK HTW HMY
  dsimp only
  refine list_go (by assumption) ?_
  go_wp2
  go_ret
  exact ⟨_, qq, by first | rfl | (congr 2), HK5.out, HQQ.out, HT5.out⟩
theorem mostT_max : ∀ (T : List (List UInt8)) (k : List UInt8), cntT T k ≤ mostT T
  | [], _ => Nat.le_refl _
  | x :: T, k => by
    show _ ≤ max (mostT T) (cntT (x :: T) x)
    by_cases e : k = x
    · subst e; omega
    · rw [cntT_other T e]
      have := mostT_max T k
      omega
theorem mostT_some : ∀ (T : List (List UInt8)), T ≠ [] → ∃ k, k ∈ T ∧ mostT T = cntT T k
  | [], h => absurd rfl h
  | x :: T, _ => by
    show ∃ k, k ∈ x :: T ∧ max (mostT T) (cntT (x :: T) x) = cntT (x :: T) k
    by_cases h : mostT T ≤ cntT (x :: T) x
    · exact ⟨x, List.mem_cons_self .., by omega⟩
    · cases T with
      | nil => exact ⟨x, List.mem_cons_self .., by simp [mostT] at h⟩
      | cons y T =>
        obtain ⟨k, hk, e⟩ := mostT_some (y :: T) (by simp)
        refine ⟨k, List.mem_cons_of_mem _ hk, ?_⟩
        have h2 := mostT_max (x :: y :: T) k
        have h3 : cntT (y :: T) k ≤ cntT (x :: y :: T) k := by
          by_cases e2 : k = x
          · subst e2; rw [cntT_same]; omega
          · rw [cntT_other _ e2]; omega
        have h4 : mostT (x :: y :: T) = max (mostT (y :: T)) (cntT (x :: y :: T) x) := rfl
        omega
def mxN (Ps : Nat → Nat → Int) (n : Nat) : Nat → Nat
  | 0 => 0
  | i + 1 => max (mxN Ps n i) (cN Ps (Ps i) n)
theorem mxN_at (Ps : Nat → Nat → Int) (n : Nat) : ∀ m i, i < m → cN Ps (Ps i) n ≤ mxN Ps n m
  | 0, i, h => absurd h (Nat.not_lt_zero _)
  | m + 1, i, h => by
    show _ ≤ max _ _
    by_cases e : i = m
    · subst e; omega
    · have := mxN_at Ps n m i (by omega)
      omega
theorem mxN_max (Ps : Nat → Nat → Int) (n : Nat) : ∀ m, mxN Ps n m ≤ mostT (txN Ps n)
  | 0 => Nat.zero_le _
  | m + 1 => by
    show max _ _ ≤ _
    have h1 := mxN_max Ps n m
    have h2 := mostT_max (txN Ps n) (kyB (Ps m))
    rw [cnt_txN] at h2
    omega
theorem txN_mem (Ps : Nat → Nat → Int) : ∀ n k, k ∈ txN Ps n → ∃ i, i < n ∧ k = kyB (Ps i)
  | 0, _, h => by cases h
  | n + 1, k, h => by
    rcases List.mem_cons.1 h with e | e
    · exact ⟨n, by omega, e⟩
    · obtain ⟨i, hi, e2⟩ := txN_mem Ps n k e
      exact ⟨i, by omega, e2⟩
theorem most_is (Ps : Nat → Nat → Int) (n : Nat) : mxN Ps n n = mostT (txN Ps n) := by
  have h1 := mxN_max Ps n n
  by_cases e : txN Ps n = []
  · rw [e] at h1 ⊢
    have : mostT [] = 0 := rfl
    omega
  · obtain ⟨k, hk, h2⟩ := mostT_some _ e
    obtain ⟨i, hi, rfl⟩ := txN_mem Ps n k hk
    rw [cnt_txN] at h2
    have := mxN_at Ps n n i hi
    omega
set_option maxHeartbeats 4000000 in
set_option maxRecDepth 100000 in
theorem rMost12_any (base rb : Nat) (sv : Value) (Ps : Nat → Nat → Int) (n : Nat) (hn : n ≤ 900) (hA : ∀ i, i < n → ovU (Ps i) = tkO (Ps i)) (w : World) (h : RK base rb sv Ps n w) :
    Calls Tryz.prog 17 #[.pointer (some ⟨rb, 0, none⟩)] w fun e w' => e = .returned (.int .i64 (mostT (txN Ps n) : Nat)) ∧ Below w.heap.size w w' := by
  obtain ⟨p, cp, rfl⟩ := h.sl
  have HMY := Lib.hid (fun i (hi : i < n) W (h : RK base rb (.slice p n cp) Ps n W) => rMany12_any base rb (.slice p n cp) Ps n (by omega) (Ps i) hA (hA i hi) W h)
  have HI := Lib.hid (show RK base rb (.slice p n cp) Ps n w ∧ Below w.heap.size w w from ⟨h, Below.refl _ _⟩)
  rw [← most_is]
  clear h hA
  go_enter Tryz.func17, Tryz.ntmps17
  go_wp2
  go_loopw [3, 4] (fun nv x wr => ∃ i : Nat, i ≤ n ∧ x = .int .i64 (i : Int) ∧ nv = .int .i64 (mxN Ps n i : Nat) ∧ RK base rb (.slice p n cp) Ps n wr ∧ Below w.heap.size w wr) (fun _ x _ => n - (intOf x).toNat)
  case atStart => exact ⟨0, Nat.zero_le _, rfl, rfl, HI.out⟩
  case round =>
    clear HI
    obtain ⟨i, hi, rfl, rfl, h1, h2⟩ := hrel
    have HI := Lib.hid (And.intro h1 h2)
    obtain ⟨y0, yf, yz⟩ := row1 h1.c
    clear h1 h2
    have i0 : (0 : Int) ≤ (i : Int) := by omega
    by_cases hlt : i < n
    · have i1 : (i : Int) < (n : Int) := by omega
      obtain ⟨g, c, e, _, hat⟩ := own_at HI.out.1.own (by omega)
      cases e
      obtain ⟨Xi, hXi⟩ : ∃ X, X = (pc (Ps i)).toArray := ⟨_, rfl⟩
      have HXi := Lib.hid hXi
      have HAT := Lib.hid (hat i hlt)
      have MY := Lib.hid (HMY.out i hlt)
      rw [← hXi] at MY
      have HC := Lib.hid (show mxN Ps n (i + 1) = max (mxN Ps n i) (cN Ps (Ps i) n) from rfl)
      obtain ⟨c5, hc5⟩ : ∃ c, mxN Ps n i = c := ⟨_, rfl⟩
      rw [hc5] at HC
      rw [hc5]
      generalize cN Ps (Ps i) n = c6 at *
      clear hat hXi hc5
      go_wp2_with (first | refine wpList_posAt (by rfl) _ (by rfl) g (i * 133) (Ps i) Xi HXi.out (by rfl) HAT.out ?_ | fail)
      refine (MY.out _ HI.out.1).mono ?_
      rintro e w2 ⟨rfl, hb⟩
      have HJ := Lib.hid (show RK base rb (.slice (some ⟨g, 0, none⟩) n cp) Ps n w2 ∧ Below w.heap.size w w2 from ⟨HI.out.1.go hb, HI.out.2.trans (hb.mono HI.out.2.size)⟩)
      clear hb y0 yf yz HI MY HAT
      dsimp only
      refine list_go (by assumption) ?_
      go_wp2
      go_roundw
      case rel => exact ⟨i + 1, by omega, by go_num, by rw [HC.out]; exact congrArg (Value.int .i64) (by omega), HJ.out⟩
      case measure => simp [intOf]; omega
    · obtain rfl : i = n := by omega
      go_wp2
      go_ret
      exact ⟨rfl, HI.out.2⟩
end Go.Proofs.YtcdnakbdajbfoaaGreatDoor
