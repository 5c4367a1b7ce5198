/-
  AgainTells, where what may be taken over does not hang on the counts.
-/
import Derived.Test.YtcdnakbdajbfoaaGreatDoorZd
namespace Go.Proofs.YtcdnakbdajbfoaaGreatDoor
open Go.RowKit Go.Sort Go.Maps
set_option linter.unusedSimpArgs false
set_option linter.unusedVariables false
set_option maxRecDepth 20000

structure TS (B b mb rb : Nat) (sv : Value) (T : List (List UInt8)) (Ls : Nat → Nat → Int) (i : Nat) (P : Nat → Int) (ap : Option Addr) (m : Nat) (w W : World) : Prop where
  p : PB W w.heap.size P
  r : ReadsP w.heap.size W ap m Ls
  k : BW W b mb T
  rk : RK (w.heap.size + 1) rb sv Ls i W
  bl : Below w.heap.size w W
  e : EN B W
  hb : w.heap.size + 1 ≤ b
  hm : w.heap.size + 1 ≤ mb
  hB : B ≤ w.heap.size
section
variable {B b mb rb : Nat} {sv : Value} {T : List (List UInt8)} {Ls : Nat → Nat → Int} {i : Nat} {P : Nat → Int} {ap : Option Addr} {m : Nat} {w W W' : World}
theorem TS.go (h : TS B b mb rb sv T Ls i P ap m w W) (g : Below W.heap.size W W') : TS B b mb rb sv T Ls i P ap m w W' :=
  ⟨h.p.go g, h.r.below (g.mono h.bl.size), h.k.go g, h.rk.go g, h.bl.trans (g.mono h.bl.size), h.e.go g, h.hb, h.hm, h.hB⟩
theorem TS.nrb (h : TS B b mb rb sv T Ls i P ap m w W) : rb ≠ b ∧ rb ≠ mb := by
  constructor
  · intro e
    have h1 := h.rk.c
    rw [e, h.k.c] at h1
    simp at h1
  · intro e
    obtain ⟨es, ep, q, _⟩ := h.k.m
    have h1 := h.rk.c
    rw [e, q] at h1
    cases h1
theorem TS.nsv (h : TS B b mb rb sv T Ls i P ap m w W) : ∀ q, sv.ownBlock = some q → q ≠ b ∧ q ≠ mb ∧ w.heap.size + 1 ≤ q := by
  intro q hq
  rcases h.rk.own.2 with ⟨rfl, _⟩ | ⟨g', cap, cur, rfl, hg, hc, _⟩
  · cases hq
  · simp [Value.ownBlock] at hq
    subst hq
    refine ⟨fun e => ?_, fun e => ?_, hg⟩
    · have := h.k.c
      rw [← e, hc] at this
      simp at this
    · obtain ⟨es, ep, q, _⟩ := h.k.m
      rw [← e, hc] at q
      cases q
theorem TS.put {T' : List (List UInt8)} (h : TS B b mb rb sv T Ls i P ap m w W) (hk : BW W' b mb T') (t : Two b mb W W') : TS B b mb rb sv T' Ls i P ap m w W' := by
  have hb := h.hb
  have hm := h.hm
  obtain ⟨n1, n2⟩ := h.nrb
  have h1 := t.below (Below.refl w.heap.size W) (by omega) (by omega) h.bl.size
  exact ⟨t.pb h.p (by omega) (by omega), h.r.below h1, hk, ⟨t.at h.rk.c n1 n2, owns_two h.rk.own t (fun q hq => ⟨(h.nsv q hq).1, (h.nsv q hq).2.1⟩), h.rk.hb⟩, h.bl.trans h1, h.e.on (h1.mono h.hB), h.hb, h.hm, h.hB⟩
theorem TS.rput {sv' : Value} {j q : Nat} (h : TS B b mb rb sv T Ls i P ap m w W) (hk : RK (w.heap.size + 1) rb sv' Ls j W') (hq : q = rb ∨ sv.ownBlock = some q) (t : Two rb q W W') : TS B b mb rb sv' T Ls j P ap m w W' := by
  have hr := h.rk.hb
  obtain ⟨n1, n2⟩ := h.nrb
  have hq3 : q ≠ b ∧ q ≠ mb ∧ w.heap.size + 1 ≤ q := by
    rcases hq with rfl | hq
    · exact ⟨n1, n2, hr⟩
    · exact h.nsv q hq
  have h1 := t.below (Below.refl w.heap.size W) (by omega) (by omega) h.bl.size
  refine ⟨t.pb h.p (by omega) (by omega), h.r.below h1, ⟨t.at h.k.c (Ne.symm n1) (Ne.symm hq3.1), ?_, h.k.s⟩, hk, h.bl.trans h1, h.e.on (h1.mono h.hB), h.hb, h.hm, h.hB⟩
  obtain ⟨es, clock, q', r⟩ := h.k.m
  exact ⟨es, clock, t.at q' (Ne.symm n2) (Ne.symm hq3.2.1), r⟩
end
theorem putP_self (Ps : Nat → Nat → Int) (n : Nat) : putP Ps n (Ps n) = Ps := by
  funext j
  unfold putP
  split
  · subst_vars; rfl
  · rfl
set_option maxHeartbeats 16000000 in
set_option maxRecDepth 100000 in
theorem tells12_any (B : Nat) (ap : Option Addr) (m cp : Nat) (hm : m ≤ 25) (Ls : Nat → Nat → Int) (P : Nat → Int) (hI : ∀ i, i < m → InW (Ls i)) (hIP : InW P) (hA : ∀ i, i < m → ovU (Ls i) = tkO (Ls i)) (hAP : ovU P = tkO P)
    (w : World) (he : EN B w) (hr : ReadsP w.heap.size w ap m Ls) :
    Calls Tryz.prog 3 #[.slice ap m cp, .agg (pc P).toArray] w fun e w' => e = .returned (.bool true) ∧ Below w.heap.size w w' := by
  obtain ⟨X, hX⟩ : ∃ X, X = (pc P).toArray := ⟨_, rfl⟩
  have HX := Lib.hid hX
  have HS := Lib.hid (OV.begin B w P X hX)
  have HE := Lib.hid (he.on ((OV.begin B w P X hX).b.mono he.k))
  have HB := Lib.hid he.k
  have HR := Lib.hid hr
  have HM := Lib.hid hm
  have HA := Lib.hid hA
  have HAP := Lib.hid hAP
  have HI := Lib.hid hI
  have HIP := Lib.hid hIP
  have MN := Lib.hid (fun W (h : EN B W) => new_any12 B none 0 0 (fun _ _ => 0) (fun i hi => absurd hi (Nat.not_lt_zero _)) (by omega) W h (.inl rfl))
  rw [← hX]
  have m25 : ¬ (25 : Int) < (m : Int) := by omega
  clear hX he hr hm hA hAP hI hIP
  go_enter Tryz.func3, Tryz.ntmps3
  go_upto_region 1 with (fail)
  generalize hw : w.alloc (.cells X 30) = w1 at *
  clear hw
  go_wp2_with fail
  refine (MN.out _ HE.out).mono ?_
  rintro e w2 ⟨b, mb, rfl, hn⟩
  have HN := Lib.hid (show BW w2 b mb (txN Ls 0) ∧ w.heap.size + 1 ≤ b ∧ w.heap.size + 1 ≤ mb from ⟨hn.k, by have := hn.hb; have := HS.out.p.lt; omega, by have := hn.hm; have := HS.out.p.lt; omega⟩)
  replace HS := Lib.hid (HS.out.go hn.bl)
  replace HE := Lib.hid (HE.out.go hn.bl)
  clear hn MN m25
  dsimp only
  refine list_go (by assumption) ?_
  go_upto_region 4 with (fail)
  obtain ⟨rb, hrb⟩ : ∃ q, w2.heap.size = q := ⟨_, rfl⟩
  have HT := Lib.hid (show TS B b mb rb (.slice none 0 0) (txN Ls 0) Ls 0 P ap m w (w2.alloc (.cells #[.slice none 0 0] 36)) from
    ⟨(HS.out.go (below_new _)).p, HR.out.below (HS.out.go (below_new _)).b, HN.out.1.go (below_new _), ⟨by rw [← hrb]; exact sl_at rfl, World.ownsRow_nil _ _ _ _, by have := HS.out.p.lt; omega⟩, (HS.out.go (below_new _)).b, HE.out.go (below_new _), HN.out.2.1, HN.out.2.2, HB.out⟩)
  rw [hrb]
  clear HS HN HE HR hrb
  refine forget_B (fun W => TS B b mb rb (.slice none 0 0) (txN Ls 0) Ls 0 P ap m w W) HT.out ?_
  clear HT
  intro W1 ht
  have HT := Lib.hid ht
  clear ht
  go_wp2
  go_loopw [7] (fun x wr => ∃ (i : Nat) (sv : Value), i ≤ m ∧ x = .int .i64 (i : Int) ∧ TS B b mb rb sv (txN Ls i) Ls i P ap m w wr) (fun x _ => m - (intOf x).toNat)
  case atStart => exact ⟨0, _, Nat.zero_le _, rfl, HT.out⟩
  case round =>
    clear HT
    obtain ⟨i, sv, hi, rfl, ht⟩ := hrel
    have HT := Lib.hid ht
    clear ht
    have i0 : (0 : Int) ≤ (i : Int) := by omega
    by_cases hlt : i < m
    · have i1 : (i : Int) < (m : Int) := by omega
      have i3 : (i : Int) ≤ 25 := by have := HM.out; omega
      obtain ⟨pb, po, rfl⟩ : ∃ x y, ap = some ⟨x, y, none⟩ := by
        rcases HT.out.r with h | ⟨x, y, h, _⟩
        · omega
        · exact ⟨x, y, h⟩
      have HAT := Lib.hid (fun (W : World) (h : ReadsP w.heap.size W (some ⟨pb, po, none⟩) m Ls) => show W.rangeAt pb (po + i * 133) (pc (Ls i)) from by
        rcases h with h | ⟨x, y, h, _, h2⟩
        · omega
        · cases h; exact h2 i hlt)
      obtain ⟨Xi, hXi⟩ : ∃ X, X = (pc (Ls i)).toArray := ⟨_, rfl⟩
      have HXi := Lib.hid hXi
      obtain ⟨tv, htv⟩ : ∃ x, tkO (Ls i) = x := ⟨_, rfl⟩
      obtain ⟨sm, hsm⟩ : ∃ x, samB (Ls i) P = x := ⟨_, rfl⟩
      obtain ⟨k1, hk1⟩ : ∃ x, (⟨(kyB (Ls i)).toArray⟩ : ByteArray) = x := ⟨_, rfl⟩
      obtain ⟨k2, hk2⟩ : ∃ x, (⟨(kyB P).toArray⟩ : ByteArray) = x := ⟨_, rfl⟩
      have HKK := Lib.hid (show (k1.toList = k2.toList) ↔ sm = true by
        rw [← hk1, ← hk2, ← hsm, ← kyB_iff, ByteArray.toList_eq, ByteArray.toList_eq])
      obtain ⟨cp1, hcp1⟩ : ∃ x : Int, ((cN Ls (Ls i) i : Nat) : Int) + 1 = x := ⟨_, rfl⟩
      obtain ⟨mo, hmo⟩ : ∃ x : Int, ((mostT (txN Ls (i + 1)) : Nat) : Int) = x := ⟨_, rfl⟩
      obtain ⟨cm, hcm⟩ : ∃ x : Int, ((cN Ls P (i + 1) : Nat) : Int) = x := ⟨_, rfl⟩
      have M1 := Lib.hid (fun W sv T j (h : TS B b mb rb sv T Ls j P (some ⟨pb, po, none⟩) m w W) => show Calls Tryz.prog 9 #[.agg Xi] W fun e w' => e = .returned (.int .i64 tv) ∧ Below W.heap.size W w' from by
        rw [hXi, ← htv]; exact over_any (Ls i) W B h.e.gb h.e.gs h.e.gm h.e.gp h.e.k)
      have M2 := Lib.hid (fun W => show Calls Tryz.prog 10 #[.agg Xi] W fun e w' => e = .returned (.int .i64 tv) ∧ Below W.heap.size W w' from by
        rw [hXi, ← htv]; exact rOver12_any (Ls i) W)
      have M3 := Lib.hid (fun W sv T j (h : TS B b mb rb sv T Ls j P (some ⟨pb, po, none⟩) m w W) => show Calls Tryz.prog 11 #[.agg Xi, .agg X] W fun e w' => e = .returned (.bool sm) ∧ Below W.heap.size W w' from by
        rw [hXi, HX.out, ← hsm]; exact same_any12 (Ls i) P W B h.e.gb h.e.gs h.e.gm h.e.gp h.e.k)
      have M4 := Lib.hid (fun W => show Calls Tryz.prog 12 #[.agg Xi, .agg X] W fun e w' => e = .returned (.bool sm) ∧ Below W.heap.size W w' from by
        rw [hXi, HX.out, ← hsm, ← samR_samB (HA.out i hlt) HAP.out]; exact rSame12_any (Ls i) P W)
      have M5 := Lib.hid (fun W sv T j (h : TS B b mb rb sv T Ls j P (some ⟨pb, po, none⟩) m w W) => show Calls Tryz.prog 13 #[.agg Xi] W fun e w' => e = .returned (.string k1) ∧ Below W.heap.size W w' from by
        rw [hXi, ← hk1]; exact key_any (Ls i) (HI.out i hlt) W B h.e.gb h.e.gs h.e.gm h.e.gp (h.e.tp.up h.e.k) h.e.k)
      have M6 := Lib.hid (fun W sv T j (h : TS B b mb rb sv T Ls j P (some ⟨pb, po, none⟩) m w W) => show Calls Tryz.prog 13 #[.agg X] W fun e w' => e = .returned (.string k2) ∧ Below W.heap.size W w' from by
        rw [HX.out, ← hk2]; exact key_any P HIP.out W B h.e.gb h.e.gs h.e.gm h.e.gp (h.e.tp.up h.e.k) h.e.k)
      have M7 := Lib.hid (fun W (h : TS B b mb rb sv (txN Ls i) Ls i P (some ⟨pb, po, none⟩) m w W) => show Calls Tryz.prog 14 #[.pointer (some ⟨b, 0, none⟩), .agg Xi] W fun e w' => e = .returned (.int .i64 cp1) ∧ TS B b mb rb sv (txN Ls (i + 1)) Ls i P (some ⟨pb, po, none⟩) m w w' from by
        rw [hXi]
        refine (put_any12 B b mb (txN Ls i) (Ls i) (HI.out i hlt) (by rw [txN_len]; have := HM.out; omega) W h.k h.e).mono ?_
        rintro e w' ⟨rfl, hk, h2⟩
        exact ⟨by rw [← hcp1, cntT_same, cnt_txN]; rfl, h.put hk h2⟩)
      have M8 := Lib.hid (fun W (h : TS B b mb rb sv (txN Ls (i + 1)) Ls i P (some ⟨pb, po, none⟩) m w W) => show Calls Tryz.prog 15 #[.pointer (some ⟨rb, 0, none⟩), .agg Xi] W fun e w' => e = .returned (.int .i64 cp1) ∧ ∃ sv', TS B b mb rb sv' (txN Ls (i + 1)) Ls (i + 1) P (some ⟨pb, po, none⟩) m w w' from by
        rw [hXi]
        refine (rPut12_any (w.heap.size + 1) rb sv Ls i (by have := HM.out; omega) (Ls i) (fun k hk => HA.out k (by omega)) (HA.out i hlt) W h.rk h.p.lt).mono ?_
        rintro e w' ⟨sv', q, rfl, hk, hq, h2⟩
        rw [putP_self] at hk
        exact ⟨by rw [← hcp1], sv', h.rput hk hq h2⟩)
      have M9 := Lib.hid (fun W sv j (h : TS B b mb rb sv (txN Ls (i + 1)) Ls j P (some ⟨pb, po, none⟩) m w W) => show Calls Tryz.prog 16 #[.pointer (some ⟨b, 0, none⟩)] W fun e w' => e = .returned (.int .i64 mo) ∧ w' = W from by
        rw [← hmo]; exact most_any12 b mb _ W h.k)
      have M10 := Lib.hid (fun W sv T (h : TS B b mb rb sv T Ls (i + 1) P (some ⟨pb, po, none⟩) m w W) => show Calls Tryz.prog 17 #[.pointer (some ⟨rb, 0, none⟩)] W fun e w' => e = .returned (.int .i64 mo) ∧ Below W.heap.size W w' from by
        rw [← hmo]; exact rMost12_any _ rb sv Ls (i + 1) (by have := HM.out; omega) (fun k hk => HA.out k (by omega)) W h.rk)
      have M11 := Lib.hid (fun W sv j (h : TS B b mb rb sv (txN Ls (i + 1)) Ls j P (some ⟨pb, po, none⟩) m w W) => show Calls Tryz.prog 18 #[.pointer (some ⟨b, 0, none⟩), .agg X] W fun e w' => e = .returned (.int .i64 cm) ∧ Below W.heap.size W w' from by
        rw [← hcm, ← cnt_txN, HX.out]; exact many_any B b mb _ P HIP.out W h.k h.e)
      have M12 := Lib.hid (fun W sv T (h : TS B b mb rb sv T Ls (i + 1) P (some ⟨pb, po, none⟩) m w W) => show Calls Tryz.prog 19 #[.pointer (some ⟨rb, 0, none⟩), .agg X] W fun e w' => e = .returned (.int .i64 cm) ∧ Below W.heap.size W w' from by
        rw [← hcm, HX.out]; exact rMany12_any _ rb sv Ls (i + 1) (by have := HM.out; omega) P (fun k hk => HA.out k (by omega)) HAP.out W h.rk)
      clear hXi htv hsm hk1 hk2 hcp1 hmo hcm
      go_upto_region 7 with (fail)
      refine wp_region_noPanic ?_
      refine wp_region_start (n := 74) (l := #[false, false, false, false, false, false, false, false, false, false, false, false, false, false, false, false, false, false, false, false, false, false, false, false, false, false, false, false, false, false, false, false, false, false, false, false, false, false, false, false, false, false, false, false, false, false, false, false, false, false, false, false, false, false, false, false, false, false, false, false, false, false, false, false, false, false, false, false, false, false, false, false, false, false]) (S := (fun W => PB W w.heap.size P ∧ ReadsP w.heap.size W (some ⟨pb, po, none⟩) m Ls)) (by kernel_rfl) rfl (by kernel_rfl) (by first | exact ⟨HT.out.p, HT.out.r⟩ | exact ⟨(HT.out.go (Below.refl _ _).drew).p, (HT.out.go (Below.refl _ _).drew).r⟩) (fun hHeld => ?_)
      replace HT := Lib.hid (HT.out.go (Below.refl _ _).drew)
      refine tq (i := 0) (d := some 22) rfl rfl ?_
      try simp only [aP, sA, sZ, sS]
      refine tq (i := 1) (d := some 23) rfl rfl ?_
      try simp only [aP, sA, sZ, sS]
      refine tq (i := 2) (d := some 24) rfl rfl ?_
      try simp only [aP, sA, sZ, sS]
      refine tg (i := 3) (d := some 25) (v := (.agg Xi)) rfl rfl ?_ ?_
      · exact yields_posAt (by rfl) _ (by rfl) pb (po + i * 133) (Ls i) Xi HXi.out (by rfl) (fun W h => HAT.out W h.2)
      try simp only [aP, sA, sZ, sS]
      refine tq (i := 5) (d := some 27) rfl rfl ?_
      try simp only [aP, sA, sZ, sS]
      refine tq (i := 6) (d := some 28) rfl rfl ?_
      try simp only [aP, sA, sZ, sS]
      refine tq (i := 7) (d := some 29) rfl rfl ?_
      try simp only [aP, sA, sZ, sS]
      refine tg (i := 8) (d := some 30) (v := (.agg Xi)) rfl rfl ?_ ?_
      · exact yields_posAt (by rfl) _ (by rfl) pb (po + i * 133) (Ls i) Xi HXi.out (by rfl) (fun W h => HAT.out W h.2)
      try simp only [aP, sA, sZ, sS]
      refine og (i := 4) rfl (by kernel_rfl) (fun K hK => ?_)
      go_simp
      refine (M1.out _ _ _ _ HT.out).mono ?_
      rintro e U ⟨rfl, hb⟩
      replace HT := Lib.hid (HT.out.go hb)
      clear hb
      dsimp only
      refine hK.out _ _ (by first | exact ⟨HT.out.p, HT.out.r⟩ | exact ⟨(HT.out.go (Below.refl _ _).drew).p, (HT.out.go (Below.refl _ _).drew).r⟩) (fun hHeld => ?_)
      clear hK K
      try simp only [aP, sA, sZ, sS]
      refine og (i := 9) rfl (by kernel_rfl) (fun K hK => ?_)
      go_simp
      refine (M2.out _).mono ?_
      rintro e U ⟨rfl, hb⟩
      replace HT := Lib.hid (HT.out.go hb)
      clear hb
      dsimp only
      refine hK.out _ _ (by first | exact ⟨HT.out.p, HT.out.r⟩ | exact ⟨(HT.out.go (Below.refl _ _).drew).p, (HT.out.go (Below.refl _ _).drew).r⟩) (fun hHeld => ?_)
      clear hK K
      try simp only [aP, sA, sZ, sS]
      refine tq (i := 10) (d := some 32) rfl rfl ?_
      try simp only [aP, sA, sZ, sS]
      refine tq (i := 11) (d := some 33) rfl rfl ?_
      try simp only [aP, sA, sZ, sS]
      refine tq (i := 12) (d := some 34) rfl rfl ?_
      try simp only [aP, sA, sZ, sS]
      refine tq (i := 13) (d := some 35) rfl rfl ?_
      try simp only [aP, sA, sZ, sS]
      refine tq (i := 14) (d := some 36) rfl rfl ?_
      try simp only [aP, sA, sZ, sS]
      refine tg (i := 15) (d := some 37) (v := (.agg Xi)) rfl rfl ?_ ?_
      · exact yields_posAt (by rfl) _ (by rfl) pb (po + i * 133) (Ls i) Xi HXi.out (by rfl) (fun W h => HAT.out W h.2)
      try simp only [aP, sA, sZ, sS]
      refine tg (i := 16) (d := some 38) (v := (.agg X)) rfl rfl ?_ ?_
      · exact yields_posC (by rfl) _ (by rfl) w.heap.size P X HX.out (by rfl) (fun W h => h.1)
      try simp only [aP, sA, sZ, sS]
      refine tq (i := 18) (d := some 40) rfl rfl ?_
      try simp only [aP, sA, sZ, sS]
      refine tq (i := 19) (d := some 41) rfl rfl ?_
      try simp only [aP, sA, sZ, sS]
      refine tq (i := 20) (d := some 42) rfl rfl ?_
      try simp only [aP, sA, sZ, sS]
      refine tg (i := 21) (d := some 43) (v := (.agg Xi)) rfl rfl ?_ ?_
      · exact yields_posAt (by rfl) _ (by rfl) pb (po + i * 133) (Ls i) Xi HXi.out (by rfl) (fun W h => HAT.out W h.2)
      try simp only [aP, sA, sZ, sS]
      refine tg (i := 22) (d := some 44) (v := (.agg X)) rfl rfl ?_ ?_
      · exact yields_posC (by rfl) _ (by rfl) w.heap.size P X HX.out (by rfl) (fun W h => h.1)
      try simp only [aP, sA, sZ, sS]
      refine og (i := 17) rfl (by kernel_rfl) (fun K hK => ?_)
      go_simp
      refine (M3.out _ _ _ _ HT.out).mono ?_
      rintro e U ⟨rfl, hb⟩
      replace HT := Lib.hid (HT.out.go hb)
      clear hb
      dsimp only
      refine hK.out _ _ (by first | exact ⟨HT.out.p, HT.out.r⟩ | exact ⟨(HT.out.go (Below.refl _ _).drew).p, (HT.out.go (Below.refl _ _).drew).r⟩) (fun hHeld => ?_)
      clear hK K
      try simp only [aP, sA, sZ, sS]
      refine og (i := 23) rfl (by kernel_rfl) (fun K hK => ?_)
      go_simp
      refine (M4.out _).mono ?_
      rintro e U ⟨rfl, hb⟩
      replace HT := Lib.hid (HT.out.go hb)
      clear hb
      dsimp only
      refine hK.out _ _ (by first | exact ⟨HT.out.p, HT.out.r⟩ | exact ⟨(HT.out.go (Below.refl _ _).drew).p, (HT.out.go (Below.refl _ _).drew).r⟩) (fun hHeld => ?_)
      clear hK K
      try simp only [aP, sA, sZ, sS]
      refine tq (i := 24) (d := some 46) rfl rfl ?_
      try simp only [aP, sA, sZ, sS]
      refine tq (i := 25) (d := some 47) rfl rfl ?_
      try simp only [aP, sA, sZ, sS]
      refine tq (i := 26) (d := some 48) rfl rfl ?_
      try simp only [aP, sA, sZ, sS]
      refine tq (i := 27) (d := some 49) rfl rfl ?_
      try simp only [aP, sA, sZ, sS]
      refine tq (i := 28) (d := some 50) rfl rfl ?_
      try simp only [aP, sA, sZ, sS]
      refine tq (i := 29) (d := some 51) rfl rfl ?_
      try simp only [aP, sA, sZ, sS]
      refine tg (i := 30) (d := some 52) (v := (.agg Xi)) rfl rfl ?_ ?_
      · exact yields_posAt (by rfl) _ (by rfl) pb (po + i * 133) (Ls i) Xi HXi.out (by rfl) (fun W h => HAT.out W h.2)
      try simp only [aP, sA, sZ, sS]
      refine tg (i := 32) (d := some 54) (v := (.agg X)) rfl rfl ?_ ?_
      · exact yields_posC (by rfl) _ (by rfl) w.heap.size P X HX.out (by rfl) (fun W h => h.1)
      try simp only [aP, sA, sZ, sS]
      refine tq (i := 35) (d := some 57) rfl rfl ?_
      try simp only [aP, sA, sZ, sS]
      refine tq (i := 36) (d := some 58) rfl rfl ?_
      try simp only [aP, sA, sZ, sS]
      refine tq (i := 37) (d := some 59) rfl rfl ?_
      try simp only [aP, sA, sZ, sS]
      refine tg (i := 38) (d := some 60) (v := (.agg Xi)) rfl rfl ?_ ?_
      · exact yields_posAt (by rfl) _ (by rfl) pb (po + i * 133) (Ls i) Xi HXi.out (by rfl) (fun W h => HAT.out W h.2)
      try simp only [aP, sA, sZ, sS]
      refine tg (i := 39) (d := some 61) (v := (.agg X)) rfl rfl ?_ ?_
      · exact yields_posC (by rfl) _ (by rfl) w.heap.size P X HX.out (by rfl) (fun W h => h.1)
      try simp only [aP, sA, sZ, sS]
      refine og (i := 31) rfl (by kernel_rfl) (fun K hK => ?_)
      go_simp
      refine (M5.out _ _ _ _ HT.out).mono ?_
      rintro e U ⟨rfl, hb⟩
      replace HT := Lib.hid (HT.out.go hb)
      clear hb
      dsimp only
      refine hK.out _ _ (by first | exact ⟨HT.out.p, HT.out.r⟩ | exact ⟨(HT.out.go (Below.refl _ _).drew).p, (HT.out.go (Below.refl _ _).drew).r⟩) (fun hHeld => ?_)
      clear hK K
      try simp only [aP, sA, sZ, sS]
      refine og (i := 33) rfl (by kernel_rfl) (fun K hK => ?_)
      go_simp
      refine (M6.out _ _ _ _ HT.out).mono ?_
      rintro e U ⟨rfl, hb⟩
      replace HT := Lib.hid (HT.out.go hb)
      clear hb
      dsimp only
      refine hK.out _ _ (by first | exact ⟨HT.out.p, HT.out.r⟩ | exact ⟨(HT.out.go (Below.refl _ _).drew).p, (HT.out.go (Below.refl _ _).drew).r⟩) (fun hHeld => ?_)
      clear hK K
      try simp only [aP, sA, sZ, sS]
      refine tg (i := 34) (d := some 56) (v := (.bool sm)) rfl rfl ?_ ?_
      · refine Or.inl ⟨by rfl, ?_⟩; intro w' hSw; (try dsimp only at hSw); have hkk := HKK.out; cases sm <;> simp only [Bool.false_eq_true, iff_false, iff_true] at hkk <;> go_simp <;> (try exact hkk)
      try simp only [aP, sA, sZ, sS]
      refine og (i := 40) rfl (by kernel_rfl) (fun K hK => ?_)
      go_simp
      refine (M4.out _).mono ?_
      rintro e U ⟨rfl, hb⟩
      replace HT := Lib.hid (HT.out.go hb)
      clear hb
      dsimp only
      refine hK.out _ _ (by first | exact ⟨HT.out.p, HT.out.r⟩ | exact ⟨(HT.out.go (Below.refl _ _).drew).p, (HT.out.go (Below.refl _ _).drew).r⟩) (fun hHeld => ?_)
      clear hK K
      try simp only [aP, sA, sZ, sS]
      refine tq (i := 41) (d := some 63) rfl rfl ?_
      try simp only [aP, sA, sZ, sS]
      refine tq (i := 42) (d := some 64) rfl rfl ?_
      try simp only [aP, sA, sZ, sS]
      refine tq (i := 43) (d := some 65) rfl rfl ?_
      try simp only [aP, sA, sZ, sS]
      refine tq (i := 44) (d := some 66) rfl rfl ?_
      try simp only [aP, sA, sZ, sS]
      refine tq (i := 45) (d := some 67) rfl rfl ?_
      try simp only [aP, sA, sZ, sS]
      refine tq (i := 46) (d := some 68) rfl rfl ?_
      try simp only [aP, sA, sZ, sS]
      refine tq (i := 47) (d := some 69) rfl rfl ?_
      try simp only [aP, sA, sZ, sS]
      refine tg (i := 48) (d := some 70) (v := (.agg Xi)) rfl rfl ?_ ?_
      · exact yields_posAt (by rfl) _ (by rfl) pb (po + i * 133) (Ls i) Xi HXi.out (by rfl) (fun W h => HAT.out W h.2)
      try simp only [aP, sA, sZ, sS]
      refine tq (i := 50) (d := some 72) rfl rfl ?_
      try simp only [aP, sA, sZ, sS]
      refine tq (i := 51) (d := some 73) rfl rfl ?_
      try simp only [aP, sA, sZ, sS]
      refine tq (i := 52) (d := some 74) rfl rfl ?_
      try simp only [aP, sA, sZ, sS]
      refine tq (i := 53) (d := some 75) rfl rfl ?_
      try simp only [aP, sA, sZ, sS]
      refine tg (i := 54) (d := some 76) (v := (.agg Xi)) rfl rfl ?_ ?_
      · exact yields_posAt (by rfl) _ (by rfl) pb (po + i * 133) (Ls i) Xi HXi.out (by rfl) (fun W h => HAT.out W h.2)
      try simp only [aP, sA, sZ, sS]
      refine og (i := 49) rfl (by kernel_rfl) (fun K hK => ?_)
      go_simp
      refine (M7.out _ HT.out).mono ?_
      rintro e U ⟨rfl, ht⟩
      replace HT := Lib.hid ht
      clear ht
      dsimp only
      refine hK.out _ _ (by first | exact ⟨HT.out.p, HT.out.r⟩ | exact ⟨(HT.out.go (Below.refl _ _).drew).p, (HT.out.go (Below.refl _ _).drew).r⟩) (fun hHeld => ?_)
      clear hK K
      try simp only [aP, sA, sZ, sS]
      refine og (i := 55) rfl (by kernel_rfl) (fun K hK => ?_)
      go_simp
      refine (M8.out _ HT.out).mono ?_
      rintro e U ⟨rfl, sv2, ht⟩
      replace HT := Lib.hid ht
      clear ht
      dsimp only
      refine hK.out _ _ (by first | exact ⟨HT.out.p, HT.out.r⟩ | exact ⟨(HT.out.go (Below.refl _ _).drew).p, (HT.out.go (Below.refl _ _).drew).r⟩) (fun hHeld => ?_)
      clear hK K
      try simp only [aP, sA, sZ, sS]
      refine tq (i := 56) (d := some 78) rfl rfl ?_
      try simp only [aP, sA, sZ, sS]
      refine tq (i := 57) (d := some 79) rfl rfl ?_
      try simp only [aP, sA, sZ, sS]
      refine tq (i := 58) (d := some 80) rfl rfl ?_
      try simp only [aP, sA, sZ, sS]
      refine tq (i := 59) (d := some 81) rfl rfl ?_
      try simp only [aP, sA, sZ, sS]
      refine tq (i := 61) (d := some 83) rfl rfl ?_
      try simp only [aP, sA, sZ, sS]
      refine og (i := 60) rfl (by kernel_rfl) (fun K hK => ?_)
      go_simp
      refine (M9.out _ _ _ HT.out).mono ?_
      rintro e U2 ⟨rfl, rfl⟩
      dsimp only
      refine hK.out _ _ (by first | exact ⟨HT.out.p, HT.out.r⟩ | exact ⟨(HT.out.go (Below.refl _ _).drew).p, (HT.out.go (Below.refl _ _).drew).r⟩) (fun hHeld => ?_)
      clear hK K
      try simp only [aP, sA, sZ, sS]
      refine og (i := 62) rfl (by kernel_rfl) (fun K hK => ?_)
      go_simp
      refine (M10.out _ _ _ HT.out).mono ?_
      rintro e U ⟨rfl, hb⟩
      replace HT := Lib.hid (HT.out.go hb)
      clear hb
      dsimp only
      refine hK.out _ _ (by first | exact ⟨HT.out.p, HT.out.r⟩ | exact ⟨(HT.out.go (Below.refl _ _).drew).p, (HT.out.go (Below.refl _ _).drew).r⟩) (fun hHeld => ?_)
      clear hK K
      try simp only [aP, sA, sZ, sS]
      refine tq (i := 63) (d := some 85) rfl rfl ?_
      try simp only [aP, sA, sZ, sS]
      refine tq (i := 64) (d := some 86) rfl rfl ?_
      try simp only [aP, sA, sZ, sS]
      refine tq (i := 65) (d := some 87) rfl rfl ?_
      try simp only [aP, sA, sZ, sS]
      refine tq (i := 66) (d := some 88) rfl rfl ?_
      try simp only [aP, sA, sZ, sS]
      refine tg (i := 67) (d := some 89) (v := (.agg X)) rfl rfl ?_ ?_
      · exact yields_posC (by rfl) _ (by rfl) w.heap.size P X HX.out (by rfl) (fun W h => h.1)
      try simp only [aP, sA, sZ, sS]
      refine tq (i := 69) (d := some 91) rfl rfl ?_
      try simp only [aP, sA, sZ, sS]
      refine tg (i := 70) (d := some 92) (v := (.agg X)) rfl rfl ?_ ?_
      · exact yields_posC (by rfl) _ (by rfl) w.heap.size P X HX.out (by rfl) (fun W h => h.1)
      try simp only [aP, sA, sZ, sS]
      refine og (i := 68) rfl (by kernel_rfl) (fun K hK => ?_)
      go_simp
      refine (M11.out _ _ _ HT.out).mono ?_
      rintro e U ⟨rfl, hb⟩
      replace HT := Lib.hid (HT.out.go hb)
      clear hb
      dsimp only
      refine hK.out _ _ (by first | exact ⟨HT.out.p, HT.out.r⟩ | exact ⟨(HT.out.go (Below.refl _ _).drew).p, (HT.out.go (Below.refl _ _).drew).r⟩) (fun hHeld => ?_)
      clear hK K
      try simp only [aP, sA, sZ, sS]
      refine og (i := 71) rfl (by kernel_rfl) (fun K hK => ?_)
      go_simp
      refine (M12.out _ _ _ HT.out).mono ?_
      rintro e U ⟨rfl, hb⟩
      replace HT := Lib.hid (HT.out.go hb)
      clear hb
      dsimp only
      refine hK.out _ _ (by first | exact ⟨HT.out.p, HT.out.r⟩ | exact ⟨(HT.out.go (Below.refl _ _).drew).p, (HT.out.go (Below.refl _ _).drew).r⟩) (fun hHeld => ?_)
      clear hK K
      try simp only [aP, sA, sZ, sS]
      refine tq (i := 72) (d := some 94) rfl rfl ?_
      try simp only [aP, sA, sZ, sS]
      refine tq (i := 73) (d := some 95) rfl rfl ?_
      try simp only [aP, sA, sZ, sS]
      refine wpAnyH_done (by kernel_rfl) ?_ _
      refine NoPanic.normal ?_
      clear hHeld
      have HT2 := HT
      go_wp2
      go_roundw
      case rel => exact ⟨i + 1, _, by omega, by go_num, HT2.out⟩
      case measure => simp [intOf]; omega
    · have hn := Lib.hid (show i = m by omega)
      have i1 : ¬ (i : Int) < (m : Int) := by omega
      have HTM := Lib.hid (show TS B b mb rb sv (txN Ls m) Ls m P ap m w wr by rw [← hn.out]; rw [hn.out]; have := HT.out; rw [hn.out] at this; exact this)
      have MN2 := Lib.hid (fun W (h : EN B W) (h2 : ReadsP W.heap.size W ap m Ls) => new_any12 B ap m cp Ls HI.out (by have := HM.out; omega) W h h2)
      have HRU := Lib.hid (fun W (hr : ReadsP w.heap.size W ap m Ls) (hb : w.heap.size ≤ W.heap.size) => show ReadsP W.heap.size W ap m Ls from by
        rcases hr with h | ⟨x, y, h1, h2, h3⟩
        · exact .inl h
        · exact .inr ⟨x, y, h1, by omega, h3⟩)
      obtain ⟨tv, htv⟩ : ∃ x, tkO P = x := ⟨_, rfl⟩
      obtain ⟨mo, hmo⟩ : ∃ x : Int, ((mostT (txN Ls m) : Nat) : Int) = x := ⟨_, rfl⟩
      obtain ⟨cm, hcm⟩ : ∃ x : Int, ((cN Ls P m : Nat) : Int) = x := ⟨_, rfl⟩
      have M1 := Lib.hid (fun W (h : EN B W) => show Calls Tryz.prog 9 #[.agg X] W fun e w' => e = .returned (.int .i64 tv) ∧ Below W.heap.size W w' from by
        rw [HX.out, ← htv]; exact over_any P W B h.gb h.gs h.gm h.gp h.k)
      have M2 := Lib.hid (fun W => show Calls Tryz.prog 10 #[.agg X] W fun e w' => e = .returned (.int .i64 tv) ∧ Below W.heap.size W w' from by
        rw [HX.out, ← htv]; exact rOver12_any P W)
      have M9 := Lib.hid (fun b2 mb2 W (h : BW W b2 mb2 (txN Ls m)) => show Calls Tryz.prog 16 #[.pointer (some ⟨b2, 0, none⟩)] W fun e w' => e = .returned (.int .i64 mo) ∧ w' = W from by
        rw [← hmo]; exact most_any12 b2 mb2 _ W h)
      have M10 := Lib.hid (fun W sv T (h : TS B b mb rb sv T Ls m P ap m w W) => show Calls Tryz.prog 17 #[.pointer (some ⟨rb, 0, none⟩)] W fun e w' => e = .returned (.int .i64 mo) ∧ Below W.heap.size W w' from by
        rw [← hmo]; exact rMost12_any _ rb sv Ls m (by have := HM.out; omega) (fun k hk => HA.out k hk) W h.rk)
      have M11 := Lib.hid (fun b2 mb2 W (h : BW W b2 mb2 (txN Ls m)) (he : EN B W) => show Calls Tryz.prog 18 #[.pointer (some ⟨b2, 0, none⟩), .agg X] W fun e w' => e = .returned (.int .i64 cm) ∧ Below W.heap.size W w' from by
        rw [← hcm, ← cnt_txN, HX.out]; exact many_any B b2 mb2 _ P HIP.out W h he)
      have M12 := Lib.hid (fun W sv T (h : TS B b mb rb sv T Ls m P ap m w W) => show Calls Tryz.prog 19 #[.pointer (some ⟨rb, 0, none⟩), .agg X] W fun e w' => e = .returned (.int .i64 cm) ∧ Below W.heap.size W w' from by
        rw [← hcm, HX.out]; exact rMany12_any _ rb sv Ls m (by have := HM.out; omega) P (fun k hk => HA.out k hk) HAP.out W h.rk)
      have M13 := Lib.hid (fun W (h : EN B W) => awake12_any B W h)
      clear HT hn htv hmo hcm
      go_wp2_with fail
      refine (MN2.out _ HTM.out.e (HRU.out _ HTM.out.r HTM.out.bl.size)).mono ?_
      rintro e w4 ⟨b2, mb2, rfl, hn⟩
      have HT := Lib.hid (And.intro (HTM.out.go hn.bl) hn.k)
      clear hn MN2 HRU HTM
      dsimp only
      refine list_go (by assumption) ?_
      go_upto_region 10 with (fail)
      refine wp_region_noPanic ?_
      refine wp_region_start (n := 25) (l := #[false, false, false, false, false, false, false, false, false, false, false, false, false, false, false, false, false, false, false, false, false, false, false, false, false]) (S := (fun W => PB W w.heap.size P)) (by kernel_rfl) rfl (by kernel_rfl) (by first | exact HT.out.1.p | exact (HT.out.1.go (Below.refl _ _).drew).p) (fun hHeld => ?_)
      replace HT := Lib.hid (And.intro (HT.out.1.go (Below.refl _ _).drew) (HT.out.2.go (Below.refl _ _).drew))
      refine tq (i := 0) (d := some 98) rfl rfl ?_
      try simp only [aP, sA, sZ, sS]
      refine tq (i := 2) (d := some 100) rfl rfl ?_
      try simp only [aP, sA, sZ, sS]
      refine og (i := 1) rfl (by kernel_rfl) (fun K hK => ?_)
      go_simp
      refine (M9.out _ _ _ HT.out.2).mono ?_
      rintro e U2 ⟨rfl, rfl⟩
      dsimp only
      refine hK.out _ _ (by first | exact HT.out.1.p | exact (HT.out.1.go (Below.refl _ _).drew).p) (fun hHeld => ?_)
      clear hK K
      try simp only [aP, sA, sZ, sS]
      refine og (i := 3) rfl (by kernel_rfl) (fun K hK => ?_)
      go_simp
      refine (M10.out _ _ _ HT.out.1).mono ?_
      rintro e U ⟨rfl, hb⟩
      replace HT := Lib.hid (And.intro (HT.out.1.go hb) (HT.out.2.go hb))
      clear hb
      dsimp only
      refine hK.out _ _ (by first | exact HT.out.1.p | exact (HT.out.1.go (Below.refl _ _).drew).p) (fun hHeld => ?_)
      clear hK K
      try simp only [aP, sA, sZ, sS]
      refine tq (i := 4) (d := some 102) rfl rfl ?_
      try simp only [aP, sA, sZ, sS]
      refine tq (i := 5) (d := some 103) rfl rfl ?_
      try simp only [aP, sA, sZ, sS]
      refine tq (i := 6) (d := some 104) rfl rfl ?_
      try simp only [aP, sA, sZ, sS]
      refine tg (i := 7) (d := some 105) (v := (.agg X)) rfl rfl ?_ ?_
      · exact yields_posC (by rfl) _ (by rfl) w.heap.size P X HX.out (by rfl) (fun W h => h)
      try simp only [aP, sA, sZ, sS]
      refine tq (i := 9) (d := some 107) rfl rfl ?_
      try simp only [aP, sA, sZ, sS]
      refine tg (i := 10) (d := some 108) (v := (.agg X)) rfl rfl ?_ ?_
      · exact yields_posC (by rfl) _ (by rfl) w.heap.size P X HX.out (by rfl) (fun W h => h)
      try simp only [aP, sA, sZ, sS]
      refine og (i := 8) rfl (by kernel_rfl) (fun K hK => ?_)
      go_simp
      refine (M11.out _ _ _ HT.out.2 HT.out.1.e).mono ?_
      rintro e U ⟨rfl, hb⟩
      replace HT := Lib.hid (And.intro (HT.out.1.go hb) (HT.out.2.go hb))
      clear hb
      dsimp only
      refine hK.out _ _ (by first | exact HT.out.1.p | exact (HT.out.1.go (Below.refl _ _).drew).p) (fun hHeld => ?_)
      clear hK K
      try simp only [aP, sA, sZ, sS]
      refine og (i := 11) rfl (by kernel_rfl) (fun K hK => ?_)
      go_simp
      refine (M12.out _ _ _ HT.out.1).mono ?_
      rintro e U ⟨rfl, hb⟩
      replace HT := Lib.hid (And.intro (HT.out.1.go hb) (HT.out.2.go hb))
      clear hb
      dsimp only
      refine hK.out _ _ (by first | exact HT.out.1.p | exact (HT.out.1.go (Below.refl _ _).drew).p) (fun hHeld => ?_)
      clear hK K
      try simp only [aP, sA, sZ, sS]
      refine tq (i := 12) (d := some 110) rfl rfl ?_
      try simp only [aP, sA, sZ, sS]
      refine tq (i := 13) (d := some 111) rfl rfl ?_
      try simp only [aP, sA, sZ, sS]
      refine tq (i := 14) (d := some 112) rfl rfl ?_
      try simp only [aP, sA, sZ, sS]
      refine tg (i := 15) (d := some 113) (v := (.agg X)) rfl rfl ?_ ?_
      · exact yields_posC (by rfl) _ (by rfl) w.heap.size P X HX.out (by rfl) (fun W h => h)
      try simp only [aP, sA, sZ, sS]
      refine tg (i := 17) (d := some 115) (v := (.agg X)) rfl rfl ?_ ?_
      · exact yields_posC (by rfl) _ (by rfl) w.heap.size P X HX.out (by rfl) (fun W h => h)
      try simp only [aP, sA, sZ, sS]
      refine og (i := 16) rfl (by kernel_rfl) (fun K hK => ?_)
      go_simp
      refine (M1.out _ HT.out.1.e).mono ?_
      rintro e U ⟨rfl, hb⟩
      replace HT := Lib.hid (And.intro (HT.out.1.go hb) (HT.out.2.go hb))
      clear hb
      dsimp only
      refine hK.out _ _ (by first | exact HT.out.1.p | exact (HT.out.1.go (Below.refl _ _).drew).p) (fun hHeld => ?_)
      clear hK K
      try simp only [aP, sA, sZ, sS]
      refine og (i := 18) rfl (by kernel_rfl) (fun K hK => ?_)
      go_simp
      refine (M2.out _).mono ?_
      rintro e U ⟨rfl, hb⟩
      replace HT := Lib.hid (And.intro (HT.out.1.go hb) (HT.out.2.go hb))
      clear hb
      dsimp only
      refine hK.out _ _ (by first | exact HT.out.1.p | exact (HT.out.1.go (Below.refl _ _).drew).p) (fun hHeld => ?_)
      clear hK K
      try simp only [aP, sA, sZ, sS]
      refine tq (i := 19) (d := some 117) rfl rfl ?_
      try simp only [aP, sA, sZ, sS]
      refine tq (i := 20) (d := some 118) rfl rfl ?_
      try simp only [aP, sA, sZ, sS]
      refine tq (i := 21) (d := some 119) rfl rfl ?_
      try simp only [aP, sA, sZ, sS]
      refine og (i := 22) rfl (by kernel_rfl) (fun K hK => ?_)
      go_simp
      refine (M13.out _ HT.out.1.e).mono ?_
      rintro e U ⟨rfl, hb⟩
      replace HT := Lib.hid (And.intro (HT.out.1.go hb) (HT.out.2.go hb))
      clear hb
      dsimp only
      refine hK.out _ _ (by first | exact HT.out.1.p | exact (HT.out.1.go (Below.refl _ _).drew).p) (fun hHeld => ?_)
      clear hK K
      try simp only [aP, sA, sZ, sS]
      refine tq (i := 23) (d := some 121) rfl rfl ?_
      try simp only [aP, sA, sZ, sS]
      refine tq (i := 24) (d := some 4) rfl rfl ?_
      try simp only [aP, sA, sZ, sS]
      refine wpAnyH_done (by kernel_rfl) ?_ _
      refine NoPanic.normal ?_
      clear hHeld
      go_wp2
      go_ret
      exact ⟨rfl, HT.out.1.bl⟩
end Go.Proofs.YtcdnakbdajbfoaaGreatDoor
