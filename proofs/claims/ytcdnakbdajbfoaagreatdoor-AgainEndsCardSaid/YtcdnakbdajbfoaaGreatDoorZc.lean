/-
  The document's side of again: its book.
-/
import Derived.Test.YtcdnakbdajbfoaaGreatDoorZb
import Derived.Test.YtcdnakbdajbfoaaGreatDoorYk
namespace Go.Proofs.YtcdnakbdajbfoaaGreatDoor
open Go.RowKit Go.Sort Go.Maps
set_option linter.unusedSimpArgs false
set_option linter.unusedVariables false
set_option maxRecDepth 20000

structure RK (base rb : Nat) (sv : Value) (Ps : Nat → Nat → Int) (n : Nat) (W : World) : Prop where
  c : W.heap[rb]? = some (.cells #[sv] 36 (0, 0))
  own : W.ownsRow base 30 133 sv n (posL Ps n)
  hb : base ≤ rb
theorem RK.go {base rb : Nat} {sv : Value} {Ps : Nat → Nat → Int} {n : Nat} {W W' : World} (h : RK base rb sv Ps n W) (g : Below W.heap.size W W') : RK base rb sv Ps n W' := ⟨sl_go h.c g, owns_below_ h.own g, h.hb⟩
theorem RK.lt {base rb : Nat} {sv : Value} {Ps : Nat → Nat → Int} {n : Nat} {W : World} (h : RK base rb sv Ps n W) : rb < W.heap.size := (Array.getElem?_eq_some_iff.1 h.c).1
theorem RK.sl {base rb : Nat} {sv : Value} {Ps : Nat → Nat → Int} {n : Nat} {W : World} (h : RK base rb sv Ps n W) : ∃ p c, sv = .slice p n c := by
  rcases h.own.2 with ⟨rfl, rfl⟩ | ⟨g, cap, cur, rfl, _⟩
  · exact ⟨none, 0, rfl⟩
  · exact ⟨_, _, rfl⟩
structure RV12 (base rb : Nat) (sv : Value) (Ps : Nat → Nat → Int) (n : Nat) (Q : Nat → Int) (w W : World) : Prop where
  p : PB W w.heap.size Q
  k : RK base rb sv Ps n W
  b : Below w.heap.size w W
theorem RV12.go {base rb : Nat} {sv : Value} {Ps : Nat → Nat → Int} {n : Nat} {Q : Nat → Int} {w W W' : World} (h : RV12 base rb sv Ps n Q w W) (g : Below W.heap.size W W') : RV12 base rb sv Ps n Q w W' := ⟨h.p.go g, h.k.go g, h.b.trans (g.mono h.b.size)⟩
set_option maxHeartbeats 4000000 in
set_option maxRecDepth 100000 in
theorem rMany12_any (base rb : Nat) (sv : Value) (Ps : Nat → Nat → Int) (n : Nat) (hn : n ≤ 1000) (Q : Nat → Int) (hA : ∀ i, i < n → ovU (Ps i) = tkO (Ps i)) (hQ : ovU Q = tkO Q) (w : World) (h : RK base rb sv Ps n w) :
    Calls Tryz.prog 19 #[.pointer (some ⟨rb, 0, none⟩), .agg (pc Q).toArray] w fun e w' => e = .returned (.int .i64 (cN Ps Q n : Nat)) ∧ Below w.heap.size w w' := by
  obtain ⟨p, cp, rfl⟩ := h.sl
  obtain ⟨X, hX⟩ : ∃ X, X = (pc Q).toArray := ⟨_, rfl⟩
  have HI := Lib.hid (show RV12 base rb (.slice p n cp) Ps n Q w (w.alloc (.cells X 30)) from ⟨by rw [hX]; exact PB.new rfl, h.go (below_new _), below_new _⟩)
  have HS := Lib.hid (fun i (hi : i < n) W => show Calls Tryz.prog 12 #[.agg (pc (Ps i)).toArray, .agg X] W fun e w' => e = .returned (.bool (samB (Ps i) Q)) ∧ Below W.heap.size W w' from by
    have := rSame12_any (Ps i) Q W
    rw [samR_samB (hA i hi) hQ, ← hX] at this
    exact this)
  rw [← hX]
  have HX := Lib.hid hX
  have n0 : (n : Int) ≤ 1000 := by omega
  clear hX h hA hQ
  go_enter Tryz.func19, Tryz.ntmps19
  go_upto_region 1 with (fail)
  refine forget_B (fun W => RV12 base rb (.slice p n cp) Ps n Q w W) HI.out ?_
  clear HI
  intro W1 hi
  have HI := Lib.hid hi
  clear hi
  go_wp2
  go_loopw [5, 6] (fun nv x wr => ∃ i : Nat, i ≤ n ∧ x = .int .i64 (i : Int) ∧ nv = .int .i64 (cN Ps Q i : Nat) ∧ RV12 base rb (.slice p n cp) Ps n Q w wr) (fun _ x _ => n - (intOf x).toNat)
  case atStart => exact ⟨0, Nat.zero_le _, rfl, rfl, HI.out⟩
  case round =>
    clear HI
    obtain ⟨i, hi, rfl, rfl, h1⟩ := hrel
    have HI := Lib.hid h1
    obtain ⟨y0, yf, yz⟩ := row1 h1.k.c
    clear h1
    have i0 : (0 : Int) ≤ (i : Int) := by omega
    have i2 : (i : Int) ≤ (n : Int) := by omega
    by_cases hlt : i < n
    · have i1 : (i : Int) < (n : Int) := by omega
      obtain ⟨g, c, e, _, hat⟩ := own_at HI.out.k.own (by omega)
      cases e
      clear hat
      have HAT := Lib.hid (fun W (h : RV12 base rb (.slice (some ⟨g, 0, none⟩) n cp) Ps n Q w W) => show W.rangeAt g (i * 133) (pc (Ps i)) from by
        obtain ⟨g', c', e, _, h2⟩ := own_at h.k.own (by omega)
        cases e
        exact h2 i hlt)
      obtain ⟨Xi, hXi⟩ : ∃ X, X = (pc (Ps i)).toArray := ⟨_, rfl⟩
      have HXi := Lib.hid hXi
      have MS1 := Lib.hid (HS.out i hlt)
      obtain ⟨sm, hsm⟩ : ∃ b, samB (Ps i) Q = b := ⟨_, rfl⟩
      rw [hsm, ← hXi] at MS1
      have hc1 : cN Ps Q (i + 1) = cN Ps Q i + if sm then 1 else 0 := by show _ + (if samB (Ps i) Q then 1 else 0) = _; rw [hsm]
      have hcl := cN_le Ps Q i
      obtain ⟨c5, hc⟩ : ∃ c, cN Ps Q i = c := ⟨_, rfl⟩
      rw [hc] at hc1 hcl
      rw [hc]
      have HC := Lib.hid hc1
      have c0 : (0 : Int) ≤ (c5 : Int) := by omega
      have c1 : (c5 : Int) ≤ 1000 := by omega
      clear hsm hc1 hcl hc hXi
      go_upto_region 5 with (fail)
      clear y0 yf yz
      refine wp_region_noPanic ?_
      refine wp_region_start (n := 9) (l := #[false, false, false, false, false, false, false, false, false]) (S := (fun W => RV12 base rb (.slice (some ⟨g, 0, none⟩) n cp) Ps n Q w W)) (by kernel_rfl) rfl (by kernel_rfl) (by first | exact HI.out | exact HI.out.go (Below.refl _ _).drew) (fun hHeld => ?_)
      replace HI := Lib.hid (HI.out.go (Below.refl _ _).drew)
      refine tq (i := 0) (d := some 16) rfl rfl ?_
      try simp only [aP, sA, sZ, sS]
      refine tq (i := 1) (d := some 17) rfl rfl ?_
      try simp only [aP, sA, sZ, sS]
      refine tq (i := 2) (d := some 18) rfl rfl ?_
      try simp only [aP, sA, sZ, sS]
      refine tg (i := 3) (d := some 19) (v := (.slice (some ⟨g, 0, none⟩) n cp)) rfl rfl ?_ ?_
      · refine Or.inl ⟨by rfl, ?_⟩; intro w' hSw; (try dsimp only at hSw); obtain ⟨y0, yf, yz⟩ := row1 hSw.k.c; go_simp
      try simp only [aP, sA, sZ, sS]
      refine tq (i := 4) (d := some 20) rfl rfl ?_
      try simp only [aP, sA, sZ, sS]
      refine tq (i := 5) (d := some 21) rfl rfl ?_
      try simp only [aP, sA, sZ, sS]
      refine tg (i := 6) (d := some 22) (v := (.agg Xi)) rfl rfl ?_ ?_
      · exact yields_posAt (by rfl) _ (by rfl) g (i * 133) (Ps i) Xi HXi.out (by rfl) (fun W h => HAT.out W h)
      try simp only [aP, sA, sZ, sS]
      refine tg (i := 7) (d := some 23) (v := (.agg X)) rfl rfl ?_ ?_
      · exact yields_posC (by rfl) _ (by rfl) w.heap.size Q X HX.out (by rfl) (fun W h => h.p)
      try simp only [aP, sA, sZ, sS]
      refine og (i := 8) rfl (by kernel_rfl) (fun K hK => ?_)
      go_simp
      refine (MS1.out _).mono ?_
      rintro e U ⟨rfl, hb⟩
      replace HI := Lib.hid (HI.out.go hb)
      clear hb
      dsimp only
      refine hK.out _ _ (by first | exact HI.out | exact HI.out.go (Below.refl _ _).drew) (fun hHeld => ?_)
      clear hK K
      try simp only [aP, sA, sZ, sS]
      refine wpAnyH_done (by kernel_rfl) ?_ _
      refine NoPanic.normal ?_
      clear hHeld
      clear MS1
      cases sm
      · go_wp2
        go_roundw
        case rel => exact ⟨i + 1, by omega, by go_num, by rw [HC.out]; rfl, HI.out⟩
        case measure => simp [intOf]; omega
      · go_wp2
        go_roundw
        case rel => exact ⟨i + 1, by omega, by go_num, by rw [HC.out]; go_num, HI.out⟩
        case measure => simp [intOf]; omega
    · obtain rfl : i = n := by omega
      go_wp2
      go_ret
      exact ⟨rfl, HI.out.b⟩
end Go.Proofs.YtcdnakbdajbfoaaGreatDoor
