/-
  The law's question of no book.
-/
import Derived.Test.YtcdnakbdajbfoaaGreatDoorZf
namespace Go.Proofs.YtcdnakbdajbfoaaGreatDoor
open Go.RowKit Go.Sort Go.Maps
set_option linter.unusedSimpArgs false
set_option linter.unusedVariables false
set_option maxRecDepth 20000

structure ZN (lb z : Nat) (w W : World) : Prop where
  r : W.heap[lb]? = some (.cells #[.pointer none, .pointer (some ⟨z, 0, none⟩)] 32 (0, 0))
  z : ZB (.pointer (some ⟨z, 0, none⟩)) W
  bl : Below w.heap.size w W
theorem ZN.go {lb z : Nat} {w W W' : World} (h : ZN lb z w W) (g : Below W.heap.size W W') : ZN lb z w W' := ⟨sl_go h.r g, h.z.go g, h.bl.trans (g.mono h.bl.size)⟩
theorem ZN.at {lb z : Nat} {w : World} (i : Nat) (hi : i < 2) : ∃ v, ∀ W, ZN lb z w W → W.cell? ⟨lb, i, none⟩ = some v ∧ ZB v W := by
  rcases (show i = 0 ∨ i = 1 by omega) with rfl | rfl
  · refine ⟨.pointer none, fun W h => ?_⟩
    obtain ⟨x0, x1, xf, xz⟩ := row2 h.r
    exact ⟨x0, .inl rfl⟩
  · refine ⟨.pointer (some ⟨z, 0, none⟩), fun W h => ?_⟩
    obtain ⟨x0, x1, xf, xz⟩ := row2 h.r
    exact ⟨x1, h.z⟩
set_option maxHeartbeats 4000000 in
set_option maxRecDepth 100000 in
theorem none12_any (w : World) :
    Calls Tryz.prog 22 #[] w fun e w' => e = .returned (.bool true) ∧ Below w.heap.size w w' := by
  have MS := Lib.hid (fun W => rStart_any W)
  obtain ⟨X, hX⟩ : ∃ X, X = (pc startN).toArray := ⟨_, rfl⟩
  rw [← hX] at MS
  clear hX
  go_enter Tryz.func22, Tryz.ntmps22
  go_upto_region 2 with (fail)
  obtain ⟨lb, hlb⟩ : ∃ q, w.heap.size + 1 = q := ⟨_, rfl⟩
  obtain ⟨z, hz⟩ : ∃ q, w.heap.size = q := ⟨_, rfl⟩
  have hb1 := below_new (w := w) (.cells #[.map none, .int .i64 0, .pointer none] 62)
  have hz1 : ZB (.pointer (some ⟨w.heap.size, 0, none⟩)) (w.alloc (.cells #[.map none, .int .i64 0, .pointer none] 62)) := .inr ⟨_, rfl, sl_at rfl⟩
  refine forget_B (fun W => ZN lb z w W) ?_ ?_
  · rw [← hlb, ← hz]
    exact ⟨sl_at (by simp), hz1.go (below_new _), hb1.trans ((below_new _).mono hb1.size)⟩
  rw [hlb]
  clear hb1 hz1 hlb hz
  intro W1 ht
  have HT := Lib.hid ht
  clear ht
  go_wp2
  go_loopw [2] (fun x wr => ∃ (i : Nat), i ≤ 2 ∧ x = .int .i64 (i : Int) ∧ ZN lb z w wr) (fun x _ => 2 - (intOf x).toNat)
  case atStart => exact ⟨0, Nat.zero_le _, rfl, HT.out⟩
  case round =>
    clear HT
    obtain ⟨i, hi, rfl, ht⟩ := hrel
    have HT := Lib.hid ht
    clear ht
    have i0 : (0 : Int) ≤ (i : Int) := by omega
    by_cases hlt : i < 2
    · have i1 : (i : Int) < 2 := by omega
      obtain ⟨v, hv⟩ := ZN.at (lb := lb) (z := z) (w := w) i hlt
      have HV := Lib.hid hv
      have M1 := Lib.hid (fun W (h : ZB v W) => zput_any v X W h)
      have M2 := Lib.hid (fun W (h : ZB v W) => zmany_any v X W h)
      have M3 := Lib.hid (fun W (h : ZB v W) => zmost_any v W h)
      have M4 := Lib.hid (fun W (h : ZB v W) => zcopy_any v W h)
      clear hv
      go_upto_region 5 with (fail)
      refine wp_region_noPanic ?_
      refine wp_region_start (n := 28) (l := #[false, false, false, false, false, false, false, false, false, false, false, false, false, false, false, false, false, false, false, false, false, false, false, false, false, false, false, false]) (S := (fun W => ZN lb z w W)) (by kernel_rfl) rfl (by kernel_rfl) (by first | exact HT.out | exact HT.out.go (Below.refl _ _).drew) (fun hHeld => ?_)
      replace HT := Lib.hid (HT.out.go (Below.refl _ _).drew)
      refine tq (i := 0) (d := some 10) rfl rfl ?_
      try simp only [aP, sA, sZ, sS]
      refine tq (i := 1) (d := some 11) rfl rfl ?_
      try simp only [aP, sA, sZ, sS]
      refine tq (i := 2) (d := some 12) rfl rfl ?_
      try simp only [aP, sA, sZ, sS]
      refine tg (i := 3) (d := some 13) (v := v) rfl rfl ?_ ?_
      · refine Or.inl ⟨by rfl, ?_⟩; intro w' hSw; (try dsimp only at hSw); have e0 := (HV.out w' hSw).1; go_simp
      try simp only [aP, sA, sZ, sS]
      refine tq (i := 6) (d := some 16) rfl rfl ?_
      try simp only [aP, sA, sZ, sS]
      refine tq (i := 7) (d := some 17) rfl rfl ?_
      try simp only [aP, sA, sZ, sS]
      refine tq (i := 8) (d := some 18) rfl rfl ?_
      try simp only [aP, sA, sZ, sS]
      refine tg (i := 9) (d := some 19) (v := v) rfl rfl ?_ ?_
      · refine Or.inl ⟨by rfl, ?_⟩; intro w' hSw; (try dsimp only at hSw); have e0 := (HV.out w' hSw).1; go_simp
      try simp only [aP, sA, sZ, sS]
      refine tq (i := 13) (d := some 23) rfl rfl ?_
      try simp only [aP, sA, sZ, sS]
      refine tq (i := 14) (d := some 24) rfl rfl ?_
      try simp only [aP, sA, sZ, sS]
      refine tq (i := 15) (d := some 25) rfl rfl ?_
      try simp only [aP, sA, sZ, sS]
      refine tg (i := 16) (d := some 26) (v := v) rfl rfl ?_ ?_
      · refine Or.inl ⟨by rfl, ?_⟩; intro w' hSw; (try dsimp only at hSw); have e0 := (HV.out w' hSw).1; go_simp
      try simp only [aP, sA, sZ, sS]
      refine og (i := 4) rfl (by kernel_rfl) (fun K hK => ?_)
      go_simp
      refine (MS.out _).mono ?_
      rintro e U ⟨rfl, hb⟩
      replace HT := Lib.hid (HT.out.go hb)
      clear hb
      dsimp only
      refine hK.out _ _ (by first | exact HT.out | exact HT.out.go (Below.refl _ _).drew) (fun hHeld => ?_)
      clear hK K
      try simp only [aP, sA, sZ, sS]
      refine og (i := 5) rfl (by kernel_rfl) (fun K hK => ?_)
      go_simp
      refine (M1.out _ (HV.out _ HT.out).2).mono ?_
      rintro e U ⟨rfl, hb⟩
      replace HT := Lib.hid (HT.out.go hb)
      clear hb
      dsimp only
      refine hK.out _ _ (by first | exact HT.out | exact HT.out.go (Below.refl _ _).drew) (fun hHeld => ?_)
      clear hK K
      try simp only [aP, sA, sZ, sS]
      refine og (i := 10) rfl (by kernel_rfl) (fun K hK => ?_)
      go_simp
      refine (MS.out _).mono ?_
      rintro e U ⟨rfl, hb⟩
      replace HT := Lib.hid (HT.out.go hb)
      clear hb
      dsimp only
      refine hK.out _ _ (by first | exact HT.out | exact HT.out.go (Below.refl _ _).drew) (fun hHeld => ?_)
      clear hK K
      try simp only [aP, sA, sZ, sS]
      refine og (i := 11) rfl (by kernel_rfl) (fun K hK => ?_)
      go_simp
      refine (M2.out _ (HV.out _ HT.out).2).mono ?_
      rintro e U ⟨rfl, hb⟩
      replace HT := Lib.hid (HT.out.go hb)
      clear hb
      dsimp only
      refine hK.out _ _ (by first | exact HT.out | exact HT.out.go (Below.refl _ _).drew) (fun hHeld => ?_)
      clear hK K
      try simp only [aP, sA, sZ, sS]
      refine tq (i := 12) (d := some 22) rfl rfl ?_
      try simp only [aP, sA, sZ, sS]
      refine og (i := 17) rfl (by kernel_rfl) (fun K hK => ?_)
      go_simp
      refine (M3.out _ (HV.out _ HT.out).2).mono ?_
      rintro e U ⟨rfl, rfl⟩
      dsimp only
      refine hK.out _ _ (by first | exact HT.out | exact HT.out.go (Below.refl _ _).drew) (fun hHeld => ?_)
      clear hK K
      try simp only [aP, sA, sZ, sS]
      refine tq (i := 18) (d := some 28) rfl rfl ?_
      try simp only [aP, sA, sZ, sS]
      refine tq (i := 19) (d := some 29) rfl rfl ?_
      try simp only [aP, sA, sZ, sS]
      refine tq (i := 20) (d := some 30) rfl rfl ?_
      try simp only [aP, sA, sZ, sS]
      refine tq (i := 21) (d := some 31) rfl rfl ?_
      try simp only [aP, sA, sZ, sS]
      refine tq (i := 22) (d := some 32) rfl rfl ?_
      try simp only [aP, sA, sZ, sS]
      refine tq (i := 23) (d := some 33) rfl rfl ?_
      try simp only [aP, sA, sZ, sS]
      refine tg (i := 24) (d := some 34) (v := v) rfl rfl ?_ ?_
      · refine Or.inl ⟨by rfl, ?_⟩; intro w' hSw; (try dsimp only at hSw); have e0 := (HV.out w' hSw).1; go_simp
      try simp only [aP, sA, sZ, sS]
      refine og (i := 25) rfl (by kernel_rfl) (fun K hK => ?_)
      go_simp
      refine (M4.out _ (HV.out _ HT.out).2).mono ?_
      rintro e U ⟨rfl, rfl⟩
      dsimp only
      refine hK.out _ _ (by first | exact HT.out | exact HT.out.go (Below.refl _ _).drew) (fun hHeld => ?_)
      clear hK K
      try simp only [aP, sA, sZ, sS]
      refine tq (i := 26) (d := some 36) rfl rfl ?_
      try simp only [aP, sA, sZ, sS]
      refine tq (i := 27) (d := some 37) rfl rfl ?_
      try simp only [aP, sA, sZ, sS]
      refine wpAnyH_done (by kernel_rfl) ?_ _
      refine NoPanic.normal ?_
      clear hHeld
      go_wp2
      go_roundw
      case rel => exact ⟨i + 1, by omega, by go_num, HT.out⟩
      case measure => simp [intOf]; omega
    · have i1 : ¬ (i : Int) < 2 := by omega
      go_wp2
      go_ret
      exact ⟨rfl, HT.out.bl⟩
end Go.Proofs.YtcdnakbdajbfoaaGreatDoor
