/-
  Contracts: the document's Is, Check.
-/
import Derived.Test.YtbnpphecknhpeaaDoorDn
import Derived.Test.YtbnpphecknhpeaaDoorDi
import Derived.Test.YtbnpphecknhpeaaDoorG1
namespace Go.Proofs.YtbnpphecknhpeaaDoor
open Go.RowKit Go.Sort
set_option linter.unusedSimpArgs false
set_option linter.unusedVariables false

theorem rTo_nil (P : Nat → Int) (s d : Int) : rToL P s d = [] ↔ atkL P s d = [] := by
  rw [← to_eq]
  unfold toL
  rw [← List.length_eq_zero_iff, ← List.length_eq_zero_iff, risen_len]
/-- what stands in the loop of the document's Is -/
structure RI (w W : World) (P : Nat → Int) (b o : Nat) (s : Int) : Prop where
  p : PB W w.heap.size P
  c : W.cell? ⟨b, o, none⟩ = some (.int .i64 s)
  l : b < W.heap.size
  b : Below w.heap.size w W
theorem RI.go {w W W' : World} {P : Nat → Int} {b o : Nat} {s : Int} (h : RI w W P b o s) (g : Below W.heap.size W W') : RI w W' P b o s :=
  ⟨h.p.go g, (g.cell (p := ⟨b, o, none⟩) h.l).trans h.c, Nat.lt_of_lt_of_le h.l g.size, h.b.trans (g.mono h.b.size)⟩
structure RI2 (w W : World) (P : Nat → Int) : Prop where
  p : PB W w.heap.size P
  b : Below w.heap.size w W
theorem RI2.go {w W W' : World} {P : Nat → Int} (h : RI2 w W P) (g : Below W.heap.size W W') : RI2 w W' P := ⟨h.p.go g, h.b.trans (g.mono h.b.size)⟩
set_option maxHeartbeats 4000000 in
set_option maxRecDepth 100000 in
theorem rIs_any (B : Nat) (P : Nat → Int) (d : Int) (p : Option Addr) (n c : Nat) (f : Nat → Int) (w : World) (hn : n ≤ 1000000) (hr : Reads B w p n (fun i => .int .i64 (f i))) (hB : B ≤ w.heap.size) :
    Calls Tryd.prog 15 #[.agg (pc P).toArray, .int .i64 d, .slice p n c] w fun e w' => e = .returned (.bool (isAt P d f n)) ∧ Below w.heap.size w w' := by
  obtain ⟨X, hX⟩ : ∃ X, X = (pc P).toArray := ⟨_, rfl⟩
  have HT := Lib.hid (fun s W => rTo_any P s d W)
  rw [← hX] at HT ⊢
  have HX := Lib.hid hX
  have HP := Lib.hid (show PB (w.alloc (.cells X 29)) w.heap.size P by subst hX; exact PB.new rfl)
  have HB := Lib.hid (below_new (w := w) (.cells X 29))
  have HRD := Lib.hid hr
  clear hX hr
  go_enter Tryd.func15, Tryd.ntmps15
  go_upto_region 1 with (fail)
  generalize w.alloc (.cells X 29) = W at *
  go_wp2
  go_loopw [7] (fun v wr => ∃ i : Nat, i ≤ n ∧ v = .int .i64 (i : Int) ∧ Below w.heap.size w wr ∧ PB wr w.heap.size P ∧ ∀ j, j < i → atkL P (f j) d = []) (fun v _ => n - (intOf v).toNat)
  case atStart => exact ⟨0, Nat.zero_le _, rfl, HB.out, HP.out, fun j hj => by omega⟩
  case round =>
    clear HB HP
    obtain ⟨i, hi, rfl, hb, hp, hall⟩ := hrel
    have HALL := Lib.hid hall
    clear hall
    by_cases hlt : i < n
    · have hrd := HRD.out.below (hb.mono hB)
      rcases hrd with h0 | ⟨b, off, rfl, hbb, hc⟩
      · omega
      have e0 : wr.cell? ⟨b, off + i, none⟩ = some (.int .i64 (f i)) := hc i hlt
      obtain ⟨s, hs⟩ : ∃ s, f i = s := ⟨_, rfl⟩
      rw [hs] at e0
      have HSF := Lib.hid hs
      have HI := Lib.hid (show RI w wr P b (off + i) s from ⟨hp, e0, Nat.lt_of_lt_of_le hbb (Nat.le_trans hB hb.size), hb⟩)
      clear hs hc hp hb e0
      go_upto_region 4 with (fail)
      refine wp_region_noPanic ?_
      refine wp_region_start (n := 8) (l := #[false, false, false, false, false, false, false, false]) (S := (fun W => RI w W P b (off + i) s)) (by kernel_rfl) rfl (by kernel_rfl) (by first | exact HI.out | exact HI.out.go (Below.refl _ _).drew) (fun hHeld => ?_)
      replace HI := Lib.hid (HI.out.go (Below.refl wr.heap.size wr).drew)
      generalize wr.drew = V0 at hHeld HI ⊢
      refine take_to (i := 0) (d := some 15) (v := (.agg X)) (l' := #[true, false, false, false, false, false, false, false]) rfl rfl (by kernel_rfl) (by kernel_rfl) (by kernel_rfl) (by kernel_rfl) (fun _ _ _ h => h) ?_ (by assumption) ?_
      · exact yields_posC (by rfl) _ (by rfl) w.heap.size P X HX.out (by rfl) (fun W h => h.p)
      try simp only [Act.put, List.setIfInBounds_toArray, List.set_cons_zero, List.set_cons_succ]
      refine take_to (i := 1) (d := some 16) (v := ?_) (l' := #[true, true, false, false, false, false, false, false]) rfl rfl (by kernel_rfl) (by kernel_rfl) (by kernel_rfl) (by kernel_rfl) (fun _ _ _ h => h) (Or.inl ⟨by rfl, ?_⟩) (by assumption) ?_; rotate_left; · (intro w' hSw; (try dsimp only at hSw); go_simp; (try with_reducible rfl))
      try simp only [Act.put, List.setIfInBounds_toArray, List.set_cons_zero, List.set_cons_succ]
      refine take_to (i := 2) (d := some 17) (v := ?_) (l' := #[true, true, true, false, false, false, false, false]) rfl rfl (by kernel_rfl) (by kernel_rfl) (by kernel_rfl) (by kernel_rfl) (fun _ _ _ h => h) (Or.inl ⟨by rfl, ?_⟩) (by assumption) ?_; rotate_left; · (intro w' hSw; (try dsimp only at hSw); go_simp; (try with_reducible rfl))
      try simp only [Act.put, List.setIfInBounds_toArray, List.set_cons_zero, List.set_cons_succ]
      refine take_to (i := 3) (d := some 18) (v := ?_) (l' := #[true, true, true, true, false, false, false, false]) rfl rfl (by kernel_rfl) (by kernel_rfl) (by kernel_rfl) (by kernel_rfl) (fun _ _ _ h => h) (Or.inl ⟨by rfl, ?_⟩) (by assumption) ?_; rotate_left; · (intro w' hSw; (try dsimp only at hSw); go_simp; (try with_reducible rfl))
      try simp only [Act.put, List.setIfInBounds_toArray, List.set_cons_zero, List.set_cons_succ]
      refine take_to (i := 4) (d := some 19) (v := (.int .i64 s)) (l' := #[true, true, true, true, true, false, false, false]) rfl rfl (by kernel_rfl) (by kernel_rfl) (by kernel_rfl) (by kernel_rfl) (fun _ _ _ h => h) ?_ (by assumption) ?_
      · refine Or.inl ⟨by rfl, ?_⟩; intro w' hSw; have e := hSw.c; go_simp
      try simp only [Act.put, List.setIfInBounds_toArray, List.set_cons_zero, List.set_cons_succ]
      refine take_to (i := 5) (d := some 20) (v := ?_) (l' := #[true, true, true, true, true, true, false, false]) rfl rfl (by kernel_rfl) (by kernel_rfl) (by kernel_rfl) (by kernel_rfl) (fun _ _ _ h => h) (Or.inl ⟨by rfl, ?_⟩) (by assumption) ?_; rotate_left; · (intro w' hSw; (try dsimp only at hSw); go_simp; (try with_reducible rfl))
      try simp only [Act.put, List.setIfInBounds_toArray, List.set_cons_zero, List.set_cons_succ]
      refine one_to (i := 6) (l' := #[true, true, true, true, true, true, true, false]) rfl (by kernel_rfl) (by kernel_rfl) (fun K hK => ?_)
      go_simp
      refine (HT.out s _).mono ?_
      rintro e V1 ⟨v, rfl, hb, hown⟩
      replace HI := Lib.hid (HI.out.go hb)
      have hlen : (rToL P s d).length = (rToL P s d).length := rfl
      rw [ivals_range] at hown
      obtain ⟨p1, c1, rfl, hr1, _⟩ := sq_reads hown
      obtain ⟨m, hm⟩ : ∃ m, (rToL P s d).length = m := ⟨_, rfl⟩
      rw [hm]
      clear hb hown hlen hr1
      dsimp only
      refine hK.out _ _ (by first | exact HI.out | exact HI.out.go (Below.refl _ _).drew) (fun hHeld => ?_)
      clear hK K
      try simp only [Act.put, List.setIfInBounds_toArray, List.set_cons_zero, List.set_cons_succ]
      refine take_to (i := 7) (d := some 8) (v := ?_) (l' := #[true, true, true, true, true, true, true, true]) rfl rfl (by kernel_rfl) (by kernel_rfl) (by kernel_rfl) (by kernel_rfl) (fun _ _ _ h => h) (Or.inl ⟨by rfl, ?_⟩) (by assumption) ?_; rotate_left; · (intro w' hSw; (try dsimp only at hSw); go_simp; (try with_reducible rfl))
      try simp only [Act.put, List.setIfInBounds_toArray, List.set_cons_zero, List.set_cons_succ]
      refine wpAnyH_done (by kernel_rfl) ?_ _
      refine NoPanic.normal ?_
      clear hHeld
      by_cases hz : m = 0
      · subst hz
        have HNIL := Lib.hid (show ∀ j, j < i + 1 → atkL P (f j) d = [] from fun j hj => by
          rcases (show j < i ∨ j = i by omega) with h | rfl
          · exact HALL.out j h
          · rw [HSF.out, ← rTo_nil]; exact List.eq_nil_of_length_eq_zero hm)
        clear hm
        go_wp2
        go_roundw
        case rel => exact ⟨i + 1, by omega, by go_num, HI.out.b, HI.out.p, HNIL.out⟩
        case measure => simp [intOf]; omega
      · have HTT := Lib.hid (show isAt P d f n = true from isAt_hit hlt (by rw [HSF.out]; intro h0; rw [← rTo_nil] at h0; rw [h0] at hm; exact hz hm.symm))
        have hm0 : 0 < m := by omega
        clear hm hz
        go_wp2
        go_ret
        exact ⟨q_b HTT.out.symm, HI.out.b⟩
    · obtain rfl : i = n := by omega
      have HTT := Lib.hid (isAt_miss HALL.out)
      have HBK := Lib.hid hb
      clear hb hp
      go_wp2
      go_ret
      exact ⟨q_b HTT.out.symm, HBK.out⟩
end Go.Proofs.YtbnpphecknhpeaaDoor
