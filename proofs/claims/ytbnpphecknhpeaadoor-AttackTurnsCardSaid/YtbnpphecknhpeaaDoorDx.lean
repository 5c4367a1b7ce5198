/-
  The law AttackTurns: its walk.
-/
import Derived.Test.YtbnpphecknhpeaaDoorDw
namespace Go.Proofs.YtbnpphecknhpeaaDoor
open Go.RowKit Go.Sort
set_option linter.unusedSimpArgs false
set_option linter.unusedVariables false

theorem calls_arg2 {P : Program} {f : FuncId} {x : Value} {e e' : Int} {w : World} {R : Ending → World → Prop} (h : e = e') (hc : Calls P f #[x, .int .i64 e'] w R) : Calls P f #[x, .int .i64 e] w R := h ▸ hc
theorem mir_int (x : Nat) (h : x < 64) : ((mir x : Nat) : Int) = 8 * (7 - (x : Int) / 8) + (x : Int) % 8 := by unfold mir; omega
theorem wrap_mir (x : Nat) (h : x < 64) : IntKind.i64.wrap (IntKind.i64.wrap (8 * IntKind.i64.wrap (7 - IntKind.i64.wrap ((x : Int) / 8))) + (x : Int) % 8) = ((mir x : Nat) : Int) := by
  rw [IntWalk.i64_in ((x : Int) / 8) (by omega), IntWalk.i64_in (7 - (x : Int) / 8) (by omega), IntWalk.i64_in (8 * (7 - (x : Int) / 8)) (by omega), IntWalk.i64_in (8 * (7 - (x : Int) / 8) + (x : Int) % 8) (by omega), mir_int x h]
/-- what stands in AttackTurns -/
structure Ta (w : World) (B : Nat) (P : Nat → Int) (W : World) : Prop where
  p : PB W w.heap.size P
  g : GS B W
  b : Below w.heap.size w W
  bb : B ≤ W.heap.size
theorem Ta.go {w : World} {B : Nat} {P : Nat → Int} {W W' : World} (h : Ta w B P W) (k : Below W.heap.size W W') : Ta w B P W' :=
  ⟨h.p.go k, h.g.below (k.mono h.bb), h.b.trans (k.mono h.b.size), Nat.le_trans h.bb k.size⟩
structure Tb (w : World) (B : Nat) (P : Nat → Int) (b8 : Nat) (Q : Nat → Int) (W : World) : Prop where
  t : Ta w B P W
  q : PB W b8 Q
theorem Tb.go {w : World} {B : Nat} {P Q : Nat → Int} {b8 : Nat} {W W' : World} (h : Tb w B P b8 Q W) (k : Below W.heap.size W W') : Tb w B P b8 Q W' := ⟨h.t.go k, h.q.go k⟩
structure Tc (w : World) (B : Nat) (P : Nat → Int) (pa : Option Addr) (n : Nat) (f : Nat → Value) (pb : Option Addr) (m : Nat) (g : Nat → Value) (W : World) : Prop where
  t : Ta w B P W
  a : Reads W.heap.size W pa n f
  r : Reads W.heap.size W pb m g
theorem Tc.go {w : World} {B : Nat} {P : Nat → Int} {pa pb : Option Addr} {n m : Nat} {f g : Nat → Value} {W W' : World} (h : Tc w B P pa n f pb m g W) (k : Below W.heap.size W W') : Tc w B P pa n f pb m g W' :=
  ⟨h.t.go k, (h.a.below k).mono k.size, (h.r.below k).mono k.size⟩
structure Td (w : World) (B : Nat) (P : Nat → Int) (pa : Option Addr) (n : Nat) (f : Nat → Value) (pc' : Option Addr) (m : Nat) (g : Nat → Value) (W : World) : Prop where
  t : Ta w B P W
  a : Reads W.heap.size W pa n f
  r : Reads W.heap.size W pc' m g
theorem less_set (P : Nat → Int) (k : Nat) : setN (setN P (k * 2) 0) (k * 2 + 1) 0 = less P k := by
  funext i
  unfold setN less
  by_cases h1 : i = k * 2 + 1
  · rw [if_pos h1, if_pos (by omega)]
  · rw [if_neg h1]
    by_cases h2 : i = k * 2
    · rw [if_pos h2, if_pos (by omega)]
    · rw [if_neg h2, if_neg (by omega)]
set_option maxHeartbeats 8000000 in
set_option maxRecDepth 100000 in
theorem attackTurns_any (B : Nat) (P : Nat → Int) (a1 a2 : Int) (w : World) (hg : GS B w) (hB : B ≤ w.heap.size) :
    Calls Tryd.prog 6 #[.agg (pc P).toArray, .int .i64 a1, .int .i64 a2] w fun e w' => e = .returned (.bool true) ∧ Below w.heap.size w w' := by
  obtain ⟨X, hX⟩ : ∃ X, X = (pc P).toArray := ⟨_, rfl⟩
  obtain ⟨T, hT⟩ : ∃ T, T = (pc (turnN P)).toArray := ⟨_, rfl⟩
  have HAW := Lib.hid (fun W h1 h2 => awake_any W B h1 h2)
  have HFR := Lib.hid (fun s W h1 h2 => from_any P s W B h1 h2)
  have HFQ := Lib.hid (fun s W h1 h2 => from_any (turnN P) s W B h1 h2)
  have MT := Lib.hid (turn_any P)
  simp only [from_eq] at HFR HFQ
  rw [← hT] at HFQ MT
  rw [← hX] at HFR MT ⊢
  have HI := Lib.hid (show Ta w B P (w.alloc (.cells X 29)) from ⟨by subst hX; exact PB.new rfl, hg.below ((below_new (w := w) (.cells X 29)).mono hB), below_new _, Nat.le_trans hB (below_new (w := w) (.cells X 29)).size⟩)
  have HX := Lib.hid hX
  have HT := Lib.hid hT
  clear hX hT hg
  go_enter Tryd.func6, Tryd.ntmps6
  go_upto_region 1 with (fail)
  generalize w.alloc (.cells X 29) = W0 at *
  go_wp2_with fail
  refine (HAW.out _ HI.out.g HI.out.bb).mono ?_
  rintro e w1 ⟨rfl, hb1⟩
  replace HI := Lib.hid (HI.out.go hb1)
  clear hb1 HAW
  go_wp2_with fail
  refine (pick64_any a1 _).mono ?_
  rintro e w2 ⟨rfl, rfl⟩
  obtain ⟨sn, hsn, hs64⟩ : ∃ n : Nat, a1 % 64 = (n : Int) ∧ n < 64 := ⟨(a1 % 64).toNat, by omega, by omega⟩
  rw [hsn]
  have HS := Lib.hid hs64
  clear hsn hs64
  go_wp2_with (first | refine wpList_new T (turnN P) HT.out (by rfl) (by rfl) ?_ | refine wpList_pos (by rfl) _ (by rfl) w.heap.size P X HX.out (by rfl) HI.out.p ?_)
  refine (MT.out _).mono ?_
  rintro e w4 ⟨rfl, hb⟩
  replace HI := Lib.hid (HI.out.go hb)
  clear hb MT
  go_wp2_with (refine wpList_new T (turnN P) HT.out (by rfl) (by rfl) ?_)
  intro w5 hq hb hz
  replace HI := Lib.hid (show Tb w B P w4.heap.size (turnN P) w5 from ⟨HI.out.go hb, hq⟩)
  generalize w4.heap.size = b8 at HI ⊢
  clear hb hq hz
  have HMS := Lib.hid (mir_int sn HS.out)
  have hsI : (0 : Int) ≤ (sn : Int) ∧ (sn : Int) < 64 := by have := HS.out; omega
  obtain ⟨hs0, hs1⟩ := hsI
  have hdv : (sn : Int).tdiv 8 = (sn : Int) / 8 := td8 hs0
  have hmd : (sn : Int).tmod 8 = (sn : Int) % 8 := tm8 hs0
  go_upto_region 5 with (fail)
  refine wp_region_noPanic ?_
  refine wp_region_start (n := 14) (l := #[false, false, false, false, false, false, false, false, false, false, false, false, false, false]) (S := (fun W => Tb w B P b8 (turnN P) W)) (by kernel_rfl) rfl (by kernel_rfl) (by first | exact HI.out | exact HI.out.go (Below.refl _ _).drew) (fun hHeld => ?_)
  replace HI := Lib.hid (HI.out.go (Below.refl w5.heap.size w5).drew)
  generalize w5.drew = V0 at hHeld HI ⊢
  refine take_to (i := 0) (d := some 22) (v := (.agg X)) (l' := #[true, false, false, false, false, false, false, false, false, false, false, false, false, false]) rfl rfl (by kernel_rfl) (by kernel_rfl) (by kernel_rfl) (by kernel_rfl) (fun _ _ _ h => h) ?_ (by assumption) ?_
  · exact yields_posC (by rfl) _ (by rfl) w.heap.size P X HX.out (by rfl) (fun W h => h.t.p)
  try simp only [Act.put, List.setIfInBounds_toArray, List.set_cons_zero, List.set_cons_succ]
  refine take_to (i := 1) (d := some 23) (v := ?_) (l' := #[true, true, false, false, false, false, false, false, false, false, false, false, false, false]) rfl rfl (by kernel_rfl) (by kernel_rfl) (by kernel_rfl) (by kernel_rfl) (fun _ _ _ h => h) (Or.inl ⟨by rfl, ?_⟩) (by assumption) ?_; rotate_left; · (intro w' hSw; (try dsimp only at hSw); go_simp; (try with_reducible rfl))
  try simp only [Act.put, List.setIfInBounds_toArray, List.set_cons_zero, List.set_cons_succ]
  refine take_to (i := 3) (d := some 25) (v := (.agg T)) (l' := #[true, true, false, true, false, false, false, false, false, false, false, false, false, false]) rfl rfl (by kernel_rfl) (by kernel_rfl) (by kernel_rfl) (by kernel_rfl) (fun _ _ _ h => h) ?_ (by assumption) ?_
  · exact yields_posC (by rfl) _ (by rfl) b8 (turnN P) T HT.out (by rfl) (fun W h => h.q)
  try simp only [Act.put, List.setIfInBounds_toArray, List.set_cons_zero, List.set_cons_succ]
  refine take_to (i := 4) (d := some 26) (v := ?_) (l' := #[true, true, false, true, true, false, false, false, false, false, false, false, false, false]) rfl rfl (by kernel_rfl) (by kernel_rfl) (by kernel_rfl) (by kernel_rfl) (fun _ _ _ h => h) (Or.inl ⟨by rfl, ?_⟩) (by assumption) ?_; rotate_left; · (intro w' hSw; (try dsimp only at hSw); go_simp; (try with_reducible rfl))
  try simp only [Act.put, List.setIfInBounds_toArray, List.set_cons_zero, List.set_cons_succ]
  refine take_to (i := 5) (d := some 27) (v := ?_) (l' := #[true, true, false, true, true, true, false, false, false, false, false, false, false, false]) rfl rfl (by kernel_rfl) (by kernel_rfl) (by kernel_rfl) (by kernel_rfl) (fun _ _ _ h => h) (Or.inl ⟨by rfl, ?_⟩) (by assumption) ?_; rotate_left; · (intro w' hSw; (try dsimp only at hSw); go_simp; (try with_reducible rfl))
  try simp only [Act.put, List.setIfInBounds_toArray, List.set_cons_zero, List.set_cons_succ]
  refine take_to (i := 6) (d := some 28) (v := ?_) (l' := #[true, true, false, true, true, true, true, false, false, false, false, false, false, false]) rfl rfl (by kernel_rfl) (by kernel_rfl) (by kernel_rfl) (by kernel_rfl) (fun _ _ _ h => h) (Or.inl ⟨by rfl, ?_⟩) (by assumption) ?_; rotate_left; · (intro w' hSw; (try dsimp only at hSw); go_simp; (try with_reducible rfl))
  try simp only [Act.put, List.setIfInBounds_toArray, List.set_cons_zero, List.set_cons_succ]
  refine take_to (i := 7) (d := some 29) (v := ?_) (l' := #[true, true, false, true, true, true, true, true, false, false, false, false, false, false]) rfl rfl (by kernel_rfl) (by kernel_rfl) (by kernel_rfl) (by kernel_rfl) (fun _ _ _ h => h) (Or.inl ⟨by rfl, ?_⟩) (by assumption) ?_; rotate_left; · (intro w' hSw; (try dsimp only at hSw); go_simp; (try with_reducible rfl))
  try simp only [Act.put, List.setIfInBounds_toArray, List.set_cons_zero, List.set_cons_succ]
  refine take_to (i := 8) (d := some 30) (v := ?_) (l' := #[true, true, false, true, true, true, true, true, true, false, false, false, false, false]) rfl rfl (by kernel_rfl) (by kernel_rfl) (by kernel_rfl) (by kernel_rfl) (fun _ _ _ h => h) (Or.inl ⟨by rfl, ?_⟩) (by assumption) ?_; rotate_left; · (intro w' hSw; (try dsimp only at hSw); go_simp; (try with_reducible rfl))
  try simp only [Act.put, List.setIfInBounds_toArray, List.set_cons_zero, List.set_cons_succ]
  refine take_to (i := 9) (d := some 31) (v := ?_) (l' := #[true, true, false, true, true, true, true, true, true, true, false, false, false, false]) rfl rfl (by kernel_rfl) (by kernel_rfl) (by kernel_rfl) (by kernel_rfl) (fun _ _ _ h => h) (Or.inl ⟨by rfl, ?_⟩) (by assumption) ?_; rotate_left; · (intro w' hSw; (try dsimp only at hSw); go_simp; (try with_reducible rfl))
  try simp only [Act.put, List.setIfInBounds_toArray, List.set_cons_zero, List.set_cons_succ]
  refine take_to (i := 10) (d := some 32) (v := ?_) (l' := #[true, true, false, true, true, true, true, true, true, true, true, false, false, false]) rfl rfl (by kernel_rfl) (by kernel_rfl) (by kernel_rfl) (by kernel_rfl) (fun _ _ _ h => h) (Or.inl ⟨by rfl, ?_⟩) (by assumption) ?_; rotate_left; · (intro w' hSw; (try dsimp only at hSw); go_simp; (try with_reducible rfl))
  try simp only [Act.put, List.setIfInBounds_toArray, List.set_cons_zero, List.set_cons_succ]
  refine one_to (i := 2) (l' := #[true, true, true, true, true, true, true, true, true, true, true, false, false, false]) rfl (by kernel_rfl) (by kernel_rfl) (fun K hK => ?_)
  go_simp
  refine calls_arg2 (e' := (sn : Int)) ?_ ((HFR.out _ _ HI.out.t.g HI.out.t.bb).mono ?_)
  · first | rfl | exact wrap_mir _ HS.out
  rintro e V ⟨v, rfl, hb, hown⟩
  rw [ivals_range] at hown
  obtain ⟨pa, ca, rfl, hr1, _⟩ := sq_reads hown
  replace HI := Lib.hid (HI.out.go hb)
  have HRa := Lib.hid hr1
  clear hb hown hr1
  dsimp only
  refine hK.out _ _ (by first | exact HI.out | exact HI.out.go (Below.refl _ _).drew) (fun hHeld => ?_)
  clear hK K
  try simp only [Act.put, List.setIfInBounds_toArray, List.set_cons_zero, List.set_cons_succ]
  refine one_to (i := 11) (l' := #[true, true, true, true, true, true, true, true, true, true, true, true, false, false]) rfl (by kernel_rfl) (by kernel_rfl) (fun K hK => ?_)
  go_simp
  refine calls_arg2 (e' := ((mir sn : Nat) : Int)) ?_ ((HFQ.out _ _ HI.out.t.g HI.out.t.bb).mono ?_)
  · first | rfl | exact wrap_mir _ HS.out
  rintro e V ⟨v, rfl, hb, hown⟩
  rw [ivals_range] at hown
  obtain ⟨pb, cb, rfl, hr1, _⟩ := sq_reads hown
  replace HI := Lib.hid (HI.out.go hb)
  replace HRa := Lib.hid ((HRa.out.below hb).mono hb.size)
  have HRb := Lib.hid hr1
  clear hb hown hr1
  dsimp only
  refine hK.out _ _ (by first | exact HI.out | exact HI.out.go (Below.refl _ _).drew) (fun hHeld => ?_)
  clear hK K
  try simp only [Act.put, List.setIfInBounds_toArray, List.set_cons_zero, List.set_cons_succ]
  refine take_to (i := 12) (d := some 9) (v := ?_) (l' := #[true, true, true, true, true, true, true, true, true, true, true, true, true, false]) rfl rfl (by kernel_rfl) (by kernel_rfl) (by kernel_rfl) (by kernel_rfl) (fun _ _ _ h => h) (Or.inl ⟨by rfl, ?_⟩) (by assumption) ?_; rotate_left; · (intro w' hSw; (try dsimp only at hSw); go_simp; (try with_reducible rfl))
  try simp only [Act.put, List.setIfInBounds_toArray, List.set_cons_zero, List.set_cons_succ]
  refine take_to (i := 13) (d := some 10) (v := ?_) (l' := #[true, true, true, true, true, true, true, true, true, true, true, true, true, true]) rfl rfl (by kernel_rfl) (by kernel_rfl) (by kernel_rfl) (by kernel_rfl) (fun _ _ _ h => h) (Or.inl ⟨by rfl, ?_⟩) (by assumption) ?_; rotate_left; · (intro w' hSw; (try dsimp only at hSw); go_simp; (try with_reducible rfl))
  try simp only [Act.put, List.setIfInBounds_toArray, List.set_cons_zero, List.set_cons_succ]
  refine wpAnyH_done (by kernel_rfl) ?_ _
  refine NoPanic.normal ?_
  clear hHeld
  clear HFQ HT hdv hmd HMS
  have hlen := from_turn_len P sn HS.out
  obtain ⟨NA, hNA⟩ : ∃ n, (rFromL P (sn : Int)).length = n := ⟨_, rfl⟩
  have HLE := Lib.hid (fun k (hk : sn ≠ k) => from_less_len P k sn HS.out hk)
  simp only [hNA] at HLE
  rw [hNA] at hlen HRa ⊢
  rw [hlen] at HRb ⊢
  have HNA := Lib.hid (show NA ≤ 1000000 by rw [← hNA]; have := rFromL_len64 P (sn : Int); omega)
  have HAT := Lib.hid (show ∀ k, k < NA → ∃ x : Nat, getI (rFromL P (sn : Int)) k = x ∧ x < 64 ∧ attR P sn x = true from fun k hk => from_at P sn k HS.out (by rw [hNA]; exact hk))
  have HHB := Lib.hid (show ∀ x : Nat, x < 64 → attR P sn x = true → hasB (getI (rFromL (turnN P) ((mir sn : Nat) : Int))) NA ((mir x : Nat) : Int) = true from fun x hx h => by
    have := has_from (turnN P) (mir sn) (mir x) (mir_lt _ HS.out) (mir_lt _ hx)
    rw [hlen] at this
    rw [this, att_turn P sn x HS.out hx]; exact h)
  obtain ⟨LA, hLA⟩ : ∃ l, rFromL P (sn : Int) = l := ⟨_, rfl⟩
  obtain ⟨LB, hLB⟩ : ∃ l, rFromL (turnN P) ((mir sn : Nat) : Int) = l := ⟨_, rfl⟩
  simp only [hLA] at HRa HAT
  simp only [hLB] at HRb HHB
  replace HI := Lib.hid (show Tc w B P pa NA (fun m => .int .i64 (getI LA m)) pb NA (fun m => .int .i64 (getI LB m)) V from ⟨HI.out.t, HRa.out, HRb.out⟩)
  clear HRa HRb hLA hLB hNA hlen
  go_wp2
  go_loopw [11] (fun v wr => ∃ k : Nat, k ≤ NA ∧ v = .int .i64 (k : Int) ∧ Tc w B P pa NA (fun m => .int .i64 (getI LA m)) pb NA (fun m => .int .i64 (getI LB m)) wr) (fun v _ => NA - (intOf v).toNat)
  case atStart => exact ⟨0, Nat.zero_le _, rfl, HI.out⟩
  case round =>
    clear HI
    obtain ⟨k, hk, rfl, hI⟩ := hrel
    have HI := Lib.hid hI
    clear hI
    have hna := HNA.out
    by_cases hlt : k < NA
    · have HK := Lib.hid hlt
      obtain ⟨x, hx, x64, hax⟩ := HAT.out k hlt
      have HXK := Lib.hid hx
      have HX64 := Lib.hid x64
      have HHIT := Lib.hid (HHB.out x x64 hax)
      clear hx hax
      obtain ⟨ab, ao, rfl⟩ := HI.out.a.addr hlt
      have x0 : (0 : Int) ≤ (x : Int) := Int.natCast_nonneg _
      have x63 : (x : Int) < 64 := by omega
      have xdv : (x : Int).tdiv 8 = (x : Int) / 8 := td8 x0
      have xmd : (x : Int).tmod 8 = (x : Int) % 8 := tm8 x0
      clear x64
      go_upto_region 11 with (fail)
      refine wp_region_noPanic ?_
      refine wp_region_start (n := 16) (l := #[false, false, false, false, false, false, false, false, false, false, false, false, false, false, false, false]) (S := (fun W => Tc w B P (some ⟨ab, ao, none⟩) NA (fun m => .int .i64 (getI LA m)) pb NA (fun m => .int .i64 (getI LB m)) W)) (by kernel_rfl) rfl (by kernel_rfl) (by first | exact HI.out | exact HI.out.go (Below.refl _ _).drew) (fun hHeld => ?_)
      replace HI := Lib.hid (HI.out.go (Below.refl wr.heap.size wr).drew)
      generalize wr.drew = V0 at hHeld HI ⊢
      refine take_to (i := 0) (d := some 45) (v := ?_) (l' := #[true, false, false, false, false, false, false, false, false, false, false, false, false, false, false, false]) rfl rfl (by kernel_rfl) (by kernel_rfl) (by kernel_rfl) (by kernel_rfl) (fun _ _ _ h => h) (Or.inl ⟨by rfl, ?_⟩) (by assumption) ?_; rotate_left; · (intro w' hSw; (try dsimp only at hSw); go_simp; (try with_reducible rfl))
      try simp only [Act.put, List.setIfInBounds_toArray, List.set_cons_zero, List.set_cons_succ]
      refine take_to (i := 1) (d := some 46) (v := ?_) (l' := #[true, true, false, false, false, false, false, false, false, false, false, false, false, false, false, false]) rfl rfl (by kernel_rfl) (by kernel_rfl) (by kernel_rfl) (by kernel_rfl) (fun _ _ _ h => h) (Or.inl ⟨by rfl, ?_⟩) (by assumption) ?_; rotate_left; · (intro w' hSw; (try dsimp only at hSw); go_simp; (try with_reducible rfl))
      try simp only [Act.put, List.setIfInBounds_toArray, List.set_cons_zero, List.set_cons_succ]
      refine take_to (i := 2) (d := some 47) (v := ?_) (l' := #[true, true, true, false, false, false, false, false, false, false, false, false, false, false, false, false]) rfl rfl (by kernel_rfl) (by kernel_rfl) (by kernel_rfl) (by kernel_rfl) (fun _ _ _ h => h) (Or.inl ⟨by rfl, ?_⟩) (by assumption) ?_; rotate_left; · (intro w' hSw; (try dsimp only at hSw); go_simp; (try with_reducible rfl))
      try simp only [Act.put, List.setIfInBounds_toArray, List.set_cons_zero, List.set_cons_succ]
      refine take_to (i := 3) (d := some 48) (v := ?_) (l' := #[true, true, true, true, false, false, false, false, false, false, false, false, false, false, false, false]) rfl rfl (by kernel_rfl) (by kernel_rfl) (by kernel_rfl) (by kernel_rfl) (fun _ _ _ h => h) (Or.inl ⟨by rfl, ?_⟩) (by assumption) ?_; rotate_left; · (intro w' hSw; (try dsimp only at hSw); go_simp; (try with_reducible rfl))
      try simp only [Act.put, List.setIfInBounds_toArray, List.set_cons_zero, List.set_cons_succ]
      refine take_to (i := 4) (d := some 49) (v := (.int .i64 (x : Int))) (l' := #[true, true, true, true, true, false, false, false, false, false, false, false, false, false, false, false]) rfl rfl (by kernel_rfl) (by kernel_rfl) (by kernel_rfl) (by kernel_rfl) (fun _ _ _ h => h) ?_ (by assumption) ?_
      · refine Or.inl ⟨by rfl, ?_⟩; intro w' hSw; have e := Reads.cell (hSw.a) HK.out; have hk := HK.out; rw [HXK.out] at e; go_simp
      try simp only [Act.put, List.setIfInBounds_toArray, List.set_cons_zero, List.set_cons_succ]
      refine take_to (i := 5) (d := some 50) (v := ?_) (l' := #[true, true, true, true, true, true, false, false, false, false, false, false, false, false, false, false]) rfl rfl (by kernel_rfl) (by kernel_rfl) (by kernel_rfl) (by kernel_rfl) (fun _ _ _ h => h) (Or.inl ⟨by rfl, ?_⟩) (by assumption) ?_; rotate_left; · (intro w' hSw; (try dsimp only at hSw); go_simp; (try with_reducible rfl))
      try simp only [Act.put, List.setIfInBounds_toArray, List.set_cons_zero, List.set_cons_succ]
      refine take_to (i := 6) (d := some 51) (v := ?_) (l' := #[true, true, true, true, true, true, true, false, false, false, false, false, false, false, false, false]) rfl rfl (by kernel_rfl) (by kernel_rfl) (by kernel_rfl) (by kernel_rfl) (fun _ _ _ h => h) (Or.inl ⟨by rfl, ?_⟩) (by assumption) ?_; rotate_left; · (intro w' hSw; (try dsimp only at hSw); go_simp; (try with_reducible rfl))
      try simp only [Act.put, List.setIfInBounds_toArray, List.set_cons_zero, List.set_cons_succ]
      refine take_to (i := 7) (d := some 52) (v := ?_) (l' := #[true, true, true, true, true, true, true, true, false, false, false, false, false, false, false, false]) rfl rfl (by kernel_rfl) (by kernel_rfl) (by kernel_rfl) (by kernel_rfl) (fun _ _ _ h => h) (Or.inl ⟨by rfl, ?_⟩) (by assumption) ?_; rotate_left; · (intro w' hSw; (try dsimp only at hSw); go_simp; (try with_reducible rfl))
      try simp only [Act.put, List.setIfInBounds_toArray, List.set_cons_zero, List.set_cons_succ]
      refine take_to (i := 8) (d := some 53) (v := ?_) (l' := #[true, true, true, true, true, true, true, true, true, false, false, false, false, false, false, false]) rfl rfl (by kernel_rfl) (by kernel_rfl) (by kernel_rfl) (by kernel_rfl) (fun _ _ _ h => h) (Or.inl ⟨by rfl, ?_⟩) (by assumption) ?_; rotate_left; · (intro w' hSw; (try dsimp only at hSw); go_simp; (try with_reducible rfl))
      try simp only [Act.put, List.setIfInBounds_toArray, List.set_cons_zero, List.set_cons_succ]
      refine take_to (i := 9) (d := some 54) (v := ?_) (l' := #[true, true, true, true, true, true, true, true, true, true, false, false, false, false, false, false]) rfl rfl (by kernel_rfl) (by kernel_rfl) (by kernel_rfl) (by kernel_rfl) (fun _ _ _ h => h) (Or.inl ⟨by rfl, ?_⟩) (by assumption) ?_; rotate_left; · (intro w' hSw; (try dsimp only at hSw); go_simp; (try with_reducible rfl))
      try simp only [Act.put, List.setIfInBounds_toArray, List.set_cons_zero, List.set_cons_succ]
      refine take_to (i := 10) (d := some 55) (v := ?_) (l' := #[true, true, true, true, true, true, true, true, true, true, true, false, false, false, false, false]) rfl rfl (by kernel_rfl) (by kernel_rfl) (by kernel_rfl) (by kernel_rfl) (fun _ _ _ h => h) (Or.inl ⟨by rfl, ?_⟩) (by assumption) ?_; rotate_left; · (intro w' hSw; (try dsimp only at hSw); go_simp; (try with_reducible rfl))
      try simp only [Act.put, List.setIfInBounds_toArray, List.set_cons_zero, List.set_cons_succ]
      refine take_to (i := 11) (d := some 56) (v := (.int .i64 (x : Int))) (l' := #[true, true, true, true, true, true, true, true, true, true, true, true, false, false, false, false]) rfl rfl (by kernel_rfl) (by kernel_rfl) (by kernel_rfl) (by kernel_rfl) (fun _ _ _ h => h) ?_ (by assumption) ?_
      · refine Or.inl ⟨by rfl, ?_⟩; intro w' hSw; have e := Reads.cell (hSw.a) HK.out; have hk := HK.out; rw [HXK.out] at e; go_simp
      try simp only [Act.put, List.setIfInBounds_toArray, List.set_cons_zero, List.set_cons_succ]
      refine take_to (i := 12) (d := some 57) (v := ?_) (l' := #[true, true, true, true, true, true, true, true, true, true, true, true, true, false, false, false]) rfl rfl (by kernel_rfl) (by kernel_rfl) (by kernel_rfl) (by kernel_rfl) (fun _ _ _ h => h) (Or.inl ⟨by rfl, ?_⟩) (by assumption) ?_; rotate_left; · (intro w' hSw; (try dsimp only at hSw); go_simp; (try with_reducible rfl))
      try simp only [Act.put, List.setIfInBounds_toArray, List.set_cons_zero, List.set_cons_succ]
      refine take_to (i := 13) (d := some 58) (v := ?_) (l' := #[true, true, true, true, true, true, true, true, true, true, true, true, true, true, false, false]) rfl rfl (by kernel_rfl) (by kernel_rfl) (by kernel_rfl) (by kernel_rfl) (fun _ _ _ h => h) (Or.inl ⟨by rfl, ?_⟩) (by assumption) ?_; rotate_left; · (intro w' hSw; (try dsimp only at hSw); go_simp; (try with_reducible rfl))
      try simp only [Act.put, List.setIfInBounds_toArray, List.set_cons_zero, List.set_cons_succ]
      refine one_to (i := 14) (l' := #[true, true, true, true, true, true, true, true, true, true, true, true, true, true, true, false]) rfl (by kernel_rfl) (by kernel_rfl) (fun K hK => ?_)
      go_simp
      refine calls_arg2 (e' := ((mir x : Nat) : Int)) ?_ ((has_any _ _ _ _ _ _ _ HNA.out HI.out.r).mono ?_)
      · first | rfl | exact wrap_mir _ HX64.out
      rintro e V ⟨rfl, rfl⟩
      rw [HHIT.out]
      dsimp only
      refine hK.out _ _ (by first | exact HI.out | exact HI.out.go (Below.refl _ _).drew) (fun hHeld => ?_)
      clear hK K
      try simp only [Act.put, List.setIfInBounds_toArray, List.set_cons_zero, List.set_cons_succ]
      refine take_to (i := 15) (d := some 60) (v := ?_) (l' := #[true, true, true, true, true, true, true, true, true, true, true, true, true, true, true, true]) rfl rfl (by kernel_rfl) (by kernel_rfl) (by kernel_rfl) (by kernel_rfl) (fun _ _ _ h => h) (Or.inl ⟨by rfl, ?_⟩) (by assumption) ?_; rotate_left; · (intro w' hSw; (try dsimp only at hSw); go_simp; (try with_reducible rfl))
      try simp only [Act.put, List.setIfInBounds_toArray, List.set_cons_zero, List.set_cons_succ]
      refine wpAnyH_done (by kernel_rfl) ?_ _
      refine NoPanic.normal ?_
      clear hHeld
      go_wp2
      go_roundw
      case rel => exact ⟨k + 1, by have := HK.out; omega, by go_num, HI.out⟩
      case measure => have := HK.out; simp [intOf]; omega
    · obtain rfl : k = NA := by omega
      go_wp2_with fail
      refine (pick64_any a2 _).mono ?_
      rintro e w13 ⟨rfl, rfl⟩
      obtain ⟨kn, hkn, hk64⟩ : ∃ n : Nat, a2 % 64 = (n : Int) ∧ n < 64 := ⟨(a2 % 64).toNat, by omega, by omega⟩
      rw [hkn]
      clear hkn
      have HK64 := Lib.hid hk64
      by_cases hks : kn = sn
      · subst hks
        go_wp2
        go_ret
        exact ⟨rfl, HI.out.t.b⟩
      · have hkq : ((kn : Int) == (sn : Int)) = false := by simp; omega
        have HKS := Lib.hid hks
        clear hks
        go_wp2_with (first | refine wpList_new X P HX.out (by rfl) (by rfl) ?_ | refine wpList_pos (by rfl) _ (by rfl) w.heap.size P X HX.out (by rfl) HI.out.t.p ?_)
        intro w16 hp16 hb hz
        have HBN := Lib.hid (show w.heap.size < wr.heap.size from HI.out.t.p.lt)
        have HBB := Lib.hid (show B ≤ wr.heap.size from HI.out.t.bb)
        have HRA := Lib.hid (HI.out.a.below hb)
        replace HI := Lib.hid (HI.out.t.go hb)
        have HR := Lib.hid hp16
        generalize wr.heap.size = b13 at HR HBN HBB HRA ⊢
        clear hp16 hb hz
        have e1 := HR.out.cell (kn * 2) (by omega)
        have e2 := HR.out.cell (kn * 2 + 1) (by omega)
        have fz := HR.out.fr
        go_upto_region 18 with (fail)
        have hbb : Below b13 w16 ((w16.setCell ⟨b13, kn * 2, none⟩ (.int .i64 0)).setCell ⟨b13, kn * 2 + 1, none⟩ (.int .i64 0)) := ((Below.refl b13 w16).setCell (p := ⟨b13, kn * 2, none⟩) (Nat.le_refl _) _).setCell (p := ⟨b13, kn * 2 + 1, none⟩) (Nat.le_refl _) _
        have hr2 : PB ((w16.setCell ⟨b13, kn * 2, none⟩ (.int .i64 0)).setCell ⟨b13, kn * 2 + 1, none⟩ (.int .i64 0)) b13 (less P kn) := by
          rw [← less_set]; exact (HR.out.set (kn * 2) 0 (by omega)).set (kn * 2 + 1) 0 (by omega)
        refine forget_B (fun W => Ta w B P W ∧ Reads W.heap.size W pa k (fun m => .int .i64 (getI LA m)) ∧ PB W b13 (less P kn))
          ⟨⟨HI.out.p.below hbb HBN.out, HI.out.g.below (hbb.mono HBB.out), HI.out.b.trans (hbb.mono (Nat.le_of_lt HBN.out)), Nat.le_trans HI.out.bb hbb.size⟩, (HRA.out.below hbb).mono (Nat.le_of_lt hr2.lt), hr2⟩ ?_
        clear HI HRA HR hbb hr2 e1 e2 fz
        rintro W17 ⟨hI, hra, hr⟩
        have HI := Lib.hid hI
        have HRA := Lib.hid hra
        have HR := Lib.hid hr
        clear hI hra hr
        have HFL := Lib.hid (fun W h1 h2 => from_any (less P kn) (sn : Int) W B h1 h2)
        simp only [from_eq] at HFL
        obtain ⟨Y, hY⟩ : ∃ Y, Y = (pc (less P kn)).toArray := ⟨_, rfl⟩
        rw [← hY] at HFL
        have HY := Lib.hid hY
        clear hY
        refine wp_region_lit ?_
        refine wpList_pos (by rfl) _ (by rfl) b13 (less P kn) Y HY.out (by rfl) HR.out ?_
        go_wp2_with fail
        refine (HFL.out _ HI.out.g HI.out.bb).mono ?_
        rintro e w18 ⟨v, rfl, hb, hown⟩
        rw [ivals_range] at hown
        obtain ⟨pc', cc, rfl, hr1, _⟩ := sq_reads hown
        have hle := HLE.out kn (fun h => HKS.out h.symm)
        have HHC := Lib.hid (show ∀ x : Nat, x < 64 → attR P sn x = true → hasB (getI (rFromL (less P kn) (sn : Int))) (rFromL (less P kn) (sn : Int)).length (x : Int) = true from fun x hx h => by
          rw [has_from (less P kn) sn x HS.out hx]; exact att_less P kn sn x (fun h => HKS.out h.symm) h)
        have hnc := rFromL_len64 (less P kn) (sn : Int)
        obtain ⟨LC, hLC⟩ : ∃ l, rFromL (less P kn) (sn : Int) = l := ⟨_, rfl⟩
        rw [hLC] at hr1 hle hnc ⊢
        simp only [hLC] at HHC
        obtain ⟨NC, hNC⟩ : ∃ n, LC.length = n := ⟨_, rfl⟩
        rw [hNC] at hr1 hle hnc ⊢
        simp only [hNC] at HHC
        replace HI := Lib.hid (show Td w B P pa k (fun m => .int .i64 (getI LA m)) pc' NC (fun m => .int .i64 (getI LC m)) w18 from ⟨HI.out.go hb, (HRA.out.below hb).mono hb.size, hr1⟩)
        have HNC := Lib.hid (show NC ≤ 1000000 by omega)
        have HLEN := Lib.hid hle
        clear hb hown hr1 hle hnc hLC hNC HRA HR HFL
        go_wp2
        go_loopw [15] (fun v wr => ∃ j : Nat, j ≤ k ∧ v = .int .i64 (j : Int) ∧ Td w B P pa k (fun m => .int .i64 (getI LA m)) pc' NC (fun m => .int .i64 (getI LC m)) wr) (fun v _ => k - (intOf v).toNat)
        case atStart => exact ⟨0, Nat.zero_le _, rfl, HI.out⟩
        case round =>
          clear HI
          obtain ⟨j, hj, rfl, hI⟩ := hrel
          have HI := Lib.hid hI
          clear hI
          by_cases hlt2 : j < k
          · obtain ⟨x, hx, x64, hax⟩ := HAT.out j hlt2
            have HHIT := Lib.hid (HHC.out x x64 hax)
            obtain ⟨ab, ao, rfl⟩ := HI.out.a.addr hlt2
            have e0 := HI.out.a.cell hlt2
            rw [hx] at e0
            clear hx hax x64
            go_wp2_with fail
            refine (has_any _ _ _ _ _ _ _ HNC.out HI.out.r).mono ?_
            rintro e w22 ⟨rfl, rfl⟩
            rw [HHIT.out]
            go_wp2
            go_roundw
            case rel => exact ⟨j + 1, by omega, by go_num, HI.out⟩
            case measure => simp [intOf]; omega
          · obtain rfl : j = k := by omega
            have hge := HLEN.out
            go_wp2
            go_ret
            exact ⟨rfl, HI.out.t.b⟩
end Go.Proofs.YtbnpphecknhpeaaDoor
