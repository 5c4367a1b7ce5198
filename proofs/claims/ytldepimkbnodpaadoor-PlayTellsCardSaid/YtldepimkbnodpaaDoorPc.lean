/-
  Contracts: the error of a move; the hand of a position.
-/
import Derived.Test.YtldepimkbnodpaaDoorPb
import Derived.Test.YtldepimkbnodpaaDoorBv
namespace Go.Proofs.YtldepimkbnodpaaDoor
open Go.RowKit Go.Sort
set_option linter.unusedSimpArgs false
set_option linter.unusedVariables false

theorem flt_bad (P : Nat → Int) (f t k : Int) (h : (!sq f || !sq t || f == t) = true) : fltN P f t k = 6 := by unfold fltN; rw [h]; rfl
theorem flt_on (P : Nat → Int) (f t : Nat) (k : Int) (hf : f < 64) (ht : t < 64) (h : f ≠ t) : fltN P f t k = if ownB P f && becB P f t k then 0 else 8 := by
  unfold fltN
  rw [(sq_iff _).2 (by omega), (sq_iff _).2 (by omega), show ((f : Int) == t) = false by simp; omega, Int.toNat_natCast, Int.toNat_natCast]
  rfl
set_option maxHeartbeats 2000000 in
theorem fault_any (b : Nat) (P : Nat → Int) (f t k : Int) (w : World) (hp : PB w b P) :
    Calls Tryd.prog 22 #[.pointer (some ⟨b, 0, none⟩), .agg #[.int .i64 f, .int .i64 t, .int .i64 k]] w fun e w' => e = .returned (.int .i64 (fltN P f t k)) ∧ Below w.heap.size w w' := by
  have HI := Lib.hid (HM.begin f t k hp)
  have M1 := Lib.hid (fun W => is_any f W)
  have M2 := Lib.hid (fun W => is_any t W)
  have HBAD := Lib.hid (flt_bad P f t k)
  have HON := Lib.hid (show sq f = true → sq t = true → ¬ f = t → fltN P f t k = if ownB P f.toNat && becB P f.toNat t.toNat k then 0 else 8 from fun h1 h2 h3 => by
    obtain ⟨a1, a2⟩ := (sq_iff _).1 h1
    obtain ⟨b1, b2⟩ := (sq_iff _).1 h2
    have := flt_on P f.toNat t.toNat k (by omega) (by omega) (by omega)
    rwa [show ((f.toNat : Nat) : Int) = f by omega, show ((t.toNat : Nat) : Int) = t by omega] at this)
  have M3 := Lib.hid (show sq f = true → ∀ W, PB W b P → Calls Tryd.prog 40 #[.pointer (some ⟨b, 0, none⟩), .int .i64 f] W fun e w' => e = .returned (.bool (ownB P f.toNat)) ∧ Below W.heap.size W w' from fun h1 W h => by
    obtain ⟨a1, a2⟩ := (sq_iff _).1 h1
    have := owns_any b P f.toNat (by omega) W h
    rwa [show ((f.toNat : Nat) : Int) = f by omega] at this)
  have M4 := Lib.hid (show sq f = true → sq t = true → ∀ W, PB W b P → Calls Tryd.prog 41 #[.pointer (some ⟨b, 0, none⟩), .agg #[.int .i64 f, .int .i64 t, .int .i64 k]] W fun e w' => e = .returned (.bool (becB P f.toNat t.toNat k)) ∧ Below W.heap.size W w' from fun h1 h2 W h => by
    obtain ⟨a1, a2⟩ := (sq_iff _).1 h1
    obtain ⟨b1, b2⟩ := (sq_iff _).1 h2
    have := mayBecome_any b P f.toNat t.toNat k (by omega) (by omega) W h
    rwa [show ((f.toNat : Nat) : Int) = f by omega, show ((t.toNat : Nat) : Int) = t by omega] at this)
  clear hp
  obtain ⟨s1, hs1⟩ : ∃ s, sq f = s := ⟨_, rfl⟩
  obtain ⟨s2, hs2⟩ : ∃ s, sq t = s := ⟨_, rfl⟩
  rw [hs1] at M1 HBAD HON M3 M4
  rw [hs2] at M2 HBAD HON M4
  clear hs1 hs2
  generalize ownB P f.toNat = ow at *
  generalize becB P f.toNat t.toNat k = be at *
  generalize fltN P f t k = R at *
  go_enter Tryd.func22, Tryd.ntmps22
  go_upto_region 1 with (fail)
  refine forget_B (fun W => HM w W b P f t k) HI.out ?_
  clear HI
  intro W hi
  have HI := Lib.hid hi
  clear hi
  obtain ⟨q0, q1, q2, qf, qz⟩ := row3 HI.out.x
  go_wp2_with fail
  refine (M1.out _).mono ?_
  rintro e w1 ⟨rfl, hb1⟩
  replace HI := Lib.hid (HI.out.go hb1)
  clear q0 q1 q2 qf qz
  obtain ⟨q0, q1, q2, qf, qz⟩ := row3 HI.out.x
  cases s1
  · go_wp2
    go_ret
    exact ⟨q_i (HBAD.out rfl).symm, HI.out.b⟩
  go_wp2_with fail
  refine (M2.out _).mono ?_
  rintro e w2 ⟨rfl, hb1⟩
  replace HI := Lib.hid (HI.out.go hb1)
  clear q0 q1 q2 qf qz
  obtain ⟨q0, q1, q2, qf, qz⟩ := row3 HI.out.x
  cases s2
  · go_wp2
    go_ret
    exact ⟨q_i (HBAD.out rfl).symm, HI.out.b⟩
  by_cases hft : f = t
  · have HR := Lib.hid (HBAD.out (by simp [hft]))
    have hft2 : (f == t) = true := by simp [hft]
    go_wp2
    go_ret
    exact ⟨q_i HR.out.symm, HI.out.b⟩
  have HR := Lib.hid (HON.out (by trivial) (by trivial) hft)
  have hft2 : (f == t) = false := by simp [hft]
  go_wp2_with fail
  refine (M3.out (by trivial) _ HI.out.p).mono ?_
  rintro e w3 ⟨rfl, hb1⟩
  replace HI := Lib.hid (HI.out.go hb1)
  clear q0 q1 q2 qf qz
  obtain ⟨q0, q1, q2, qf, qz⟩ := row3 HI.out.x
  cases ow
  · go_wp2
    go_ret
    exact ⟨q_i (by rw [HR.out]; rfl), HI.out.b⟩
  go_wp2_with fail
  refine (M4.out (by trivial) (by trivial) _ HI.out.p).mono ?_
  rintro e w4 ⟨rfl, hb1⟩
  replace HI := Lib.hid (HI.out.go hb1)
  clear q0 q1 q2 qf qz
  cases be
  · go_wp2
    go_ret
    exact ⟨q_i (by rw [HR.out]; rfl), HI.out.b⟩
  · go_wp2
    go_ret
    exact ⟨q_i (by rw [HR.out]; rfl), HI.out.b⟩

/-- the castlings that there are -/
def cas0 (c : Int) : Int := if casB c then c else 0
/-- a hand's position -/
def handP (P : Nat → Int) : Nat → Int := setN P 129 (cas0 (P 129))
theorem handP_off (P : Nat → Int) (h : casB (P 129) = false) : handP P = setN P 129 0 := by unfold handP cas0; rw [h]; rfl
theorem handP_on (P : Nat → Int) (h : casB (P 129) = true) : handP P = P := by
  unfold handP cas0; rw [h]; funext i; unfold setN
  by_cases e : i = 129
  · subst e; rfl
  · rw [if_neg e]
theorem infoHand : (Tryd.prog.info? 51).map (·.size) = some 133 := by kernel_rfl
theorem zeroHand : Tryd.zeroCells51 = (pc fun _ => 0).toArray := by kernel_rfl
theorem fold_hand (X : Array Value) (hX : X.size = 133) : Array.foldl (fun (cs : Array Value) (x : Value × Nat) => cs.setIfInBounds x.2 x.1) Tryd.zeroCells51 X.zipIdx 0 133 = X := by
  apply Array.ext_getElem?
  intro i
  have hz : Tryd.zeroCells51.size = 133 := by rw [zeroHand, pc_size]
  rw [show (133 : Nat) = X.zipIdx.size by simp [hX], ← Array.foldl_toList]
  rw [Array.toList_zipIdx, fold_set X.toList 0 _ (by simp [hX, hz]) i]
  by_cases h : i < 133
  · rw [if_pos (by simp [hX, h]), Nat.sub_zero, Array.getElem?_toList]
  · rw [if_neg (by simp [hX]; omega), Array.getElem?_eq_none (by omega), Array.getElem?_eq_none (by omega)]
/-- what stands while a hand is made -/
structure HO (w W : World) (P : Nat → Int) : Prop where
  p : PB W w.heap.size P
  z : PB W (w.heap.size + 1) (fun _ => 0)
  b : Below w.heap.size w W
theorem HO.begin (w : World) (P : Nat → Int) (X : Array Value) (hX : X = (pc P).toArray) : HO w ((w.alloc (.cells X 29)).alloc (.cells Tryd.zeroCells51 51)) P := by
  obtain ⟨a1, a2, a3, a4⟩ := two_at w (.cells X 29) (.cells Tryd.zeroCells51 51)
  rw [zeroHand] at *
  exact ⟨PB.of_block (by rw [hX] at a1 ⊢; exact a1), PB.of_block a2, a3⟩
set_option maxHeartbeats 2000000 in
set_option maxRecDepth 100000 in
theorem handOf_end (P : Nat → Int) (w W : World) (X : Array Value) (hX : X = (pc P).toArray) (h : HO w W P) :
    (W.setCells (w.heap.size + 1) 0 X.toList).rangeAt (w.heap.size + 1) 0 (pc P) ∧ Below w.heap.size w (W.setCells (w.heap.size + 1) 0 X.toList) := by
  rw [hX, List.toList_toArray]
  exact ⟨(h.z.store (Q := P)).range, below_store (b := w.heap.size + 1) P h.b (by omega) (by have := h.b.size; omega)⟩
set_option maxHeartbeats 2000000 in
set_option maxRecDepth 100000 in
theorem handOf_any (P : Nat → Int) (w : World) :
    Calls Tryd.prog 21 #[.agg (pc P).toArray] w fun e w' => e = .returned (.agg (pc (handP P)).toArray) ∧ Below w.heap.size w w' := by
  obtain ⟨X, hX⟩ : ∃ X, X = (pc P).toArray := ⟨_, rfl⟩
  obtain ⟨Y, hY⟩ : ∃ Y, Y = (pc (handP P)).toArray := ⟨_, rfl⟩
  rw [← hX, ← hY]
  have hsz : Y.size = 133 := by rw [hY, pc_size]
  have HF := Lib.hid (fold_hand Y hsz)
  have HI := Lib.hid (HO.begin w P X hX)
  have HY := Lib.hid hY
  have HS := Lib.hid hsz
  clear hX hY hsz
  have hoff := handP_off P
  have hon := handP_on P
  have HC := Lib.hid (show ∀ W, HO w W P → W.cell? ⟨w.heap.size, 129, none⟩ = some (.int .i64 (P 129)) from fun W h => h.p.cell 129 (by omega))
  have HFR := Lib.hid (show ∀ W, HO w W P → W.frozen? ⟨w.heap.size, 129, none⟩ = false from fun W h => h.p.fr 129)
  obtain ⟨c, hc⟩ : ∃ c, P 129 = c := ⟨_, rfl⟩
  rw [hc] at hoff hon HC
  clear hc
  have HOFF := Lib.hid hoff
  have HOON := Lib.hid hon
  clear hoff hon
  go_enter Tryd.func21, Tryd.ntmps21
  go_upto_region 1 with (fail)
  refine forget_B (fun W => HO w W P) HI.out ?_
  clear HI
  intro W hi
  have HI := Lib.hid hi
  clear hi
  have e1 := HC.out W HI.out
  have f1 := HFR.out W HI.out
  rcases cas_cases c with ⟨h1, hb⟩ | ⟨h1, hb⟩ | ⟨h1, h2, hb⟩
  case inr.inr =>
    have hq := HOON.out hb
    rw [hq] at HY
    clear hb hq
    go_upto_region 3 with (fail)
    refine wp_region_lit ?_
    refine wpList_pos (by rfl) _ (by rfl) w.heap.size P Y HY.out (by rfl) HI.out.p ?_
    have hfold := HF.out
    have hsz := HS.out
    refine wpList_plain rfl (fun K hK => ?_)
    go_simp
    refine hK _ _ ?_
    clear hK K
    clear hfold hsz
    refine wpList_store_mid rfl 51 _ _ rfl (w.heap.size + 1) 0 Y rfl rfl (by rw [HS.out]; exact HI.out.z.there) (by rw [infoHand, HS.out]) (by rw [HY.out]; exact pc_one P) ?_
    obtain ⟨hr1, hb1⟩ := handOf_end P w W Y HY.out HI.out
    generalize W.setCells (w.heap.size + 1) 0 Y.toList = W8 at hr1 hb1 ⊢
    show Exit.then _ _ Exit.normal _ _
    refine ret_go (by assumption) ?_
    repeat (first | refine then_ret ?_ | refine block_ret ?_)
    refine bodyPost_ret (v := .agg (pc P).toArray) ?_ rfl ⟨by rw [HY.out], hb1⟩
    exact results_cell_mid (p := 2) (ty := 51) rfl _ W8 (w.heap.size + 1) _ _ rfl hr1 Tryd.underlying51 rfl (by rw [infoHand, pc_len])
  all_goals
    have hq := HOFF.out hb
    rw [hq] at HY
    clear hb hq
    go_upto_region 3 with (fail)
    refine forget_B (fun W => HO w W (setN P 129 0)) ⟨HI.out.p.set 129 0 (by omega), HI.out.z.other (by omega) _ _, HI.out.b.setCell (p := ⟨w.heap.size, 129, none⟩) (Nat.le_refl _) _⟩ ?_
    clear HI e1 f1 HC HFR
    intro W2 hi
    have HI := Lib.hid hi
    clear hi
    refine wp_region_lit ?_
    refine wpList_pos (by rfl) _ (by rfl) w.heap.size (setN P 129 0) Y HY.out (by rfl) HI.out.p ?_
    have hfold := HF.out
    have hsz := HS.out
    refine wpList_plain rfl (fun K hK => ?_)
    go_simp
    refine hK _ _ ?_
    clear hK K
    clear hfold hsz
    refine wpList_store_mid rfl 51 _ _ rfl (w.heap.size + 1) 0 Y rfl rfl (by rw [HS.out]; exact HI.out.z.there) (by rw [infoHand, HS.out]) (by rw [HY.out]; exact pc_one _) ?_
    obtain ⟨hr1, hb1⟩ := handOf_end (setN P 129 0) w W2 Y HY.out HI.out
    generalize W2.setCells (w.heap.size + 1) 0 Y.toList = W8 at hr1 hb1 ⊢
    show Exit.then _ _ Exit.normal _ _
    refine ret_go (by assumption) ?_
    repeat (first | refine then_ret ?_ | refine block_ret ?_)
    refine bodyPost_ret (v := .agg (pc (setN P 129 0)).toArray) ?_ rfl ⟨by rw [HY.out], hb1⟩
    exact results_cell_mid (p := 2) (ty := 51) rfl _ W8 (w.heap.size + 1) _ _ rfl hr1 Tryd.underlying51 rfl (by rw [infoHand, pc_len])
end Go.Proofs.YtldepimkbnodpaaDoor
