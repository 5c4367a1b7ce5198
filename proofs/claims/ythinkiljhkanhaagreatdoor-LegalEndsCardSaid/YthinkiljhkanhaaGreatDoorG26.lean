/-
  Merged: Rh, Ri, Rk, Rj, Rl, Rn.
-/
import Derived.Test.YthinkiljhkanhaaGreatDoorG25
import Derived.Test.YthinkiljhkanhaaGreatDoorRb
import Derived.Test.YthinkiljhkanhaaGreatDoorG21
import Derived.Test.YthinkiljhkanhaaGreatDoorG24

namespace Go.Proofs.YthinkiljhkanhaaGreatDoor
open Go.RowKit Go.Sort
set_option linter.unusedSimpArgs false
set_option linter.unusedVariables false
set_option maxRecDepth 20000
attribute [local go_sem] Oper.semAt_some

/-- how many rows of so many legal moves there are -/
def cntD : Nat → (Nat → Int) → Nat
  | 0, _ => 1
  | d + 1, P => ((legM P).map fun m => cntD d (nxP P m.1.toNat m.2.1.toNat m.2.2)).sum
def cntS (d : Nat) (P : Nat → Int) (l : List (Int × Int × Int)) : Nat := (l.map fun m => cntD d (nxP P m.1.toNat m.2.1.toNat m.2.2)).sum
theorem cntD_succ (d : Nat) (P : Nat → Int) : cntD (d + 1) P = cntS d P (legM P) := rfl
theorem cntS_snoc (d : Nat) (P : Nat → Int) (l : List (Int × Int × Int)) (m : Int × Int × Int) : cntS d P (l ++ [m]) = cntS d P l + cntD d (nxP P m.1.toNat m.2.1.toNat m.2.2) := by unfold cntS; simp
theorem cntS_le (d : Nat) (N : Nat) (h : ∀ P, cntD d P ≤ N) (P : Nat → Int) (l : List (Int × Int × Int)) : cntS d P l ≤ l.length * N := by
  induction l with
  | nil => simp [cntS]
  | cons a l ih =>
    have h1 := h (nxP P a.1.toNat a.2.1.toNat a.2.2)
    have h2 : cntS d P (a :: l) = cntD d (nxP P a.1.toNat a.2.1.toNat a.2.2) + cntS d P l := by simp [cntS]
    rw [h2, List.length_cons, Nat.succ_mul]
    omega
theorem cntD_le (d : Nat) : ∀ P, cntD d P ≤ 17920 ^ d := by
  induction d with
  | zero => intro P; simp [cntD]
  | succ d ih =>
    intro P
    rw [cntD_succ, Nat.pow_succ, Nat.mul_comm]
    exact Nat.le_trans (cntS_le d _ ih P _) (Nat.mul_le_mul_right _ (legM_len P))
theorem cntD_max (d : Nat) (hd : d ≤ 2) (P : Nat → Int) : cntD d P ≤ 321126400 := by
  have h := cntD_le d P
  rcases (show d = 0 ∨ d = 1 ∨ d = 2 by omega) with rfl | rfl | rfl
  · omega
  · omega
  · omega
theorem cntS_max (d : Nat) (hd : d ≤ 2) (P : Nat → Int) (l : List (Int × Int × Int)) (hl : l.length ≤ 17920) : cntS d P l ≤ 5754585088000 := by
  have h := cntS_le d _ (cntD_max d hd) P l
  have h2 := Nat.mul_le_mul_right 321126400 hl
  omega
theorem wpIn_store_mid {P : Program} {F : Fence} {n : Nat} {op : Oper} {a : Act} {w : World} {K : Act → World → Prop} {Q : Exit → Act → World → Prop} (ty : TypeId) (x y : Operand) (ho : op.op = .store ty x y)
    (b o : Nat) (cells : Array Value) (hx : a.eval x = .pointer (some ⟨b, o, none⟩)) (hy : a.eval y = .agg cells)
    (ht : w.there b o cells.size) (hi : (P.info? ty).map (·.size) = some cells.size) (h1 : cells.all (·.oneCell') = true)
    (h : K (a.put op.dst undef) (w.setCells b o cells.toList)) : op.wpIn F n P a w K Q := by
  refine ⟨fun f hf => ?_, ?_⟩
  · simp [Oper.about, ho] at hf
  · rw [Oper.semAt_eq _ _ _ (by simp [ho])]
    unfold execOp
    simp only [ho, hx, hy, Instr.storeAt, Instr.sureAddr, Sem.run_bind, Sem.run_pure, Result.andThen_ok, run_storeVar_mid w b o ty cells ht hi h1]
    exact h
theorem wpListIn_store_mid {P : Program} {F : Fence} {n : Nat} {ops : Array Oper} {rest : List Oper} {op : Oper} {a : Act} {w : World} {Q : Exit → Act → World → Prop} (hgd : op.guard = none) (ty : TypeId) (x y : Operand) (ho : op.op = .store ty x y)
    (b o : Nat) (cells : Array Value) (hx : a.eval x = .pointer (some ⟨b, o, none⟩)) (hy : a.eval y = .agg cells)
    (ht : w.there b o cells.size) (hi : (P.info? ty).map (·.size) = some cells.size) (h1 : cells.all (·.oneCell') = true)
    (h : wpListIn F n P ops Q rest (a.put op.dst undef) (w.setCells b o cells.toList)) : wpListIn F n P ops Q (op :: rest) a w :=
  wpListIn_plain hgd fun _ hK => wpIn_store_mid ty x y ho b o cells hx hy ht hi h1 (hK _ _ h)
/-- what stands between two rounds: the rows that are counted -/
structure ApC (d : Nat) (P : Nat → Int) (w : World) (pre : List (Int × Int × Int)) (X : Nat → Prop) (W : World) : Prop where
  below : Below w.heap.size w W
  box : W.heap[w.heap.size]? = some (.cells #[.int .i64 ((cntS d P pre : Nat) : Int)] 3 (0, 0))
  x : ∀ k, X k ↔ k = w.heap.size
theorem ApC.lt {d : Nat} {P : Nat → Int} {w : World} {pre : List (Int × Int × Int)} {X : Nat → Prop} {W : World} (h : ApC d P w pre X W) : ∀ k, X k → k < W.heap.size := by
  intro k hk
  rw [(h.x k).1 hk]
  exact al_lt h.box
theorem ApC.spare {d : Nat} {P : Nat → Int} {w : World} {pre : List (Int × Int × Int)} {X : Nat → Prop} {A B : World} {n : Nat} (h : ApC d P w pre X A) (hn : w.heap.size ≤ n) (hs : Spares n X A B) : ApC d P w pre X B :=
  ⟨h.below.trans (hs.below h.below.size hn), (hs.block _ (al_lt h.box) (.inr ((h.x _).2 rfl))).trans h.box, h.x⟩
/-- a judge's block of its own -/
noncomputable def judA (N : Nat → Int) (V : World) : World := (V.alloc (.cells Tryz.zeroCells62 62)).setCells V.heap.size 0 (pc N)
theorem judA_below (N : Nat → Int) (V : World) : Below V.heap.size V (judA N V) := below_store (b := V.heap.size) N (below_new _) (Nat.le_refl _) (by simp)
theorem judA_pb (N : Nat → Int) (V : World) : PB (judA N V) V.heap.size N := by
  have hpn : PB (V.alloc (.cells Tryz.zeroCells62 62)) V.heap.size (fun _ => 0) := by rw [zeroJudge]; exact PB.new rfl
  exact hpn.store (Q := N)
theorem judA_size (N : Nat → Int) (V : World) : (judA N V).heap.size = V.heap.size + 1 := by unfold judA; rw [sizes_B]; simp
set_option maxHeartbeats 4000000 in
theorem cntLow_any (x : Int) (h : x < 1) (p : Option Addr) (w : World) :
    Calls Tryz.prog 53 #[.pointer p, .int .i64 x] w fun e w' => e = .returned (.int .i64 1) ∧ Below w.heap.size w w' := by
  refine calls_of_marks Tryz.func53 rfl ?_
  simp only [Tryz.ntmps53, List.size_toArray, List.length_cons, List.length_nil, Nat.reduceAdd, Nat.reduceSub, Array.replicate_succ, Array.replicate_zero, List.push_toArray, List.append_toArray, List.nil_append, List.cons_append]
  go_wp2
  exact ⟨_, results_tmp rfl _ _ _, rfl, below_new _⟩
set_option maxHeartbeats 40000000 in
set_option maxRecDepth 100000 in
theorem cntSucc_any (d : Nat) (hd : d ≤ 2) (ih : ∀ B b P w, JQ B b P w w → Calls Tryz.prog 53 #[.pointer (some ⟨b, 0, none⟩), .int .i64 (d : Int)] w fun e w' => e = .returned (.int .i64 ((cntD d P : Nat) : Int)) ∧ Below w.heap.size w w')
    (B b : Nat) (P : Nat → Int) (w : World) (h : JQ B b P w w) :
    Calls Tryz.prog 53 #[.pointer (some ⟨b, 0, none⟩), .int .i64 ((d + 1 : Nat) : Int)] w fun e w' => e = .returned (.int .i64 ((cntD (d + 1) P : Nat) : Int)) ∧ Below w.heap.size w w' := by
  have IH := Lib.hid ih
  obtain ⟨dd, hdd⟩ : ∃ x : Int, ((d + 1 : Nat) : Int) = x := ⟨_, rfl⟩
  rw [hdd]
  have g1 : ¬ dd < 1 := by omega
  have HD := Lib.hid (show IntKind.i64.wrap (dd - 1) = (d : Int) from (IntWalk.i64_in _ (by omega)).trans (by omega))
  have HD1 := Lib.hid hd
  have HBX := Lib.hid (below_new (w := w) (.cells #[.int .i64 dd] 3))
  have HDB := Lib.hid (show (w.alloc (.cells #[.int .i64 dd] 3)).heap[w.heap.size]? = some (.cells #[.int .i64 dd] 3 (0, 0)) from sl_at rfl)
  have HI := Lib.hid (h.go HBX.out)
  have HLB := Lib.hid (show b < w.heap.size from h.p.lt)
  clear hd hdd h ih
  refine calls_of_marks Tryz.func53 rfl ?_
  simp only [Tryz.ntmps53, List.size_toArray, List.length_cons, List.length_nil, Nat.reduceAdd, Nat.reduceSub, Array.replicate_succ, Array.replicate_zero, List.push_toArray, List.append_toArray, List.nil_append, List.cons_append]
  go_upto_region 4 with (fail)
  have hs1 : w.heap.size + 1 = (w.alloc (.cells #[.int .i64 dd] 3)).heap.size := by simp
  have HS1 := Lib.hid (show w.heap.size < (w.alloc (.cells #[.int .i64 dd] 3)).heap.size by omega)
  rw [hs1]
  clear hs1 g1
  generalize w.alloc (.cells #[.int .i64 dd] 3) = w1 at *
  go_wp2_with fail
  refine (legal_any b _).mono ?_
  rintro e w4 ⟨rfl, rfl⟩
  have har : LJ B b (w1.heap.size + 1) P ((w1.alloc (.cells #[.int .i64 0] 3)).alloc (.cells #[.pointer (some ⟨b, 0, none⟩)] 85)) := by
    have hb : Below w1.heap.size w1 ((w1.alloc (.cells #[.int .i64 0] 3)).alloc (.cells #[.pointer (some ⟨b, 0, none⟩)] 85)) := (below_new _).alloc (by simp) _
    have h := HI.out.go hb
    exact ⟨sl_at (by simp), h.p, h.gb, h.gs, h.gm, h.gp, h.s⟩
  have HAR := Lib.hid har
  have HW4 := Lib.hid (((below_new (w := w1) (.cells #[.int .i64 0] 3))).alloc (by simp) (.cells #[.pointer (some ⟨b, 0, none⟩)] 85))
  have HV4 := Lib.hid (show ((w1.alloc (.cells #[.int .i64 0] 3)).alloc (.cells #[.pointer (some ⟨b, 0, none⟩)] 85)).heap[w1.heap.size]? = some (.cells #[.int .i64 0] 3 (0, 0)) from al_old (sl_at rfl) _)
  have hmb : (w1.alloc (.cells #[.int .i64 0] 3)).heap.size = w1.heap.size + 1 := by simp
  rw [hmb]
  generalize (w1.alloc (.cells #[.int .i64 0] 3)).alloc (.cells #[.pointer (some ⟨b, 0, none⟩)] 85) = W4 at *
  clear hmb har
  go_wp2
  refine wp_range_over3 (gf := 85) (lb := #[.pointer (some ⟨w1.heap.size + 1, 0, none⟩)]) rfl (enters_of Tryz.func85 (by kernel_rfl) rfl) (legal1_comes B b (w1.heap.size + 1) P W4 HAR.out) (Below.refl _ _) (fun x => rfl) (fun pre X W => ApC d P w1 pre X W) (fun _ _ _ _ => False)
    (fun s X A B h hs => h.spare HW4.out.size hs) (fun _ _ _ _ _ h _ => h) (fun s X A h => h.lt) (X0 := fun k => k = w1.heap.size) ?start ?disj
    (fun x V => { tmps := #[.pointer (some ⟨b, 0, none⟩), .int .i64 dd, undef, .pointer (some ⟨w.heap.size, 0, none⟩), .int .i64 0, .pointer (some ⟨w1.heap.size, 0, none⟩), undef, .pointer (some ⟨V.heap.size, 0, none⟩), .int .i64 dd, .bool false, .pointer (some ⟨b, 0, none⟩), .func (.func 85) #[] #[.pointer (some ⟨w1.heap.size + 1, 0, none⟩)], .agg #[.int .i64 x.1, .int .i64 x.2.1, .int .i64 x.2.2], .agg (pc (nxP P x.1.toNat x.2.1.toNat x.2.2)).toArray, undef, undef, undef, undef, undef, undef], defers := [] })
    (fun x V => judA (nxP P x.1.toNat x.2.1.toNat x.2.2) V) (fun x V => judA_below _ _) ?assign ?body ?done ?stop
  case start => exact ⟨HW4.out, by rw [show ((cntS d P [] : Nat) : Int) = 0 by simp [cntS]]; exact HV4.out, fun k => Iff.rfl⟩
  case disj =>
    have h1 := HLB.out
    have h2 := HI.out.s
    have h3 := HS1.out
    rintro k rfl (hk | hk | hk)
    · omega
    · omega
    · omega
  case assign =>
    rintro l ⟨f, t, k⟩ W K hK
    dsimp only [encL]
    dsimp only at hK
    generalize nxP P f.toNat t.toNat k = N at *
    have hpn : PB (W.alloc (.cells Tryz.zeroCells62 62)) W.heap.size (fun _ => 0) := by rw [zeroJudge]; exact PB.new rfl
    have HPN := Lib.hid hpn
    obtain ⟨Z, hZ⟩ : ∃ Z, Z = (pc N).toArray := ⟨_, rfl⟩
    have HZ := Lib.hid hZ
    have HZL := Lib.hid (show Z.toList = pc N by rw [hZ])
    rw [← hZ] at hK ⊢
    clear hZ hpn
    gi_wp2_with (refine wpListIn_store_mid rfl 62 _ _ rfl W.heap.size 0 Z (by rfl) (by rfl) (by rw [HZ.out, pc_size]; exact HPN.out.there) (by rw [infoJudge, HZ.out, pc_size]) (by rw [HZ.out]; exact pc_one N) ?_; rw [HZL.out])
    exact hK
  case body =>
    rintro l' pre ⟨f, t, k⟩ X7 V W7 h hpre hVs hXV hsz hnew
    dsimp only at hsz hnew
    have hlp : pre.length + 1 ≤ 17920 := by
      have h1 := hpre.length_le
      have h2 := legM_len P
      simp at h1; omega
    dsimp only
    have hsn := cntS_snoc d P pre (f, t, k)
    have hmx := cntS_max d HD1.out P (pre ++ [(f, t, k)]) (by simp; omega)
    dsimp only at hsn
    generalize nxP P f.toNat t.toNat k = N at *
    rw [judA_size] at hsz hnew
    have hp : PB W7 V.heap.size N := (judA_pb N V).same (by rw [judA_size]; omega) (hnew _ (Nat.le_refl _) (by omega))
    have HJ7 := Lib.hid (JQ.later hp HI.out.gb HI.out.gs HI.out.gm HI.out.gp HI.out.s h.below)
    obtain ⟨cs, hcs⟩ : ∃ x : Int, ((cntS d P pre : Nat) : Int) = x := ⟨_, rfl⟩
    obtain ⟨cn, hcn⟩ : ∃ x : Int, ((cntD d N : Nat) : Int) = x := ⟨_, rfl⟩
    obtain ⟨cs2, hcs2⟩ : ∃ x : Int, ((cntS d P (pre ++ [(f, t, k)]) : Nat) : Int) = x := ⟨_, rfl⟩
    have hA : IntKind.i64.wrap (cs + cn) = cs2 := (IntWalk.i64_in _ (by omega)).trans (by omega)
    have HA := Lib.hid hA
    have HCN := Lib.hid hcn
    have hbox := h.box
    rw [hcs] at hbox
    have hdb := (h.below.block w.heap.size HS1.out).trans HDB.out
    have hb8 : Below W7.heap.size W7 W7.drew := (Below.refl _ _).drew
    have HFIN := Lib.hid (show ∀ W9, Below W7.drew.heap.size W7.drew W9 → ∃ Y, Turns X7 W7 (W9.setCell ⟨w1.heap.size, 0, none⟩ (.int .i64 cs2)) ∧ (∀ k, Y k → X7 k ∨ W7.heap.size ≤ k) ∧ ApC d P w1 (pre ++ [(f, t, k)]) Y (W9.setCell ⟨w1.heap.size, 0, none⟩ (.int .i64 cs2)) from fun W9 hb9 => by
      have h79 : Below W7.heap.size W7 W9 := hb8.trans (hb9.mono hb8.size)
      refine ⟨X7, ⟨h79.os, h79.tape, h79.output, by rw [World.size_setCell]; exact h79.size, fun k hk hn => ?_⟩, fun k hk => .inl hk, ?_, ?_, h.x⟩
      · rw [Below.heap_setCell _ _ _ k (fun e => hn ((h.x k).2 e))]
        exact h79.block k hk
      · exact (h.below.trans (h79.mono h.below.size)).setCell (p := ⟨w1.heap.size, 0, none⟩) (Nat.le_refl _) _
      · rw [hcs2]
        exact Go.heap_setCell_same W9 w1.heap.size 0 _ _ _ (sl_go hbox h79))
    have HR8 := Lib.hid (sl_go hbox hb8)
    have HD8 := Lib.hid (sl_go hdb hb8)
    have HJQ := Lib.hid (show ∀ W, Below W7.drew.heap.size W7.drew W → JQ B V.heap.size N W W from fun W hb => (HJ7.out.go (hb8.trans (hb.mono hb8.size))).anew)
    clear h hpre hVs hXV hsz hnew hsn hmx hp hcs hcn hcs2 hbox hdb hb8 hA hlp HJ7
    gi_wp2
    refine wpIn_region_any (by kernel_rfl) ?_
    show wpAnyIn _ _ _ _ _ _ 6 #[false, false, false, false, false, false] _ W7.drew
    generalize W7.drew = W8 at *
    have hD := HD.out
    have hA := HA.out
    have cr : W8.cell? ⟨w1.heap.size, 0, none⟩ = some (.int .i64 cs) := by rw [cell_of_row W8 _ 0 _ _ (0, 0) HR8.out]; rfl
    have cd : W8.cell? ⟨w.heap.size, 0, none⟩ = some (.int .i64 dd) := by rw [cell_of_row W8 _ 0 _ _ (0, 0) HD8.out]; rfl
    have cz : W8.frozen? ⟨w1.heap.size, 0, none⟩ = false := frozen_of_row W8 _ 0 _ _ HR8.out
    refine wpAnyIn_ready (rs := [0, 1]) (by kernel_rfl) (by simp) (AllReadyIn.cons rfl (fun K hK => ?_) (AllReadyIn.cons rfl (fun K hK => ?_) AllReadyIn.nil))
    · skip
      go_simp
      (try refine ⟨fun _ _ => trivial, ?_⟩)
      refine hK _ _ ?_
      clear hK K
      refine wpAnyIn_ready (rs := [1]) (by kernel_rfl) (by simp) (AllReadyIn.cons rfl (fun K hK => ?_) AllReadyIn.nil)
      go_simp
      (try refine ⟨fun _ _ => trivial, ?_⟩)
      refine hK _ _ ?_
      clear hK K
      refine wpAnyIn_ready (rs := [2]) (by kernel_rfl) (by simp) (AllReadyIn.cons rfl (fun K hK => ?_) AllReadyIn.nil)
      go_simp
      (try refine ⟨fun _ _ => trivial, ?_⟩)
      refine hK _ _ ?_
      clear hK K
      refine wpAnyIn_ready (rs := [3]) (by kernel_rfl) (by simp) (AllReadyIn.cons rfl (fun K hK => ?_) AllReadyIn.nil)
      go_simp
      refine ⟨trivial, rfl, CallsIn.inRound l' (callsIn_wide.2 ((IH.out B V.heap.size N W8 (HJQ.out _ (Below.refl _ _))).mono ?_))⟩
      rintro e W9 ⟨rfl, hb⟩
      rw [HCN.out]
      have HB9 := Lib.hid hb
      clear cr cd cz
      have cr : W9.cell? ⟨w1.heap.size, 0, none⟩ = some (.int .i64 cs) := by rw [cell_of_row W9 _ 0 _ _ (0, 0) (sl_go HR8.out HB9.out)]; rfl
      have cz : W9.frozen? ⟨w1.heap.size, 0, none⟩ = false := frozen_of_row W9 _ 0 _ _ (sl_go HR8.out HB9.out)
      clear hb
      dsimp only
      refine hK _ _ ?_
      clear hK K
      refine wpAnyIn_ready (rs := [4]) (by kernel_rfl) (by simp) (AllReadyIn.cons rfl (fun K hK => ?_) AllReadyIn.nil)
      go_simp
      (try refine ⟨fun _ _ => trivial, ?_⟩)
      refine hK _ _ ?_
      clear hK K
      refine wpAnyIn_ready (rs := [5]) (by kernel_rfl) (by simp) (AllReadyIn.cons rfl (fun K hK => ?_) AllReadyIn.nil)
      go_simp
      (try refine ⟨fun _ _ => trivial, ?_⟩)
      refine hK _ _ ?_
      clear hK K
      refine wpAnyIn_done (by kernel_rfl) ?_ _
      gi_wp2
      exact HFIN.out W9 HB9.out
    · skip
      go_simp
      (try refine ⟨fun _ _ => trivial, ?_⟩)
      refine hK _ _ ?_
      clear hK K
      refine wpAnyIn_ready (rs := [0, 2]) (by kernel_rfl) (by simp) (AllReadyIn.cons rfl (fun K hK => ?_) (AllReadyIn.cons rfl (fun K hK => ?_) AllReadyIn.nil))
      · skip
        go_simp
        (try refine ⟨fun _ _ => trivial, ?_⟩)
        refine hK _ _ ?_
        clear hK K
        refine wpAnyIn_ready (rs := [2]) (by kernel_rfl) (by simp) (AllReadyIn.cons rfl (fun K hK => ?_) AllReadyIn.nil)
        go_simp
        (try refine ⟨fun _ _ => trivial, ?_⟩)
        refine hK _ _ ?_
        clear hK K
        refine wpAnyIn_ready (rs := [3]) (by kernel_rfl) (by simp) (AllReadyIn.cons rfl (fun K hK => ?_) AllReadyIn.nil)
        go_simp
        refine ⟨trivial, rfl, CallsIn.inRound l' (callsIn_wide.2 ((IH.out B V.heap.size N W8 (HJQ.out _ (Below.refl _ _))).mono ?_))⟩
        rintro e W9 ⟨rfl, hb⟩
        rw [HCN.out]
        have HB9 := Lib.hid hb
        clear cr cd cz
        have cr : W9.cell? ⟨w1.heap.size, 0, none⟩ = some (.int .i64 cs) := by rw [cell_of_row W9 _ 0 _ _ (0, 0) (sl_go HR8.out HB9.out)]; rfl
        have cz : W9.frozen? ⟨w1.heap.size, 0, none⟩ = false := frozen_of_row W9 _ 0 _ _ (sl_go HR8.out HB9.out)
        clear hb
        dsimp only
        refine hK _ _ ?_
        clear hK K
        refine wpAnyIn_ready (rs := [4]) (by kernel_rfl) (by simp) (AllReadyIn.cons rfl (fun K hK => ?_) AllReadyIn.nil)
        go_simp
        (try refine ⟨fun _ _ => trivial, ?_⟩)
        refine hK _ _ ?_
        clear hK K
        refine wpAnyIn_ready (rs := [5]) (by kernel_rfl) (by simp) (AllReadyIn.cons rfl (fun K hK => ?_) AllReadyIn.nil)
        go_simp
        (try refine ⟨fun _ _ => trivial, ?_⟩)
        refine hK _ _ ?_
        clear hK K
        refine wpAnyIn_done (by kernel_rfl) ?_ _
        gi_wp2
        exact HFIN.out W9 HB9.out
      · skip
        go_simp
        (try refine ⟨fun _ _ => trivial, ?_⟩)
        refine hK _ _ ?_
        clear hK K
        refine wpAnyIn_ready (rs := [0, 3]) (by kernel_rfl) (by simp) (AllReadyIn.cons rfl (fun K hK => ?_) (AllReadyIn.cons rfl (fun K hK => ?_) AllReadyIn.nil))
        · skip
          go_simp
          (try refine ⟨fun _ _ => trivial, ?_⟩)
          refine hK _ _ ?_
          clear hK K
          refine wpAnyIn_ready (rs := [3]) (by kernel_rfl) (by simp) (AllReadyIn.cons rfl (fun K hK => ?_) AllReadyIn.nil)
          go_simp
          refine ⟨trivial, rfl, CallsIn.inRound l' (callsIn_wide.2 ((IH.out B V.heap.size N W8 (HJQ.out _ (Below.refl _ _))).mono ?_))⟩
          rintro e W9 ⟨rfl, hb⟩
          rw [HCN.out]
          have HB9 := Lib.hid hb
          clear cr cd cz
          have cr : W9.cell? ⟨w1.heap.size, 0, none⟩ = some (.int .i64 cs) := by rw [cell_of_row W9 _ 0 _ _ (0, 0) (sl_go HR8.out HB9.out)]; rfl
          have cz : W9.frozen? ⟨w1.heap.size, 0, none⟩ = false := frozen_of_row W9 _ 0 _ _ (sl_go HR8.out HB9.out)
          clear hb
          dsimp only
          refine hK _ _ ?_
          clear hK K
          refine wpAnyIn_ready (rs := [4]) (by kernel_rfl) (by simp) (AllReadyIn.cons rfl (fun K hK => ?_) AllReadyIn.nil)
          go_simp
          (try refine ⟨fun _ _ => trivial, ?_⟩)
          refine hK _ _ ?_
          clear hK K
          refine wpAnyIn_ready (rs := [5]) (by kernel_rfl) (by simp) (AllReadyIn.cons rfl (fun K hK => ?_) AllReadyIn.nil)
          go_simp
          (try refine ⟨fun _ _ => trivial, ?_⟩)
          refine hK _ _ ?_
          clear hK K
          refine wpAnyIn_done (by kernel_rfl) ?_ _
          gi_wp2
          exact HFIN.out W9 HB9.out
        · skip
          go_simp
          refine ⟨trivial, rfl, CallsIn.inRound l' (callsIn_wide.2 ((IH.out B V.heap.size N W8 (HJQ.out _ (Below.refl _ _))).mono ?_))⟩
          rintro e W9 ⟨rfl, hb⟩
          rw [HCN.out]
          have HB9 := Lib.hid hb
          clear cr cd cz
          have cr : W9.cell? ⟨w1.heap.size, 0, none⟩ = some (.int .i64 cs) := by rw [cell_of_row W9 _ 0 _ _ (0, 0) (sl_go HR8.out HB9.out)]; rfl
          have cz : W9.frozen? ⟨w1.heap.size, 0, none⟩ = false := frozen_of_row W9 _ 0 _ _ (sl_go HR8.out HB9.out)
          clear hb
          dsimp only
          refine hK _ _ ?_
          clear hK K
          refine wpAnyIn_ready (rs := [0]) (by kernel_rfl) (by simp) (AllReadyIn.cons rfl (fun K hK => ?_) AllReadyIn.nil)
          go_simp
          (try refine ⟨fun _ _ => trivial, ?_⟩)
          refine hK _ _ ?_
          clear hK K
          refine wpAnyIn_ready (rs := [4]) (by kernel_rfl) (by simp) (AllReadyIn.cons rfl (fun K hK => ?_) AllReadyIn.nil)
          go_simp
          (try refine ⟨fun _ _ => trivial, ?_⟩)
          refine hK _ _ ?_
          clear hK K
          refine wpAnyIn_ready (rs := [5]) (by kernel_rfl) (by simp) (AllReadyIn.cons rfl (fun K hK => ?_) AllReadyIn.nil)
          go_simp
          (try refine ⟨fun _ _ => trivial, ?_⟩)
          refine hK _ _ ?_
          clear hK K
          refine wpAnyIn_done (by kernel_rfl) ?_ _
          gi_wp2
          exact HFIN.out W9 HB9.out
  case done =>
    intro Y W h hK _ h2
    have hbx : W.heap[w1.heap.size]? = some (.cells #[.int .i64 ((cntD (d + 1) P : Nat) : Int)] 3 (0, 0)) := by rw [cntD_succ]; exact h.box
    have hc : W.cell? ⟨w1.heap.size, 0, none⟩ = some (.int .i64 ((cntD (d + 1) P : Nat) : Int)) := by rw [cell_of_row W _ 0 _ _ (0, 0) hbx]; rfl
    have HBL := Lib.hid (HBX.out.trans (h2.below.mono HBX.out.size))
    obtain ⟨cc, hcc⟩ : ∃ x : Int, ((cntD (d + 1) P : Nat) : Int) = x := ⟨_, rfl⟩
    rw [hcc] at hc
    have HCC := Lib.hid hcc
    clear h h2 hbx hcc
    go_wp2
    refine ⟨by simp, .inl ⟨_, _, rfl, run_takeDeferred hK, ?_⟩⟩
    exact ⟨_, results_tmp rfl _ _ _, by rw [HCC.out]; rfl, HBL.out⟩
  case stop =>
    intro c pre Y W _ h
    exact h.elim
end Go.Proofs.YthinkiljhkanhaaGreatDoor

namespace Go.Proofs.YthinkiljhkanhaaGreatDoor
open Go.RowKit Go.Sort
set_option linter.unusedSimpArgs false
set_option linter.unusedVariables false
set_option maxRecDepth 20000

theorem count_rows (d : Nat) (hd : d ≤ 3) : ∀ (B b : Nat) (P : Nat → Int) (w : World), JQ B b P w w → Calls Tryz.prog 53 #[.pointer (some ⟨b, 0, none⟩), .int .i64 (d : Int)] w fun e w' => e = .returned (.int .i64 ((cntD d P : Nat) : Int)) ∧ Below w.heap.size w w' := by
  induction d with
  | zero => intro B b P w h; exact cntLow_any 0 (by omega) _ w
  | succ d ih => exact fun B b P w h => cntSucc_any d (by omega) (ih (by omega)) B b P w h
/-- how deep rows are counted, at most -/
def depN (x : Int) : Nat := if x < 1 then 0 else if x < 3 then x.toNat else 3
def cntP (P : Nat → Int) (x : Int) : Nat := if posB P then cntD (depN x) P else 0
theorem count_deep (x : Int) (hx : x ≤ 3) (B b : Nat) (P : Nat → Int) (w : World) (h : JQ B b P w w) : Calls Tryz.prog 53 #[.pointer (some ⟨b, 0, none⟩), .int .i64 x] w fun e w' => e = .returned (.int .i64 ((cntD (depN x) P : Nat) : Int)) ∧ Below w.heap.size w w' := by
  unfold depN
  by_cases h1 : x < 1
  · rw [if_pos h1]
    exact cntLow_any x h1 _ w
  · rw [if_neg h1]
    obtain ⟨n, rfl⟩ := Int.eq_ofNat_of_zero_le (show 0 ≤ x by omega)
    have e : (if ((n : Int)) < 3 then (n : Int).toNat else 3) = n := by split <;> omega
    rw [e]
    exact count_rows n (by omega) B b P w h
theorem depN_min (x : Int) : depN (if 3 < x then 3 else x) = depN x := by unfold depN; split <;> (repeat' split) <;> omega
set_option maxHeartbeats 4000000 in
set_option maxRecDepth 100000 in
theorem lCount_any (P : Nat → Int) (x : Int) (w : World) (B : Nat) (hgb : GB B w) (hgs : GS B w) (hgm : GM B w) (hgp : GP B w) (hB : B ≤ w.heap.size) :
    Calls Tryz.prog 22 #[.agg (pc P).toArray, .int .i64 x] w fun e w' => e = .returned (.int .i64 ((cntP P x : Nat) : Int)) ∧ Below w.heap.size w w' := by
  obtain ⟨X, hX⟩ : ∃ X, X = (pc P).toArray := ⟨_, rfl⟩
  rw [← hX]
  have HP00 := Lib.hid (pos_box P w X hX 29)
  have HX := Lib.hid hX
  have HSZ := Lib.hid (show X.size = 133 by rw [hX, pc_size])
  have HFO := Lib.hid (fold_jud X HSZ.out)
  have HBW0 := Lib.hid (below_new (w := w) (.cells X 29))
  have HQ := Lib.hid (fun W b (h1 : PB W b P) h2 => JQ.later h1 hgb hgs hgm hgp hB h2)
  obtain ⟨ps, hps⟩ : ∃ x, posB P = x := ⟨_, rfl⟩
  have HV := Lib.hid (show cntP P x = if ps then cntD (depN x) P else 0 by unfold cntP; rw [hps])
  have HPOS := Lib.hid (fun b W h => jPos_any B b P W h)
  rw [hps] at HPOS
  obtain ⟨mn, hmn⟩ : ∃ m : Int, (if x < 3 then x else 3) = m := ⟨_, rfl⟩
  have HM3 := Lib.hid (show mn ≤ 3 by rw [← hmn]; split <;> omega)
  have HDM := Lib.hid (show depN mn = depN x by rw [← hmn]; unfold depN; (repeat' split) <;> omega)
  have HMN := Lib.hid hmn
  clear hX hgb hgs hgm hgp hps hmn
  go_enter Tryz.func22, Tryz.ntmps22
  go_upto_region 1 with (fail)
  generalize w.alloc (.cells X 29) = W0 at *
  refine wp_region_lit ?_
  refine wpList_pos (by rfl) _ (by rfl) w.heap.size P X HX.out (by rfl) HP00.out ?_
  have hfold := HFO.out
  have hsz := HSZ.out
  refine wpList_plain rfl (fun K hK => ?_)
  go_simp
  refine hK _ _ ?_
  clear hK K hfold hsz
  refine wpList_newJ X P HX.out (by rfl) (by rfl) (fun W2 hp hb hsz => ?_)
  have HB := Lib.hid (HBW0.out.trans (hb.mono HBW0.out.size))
  have HI := Lib.hid (HQ.out _ _ hp HB.out)
  clear hp hb hsz HP00 HBW0 HQ
  generalize W0.heap.size = H at *
  show Exit.then _ _ Exit.normal _ _
  go_wp2_with fail
  refine (HPOS.out H W2 HI.out).mono ?_
  rintro e w3 ⟨rfl, hb⟩
  replace HB := Lib.hid (HB.out.trans (hb.mono HB.out.size))
  replace HI := Lib.hid (HI.out.go hb).anew
  clear hb
  dsimp only
  refine list_go (by assumption) ?_
  cases ps
  · go_wp2
    go_ret
    exact ⟨by rw [HV.out]; rfl, HB.out⟩
  · go_upto_region 4 with (fail)
    have hcd := count_deep mn HM3.out B H P w3 HI.out
    obtain ⟨cc, hcc⟩ : ∃ c : Int, ((cntD (depN mn) P : Nat) : Int) = c := ⟨_, rfl⟩
    rw [hcc] at hcd
    have HCD := Lib.hid hcd
    have HCC := Lib.hid (show ((cntP P x : Nat) : Int) = cc by rw [HV.out, ← hcc, HDM.out]; rfl)
    have HMI := Lib.hid (show min x (3 : Int) = mn by rw [← HMN.out]; split <;> omega)
    clear hcd hcc HV HI HPOS
    go_wp2_with fail
    first | rw [HMI.out] | rw [HMN.out]
    refine HCD.out.mono ?_
    rintro e w5 ⟨rfl, hb⟩
    replace HB := Lib.hid (HB.out.trans (hb.mono HB.out.size))
    clear hb
    dsimp only
    refine list_go (by assumption) ?_
    go_wp2
    go_ret
    exact ⟨by rw [HCC.out]; rfl, HB.out⟩
end Go.Proofs.YthinkiljhkanhaaGreatDoor

namespace Go.Proofs.YthinkiljhkanhaaGreatDoor
open Go.RowKit Go.Sort
set_option linter.unusedSimpArgs false
set_option linter.unusedVariables false
set_option maxRecDepth 20000

set_option maxHeartbeats 4000000 in
set_option maxRecDepth 100000 in
/-- two rows of the same moves are the same -/
theorem same10_any (L : List (Int × Int × Int)) (hn : L.length ≤ 100000) (p p2 : Option Addr) (c c2 : Nat) (w : World) (hr : Reads3 w.heap.size w p L.length (mF L) (mT L) (mK L)) (hr2 : Reads3 w.heap.size w p2 L.length (mF L) (mT L) (mK L)) :
    Calls Tryz.prog 17 #[.slice p L.length c, .slice p2 L.length c2] w fun e w' => e = .returned (.bool true) ∧ Below w.heap.size w w' := by
  obtain ⟨n, hnn⟩ : ∃ n, L.length = n := ⟨_, rfl⟩
  rw [hnn] at hr hr2 hn ⊢
  have HR := Lib.hid hr
  have HR2 := Lib.hid hr2
  clear hr hr2 hnn
  go_enter Tryz.func17, Tryz.ntmps17
  go_wp2
  go_loopw [5] (fun i wr => ∃ j : Nat, j ≤ n ∧ i = .int .i64 (j : Int) ∧ Below w.heap.size w wr) (fun i _ => n - (intOf i).toNat)
  case atStart => exact ⟨0, Nat.zero_le _, rfl, Below.refl _ _⟩
  case round =>
    obtain ⟨j, hj, rfl, hb⟩ := hrel
    by_cases hlt : j < n
    · have h1 := HR.out.below hb
      have h2 := HR2.out.below hb
      obtain ⟨lb, lo, rfl⟩ := h1.addr hlt
      obtain ⟨ob, oo, rfl⟩ := h2.addr hlt
      obtain ⟨x0, x1, x2⟩ := h1.cells hlt
      obtain ⟨y0, y1, y2⟩ := h2.cells hlt
      obtain ⟨f, hf⟩ : ∃ z, mF L j = z := ⟨_, rfl⟩
      obtain ⟨t, ht⟩ : ∃ z, mT L j = z := ⟨_, rfl⟩
      obtain ⟨k, hk⟩ : ∃ z, mK L j = z := ⟨_, rfl⟩
      rw [hf] at x0 y0
      rw [ht] at x1 y1
      rw [hk] at x2 y2
      have NX := Lib.hid (fun W => neq_mv f t k W)
      replace x0 := cell_regrown x0
      replace x1 := cell_regrown x1
      replace x2 := cell_regrown x2
      replace y0 := cell_regrown y0
      replace y1 := cell_regrown y1
      replace y2 := cell_regrown y2
      have hlti : (j : Int) < (n : Int) := by omega
      have hld : decide ((j : Int) < (n : Int)) = true := by simp; omega
      have hln : ¬ ((n : Int) ≤ (j : Int)) := by omega
      have HB1 := Lib.hid hb
      clear h1 h2 hf ht hk hb
      go_upto_region 4 with (fail)
      refine wp_region_quiet_below (by kernel_rfl) (by kernel_rfl) ?_
      iterate 8 (go_big_quiet_step (fail))
      refine wpQuiet_bin (by rfl) _ _ _ _ _ (by rfl) (.agg #[.int .i64 f, .int .i64 t, .int .i64 k]) (.agg #[.int .i64 f, .int .i64 t, .int .i64 k]) (.bool false) (by rfl) (by rfl) (fun W => by go_simp) NX.out ?_
      try simp only [Act.put, List.setIfInBounds_toArray, List.set_cons_zero, List.set_cons_succ]
      repeat (go_big_quiet_step (fail))
      refine wpQuiet_nil ?_
      rintro W9 ⟨pq, rfl⟩
      have HB2 := Lib.hid (HB1.out.trans ((below_regrown wr pq.d pq.os).mono HB1.out.size))
      clear x0 x1 x2 y0 y1 y2 NX
      generalize grow (redrawn wr pq.d) pq.os = W9 at HB2 ⊢
      have hwi : IntKind.i64.wrap ((j : Int) + 1) = ((j + 1 : Nat) : Int) := by rw [IntWalk.i64_in _ (by omega)]; omega
      go_wp2
      go_roundw
      case rel => exact ⟨j + 1, by omega, rfl, HB2.out⟩
      case measure => simp [intOf]; omega
    · obtain rfl : j = n := by omega
      have HB1 := Lib.hid hb
      clear hb
      go_wp2
      go_ret
      exact ⟨rfl, HB1.out⟩
end Go.Proofs.YthinkiljhkanhaaGreatDoor

namespace Go.Proofs.YthinkiljhkanhaaGreatDoor
open Go.RowKit Go.Sort
set_option linter.unusedSimpArgs false
set_option linter.unusedVariables false
set_option maxRecDepth 20000

set_option maxHeartbeats 2000000 in
set_option maxRecDepth 100000 in
theorem rPosition_any (P : Nat → Int) (w : World) :
    Calls Tryz.prog 16 #[.agg (pc P).toArray] w fun e w' => e = .returned (.bool (posB P)) ∧ Below w.heap.size w w' := by
  obtain ⟨X, hX⟩ : ∃ X, X = (pc P).toArray := ⟨_, rfl⟩
  rw [← hX]
  have HP := Lib.hid (pos_box P w X hX 29)
  have HB0 := Lib.hid (below_new (w := w) (.cells X 29))
  obtain ⟨rb, hrb⟩ : ∃ x, rightB P = x := ⟨_, rfl⟩
  obtain ⟨ch, hch⟩ : ∃ x, chkB P (oth (P 128)) = x := ⟨_, rfl⟩
  obtain ⟨sd, hsd⟩ : ∃ x, P 128 = x := ⟨_, rfl⟩
  obtain ⟨od, hod⟩ : ∃ x, oth sd = x := ⟨_, rfl⟩
  have HV := Lib.hid (show posB P = (rb && !ch) by unfold posB; rw [hrb, hch])
  rw [hsd, hod] at hch
  have HX := Lib.hid hX
  have C4 := Lib.hid (fun (W : World) => rRight_any P W)
  have C16 := Lib.hid (fun (W : World) => rChk_any P od W)
  rw [← hX, hrb] at C4
  rw [← hX, hch] at C16
  have HSD := Lib.hid hsd
  have HOD := Lib.hid hod
  clear hX hrb hch hsd hod
  go_enter Tryz.func16, Tryz.ntmps16
  go_upto_region 1 with (fail)
  generalize w.alloc (.cells X 29) = W0 at *
  have c4 : ∀ dd os, Calls Tryz.prog 47 #[.agg X] (grow (redrawn W0 dd) os) fun e w'' => e = .returned (.bool rb) ∧ ∃ p : Regrown, w'' = grow (redrawn W0 p.d) p.os := fun dd os => Calls.regrown_of (C4.out _)
  have c15 : ∀ dd os, Calls Tryz.prog 49 #[.int .i64 sd] (grow (redrawn W0 dd) os) fun e w'' => e = .returned (.int .i64 od) ∧ ∃ p : Regrown, w'' = grow (redrawn W0 p.d) p.os := fun dd os => by
    rw [← HOD.out]
    exact (rOther_any sd _).mono fun e w' h => ⟨h.1, ⟨⟨dd, os⟩, by rw [← h.2]⟩⟩
  have c16 : ∀ dd os, Calls Tryz.prog 48 #[.agg X, .int .i64 od] (grow (redrawn W0 dd) os) fun e w'' => e = .returned (.bool ch) ∧ ∃ p : Regrown, w'' = grow (redrawn W0 p.d) p.os := fun dd os => Calls.regrown_of (C16.out _)
  have e1 := cell_regrown (HP.out.cell 128 (by omega))
  rw [HSD.out] at e1
  have HCP := Lib.hid HP.out.regrown
  cases rb
  · refine wp_region_quiet_below (by kernel_rfl) (by kernel_rfl) ?_
    refine wpQuiet_pos (by rfl) _ (by rfl) w.heap.size P X HX.out (by rfl) HCP.out ?_
    try simp only [Act.put, List.setIfInBounds_toArray, List.set_cons_zero, List.set_cons_succ]
    go_big_quiet_step (exact c4 _ _)
    repeat (go_big_quiet_step (fail))
    refine wpQuiet_nil ?_
    rintro W9 ⟨pq, rfl⟩
    have HB := Lib.hid (HB0.out.trans ((below_regrown W0 pq.d pq.os).mono HB0.out.size))
    generalize grow (redrawn W0 pq.d) pq.os = W9 at HB ⊢
    go_wp2
    go_ret
    exact ⟨q_b (by rw [HV.out]; rfl), HB.out⟩
  · refine wp_region_quiet_below (by kernel_rfl) (by kernel_rfl) ?_
    refine wpQuiet_pos (by rfl) _ (by rfl) w.heap.size P X HX.out (by rfl) HCP.out ?_
    try simp only [Act.put, List.setIfInBounds_toArray, List.set_cons_zero, List.set_cons_succ]
    go_big_quiet_step (exact c4 _ _)
    iterate 1 (go_big_quiet_step (fail))
    refine wpQuiet_pos (by rfl) _ (by rfl) w.heap.size P X HX.out (by rfl) HCP.out ?_
    try simp only [Act.put, List.setIfInBounds_toArray, List.set_cons_zero, List.set_cons_succ]
    iterate 2 (go_big_quiet_step (fail))
    go_big_quiet_step (exact c15 _ _)
    go_big_quiet_step (exact c16 _ _)
    repeat (go_big_quiet_step (fail))
    refine wpQuiet_nil ?_
    rintro W9 ⟨pq, rfl⟩
    have HB := Lib.hid (HB0.out.trans ((below_regrown W0 pq.d pq.os).mono HB0.out.size))
    generalize grow (redrawn W0 pq.d) pq.os = W9 at HB ⊢
    go_wp2
    go_ret
    exact ⟨q_b (by rw [HV.out]; simp), HB.out⟩
end Go.Proofs.YthinkiljhkanhaaGreatDoor

namespace Go.Proofs.YthinkiljhkanhaaGreatDoor
open Go.RowKit Go.Sort
set_option linter.unusedSimpArgs false
set_option linter.unusedVariables false
set_option maxRecDepth 20000

set_option maxHeartbeats 2000000 in
set_option maxRecDepth 100000 in
theorem rCst10_any (P : Nat → Int) (s n : Nat) (k : Int) (hs : s < 64) (hn : n < 64) (w : World) :
    Calls Tryz.prog 87 #[.agg (pc P).toArray, .agg #[.int .i64 (s : Int), .int .i64 (n : Int), .int .i64 k]] w fun e w' => e = .returned (.bool (cstM P s n)) ∧ Below w.heap.size w w' := by
  obtain ⟨X, hX⟩ : ∃ X, X = (pc P).toArray := ⟨_, rfl⟩
  rw [← hX]
  have hP := (pos_box P w X hX 29).alloc (.cells #[.int .i64 (s : Int), .int .i64 (n : Int), .int .i64 k] 41)
  have HB0 := Lib.hid ((below_new (w := w) (.cells X 29)).alloc (by simp) (.cells #[.int .i64 (s : Int), .int .i64 (n : Int), .int .i64 k] 41))
  have HM := Lib.hid (show ((w.alloc (.cells X 29)).alloc (.cells #[.int .i64 (s : Int), .int .i64 (n : Int), .int .i64 k] 41)).heap[w.heap.size + 1]? = some (.cells #[.int .i64 (s : Int), .int .i64 (n : Int), .int .i64 k] 41 (0, 0)) from sl_at (by simp))
  have HK := Lib.hid (hP.cell (s * 2) (by omega))
  obtain ⟨kk, hkk⟩ : ∃ x, P (s * 2) = x := ⟨_, rfl⟩
  rw [hkk] at HK
  have HV := Lib.hid (show cstM P s n = ((kk == 6) && (((n : Int) == (s : Int) + 2) || ((n : Int) == (s : Int) - 2))) by unfold cstM; rw [hkk])
  clear hX hkk hP
  go_enter Tryz.func87, Tryz.ntmps87
  go_upto_region 1 with (fail)
  generalize (w.alloc (.cells X 29)).alloc (.cells #[.int .i64 (s : Int), .int .i64 (n : Int), .int .i64 k] 41) = W at *
  obtain ⟨m0, m1, m2, mf, mz⟩ := row3 HM.out
  have hk0 := HK.out
  have w1 : wrap64 ((s : Int) + 2) = (s : Int) + 2 := by unfold wrap64; omega
  have w2 : wrap64 ((s : Int) - 2) = (s : Int) - 2 := by unfold wrap64; omega
  have i0 : (0 : Int) ≤ (s : Int) := by omega
  have i1 : (s : Int) < 64 := by omega
  by_cases h6 : kk = 6
  · subst h6
    by_cases h2 : (n : Int) = (s : Int) + 2
    · have e2 : ((n : Int) == wrap64 ((s : Int) + 2)) = true := by rw [w1]; simp [h2]
      go_wp2
      go_ret
      exact ⟨q_b (by rw [HV.out]; simp [h2]), HB0.out⟩
    · have e2 : ((n : Int) == wrap64 ((s : Int) + 2)) = false := by rw [w1]; simp [h2]
      go_wp2
      go_ret
      exact ⟨q_b (by rw [HV.out]; simp [h2]), HB0.out⟩
  · have h6b : (kk == 6) = false := by simp [h6]
    go_wp2
    go_ret
    exact ⟨q_b (by rw [HV.out, h6b]; rfl), HB0.out⟩
end Go.Proofs.YthinkiljhkanhaaGreatDoor

namespace Go.Proofs.YthinkiljhkanhaaGreatDoor
open Go.RowKit Go.Sort
set_option linter.unusedSimpArgs false
set_option linter.unusedVariables false
set_option maxRecDepth 20000

theorem eql_mv10 (f t k f' t' k' : Int) (w : World) : (binOp .eql 41 (.agg #[.int .i64 f, .int .i64 t, .int .i64 k]) (.agg #[.int .i64 f', .int .i64 t', .int .i64 k'])).run Tryz.prog w = .ok (.bool (f == f' && t == t' && k == k')) w := by
  have e := equal_mv f t k f' t' k' 9998 w
  unfold mvV at e
  rw [run_eql_struct, e]; simp
/-- the i-th is the move -/
def isM (F T K : Nat → Int) (f t k : Int) (i : Nat) : Bool := f == F i && t == T i && k == K i
set_option maxHeartbeats 4000000 in
set_option maxRecDepth 100000 in
theorem index_mv (f t k : Int) (F T K : Nat → Int) (p : Option Addr) (n c : Nat) (hn : n ≤ 100000) (w : World) (hr : Reads3 w.heap.size w p n F T K) :
    Calls Tryz.prog 115 #[.slice p n c, .agg #[.int .i64 f, .int .i64 t, .int .i64 k]] w fun e w' => (∃ x : Int, e = .returned (.int .i64 x) ∧ ((∃ i : Nat, i < n ∧ x = (i : Int) ∧ isM F T K f t k i = true) ∨ (x = -1 ∧ ∀ i, i < n → isM F T K f t k i = false))) ∧ Below w.heap.size w w' := by
  have HB0 := Lib.hid (below_new (w := w) (.cells #[.int .i64 f, .int .i64 t, .int .i64 k] 41))
  have HM := Lib.hid (show (w.alloc (.cells #[.int .i64 f, .int .i64 t, .int .i64 k] 41)).heap[w.heap.size]? = some (.cells #[.int .i64 f, .int .i64 t, .int .i64 k] 41 (0, 0)) from sl_at rfl)
  have HR := Lib.hid hr
  have hq := eql_mv10 f t k
  clear hr
  go_enter Tryz.func115, Tryz.ntmps115
  go_wp2
  go_loopw [8] (fun v wr => ∃ j : Nat, j ≤ n ∧ v = .int .i64 (j : Int) ∧ (∀ i, i < j → isM F T K f t k i = false) ∧ Below w.heap.size w wr ∧ wr.heap[w.heap.size]? = some (.cells #[.int .i64 f, .int .i64 t, .int .i64 k] 41 (0, 0))) (fun v _ => n - (intOf v).toNat)
  case atStart => exact ⟨0, Nat.zero_le _, rfl, fun i hi => by omega, HB0.out, HM.out⟩
  case round =>
    clear HB0 HM
    obtain ⟨j, hj, rfl, h1, h2, h3⟩ := hrel
    have HB := Lib.hid h2
    have HM := Lib.hid h3
    have HN := Lib.hid h1
    clear h1 h2 h3
    by_cases hlt : j < n
    · obtain ⟨pb, po, rfl⟩ := HR.out.addr hlt
      obtain ⟨e0, e1, e2⟩ := (HR.out.below HB.out).cells hlt
      obtain ⟨m0, m1, m2, mf, mz⟩ := row3 HM.out
      have HI := Lib.hid (show isM F T K f t k j = (f == F j && t == T j && k == K j) from rfl)
      generalize F j = fj at *
      generalize T j = tj at *
      generalize K j = kj at *
      clear hq
      have HNX := Lib.hid (show isM F T K f t k j = false → ∀ i, i < j + 1 → isM F T K f t k i = false from fun h i hi => by
        rcases Nat.lt_or_ge i j with h1 | h1
        · exact HN.out i h1
        · obtain rfl : i = j := by omega
          exact h)
      have g0 := cell_regrown e0
      have g1 := cell_regrown e1
      have g2 := cell_regrown e2
      have k0 := cell_regrown m0
      have k1 := cell_regrown m1
      have k2 := cell_regrown m2
      clear e0 e1 e2
      by_cases h1 : f = fj
      · subst h1
        by_cases h2 : t = tj
        · subst h2
          by_cases h3 : k = kj
          · subst h3
            go_upto_region 4 with (fail)
            clear m0 m1 m2 mf mz
            refine wp_region_quiet_below (by kernel_rfl) (by kernel_rfl) ?_
            repeat (go_big_quiet_step (fail))
            refine wpQuiet_nil ?_
            rintro W9 ⟨pq, rfl⟩
            have hb9 := below_regrown wr pq.d pq.os
            replace HB := Lib.hid (HB.out.trans (hb9.mono HB.out.size))
            clear hb9 g0 g1 g2 k0 k1 k2
            generalize grow (redrawn wr pq.d) pq.os = W9 at HB ⊢
            go_wp2
            go_ret
            exact ⟨⟨_, rfl, .inl ⟨j, hlt, rfl, by rw [HI.out]; simp⟩⟩, HB.out⟩
          · have HE := Lib.hid (show (k == kj) = false by simp [h3])
            have he := HE.out
            clear h3
            go_upto_region 4 with (fail)
            clear m0 m1 m2 mf mz
            refine wp_region_quiet_below (by kernel_rfl) (by kernel_rfl) ?_
            repeat (go_big_quiet_step (fail))
            refine wpQuiet_nil ?_
            rintro W9 ⟨pq, rfl⟩
            have hb9 := below_regrown wr pq.d pq.os
            replace HM := Lib.hid (sl_go HM.out hb9)
            replace HB := Lib.hid (HB.out.trans (hb9.mono HB.out.size))
            clear hb9 g0 g1 g2 k0 k1 k2
            generalize grow (redrawn wr pq.d) pq.os = W9 at HM HB ⊢
            go_wp2
            go_roundw
            case rel => exact ⟨j + 1, by omega, by go_num, HNX.out (by rw [HI.out]; simp [HE.out]), HB.out, HM.out⟩
            case measure => simp [intOf]; omega
        · have HE := Lib.hid (show (t == tj) = false by simp [h2])
          have he := HE.out
          clear h2
          go_upto_region 4 with (fail)
          clear m0 m1 m2 mf mz
          refine wp_region_quiet_below (by kernel_rfl) (by kernel_rfl) ?_
          repeat (go_big_quiet_step (fail))
          refine wpQuiet_nil ?_
          rintro W9 ⟨pq, rfl⟩
          have hb9 := below_regrown wr pq.d pq.os
          replace HM := Lib.hid (sl_go HM.out hb9)
          replace HB := Lib.hid (HB.out.trans (hb9.mono HB.out.size))
          clear hb9 g0 g1 g2 k0 k1 k2
          generalize grow (redrawn wr pq.d) pq.os = W9 at HM HB ⊢
          go_wp2
          go_roundw
          case rel => exact ⟨j + 1, by omega, by go_num, HNX.out (by rw [HI.out]; simp [HE.out]), HB.out, HM.out⟩
          case measure => simp [intOf]; omega
      · have HE := Lib.hid (show (f == fj) = false by simp [h1])
        have he := HE.out
        clear h1
        go_upto_region 4 with (fail)
        clear m0 m1 m2 mf mz
        refine wp_region_quiet_below (by kernel_rfl) (by kernel_rfl) ?_
        repeat (go_big_quiet_step (fail))
        refine wpQuiet_nil ?_
        rintro W9 ⟨pq, rfl⟩
        have hb9 := below_regrown wr pq.d pq.os
        replace HM := Lib.hid (sl_go HM.out hb9)
        replace HB := Lib.hid (HB.out.trans (hb9.mono HB.out.size))
        clear hb9 g0 g1 g2 k0 k1 k2
        generalize grow (redrawn wr pq.d) pq.os = W9 at HM HB ⊢
        go_wp2
        go_roundw
        case rel => exact ⟨j + 1, by omega, by go_num, HNX.out (by rw [HI.out]; simp [HE.out]), HB.out, HM.out⟩
        case measure => simp [intOf]; omega
    · obtain rfl : j = n := by omega
      go_wp2
      go_ret
      exact ⟨⟨_, rfl, .inr ⟨rfl, HN.out⟩⟩, HB.out⟩
def anyM (F T K : Nat → Int) (f t k : Int) (n : Nat) : Bool := (List.range n).any (isM F T K f t k)
set_option maxHeartbeats 4000000 in
set_option maxRecDepth 100000 in
theorem contains_mv (f t k : Int) (F T K : Nat → Int) (p : Option Addr) (n c : Nat) (hn : n ≤ 100000) (w : World) (hr : Reads3 w.heap.size w p n F T K) :
    Calls Tryz.prog 69 #[.slice p n c, .agg #[.int .i64 f, .int .i64 t, .int .i64 k]] w fun e w' => e = .returned (.bool (anyM F T K f t k n)) ∧ Below w.heap.size w w' := by
  have hb0 := below_new (w := w) (.cells #[.int .i64 f, .int .i64 t, .int .i64 k] 41)
  have HB := Lib.hid hb0
  have HI := Lib.hid (index_mv f t k F T K p n c hn (w.alloc (.cells #[.int .i64 f, .int .i64 t, .int .i64 k] 41)) ((hr.below hb0).mono hb0.size))
  have hm : (w.alloc (.cells #[.int .i64 f, .int .i64 t, .int .i64 k] 41)).heap[w.heap.size]? = some (.cells #[.int .i64 f, .int .i64 t, .int .i64 k] 41 (0, 0)) := sl_at rfl
  obtain ⟨m0, m1, m2, mf, mz⟩ := row3 hm
  clear hm hr hb0
  go_enter Tryz.func69, Tryz.ntmps69
  go_wp2_with fail
  refine HI.out.mono ?_
  rintro e w1 ⟨⟨x, rfl, hx⟩, hb⟩
  replace HB := Lib.hid (HB.out.trans (hb.mono HB.out.size))
  clear hb m0 m1 m2 mf mz HI
  rcases hx with ⟨i, hi, rfl, hm⟩ | ⟨rfl, hm⟩
  · have HV := Lib.hid (show anyM F T K f t k n = true from List.any_eq_true.2 ⟨i, by simpa using hi, hm⟩)
    have i0 : (0 : Int) ≤ (i : Int) := by omega
    clear hm
    go_wp2
    go_ret
    exact ⟨q_b (by rw [HV.out]), HB.out⟩
  · have HV := Lib.hid (show anyM F T K f t k n = false by
      unfold anyM
      rw [List.any_eq_false]
      intro i hi
      rw [hm i (by simpa using hi)]; simp)
    clear hm
    go_wp2
    go_ret
    exact ⟨q_b (by rw [HV.out]), HB.out⟩
end Go.Proofs.YthinkiljhkanhaaGreatDoor
