/-
  Merged: Pj, Bw, By, Px.
-/
import Derived.Test.YtlfapakllhhadaaDoorPi
import Derived.Test.YtlfapakllhhadaaDoorG9
import Derived.Test.YtlfapakllhhadaaDoorG1
import Derived.Test.YtlfapakllhhadaaDoorG4
import Derived.Laws.OwnMore
import Derived.Lib.AppendZeros
import Derived.Deep.CutRange

namespace Go.Proofs.YtlfapakllhhadaaDoor
open Go.RowKit Go.Sort
set_option linter.unusedSimpArgs false
set_option linter.unusedVariables false
set_option maxRecDepth 20000

theorem list_go {P : Program} {ops : Array Oper} {Q : Exit → Act → World → Prop} {rest : List Oper} {K : Act → World → Prop} {a : Act} {w : World} (h : ∀ a w, wpList P ops Q rest a w → K a w) (hq : wpList P ops Q rest a w) : K a w := h _ _ hq
/-- a row of moves -/
def Reads3 (B : Nat) (w : World) (p : Option Addr) (n : Nat) (F T K : Nat → Int) : Prop :=
  n = 0 ∨ ∃ b off, p = some ⟨b, off, none⟩ ∧ b < B ∧ ∀ i, i < n → w.cell? ⟨b, off + i * 3, none⟩ = some (.int .i64 (F i)) ∧ w.cell? ⟨b, off + i * 3 + 1, none⟩ = some (.int .i64 (T i)) ∧ w.cell? ⟨b, off + i * 3 + 2, none⟩ = some (.int .i64 (K i))
theorem Reads3.below {B : Nat} {w w' : World} {p : Option Addr} {n : Nat} {F T K : Nat → Int} (h : Reads3 B w p n F T K) (hb : Below B w w') : Reads3 B w' p n F T K := by
  rcases h with h | ⟨b, off, h1, h2, h3⟩
  · exact .inl h
  · exact .inr ⟨b, off, h1, h2, fun i hi => ⟨(hb.cell (p := ⟨b, off + i * 3, none⟩) h2).trans (h3 i hi).1, (hb.cell (p := ⟨b, off + i * 3 + 1, none⟩) h2).trans (h3 i hi).2.1, (hb.cell (p := ⟨b, off + i * 3 + 2, none⟩) h2).trans (h3 i hi).2.2⟩⟩
theorem Reads3.mono {B B' : Nat} {w : World} {p : Option Addr} {n : Nat} {F T K : Nat → Int} (h : Reads3 B w p n F T K) (hB : B ≤ B') : Reads3 B' w p n F T K := by
  rcases h with h | ⟨b, off, h1, h2, h3⟩
  · exact .inl h
  · exact .inr ⟨b, off, h1, Nat.lt_of_lt_of_le h2 hB, h3⟩
theorem Reads3.take {B : Nat} {w : World} {p : Option Addr} {n m : Nat} {F T K : Nat → Int} (h : Reads3 B w p n F T K) (hm : m ≤ n) : Reads3 B w p m F T K := by
  rcases h with h | ⟨b, off, h1, h2, h3⟩
  · exact .inl (by omega)
  · exact .inr ⟨b, off, h1, h2, fun i hi => h3 i (by omega)⟩
theorem Reads3.addr {B : Nat} {w : World} {p : Option Addr} {n : Nat} {F T K : Nat → Int} (h : Reads3 B w p n F T K) {i : Nat} (hi : i < n) : ∃ b o, p = some ⟨b, o, none⟩ := by
  rcases h with h | ⟨b, o, h1, _⟩
  · omega
  · exact ⟨b, o, h1⟩
theorem Reads3.cells {B : Nat} {w : World} {b o n : Nat} {F T K : Nat → Int} (h : Reads3 B w (some ⟨b, o, none⟩) n F T K) {i : Nat} (hi : i < n) :
    w.cell? ⟨b, o + i * 3, none⟩ = some (.int .i64 (F i)) ∧ w.cell? ⟨b, o + i * 3 + 1, none⟩ = some (.int .i64 (T i)) ∧ w.cell? ⟨b, o + i * 3 + 2, none⟩ = some (.int .i64 (K i)) := by
  rcases h with h | ⟨b', o', h1, _, h3⟩
  · omega
  · injection h1 with h1; injection h1 with h1 h2; subst h1; subst h2; exact h3 i hi
/-- the position behind the first n moves (of zeros behind an error), and the first error -/
def mvsP (P : Nat → Int) (F T K : Nat → Int) : Nat → Nat → Int
  | 0 => P
  | n + 1 => mvP (mvsP P F T K n) (F n) (T n) (K n)
def mvsE (P : Nat → Int) (F T K : Nat → Int) : Nat → Int
  | 0 => 0
  | n + 1 => if mvsE P F T K n = 0 then fltN (handP (mvsP P F T K n)) (F n) (T n) (K n) else mvsE P F T K n
/-- what Moves answers -/
def mvsR (P : Nat → Int) (F T K : Nat → Int) (n : Nat) : Nat → Int := if mvsE P F T K n = 0 then mvsP P F T K n else fun _ => 0
theorem mvsE_stop (P : Nat → Int) (F T K : Nat → Int) (j n : Nat) (hj : j < n) (h0 : mvsE P F T K j = 0) (h : fltN (handP (mvsP P F T K j)) (F j) (T j) (K j) ≠ 0) : mvsE P F T K n = fltN (handP (mvsP P F T K j)) (F j) (T j) (K j) := by
  have h1 : mvsE P F T K (j + 1) = fltN (handP (mvsP P F T K j)) (F j) (T j) (K j) := by
    show (if mvsE P F T K j = 0 then _ else _) = _
    rw [if_pos h0]
  obtain ⟨d, rfl⟩ : ∃ d, n = j + 1 + d := ⟨n - (j + 1), by omega⟩
  clear hj
  induction d with
  | zero => exact h1
  | succ d ih =>
    show (if mvsE P F T K (j + 1 + d) = 0 then _ else mvsE P F T K (j + 1 + d)) = _
    rw [ih, if_neg h]
theorem mvsE_go (P : Nat → Int) (F T K : Nat → Int) (j : Nat) (h0 : mvsE P F T K j = 0) (h : fltN (handP (mvsP P F T K j)) (F j) (T j) (K j) = 0) : mvsE P F T K (j + 1) = 0 := by
  show (if mvsE P F T K j = 0 then _ else _) = _
  rw [if_pos h0, h]
/-- what stands in Moves -/
structure MS (w W : World) (Q : Nat → Int) (B : Nat) (p : Option Addr) (n : Nat) (F T K : Nat → Int) : Prop where
  q : PB W w.heap.size Q
  z : PB W (w.heap.size + 1) (fun _ => 0)
  b : Below w.heap.size w W
  r : Reads3 B W p n F T K
  s : w.heap.size + 2 ≤ W.heap.size
theorem MS.go {w W W' : World} {Q : Nat → Int} {B : Nat} {p : Option Addr} {n : Nat} {F T K : Nat → Int} (hB : B ≤ w.heap.size) (h : MS w W Q B p n F T K) (g : Below W.heap.size W W') : MS w W' Q B p n F T K :=
  ⟨h.q.go g, h.z.go g, h.b.trans (g.mono h.b.size), h.r.below (g.mono (Nat.le_trans hB h.b.size)), Nat.le_trans h.s g.size⟩
theorem MS.store {w W : World} {Q : Nat → Int} {B : Nat} {p : Option Addr} {n : Nat} {F T K : Nat → Int} (hB : B ≤ w.heap.size) (h : MS w W Q B p n F T K) (R : Nat → Int) : MS w (W.setCells w.heap.size 0 (pc R)) R B p n F T K :=
  ⟨h.q.store, h.z.others (by omega) 0 _, below_store (b := w.heap.size) R h.b (Nat.le_refl _) h.b.size, h.r.below (below_store (b := w.heap.size) R (Below.refl B W) hB (Nat.le_trans hB h.b.size)), by rw [sizes_B]; exact h.s⟩
theorem MS.stored {w W : World} {Q : Nat → Int} {B : Nat} {p : Option Addr} {n : Nat} {F T K : Nat → Int} (h : MS w W Q B p n F T K) (R : Nat → Int) : (W.setCells (w.heap.size + 1) 0 (pc R)).rangeAt (w.heap.size + 1) 0 (pc R) ∧ Below w.heap.size w (W.setCells (w.heap.size + 1) 0 (pc R)) :=
  ⟨(h.z.store (Q := R)).range, below_store (b := w.heap.size + 1) R h.b (by omega) h.b.size⟩
theorem MS.begin (w : World) (P : Nat → Int) (X : Array Value) (hX : X = (pc P).toArray) {B : Nat} {p : Option Addr} {n : Nat} {F T K : Nat → Int} (hB : B ≤ w.heap.size) (hr : Reads3 B w p n F T K) :
    MS w ((w.alloc (.cells X 29)).alloc (.cells Tryd.zeroCells29 29)) P B p n F T K := by
  obtain ⟨a1, a2, a3, a4⟩ := two_at w (.cells X 29) (.cells Tryd.zeroCells29 29)
  rw [zeroPos] at *
  exact ⟨PB.of_block (by rw [hX] at a1 ⊢; exact a1), PB.of_block a2, a3, hr.below (a3.mono hB), by rw [a4]; exact Nat.le_refl _⟩
set_option maxHeartbeats 4000000 in
set_option maxRecDepth 100000 in
theorem moves_any (P : Nat → Int) (p : Option Addr) (n c : Nat) (F T K : Nat → Int) (w : World) (B : Nat) (hn : n ≤ 4294967295) (hr : Reads3 B w p n F T K) (hg : GP B w) (hB : B ≤ w.heap.size) :
    Calls Tryd.prog 44 #[.agg (pc P).toArray, .slice p n c] w fun e w' => e = .returned (.tuple #[.agg (pc (mvsR P F T K n)).toArray, .int .i64 (mvsE P F T K n)]) ∧ Below w.heap.size w w' := by
  obtain ⟨X, hX⟩ : ∃ X, X = (pc P).toArray := ⟨_, rfl⟩
  obtain ⟨Z, hZ⟩ : ∃ Z, Z = (pc (mvsR P F T K n)).toArray := ⟨_, rfl⟩
  rw [← hX, ← hZ]
  have HI := Lib.hid (MS.begin w P X hX hB hr)
  have HSTOP := Lib.hid (fun j => mvsE_stop P F T K j n)
  have HGO := Lib.hid (mvsE_go P F T K)
  have HNX := Lib.hid (show ∀ j, mvP (mvsP P F T K j) (F j) (T j) (K j) = mvsP P F T K (j + 1) from fun _ => rfl)
  have HR := Lib.hid (show ∀ e, mvsE P F T K n = e → mvsR P F T K n = if e = 0 then mvsP P F T K n else fun _ => 0 from fun e h => by unfold mvsR; rw [h])
  have HZ := Lib.hid hZ
  have HX := Lib.hid hX
  have HGP := Lib.hid hg
  have HB := Lib.hid hB
  have HM := Lib.hid (fun Q f t k W h1 h2 => move_any Q f t k W B h1 h2)
  clear hX hZ hr hg hB
  go_enter Tryd.func44, Tryd.ntmps44
  go_upto_region 1 with (fail)
  refine forget_B (fun W => MS w W P B p n F T K) HI.out ?_
  clear HI
  intro W hi
  have HI := Lib.hid hi
  clear hi
  go_wp2
  go_loopw [11] (fun v wr => ∃ j : Nat, j ≤ n ∧ v = .int .i64 (j : Int) ∧ MS w wr (mvsP P F T K j) B p n F T K ∧ mvsE P F T K j = 0) (fun v _ => n - (intOf v).toNat)
  case atStart => exact ⟨0, Nat.zero_le _, rfl, HI.out, rfl⟩
  case round =>
    clear HI
    obtain ⟨j, hj, rfl, h1, h2⟩ := hrel
    have HI := Lib.hid h1
    have H2 := Lib.hid h2
    clear h1 h2
    by_cases hlt : j < n
    · obtain ⟨pb, po, rfl⟩ := HI.out.r.addr hlt
      obtain ⟨e0, e1, e2⟩ := HI.out.r.cells hlt
      have hst := fun h => HSTOP.out j hlt H2.out h
      have hgo := HGO.out j H2.out
      have hnx := HNX.out j
      have hlt0 := HI.out.b.size
      generalize F j = fj at *
      generalize T j = tj at *
      generalize K j = kj at *
      generalize hQ : mvsP P F T K j = Q at *
      have HM1 := Lib.hid (fun W h1 h2 => HM.out Q fj tj kj W h1 h2)
      obtain ⟨Y, hY⟩ : ∃ Y, Y = (pc Q).toArray := ⟨_, rfl⟩
      obtain ⟨V, hV⟩ : ∃ V, V = (pc (mvP Q fj tj kj)).toArray := ⟨_, rfl⟩
      rw [← hY, ← hV] at HM1
      obtain ⟨E, hE⟩ : ∃ E, fltN (handP Q) fj tj kj = E := ⟨_, rfl⟩
      rw [hE] at HM1 hst hgo
      rw [hnx] at hV
      have HV := Lib.hid hV
      have HY := Lib.hid hY
      have HST := Lib.hid hst
      have HGG := Lib.hid hgo
      clear hQ hY hV hE hst hgo hnx
      go_upto_region 4 with (fail)
      clear e0 e1 e2
      refine forget_B (fun W => MS w W Q B (some ⟨pb, po, none⟩) n F T K ∧ W.heap[wr.heap.size]? = some (.cells #[.int .i64 fj, .int .i64 tj, .int .i64 kj] 34 (0, 0))) ⟨HI.out.go HB.out (below_new _), sl_at rfl⟩ ?_
      clear HI
      rintro W1 ⟨h1, h2⟩
      have HI := Lib.hid h1
      obtain ⟨q0, q1, q2, qf, qz⟩ := row3 h2
      clear h1 h2
      go_wp2_with (refine wpList_pos (by rfl) _ (by rfl) w.heap.size Q Y HY.out (by rfl) HI.out.q ?_)
      refine (HM1.out _ (HGP.out.below (HI.out.b.mono HB.out)) (Nat.le_trans HB.out HI.out.b.size)).mono ?_
      rintro e w1 ⟨rfl, hb1⟩
      replace HI := Lib.hid (HI.out.go HB.out hb1)
      clear q0 q1 q2 qf qz hb1 HM1
      dsimp only
      refine list_go (by assumption) ?_
      refine wpList_plain rfl (fun K hK => ?_)
      go_simp
      refine hK _ _ ?_
      clear hK K
      refine wpList_plain rfl (fun K hK => ?_)
      go_simp
      refine hK _ _ ?_
      clear hK K
      refine wpList_plain rfl (fun K hK => ?_)
      go_simp
      refine hK _ _ ?_
      clear hK K
      refine wpList_store_mid rfl 29 _ _ rfl w.heap.size 0 V rfl rfl (by rw [HV.out, pc_size]; exact HI.out.q.there) (by rw [infoPos, HV.out, pc_size]) (by rw [HV.out]; exact pc_one _) ?_
      refine forgetL_B (fun W => MS w W (mvsP P F T K (j + 1)) B (some ⟨pb, po, none⟩) n F T K) (by rw [HV.out, List.toList_toArray]; exact HI.out.store HB.out _) ?_
      clear HI
      intro W2 hi
      have HI := Lib.hid hi
      clear hi
      by_cases hE0 : E = 0
      · subst hE0
        have HH2 := Lib.hid (HGG.out rfl)
        go_wp2
        go_roundw
        case rel => exact ⟨j + 1, by omega, by go_num, HI.out, HH2.out⟩
        case measure => simp [intOf]; omega
      · have hE1 : (E != 0) = true := by simp [hE0]
        have HE := Lib.hid (HST.out hE0)
        have HZ2 := Lib.hid (show Z = (pc fun _ => 0).toArray by rw [HZ.out, HR.out E HE.out, if_neg hE0])
        clear hE0
        go_upto_region 7 with (fail)
        refine wp_region_lit ?_
        refine wpList_plain rfl (fun K hK => ?_)
        go_simp
        refine hK _ _ ?_
        clear hK K
        refine wpList_plain rfl (fun K hK => ?_)
        go_simp
        refine hK _ _ ?_
        clear hK K
        refine wpList_store_mid rfl 29 _ _ rfl (w.heap.size + 1) 0 (pc fun _ => 0).toArray rfl (congrArg Value.agg zeroPos) (by rw [pc_size]; exact HI.out.z.there) (by rw [infoPos, pc_size]) (pc_one _) ?_
        rw [List.toList_toArray]
        obtain ⟨hr1, hb1⟩ := HI.out.stored (fun _ => 0)
        have HR1 := Lib.hid hr1
        have HB1 := Lib.hid hb1
        clear hr1 hb1 HI
        generalize W2.setCells (w.heap.size + 1) 0 (pc fun _ => 0) = W8 at HR1 HB1 ⊢
        refine wpList_plain rfl (fun K hK => ?_)
        go_simp
        refine hK _ _ ?_
        clear hK K
        show Exit.then _ _ Exit.normal _ _
        refine ret_go (by assumption) ?_
        repeat (first | refine then_ret ?_ | refine block_ret ?_)
        refine bodyPost_ret (v := .tuple #[.agg (pc fun _ => 0).toArray, .int .i64 E]) ?_ rfl ⟨by rw [HZ2.out, HE.out], HB1.out⟩
        exact results_mid2 (p := 4) (u := 5) (ty := 29) rfl _ W8 (w.heap.size + 1) _ _ _ rfl rfl HR1.out Tryd.underlying29 rfl (by rw [infoPos, pc_len])
    · obtain rfl : j = n := by omega
      have HZ2 := Lib.hid (show Z = (pc (mvsP P F T K j)).toArray by rw [HZ.out, HR.out 0 H2.out, if_pos rfl])
      go_upto_region 9 with (fail)
      refine wp_region_lit ?_
      refine wpList_pos (by rfl) _ (by rfl) w.heap.size (mvsP P F T K j) Z HZ2.out (by rfl) HI.out.q ?_
      refine wpList_store_mid rfl 29 _ _ rfl (w.heap.size + 1) 0 Z rfl rfl (by rw [HZ2.out, pc_size]; exact HI.out.z.there) (by rw [infoPos, HZ2.out, pc_size]) (by rw [HZ2.out]; exact pc_one _) ?_
      refine forgetL_B (fun W => W.rangeAt (w.heap.size + 1) 0 (pc (mvsP P F T K j)) ∧ Below w.heap.size w W) (by rw [HZ2.out, List.toList_toArray]; exact HI.out.stored _) ?_
      rintro W8 ⟨hr1, hb1⟩
      have HR1 := Lib.hid hr1
      have HB1 := Lib.hid hb1
      clear hr1 hb1 HI
      refine wpList_plain rfl (fun K hK => ?_)
      go_simp
      refine hK _ _ ?_
      clear hK K
      show Exit.then _ _ Exit.normal _ _
      refine ret_go (by assumption) ?_
      repeat (first | refine then_ret ?_ | refine block_ret ?_)
      refine bodyPost_ret (v := .tuple #[.agg (pc (mvsP P F T K j)).toArray, .int .i64 0]) ?_ rfl ⟨by rw [HZ2.out, H2.out], HB1.out⟩
      exact results_mid2 (p := 4) (u := 5) (ty := 29) rfl _ W8 (w.heap.size + 1) _ _ _ rfl rfl HR1.out Tryd.underlying29 rfl (by rw [infoPos, pc_len])
end Go.Proofs.YtlfapakllhhadaaDoor

namespace Go.Proofs.YtlfapakllhhadaaDoor
open Go.RowKit Go.Sort
set_option linter.unusedSimpArgs false
set_option linter.unusedVariables false

theorem infoKind : (Tryd.prog.info? 22).map (·.size) = some 1 := by kernel_rfl
end Go.Proofs.YtlfapakllhhadaaDoor

namespace Go.Proofs.YtlfapakllhhadaaDoor
open Go.RowKit Go.Sort
set_option linter.unusedSimpArgs false
set_option linter.unusedVariables false

theorem king_start : kingN startN 1 = 60 := by decide +kernel
theorem find_start : fnd startN 1 0 64 = [8, 9, 10, 11, 12, 13, 14, 15] := by decide +kernel
theorem right_start : rightB startN = true := by decide +kernel
theorem ex_find : ∀ i, i < 8 → (#[.int .i64 8, .int .i64 9, .int .i64 10, .int .i64 11, .int .i64 12, .int .i64 13, .int .i64 14, .int .i64 15] : Array Value)[i]? = some (.int .i64 (([8, 9, 10, 11, 12, 13, 14, 15] : List Int).getD i 0)) := fun i hi => by
  rcases (show i = 0 ∨ i = 1 ∨ i = 2 ∨ i = 3 ∨ i = 4 ∨ i = 5 ∨ i = 6 ∨ i = 7 by omega) with rfl | rfl | rfl | rfl | rfl | rfl | rfl | rfl <;> rfl
theorem tmod_pos (n : Int) (hn : 0 < n) (a : Int) : a % n = if a.tmod n < 0 then a.tmod n + n else a.tmod n := by
  rcases Int.lt_or_le a 0 with h | h
  · have e : a.tmod n = -((-a) % n) := by
      rw [← Int.tmod_eq_emod_of_nonneg (show 0 ≤ -a by omega), Int.neg_tmod, Int.neg_neg]
    rw [e]
    have h1 := Int.emod_nonneg (-a) (show n ≠ 0 by omega)
    have h2 := Int.emod_lt_of_pos (-a) hn
    have h5 := Int.emod_add_mul_ediv (-a) n
    by_cases h0 : (-a) % n = 0
    · rw [h0, if_neg (by omega)]
      have h3 : n ∣ -a := Int.dvd_of_emod_eq_zero h0
      have h4 : n ∣ a := (Int.dvd_neg).1 h3
      rw [Int.emod_eq_zero_of_dvd h4]; rfl
    · rw [if_pos (by omega)]
      have h6 : a = (n - (-a) % n) + n * (-((-a) / n) - 1) := by rw [Int.mul_sub, Int.mul_neg]; omega
      rw [h6, Int.add_mul_emod_self_left, Int.emod_eq_of_lt (by omega) (by omega)]
      rw [← h6]; omega
  · rw [Int.tmod_eq_emod_of_nonneg h]
    have h1 := Int.emod_nonneg a (show n ≠ 0 by omega)
    rw [if_neg (by omega)]
theorem pick6_any (a : Int) (w : World) :
    Calls Tryd.prog 48 #[.int .i64 a, .int .i64 6] w fun e w' => e = .returned (.int .i64 (a % 6)) ∧ w = w' := by
  have h1 := Int.tmod_lt_of_pos a (b := 6) (by omega)
  have h2 := Int.lt_tmod_of_pos a (b := 6) (by omega)
  have hm := tmod_pos 6 (by omega) a
  by_cases h0 : a.tmod 6 < 0
  · rw [if_pos h0] at hm
    rw [hm]
    clear hm
    have s1 : IntKind.i64.wrap (a.tmod 6 + 6) = a.tmod 6 + 6 := IntWalk.i64_in _ (by omega)
    go_enter Tryd.func48, Tryd.ntmps48
    go_wp2
    go_ret
    exact ⟨rfl, rfl⟩
  · rw [if_neg h0] at hm
    rw [hm]
    clear hm
    go_enter Tryd.func48, Tryd.ntmps48
    go_wp2
    go_ret
    exact ⟨rfl, rfl⟩
theorem pick2_any (a : Int) (w : World) :
    Calls Tryd.prog 48 #[.int .i64 a, .int .i64 2] w fun e w' => e = .returned (.int .i64 (a % 2)) ∧ w = w' := by
  have h1 := Int.tmod_lt_of_pos a (b := 2) (by omega)
  have h2 := Int.lt_tmod_of_pos a (b := 2) (by omega)
  have hm := tmod_pos 2 (by omega) a
  by_cases h0 : a.tmod 2 < 0
  · rw [if_pos h0] at hm
    rw [hm]
    clear hm
    have s1 : IntKind.i64.wrap (a.tmod 2 + 2) = a.tmod 2 + 2 := IntWalk.i64_in _ (by omega)
    go_enter Tryd.func48, Tryd.ntmps48
    go_wp2
    go_ret
    exact ⟨rfl, rfl⟩
  · rw [if_neg h0] at hm
    rw [hm]
    clear hm
    go_enter Tryd.func48, Tryd.ntmps48
    go_wp2
    go_ret
    exact ⟨rfl, rfl⟩
end Go.Proofs.YtlfapakllhhadaaDoor

namespace Go.Proofs.YtlfapakllhhadaaDoor
open Go.RowKit Go.Sort
set_option linter.unusedSimpArgs false
set_option linter.unusedVariables false

theorem across_any (s : Nat) (hs : s < 64) (w : World) :
    Calls Tryd.prog 19 #[.int .i64 (s : Int)] w fun e w' => e = .returned (.int .i64 ((mir s : Nat) : Int)) ∧ w = w' := by
  obtain ⟨S, hS⟩ : ∃ S : Int, (s : Int) = S := ⟨_, rfl⟩
  obtain ⟨q, hq⟩ : ∃ q : Int, S / 8 = q := ⟨_, rfl⟩
  obtain ⟨r, hr⟩ : ∃ r : Int, S % 8 = r := ⟨_, rfl⟩
  have hm : 8 * (7 - q) + r = ((mir s : Nat) : Int) := by unfold mir; omega
  have d1 : S.tdiv 8 = q := by rw [Int.tdiv_eq_ediv_of_nonneg (by omega)]; exact hq
  have d2 : S.tmod 8 = r := by rw [Int.tmod_eq_emod_of_nonneg (by omega)]; exact hr
  have w1 : wrap64 q = q := by unfold wrap64; omega
  have w2 : wrap64 (7 - q) = 7 - q := by unfold wrap64; omega
  have w3 : wrap64 (8 * (7 - q)) = 8 * (7 - q) := by unfold wrap64; omega
  have w4 : wrap64 (8 * (7 - q) + r) = 8 * (7 - q) + r := by unfold wrap64; omega
  rw [hS]
  generalize ((mir s : Nat) : Int) = M at *
  have HM := Lib.hid hm
  clear hS hm hq hr hs
  go_enter Tryd.func19, Tryd.ntmps19
  go_wp2
  go_ret
  exact ⟨q_i (by rw [← HM.out]; first | rfl | simp [w2, w3, w4]), rfl⟩
/-- the squares on which the mover's pieces stand -/
def ownL (P : Nat → Int) : Nat → List Int
  | 0 => []
  | n + 1 => ownL P n ++ if (P (2 * n) != 0) && (P (2 * n + 1) == P 128) then [(n : Int)] else []
theorem ownL_len (P : Nat → Int) (n : Nat) : (ownL P n).length ≤ n := by
  induction n with
  | zero => exact Nat.le_refl _
  | succ n ih =>
    simp only [ownL, List.length_append]
    split <;> simp <;> omega
theorem ownL_mem (P : Nat → Int) (n : Nat) (x : Int) (h : x ∈ ownL P n) : ∃ j : Nat, j < n ∧ x = j ∧ P (2 * j) ≠ 0 ∧ P (2 * j + 1) = P 128 := by
  induction n with
  | zero => cases h
  | succ n ih =>
    simp only [ownL, List.mem_append] at h
    rcases h with h | h
    · obtain ⟨j, h1, h2⟩ := ih h
      exact ⟨j, by omega, h2⟩
    · split at h
      · rename_i hc
        simp only [Bool.and_eq_true, bne_iff_ne, beq_iff_eq] at hc
        rw [List.mem_singleton.1 h]
        exact ⟨n, by omega, rfl, hc.1, hc.2⟩
      · cases h
section
variable {P : Program} {ops : Array Oper} {Q : Exit → Act → World → Prop} {md : Region.Mode}
/-- three may come up -/
theorem three_to {S : World → Prop} {i j k : Nat} {o o2 o3 : Oper} {fuel : Nat} {listed l1 l2 l3 : Array Bool} {a : Act} {w : World} (ho : ops[i]? = some o) (ho2 : ops[j]? = some o2) (ho3 : ops[k]? = some o3) (hr : Region.ready md ops listed = [i, j, k]) (hl : listed.setIfInBounds i true = l1) (hl2 : listed.setIfInBounds j true = l2) (hl3 : listed.setIfInBounds k true = l3)
    (h : ∀ K' : Act → World → Prop, Shut (∀ a w, S w → (S w → wpAnyH P md ops Q S fuel l1 a w) → K' a w) → if Region.wanted o (yielded ops a.tmps) = true then Oper.wp P o a w K' Q else K' (a.put o.dst undef) w)
    (h2 : ∀ K' : Act → World → Prop, Shut (∀ a w, S w → (S w → wpAnyH P md ops Q S fuel l2 a w) → K' a w) → if Region.wanted o2 (yielded ops a.tmps) = true then Oper.wp P o2 a w K' Q else K' (a.put o2.dst undef) w)
    (h3 : ∀ K' : Act → World → Prop, Shut (∀ a w, S w → (S w → wpAnyH P md ops Q S fuel l3 a w) → K' a w) → if Region.wanted o3 (yielded ops a.tmps) = true then Oper.wp P o3 a w K' Q else K' (a.put o3.dst undef) w) : wpAnyH P md ops Q S (fuel + 1) listed a w := by
  subst hl hl2 hl3
  exact wpAnyH_ready hr (by simp) (AllReadyH.cons ho h (AllReadyH.cons ho2 h2 (AllReadyH.cons ho3 h3 AllReadyH.nil)))
end
theorem pickN_any (a n : Int) (h0 : 0 < n) (h1 : n ≤ 64) (w : World) :
    Calls Tryd.prog 48 #[.int .i64 a, .int .i64 n] w fun e w' => e = .returned (.int .i64 (a % n)) ∧ w = w' := by
  have g1 := Int.tmod_lt_of_pos a h0
  have g2 := Int.lt_tmod_of_pos a h0
  have hm := tmod_pos n h0 a
  have hz : ¬ n < 1 := by omega
  have hnz : (n == 0) = false := beq_eq_false_iff_ne.2 (by omega)
  have hnz2 : ¬ n = 0 := by omega
  by_cases hneg : a.tmod n < 0
  · rw [if_pos hneg] at hm
    rw [hm]
    clear hm
    have s1 : IntKind.i64.wrap (a.tmod n + n) = a.tmod n + n := IntWalk.i64_in _ (by omega)
    have s2 : IntKind.i64.wrap (a.tmod n) = a.tmod n := IntWalk.i64_in _ (by omega)
    go_enter Tryd.func48, Tryd.ntmps48
    go_wp2
    go_ret
    exact ⟨rfl, rfl⟩
  · rw [if_neg hneg] at hm
    rw [hm]
    clear hm
    go_enter Tryd.func48, Tryd.ntmps48
    go_wp2
    go_ret
    exact ⟨rfl, rfl⟩
theorem pick4_any (a : Int) (w : World) :
    Calls Tryd.prog 48 #[.int .i64 a, .int .i64 4] w fun e w' => e = .returned (.int .i64 (a % 4)) ∧ w = w' := pickN_any a 4 (by omega) (by omega) w
/-- the move of numbers: from, to, becomes -/
def mdF (P : Nat → Int) (a : Int) : Int := if (ownL P 64).length = 0 then 0 else (ownL P 64).getD (a % ((ownL P 64).length : Int)).toNat 0
def mdT (P : Nat → Int) (a : Int) : Int := if (ownL P 64).length = 0 then 0 else a % 64
def mdB (P : Nat → Int) (f t a : Int) : Int := if (ownL P 64).length = 0 then 0 else if P (f.toNat * 2) == 1 && (decide (56 ≤ t) || decide (t < 8)) then 2 + a % 4 else 0
/-- what stands while a move of numbers is made -/
structure MD (w W : World) (P : Nat → Int) : Prop where
  p : PB W w.heap.size P
  z : W.heap[w.heap.size + 1]? = some (.cells #[.int .i64 0, .int .i64 0, .int .i64 0] 34 (0, 0))
  b : Below w.heap.size w W
  s : w.heap.size + 2 ≤ W.heap.size
theorem MD.go {w W W' : World} {P : Nat → Int} (h : MD w W P) (g : Below W.heap.size W W') : MD w W' P := ⟨h.p.go g, sl_go h.z g, h.b.trans (g.mono h.b.size), Nat.le_trans h.s g.size⟩
theorem MD.begin (w : World) (P : Nat → Int) (X : Array Value) (hX : X = (pc P).toArray) : MD w ((w.alloc (.cells X 29)).alloc (.cells #[.int .i64 0, .int .i64 0, .int .i64 0] 34)) P := by
  obtain ⟨a1, a2, a3, a4⟩ := two_at w (.cells X 29) (.cells #[.int .i64 0, .int .i64 0, .int .i64 0] 34)
  exact ⟨PB.of_block (by rw [hX] at a1 ⊢; exact a1), a2, a3, by rw [a4]; exact Nat.le_refl _⟩
end Go.Proofs.YtlfapakllhhadaaDoor
