/-
  Merged: Pp, Pq, Pr.
-/
import Derived.Test.YtcdnakbdajbfoaaGreatDoorG23
import Derived.Test.YtcdnakbdajbfoaaGreatDoorG9
import Derived.Deep.CutRange
import Derived.Deep.CutBlock
import Derived.Test.YtcdnakbdajbfoaaGreatDoorG17

namespace Go.Proofs.YtcdnakbdajbfoaaGreatDoor
open Go.RowKit Go.Sort
set_option linter.unusedSimpArgs false
set_option linter.unusedVariables false
set_option maxRecDepth 20000

structure MR (w W : World) (P : Nat → Int) (f t k kk dd : Int) (bx bq : Nat) (Q : Nat → Int) : Prop where
  p : PB W w.heap.size P
  m : W.heap[w.heap.size + 1]? = some (.cells #[.int .i64 f, .int .i64 t, .int .i64 k] 52 (0, 0))
  z : PB W (w.heap.size + 2) (fun _ => 0)
  x : W.heap[bx]? = some (.cells #[.int .i64 kk, .int .i64 dd] 26 (0, 0))
  q : PB W bq Q
  b : Below w.heap.size w W
  lx : w.heap.size + 3 ≤ bx
  lq : bx < bq
theorem MR.go {w W W' : World} {P : Nat → Int} {f t k kk dd : Int} {bx bq : Nat} {Q : Nat → Int} (h : MR w W P f t k kk dd bx bq Q) (g : Below W.heap.size W W') : MR w W' P f t k kk dd bx bq Q :=
  ⟨h.p.go g, sl_go h.m g, h.z.go g, sl_go h.x g, h.q.go g, h.b.trans (g.mono h.b.size), h.lx, h.lq⟩
theorem MR.set {w W : World} {P : Nat → Int} {f t k kk dd : Int} {bx bq : Nat} {Q : Nat → Int} (h : MR w W P f t k kk dd bx bq Q) (i : Nat) (v : Int) (hi : i < 133) : MR w (W.setCell ⟨bq, i, none⟩ (.int .i64 v)) P f t k kk dd bx bq (setN Q i v) := by
  have h1 := h.lx
  have h2 := h.lq
  exact ⟨h.p.other (by omega) _ _, (Go.heap_setCell_other _ _ _ _ (by simp; omega)).trans h.m, h.z.other (by omega) _ _, (Go.heap_setCell_other _ _ _ _ (by simp; omega)).trans h.x, h.q.set i v hi, h.b.setCell (p := ⟨bq, i, none⟩) (by simp; omega) _, h1, h2⟩
theorem MR.pt {w W : World} {P : Nat → Int} {f t k kk dd : Int} {bx bq : Nat} {Q : Nat → Int} (h : MR w W P f t k kk dd bx bq Q) (m : Nat) (a c : Int) (hm : m < 64) :
    MR w ((W.setCell ⟨bq, m * 2, none⟩ (.int .i64 a)).setCell ⟨bq, m * 2 + 1, none⟩ (.int .i64 c)) P f t k kk dd bx bq (ptN Q m a c) := by
  have := (h.set (m * 2) a (by omega)).set (m * 2 + 1) c (by omega)
  unfold ptN
  rwa [Nat.mul_comm 2 m]
theorem MR.stored {w W : World} {P : Nat → Int} {f t k kk dd : Int} {bx bq : Nat} {Q : Nat → Int} (h : MR w W P f t k kk dd bx bq Q) (R : Nat → Int) : (W.setCells (w.heap.size + 2) 0 (pc R)).rangeAt (w.heap.size + 2) 0 (pc R) ∧ Below w.heap.size w (W.setCells (w.heap.size + 2) 0 (pc R)) :=
  ⟨(h.z.store (Q := R)).range, below_store (b := w.heap.size + 2) R h.b (by omega) h.b.size⟩
def rm1 (P : Nat → Int) (tk : Int) : Nat → Int := if decide (0 ≤ tk) then ptN P tk.toNat 0 0 else P
def rm2 (R : Nat → Int) (f t : Nat) (k kk dd : Int) : Nat → Int := if k == 0 then ptN (ptN R f 0 0) t kk dd else setN (ptN (ptN R f 0 0) t kk dd) (t * 2) k
def rm3 (R : Nat → Int) (f : Nat) (cs dd : Int) : Nat → Int := if cs == 1 then ptN (ptN R (f + 3) 0 0) (f + 1) 4 dd else if cs == -1 then ptN (ptN R (f - 4) 0 0) (f - 1) 4 dd else R
def rm4 (R : Nat → Int) (od ca : Int) : Nat → Int := setN (setN (setN R 128 od) 129 ca) 130 (-1)
def rm5 (R : Nat → Int) (lg : Bool) (md : Int) : Nat → Int := if lg then setN R 130 md else R
def rm6 (R : Nat → Int) (h : Int) (z : Bool) : Nat → Int := if z then setN (setN R 131 (wrap64 ((if 1023 < h then 1023 else h) + 1))) 131 0 else setN R 131 (wrap64 ((if 1023 < h then 1023 else h) + 1))
def rm7 (R : Nat → Int) (sd fu : Int) : Nat → Int := if sd == 1 then setN R 132 (wrap64 ((if 16383 < fu then 16383 else fu) + 1)) else R
def rmN (P : Nat → Int) (f t : Nat) (k kk dd tk cs od ca : Int) (lg : Bool) (md : Int) : Nat → Int :=
  rm7 (rm6 (rm5 (rm4 (rm3 (rm2 (rm1 P tk) f t k kk dd) f cs dd) od ca) lg md) (P 131) (kk == 1 || decide (0 ≤ tk))) (P 128) (P 132)
theorem cslV_cases (c kk d F T : Int) : (cslV c kk d F T = 0 ∨ cslV c kk d F T = 1 ∨ cslV c kk d F T = -1) ∧ (cslV c kk d F T ≠ 0 → F = 4 ∨ F = 60) := by
  unfold cslV
  by_cases hd : d = 1
  · simp only [hd, beq_self_eq_true, if_true]
    by_cases hh : (kk == 6 && F == 60) = true
    · rw [if_pos hh]
      simp only [Bool.and_eq_true, beq_iff_eq] at hh
      refine ⟨?_, fun _ => .inr hh.2⟩
      split
      · exact .inr (.inl rfl)
      · split
        · exact .inr (.inr rfl)
        · exact .inl rfl
    · rw [if_neg hh]; exact ⟨.inl rfl, fun h => absurd rfl h⟩
  · rw [show (d == 1) = false from beq_eq_false_iff_ne.2 hd, if_neg (by decide)]
    by_cases hh : (kk == 6 && F == 4) = true
    · rw [if_pos hh]
      simp only [Bool.and_eq_true, beq_iff_eq] at hh
      refine ⟨?_, fun _ => .inl hh.2⟩
      split
      · exact .inr (.inl rfl)
      · split
        · exact .inr (.inr rfl)
        · exact .inl rfl
    · rw [if_neg hh]; exact ⟨.inl rfl, fun h => absurd rfl h⟩
theorem lost_range (s : Int) : 0 ≤ lostN s ∧ lostN s ≤ 15 := by
  rcases lost_cases s with ⟨_, h⟩ | ⟨_, h⟩ | ⟨_, h⟩ | ⟨_, h⟩ | ⟨_, h⟩ | ⟨_, h⟩ | ⟨_, _, _, _, _, _, h⟩ <;> rw [h] <;> omega
set_option maxHeartbeats 8000000 in
set_option maxRecDepth 100000 in
theorem rMove_go (P : Nat → Int) (F T k tk : Int) (hF : 0 ≤ F ∧ F < 64) (hT : 0 ≤ T ∧ T < 64) (hne : ¬ F = T) (w : World)
    (hcan : ∀ W, Calls Tryz.prog 62 #[.agg (pc P).toArray, .agg #[.int .i64 F, .int .i64 T, .int .i64 k]] W fun e w' => e = .returned (.bool true) ∧ Below W.heap.size W w')
    (htk : tkP P F T k = tk) (htk2 : tk = -1 ∨ (0 ≤ tk ∧ tk < 64)) (hd : P (F.toNat * 2 + 1) = 0 ∨ P (F.toNat * 2 + 1) = 1) 
    (cs : Int) (hcs : cslV (cas0 (P 129)) (P (F.toNat * 2)) (P (F.toNat * 2 + 1)) F T = cs) (ca : Int) (hca : wtS (wtS (cas0 (P 129)) (lostN F) 4) (lostN T) 4 = ca) (lg : Bool) (hlg : lngR (P (F.toNat * 2)) (P (F.toNat * 2 + 1)) F.toNat T.toNat = lg) (md : Int) (hmd : (F + T) / 2 = md) :
    Calls Tryz.prog 44 #[.agg (pc P).toArray, .agg #[.int .i64 F, .int .i64 T, .int .i64 k]] w fun e w' => e = .returned (.tuple #[.agg (pc (rmN P F.toNat T.toNat k (P (F.toNat * 2)) (P (F.toNat * 2 + 1)) tk cs (oth (P 128)) ca lg md)).toArray, .int .i64 0]) ∧ Below w.heap.size w w' := by
  obtain ⟨X, hX⟩ : ∃ X, X = (pc P).toArray := ⟨_, rfl⟩
  have HMA := Lib.hid (MA.begin w P F T k X hX)
  have MT := Lib.hid (fun W => rTakes_any P F T k W)
  have MCS := Lib.hid (fun W => rCsl_any P F T k hF hd W)
  have MLG := Lib.hid (show ∀ W, Calls Tryz.prog 68 #[.agg #[.int .i64 (P (F.toNat * 2)), .int .i64 (P (F.toNat * 2 + 1))], .agg #[.int .i64 F, .int .i64 T, .int .i64 k]] W fun e w' => e = .returned (.bool (lngR (P (F.toNat * 2)) (P (F.toNat * 2 + 1)) F.toNat T.toNat)) ∧ Below W.heap.size W w' from fun W => by
    have := rLong_any (P (F.toNat * 2)) (P (F.toNat * 2 + 1)) F.toNat T.toNat k (by omega) (by omega) hd W
    rwa [show ((F.toNat : Nat) : Int) = F by omega, show ((T.toNat : Nat) : Int) = T by omega] at this)
  have MCA := Lib.hid (fun W => rCas_any P W)
  have MO := Lib.hid (fun W => rOther_any (P 128) W)
  have hcr := cas0_range (P 129)
  have hlf := lost_range F
  have hlt := lost_range T
  have hw1 := wtS_bound (cas0 (P 129)) (lostN F) 4 (by omega)
  have ML1 := Lib.hid (fun W => rLost_any F W)
  have ML2 := Lib.hid (fun W => rLost_any T W)
  have MW1 := Lib.hid (fun W => rWithout_any (cas0 (P 129)) (lostN F) hcr hlf W)
  have MW2 := Lib.hid (fun W => rWithout_any (wtS (cas0 (P 129)) (lostN F) 4) (lostN T) hw1 hlt W)
  have hcc := cslV_cases (cas0 (P 129)) (P (F.toNat * 2)) (P (F.toNat * 2 + 1)) F T
  rw [hcs] at MCS hcc
  rw [hlg] at MLG
  rw [hca] at MW2
  have hvv : rmN P F.toNat T.toNat k (P (F.toNat * 2)) (P (F.toNat * 2 + 1)) tk cs (oth (P 128)) ca lg md = rm7 (rm6 (rm5 (rm4 (rm3 (rm2 (rm1 P tk) F.toNat T.toNat k (P (F.toNat * 2)) (P (F.toNat * 2 + 1))) F.toNat cs (P (F.toNat * 2 + 1))) (oth (P 128)) ca) lg md) (P 131) (P (F.toNat * 2) == 1 || decide (0 ≤ tk))) (P 128) (P 132) := rfl
  obtain ⟨RR, hRR⟩ : ∃ R, rmN P F.toNat T.toNat k (P (F.toNat * 2)) (P (F.toNat * 2 + 1)) tk cs (oth (P 128)) ca lg md = R := ⟨_, rfl⟩
  rw [hRR] at hvv
  rw [hRR]
  obtain ⟨Z, hZ⟩ : ∃ Z, Z = (pc RR).toArray := ⟨_, rfl⟩
  rw [← hZ]
  clear hRR hcs hca hlg hcr hlf hlt hw1
  have HCC := Lib.hid hcc
  clear hcc
  have MCN := Lib.hid hcan
  rw [htk] at MT
  rw [← hX] at MT MCS MCN MCA ⊢
  have M1 := Lib.hid (fun W => rIs8_any F W)
  have M2 := Lib.hid (fun W => rIs8_any T W)
  rw [(sq_iff F).2 hF] at M1
  rw [(sq_iff T).2 hT] at M2
  have f0 := hF.1
  have f1 := hF.2
  have t0 := hT.1
  have t1 := hT.2
  have hne2 : (F == T) = false := beq_eq_false_iff_ne.2 hne
  have HX := Lib.hid hX
  have HP8 := Lib.hid (show ∀ W, PB W w.heap.size P → W.cell? ⟨w.heap.size, 128, none⟩ = some (.int .i64 (P 128)) ∧ W.cell? ⟨w.heap.size, 131, none⟩ = some (.int .i64 (P 131)) ∧ W.cell? ⟨w.heap.size, 132, none⟩ = some (.int .i64 (P 132)) from fun W h => ⟨h.cell _ (by omega), h.cell _ (by omega), h.cell _ (by omega)⟩)
  have HP := Lib.hid (show ∀ W, PB W w.heap.size P → W.cell? ⟨w.heap.size, F.toNat * 2, none⟩ = some (.int .i64 (P (F.toNat * 2))) ∧ W.cell? ⟨w.heap.size, F.toNat * 2 + 1, none⟩ = some (.int .i64 (P (F.toNat * 2 + 1))) from fun W h => ⟨h.cell _ (by omega), h.cell _ (by omega)⟩)
  generalize P (F.toNat * 2) = kk at *
  generalize P (F.toNat * 2 + 1) = dd at *
  generalize P 128 = sd at *
  generalize P 131 = ha at *
  generalize P 132 = fu at *
  generalize oth sd = od at *
  have HVV := Lib.hid hvv
  have HZ := Lib.hid hZ
  generalize cas0 (P 129) = c0 at *
  generalize lostN F = lf at *
  generalize lostN T = lt at *
  generalize wtS c0 lf 4 = c1 at *
  clear hX hcan htk hvv hZ
  go_enter Tryz.func44, Tryz.ntmps44
  go_upto_region 1 with (fail)
  refine forget_B (fun W => MA w W P F T k) HMA.out ?_
  clear HMA
  intro W hi
  have HI := Lib.hid hi
  clear hi
  obtain ⟨q0, q1, q2, qf, qz⟩ := row3 HI.out.m
  go_wp2_with fail
  refine (M1.out _).mono ?_
  rintro e w1 ⟨rfl, rfl⟩
  go_wp2_with fail
  refine (M2.out _).mono ?_
  rintro e w1 ⟨rfl, rfl⟩
  go_wp2_with (refine wpList_pos (by rfl) _ (by rfl) w.heap.size P X HX.out (by rfl) HI.out.p ?_)
  refine (MCN.out _).mono ?_
  rintro e w1 ⟨rfl, hb1⟩
  replace HI := Lib.hid (HI.out.go hb1)
  clear q0 q1 q2 qf qz hb1 hne hne2 M1 M2 MCN
  obtain ⟨q0, q1, q2, qf, qz⟩ := row3 HI.out.m
  obtain ⟨e1, e2⟩ := HP.out _ HI.out.p
  go_upto_region 6 with (fail)
  refine forget_B (fun W => MA w W P F T k ∧ W.heap[w1.heap.size]? = some (.cells #[.int .i64 kk, .int .i64 dd] 26 (0, 0)) ∧ w.heap.size + 3 ≤ w1.heap.size ∧ w1.heap.size < W.heap.size) ⟨HI.out.go (below_new _), sl_at rfl, HI.out.s, by simp⟩ ?_
  clear HI q0 q1 q2 qf qz e1 e2
  generalize w1.heap.size = bx
  rintro W2 ⟨h1, h2, h3, h4⟩
  have HI := Lib.hid h1
  have HBX := Lib.hid h2
  have HL := Lib.hid (And.intro h3 h4)
  clear h1 h2 h3 h4
  go_wp2_with (first | refine wpList_new X P HX.out (by rfl) (by rfl) ?_ | refine wpList_pos (by rfl) _ (by rfl) w.heap.size P X HX.out (by rfl) HI.out.p ?_)
  intro W3 hq hb hz
  have HR := Lib.hid (show MR w W3 P F T k kk dd bx W2.heap.size P from ⟨HI.out.p.go hb, sl_go HI.out.m hb, HI.out.z.go hb, sl_go HBX.out hb, hq, HI.out.b.trans (hb.mono HI.out.b.size), HL.out.1, HL.out.2⟩)
  generalize W2.heap.size = bq at *
  clear hq hb hz HI HBX HL
  obtain ⟨q0, q1, q2, qf, qz⟩ := row3 HR.out.m
  go_wp2_with (refine wpList_pos (by rfl) _ (by rfl) w.heap.size P X HX.out (by rfl) HR.out.p ?_)
  refine (MT.out _).mono ?_
  rintro e w4 ⟨rfl, hb1⟩
  replace HR := Lib.hid (HR.out.go hb1)
  clear q0 q1 q2 qf qz hb1 MT
  go_upto_if 42 with (fail)
  go_cut [] from 43 to 46 (fun wx => MR w wx P F T k kk dd bx bq (rm1 P tk))
  case first =>
    rcases htk2 with rfl | ⟨k0, k1⟩
    · go_wp2_with fail
      go_meet
      exact HR.out
    · have e1 := HR.out.q.cell (tk.toNat * 2) (by omega)
      have e2 := HR.out.q.cell (tk.toNat * 2 + 1) (by omega)
      have e3 := HR.out.q.fr (tk.toNat * 2)
      have e4 := HR.out.q.fr (tk.toNat * 2 + 1)
      have HN := Lib.hid (show MR w ((w4.setCell ⟨bq, tk.toNat * 2, none⟩ (.int .i64 0)).setCell ⟨bq, tk.toNat * 2 + 1, none⟩ (.int .i64 0)) P F T k kk dd bx bq (rm1 P tk) by unfold rm1; rw [decide_eq_true k0, if_pos rfl]; exact HR.out.pt tk.toNat 0 0 (by omega))
      go_wp2_with fail
      go_meet
      exact HN.out
  case rest =>
  have HR := Lib.hid hcut
  clear hcut
  generalize rm1 P tk = Q1 at *
  obtain ⟨q0, q1, q2, qf, qz⟩ := row3 HR.out.m
  have e1 := HR.out.q.cell (F.toNat * 2) (by omega)
  have e2 := HR.out.q.cell (F.toNat * 2 + 1) (by omega)
  have e3 := HR.out.q.fr (F.toNat * 2)
  have e4 := HR.out.q.fr (F.toNat * 2 + 1)
  go_upto_region 11 with (fail)
  refine forget_B (fun W => MR w W P F T k kk dd bx bq (ptN Q1 F.toNat 0 0)) (HR.out.pt F.toNat 0 0 (by omega)) ?_
  clear e1 e2 e3 e4 q0 q1 q2 qf qz HR
  intro W5 hi
  have HR := Lib.hid hi
  clear hi
  obtain ⟨q0, q1, q2, qf, qz⟩ := row3 HR.out.m
  obtain ⟨x1, x2, xf, xz⟩ := row2 HR.out.x
  have e1 := HR.out.q.cell (T.toNat * 2) (by omega)
  have e2 := HR.out.q.cell (T.toNat * 2 + 1) (by omega)
  have e3 := HR.out.q.fr (T.toNat * 2)
  have e4 := HR.out.q.fr (T.toNat * 2 + 1)
  go_upto_region 12 with (fail)
  refine forget_B (fun W => MR w W P F T k kk dd bx bq (ptN (ptN Q1 F.toNat 0 0) T.toNat kk dd)) (HR.out.pt T.toNat kk dd (by omega)) ?_
  clear e1 e2 e3 e4 q0 q1 q2 qf qz x1 x2 xf xz HR
  intro W6 hi
  have HR := Lib.hid hi
  clear hi
  obtain ⟨q0, q1, q2, qf, qz⟩ := row3 HR.out.m
  go_upto_if 59 with (fail)
  go_cut [] from 60 to 66 (fun wx => MR w wx P F T k kk dd bx bq (rm2 Q1 F.toNat T.toNat k kk dd))
  case first =>
    by_cases hk : k = 0
    · have hk2 : (k != 0) = false := by simp [hk]
      have HN := Lib.hid (show MR w W6 P F T k kk dd bx bq (rm2 Q1 F.toNat T.toNat k kk dd) by unfold rm2; rw [show (k == 0) = true by simp [hk], if_pos rfl]; exact HR.out)
      go_wp2_with fail
      go_meet
      exact HN.out
    · have hk2 : (k != 0) = true := by simp [hk]
      have e1 := HR.out.q.cell (T.toNat * 2) (by omega)
      have e3 := HR.out.q.fr (T.toNat * 2)
      have HN := Lib.hid (show MR w (W6.setCell ⟨bq, T.toNat * 2, none⟩ (.int .i64 k)) P F T k kk dd bx bq (rm2 Q1 F.toNat T.toNat k kk dd) by unfold rm2; rw [show (k == 0) = false by simp [hk], if_neg (by decide)]; exact HR.out.set (T.toNat * 2) k (by omega))
      go_wp2_with fail
      go_meet
      exact HN.out
  case rest =>
  have HR := Lib.hid hcut
  clear hcut
  generalize rm2 Q1 F.toNat T.toNat k kk dd = Q2 at *
  clear q0 q1 q2 qf qz
  obtain ⟨q0, q1, q2, qf, qz⟩ := row3 HR.out.m
  go_wp2_with (refine wpList_pos (by rfl) _ (by rfl) w.heap.size P X HX.out (by rfl) HR.out.p ?_)
  refine (MCS.out _).mono ?_
  rintro e w7 ⟨rfl, hb1⟩
  replace HR := Lib.hid (HR.out.go hb1)
  clear q0 q1 q2 qf qz hb1 MCS
  obtain ⟨q0, q1, q2, qf, qz⟩ := row3 HR.out.m
  obtain ⟨x1, x2, xf, xz⟩ := row2 HR.out.x
  go_upto_block 0 with (fail)
  go_cut [] from 70 to 101 (fun wx => MR w wx P F T k kk dd bx bq (rm3 Q2 F.toNat cs dd))
  case first =>
    rcases HCC.out.1 with h0 | h0 | h0
    · subst h0
      have HN := Lib.hid (show MR w w7 P F T k kk dd bx bq (rm3 Q2 F.toNat 0 dd) from HR.out)
      go_wp2_with fail
      go_meet
      exact HN.out
    · subst h0
      rcases HCC.out.2 (by decide) with rfl | rfl
      · have e1 := HR.out.q.cell 14 (by omega)
        have e2 := HR.out.q.cell 15 (by omega)
        have e3 := HR.out.q.fr 14
        have e4 := HR.out.q.fr 15
        go_upto_region 17 with (fail)
        refine forget_B (fun W => MR w W P 4 T k kk dd bx bq (ptN Q2 7 0 0)) (HR.out.pt 7 0 0 (by omega)) ?_
        clear e1 e2 e3 e4 q0 q1 q2 qf qz x1 x2 xf xz HR
        intro W8 hi
        have HR := Lib.hid hi
        clear hi
        obtain ⟨q0, q1, q2, qf, qz⟩ := row3 HR.out.m
        obtain ⟨x1, x2, xf, xz⟩ := row2 HR.out.x
        have e1 := HR.out.q.cell 10 (by omega)
        have e2 := HR.out.q.cell 11 (by omega)
        have e3 := HR.out.q.fr 10
        have e4 := HR.out.q.fr 11
        have HN := Lib.hid (show MR w ((W8.setCell ⟨bq, 10, none⟩ (.int .i64 4)).setCell ⟨bq, 11, none⟩ (.int .i64 dd)) P 4 T k kk dd bx bq (rm3 Q2 (4 : Int).toNat (1) dd) from HR.out.pt 5 4 dd (by omega))
        go_wp2_with fail
        go_meet
        exact HN.out
      · have e1 := HR.out.q.cell 126 (by omega)
        have e2 := HR.out.q.cell 127 (by omega)
        have e3 := HR.out.q.fr 126
        have e4 := HR.out.q.fr 127
        go_upto_region 17 with (fail)
        refine forget_B (fun W => MR w W P 60 T k kk dd bx bq (ptN Q2 63 0 0)) (HR.out.pt 63 0 0 (by omega)) ?_
        clear e1 e2 e3 e4 q0 q1 q2 qf qz x1 x2 xf xz HR
        intro W8 hi
        have HR := Lib.hid hi
        clear hi
        obtain ⟨q0, q1, q2, qf, qz⟩ := row3 HR.out.m
        obtain ⟨x1, x2, xf, xz⟩ := row2 HR.out.x
        have e1 := HR.out.q.cell 122 (by omega)
        have e2 := HR.out.q.cell 123 (by omega)
        have e3 := HR.out.q.fr 122
        have e4 := HR.out.q.fr 123
        have HN := Lib.hid (show MR w ((W8.setCell ⟨bq, 122, none⟩ (.int .i64 4)).setCell ⟨bq, 123, none⟩ (.int .i64 dd)) P 60 T k kk dd bx bq (rm3 Q2 (60 : Int).toNat (1) dd) from HR.out.pt 61 4 dd (by omega))
        go_wp2_with fail
        go_meet
        exact HN.out
    · subst h0
      rcases HCC.out.2 (by decide) with rfl | rfl
      · have e1 := HR.out.q.cell 0 (by omega)
        have e2 := HR.out.q.cell 1 (by omega)
        have e3 := HR.out.q.fr 0
        have e4 := HR.out.q.fr 1
        go_upto_region 20 with (fail)
        refine forget_B (fun W => MR w W P 4 T k kk dd bx bq (ptN Q2 0 0 0)) (HR.out.pt 0 0 0 (by omega)) ?_
        clear e1 e2 e3 e4 q0 q1 q2 qf qz x1 x2 xf xz HR
        intro W8 hi
        have HR := Lib.hid hi
        clear hi
        obtain ⟨q0, q1, q2, qf, qz⟩ := row3 HR.out.m
        obtain ⟨x1, x2, xf, xz⟩ := row2 HR.out.x
        have e1 := HR.out.q.cell 6 (by omega)
        have e2 := HR.out.q.cell 7 (by omega)
        have e3 := HR.out.q.fr 6
        have e4 := HR.out.q.fr 7
        have HN := Lib.hid (show MR w ((W8.setCell ⟨bq, 6, none⟩ (.int .i64 4)).setCell ⟨bq, 7, none⟩ (.int .i64 dd)) P 4 T k kk dd bx bq (rm3 Q2 (4 : Int).toNat (-1) dd) from HR.out.pt 3 4 dd (by omega))
        go_wp2_with fail
        go_meet
        exact HN.out
      · have e1 := HR.out.q.cell 112 (by omega)
        have e2 := HR.out.q.cell 113 (by omega)
        have e3 := HR.out.q.fr 112
        have e4 := HR.out.q.fr 113
        go_upto_region 20 with (fail)
        refine forget_B (fun W => MR w W P 60 T k kk dd bx bq (ptN Q2 56 0 0)) (HR.out.pt 56 0 0 (by omega)) ?_
        clear e1 e2 e3 e4 q0 q1 q2 qf qz x1 x2 xf xz HR
        intro W8 hi
        have HR := Lib.hid hi
        clear hi
        obtain ⟨q0, q1, q2, qf, qz⟩ := row3 HR.out.m
        obtain ⟨x1, x2, xf, xz⟩ := row2 HR.out.x
        have e1 := HR.out.q.cell 118 (by omega)
        have e2 := HR.out.q.cell 119 (by omega)
        have e3 := HR.out.q.fr 118
        have e4 := HR.out.q.fr 119
        have HN := Lib.hid (show MR w ((W8.setCell ⟨bq, 118, none⟩ (.int .i64 4)).setCell ⟨bq, 119, none⟩ (.int .i64 dd)) P 60 T k kk dd bx bq (rm3 Q2 (60 : Int).toNat (-1) dd) from HR.out.pt 59 4 dd (by omega))
        go_wp2_with fail
        go_meet
        exact HN.out
  case rest =>
  have HR := Lib.hid hcut
  clear hcut
  generalize rm3 Q2 F.toNat cs dd = Q3 at *
  clear q0 q1 q2 qf qz x1 x2 xf xz
  obtain ⟨e1, e2, e3⟩ := HP8.out _ HR.out.p
  have e4 := HR.out.q.cell 128 (by omega)
  have e5 := HR.out.q.fr 128
  go_wp2_with fail
  refine (MO.out _).mono ?_
  rintro e w9 ⟨rfl, rfl⟩
  go_upto_region 22 with (fail)
  refine forget_B (fun W => MR w W P F T k kk dd bx bq (setN Q3 128 od)) (HR.out.set 128 od (by omega)) ?_
  clear e1 e2 e3 e4 e5 HR
  intro W10 hi
  have HR := Lib.hid hi
  clear hi
  obtain ⟨q0, q1, q2, qf, qz⟩ := row3 HR.out.m
  replace q0 := cell_regrown q0
  replace q1 := cell_regrown q1
  have k1 := regrown_call (w := W10) MCA.out
  have k2 := regrown_same (w := W10) ML1.out
  have k3 := regrown_same (w := W10) MW1.out
  have k4 := regrown_same (w := W10) ML2.out
  have k5 := regrown_same (w := W10) MW2.out
  have hcp : ∀ W, (∃ p : Regrown, W = grow (redrawn W10 p.d) p.os) → PB W w.heap.size P := HR.out.p.regrown
  have HCP := Lib.hid hcp
  clear hcp q2 qf qz
  refine wp_region_quiet_store 11 (by kernel_rfl) rfl rfl (by kernel_rfl) (by kernel_rfl) (C := fun W' => ∃ p : Regrown, W' = grow (redrawn W10 p.d) p.os) (regrown_self _) ?_
  simp only [List.take_succ_cons, List.take_zero]
  refine wpQuiet_pos (by rfl) _ (by rfl) w.heap.size P X HX.out (by rfl) HCP.out ?_
  try simp only [aP, sA, sZ, sS]
  go_big_quiet_step (exact k1 _ _)
  repeat (quiet_step (fail))
  go_big_quiet_step (exact k2 _ _)
  repeat (quiet_step (fail))
  go_big_quiet_step (exact k3 _ _)
  repeat (quiet_step (fail))
  go_big_quiet_step (exact k4 _ _)
  repeat (quiet_step (fail))
  go_big_quiet_step (exact k5 _ _)
  repeat (quiet_step (fail))
  refine wpQuiet_nil ?_
  rintro W11 ⟨q, rfl⟩
  refine ⟨by rfl, ?_⟩
  replace HR := Lib.hid (HR.out.go (below_regrown W10 q.d q.os))
  clear q0 q1 k1 k2 k3 k4 k5 HCP
  generalize grow (redrawn W10 q.d) q.os = W11 at HR ⊢
  have e1 := HR.out.q.cell 129 (by omega)
  have e3 := HR.out.q.fr 129
  go_simp
  clear e1 e3
  replace HR := Lib.hid (HR.out.set 129 ca (by omega))
  generalize W11.setCell ⟨bq, 129, none⟩ (.int .i64 ca) = W12 at HR ⊢
  have e1 := HR.out.q.cell 130 (by omega)
  have e3 := HR.out.q.fr 130
  go_upto_region 24 with (fail)
  refine forget_B (fun W => MR w W P F T k kk dd bx bq (rm4 Q3 od ca)) (HR.out.set 130 (-1) (by omega)) ?_
  clear e1 e3 HR
  intro W13 hi
  have HR := Lib.hid hi
  clear hi
  generalize rm4 Q3 od ca = Q4 at *
  obtain ⟨q0, q1, q2, qf, qz⟩ := row3 HR.out.m
  obtain ⟨x1, x2, xf, xz⟩ := row2 HR.out.x
  go_wp2_with fail
  refine (MLG.out _).mono ?_
  rintro e w14 ⟨rfl, hb1⟩
  replace HR := Lib.hid (HR.out.go hb1)
  clear q0 q1 q2 qf qz x1 x2 xf xz hb1
  obtain ⟨q0, q1, q2, qf, qz⟩ := row3 HR.out.m
  go_upto_if 120 with (fail)
  go_cut [] from 121 to 127 (fun wx => MR w wx P F T k kk dd bx bq (rm5 Q4 lg md))
  case first =>
    cases lg
    · have HN := Lib.hid (show MR w w14 P F T k kk dd bx bq (rm5 Q4 false md) from HR.out)
      go_wp2_with fail
      go_meet
      exact HN.out
    · have e1 := HR.out.q.cell 130 (by omega)
      have e3 := HR.out.q.fr 130
      have y1 : wrap64 (F + T) = F + T := by unfold wrap64; omega
      have y2 : (F + T).tdiv 2 = md := by rw [Int.tdiv_eq_ediv_of_nonneg (by omega)]; exact hmd
      have y3 : wrap64 md = md := by unfold wrap64; omega
      have HN := Lib.hid (show MR w (w14.setCell ⟨bq, 130, none⟩ (.int .i64 md)) P F T k kk dd bx bq (rm5 Q4 true md) from HR.out.set 130 md (by omega))
      go_wp2_with fail
      go_meet
      exact HN.out
  case rest =>
  have HR := Lib.hid hcut
  clear hcut
  generalize rm5 Q4 lg md = Q5 at *
  clear q0 q1 q2 qf qz
  obtain ⟨e1, e2, e3⟩ := HP8.out _ HR.out.p
  have e4 := HR.out.q.cell 131 (by omega)
  have e5 := HR.out.q.fr 131
  go_upto_region 27 with (fail)
  try rw [show min ha (1023 : Int) = (if 1023 < ha then 1023 else ha) from by split <;> omega]
  refine forget_B (fun W => MR w W P F T k kk dd bx bq (setN Q5 131 (wrap64 ((if 1023 < ha then 1023 else ha) + 1)))) (HR.out.set 131 _ (by omega)) ?_
  clear e1 e2 e3 e4 e5 HR
  intro W15 hi
  have HR := Lib.hid hi
  clear hi
  obtain ⟨mn, hmn⟩ : ∃ m, (if 1023 < ha then (1023 : Int) else ha) = m := ⟨_, rfl⟩
  have HRM := Lib.hid (show ∀ z, rm6 Q5 ha z = if z then setN (setN Q5 131 (wrap64 (mn + 1))) 131 0 else setN Q5 131 (wrap64 (mn + 1)) from fun z => by rw [← hmn]; rfl)
  rw [hmn] at HR ⊢
  clear hmn
  obtain ⟨x1, x2, xf, xz⟩ := row2 HR.out.x
  go_cut [139] from 133 to 139 (fun v wx => v = .bool (kk == 1 || decide (0 ≤ tk)) ∧ MR w wx P F T k kk dd bx bq (setN Q5 131 (wrap64 (mn + 1))))
  case first =>
    by_cases hk : kk = 1
    · subst hk
      go_wp2_with fail
      go_meet
      exact ⟨rfl, HR.out⟩
    · have hk2 : (kk == 1) = false := by simp [hk]
      go_wp2_with fail
      go_meet
      exact ⟨by rw [hk2]; rfl, HR.out⟩
  case rest =>
  obtain ⟨rfl, hr⟩ := hcut
  have HR := Lib.hid hr
  clear hr x1 x2 xf xz
  generalize (kk == 1 || decide (0 ≤ tk)) = zz at *
  go_upto_if 139 with (fail)
  go_cut [] from 140 to 140 (fun wx => MR w wx P F T k kk dd bx bq (rm6 Q5 ha zz))
  case first =>
    cases zz
    · have HN := Lib.hid (show MR w wc P F T k kk dd bx bq (rm6 Q5 ha false) by rw [HRM.out]; exact HR.out)
      go_wp2_with fail
      go_meet
      exact HN.out
    · have e1 := HR.out.q.cell 131 (by omega)
      have e3 := HR.out.q.fr 131
      have HN := Lib.hid (show MR w (wc.setCell ⟨bq, 131, none⟩ (.int .i64 0)) P F T k kk dd bx bq (rm6 Q5 ha true) by rw [HRM.out]; exact HR.out.set 131 0 (by omega))
      go_wp2_with fail
      go_meet
      exact HN.out
  case rest =>
  have HR := Lib.hid hcut
  clear hcut
  generalize rm6 Q5 ha zz = Q6 at *
  obtain ⟨e1, e2, e3⟩ := HP8.out _ HR.out.p
  go_upto_if 143 with (fail)
  go_cut [] from 144 to 148 (fun wx => MR w wx P F T k kk dd bx bq (rm7 Q6 sd fu))
  case first =>
    by_cases hs : sd = 1
    · subst hs
      have e4 := HR.out.q.cell 132 (by omega)
      have e5 := HR.out.q.fr 132
      have HRS := Lib.hid (show ∀ m, (if 16383 < fu then (16383 : Int) else fu) = m → rm7 Q6 1 fu = setN Q6 132 (wrap64 (m + 1)) from fun m h => by rw [← h]; rfl)
      by_cases hfu : 16383 < fu
      · have HN := Lib.hid (show MR w (wc.setCell ⟨bq, 132, none⟩ (.int .i64 16384)) P F T k kk dd bx bq (rm7 Q6 1 fu) by rw [HRS.out 16383 (if_pos hfu), show wrap64 (16383 + 1) = 16384 by unfold wrap64; omega]; exact HR.out.set 132 16384 (by omega))
        go_wp2_with fail
        go_meet
        first | exact HN.out | (rw [show min fu (16383 : Int) = 16383 from by omega]; exact HN.out)
      · have HN := Lib.hid (show MR w (wc.setCell ⟨bq, 132, none⟩ (.int .i64 (wrap64 (fu + 1)))) P F T k kk dd bx bq (rm7 Q6 1 fu) by rw [HRS.out fu (if_neg hfu)]; exact HR.out.set 132 (wrap64 (fu + 1)) (by omega))
        go_wp2_with fail
        go_meet
        first | exact HN.out | (rw [show min fu (16383 : Int) = fu from by omega]; exact HN.out)
    · have hs2 : (sd == 1) = false := by simp [hs]
      have HN := Lib.hid (show MR w _ P F T k kk dd bx bq (rm7 Q6 sd fu) by unfold rm7; rw [hs2]; exact HR.out)
      go_wp2_with fail
      go_meet
      exact HN.out
  case rest =>
  have HR := Lib.hid hcut
  clear hcut
  clear e1 e2 e3
  have HZ2 := Lib.hid (show Z = (pc (rm7 Q6 sd fu)).toArray by rw [HZ.out, HVV.out])
  generalize rm7 Q6 sd fu = Q7 at *
  go_upto_region 31 with (fail)
  refine wp_region_lit ?_
  refine wpList_pos (by rfl) _ (by rfl) bq Q7 Z HZ2.out (by rfl) HR.out.q ?_
  refine wpList_store_mid rfl 30 _ _ rfl (w.heap.size + 2) 0 Z rfl rfl (by rw [HZ2.out, pc_size]; exact HR.out.z.there) (by rw [infoPos, HZ2.out, pc_size]) (by rw [HZ2.out]; exact pc_one _) ?_
  refine forgetL_B (fun W => W.rangeAt (w.heap.size + 2) 0 (pc Q7) ∧ Below w.heap.size w W) (by rw [HZ2.out, List.toList_toArray]; exact HR.out.stored Q7) ?_
  rintro W8 ⟨hr1, hb1⟩
  have HR1 := Lib.hid hr1
  have HB1 := Lib.hid hb1
  clear hr1 hb1 HR
  refine wpList_plain rfl (fun K hK => ?_)
  go_simp
  refine hK _ _ ?_
  clear hK K
  show Exit.then _ _ Exit.normal _ _
  refine ret_go (by assumption) ?_
  repeat (first | refine then_ret ?_ | refine block_ret ?_)
  refine bodyPost_ret (v := .tuple #[.agg (pc Q7).toArray, .int .i64 0]) ?_ rfl ⟨by rw [HZ2.out], HB1.out⟩
  exact results_mid2 (p := 4) (u := 5) (ty := 30) rfl _ W8 (w.heap.size + 2) _ _ _ rfl rfl HR1.out Tryz.underlying30 rfl (by rw [infoPos, pc_len])
end Go.Proofs.YtcdnakbdajbfoaaGreatDoor

namespace Go.Proofs.YtcdnakbdajbfoaaGreatDoor
open Go.RowKit Go.Sort
set_option linter.unusedSimpArgs false
set_option linter.unusedVariables false
set_option maxRecDepth 20000

theorem ptN_at (P : Nat → Int) (m : Nat) (k d : Int) (i : Nat) : ptN P m k d i = if i = 2 * m then k else if i = 2 * m + 1 then d else P i := by
  unfold ptN setN
  by_cases h1 : i = 2 * m + 1
  · rw [if_pos h1, if_neg (by omega), if_pos h1]
  · rw [if_neg h1]
    by_cases h2 : i = 2 * m
    · rw [if_pos h2, if_pos h2]
    · rw [if_neg h2, if_neg h2, if_neg h1]
theorem ptN_zero2 (P : Nat → Int) (a b : Nat) : ptN (ptN P a 0 0) b 0 0 = ptN (ptN P b 0 0) a 0 0 := by
  funext i
  simp only [ptN_at]
  by_cases h1 : i = 2 * a <;> by_cases h2 : i = 2 * b <;> by_cases h3 : i = 2 * a + 1 <;> by_cases h4 : i = 2 * b + 1 <;> simp [h1, h2, h3, h4] <;> omega
theorem inc_min (n m : Int) : incN n (m + 1) = (if m < n then m + 1 else wrap64 (n + 1)) := by
  unfold incN
  by_cases h : m < n
  · rw [if_pos h, if_pos (by omega)]
  · rw [if_neg h, if_neg (by omega)]
theorem min_half (h : Int) : wrap64 ((if 1023 < h then 1023 else h) + 1) = incN h 1024 := by
  rw [show (1024 : Int) = 1023 + 1 by omega, inc_min]
  split
  · unfold wrap64; omega
  · rfl
theorem min_full (h : Int) : wrap64 ((if 16383 < h then 16383 else h) + 1) = incN h 16384 := by
  rw [show (16384 : Int) = 16383 + 1 by omega, inc_min]
  split
  · unfold wrap64; omega
  · rfl
def casOk : Bool := (List.range 16).all fun c => ([0, 1, 2, 3, 4, 8, 12] : List Int).all fun a => ([0, 1, 2, 3, 4, 8, 12] : List Int).all fun b => wtS (wtS (c : Int) a 4) b 4 == bits .andNot .i64 (c : Int) (bits .or .i64 a b)
theorem cas_ok : casOk = true := by decide +kernel
theorem lost_mem (s : Int) : lostN s ∈ ([0, 1, 2, 3, 4, 8, 12] : List Int) := by
  rcases lost_cases s with ⟨_, h⟩ | ⟨_, h⟩ | ⟨_, h⟩ | ⟨_, h⟩ | ⟨_, h⟩ | ⟨_, h⟩ | ⟨_, _, _, _, _, _, h⟩ <;> rw [h] <;> decide
theorem cas_eq (c : Int) (h0 : 0 ≤ c) (h1 : c ≤ 15) (f t : Nat) : wtS (wtS c (lostN f) 4) (lostN t) 4 = casM c f t := by
  have h := cas_ok
  unfold casOk at h
  rw [List.all_eq_true] at h
  have hc := h c.toNat (List.mem_range.2 (by omega))
  rw [List.all_eq_true] at hc
  have ha := hc _ (lost_mem (f : Int))
  rw [List.all_eq_true] at ha
  have hb := ha _ (lost_mem (t : Int))
  rw [show ((c.toNat : Nat) : Int) = c by omega] at hb
  unfold casM
  exact beq_iff_eq.1 hb
def kasOk : Bool := (List.range 16).all fun c => (bits .and .i64 (c : Int) 1 != 0) == ((c : Int) / 1 % 2 == 1) && (bits .and .i64 (c : Int) 2 != 0) == ((c : Int) / 2 % 2 == 1) && (bits .and .i64 (c : Int) 4 != 0) == ((c : Int) / 4 % 2 == 1) && (bits .and .i64 (c : Int) 8 != 0) == ((c : Int) / 8 % 2 == 1)
theorem kas_ok : kasOk = true := by decide +kernel
theorem kas_bits (c : Int) (h0 : 0 ≤ c) (h1 : c ≤ 15) : (bits .and .i64 c 1 != 0) = (c / 1 % 2 == 1) ∧ (bits .and .i64 c 2 != 0) = (c / 2 % 2 == 1) ∧ (bits .and .i64 c 4 != 0) = (c / 4 % 2 == 1) ∧ (bits .and .i64 c 8 != 0) = (c / 8 % 2 == 1) := by
  have h := kas_ok
  unfold kasOk at h
  rw [List.all_eq_true] at h
  have hc := h c.toNat (List.mem_range.2 (by omega))
  rw [show ((c.toNat : Nat) : Int) = c by omega] at hc
  simp only [Bool.and_eq_true, beq_iff_eq] at hc
  exact ⟨hc.1.1.1, hc.1.1.2, hc.1.2, hc.2⟩
theorem csI_four (P : Nat → Int) (f t : Nat) : csI P f t 4 = if csX P f t 0 then some 0 else if csX P f t 1 then some 1 else if csX P f t 2 then some 2 else if csX P f t 3 then some 3 else none := by
  simp only [csI]
  cases csX P f t 0 <;> cases csX P f t 1 <;> cases csX P f t 2 <;> cases csX P f t 3 <;> rfl
theorem pe_side (k d : Int) (s : Int) : pe k d 6 s = (k == 6 && d == s) := rfl
theorem csl_rel (P : Nat → Int) (f t : Nat) (hf : f < 64) (hd : P (2 * f + 1) = 0 ∨ P (2 * f + 1) = 1) (cs : Int) (hcs : cslV (cas0 (P 129)) (P (2 * f)) (P (2 * f + 1)) (f : Int) (t : Int) = cs) :
    (cs = 0 ∧ csI (handP P) f t 4 = none) ∨ (cs = 1 ∧ f = 4 ∧ t = 6 ∧ P (2 * f + 1) = 0 ∧ csI (handP P) f t 4 = some 0) ∨ (cs = -1 ∧ f = 4 ∧ t = 2 ∧ P (2 * f + 1) = 0 ∧ csI (handP P) f t 4 = some 1) ∨
    (cs = 1 ∧ f = 60 ∧ t = 62 ∧ P (2 * f + 1) = 1 ∧ csI (handP P) f t 4 = some 2) ∨ (cs = -1 ∧ f = 60 ∧ t = 58 ∧ P (2 * f + 1) = 1 ∧ csI (handP P) f t 4 = some 3) := by
  obtain ⟨b1, b2, b4, b8⟩ := kas_bits (cas0 (P 129)) (cas0_range _).1 (cas0_range _).2
  have x0 : csX (handP P) f t 0 = ((cas0 (P 129) / 1 % 2 == 1) && ((f : Int) == 4) && ((t : Int) == 6) && (P (2 * f) == 6 && P (2 * f + 1) == 0)) := by
    unfold csX; rw [hand_cas, hand_at P _ (by omega), hand_at P _ (by omega), pe_side, ← b1]; rfl
  have x1 : csX (handP P) f t 1 = ((cas0 (P 129) / 2 % 2 == 1) && ((f : Int) == 4) && ((t : Int) == 2) && (P (2 * f) == 6 && P (2 * f + 1) == 0)) := by
    unfold csX; rw [hand_cas, hand_at P _ (by omega), hand_at P _ (by omega), pe_side, ← b2]; rfl
  have x2 : csX (handP P) f t 2 = ((cas0 (P 129) / 4 % 2 == 1) && ((f : Int) == 60) && ((t : Int) == 62) && (P (2 * f) == 6 && P (2 * f + 1) == 1)) := by
    unfold csX; rw [hand_cas, hand_at P _ (by omega), hand_at P _ (by omega), pe_side, ← b4]; rfl
  have x3 : csX (handP P) f t 3 = ((cas0 (P 129) / 8 % 2 == 1) && ((f : Int) == 60) && ((t : Int) == 58) && (P (2 * f) == 6 && P (2 * f + 1) == 1)) := by
    unfold csX; rw [hand_cas, hand_at P _ (by omega), hand_at P _ (by omega), pe_side, ← b8]; rfl
  rw [csI_four, x0, x1, x2, x3]
  clear x0 x1 x2 x3 b1 b2 b4 b8
  generalize cas0 (P 129) = c at *
  generalize P (2 * f) = kk at *
  generalize P (2 * f + 1) = d at *
  unfold cslV at hcs
  by_cases hk : kk = 6
  case neg =>
    have h1 : (kk == 6) = false := by simp [hk]
    rw [h1] at hcs ⊢
    left
    refine ⟨?_, by simp⟩
    rw [← hcs]; cases d == 1 <;> rfl
  subst hk
  rcases hd with rfl | rfl
  · by_cases h4 : f = 4
    case neg =>
      have h1 : ((f : Int) == 4) = false := beq_eq_false_iff_ne.2 (by omega)
      rw [h1] at hcs ⊢
      left
      exact ⟨by rw [← hcs]; rfl, by simp⟩
    subst h4
    by_cases h6 : t = 6
    · subst h6
      by_cases hb : c / 1 % 2 = 1
      · right; left
        refine ⟨?_, rfl, rfl, rfl, ?_⟩
        · rw [← hcs]; simp only [hb]; rfl
        · simp only [hb]; rfl
      · have hb2 : (c / 1 % 2 == 1) = false := beq_eq_false_iff_ne.2 hb
        left
        rw [hb2] at hcs ⊢
        exact ⟨by rw [← hcs]; rfl, by simp⟩
    · have h61 : ((t : Int) == 6) = false := beq_eq_false_iff_ne.2 (by omega)
      rw [h61] at hcs ⊢
      by_cases h2 : t = 2
      · subst h2
        by_cases hb : c / 2 % 2 = 1
        · right; right; left
          refine ⟨?_, rfl, rfl, rfl, ?_⟩
          · rw [← hcs]; simp only [hb]; rfl
          · simp [hb]
        · have hb2 : (c / 2 % 2 == 1) = false := beq_eq_false_iff_ne.2 hb
          left
          rw [hb2] at hcs ⊢
          exact ⟨by rw [← hcs]; rfl, by simp⟩
      · have h21 : ((t : Int) == 2) = false := beq_eq_false_iff_ne.2 (by omega)
        rw [h21] at hcs ⊢
        left
        exact ⟨by rw [← hcs]; rfl, by simp⟩
  · by_cases h4 : f = 60
    case neg =>
      have h1 : ((f : Int) == 60) = false := beq_eq_false_iff_ne.2 (by omega)
      rw [h1] at hcs ⊢
      left
      exact ⟨by rw [← hcs]; rfl, by simp⟩
    subst h4
    by_cases h6 : t = 62
    · subst h6
      by_cases hb : c / 4 % 2 = 1
      · right; right; right; left
        refine ⟨?_, rfl, rfl, rfl, ?_⟩
        · rw [← hcs]; simp only [hb]; rfl
        · simp [hb]
      · have hb2 : (c / 4 % 2 == 1) = false := beq_eq_false_iff_ne.2 hb
        left
        rw [hb2] at hcs ⊢
        exact ⟨by rw [← hcs]; rfl, by simp⟩
    · have h61 : ((t : Int) == 62) = false := beq_eq_false_iff_ne.2 (by omega)
      rw [h61] at hcs ⊢
      by_cases h2 : t = 58
      · subst h2
        by_cases hb : c / 8 % 2 = 1
        · right; right; right; right
          refine ⟨?_, rfl, rfl, rfl, ?_⟩
          · rw [← hcs]; simp only [hb]; rfl
          · simp [hb]
        · have hb2 : (c / 8 % 2 == 1) = false := beq_eq_false_iff_ne.2 hb
          left
          rw [hb2] at hcs ⊢
          exact ⟨by rw [← hcs]; rfl, by simp⟩
      · have h21 : ((t : Int) == 58) = false := beq_eq_false_iff_ne.2 (by omega)
        rw [h21] at hcs ⊢
        left
        exact ⟨by rw [← hcs]; rfl, by simp⟩
theorem pt_low {Q Q' : Nat → Int} (h : ∀ i, i < 128 → Q i = Q' i) (m : Nat) (k d : Int) : ∀ i, i < 128 → ptN Q m k d i = ptN Q' m k d i := fun i hi => by rw [ptN_at, ptN_at, h i hi]
theorem pt_high (Q : Nat → Int) (m : Nat) (hm : m < 64) (k d : Int) (i : Nat) (hi : 128 ≤ i) : ptN Q m k d i = Q i := by rw [ptN_at, if_neg (by omega), if_neg (by omega)]
theorem set_at (Q : Nat → Int) (j : Nat) (x : Int) (i : Nat) : setN Q j x i = if i = j then x else Q i := rfl
theorem cnt_low (P : Nat → Int) (z : Bool) (i : Nat) (hi : i < 131) : cntN P z i = P i := by
  unfold cntN
  split
  · rw [set_at, if_neg (by omega), set_at, if_neg (by omega)]
  · rw [set_at, if_neg (by omega)]
end Go.Proofs.YtcdnakbdajbfoaaGreatDoor

namespace Go.Proofs.YtcdnakbdajbfoaaGreatDoor
open Go.RowKit Go.Sort
set_option linter.unusedSimpArgs false
set_option linter.unusedVariables false
set_option maxRecDepth 20000

theorem set_pt (R : Nat → Int) (t : Nat) (a d k : Int) : setN (ptN R t a d) (t * 2) k = ptN R t k d := by
  funext i
  rw [set_at, ptN_at, ptN_at]
  by_cases h : i = 2 * t
  · rw [if_pos (by omega), if_pos h]
  · rw [if_neg (by omega), if_neg h, if_neg h]
theorem low_eq (P C : Nat → Int) (f t : Nat) (k tk : Int) (hf : f < 64) (hC : ∀ i, i < 128 → C i = P i) (htk : tk = -1 ∨ ∃ n : Nat, tk = n) : ∀ i, i < 128 → rm2 (rm1 P tk) f t k (P (2 * f)) (P (2 * f + 1)) i = putM C f t k tk i := by
  have key : ∀ R S : Nat → Int, (∀ i, i < 128 → R i = S i) → ∀ i, i < 128 → (if k == 0 then ptN R t (P (2 * f)) (P (2 * f + 1)) else setN (ptN R t (P (2 * f)) (P (2 * f + 1))) (t * 2) k) i = ptN S t (if k == 0 then P (2 * f) else k) (P (2 * f + 1)) i := by
    intro R S h i hi
    by_cases hk : k = 0
    · have h1 : (k == 0) = true := by simp [hk]
      rw [h1, if_pos rfl, if_pos rfl]; exact pt_low h _ _ _ i hi
    · have h1 : (k == 0) = false := by simp [hk]
      rw [h1, if_neg (by decide), if_neg (by decide), set_pt]; exact pt_low h _ _ _ i hi
  intro i hi
  unfold rm2 putM
  rw [hC _ (by omega), hC _ (by omega)]
  have hC2 : ∀ i, i < 128 → P i = C i := fun i hi => (hC i hi).symm
  rcases htk with rfl | ⟨n, rfl⟩
  · exact key _ _ (pt_low hC2 f 0 0) i hi
  · have h1 : (((n : Int)) == -1) = false := beq_eq_false_iff_ne.2 (by omega)
    have h2 : rm1 P (n : Int) = ptN P n 0 0 := by unfold rm1; rw [decide_eq_true (by omega), if_pos rfl, Int.toNat_natCast]
    simp only [h1, Bool.false_eq_true, if_false]
    rw [Int.toNat_natCast, h2, ptN_zero2 P n f]
    exact key _ _ (pt_low (pt_low hC2 f 0 0) n 0 0) i hi
theorem rm_low (R : Nat → Int) (od ca md ha sd fu : Int) (lg z : Bool) (i : Nat) (hi : i < 128) : rm7 (rm6 (rm5 (rm4 R od ca) lg md) ha z) sd fu i = R i := by
  have h4 : rm4 R od ca i = R i := by unfold rm4; rw [set_at, if_neg (by omega), set_at, if_neg (by omega), set_at, if_neg (by omega)]
  have h5 : rm5 (rm4 R od ca) lg md i = R i := by
    unfold rm5; split
    · rw [set_at, if_neg (by omega)]; exact h4
    · exact h4
  have h6 : rm6 (rm5 (rm4 R od ca) lg md) ha z i = R i := by
    unfold rm6; split
    · rw [set_at, if_neg (by omega), set_at, if_neg (by omega)]; exact h5
    · rw [set_at, if_neg (by omega)]; exact h5
  unfold rm7; split
  · rw [set_at, if_neg (by omega)]; exact h6
  · exact h6
theorem rm3_high (R : Nat → Int) (f : Nat) (cs dd : Int) (i : Nat) (hi : 128 ≤ i) (hf : f < 61) : rm3 R f cs dd i = R i := by
  unfold rm3
  split
  · rw [pt_high _ _ (by omega) _ _ _ hi, pt_high _ _ (by omega) _ _ _ hi]
  · split
    · rw [pt_high _ _ (by omega) _ _ _ hi, pt_high _ _ (by omega) _ _ _ hi]
    · rfl
theorem rm2_high (P : Nat → Int) (f t : Nat) (k kk dd tk : Int) (hf : f < 64) (ht : t < 64) (htk : tk = -1 ∨ ∃ n : Nat, tk = n ∧ n < 64) (i : Nat) (hi : 128 ≤ i) : rm2 (rm1 P tk) f t k kk dd i = P i := by
  have h1 : rm1 P tk i = P i := by
    unfold rm1; split
    · rcases htk with rfl | ⟨n, rfl, hn⟩
      · rename_i h; simp at h
      · rw [Int.toNat_natCast, pt_high _ _ hn _ _ _ hi]
    · rfl
  unfold rm2; split
  · rw [pt_high _ _ ht _ _ _ hi, pt_high _ _ hf _ _ _ hi, h1]
  · rw [set_at, if_neg (by omega), pt_high _ _ ht _ _ _ hi, pt_high _ _ hf _ _ _ hi, h1]
theorem putM_high (C : Nat → Int) (f t : Nat) (k tk : Int) (hf : f < 64) (ht : t < 64) (htk : tk = -1 ∨ ∃ n : Nat, tk = n ∧ n < 64) (i : Nat) (hi : 128 ≤ i) : putM C f t k tk i = C i := by
  unfold putM
  rw [pt_high _ _ ht _ _ _ hi]
  split
  · rw [pt_high _ _ hf _ _ _ hi]
  · rcases htk with rfl | ⟨n, rfl, hn⟩
    · rename_i h; simp at h
    · rw [Int.toNat_natCast, pt_high _ _ hn _ _ _ hi, pt_high _ _ hf _ _ _ hi]
set_option maxHeartbeats 1000000 in
theorem rm_eq (P : Nat → Int) (f t : Nat) (k tk cs ca md : Int) (lg : Bool) (hf : f < 64) (ht : t < 64) (htk : tksN P f t = tk) (hown : P (2 * f + 1) = P 128) (hd : P 128 = 0 ∨ P 128 = 1)
    (hcs : cslV (cas0 (P 129)) (P (2 * f)) (P (2 * f + 1)) (f : Int) (t : Int) = cs) (hca : wtS (wtS (cas0 (P 129)) (lostN f) 4) (lostN t) 4 = ca) (hlg : lngR (P (2 * f)) (P (2 * f + 1)) f t = lg) (hmd : ((f + t) / 2 : Nat) = md) :
    rmN P f t k (P (2 * f)) (P (2 * f + 1)) tk cs (oth (P 128)) ca lg md = cmN (handP P) f t k := by
  have hH : tksN (handP P) f t = tk := by rw [tks_hand P f t hf ht, htk]
  have hpw : pwnB (handP P) f = pwnB P f := pwn_hand P f hf
  have htc : tk = -1 ∨ ∃ n : Nat, tk = n ∧ n < 64 := by rw [← htk]; exact tks_cases P f t hf ht
  have hzz : (pwnB (handP P) f || (tk != -1)) = (P (2 * f) == 1 || decide (0 ≤ tk)) := by
    rw [hpw]; unfold pwnB
    rcases htc with rfl | ⟨n, rfl, hn⟩
    · rfl
    · rw [decide_eq_true (by omega : (0 : Int) ≤ n), show ((n : Int) != -1) = true by unfold bne; rw [beq_eq_false_iff_ne.2 (by omega)]; rfl]
  have hov : ovrN (handP P) f t = if lg then md else -1 := by
    unfold ovrN
    rw [lng_hand P f t hf, ← lngR_eq P f t hf ht hown hd, hlg, ← hmd]
  have hrel := csl_rel P f t hf (by rw [hown]; exact hd) cs hcs
  generalize hz : (P (2 * f) == 1 || decide (0 ≤ tk)) = z at hzz
  have hC : ∀ i, i < 128 → cntN (handP P) z i = P i := fun i hi => by rw [cnt_low _ _ _ (by omega), hand_at P i (by omega)]
  have hlow := low_eq P (cntN (handP P) z) f t k tk hf hC (htc.imp id fun ⟨n, h, _⟩ => ⟨n, h⟩)
  -- the pieces
  have hpl : ∀ i, i < 128 → rm3 (rm2 (rm1 P tk) f t k (P (2 * f)) (P (2 * f + 1))) f cs (P (2 * f + 1)) i = pcsN (handP P) f t k i := by
    unfold pcsN
    rw [hH, hzz]
    rcases hrel with ⟨rfl, h⟩ | ⟨rfl, rfl, rfl, h2, h⟩ | ⟨rfl, rfl, rfl, h2, h⟩ | ⟨rfl, rfl, rfl, h2, h⟩ | ⟨rfl, rfl, rfl, h2, h⟩
    · rw [h]; exact hlow
    all_goals
      rw [h]
      rw [h2] at hlow ⊢
      exact pt_low (pt_low hlow _ _ _) _ _ _
  have hph : ∀ i, 128 ≤ i → pcsN (handP P) f t k i = cntN (handP P) z i := fun i hi => by
    unfold pcsN
    rw [hH, hzz]
    rcases hrel with ⟨rfl, h⟩ | ⟨rfl, rfl, rfl, h2, h⟩ | ⟨rfl, rfl, rfl, h2, h⟩ | ⟨rfl, rfl, rfl, h2, h⟩ | ⟨rfl, rfl, rfl, h2, h⟩
    · rw [h]; exact putM_high _ f t k tk hf ht htc i hi
    all_goals
      rw [h]
      show ptN (ptN _ _ 0 0) _ 4 _ i = _
      rw [pt_high _ _ (by decide) _ _ _ hi, pt_high _ _ (by decide) _ _ _ hi]
      exact putM_high _ _ _ k tk hf ht htc i hi
  have hrh : ∀ i, 128 ≤ i → rm3 (rm2 (rm1 P tk) f t k (P (2 * f)) (P (2 * f + 1))) f cs (P (2 * f + 1)) i = P i := fun i hi => by
    rcases hrel with ⟨rfl, h⟩ | ⟨rfl, rfl, rfl, h2, h⟩ | ⟨rfl, rfl, rfl, h2, h⟩ | ⟨rfl, rfl, rfl, h2, h⟩ | ⟨rfl, rfl, rfl, h2, h⟩
    · exact rm2_high P f t k _ _ tk hf ht htc i hi
    all_goals
      rw [rm3_high _ _ _ _ _ hi (by omega)]
      exact rm2_high P _ _ k _ _ tk hf ht htc i hi
  have c1 : cntN (handP P) z 128 = P 128 := by rw [cnt_low _ _ _ (by omega), hand_at P _ (by omega)]
  have c2 : cntN (handP P) z 129 = cas0 (P 129) := by rw [cnt_low _ _ _ (by omega), hand_cas]
  unfold rmN cmN
  rw [hz, hov]
  generalize rm3 (rm2 (rm1 P tk) f t k (P (2 * f)) (P (2 * f + 1))) f cs (P (2 * f + 1)) = R at *
  generalize pcsN (handP P) f t k = S at *
  have e128 := hph 128 (by omega)
  have e129 := hph 129 (by omega)
  rw [c1] at e128
  rw [c2] at e129
  funext i
  by_cases hi : i < 128
  · rw [rm_low _ _ _ _ _ _ _ _ _ i hi, hpl i hi]
    unfold lstN
    rw [set_at, if_neg (by omega), set_at, if_neg (by omega), set_at, if_neg (by omega)]
  · unfold lstN
    rw [e128, e129]
    have ech := cas_eq (cas0 (P 129)) (cas0_range _).1 (cas0_range _).2 f t
    rw [hca] at ech
    rw [← ech]
    have hcnt : ∀ i, 130 ≤ i → cntN (handP P) z i = if i = 132 then (if P 128 == 1 then incN (P 132) 16384 else P 132) else if i = 131 then (if z then 0 else incN (P 131) 1024) else P i := fun i hi => by
      unfold cntN
      rw [hand_at P 128 (by omega), hand_at P 131 (by omega), hand_at P 132 (by omega)]
      by_cases h1 : i = 132
      · subst h1
        rw [if_pos rfl]
        split
        · rw [set_at, if_pos rfl]
        · rw [set_at, if_neg (by omega), hand_at P _ (by omega)]
      · rw [if_neg h1]
        by_cases h2 : i = 131
        · subst h2
          rw [if_pos rfl]
          split
          · rw [set_at, if_neg (by omega), set_at, if_pos rfl]
          · rw [set_at, if_pos rfl]
        · rw [if_neg h2]
          split
          · rw [set_at, if_neg h1, set_at, if_neg h2, hand_at P _ (by omega)]
          · rw [set_at, if_neg h2, hand_at P _ (by omega)]
    have hrm : rm7 (rm6 (rm5 (rm4 R (oth (P 128)) ca) lg md) (P 131) z) (P 128) (P 132) i = if i = 132 then (if P 128 == 1 then incN (P 132) 16384 else R 132) else if i = 131 then (if z then 0 else incN (P 131) 1024) else if i = 130 then (if lg then md else -1) else if i = 129 then ca else if i = 128 then oth (P 128) else R i := by
      unfold rm7 rm6 rm5 rm4
      rw [min_half, min_full]
      by_cases h1 : i = 132
      · subst h1; cases P 128 == 1 <;> cases z <;> cases lg <;> rfl
      · rw [if_neg h1]
        by_cases h2 : i = 131
        · subst h2; cases P 128 == 1 <;> cases z <;> cases lg <;> rfl
        · rw [if_neg h2]
          by_cases h3 : i = 130
          · subst h3; cases P 128 == 1 <;> cases z <;> cases lg <;> rfl
          · rw [if_neg h3]
            by_cases h4 : i = 129
            · subst h4; cases P 128 == 1 <;> cases z <;> cases lg <;> rfl
            · rw [if_neg h4]
              by_cases h5 : i = 128
              · subst h5; cases P 128 == 1 <;> cases z <;> cases lg <;> rfl
              · rw [if_neg h5]
                cases P 128 == 1 <;> cases z <;> cases lg <;> simp only [if_true, if_false, Bool.false_eq_true, set_at, h1, h2, h3, h4, h5]
    rw [hrm]
    simp only [set_at]
    by_cases h5 : i = 128
    · subst h5; rfl
    by_cases h3 : i = 130
    · subst h3; rfl
    by_cases h4 : i = 129
    · subst h4; rfl
    rw [if_neg h5, if_neg h3, if_neg h4, if_neg h3, if_neg h4, if_neg h5, hph i (by omega), hcnt i (by omega), hrh i (by omega), hrh 132 (by omega)]
end Go.Proofs.YtcdnakbdajbfoaaGreatDoor
