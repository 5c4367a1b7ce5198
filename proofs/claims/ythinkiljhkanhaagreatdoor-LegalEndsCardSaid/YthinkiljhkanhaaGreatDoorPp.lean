/-
  Contracts: the position behind a move, by the document.
-/
import Derived.Test.YthinkiljhkanhaaGreatDoorG22
import Derived.Test.YthinkiljhkanhaaGreatDoorG9
import Derived.Deep.CutRange
import Derived.Deep.CutBlock
namespace Go.Proofs.YthinkiljhkanhaaGreatDoor
open Go.RowKit Go.Sort
set_option linter.unusedSimpArgs false
set_option linter.unusedVariables false
set_option maxRecDepth 20000

/-- what stands in the document's Move -/
structure MR (w W : World) (P : Nat → Int) (f t k kk dd : Int) (bx bq : Nat) (Q : Nat → Int) : Prop where
  p : PB W w.heap.size P
  m : W.heap[w.heap.size + 1]? = some (.cells #[.int .i64 f, .int .i64 t, .int .i64 k] 41 (0, 0))
  z : PB W (w.heap.size + 2) (fun _ => 0)
  x : W.heap[bx]? = some (.cells #[.int .i64 kk, .int .i64 dd] 25 (0, 0))
  q : PB W bq Q
  b : Below w.heap.size w W
  lx : w.heap.size + 3 ≤ bx
  lq : bx < bq
theorem MR.go {w W W' : World} {P : Nat → Int} {f t k kk dd : Int} {bx bq : Nat} {Q : Nat → Int} (h : MR w W P f t k kk dd bx bq Q) (g : Below W.heap.size W W') : MR w W' P f t k kk dd bx bq Q :=
  ⟨h.p.go g, sl_go h.m g, h.z.go g, sl_go h.x g, h.q.go g, h.b.trans (g.mono h.b.size), h.lx, h.lq⟩
theorem MR.set {w W : World} {P : Nat → Int} {f t k kk dd : Int} {bx bq : Nat} {Q : Nat → Int} (h : MR w W P f t k kk dd bx bq Q) (i : Nat) (v : Int) (hi : i < 133) : MR w (W.setCell ⟨bq, i, none⟩ (.int .i64 v)) P f t k kk dd bx bq (setN Q i v) := by
  have h1 := h.lx
  have h2 := h.lq
  exact ⟨h.p.other (by omega) _ _, (Go.heap_setCell_other _ _ _ _ (by simp; omega)).trans h.m, h.z.other (by omega) _ _, (Go.heap_setCell_other _ _ _ _ (by simp; omega)).trans h.x, h.q.set i v hi, h.b.setCell (p := ⟨bq, i, none⟩) (by simp; omega) _, h1, h2⟩
theorem MR.pt {w W : World} {P : Nat → Int} {f t k kk dd : Int} {bx bq : Nat} {Q : Nat → Int} (h : MR w W P f t k kk dd bx bq Q) (m : Nat) (a c : Int) (hm : m < 64) :
    MR w ((W.setCell ⟨bq, m * 2, none⟩ (.int .i64 a)).setCell ⟨bq, m * 2 + 1, none⟩ (.int .i64 c)) P f t k kk dd bx bq (ptN Q m a c) := by
  have := (h.set (m * 2) a (by omega)).set (m * 2 + 1) c (by omega)
  unfold ptN
  rwa [Nat.mul_comm 2 m]
theorem MR.stored {w W : World} {P : Nat → Int} {f t k kk dd : Int} {bx bq : Nat} {Q : Nat → Int} (h : MR w W P f t k kk dd bx bq Q) (R : Nat → Int) : (W.setCells (w.heap.size + 2) 0 (pc R)).rangeAt (w.heap.size + 2) 0 (pc R) ∧ Below w.heap.size w (W.setCells (w.heap.size + 2) 0 (pc R)) :=
  ⟨(h.z.store (Q := R)).range, below_store (b := w.heap.size + 2) R h.b (by omega) h.b.size⟩
/-- the pieces behind a move, by the document -/
def rm1 (P : Nat → Int) (tk : Int) : Nat → Int := if decide (0 ≤ tk) then ptN P tk.toNat 0 0 else P
def rm2 (R : Nat → Int) (f t : Nat) (k kk dd : Int) : Nat → Int := if k == 0 then ptN (ptN R f 0 0) t kk dd else setN (ptN (ptN R f 0 0) t kk dd) (t * 2) k
def rm3 (R : Nat → Int) (f : Nat) (cs dd : Int) : Nat → Int := if cs == 1 then ptN (ptN R (f + 3) 0 0) (f + 1) 4 dd else if cs == -1 then ptN (ptN R (f - 4) 0 0) (f - 1) 4 dd else R
/-- .. and the rest -/
def rm4 (R : Nat → Int) (od ca : Int) : Nat → Int := setN (setN (setN R 128 od) 129 ca) 130 (-1)
def rm5 (R : Nat → Int) (lg : Bool) (md : Int) : Nat → Int := if lg then setN R 130 md else R
def rm6 (R : Nat → Int) (h : Int) (z : Bool) : Nat → Int := if z then setN (setN R 131 (wrap64 ((if 1023 < h then 1023 else h) + 1))) 131 0 else setN R 131 (wrap64 ((if 1023 < h then 1023 else h) + 1))
def rm7 (R : Nat → Int) (sd fu : Int) : Nat → Int := if sd == 1 then setN R 132 (wrap64 ((if 16383 < fu then 16383 else fu) + 1)) else R
def rmN (P : Nat → Int) (f t : Nat) (k kk dd tk cs od ca : Int) (lg : Bool) (md : Int) : Nat → Int :=
  rm7 (rm6 (rm5 (rm4 (rm3 (rm2 (rm1 P tk) f t k kk dd) f cs dd) od ca) lg md) (P 131) (kk == 1 || decide (0 ≤ tk))) (P 128) (P 132)
theorem cslV_cases (c kk d F T : Int) : (cslV c kk d F T = 0 ∨ cslV c kk d F T = 1 ∨ cslV c kk d F T = -1) ∧ (cslV c kk d F T ≠ 0 → F = 4 ∨ F = 60) := by
  unfold cslV
  by_cases hd : d = 1
  · simp only [hd, beq_self_eq_true, if_true]
    by_cases hh : (kk == 6 && F == 60) = true
    · rw [if_pos hh]
      simp only [Bool.and_eq_true, beq_iff_eq] at hh
      refine ⟨?_, fun _ => .inr hh.2⟩
      split
      · exact .inr (.inl rfl)
      · split
        · exact .inr (.inr rfl)
        · exact .inl rfl
    · rw [if_neg hh]; exact ⟨.inl rfl, fun h => absurd rfl h⟩
  · rw [show (d == 1) = false from beq_eq_false_iff_ne.2 hd, if_neg (by decide)]
    by_cases hh : (kk == 6 && F == 4) = true
    · rw [if_pos hh]
      simp only [Bool.and_eq_true, beq_iff_eq] at hh
      refine ⟨?_, fun _ => .inl hh.2⟩
      split
      · exact .inr (.inl rfl)
      · split
        · exact .inr (.inr rfl)
        · exact .inl rfl
    · rw [if_neg hh]; exact ⟨.inl rfl, fun h => absurd rfl h⟩
theorem lost_range (s : Int) : 0 ≤ lostN s ∧ lostN s ≤ 15 := by
  rcases lost_cases s with ⟨_, h⟩ | ⟨_, h⟩ | ⟨_, h⟩ | ⟨_, h⟩ | ⟨_, h⟩ | ⟨_, h⟩ | ⟨_, _, _, _, _, _, h⟩ <;> rw [h] <;> omega
set_option maxHeartbeats 8000000 in
set_option maxRecDepth 100000 in
theorem rMove_go (P : Nat → Int) (F T k tk : Int) (hF : 0 ≤ F ∧ F < 64) (hT : 0 ≤ T ∧ T < 64) (hne : ¬ F = T) (w : World)
    (hcan : ∀ W, Calls Tryz.prog 73 #[.agg (pc P).toArray, .agg #[.int .i64 F, .int .i64 T, .int .i64 k]] W fun e w' => e = .returned (.bool true) ∧ Below W.heap.size W w')
    (htk : tkP P F T k = tk) (htk2 : tk = -1 ∨ (0 ≤ tk ∧ tk < 64)) (hd : P (F.toNat * 2 + 1) = 0 ∨ P (F.toNat * 2 + 1) = 1) 
    (cs : Int) (hcs : cslV (cas0 (P 129)) (P (F.toNat * 2)) (P (F.toNat * 2 + 1)) F T = cs) (ca : Int) (hca : wtS (wtS (cas0 (P 129)) (lostN F) 4) (lostN T) 4 = ca) (lg : Bool) (hlg : lngR (P (F.toNat * 2)) (P (F.toNat * 2 + 1)) F.toNat T.toNat = lg) (md : Int) (hmd : (F + T) / 2 = md) :
    Calls Tryz.prog 46 #[.agg (pc P).toArray, .agg #[.int .i64 F, .int .i64 T, .int .i64 k]] w fun e w' => e = .returned (.tuple #[.agg (pc (rmN P F.toNat T.toNat k (P (F.toNat * 2)) (P (F.toNat * 2 + 1)) tk cs (oth (P 128)) ca lg md)).toArray, .int .i64 0]) ∧ Below w.heap.size w w' := by
  obtain ⟨X, hX⟩ : ∃ X, X = (pc P).toArray := ⟨_, rfl⟩
  have HMA := Lib.hid (MA.begin w P F T k X hX)
  have MT := Lib.hid (fun W => rTakes_any P F T k W)
  have MCS := Lib.hid (fun W => rCsl_any P F T k hF hd W)
  have MLG := Lib.hid (show ∀ W, Calls Tryz.prog 79 #[.agg #[.int .i64 (P (F.toNat * 2)), .int .i64 (P (F.toNat * 2 + 1))], .agg #[.int .i64 F, .int .i64 T, .int .i64 k]] W fun e w' => e = .returned (.bool (lngR (P (F.toNat * 2)) (P (F.toNat * 2 + 1)) F.toNat T.toNat)) ∧ Below W.heap.size W w' from fun W => by
    have := rLong_any (P (F.toNat * 2)) (P (F.toNat * 2 + 1)) F.toNat T.toNat k (by omega) (by omega) hd W
    rwa [show ((F.toNat : Nat) : Int) = F by omega, show ((T.toNat : Nat) : Int) = T by omega] at this)
  have MCA := Lib.hid (fun W => rCas_any P W)
  have MO := Lib.hid (fun W => rOther_any (P 128) W)
  have hcr := cas0_range (P 129)
  have hlf := lost_range F
  have hlt := lost_range T
  have hw1 := wtS_bound (cas0 (P 129)) (lostN F) 4 (by omega)
  have ML1 := Lib.hid (fun W => rLost_any F W)
  have ML2 := Lib.hid (fun W => rLost_any T W)
  have MW1 := Lib.hid (fun W => rWithout_any (cas0 (P 129)) (lostN F) hcr hlf W)
  have MW2 := Lib.hid (fun W => rWithout_any (wtS (cas0 (P 129)) (lostN F) 4) (lostN T) hw1 hlt W)
  have hcc := cslV_cases (cas0 (P 129)) (P (F.toNat * 2)) (P (F.toNat * 2 + 1)) F T
  rw [hcs] at MCS hcc
  rw [hlg] at MLG
  rw [hca] at MW2
  have hvv : rmN P F.toNat T.toNat k (P (F.toNat * 2)) (P (F.toNat * 2 + 1)) tk cs (oth (P 128)) ca lg md = rm7 (rm6 (rm5 (rm4 (rm3 (rm2 (rm1 P tk) F.toNat T.toNat k (P (F.toNat * 2)) (P (F.toNat * 2 + 1))) F.toNat cs (P (F.toNat * 2 + 1))) (oth (P 128)) ca) lg md) (P 131) (P (F.toNat * 2) == 1 || decide (0 ≤ tk))) (P 128) (P 132) := rfl
  obtain ⟨RR, hRR⟩ : ∃ R, rmN P F.toNat T.toNat k (P (F.toNat * 2)) (P (F.toNat * 2 + 1)) tk cs (oth (P 128)) ca lg md = R := ⟨_, rfl⟩
  rw [hRR] at hvv
  rw [hRR]
  obtain ⟨Z, hZ⟩ : ∃ Z, Z = (pc RR).toArray := ⟨_, rfl⟩
  rw [← hZ]
  clear hRR hcs hca hlg hcr hlf hlt hw1
  have HCC := Lib.hid hcc
  clear hcc
  have MCN := Lib.hid hcan
  rw [htk] at MT
  rw [← hX] at MT MCS MCN MCA ⊢
  have M1 := Lib.hid (fun W => rIs8_any F W)
  have M2 := Lib.hid (fun W => rIs8_any T W)
  rw [(sq_iff F).2 hF] at M1
  rw [(sq_iff T).2 hT] at M2
  have f0 := hF.1
  have f1 := hF.2
  have t0 := hT.1
  have t1 := hT.2
  have hne2 : (F == T) = false := beq_eq_false_iff_ne.2 hne
  have HX := Lib.hid hX
  have HP8 := Lib.hid (show ∀ W, PB W w.heap.size P → W.cell? ⟨w.heap.size, 128, none⟩ = some (.int .i64 (P 128)) ∧ W.cell? ⟨w.heap.size, 131, none⟩ = some (.int .i64 (P 131)) ∧ W.cell? ⟨w.heap.size, 132, none⟩ = some (.int .i64 (P 132)) from fun W h => ⟨h.cell _ (by omega), h.cell _ (by omega), h.cell _ (by omega)⟩)
  have HP := Lib.hid (show ∀ W, PB W w.heap.size P → W.cell? ⟨w.heap.size, F.toNat * 2, none⟩ = some (.int .i64 (P (F.toNat * 2))) ∧ W.cell? ⟨w.heap.size, F.toNat * 2 + 1, none⟩ = some (.int .i64 (P (F.toNat * 2 + 1))) from fun W h => ⟨h.cell _ (by omega), h.cell _ (by omega)⟩)
  generalize P (F.toNat * 2) = kk at *
  generalize P (F.toNat * 2 + 1) = dd at *
  generalize P 128 = sd at *
  generalize P 131 = ha at *
  generalize P 132 = fu at *
  generalize oth sd = od at *
  have HVV := Lib.hid hvv
  have HZ := Lib.hid hZ
  generalize cas0 (P 129) = c0 at *
  generalize lostN F = lf at *
  generalize lostN T = lt at *
  generalize wtS c0 lf 4 = c1 at *
  clear hX hcan htk hvv hZ
  go_enter Tryz.func46, Tryz.ntmps46
  go_upto_region 1 with (fail)
  refine forget_B (fun W => MA w W P F T k) HMA.out ?_
  clear HMA
  intro W hi
  have HI := Lib.hid hi
  clear hi
  obtain ⟨q0, q1, q2, qf, qz⟩ := row3 HI.out.m
  go_wp2_with fail
  refine (M1.out _).mono ?_
  rintro e w1 ⟨rfl, rfl⟩
  go_wp2_with fail
  refine (M2.out _).mono ?_
  rintro e w1 ⟨rfl, rfl⟩
  go_wp2_with (refine wpList_pos (by rfl) _ (by rfl) w.heap.size P X HX.out (by rfl) HI.out.p ?_)
  refine (MCN.out _).mono ?_
  rintro e w1 ⟨rfl, hb1⟩
  replace HI := Lib.hid (HI.out.go hb1)
  clear q0 q1 q2 qf qz hb1 hne hne2 M1 M2 MCN
  obtain ⟨q0, q1, q2, qf, qz⟩ := row3 HI.out.m
  obtain ⟨e1, e2⟩ := HP.out _ HI.out.p
  go_upto_region 6 with (fail)
  refine forget_B (fun W => MA w W P F T k ∧ W.heap[w1.heap.size]? = some (.cells #[.int .i64 kk, .int .i64 dd] 25 (0, 0)) ∧ w.heap.size + 3 ≤ w1.heap.size ∧ w1.heap.size < W.heap.size) ⟨HI.out.go (below_new _), sl_at rfl, HI.out.s, by simp⟩ ?_
  clear HI q0 q1 q2 qf qz e1 e2
  generalize w1.heap.size = bx
  rintro W2 ⟨h1, h2, h3, h4⟩
  have HI := Lib.hid h1
  have HBX := Lib.hid h2
  have HL := Lib.hid (And.intro h3 h4)
  clear h1 h2 h3 h4
  go_wp2_with (first | refine wpList_new X P HX.out (by rfl) (by rfl) ?_ | refine wpList_pos (by rfl) _ (by rfl) w.heap.size P X HX.out (by rfl) HI.out.p ?_)
  intro W3 hq hb hz
  have HR := Lib.hid (show MR w W3 P F T k kk dd bx W2.heap.size P from ⟨HI.out.p.go hb, sl_go HI.out.m hb, HI.out.z.go hb, sl_go HBX.out hb, hq, HI.out.b.trans (hb.mono HI.out.b.size), HL.out.1, HL.out.2⟩)
  generalize W2.heap.size = bq at *
  clear hq hb hz HI HBX HL
  obtain ⟨q0, q1, q2, qf, qz⟩ := row3 HR.out.m
  go_wp2_with (refine wpList_pos (by rfl) _ (by rfl) w.heap.size P X HX.out (by rfl) HR.out.p ?_)
  refine (MT.out _).mono ?_
  rintro e w4 ⟨rfl, hb1⟩
  replace HR := Lib.hid (HR.out.go hb1)
  clear q0 q1 q2 qf qz hb1 MT
  go_upto_if 42 with (fail)
  go_cut [] from 43 to 46 (fun wx => MR w wx P F T k kk dd bx bq (rm1 P tk))
  case first =>
    rcases htk2 with rfl | ⟨k0, k1⟩
    · go_wp2_with fail
      go_meet
      exact HR.out
    · have e1 := HR.out.q.cell (tk.toNat * 2) (by omega)
      have e2 := HR.out.q.cell (tk.toNat * 2 + 1) (by omega)
      have e3 := HR.out.q.fr (tk.toNat * 2)
      have e4 := HR.out.q.fr (tk.toNat * 2 + 1)
      have HN := Lib.hid (show MR w ((w4.setCell ⟨bq, tk.toNat * 2, none⟩ (.int .i64 0)).setCell ⟨bq, tk.toNat * 2 + 1, none⟩ (.int .i64 0)) P F T k kk dd bx bq (rm1 P tk) by unfold rm1; rw [decide_eq_true k0, if_pos rfl]; exact HR.out.pt tk.toNat 0 0 (by omega))
      go_wp2_with fail
      go_meet
      exact HN.out
  case rest =>
  have HR := Lib.hid hcut
  clear hcut
  generalize rm1 P tk = Q1 at *
  obtain ⟨q0, q1, q2, qf, qz⟩ := row3 HR.out.m
  have e1 := HR.out.q.cell (F.toNat * 2) (by omega)
  have e2 := HR.out.q.cell (F.toNat * 2 + 1) (by omega)
  have e3 := HR.out.q.fr (F.toNat * 2)
  have e4 := HR.out.q.fr (F.toNat * 2 + 1)
  go_upto_region 11 with (fail)
  refine forget_B (fun W => MR w W P F T k kk dd bx bq (ptN Q1 F.toNat 0 0)) (HR.out.pt F.toNat 0 0 (by omega)) ?_
  clear e1 e2 e3 e4 q0 q1 q2 qf qz HR
  intro W5 hi
  have HR := Lib.hid hi
  clear hi
  obtain ⟨q0, q1, q2, qf, qz⟩ := row3 HR.out.m
  obtain ⟨x1, x2, xf, xz⟩ := row2 HR.out.x
  have e1 := HR.out.q.cell (T.toNat * 2) (by omega)
  have e2 := HR.out.q.cell (T.toNat * 2 + 1) (by omega)
  have e3 := HR.out.q.fr (T.toNat * 2)
  have e4 := HR.out.q.fr (T.toNat * 2 + 1)
  go_upto_region 12 with (fail)
  refine forget_B (fun W => MR w W P F T k kk dd bx bq (ptN (ptN Q1 F.toNat 0 0) T.toNat kk dd)) (HR.out.pt T.toNat kk dd (by omega)) ?_
  clear e1 e2 e3 e4 q0 q1 q2 qf qz x1 x2 xf xz HR
  intro W6 hi
  have HR := Lib.hid hi
  clear hi
  obtain ⟨q0, q1, q2, qf, qz⟩ := row3 HR.out.m
  go_upto_if 59 with (fail)
  go_cut [] from 60 to 66 (fun wx => MR w wx P F T k kk dd bx bq (rm2 Q1 F.toNat T.toNat k kk dd))
  case first =>
    by_cases hk : k = 0
    · have hk2 : (k != 0) = false := by simp [hk]
      have HN := Lib.hid (show MR w W6 P F T k kk dd bx bq (rm2 Q1 F.toNat T.toNat k kk dd) by unfold rm2; rw [show (k == 0) = true by simp [hk], if_pos rfl]; exact HR.out)
      go_wp2_with fail
      go_meet
      exact HN.out
    · have hk2 : (k != 0) = true := by simp [hk]
      have e1 := HR.out.q.cell (T.toNat * 2) (by omega)
      have e3 := HR.out.q.fr (T.toNat * 2)
      have HN := Lib.hid (show MR w (W6.setCell ⟨bq, T.toNat * 2, none⟩ (.int .i64 k)) P F T k kk dd bx bq (rm2 Q1 F.toNat T.toNat k kk dd) by unfold rm2; rw [show (k == 0) = false by simp [hk], if_neg (by decide)]; exact HR.out.set (T.toNat * 2) k (by omega))
      go_wp2_with fail
      go_meet
      exact HN.out
  case rest =>
  have HR := Lib.hid hcut
  clear hcut
  generalize rm2 Q1 F.toNat T.toNat k kk dd = Q2 at *
  clear q0 q1 q2 qf qz
  obtain ⟨q0, q1, q2, qf, qz⟩ := row3 HR.out.m
  go_wp2_with (refine wpList_pos (by rfl) _ (by rfl) w.heap.size P X HX.out (by rfl) HR.out.p ?_)
  refine (MCS.out _).mono ?_
  rintro e w7 ⟨rfl, hb1⟩
  replace HR := Lib.hid (HR.out.go hb1)
  clear q0 q1 q2 qf qz hb1 MCS
  obtain ⟨q0, q1, q2, qf, qz⟩ := row3 HR.out.m
  obtain ⟨x1, x2, xf, xz⟩ := row2 HR.out.x
  go_upto_block 0 with (fail)
  go_cut [] from 70 to 101 (fun wx => MR w wx P F T k kk dd bx bq (rm3 Q2 F.toNat cs dd))
  case first =>
    rcases HCC.out.1 with h0 | h0 | h0
    · subst h0
      have HN := Lib.hid (show MR w w7 P F T k kk dd bx bq (rm3 Q2 F.toNat 0 dd) from HR.out)
      go_wp2_with fail
      go_meet
      exact HN.out
    · subst h0
      rcases HCC.out.2 (by decide) with rfl | rfl
      · have e1 := HR.out.q.cell 14 (by omega)
        have e2 := HR.out.q.cell 15 (by omega)
        have e3 := HR.out.q.fr 14
        have e4 := HR.out.q.fr 15
        go_upto_region 17 with (fail)
        refine forget_B (fun W => MR w W P 4 T k kk dd bx bq (ptN Q2 7 0 0)) (HR.out.pt 7 0 0 (by omega)) ?_
        clear e1 e2 e3 e4 q0 q1 q2 qf qz x1 x2 xf xz HR
        intro W8 hi
        have HR := Lib.hid hi
        clear hi
        obtain ⟨q0, q1, q2, qf, qz⟩ := row3 HR.out.m
        obtain ⟨x1, x2, xf, xz⟩ := row2 HR.out.x
        have e1 := HR.out.q.cell 10 (by omega)
        have e2 := HR.out.q.cell 11 (by omega)
        have e3 := HR.out.q.fr 10
        have e4 := HR.out.q.fr 11
        have HN := Lib.hid (show MR w ((W8.setCell ⟨bq, 10, none⟩ (.int .i64 4)).setCell ⟨bq, 11, none⟩ (.int .i64 dd)) P 4 T k kk dd bx bq (rm3 Q2 (4 : Int).toNat (1) dd) from HR.out.pt 5 4 dd (by omega))
        go_wp2_with fail
        go_meet
        exact HN.out
      · have e1 := HR.out.q.cell 126 (by omega)
        have e2 := HR.out.q.cell 127 (by omega)
        have e3 := HR.out.q.fr 126
        have e4 := HR.out.q.fr 127
        go_upto_region 17 with (fail)
        refine forget_B (fun W => MR w W P 60 T k kk dd bx bq (ptN Q2 63 0 0)) (HR.out.pt 63 0 0 (by omega)) ?_
        clear e1 e2 e3 e4 q0 q1 q2 qf qz x1 x2 xf xz HR
        intro W8 hi
        have HR := Lib.hid hi
        clear hi
        obtain ⟨q0, q1, q2, qf, qz⟩ := row3 HR.out.m
        obtain ⟨x1, x2, xf, xz⟩ := row2 HR.out.x
        have e1 := HR.out.q.cell 122 (by omega)
        have e2 := HR.out.q.cell 123 (by omega)
        have e3 := HR.out.q.fr 122
        have e4 := HR.out.q.fr 123
        have HN := Lib.hid (show MR w ((W8.setCell ⟨bq, 122, none⟩ (.int .i64 4)).setCell ⟨bq, 123, none⟩ (.int .i64 dd)) P 60 T k kk dd bx bq (rm3 Q2 (60 : Int).toNat (1) dd) from HR.out.pt 61 4 dd (by omega))
        go_wp2_with fail
        go_meet
        exact HN.out
    · subst h0
      rcases HCC.out.2 (by decide) with rfl | rfl
      · have e1 := HR.out.q.cell 0 (by omega)
        have e2 := HR.out.q.cell 1 (by omega)
        have e3 := HR.out.q.fr 0
        have e4 := HR.out.q.fr 1
        go_upto_region 20 with (fail)
        refine forget_B (fun W => MR w W P 4 T k kk dd bx bq (ptN Q2 0 0 0)) (HR.out.pt 0 0 0 (by omega)) ?_
        clear e1 e2 e3 e4 q0 q1 q2 qf qz x1 x2 xf xz HR
        intro W8 hi
        have HR := Lib.hid hi
        clear hi
        obtain ⟨q0, q1, q2, qf, qz⟩ := row3 HR.out.m
        obtain ⟨x1, x2, xf, xz⟩ := row2 HR.out.x
        have e1 := HR.out.q.cell 6 (by omega)
        have e2 := HR.out.q.cell 7 (by omega)
        have e3 := HR.out.q.fr 6
        have e4 := HR.out.q.fr 7
        have HN := Lib.hid (show MR w ((W8.setCell ⟨bq, 6, none⟩ (.int .i64 4)).setCell ⟨bq, 7, none⟩ (.int .i64 dd)) P 4 T k kk dd bx bq (rm3 Q2 (4 : Int).toNat (-1) dd) from HR.out.pt 3 4 dd (by omega))
        go_wp2_with fail
        go_meet
        exact HN.out
      · have e1 := HR.out.q.cell 112 (by omega)
        have e2 := HR.out.q.cell 113 (by omega)
        have e3 := HR.out.q.fr 112
        have e4 := HR.out.q.fr 113
        go_upto_region 20 with (fail)
        refine forget_B (fun W => MR w W P 60 T k kk dd bx bq (ptN Q2 56 0 0)) (HR.out.pt 56 0 0 (by omega)) ?_
        clear e1 e2 e3 e4 q0 q1 q2 qf qz x1 x2 xf xz HR
        intro W8 hi
        have HR := Lib.hid hi
        clear hi
        obtain ⟨q0, q1, q2, qf, qz⟩ := row3 HR.out.m
        obtain ⟨x1, x2, xf, xz⟩ := row2 HR.out.x
        have e1 := HR.out.q.cell 118 (by omega)
        have e2 := HR.out.q.cell 119 (by omega)
        have e3 := HR.out.q.fr 118
        have e4 := HR.out.q.fr 119
        have HN := Lib.hid (show MR w ((W8.setCell ⟨bq, 118, none⟩ (.int .i64 4)).setCell ⟨bq, 119, none⟩ (.int .i64 dd)) P 60 T k kk dd bx bq (rm3 Q2 (60 : Int).toNat (-1) dd) from HR.out.pt 59 4 dd (by omega))
        go_wp2_with fail
        go_meet
        exact HN.out
  case rest =>
  have HR := Lib.hid hcut
  clear hcut
  generalize rm3 Q2 F.toNat cs dd = Q3 at *
  clear q0 q1 q2 qf qz x1 x2 xf xz
  obtain ⟨e1, e2, e3⟩ := HP8.out _ HR.out.p
  have e4 := HR.out.q.cell 128 (by omega)
  have e5 := HR.out.q.fr 128
  go_wp2_with fail
  refine (MO.out _).mono ?_
  rintro e w9 ⟨rfl, rfl⟩
  go_upto_region 22 with (fail)
  refine forget_B (fun W => MR w W P F T k kk dd bx bq (setN Q3 128 od)) (HR.out.set 128 od (by omega)) ?_
  clear e1 e2 e3 e4 e5 HR
  intro W10 hi
  have HR := Lib.hid hi
  clear hi
  obtain ⟨q0, q1, q2, qf, qz⟩ := row3 HR.out.m
  replace q0 := cell_regrown q0
  replace q1 := cell_regrown q1
  have k1 := regrown_call (w := W10) MCA.out
  have k2 := regrown_same (w := W10) ML1.out
  have k3 := regrown_same (w := W10) MW1.out
  have k4 := regrown_same (w := W10) ML2.out
  have k5 := regrown_same (w := W10) MW2.out
  have hcp : ∀ W, (∃ p : Regrown, W = grow (redrawn W10 p.d) p.os) → PB W w.heap.size P := HR.out.p.regrown
  have HCP := Lib.hid hcp
  clear hcp q2 qf qz
  refine wp_region_quiet_store 11 (by kernel_rfl) rfl rfl (by kernel_rfl) (by kernel_rfl) (C := fun W' => ∃ p : Regrown, W' = grow (redrawn W10 p.d) p.os) (regrown_self _) ?_
  simp only [List.take_succ_cons, List.take_zero]
  refine wpQuiet_pos (by rfl) _ (by rfl) w.heap.size P X HX.out (by rfl) HCP.out ?_
  try simp only [Act.put, List.setIfInBounds_toArray, List.set_cons_zero, List.set_cons_succ]
  go_big_quiet_step (exact k1 _ _)
  repeat (quiet_step (fail))
  go_big_quiet_step (exact k2 _ _)
  repeat (quiet_step (fail))
  go_big_quiet_step (exact k3 _ _)
  repeat (quiet_step (fail))
  go_big_quiet_step (exact k4 _ _)
  repeat (quiet_step (fail))
  go_big_quiet_step (exact k5 _ _)
  repeat (quiet_step (fail))
  refine wpQuiet_nil ?_
  rintro W11 ⟨q, rfl⟩
  refine ⟨by rfl, ?_⟩
  replace HR := Lib.hid (HR.out.go (below_regrown W10 q.d q.os))
  clear q0 q1 k1 k2 k3 k4 k5 HCP
  generalize grow (redrawn W10 q.d) q.os = W11 at HR ⊢
  have e1 := HR.out.q.cell 129 (by omega)
  have e3 := HR.out.q.fr 129
  go_simp
  clear e1 e3
  replace HR := Lib.hid (HR.out.set 129 ca (by omega))
  generalize W11.setCell ⟨bq, 129, none⟩ (.int .i64 ca) = W12 at HR ⊢
  have e1 := HR.out.q.cell 130 (by omega)
  have e3 := HR.out.q.fr 130
  go_upto_region 24 with (fail)
  refine forget_B (fun W => MR w W P F T k kk dd bx bq (rm4 Q3 od ca)) (HR.out.set 130 (-1) (by omega)) ?_
  clear e1 e3 HR
  intro W13 hi
  have HR := Lib.hid hi
  clear hi
  generalize rm4 Q3 od ca = Q4 at *
  obtain ⟨q0, q1, q2, qf, qz⟩ := row3 HR.out.m
  obtain ⟨x1, x2, xf, xz⟩ := row2 HR.out.x
  go_wp2_with fail
  refine (MLG.out _).mono ?_
  rintro e w14 ⟨rfl, hb1⟩
  replace HR := Lib.hid (HR.out.go hb1)
  clear q0 q1 q2 qf qz x1 x2 xf xz hb1
  obtain ⟨q0, q1, q2, qf, qz⟩ := row3 HR.out.m
  go_upto_if 120 with (fail)
  go_cut [] from 121 to 127 (fun wx => MR w wx P F T k kk dd bx bq (rm5 Q4 lg md))
  case first =>
    cases lg
    · have HN := Lib.hid (show MR w w14 P F T k kk dd bx bq (rm5 Q4 false md) from HR.out)
      go_wp2_with fail
      go_meet
      exact HN.out
    · have e1 := HR.out.q.cell 130 (by omega)
      have e3 := HR.out.q.fr 130
      have y1 : wrap64 (F + T) = F + T := by unfold wrap64; omega
      have y2 : (F + T).tdiv 2 = md := by rw [Int.tdiv_eq_ediv_of_nonneg (by omega)]; exact hmd
      have y3 : wrap64 md = md := by unfold wrap64; omega
      have HN := Lib.hid (show MR w (w14.setCell ⟨bq, 130, none⟩ (.int .i64 md)) P F T k kk dd bx bq (rm5 Q4 true md) from HR.out.set 130 md (by omega))
      go_wp2_with fail
      go_meet
      exact HN.out
  case rest =>
  have HR := Lib.hid hcut
  clear hcut
  generalize rm5 Q4 lg md = Q5 at *
  clear q0 q1 q2 qf qz
  obtain ⟨e1, e2, e3⟩ := HP8.out _ HR.out.p
  have e4 := HR.out.q.cell 131 (by omega)
  have e5 := HR.out.q.fr 131
  go_upto_region 27 with (fail)
  try rw [show min ha (1023 : Int) = (if 1023 < ha then 1023 else ha) from by split <;> omega]
  refine forget_B (fun W => MR w W P F T k kk dd bx bq (setN Q5 131 (wrap64 ((if 1023 < ha then 1023 else ha) + 1)))) (HR.out.set 131 _ (by omega)) ?_
  clear e1 e2 e3 e4 e5 HR
  intro W15 hi
  have HR := Lib.hid hi
  clear hi
  obtain ⟨mn, hmn⟩ : ∃ m, (if 1023 < ha then (1023 : Int) else ha) = m := ⟨_, rfl⟩
  have HRM := Lib.hid (show ∀ z, rm6 Q5 ha z = if z then setN (setN Q5 131 (wrap64 (mn + 1))) 131 0 else setN Q5 131 (wrap64 (mn + 1)) from fun z => by rw [← hmn]; rfl)
  rw [hmn] at HR ⊢
  clear hmn
  obtain ⟨x1, x2, xf, xz⟩ := row2 HR.out.x
  go_cut [139] from 133 to 139 (fun v wx => v = .bool (kk == 1 || decide (0 ≤ tk)) ∧ MR w wx P F T k kk dd bx bq (setN Q5 131 (wrap64 (mn + 1))))
  case first =>
    by_cases hk : kk = 1
    · subst hk
      go_wp2_with fail
      go_meet
      exact ⟨rfl, HR.out⟩
    · have hk2 : (kk == 1) = false := by simp [hk]
      go_wp2_with fail
      go_meet
      exact ⟨by rw [hk2]; rfl, HR.out⟩
  case rest =>
  obtain ⟨rfl, hr⟩ := hcut
  have HR := Lib.hid hr
  clear hr x1 x2 xf xz
  generalize (kk == 1 || decide (0 ≤ tk)) = zz at *
  go_upto_if 139 with (fail)
  go_cut [] from 140 to 140 (fun wx => MR w wx P F T k kk dd bx bq (rm6 Q5 ha zz))
  case first =>
    cases zz
    · have HN := Lib.hid (show MR w wc P F T k kk dd bx bq (rm6 Q5 ha false) by rw [HRM.out]; exact HR.out)
      go_wp2_with fail
      go_meet
      exact HN.out
    · have e1 := HR.out.q.cell 131 (by omega)
      have e3 := HR.out.q.fr 131
      have HN := Lib.hid (show MR w (wc.setCell ⟨bq, 131, none⟩ (.int .i64 0)) P F T k kk dd bx bq (rm6 Q5 ha true) by rw [HRM.out]; exact HR.out.set 131 0 (by omega))
      go_wp2_with fail
      go_meet
      exact HN.out
  case rest =>
  have HR := Lib.hid hcut
  clear hcut
  generalize rm6 Q5 ha zz = Q6 at *
  obtain ⟨e1, e2, e3⟩ := HP8.out _ HR.out.p
  go_upto_if 143 with (fail)
  go_cut [] from 144 to 148 (fun wx => MR w wx P F T k kk dd bx bq (rm7 Q6 sd fu))
  case first =>
    by_cases hs : sd = 1
    · subst hs
      have e4 := HR.out.q.cell 132 (by omega)
      have e5 := HR.out.q.fr 132
      have HRS := Lib.hid (show ∀ m, (if 16383 < fu then (16383 : Int) else fu) = m → rm7 Q6 1 fu = setN Q6 132 (wrap64 (m + 1)) from fun m h => by rw [← h]; rfl)
      by_cases hfu : 16383 < fu
      · have HN := Lib.hid (show MR w (wc.setCell ⟨bq, 132, none⟩ (.int .i64 16384)) P F T k kk dd bx bq (rm7 Q6 1 fu) by rw [HRS.out 16383 (if_pos hfu), show wrap64 (16383 + 1) = 16384 by unfold wrap64; omega]; exact HR.out.set 132 16384 (by omega))
        go_wp2_with fail
        go_meet
        first | exact HN.out | (rw [show min fu (16383 : Int) = 16383 from by omega]; exact HN.out)
      · have HN := Lib.hid (show MR w (wc.setCell ⟨bq, 132, none⟩ (.int .i64 (wrap64 (fu + 1)))) P F T k kk dd bx bq (rm7 Q6 1 fu) by rw [HRS.out fu (if_neg hfu)]; exact HR.out.set 132 (wrap64 (fu + 1)) (by omega))
        go_wp2_with fail
        go_meet
        first | exact HN.out | (rw [show min fu (16383 : Int) = fu from by omega]; exact HN.out)
    · have hs2 : (sd == 1) = false := by simp [hs]
      have HN := Lib.hid (show MR w _ P F T k kk dd bx bq (rm7 Q6 sd fu) by unfold rm7; rw [hs2]; exact HR.out)
      go_wp2_with fail
      go_meet
      exact HN.out
  case rest =>
  have HR := Lib.hid hcut
  clear hcut
  clear e1 e2 e3
  have HZ2 := Lib.hid (show Z = (pc (rm7 Q6 sd fu)).toArray by rw [HZ.out, HVV.out])
  generalize rm7 Q6 sd fu = Q7 at *
  go_upto_region 31 with (fail)
  refine wp_region_lit ?_
  refine wpList_pos (by rfl) _ (by rfl) bq Q7 Z HZ2.out (by rfl) HR.out.q ?_
  refine wpList_store_mid rfl 29 _ _ rfl (w.heap.size + 2) 0 Z rfl rfl (by rw [HZ2.out, pc_size]; exact HR.out.z.there) (by rw [infoPos, HZ2.out, pc_size]) (by rw [HZ2.out]; exact pc_one _) ?_
  refine forgetL_B (fun W => W.rangeAt (w.heap.size + 2) 0 (pc Q7) ∧ Below w.heap.size w W) (by rw [HZ2.out, List.toList_toArray]; exact HR.out.stored Q7) ?_
  rintro W8 ⟨hr1, hb1⟩
  have HR1 := Lib.hid hr1
  have HB1 := Lib.hid hb1
  clear hr1 hb1 HR
  refine wpList_plain rfl (fun K hK => ?_)
  go_simp
  refine hK _ _ ?_
  clear hK K
  show Exit.then _ _ Exit.normal _ _
  refine ret_go (by assumption) ?_
  repeat (first | refine then_ret ?_ | refine block_ret ?_)
  refine bodyPost_ret (v := .tuple #[.agg (pc Q7).toArray, .int .i64 0]) ?_ rfl ⟨by rw [HZ2.out], HB1.out⟩
  exact results_mid2 (p := 4) (u := 5) (ty := 29) rfl _ W8 (w.heap.size + 2) _ _ _ rfl rfl HR1.out Tryz.underlying29 rfl (by rw [infoPos, pc_len])
end Go.Proofs.YthinkiljhkanhaaGreatDoor
