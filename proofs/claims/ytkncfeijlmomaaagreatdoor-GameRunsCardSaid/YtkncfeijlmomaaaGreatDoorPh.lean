/-
  Contracts: a move is carried out.
-/
import Derived.Test.YtkncfeijlmomaaaGreatDoorG14
import Derived.Test.YtkncfeijlmomaaaGreatDoorG15
namespace Go.Proofs.YtkncfeijlmomaaaGreatDoor
open Go.RowKit Go.Sort
set_option linter.unusedSimpArgs false
set_option linter.unusedVariables false
set_option maxRecDepth 20000

theorem tks_cases (P : Nat → Int) (f t : Nat) (hf : f < 64) (ht : t < 64) : tksN P f t = -1 ∨ ∃ n : Nat, tksN P f t = n ∧ n < 64 := by
  unfold tksN
  split
  · exact .inl rfl
  · exact .inr ⟨_, rfl, atN_lt P f t hf ht⟩
theorem csI_lt (P : Nat → Int) (f t n j : Nat) (h : csI P f t n = some j) : j < n := by
  induction n with
  | zero => cases h
  | succ n ih =>
    unfold csI at h
    cases e : csI P f t n with
    | none =>
      rw [e] at h
      simp only at h
      split at h
      · injection h with h; omega
      · cases h
    | some i => rw [e] at h; injection h with h; subst h; have := ih e; omega
theorem kas_corner (j : Nat) (hj : j < 4) : ∃ c : Nat, kasN (j * 5 + 4) = (c : Int) ∧ c < 64 := by
  rcases (show j = 0 ∨ j = 1 ∨ j = 2 ∨ j = 3 by omega) with rfl | rfl | rfl | rfl
  · exact ⟨7, rfl, by omega⟩
  · exact ⟨0, rfl, by omega⟩
  · exact ⟨63, rfl, by omega⟩
  · exact ⟨56, rfl, by omega⟩
/-- with the rook of a castling -/
def rkkN (P : Nat → Int) (f t : Nat) : Option Nat → Nat → Int
  | some j => rookN P f t (kasN (j * 5 + 1)) (kasN (j * 5 + 4)).toNat
  | none => P
/-- the square that a move goes over -/
def ovrN (P : Nat → Int) (f t : Nat) : Int := if lngB P f t then (((f + t) / 2 : Nat) : Int) else -1
/-- a move carried out -/
def pcsN (P : Nat → Int) (f t : Nat) (k : Int) : Nat → Int := rkkN (putM (cntN P (pwnB P f || (tksN P f t != -1))) f t k (tksN P f t)) f t (csI P f t 4)
def lstN (Q : Nat → Int) (f t : Nat) (o : Int) : Nat → Int := setN (setN (setN Q 129 (casM (Q 129) f t)) 130 o) 128 (oth (Q 128))
def cmN (P : Nat → Int) (f t : Nat) (k : Int) : Nat → Int := lstN (pcsN P f t k) f t (ovrN P f t)
/-- what stands while a move is carried out -/
structure HC (w W : World) (blk : Nat) (Q : Nat → Int) (f t k : Int) : Prop where
  h : HG w W blk Q
  m : W.heap[w.heap.size]? = some (.cells #[.int .i64 f, .int .i64 t, .int .i64 k] 46 (0, 0))
  s : blk < w.heap.size
theorem HC.go {w W W' : World} {blk : Nat} {Q : Nat → Int} {f t k : Int} (h : HC w W blk Q f t k) (g : Below W.heap.size W W') : HC w W' blk Q f t k := ⟨h.h.go g, sl_go h.m g, h.s⟩
theorem gr_at {w w' : World} {r : Option Nat} {H : Nat} {o : Obj} (g : w.grownBy w' r) (h : w.heap[H]? = some o) (hne : some H ≠ r) : w'.heap[H]? = some o := (g.block H (Array.getElem?_eq_some_iff.1 h).1 hne).trans h
theorem HC.turn {w W W' : World} {blk : Nat} {Q Q' : Nat → Int} {f t k : Int} (h : HC w W blk Q f t k) (g : HG W W' blk Q') : HC w W' blk Q' f t k :=
  ⟨h.h.then g, gr_at g.g h.m (by have := h.s; intro e; injection e; omega), h.s⟩
theorem HC.set {w W : World} {blk : Nat} {Q : Nat → Int} {f t k : Int} (h : HC w W blk Q f t k) (i : Nat) (x : Int) (hi : i < 133) : HC w (W.setCell ⟨blk, i, none⟩ (.int .i64 x)) blk (setN Q i x) f t k :=
  h.turn ((HG.begin h.h.q).set i x hi)
set_option maxHeartbeats 4000000 in
theorem carryOut_any (b : Nat) (P : Nat → Int) (f t : Nat) (k : Int) (hf : f < 64) (ht : t < 64) (w : World) (hp : PB w b P) (B : Nat) (hg : GP B w) (hB : B ≤ w.heap.size) (hBb : B ≤ b) :
    Calls Tryz.prog 162 #[.pointer (some ⟨b, 0, none⟩), .agg #[.int .i64 (f : Int), .int .i64 (t : Int), .int .i64 k]] w fun e w' => e = .returned (.tuple #[]) ∧ HG w w' b (cmN P f t k) := by
  have HI := Lib.hid (show HC w (w.alloc (.cells #[.int .i64 (f : Int), .int .i64 (t : Int), .int .i64 k] 46)) b P f t k from ⟨(HG.begin hp).go (below_new _), sl_at rfl, hp.lt⟩)
  have HGP := Lib.hid (show ∀ W Q, HC w W b Q f t k → GP B W ∧ B ≤ W.heap.size from fun W Q h => ⟨hg.below ⟨h.h.g.os, h.h.g.tape, h.h.g.output, h.h.g.size, fun i hi => h.h.g.block i (by have := hp.lt; omega) (by intro e; injection e; omega)⟩, Nat.le_trans hB h.h.g.size⟩)
  have M1 := Lib.hid (fun W h => takes_any b P f t k hf ht W h)
  have M2 := Lib.hid (fun W h => isLongStep_any b P f t k hf ht W h)
  have M3 := Lib.hid (fun W => betweenP_any f t k hf ht W)
  have M4 := Lib.hid (fun W h h1 h2 => castling_any b P f t k hf ht W h B h1 h2)
  have M5 := Lib.hid (fun W h => goesPawn_any b P f (t : Int) k hf W h)
  have M6 := Lib.hid (fun z W h => count_any b P z W h)
  have HTK := Lib.hid (tks_cases P f t hf ht)
  have M7 := Lib.hid (fun Q W h => putH_any b Q f t k (tksN P f t) hf ht HTK.out W h)
  have M8 := Lib.hid (fun Q W c1 d c3 c4 (c : Nat) (hc : c < 64) h => putRook_any b Q f t c k c1 d c3 c4 hf ht hc W h)
  have M9 := Lib.hid (fun Q W h => loseCastlings_any b Q f t k hf ht W h)
  have hv : cmN P f t k = lstN (rkkN (putM (cntN P (pwnB P f || (tksN P f t != -1))) f t k (tksN P f t)) f t (csI P f t 4)) f t (if lngB P f t then (((f + t) / 2 : Nat) : Int) else -1) := rfl
  have HLT := Lib.hid (csI_lt P f t 4)
  clear hp hg
  generalize tksN P f t = tk at *
  generalize lngB P f t = lg at *
  generalize (((f + t) / 2 : Nat) : Int) = md at *
  generalize csI P f t 4 = cs at *
  generalize pwnB P f = pw at *
  obtain ⟨z, hz⟩ : ∃ z, (pw || (tk != -1)) = z := ⟨_, rfl⟩
  obtain ⟨ov, hov⟩ : ∃ z, (if lg then md else -1) = z := ⟨_, rfl⟩
  rw [hz, hov] at hv
  have HV := Lib.hid hv
  have HZ := Lib.hid hz
  have HOV := Lib.hid hov
  clear hv hz hov
  generalize hP1 : cntN P z = P1 at HV
  have HP1 := Lib.hid hP1
  generalize hP2 : putM P1 f t k tk = P2 at HV
  have HP2 := Lib.hid hP2
  clear hP1 hP2
  have HTN := Lib.hid (show ∀ n : Int, tk = n → (tk != -1) = (n != -1) from fun n h => by rw [h])
  go_enter Tryz.func162, Tryz.ntmps162
  go_upto_region 1 with (fail)
  refine forget_B (fun W => HC w W b P f t k) HI.out ?_
  clear HI
  intro W hi
  have HI := Lib.hid hi
  clear hi
  obtain ⟨q0, q1, q2, qf, qz⟩ := row3 HI.out.m
  go_wp2_with fail
  refine (M1.out _ HI.out.h.q).mono ?_
  rintro e w1 ⟨rfl, hb1⟩
  replace HI := Lib.hid (HI.out.go hb1)
  clear q0 q1 q2 qf qz hb1
  obtain ⟨q0, q1, q2, qf, qz⟩ := row3 HI.out.m
  go_wp2_with fail
  refine (M2.out _ HI.out.h.q).mono ?_
  rintro e w2 ⟨rfl, hb1⟩
  replace HI := Lib.hid (HI.out.go hb1)
  clear q0 q1 q2 qf qz hb1
  obtain ⟨q0, q1, q2, qf, qz⟩ := row3 HI.out.m
  cases lg
  case false =>
    obtain rfl : ov = -1 := HOV.out.symm

    go_wp2_with fail
    refine (M4.out _ HI.out.h.q (HGP.out _ _ HI.out).1 (HGP.out _ _ HI.out).2).mono ?_
    rintro e w4 ⟨rfl, hb1⟩
    replace HI := Lib.hid (HI.out.go hb1)
    clear q0 q1 q2 qf qz hb1
    obtain ⟨q0, q1, q2, qf, qz⟩ := row3 HI.out.m

    cases cs with
    | none =>
      dsimp only [csR]
      go_upto_region 5 with (fail)
      clear q0 q1 q2 qf qz
      refine forget_B (fun W => HC w W b P f t k) (HI.out.go (below_new _)) ?_
      clear HI
      intro W5 hi
      have HI := Lib.hid hi
      clear hi
      obtain ⟨q0, q1, q2, qf, qz⟩ := row3 HI.out.m

      go_wp2_with fail
      refine (M5.out _ HI.out.h.q).mono ?_
      rintro e w5 ⟨rfl, hb1⟩
      replace HI := Lib.hid (HI.out.go hb1)
      clear q0 q1 q2 qf qz hb1
      obtain ⟨q0, q1, q2, qf, qz⟩ := row3 HI.out.m
      cases pw
      case true =>
        obtain rfl : z = true := HZ.out.symm
        go_wp2_with fail
        refine (M6.out _ _ HI.out.h.q).mono ?_
        rw [HP1.out]
        rintro e w6 ⟨rfl, hg1⟩
        replace HI := Lib.hid (HI.out.turn hg1)
        clear q0 q1 q2 qf qz hg1
        obtain ⟨q0, q1, q2, qf, qz⟩ := row3 HI.out.m

        go_wp2_with fail
        refine (M7.out P1 _ HI.out.h.q).mono ?_
        rw [HP2.out]
        rintro e w7 ⟨rfl, hg1⟩
        replace HI := Lib.hid (HI.out.turn hg1)
        clear q0 q1 q2 qf qz hg1
        obtain ⟨q0, q1, q2, qf, qz⟩ := row3 HI.out.m

        go_wp2_with fail
        refine (M9.out _ _ HI.out.h.q).mono ?_
        rintro e w9 ⟨rfl, hg1⟩
        replace HI := Lib.hid (HI.out.turn hg1)
        clear q0 q1 q2 qf qz hg1
        obtain ⟨q0, q1, q2, qf, qz⟩ := row3 HI.out.m

        have e130 := HI.out.h.q.cell 130 (by omega)
        have f130 := HI.out.h.q.fr 130
        go_upto_region 11 with (fail)
        clear e130 f130 q0 q1 q2 qf qz
        refine forget_B (fun W => HC w W b (setN (setN (rkkN P2 f t none) 129 (casM (rkkN P2 f t none 129) f t)) 130 (-1)) f t k) (HI.out.set 130 (-1) (by omega)) ?_
        clear HI
        intro W10 hi
        have HI := Lib.hid hi
        clear hi
        have e128 := HI.out.h.q.cell 128 (by omega)
        have f128 := HI.out.h.q.fr 128
        have HL := Lib.hid (HI.out.set 128 (oth (rkkN P2 f t none 128)) (by omega)).h
        have hee : setN (setN (rkkN P2 f t none) 129 (casM (rkkN P2 f t none 129) f t)) 130 (-1) 128 = rkkN P2 f t none 128 := rfl
        rw [hee] at e128
        clear hee
        obtain ⟨sd, hsd⟩ : ∃ sd, rkkN P2 f t none 128 = sd := ⟨_, rfl⟩
        rw [hsd] at HL e128
        have HSD := Lib.hid hsd
        clear hsd
        go_wp2_with fail
        refine (other_any sd _).mono ?_
        rintro e w11 ⟨rfl, rfl⟩
        go_wp2
        go_end0
        exact ⟨rfl, by rw [HV.out]; unfold lstN; rw [HSD.out]; exact HL.out⟩
      case false =>
        rcases HTK.out with rfl | ⟨n, rfl, hn⟩
        · obtain rfl : z = false := HZ.out.symm
          go_wp2_with fail
          refine (M6.out _ _ HI.out.h.q).mono ?_
          rw [HP1.out]
          rintro e w6 ⟨rfl, hg1⟩
          replace HI := Lib.hid (HI.out.turn hg1)
          clear q0 q1 q2 qf qz hg1
          obtain ⟨q0, q1, q2, qf, qz⟩ := row3 HI.out.m

          go_wp2_with fail
          refine (M7.out P1 _ HI.out.h.q).mono ?_
          rw [HP2.out]
          rintro e w7 ⟨rfl, hg1⟩
          replace HI := Lib.hid (HI.out.turn hg1)
          clear q0 q1 q2 qf qz hg1
          obtain ⟨q0, q1, q2, qf, qz⟩ := row3 HI.out.m

          go_wp2_with fail
          refine (M9.out _ _ HI.out.h.q).mono ?_
          rintro e w9 ⟨rfl, hg1⟩
          replace HI := Lib.hid (HI.out.turn hg1)
          clear q0 q1 q2 qf qz hg1
          obtain ⟨q0, q1, q2, qf, qz⟩ := row3 HI.out.m

          have e130 := HI.out.h.q.cell 130 (by omega)
          have f130 := HI.out.h.q.fr 130
          go_upto_region 11 with (fail)
          clear e130 f130 q0 q1 q2 qf qz
          refine forget_B (fun W => HC w W b (setN (setN (rkkN P2 f t none) 129 (casM (rkkN P2 f t none 129) f t)) 130 (-1)) f t k) (HI.out.set 130 (-1) (by omega)) ?_
          clear HI
          intro W10 hi
          have HI := Lib.hid hi
          clear hi
          have e128 := HI.out.h.q.cell 128 (by omega)
          have f128 := HI.out.h.q.fr 128
          have HL := Lib.hid (HI.out.set 128 (oth (rkkN P2 f t none 128)) (by omega)).h
          have hee : setN (setN (rkkN P2 f t none) 129 (casM (rkkN P2 f t none 129) f t)) 130 (-1) 128 = rkkN P2 f t none 128 := rfl
          rw [hee] at e128
          clear hee
          obtain ⟨sd, hsd⟩ : ∃ sd, rkkN P2 f t none 128 = sd := ⟨_, rfl⟩
          rw [hsd] at HL e128
          have HSD := Lib.hid hsd
          clear hsd
          go_wp2_with fail
          refine (other_any sd _).mono ?_
          rintro e w11 ⟨rfl, rfl⟩
          go_wp2
          go_end0
          exact ⟨rfl, by rw [HV.out]; unfold lstN; rw [HSD.out]; exact HL.out⟩
        · have nn : ((n : Int) != -1) = true := by simp <;> omega
          obtain rfl : z = true := by rw [← HZ.out, nn]; rfl
          go_wp2_with fail
          refine (M6.out _ _ HI.out.h.q).mono ?_
          rw [HP1.out]
          rintro e w6 ⟨rfl, hg1⟩
          replace HI := Lib.hid (HI.out.turn hg1)
          clear q0 q1 q2 qf qz hg1
          obtain ⟨q0, q1, q2, qf, qz⟩ := row3 HI.out.m

          go_wp2_with fail
          refine (M7.out P1 _ HI.out.h.q).mono ?_
          rw [HP2.out]
          rintro e w7 ⟨rfl, hg1⟩
          replace HI := Lib.hid (HI.out.turn hg1)
          clear q0 q1 q2 qf qz hg1
          obtain ⟨q0, q1, q2, qf, qz⟩ := row3 HI.out.m

          go_wp2_with fail
          refine (M9.out _ _ HI.out.h.q).mono ?_
          rintro e w9 ⟨rfl, hg1⟩
          replace HI := Lib.hid (HI.out.turn hg1)
          clear q0 q1 q2 qf qz hg1
          obtain ⟨q0, q1, q2, qf, qz⟩ := row3 HI.out.m

          have e130 := HI.out.h.q.cell 130 (by omega)
          have f130 := HI.out.h.q.fr 130
          go_upto_region 11 with (fail)
          clear e130 f130 q0 q1 q2 qf qz
          refine forget_B (fun W => HC w W b (setN (setN (rkkN P2 f t none) 129 (casM (rkkN P2 f t none 129) f t)) 130 (-1)) f t k) (HI.out.set 130 (-1) (by omega)) ?_
          clear HI
          intro W10 hi
          have HI := Lib.hid hi
          clear hi
          have e128 := HI.out.h.q.cell 128 (by omega)
          have f128 := HI.out.h.q.fr 128
          have HL := Lib.hid (HI.out.set 128 (oth (rkkN P2 f t none 128)) (by omega)).h
          have hee : setN (setN (rkkN P2 f t none) 129 (casM (rkkN P2 f t none 129) f t)) 130 (-1) 128 = rkkN P2 f t none 128 := rfl
          rw [hee] at e128
          clear hee
          obtain ⟨sd, hsd⟩ : ∃ sd, rkkN P2 f t none 128 = sd := ⟨_, rfl⟩
          rw [hsd] at HL e128
          have HSD := Lib.hid hsd
          clear hsd
          go_wp2_with fail
          refine (other_any sd _).mono ?_
          rintro e w11 ⟨rfl, rfl⟩
          go_wp2
          go_end0
          exact ⟨rfl, by rw [HV.out]; unfold lstN; rw [HSD.out]; exact HL.out⟩
    | some j =>
      have hj := HLT.out j rfl
      obtain ⟨cn, hcc, hcn⟩ := kas_corner j hj
      have HRK := Lib.hid (show rkkN P2 f t (some j) = rookN P2 f t (kasN (j * 5 + 1)) cn by show rookN P2 f t (kasN (j * 5 + 1)) (kasN (j * 5 + 4)).toNat = _; rw [hcc, Int.toNat_natCast])
      dsimp only [csR]
      rw [hcc]
      clear hcc
      generalize kasN (j * 5) = y1 at *
      generalize kasN (j * 5 + 1) = y2 at *
      generalize kasN (j * 5 + 2) = y3 at *
      generalize kasN (j * 5 + 3) = y4 at *
      have HXB := Lib.hid (show b < w4.heap.size by have := HI.out.s; have := HI.out.h.g.size; omega)
      go_upto_region 5 with (fail)
      clear q0 q1 q2 qf qz
      refine forget_B (fun W => HC w W b P f t k ∧ W.heap[w4.heap.size]? = some (.cells #[.int .i64 y1, .int .i64 y2, .int .i64 y3, .int .i64 y4, .int .i64 (cn : Int)] 198 (0, 0)) ∧ w4.heap.size < W.heap.size) ⟨HI.out.go (below_new _), sl_at rfl, by simp⟩ ?_
      clear HI
      rintro W5 ⟨hi, hx, hxs⟩
      have HI := Lib.hid hi
      have HX := Lib.hid hx
      have HXS := Lib.hid hxs
      clear hi hx hxs
      obtain ⟨q0, q1, q2, qf, qz⟩ := row3 HI.out.m

      go_wp2_with fail
      refine (M5.out _ HI.out.h.q).mono ?_
      rintro e w5 ⟨rfl, hb1⟩
      replace HI := Lib.hid (HI.out.go hb1)
      replace HX := Lib.hid (sl_go HX.out hb1)
      replace HXS := Lib.hid (Nat.lt_of_lt_of_le HXS.out hb1.size)
      clear q0 q1 q2 qf qz hb1
      obtain ⟨q0, q1, q2, qf, qz⟩ := row3 HI.out.m
      cases pw
      case true =>
        obtain rfl : z = true := HZ.out.symm
        go_wp2_with fail
        refine (M6.out _ _ HI.out.h.q).mono ?_
        rw [HP1.out]
        rintro e w6 ⟨rfl, hg1⟩
        replace HI := Lib.hid (HI.out.turn hg1)
        replace HX := Lib.hid (gr_at hg1.g HX.out (by have := HXB.out; intro e; injection e; omega))
        replace HXS := Lib.hid (Nat.lt_of_lt_of_le HXS.out hg1.g.size)
        clear q0 q1 q2 qf qz hg1
        obtain ⟨q0, q1, q2, qf, qz⟩ := row3 HI.out.m

        go_wp2_with fail
        refine (M7.out P1 _ HI.out.h.q).mono ?_
        rw [HP2.out]
        rintro e w7 ⟨rfl, hg1⟩
        replace HI := Lib.hid (HI.out.turn hg1)
        replace HX := Lib.hid (gr_at hg1.g HX.out (by have := HXB.out; intro e; injection e; omega))
        replace HXS := Lib.hid (Nat.lt_of_lt_of_le HXS.out hg1.g.size)
        clear q0 q1 q2 qf qz hg1
        obtain ⟨q0, q1, q2, qf, qz⟩ := row3 HI.out.m

        obtain ⟨x1, x2, x3, x4, x5⟩ := row5 HX.out
        go_wp2_with fail
        refine (M8.out P2 _ _ _ _ _ cn hcn HI.out.h.q).mono ?_
        rw [← HRK.out]
        rintro e w8 ⟨rfl, hg1⟩
        replace HI := Lib.hid (HI.out.turn hg1)
        clear x1 x2 x3 x4 x5
        clear q0 q1 q2 qf qz hg1
        obtain ⟨q0, q1, q2, qf, qz⟩ := row3 HI.out.m

        go_wp2_with fail
        refine (M9.out _ _ HI.out.h.q).mono ?_
        rintro e w9 ⟨rfl, hg1⟩
        replace HI := Lib.hid (HI.out.turn hg1)
        clear q0 q1 q2 qf qz hg1
        obtain ⟨q0, q1, q2, qf, qz⟩ := row3 HI.out.m

        have e130 := HI.out.h.q.cell 130 (by omega)
        have f130 := HI.out.h.q.fr 130
        go_upto_region 11 with (fail)
        clear e130 f130 q0 q1 q2 qf qz
        refine forget_B (fun W => HC w W b (setN (setN (rkkN P2 f t (some j)) 129 (casM (rkkN P2 f t (some j) 129) f t)) 130 (-1)) f t k) (HI.out.set 130 (-1) (by omega)) ?_
        clear HI
        intro W10 hi
        have HI := Lib.hid hi
        clear hi
        have e128 := HI.out.h.q.cell 128 (by omega)
        have f128 := HI.out.h.q.fr 128
        have HL := Lib.hid (HI.out.set 128 (oth (rkkN P2 f t (some j) 128)) (by omega)).h
        have hee : setN (setN (rkkN P2 f t (some j)) 129 (casM (rkkN P2 f t (some j) 129) f t)) 130 (-1) 128 = rkkN P2 f t (some j) 128 := rfl
        rw [hee] at e128
        clear hee
        obtain ⟨sd, hsd⟩ : ∃ sd, rkkN P2 f t (some j) 128 = sd := ⟨_, rfl⟩
        rw [hsd] at HL e128
        have HSD := Lib.hid hsd
        clear hsd
        go_wp2_with fail
        refine (other_any sd _).mono ?_
        rintro e w11 ⟨rfl, rfl⟩
        go_wp2
        go_end0
        exact ⟨rfl, by rw [HV.out]; unfold lstN; rw [HSD.out]; exact HL.out⟩
      case false =>
        rcases HTK.out with rfl | ⟨n, rfl, hn⟩
        · obtain rfl : z = false := HZ.out.symm
          go_wp2_with fail
          refine (M6.out _ _ HI.out.h.q).mono ?_
          rw [HP1.out]
          rintro e w6 ⟨rfl, hg1⟩
          replace HI := Lib.hid (HI.out.turn hg1)
          replace HX := Lib.hid (gr_at hg1.g HX.out (by have := HXB.out; intro e; injection e; omega))
          replace HXS := Lib.hid (Nat.lt_of_lt_of_le HXS.out hg1.g.size)
          clear q0 q1 q2 qf qz hg1
          obtain ⟨q0, q1, q2, qf, qz⟩ := row3 HI.out.m

          go_wp2_with fail
          refine (M7.out P1 _ HI.out.h.q).mono ?_
          rw [HP2.out]
          rintro e w7 ⟨rfl, hg1⟩
          replace HI := Lib.hid (HI.out.turn hg1)
          replace HX := Lib.hid (gr_at hg1.g HX.out (by have := HXB.out; intro e; injection e; omega))
          replace HXS := Lib.hid (Nat.lt_of_lt_of_le HXS.out hg1.g.size)
          clear q0 q1 q2 qf qz hg1
          obtain ⟨q0, q1, q2, qf, qz⟩ := row3 HI.out.m

          obtain ⟨x1, x2, x3, x4, x5⟩ := row5 HX.out
          go_wp2_with fail
          refine (M8.out P2 _ _ _ _ _ cn hcn HI.out.h.q).mono ?_
          rw [← HRK.out]
          rintro e w8 ⟨rfl, hg1⟩
          replace HI := Lib.hid (HI.out.turn hg1)
          clear x1 x2 x3 x4 x5
          clear q0 q1 q2 qf qz hg1
          obtain ⟨q0, q1, q2, qf, qz⟩ := row3 HI.out.m

          go_wp2_with fail
          refine (M9.out _ _ HI.out.h.q).mono ?_
          rintro e w9 ⟨rfl, hg1⟩
          replace HI := Lib.hid (HI.out.turn hg1)
          clear q0 q1 q2 qf qz hg1
          obtain ⟨q0, q1, q2, qf, qz⟩ := row3 HI.out.m

          have e130 := HI.out.h.q.cell 130 (by omega)
          have f130 := HI.out.h.q.fr 130
          go_upto_region 11 with (fail)
          clear e130 f130 q0 q1 q2 qf qz
          refine forget_B (fun W => HC w W b (setN (setN (rkkN P2 f t (some j)) 129 (casM (rkkN P2 f t (some j) 129) f t)) 130 (-1)) f t k) (HI.out.set 130 (-1) (by omega)) ?_
          clear HI
          intro W10 hi
          have HI := Lib.hid hi
          clear hi
          have e128 := HI.out.h.q.cell 128 (by omega)
          have f128 := HI.out.h.q.fr 128
          have HL := Lib.hid (HI.out.set 128 (oth (rkkN P2 f t (some j) 128)) (by omega)).h
          have hee : setN (setN (rkkN P2 f t (some j)) 129 (casM (rkkN P2 f t (some j) 129) f t)) 130 (-1) 128 = rkkN P2 f t (some j) 128 := rfl
          rw [hee] at e128
          clear hee
          obtain ⟨sd, hsd⟩ : ∃ sd, rkkN P2 f t (some j) 128 = sd := ⟨_, rfl⟩
          rw [hsd] at HL e128
          have HSD := Lib.hid hsd
          clear hsd
          go_wp2_with fail
          refine (other_any sd _).mono ?_
          rintro e w11 ⟨rfl, rfl⟩
          go_wp2
          go_end0
          exact ⟨rfl, by rw [HV.out]; unfold lstN; rw [HSD.out]; exact HL.out⟩
        · have nn : ((n : Int) != -1) = true := by simp <;> omega
          obtain rfl : z = true := by rw [← HZ.out, nn]; rfl
          go_wp2_with fail
          refine (M6.out _ _ HI.out.h.q).mono ?_
          rw [HP1.out]
          rintro e w6 ⟨rfl, hg1⟩
          replace HI := Lib.hid (HI.out.turn hg1)
          replace HX := Lib.hid (gr_at hg1.g HX.out (by have := HXB.out; intro e; injection e; omega))
          replace HXS := Lib.hid (Nat.lt_of_lt_of_le HXS.out hg1.g.size)
          clear q0 q1 q2 qf qz hg1
          obtain ⟨q0, q1, q2, qf, qz⟩ := row3 HI.out.m

          go_wp2_with fail
          refine (M7.out P1 _ HI.out.h.q).mono ?_
          rw [HP2.out]
          rintro e w7 ⟨rfl, hg1⟩
          replace HI := Lib.hid (HI.out.turn hg1)
          replace HX := Lib.hid (gr_at hg1.g HX.out (by have := HXB.out; intro e; injection e; omega))
          replace HXS := Lib.hid (Nat.lt_of_lt_of_le HXS.out hg1.g.size)
          clear q0 q1 q2 qf qz hg1
          obtain ⟨q0, q1, q2, qf, qz⟩ := row3 HI.out.m

          obtain ⟨x1, x2, x3, x4, x5⟩ := row5 HX.out
          go_wp2_with fail
          refine (M8.out P2 _ _ _ _ _ cn hcn HI.out.h.q).mono ?_
          rw [← HRK.out]
          rintro e w8 ⟨rfl, hg1⟩
          replace HI := Lib.hid (HI.out.turn hg1)
          clear x1 x2 x3 x4 x5
          clear q0 q1 q2 qf qz hg1
          obtain ⟨q0, q1, q2, qf, qz⟩ := row3 HI.out.m

          go_wp2_with fail
          refine (M9.out _ _ HI.out.h.q).mono ?_
          rintro e w9 ⟨rfl, hg1⟩
          replace HI := Lib.hid (HI.out.turn hg1)
          clear q0 q1 q2 qf qz hg1
          obtain ⟨q0, q1, q2, qf, qz⟩ := row3 HI.out.m

          have e130 := HI.out.h.q.cell 130 (by omega)
          have f130 := HI.out.h.q.fr 130
          go_upto_region 11 with (fail)
          clear e130 f130 q0 q1 q2 qf qz
          refine forget_B (fun W => HC w W b (setN (setN (rkkN P2 f t (some j)) 129 (casM (rkkN P2 f t (some j) 129) f t)) 130 (-1)) f t k) (HI.out.set 130 (-1) (by omega)) ?_
          clear HI
          intro W10 hi
          have HI := Lib.hid hi
          clear hi
          have e128 := HI.out.h.q.cell 128 (by omega)
          have f128 := HI.out.h.q.fr 128
          have HL := Lib.hid (HI.out.set 128 (oth (rkkN P2 f t (some j) 128)) (by omega)).h
          have hee : setN (setN (rkkN P2 f t (some j)) 129 (casM (rkkN P2 f t (some j) 129) f t)) 130 (-1) 128 = rkkN P2 f t (some j) 128 := rfl
          rw [hee] at e128
          clear hee
          obtain ⟨sd, hsd⟩ : ∃ sd, rkkN P2 f t (some j) 128 = sd := ⟨_, rfl⟩
          rw [hsd] at HL e128
          have HSD := Lib.hid hsd
          clear hsd
          go_wp2_with fail
          refine (other_any sd _).mono ?_
          rintro e w11 ⟨rfl, rfl⟩
          go_wp2
          go_end0
          exact ⟨rfl, by rw [HV.out]; unfold lstN; rw [HSD.out]; exact HL.out⟩
  case true =>
    obtain rfl : md = ov := HOV.out
    go_wp2_with fail
    refine (M3.out _).mono ?_
    rintro e w3 ⟨rfl, hb1⟩
    replace HI := Lib.hid (HI.out.go hb1)
    clear q0 q1 q2 qf qz hb1
    obtain ⟨q0, q1, q2, qf, qz⟩ := row3 HI.out.m

    go_wp2_with fail
    refine (M4.out _ HI.out.h.q (HGP.out _ _ HI.out).1 (HGP.out _ _ HI.out).2).mono ?_
    rintro e w4 ⟨rfl, hb1⟩
    replace HI := Lib.hid (HI.out.go hb1)
    clear q0 q1 q2 qf qz hb1
    obtain ⟨q0, q1, q2, qf, qz⟩ := row3 HI.out.m

    cases cs with
    | none =>
      dsimp only [csR]
      go_upto_region 5 with (fail)
      clear q0 q1 q2 qf qz
      refine forget_B (fun W => HC w W b P f t k) (HI.out.go (below_new _)) ?_
      clear HI
      intro W5 hi
      have HI := Lib.hid hi
      clear hi
      obtain ⟨q0, q1, q2, qf, qz⟩ := row3 HI.out.m

      go_wp2_with fail
      refine (M5.out _ HI.out.h.q).mono ?_
      rintro e w5 ⟨rfl, hb1⟩
      replace HI := Lib.hid (HI.out.go hb1)
      clear q0 q1 q2 qf qz hb1
      obtain ⟨q0, q1, q2, qf, qz⟩ := row3 HI.out.m
      cases pw
      case true =>
        obtain rfl : z = true := HZ.out.symm
        go_wp2_with fail
        refine (M6.out _ _ HI.out.h.q).mono ?_
        rw [HP1.out]
        rintro e w6 ⟨rfl, hg1⟩
        replace HI := Lib.hid (HI.out.turn hg1)
        clear q0 q1 q2 qf qz hg1
        obtain ⟨q0, q1, q2, qf, qz⟩ := row3 HI.out.m

        go_wp2_with fail
        refine (M7.out P1 _ HI.out.h.q).mono ?_
        rw [HP2.out]
        rintro e w7 ⟨rfl, hg1⟩
        replace HI := Lib.hid (HI.out.turn hg1)
        clear q0 q1 q2 qf qz hg1
        obtain ⟨q0, q1, q2, qf, qz⟩ := row3 HI.out.m

        go_wp2_with fail
        refine (M9.out _ _ HI.out.h.q).mono ?_
        rintro e w9 ⟨rfl, hg1⟩
        replace HI := Lib.hid (HI.out.turn hg1)
        clear q0 q1 q2 qf qz hg1
        obtain ⟨q0, q1, q2, qf, qz⟩ := row3 HI.out.m

        have e130 := HI.out.h.q.cell 130 (by omega)
        have f130 := HI.out.h.q.fr 130
        go_upto_region 11 with (fail)
        clear e130 f130 q0 q1 q2 qf qz
        refine forget_B (fun W => HC w W b (setN (setN (rkkN P2 f t none) 129 (casM (rkkN P2 f t none 129) f t)) 130 md) f t k) (HI.out.set 130 md (by omega)) ?_
        clear HI
        intro W10 hi
        have HI := Lib.hid hi
        clear hi
        have e128 := HI.out.h.q.cell 128 (by omega)
        have f128 := HI.out.h.q.fr 128
        have HL := Lib.hid (HI.out.set 128 (oth (rkkN P2 f t none 128)) (by omega)).h
        have hee : setN (setN (rkkN P2 f t none) 129 (casM (rkkN P2 f t none 129) f t)) 130 md 128 = rkkN P2 f t none 128 := rfl
        rw [hee] at e128
        clear hee
        obtain ⟨sd, hsd⟩ : ∃ sd, rkkN P2 f t none 128 = sd := ⟨_, rfl⟩
        rw [hsd] at HL e128
        have HSD := Lib.hid hsd
        clear hsd
        go_wp2_with fail
        refine (other_any sd _).mono ?_
        rintro e w11 ⟨rfl, rfl⟩
        go_wp2
        go_end0
        exact ⟨rfl, by rw [HV.out]; unfold lstN; rw [HSD.out]; exact HL.out⟩
      case false =>
        rcases HTK.out with rfl | ⟨n, rfl, hn⟩
        · obtain rfl : z = false := HZ.out.symm
          go_wp2_with fail
          refine (M6.out _ _ HI.out.h.q).mono ?_
          rw [HP1.out]
          rintro e w6 ⟨rfl, hg1⟩
          replace HI := Lib.hid (HI.out.turn hg1)
          clear q0 q1 q2 qf qz hg1
          obtain ⟨q0, q1, q2, qf, qz⟩ := row3 HI.out.m

          go_wp2_with fail
          refine (M7.out P1 _ HI.out.h.q).mono ?_
          rw [HP2.out]
          rintro e w7 ⟨rfl, hg1⟩
          replace HI := Lib.hid (HI.out.turn hg1)
          clear q0 q1 q2 qf qz hg1
          obtain ⟨q0, q1, q2, qf, qz⟩ := row3 HI.out.m

          go_wp2_with fail
          refine (M9.out _ _ HI.out.h.q).mono ?_
          rintro e w9 ⟨rfl, hg1⟩
          replace HI := Lib.hid (HI.out.turn hg1)
          clear q0 q1 q2 qf qz hg1
          obtain ⟨q0, q1, q2, qf, qz⟩ := row3 HI.out.m

          have e130 := HI.out.h.q.cell 130 (by omega)
          have f130 := HI.out.h.q.fr 130
          go_upto_region 11 with (fail)
          clear e130 f130 q0 q1 q2 qf qz
          refine forget_B (fun W => HC w W b (setN (setN (rkkN P2 f t none) 129 (casM (rkkN P2 f t none 129) f t)) 130 md) f t k) (HI.out.set 130 md (by omega)) ?_
          clear HI
          intro W10 hi
          have HI := Lib.hid hi
          clear hi
          have e128 := HI.out.h.q.cell 128 (by omega)
          have f128 := HI.out.h.q.fr 128
          have HL := Lib.hid (HI.out.set 128 (oth (rkkN P2 f t none 128)) (by omega)).h
          have hee : setN (setN (rkkN P2 f t none) 129 (casM (rkkN P2 f t none 129) f t)) 130 md 128 = rkkN P2 f t none 128 := rfl
          rw [hee] at e128
          clear hee
          obtain ⟨sd, hsd⟩ : ∃ sd, rkkN P2 f t none 128 = sd := ⟨_, rfl⟩
          rw [hsd] at HL e128
          have HSD := Lib.hid hsd
          clear hsd
          go_wp2_with fail
          refine (other_any sd _).mono ?_
          rintro e w11 ⟨rfl, rfl⟩
          go_wp2
          go_end0
          exact ⟨rfl, by rw [HV.out]; unfold lstN; rw [HSD.out]; exact HL.out⟩
        · have nn : ((n : Int) != -1) = true := by simp <;> omega
          obtain rfl : z = true := by rw [← HZ.out, nn]; rfl
          go_wp2_with fail
          refine (M6.out _ _ HI.out.h.q).mono ?_
          rw [HP1.out]
          rintro e w6 ⟨rfl, hg1⟩
          replace HI := Lib.hid (HI.out.turn hg1)
          clear q0 q1 q2 qf qz hg1
          obtain ⟨q0, q1, q2, qf, qz⟩ := row3 HI.out.m

          go_wp2_with fail
          refine (M7.out P1 _ HI.out.h.q).mono ?_
          rw [HP2.out]
          rintro e w7 ⟨rfl, hg1⟩
          replace HI := Lib.hid (HI.out.turn hg1)
          clear q0 q1 q2 qf qz hg1
          obtain ⟨q0, q1, q2, qf, qz⟩ := row3 HI.out.m

          go_wp2_with fail
          refine (M9.out _ _ HI.out.h.q).mono ?_
          rintro e w9 ⟨rfl, hg1⟩
          replace HI := Lib.hid (HI.out.turn hg1)
          clear q0 q1 q2 qf qz hg1
          obtain ⟨q0, q1, q2, qf, qz⟩ := row3 HI.out.m

          have e130 := HI.out.h.q.cell 130 (by omega)
          have f130 := HI.out.h.q.fr 130
          go_upto_region 11 with (fail)
          clear e130 f130 q0 q1 q2 qf qz
          refine forget_B (fun W => HC w W b (setN (setN (rkkN P2 f t none) 129 (casM (rkkN P2 f t none 129) f t)) 130 md) f t k) (HI.out.set 130 md (by omega)) ?_
          clear HI
          intro W10 hi
          have HI := Lib.hid hi
          clear hi
          have e128 := HI.out.h.q.cell 128 (by omega)
          have f128 := HI.out.h.q.fr 128
          have HL := Lib.hid (HI.out.set 128 (oth (rkkN P2 f t none 128)) (by omega)).h
          have hee : setN (setN (rkkN P2 f t none) 129 (casM (rkkN P2 f t none 129) f t)) 130 md 128 = rkkN P2 f t none 128 := rfl
          rw [hee] at e128
          clear hee
          obtain ⟨sd, hsd⟩ : ∃ sd, rkkN P2 f t none 128 = sd := ⟨_, rfl⟩
          rw [hsd] at HL e128
          have HSD := Lib.hid hsd
          clear hsd
          go_wp2_with fail
          refine (other_any sd _).mono ?_
          rintro e w11 ⟨rfl, rfl⟩
          go_wp2
          go_end0
          exact ⟨rfl, by rw [HV.out]; unfold lstN; rw [HSD.out]; exact HL.out⟩
    | some j =>
      have hj := HLT.out j rfl
      obtain ⟨cn, hcc, hcn⟩ := kas_corner j hj
      have HRK := Lib.hid (show rkkN P2 f t (some j) = rookN P2 f t (kasN (j * 5 + 1)) cn by show rookN P2 f t (kasN (j * 5 + 1)) (kasN (j * 5 + 4)).toNat = _; rw [hcc, Int.toNat_natCast])
      dsimp only [csR]
      rw [hcc]
      clear hcc
      generalize kasN (j * 5) = y1 at *
      generalize kasN (j * 5 + 1) = y2 at *
      generalize kasN (j * 5 + 2) = y3 at *
      generalize kasN (j * 5 + 3) = y4 at *
      have HXB := Lib.hid (show b < w4.heap.size by have := HI.out.s; have := HI.out.h.g.size; omega)
      go_upto_region 5 with (fail)
      clear q0 q1 q2 qf qz
      refine forget_B (fun W => HC w W b P f t k ∧ W.heap[w4.heap.size]? = some (.cells #[.int .i64 y1, .int .i64 y2, .int .i64 y3, .int .i64 y4, .int .i64 (cn : Int)] 198 (0, 0)) ∧ w4.heap.size < W.heap.size) ⟨HI.out.go (below_new _), sl_at rfl, by simp⟩ ?_
      clear HI
      rintro W5 ⟨hi, hx, hxs⟩
      have HI := Lib.hid hi
      have HX := Lib.hid hx
      have HXS := Lib.hid hxs
      clear hi hx hxs
      obtain ⟨q0, q1, q2, qf, qz⟩ := row3 HI.out.m

      go_wp2_with fail
      refine (M5.out _ HI.out.h.q).mono ?_
      rintro e w5 ⟨rfl, hb1⟩
      replace HI := Lib.hid (HI.out.go hb1)
      replace HX := Lib.hid (sl_go HX.out hb1)
      replace HXS := Lib.hid (Nat.lt_of_lt_of_le HXS.out hb1.size)
      clear q0 q1 q2 qf qz hb1
      obtain ⟨q0, q1, q2, qf, qz⟩ := row3 HI.out.m
      cases pw
      case true =>
        obtain rfl : z = true := HZ.out.symm
        go_wp2_with fail
        refine (M6.out _ _ HI.out.h.q).mono ?_
        rw [HP1.out]
        rintro e w6 ⟨rfl, hg1⟩
        replace HI := Lib.hid (HI.out.turn hg1)
        replace HX := Lib.hid (gr_at hg1.g HX.out (by have := HXB.out; intro e; injection e; omega))
        replace HXS := Lib.hid (Nat.lt_of_lt_of_le HXS.out hg1.g.size)
        clear q0 q1 q2 qf qz hg1
        obtain ⟨q0, q1, q2, qf, qz⟩ := row3 HI.out.m

        go_wp2_with fail
        refine (M7.out P1 _ HI.out.h.q).mono ?_
        rw [HP2.out]
        rintro e w7 ⟨rfl, hg1⟩
        replace HI := Lib.hid (HI.out.turn hg1)
        replace HX := Lib.hid (gr_at hg1.g HX.out (by have := HXB.out; intro e; injection e; omega))
        replace HXS := Lib.hid (Nat.lt_of_lt_of_le HXS.out hg1.g.size)
        clear q0 q1 q2 qf qz hg1
        obtain ⟨q0, q1, q2, qf, qz⟩ := row3 HI.out.m

        obtain ⟨x1, x2, x3, x4, x5⟩ := row5 HX.out
        go_wp2_with fail
        refine (M8.out P2 _ _ _ _ _ cn hcn HI.out.h.q).mono ?_
        rw [← HRK.out]
        rintro e w8 ⟨rfl, hg1⟩
        replace HI := Lib.hid (HI.out.turn hg1)
        clear x1 x2 x3 x4 x5
        clear q0 q1 q2 qf qz hg1
        obtain ⟨q0, q1, q2, qf, qz⟩ := row3 HI.out.m

        go_wp2_with fail
        refine (M9.out _ _ HI.out.h.q).mono ?_
        rintro e w9 ⟨rfl, hg1⟩
        replace HI := Lib.hid (HI.out.turn hg1)
        clear q0 q1 q2 qf qz hg1
        obtain ⟨q0, q1, q2, qf, qz⟩ := row3 HI.out.m

        have e130 := HI.out.h.q.cell 130 (by omega)
        have f130 := HI.out.h.q.fr 130
        go_upto_region 11 with (fail)
        clear e130 f130 q0 q1 q2 qf qz
        refine forget_B (fun W => HC w W b (setN (setN (rkkN P2 f t (some j)) 129 (casM (rkkN P2 f t (some j) 129) f t)) 130 md) f t k) (HI.out.set 130 md (by omega)) ?_
        clear HI
        intro W10 hi
        have HI := Lib.hid hi
        clear hi
        have e128 := HI.out.h.q.cell 128 (by omega)
        have f128 := HI.out.h.q.fr 128
        have HL := Lib.hid (HI.out.set 128 (oth (rkkN P2 f t (some j) 128)) (by omega)).h
        have hee : setN (setN (rkkN P2 f t (some j)) 129 (casM (rkkN P2 f t (some j) 129) f t)) 130 md 128 = rkkN P2 f t (some j) 128 := rfl
        rw [hee] at e128
        clear hee
        obtain ⟨sd, hsd⟩ : ∃ sd, rkkN P2 f t (some j) 128 = sd := ⟨_, rfl⟩
        rw [hsd] at HL e128
        have HSD := Lib.hid hsd
        clear hsd
        go_wp2_with fail
        refine (other_any sd _).mono ?_
        rintro e w11 ⟨rfl, rfl⟩
        go_wp2
        go_end0
        exact ⟨rfl, by rw [HV.out]; unfold lstN; rw [HSD.out]; exact HL.out⟩
      case false =>
        rcases HTK.out with rfl | ⟨n, rfl, hn⟩
        · obtain rfl : z = false := HZ.out.symm
          go_wp2_with fail
          refine (M6.out _ _ HI.out.h.q).mono ?_
          rw [HP1.out]
          rintro e w6 ⟨rfl, hg1⟩
          replace HI := Lib.hid (HI.out.turn hg1)
          replace HX := Lib.hid (gr_at hg1.g HX.out (by have := HXB.out; intro e; injection e; omega))
          replace HXS := Lib.hid (Nat.lt_of_lt_of_le HXS.out hg1.g.size)
          clear q0 q1 q2 qf qz hg1
          obtain ⟨q0, q1, q2, qf, qz⟩ := row3 HI.out.m

          go_wp2_with fail
          refine (M7.out P1 _ HI.out.h.q).mono ?_
          rw [HP2.out]
          rintro e w7 ⟨rfl, hg1⟩
          replace HI := Lib.hid (HI.out.turn hg1)
          replace HX := Lib.hid (gr_at hg1.g HX.out (by have := HXB.out; intro e; injection e; omega))
          replace HXS := Lib.hid (Nat.lt_of_lt_of_le HXS.out hg1.g.size)
          clear q0 q1 q2 qf qz hg1
          obtain ⟨q0, q1, q2, qf, qz⟩ := row3 HI.out.m

          obtain ⟨x1, x2, x3, x4, x5⟩ := row5 HX.out
          go_wp2_with fail
          refine (M8.out P2 _ _ _ _ _ cn hcn HI.out.h.q).mono ?_
          rw [← HRK.out]
          rintro e w8 ⟨rfl, hg1⟩
          replace HI := Lib.hid (HI.out.turn hg1)
          clear x1 x2 x3 x4 x5
          clear q0 q1 q2 qf qz hg1
          obtain ⟨q0, q1, q2, qf, qz⟩ := row3 HI.out.m

          go_wp2_with fail
          refine (M9.out _ _ HI.out.h.q).mono ?_
          rintro e w9 ⟨rfl, hg1⟩
          replace HI := Lib.hid (HI.out.turn hg1)
          clear q0 q1 q2 qf qz hg1
          obtain ⟨q0, q1, q2, qf, qz⟩ := row3 HI.out.m

          have e130 := HI.out.h.q.cell 130 (by omega)
          have f130 := HI.out.h.q.fr 130
          go_upto_region 11 with (fail)
          clear e130 f130 q0 q1 q2 qf qz
          refine forget_B (fun W => HC w W b (setN (setN (rkkN P2 f t (some j)) 129 (casM (rkkN P2 f t (some j) 129) f t)) 130 md) f t k) (HI.out.set 130 md (by omega)) ?_
          clear HI
          intro W10 hi
          have HI := Lib.hid hi
          clear hi
          have e128 := HI.out.h.q.cell 128 (by omega)
          have f128 := HI.out.h.q.fr 128
          have HL := Lib.hid (HI.out.set 128 (oth (rkkN P2 f t (some j) 128)) (by omega)).h
          have hee : setN (setN (rkkN P2 f t (some j)) 129 (casM (rkkN P2 f t (some j) 129) f t)) 130 md 128 = rkkN P2 f t (some j) 128 := rfl
          rw [hee] at e128
          clear hee
          obtain ⟨sd, hsd⟩ : ∃ sd, rkkN P2 f t (some j) 128 = sd := ⟨_, rfl⟩
          rw [hsd] at HL e128
          have HSD := Lib.hid hsd
          clear hsd
          go_wp2_with fail
          refine (other_any sd _).mono ?_
          rintro e w11 ⟨rfl, rfl⟩
          go_wp2
          go_end0
          exact ⟨rfl, by rw [HV.out]; unfold lstN; rw [HSD.out]; exact HL.out⟩
        · have nn : ((n : Int) != -1) = true := by simp <;> omega
          obtain rfl : z = true := by rw [← HZ.out, nn]; rfl
          go_wp2_with fail
          refine (M6.out _ _ HI.out.h.q).mono ?_
          rw [HP1.out]
          rintro e w6 ⟨rfl, hg1⟩
          replace HI := Lib.hid (HI.out.turn hg1)
          replace HX := Lib.hid (gr_at hg1.g HX.out (by have := HXB.out; intro e; injection e; omega))
          replace HXS := Lib.hid (Nat.lt_of_lt_of_le HXS.out hg1.g.size)
          clear q0 q1 q2 qf qz hg1
          obtain ⟨q0, q1, q2, qf, qz⟩ := row3 HI.out.m

          go_wp2_with fail
          refine (M7.out P1 _ HI.out.h.q).mono ?_
          rw [HP2.out]
          rintro e w7 ⟨rfl, hg1⟩
          replace HI := Lib.hid (HI.out.turn hg1)
          replace HX := Lib.hid (gr_at hg1.g HX.out (by have := HXB.out; intro e; injection e; omega))
          replace HXS := Lib.hid (Nat.lt_of_lt_of_le HXS.out hg1.g.size)
          clear q0 q1 q2 qf qz hg1
          obtain ⟨q0, q1, q2, qf, qz⟩ := row3 HI.out.m

          obtain ⟨x1, x2, x3, x4, x5⟩ := row5 HX.out
          go_wp2_with fail
          refine (M8.out P2 _ _ _ _ _ cn hcn HI.out.h.q).mono ?_
          rw [← HRK.out]
          rintro e w8 ⟨rfl, hg1⟩
          replace HI := Lib.hid (HI.out.turn hg1)
          clear x1 x2 x3 x4 x5
          clear q0 q1 q2 qf qz hg1
          obtain ⟨q0, q1, q2, qf, qz⟩ := row3 HI.out.m

          go_wp2_with fail
          refine (M9.out _ _ HI.out.h.q).mono ?_
          rintro e w9 ⟨rfl, hg1⟩
          replace HI := Lib.hid (HI.out.turn hg1)
          clear q0 q1 q2 qf qz hg1
          obtain ⟨q0, q1, q2, qf, qz⟩ := row3 HI.out.m

          have e130 := HI.out.h.q.cell 130 (by omega)
          have f130 := HI.out.h.q.fr 130
          go_upto_region 11 with (fail)
          clear e130 f130 q0 q1 q2 qf qz
          refine forget_B (fun W => HC w W b (setN (setN (rkkN P2 f t (some j)) 129 (casM (rkkN P2 f t (some j) 129) f t)) 130 md) f t k) (HI.out.set 130 md (by omega)) ?_
          clear HI
          intro W10 hi
          have HI := Lib.hid hi
          clear hi
          have e128 := HI.out.h.q.cell 128 (by omega)
          have f128 := HI.out.h.q.fr 128
          have HL := Lib.hid (HI.out.set 128 (oth (rkkN P2 f t (some j) 128)) (by omega)).h
          have hee : setN (setN (rkkN P2 f t (some j)) 129 (casM (rkkN P2 f t (some j) 129) f t)) 130 md 128 = rkkN P2 f t (some j) 128 := rfl
          rw [hee] at e128
          clear hee
          obtain ⟨sd, hsd⟩ : ∃ sd, rkkN P2 f t (some j) 128 = sd := ⟨_, rfl⟩
          rw [hsd] at HL e128
          have HSD := Lib.hid hsd
          clear hsd
          go_wp2_with fail
          refine (other_any sd _).mono ?_
          rintro e w11 ⟨rfl, rfl⟩
          go_wp2
          go_end0
          exact ⟨rfl, by rw [HV.out]; unfold lstN; rw [HSD.out]; exact HL.out⟩
end Go.Proofs.YtkncfeijlmomaaaGreatDoor
