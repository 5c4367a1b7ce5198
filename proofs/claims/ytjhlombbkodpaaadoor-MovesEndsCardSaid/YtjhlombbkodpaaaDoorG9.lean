/-
  Merged: Dd, De.
-/
import Derived.Test.YtjhlombbkodpaaaDoorG8

namespace Go.Proofs.YtjhlombbkodpaaaDoor
open Go.RowKit Go.Sort
set_option linter.unusedSimpArgs false
set_option linter.unusedVariables false
set_option maxRecDepth 20000

def stN (i : Nat) : Int := [1, 0, -1, 0, 0, 1, 0, -1, -1, 1, 1, 1, -1, -1, 1, -1, -1, -2, 1, -2, -2, -1, 2, -1, -2, 1, 2, 1, -1, 2, 1, 2].getD i 0
def dF (i : Nat) : Int := stN (i * 2)
def dR (i : Nat) : Int := stN (i * 2 + 1)
theorem stN_small : ∀ i, i < 32 → -2 ≤ stN i ∧ stN i ≤ 2 := by decide
theorem dF_I (i : Nat) (h : i < 16) : I64 (dF i) := by have := stN_small (i * 2) (by omega); unfold I64 dF; omega
theorem dR_I (i : Nat) (h : i < 16) : I64 (dR i) := by have := stN_small (i * 2 + 1) (by omega); unfold I64 dR; omega
def rayN (i : Nat) : Nat → Int → List Int
  | 0, _ => []
  | n + 1, t => if sq t then t :: rayN i n (stp t (dF i) (dR i)) else []
/-- a square, and those on a way from it on -/
def ray (i : Nat) (t : Int) : List Int := rayN i 8 t
theorem ray_on0 : ∀ i, i < 16 → ∀ t, t < 64 → ray i ((t : Nat) : Int) = (t : Int) :: ray i (stp (t : Int) (dF i) (dR i)) := by decide +kernel
theorem ray_on (i : Nat) (hi : i < 16) (t : Int) (ht : sq t = true) : ray i t = t :: ray i (stp t (dF i) (dR i)) := by
  obtain ⟨h0, h1⟩ := (sq_iff t).1 ht
  obtain ⟨n, rfl⟩ := Int.eq_ofNat_of_zero_le h0
  exact ray_on0 i hi n (by omega)
theorem ray_off (i : Nat) (t : Int) (ht : sq t = false) : ray i t = [] := by unfold ray rayN; simp [ht]
/-- up to the first on which something stands, if it goes on at all -/
def cut (occ : Nat → Bool) (far : Bool) : List Int → List Int
  | [] => []
  | x :: r => x :: (if far && !occ x.toNat then cut occ far r else [])
/-- what is attacked on way i -/
def wayL (P : Nat → Int) (s k d : Int) (i : Nat) : List Int := cut (occB P) (gFar k d) (ray i (stp s (dF i) (dR i)))
def attUp (P : Nat → Int) (s k d : Int) (n : Nat) : List Int := (List.range n).flatMap fun i => wayL P s k d (gFrom k d + i)
/-- what a piece attacks, way by way -/
def attL (P : Nat → Int) (s k d : Int) : List Int := attUp P s k d (gTo k d - gFrom k d)
theorem attUp_succ (P : Nat → Int) (s k d : Int) (n : Nat) : attUp P s k d (n + 1) = attUp P s k d n ++ wayL P s k d (gFrom k d + n) := by
  unfold attUp; rw [List.range_succ, List.flatMap_append]; simp
theorem attUp_pre (P : Nat → Int) (s k d : Int) {n m : Nat} (h : n ≤ m) : attUp P s k d n <+: attUp P s k d m := by
  induction m with
  | zero => obtain rfl : n = 0 := by omega
            exact List.prefix_refl _
  | succ m ih =>
    rcases (show n ≤ m ∨ n = m + 1 by omega) with h1 | rfl
    · rw [attUp_succ]; exact (ih h1).trans (List.prefix_append _ _)
    · exact List.prefix_refl _
theorem rayN_sq (i : Nat) : ∀ (n : Nat) (t x : Int), x ∈ rayN i n t → sq x = true
  | 0, _, _, h => by cases h
  | n + 1, t, x, h => by
    unfold rayN at h
    split at h
    · rename_i hs
      rcases List.mem_cons.1 h with rfl | h
      · exact hs
      · exact rayN_sq i n _ x h
    · cases h
theorem cut_mem (occ : Nat → Bool) (far : Bool) : ∀ (l : List Int) (x : Int), x ∈ cut occ far l → x ∈ l
  | [], _, h => h
  | y :: r, x, h => by
    unfold cut at h
    rcases List.mem_cons.1 h with rfl | h
    · exact List.mem_cons_self ..
    · split at h
      · exact List.mem_cons_of_mem _ (cut_mem occ far r x h)
      · cases h
theorem attL_sq (P : Nat → Int) (s k d x : Int) (h : x ∈ attL P s k d) : sq x = true := by
  unfold attL attUp wayL at h
  obtain ⟨i, _, h⟩ := List.mem_flatMap.1 h
  exact rayN_sq _ _ _ _ (cut_mem _ _ _ _ h)
theorem gait_small (k d : Int) : gFrom k d ≤ gTo k d ∧ gTo k d ≤ 16 := by
  unfold gFrom gTo
  cases sideB d <;> simp
  repeat' split
  all_goals omega
/-- the steps' table -/
structure GS (B : Nat) (w : World) : Prop where
  lt : 0 < B
  cell : ∀ i, i < 32 → w.cell? ⟨0, i, none⟩ = some (.int .i64 (stN i))
theorem GS.below {B : Nat} {w w' : World} (h : GS B w) (g : Below B w w') : GS B w' :=
  ⟨h.lt, fun i hi => by rw [g.cell (p := ⟨0, i, none⟩) h.lt]; exact h.cell i hi⟩
theorem GS.mono {B B' : Nat} {w : World} (h : GS B w) (hb : B ≤ B') : GS B' w := ⟨Nat.lt_of_lt_of_le h.lt hb, h.cell⟩
theorem GS.same {B : Nat} {w w' : World} (h : GS B w) (e : w'.heap[0]? = w.heap[0]?) : GS B w' :=
  ⟨h.lt, fun i hi => by rw [World.cell?_of_block (a := ⟨0, i, none⟩) e]; exact h.cell i hi⟩
theorem PB.same {w w' : World} {b : Nat} {P : Nat → Int} (h : PB w b P) (hs : w.heap.size ≤ w'.heap.size) (e : w'.heap[b]? = w.heap[b]?) : PB w' b P :=
  ⟨Nat.lt_of_lt_of_le h.lt hs, fun i hi => by rw [World.cell?_of_block (a := ⟨b, i, none⟩) e]; exact h.cell i hi, fun i => by rw [World.frozen?_of_block (a := ⟨b, i, none⟩) e]; exact h.fr i⟩
/-- what the iterator reads -/
structure AR (b fb sb : Nat) (P : Nat → Int) (s : Int) (W : World) : Prop where
  f : W.heap[fb]? = some (.cells #[.pointer (some ⟨b, 0, none⟩)] 89 (0, 0))
  s : W.heap[sb]? = some (.cells #[.int .i64 s] 3 (0, 0))
  p : PB W b P
  t : GS W.heap.size W
/-- .. the blocks -/
def AN (b fb sb xb : Nat) (k : Nat) : Prop := k = b ∨ k = fb ∨ k = sb ∨ k = xb ∨ k = 0
theorem AR.turn {b fb sb xb : Nat} {P : Nat → Int} {s : Int} {X : Nat → Prop} {A B : World} (h : AR b fb sb P s A) (hx : ∀ k, X k → ¬ AN b fb sb xb k) (ht : Turns X A B) : AR b fb sb P s B :=
  ⟨(ht.block _ (al_lt h.f) (fun e => hx _ e (.inr (.inl rfl)))).trans h.f, (ht.block _ (al_lt h.s) (fun e => hx _ e (.inr (.inr (.inl rfl))))).trans h.s,
   h.p.same ht.size (ht.block _ h.p.lt (fun e => hx _ e (.inl rfl))), (h.t.same (ht.block _ h.t.lt (fun e => hx _ e (.inr (.inr (.inr (.inr rfl))))))).mono ht.size⟩
theorem AR.go {b fb sb : Nat} {P : Nat → Int} {s : Int} {A B : World} (h : AR b fb sb P s A) (g : Below A.heap.size A B) : AR b fb sb P s B :=
  ⟨sl_go h.f g, sl_go h.s g, h.p.go g, (h.t.below g).mono g.size⟩
theorem AR.reads (b fb sb xb : Nat) (P : Nat → Int) (s : Int) : ∀ Y A B, AR b fb sb P s A → (∀ q, Y q → ¬ AN b fb sb xb q) → Turns Y A B → AR b fb sb P s B := fun _ _ _ h hx ht => h.turn hx ht
theorem row1 {W : World} {H : Nat} {a : Value} {t : TypeId} (h : W.heap[H]? = some (.cells #[a] t (0, 0))) : W.cell? ⟨H, 0, none⟩ = some a ∧ (∀ o, W.frozen? ⟨H, o, none⟩ = false) ∧ H < W.heap.size :=
  ⟨by rw [cell_of_row W H 0 _ _ (0, 0) h]; rfl, fun o => frozen_of_row W H o _ _ h, al_lt h⟩
theorem attacked_any (b : Nat) (s k d : Int) (w : World) :
    Calls Tryd.prog 30 #[.pointer (some ⟨b, 0, none⟩), .int .i64 s, .agg #[.int .i64 k, .int .i64 d]] w fun e w' =>
      e = .returned (.func (.func 59) #[] #[.pointer (some ⟨w.heap.size + 2, 0, none⟩), .pointer (some ⟨w.heap.size + 1, 0, none⟩), .pointer (some ⟨w.heap.size, 0, none⟩)]) ∧
      w' = ((w.alloc (.cells #[.pointer (some ⟨b, 0, none⟩)] 89)).alloc (.cells #[.int .i64 s] 3)).alloc (.cells #[.int .i64 k, .int .i64 d] 25) := by
  go_enter Tryd.func30, Tryd.ntmps30
  go_wp2
  go_ret
  exact ⟨rfl, rfl⟩
end Go.Proofs.YtjhlombbkodpaaaDoor

namespace Go.Proofs.YtjhlombbkodpaaaDoor
open Go.RowKit Go.Sort
set_option linter.unusedSimpArgs false
set_option linter.unusedVariables false
set_option maxRecDepth 20000
attribute [local go_sem] Oper.semAt_some

set_option maxHeartbeats 4000000 in
set_option maxRecDepth 100000 in
theorem attacked_comes (b fb sb xb : Nat) (P : Nat → Int) (s k d : Int) (w : World) (har : AR b fb sb P s w) (hxb : w.heap[xb]? = some (.cells #[.int .i64 k, .int .i64 d] 25 (0, 0))) :
    Comes Tryd.prog 59 #[.pointer (some ⟨xb, 0, none⟩), .pointer (some ⟨sb, 0, none⟩), .pointer (some ⟨fb, 0, none⟩)] (AN b fb sb xb) (Value.int .i64) (attL P s k d) w := by
  refine ⟨?_, fun l J Jx X W hW hXN hJ hJx hlt hY h0 => ?_⟩
  · rintro q (rfl | rfl | rfl | rfl | rfl)
    · exact har.p.lt
    · exact al_lt har.f
    · exact al_lt har.s
    · exact al_lt hxb
    · exact har.t.lt
  have HA := Lib.hid (har.go hW)
  have hx1 := sl_go hxb hW
  obtain ⟨x0, x1, xf, _⟩ := row2 hx1
  clear har hxb hW hx1
  have hgs := gait_small k d
  go_enter Tryd.func59, Tryd.ntmps59
  have HJ := Lib.hid hJ
  have HJX := Lib.hid hJx
  have HLT := Lib.hid hlt
  have HY := Lib.hid hY
  have HR := Lib.hid (AR.reads b fb sb xb P s)
  have HN := Lib.hid (show ∀ A, AR b fb sb P s A → xb < A.heap.size → ∀ q, AN b fb sb xb q → q < A.heap.size from fun A h hq q hn => by
    rcases hn with rfl | rfl | rfl | rfl | rfl
    · exact h.p.lt
    · exact al_lt h.f
    · exact al_lt h.s
    · exact hq
    · exact h.t.lt)
  clear hJ hJx hlt hY
  go_wp2_with fail
  refine (gaitOf_any k d _).mono ?_
  rintro e w1 ⟨rfl, hb1⟩
  have HK := Lib.hid ((show Keep J (AR b fb sb P s) (AN b fb sb xb) [] [] X W from ⟨h0, HA.out, fun p hp => (by cases hp), fun q hq => ⟨hXN q hq, fun p hp => (by cases hp)⟩⟩).go HR.out HJ.out hb1)
  have HZ := Lib.hid (Nat.lt_of_lt_of_le ‹xb < W.heap.size› hb1.size)
  clear hb1 h0 HA x0 x1 xf hXN
  have HL := Lib.hid (show attL P s k d = attUp P s k d (gTo k d - gFrom k d) from rfl)
  have HW := Lib.hid (show ∀ i, wayL P s k d i = cut (occB P) (gFar k d) (ray i (stp s (dF i) (dR i))) from fun _ => rfl)
  have HS := Lib.hid (attUp_succ P s k d)
  obtain ⟨g0, hg0⟩ : ∃ g, gFrom k d = g := ⟨_, rfl⟩
  obtain ⟨g1, hg1⟩ : ∃ g, gTo k d = g := ⟨_, rfl⟩
  obtain ⟨fa, hfa⟩ : ∃ f, gFar k d = f := ⟨_, rfl⟩
  rw [hg0, hg1] at HL hgs
  rw [hg0] at HS
  rw [hfa] at HW
  rw [hg0, hg1, hfa]
  clear hg0 hg1 hfa
  have HG := Lib.hid hgs
  clear hgs
  go_wp2
  have HK2 := Lib.hid (HK.out.add (t := w1.heap.size) (o := .cells #[.int .i64 g0, .int .i64 g1, .bool fa] 91 (0, 0)) HR.out HJ.out HLT.out rfl)
  clear HK
  go_loopw [6] (fun i wr => ∃ (m : Nat) (Y : Nat → Prop), g0 ≤ m ∧ m ≤ g1 ∧ i = .int .i64 (m : Int) ∧ xb < wr.heap.size ∧ Keep J (AR b fb sb P s) (AN b fb sb xb) [(w1.heap.size, .cells #[.int .i64 g0, .int .i64 g1, .bool fa] 91 (0, 0))] (attUp P s k d (m - g0)) Y wr) (fun i _ => g1 - (intOf i).toNat)
  case atStart => exact ⟨g0, _, Nat.le_refl _, HG.out.1, rfl, by simp; have := HZ.out; omega, by rw [Nat.sub_self]; exact HK2.out⟩
  case round =>
    clear HK2 HZ
    obtain ⟨v1, rfl⟩ : ∃ v, v = wr := ⟨_, rfl⟩
    obtain ⟨m, Y, hm0, hm1, rfl, hz, hk⟩ := hrel
    have HK := Lib.hid hk
    have HZ1 := Lib.hid hz
    have hh := hk.head
    dsimp only at hh
    obtain ⟨c0, c1, c2, fr, _⟩ := row3 hh
    by_cases hlt : m < g1
    · have hm16 : m < 16 := by have := HG.out.2; omega
      have h0 : (0 : Int) ≤ m := by omega
      have h1 : (m : Int) < 16 := by omega
      have e1 : v1.cell? ⟨0, m * 2, none⟩ = some (.int .i64 (dF m)) := hk.r.t.cell (m * 2) (by omega)
      have e2 : v1.cell? ⟨0, m * 2 + 1, none⟩ = some (.int .i64 (dR m)) := hk.r.t.cell (m * 2 + 1) (by omega)
      have hI := dF_I m hm16
      have hI' := dR_I m hm16
      have HWM := Lib.hid (HW.out m)
      have HRO := Lib.hid (ray_on m hm16)
      obtain ⟨x, hx⟩ : ∃ x, dF m = x := ⟨_, rfl⟩
      obtain ⟨y, hy⟩ : ∃ y, dR m = y := ⟨_, rfl⟩
      rw [hx] at e1 hI
      rw [hy] at e2 hI'
      rw [hx, hy] at HWM HRO
      clear hx hy
      obtain ⟨s0, sf, _⟩ := row1 hk.r.s
      clear hk hz hh
      have HI := Lib.hid (And.intro hI hI')
      clear hI hI'
      go_wp2_with fail
      refine (step_any s x y _ HI.out.1 HI.out.2).mono ?_
      rintro e w2 ⟨rfl, hb2⟩
      have HK3 := Lib.hid ((HK.out.add (t := v1.heap.size) (o := .cells #[.int .i64 x, .int .i64 y] 94 (0, 0)) HR.out HJ.out HLT.out rfl).go HR.out HJ.out hb2)
      have hs2 := hb2.size
      rw [World.size_alloc] at hs2
      have HZ2 := Lib.hid (show xb < w2.heap.size by have := HZ1.out; omega)
      clear hb2 hs2 HK HZ1 c0 c1 c2 fr e1 e2 s0 sf h0 h1
      obtain ⟨pr, hpr⟩ : ∃ p, attUp P s k d (m - g0) = p := ⟨_, rfl⟩
      rw [hpr] at HK3
      have HPR := Lib.hid hpr
      clear hpr
      go_wp2
      go_loopw [8] (fun v wr => ∃ (t : Int) (pi : List Int) (Y : Nat → Prop), v = .int .i64 t ∧ xb < wr.heap.size ∧ wayL P s k d m = pi ++ cut (occB P) fa (ray m t) ∧ Keep J (AR b fb sb P s) (AN b fb sb xb) [(v1.heap.size, .cells #[.int .i64 x, .int .i64 y] 94 (0, 0)), (w1.heap.size, .cells #[.int .i64 g0, .int .i64 g1, .bool fa] 91 (0, 0))] (pr ++ pi) Y wr) (fun v _ => (ray m (intOf v)).length)
      case atStart => exact ⟨_, [], _, rfl, HZ2.out, by rw [List.nil_append]; exact HWM.out, by rw [List.append_nil]; exact HK3.out⟩
      case round =>
        clear HK3 HZ2
        obtain ⟨t, pi, Z, rfl, hz, hw, hk⟩ := hrel
        have HZ3 := Lib.hid hz
        have HWL := Lib.hid hw
        have HK4 := Lib.hid hk
        clear hz hw hk
        cases hs : sq t
        · have HSQ := Lib.hid hs
          have HEND := Lib.hid (show attUp P s k d (m + 1 - g0) = pr ++ pi by
            rw [show m + 1 - g0 = (m - g0) + 1 by omega, HS.out, HPR.out, show g0 + (m - g0) = m by omega, HWL.out, ray_off m t hs, show cut (occB P) fa [] = [] from rfl, List.append_nil])
          clear hs
          go_wp2_with fail
          refine (is_any t _).mono ?_
          rw [HSQ.out]
          rintro e w3 ⟨rfl, hb3⟩
          have HK5 := Lib.hid (HK4.out.go HR.out HJ.out hb3)
          have HZ4 := Lib.hid (Nat.lt_of_lt_of_le HZ3.out hb3.size)
          clear hb3 HK4 HZ3
          have h0 : (0 : Int) ≤ m := by omega
          have h1 : (m : Int) < 16 := by omega
          go_wp2
          go_roundw
          case rel => exact ⟨m + 1, Z, by omega, by omega, by go_num, HZ4.out, by rw [HEND.out]; exact HK5.out.drop⟩
          case measure => simp [intOf]; omega
        · obtain ⟨t0, t1⟩ := (sq_iff t).1 hs
          obtain ⟨n, rfl⟩ := Int.eq_ofNat_of_zero_le t0
          have HSQ := Lib.hid hs
          have hr := HRO.out _ hs
          have hw2 : wayL P s k d m = pi ++ (n : Int) :: (if fa && !occB P n then cut (occB P) fa (ray m (stp n x y)) else []) := by rw [HWL.out, hr]; rfl
          have HW2 := Lib.hid hw2
          have HRR := Lib.hid hr
          have HPF := Lib.hid (show (pr ++ pi) ++ [(n : Int)] <+: attL P s k d by
            have h1 : (pr ++ pi) ++ [(n : Int)] <+: attUp P s k d (m - g0 + 1) := by
              rw [HS.out, HPR.out, show g0 + (m - g0) = m by omega, hw2]
              exact ⟨if fa && !occB P n then cut (occB P) fa (ray m (stp n x y)) else [], by simp⟩
            rw [HL.out]
            exact h1.trans (attUp_pre P s k d (by omega)))
          clear hs hr hw2
          go_wp2_with fail
          refine (is_any n _).mono ?_
          rw [HSQ.out]
          rintro e w3 ⟨rfl, hb3⟩
          have HK5 := Lib.hid (HK4.out.go HR.out HJ.out hb3)
          have HZ4 := Lib.hid (Nat.lt_of_lt_of_le HZ3.out hb3.size)
          clear hb3 HK4 HZ3
          go_upto_region 8 with (fail)
          obtain ⟨fn, tmps, assign, body, hy, hR8⟩ := HY.out _ (n : Int) Z w3 HK5.out.j HPF.out
          refine (wpIn_wide (n := 0)).1 ?_
          gi_wp2
          refine ⟨rfl, (roundIn_wide hR8).mono ?_⟩
          clear hR8 hy
          rintro e B ⟨Z2, hT, hZ2, (⟨rfl, hJB⟩ | ⟨rfl, hJB⟩)⟩
          · have HK6 := Lib.hid (HK5.out.turn HR.out (HN.out _ HK5.out.r HZ4.out) hT hZ2 hJB)
            have HZ5 := Lib.hid (Nat.lt_of_lt_of_le HZ4.out hT.size)
            clear hT hZ2 hJB HK5 HZ4
            have hg := HK6.out.next
            have ht := HK6.out.head
            dsimp only at hg ht
            obtain ⟨c0, c1, c2, fr, _⟩ := row3 hg
            obtain ⟨d0, d1, dr, _⟩ := row2 ht
            obtain ⟨f0, ff, _⟩ := row1 HK6.out.r.f
            have hpb := HK6.out.r.p
            clear hg ht
            have HPB := Lib.hid hpb
            clear hpb
            gi_wp2
            have h0 : (0 : Int) ≤ m := by omega
            have h1 : (m : Int) < 16 := by omega
            have HEND := Lib.hid (show (fa && !occB P n) = false → attUp P s k d (m + 1 - g0) = pr ++ pi ++ [(n : Int)] from fun he => by
              rw [show m + 1 - g0 = (m - g0) + 1 by omega, HS.out, HPR.out, show g0 + (m - g0) = m by omega, HW2.out, he]; simp)
            clear HWL
            cases fa
            · go_wp2
              go_roundw
              case rel => exact ⟨m + 1, Z2, by omega, by omega, by go_num, HZ5.out, by rw [HEND.out rfl]; exact HK6.out.drop⟩
              case measure => simp [intOf]; omega
            · have hn64 : n < 64 := by omega
              go_wp2_with fail
              refine (aStands_any b P n hn64 _ HPB.out).mono ?_
              cases ho : occB P n
              · rw [ho] at HW2
                have HW3 := Lib.hid (show wayL P s k d m = (pi ++ [(n : Int)]) ++ cut (occB P) true (ray m (stp n x y)) by rw [HW2.out]; simp)
                clear HEND HW2 ho
                rintro e B2 ⟨rfl, rfl⟩
                go_wp2_with fail
                refine (step_any n x y _ HI.out.1 HI.out.2).mono ?_
                rintro e B3 ⟨rfl, hb3⟩
                have HK7 := Lib.hid (HK6.out.go HR.out HJ.out hb3)
                have HZ6 := Lib.hid (Nat.lt_of_lt_of_le HZ5.out hb3.size)
                clear hb3 HK6 HZ5 c0 c1 c2 fr d0 d1 dr f0 ff
                go_wp2
                go_roundw
                case rel => exact ⟨stp n x y, pi ++ [(n : Int)], Z2, rfl, HZ6.out, HW3.out, by rw [← List.append_assoc]; exact HK7.out⟩
                case measure => simp [intOf, HRR.out]
              · have HE2 := Lib.hid (HEND.out (by rw [ho]; rfl))
                clear HEND HW2 ho
                rintro e B2 ⟨rfl, rfl⟩
                go_wp2
                go_roundw
                case rel => exact ⟨m + 1, Z2, by omega, by omega, by go_num, HZ5.out, by rw [HE2.out]; exact HK6.out.drop⟩
                case measure => simp [intOf]; omega
          · gi_wp2
            go_wp2
            refine bodyPost_ret (results_none rfl _ _ _) rfl ?_
            exact ⟨⟨_, rfl⟩, Z2, .inr ⟨_, HPF.out, hJB⟩⟩
    · obtain rfl : m = g1 := by omega
      clear hh hk hz
      go_wp2
      go_end0
      exact ⟨⟨_, rfl⟩, Y, .inl (by rw [HL.out]; exact HK.out.j)⟩
end Go.Proofs.YtjhlombbkodpaaaDoor
