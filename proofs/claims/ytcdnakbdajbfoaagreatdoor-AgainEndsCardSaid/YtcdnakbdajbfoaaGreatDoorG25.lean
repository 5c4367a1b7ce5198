/-
  Merged: Ps, Ra, Rb.
-/
import Derived.Test.YtcdnakbdajbfoaaGreatDoorG24
import Derived.Test.YtcdnakbdajbfoaaGreatDoorG5
import Derived.Test.YtcdnakbdajbfoaaGreatDoorG21
import Derived.Test.YtcdnakbdajbfoaaGreatDoorG22
import Derived.Test.YtcdnakbdajbfoaaGreatDoorG15
import Derived.Test.YtcdnakbdajbfoaaGreatDoorG1

namespace Go.Proofs.YtcdnakbdajbfoaaGreatDoor
open Go.RowKit Go.Sort
set_option linter.unusedSimpArgs false
set_option linter.unusedVariables false
set_option maxRecDepth 20000

theorem sq_four (f t : Int) : (sq f = false) ∨ (sq f = true ∧ sq t = false) ∨ (sq f = true ∧ sq t = true ∧ f = t) ∨ (sq f = true ∧ sq t = true ∧ ¬ f = t) := by
  cases sq f <;> cases sq t <;> by_cases h : f = t <;> simp [h]
theorem mvP_bad (P : Nat → Int) (f t k : Int) (h : fltN P f t k ≠ 0) : mvP P f t k = fun _ => 0 := by unfold mvP; rw [flt_hand, if_neg h]
set_option maxHeartbeats 4000000 in
set_option maxRecDepth 100000 in
theorem rMove_bad (P : Nat → Int) (f t k : Int) (w : World) (hbad : fltN P f t k ≠ 0) :
    Calls Tryz.prog 44 #[.agg (pc P).toArray, .agg #[.int .i64 f, .int .i64 t, .int .i64 k]] w fun e w' => e = .returned (.tuple #[.agg (pc (mvP P f t k)).toArray, .int .i64 (fltN (handP P) f t k)]) ∧ Below w.heap.size w w' := by
  obtain ⟨X, hX⟩ : ∃ X, X = (pc P).toArray := ⟨_, rfl⟩
  rw [flt_hand, mvP_bad P f t k hbad]
  obtain ⟨Z, hZ⟩ : ∃ Z, Z = (pc fun _ => 0).toArray := ⟨_, rfl⟩
  rw [← hX, ← hZ]
  have HI := Lib.hid (MA.begin w P f t k X hX)
  have HX := Lib.hid hX
  have HZ := Lib.hid hZ
  have M1 := Lib.hid (fun W => rIs8_any f W)
  have M2 := Lib.hid (fun W => rIs8_any t W)
  have HB6 := Lib.hid (flt_bad P f t k)
  have MC := Lib.hid (show sq f = true → sq t = true → ¬ f = t → (fltN P f t k = 8) ∧ ∀ W, Calls Tryz.prog 62 #[.agg X, .agg #[.int .i64 f, .int .i64 t, .int .i64 k]] W fun e w' => e = .returned (.bool false) ∧ Below W.heap.size W w' from fun h1 h2 h3 => by
    obtain ⟨a1, a2⟩ := (sq_iff _).1 h1
    obtain ⟨b1, b2⟩ := (sq_iff _).1 h2
    have hon := flt_on P f.toNat t.toNat k (by omega) (by omega) (by omega)
    rw [show ((f.toNat : Nat) : Int) = f by omega, show ((t.toNat : Nat) : Int) = t by omega] at hon
    have hc : (ownB P f.toNat && becB P f.toNat t.toNat k) = false := by
      cases h : (ownB P f.toNat && becB P f.toNat t.toNat k)
      · rfl
      · rw [h] at hon; exact absurd hon hbad
    rw [hc] at hon
    refine ⟨hon, fun W => ?_⟩
    have := rCan_any P f.toNat t.toNat k (by omega) (by omega) W
    rw [show ((f.toNat : Nat) : Int) = f by omega, show ((t.toNat : Nat) : Int) = t by omega, hc, ← hX] at this
    exact this)
  have hcases := sq_four f t
  clear hX hZ hbad
  generalize fltN P f t k = E at *
  go_enter Tryz.func44, Tryz.ntmps44
  go_upto_region 1 with (fail)
  refine forget_B (fun W => MA w W P f t k) HI.out ?_
  clear HI
  intro W hi
  have HI := Lib.hid hi
  clear hi
  obtain ⟨q0, q1, q2, qf, qz⟩ := row3 HI.out.m
  rcases hcases with h1 | ⟨h1, h2⟩ | ⟨h1, h2, rfl⟩ | ⟨h1, h2, hne⟩
  · have HE := Lib.hid (HB6.out (by rw [h1]; rfl))
    rw [h1] at M1
    clear h1 HB6 MC M2
    go_wp2_with fail
    refine (M1.out _).mono ?_
    rintro e w1 ⟨rfl, rfl⟩
    go_upto_region 2 with (fail)
    refine wp_region_lit ?_
    refine wpList_plain rfl (fun K hK => ?_)
    go_simp
    refine hK _ _ ?_
    clear hK K
    refine wpList_store_mid rfl 30 _ _ rfl (w.heap.size + 2) 0 (pc fun _ => 0).toArray rfl (congrArg Value.agg zeroPos) (by rw [pc_size]; exact HI.out.z.there) (by rw [infoPos, pc_size]) (pc_one _) ?_
    rw [List.toList_toArray]
    obtain ⟨hr1, hb1⟩ := HI.out.stored (Q := fun _ => 0)
    have HR := Lib.hid hr1
    have HB := Lib.hid hb1
    clear hr1 hb1 HI q0 q1 q2 qf qz
    refine forgetL_B (fun W => W.rangeAt (w.heap.size + 2) 0 (pc fun _ => 0) ∧ Below w.heap.size w W) ⟨HR.out, HB.out⟩ ?_
    clear HR HB
    rintro W8 ⟨hr1, hb1⟩
    have HR := Lib.hid hr1
    have HB := Lib.hid hb1
    clear hr1 hb1
    refine wpList_plain rfl (fun K hK => ?_)
    go_simp
    refine hK _ _ ?_
    clear hK K
    show Exit.then _ _ Exit.normal _ _
    refine ret_go (by assumption) ?_
    repeat (first | refine then_ret ?_ | refine block_ret ?_)
    refine bodyPost_ret (v := .tuple #[.agg (pc fun _ => 0).toArray, .int .i64 6]) ?_ rfl ⟨by rw [HZ.out, HE.out], HB.out⟩
    exact results_mid2 (p := 4) (u := 5) (ty := 30) rfl _ W8 (w.heap.size + 2) _ _ _ rfl rfl HR.out Tryz.underlying30 rfl (by rw [infoPos, pc_len])
  · have HE := Lib.hid (HB6.out (by rw [h2]; simp))
    rw [h1] at M1
    rw [h2] at M2
    clear h1 h2 HB6 MC
    go_wp2_with fail
    refine (M1.out _).mono ?_
    rintro e w1 ⟨rfl, rfl⟩
    go_wp2_with fail
    refine (M2.out _).mono ?_
    rintro e w1 ⟨rfl, rfl⟩
    go_upto_region 2 with (fail)
    refine wp_region_lit ?_
    refine wpList_plain rfl (fun K hK => ?_)
    go_simp
    refine hK _ _ ?_
    clear hK K
    refine wpList_store_mid rfl 30 _ _ rfl (w.heap.size + 2) 0 (pc fun _ => 0).toArray rfl (congrArg Value.agg zeroPos) (by rw [pc_size]; exact HI.out.z.there) (by rw [infoPos, pc_size]) (pc_one _) ?_
    rw [List.toList_toArray]
    obtain ⟨hr1, hb1⟩ := HI.out.stored (Q := fun _ => 0)
    have HR := Lib.hid hr1
    have HB := Lib.hid hb1
    clear hr1 hb1 HI q0 q1 q2 qf qz
    refine forgetL_B (fun W => W.rangeAt (w.heap.size + 2) 0 (pc fun _ => 0) ∧ Below w.heap.size w W) ⟨HR.out, HB.out⟩ ?_
    clear HR HB
    rintro W8 ⟨hr1, hb1⟩
    have HR := Lib.hid hr1
    have HB := Lib.hid hb1
    clear hr1 hb1
    refine wpList_plain rfl (fun K hK => ?_)
    go_simp
    refine hK _ _ ?_
    clear hK K
    show Exit.then _ _ Exit.normal _ _
    refine ret_go (by assumption) ?_
    repeat (first | refine then_ret ?_ | refine block_ret ?_)
    refine bodyPost_ret (v := .tuple #[.agg (pc fun _ => 0).toArray, .int .i64 6]) ?_ rfl ⟨by rw [HZ.out, HE.out], HB.out⟩
    exact results_mid2 (p := 4) (u := 5) (ty := 30) rfl _ W8 (w.heap.size + 2) _ _ _ rfl rfl HR.out Tryz.underlying30 rfl (by rw [infoPos, pc_len])
  · have HE := Lib.hid (HB6.out (by simp))
    rw [h1] at M1
    clear h1 h2 HB6 MC M2
    go_wp2_with fail
    refine (M1.out _).mono ?_
    rintro e w1 ⟨rfl, rfl⟩
    go_wp2_with fail
    refine (M1.out _).mono ?_
    rintro e w1 ⟨rfl, rfl⟩
    go_upto_region 2 with (fail)
    refine wp_region_lit ?_
    refine wpList_plain rfl (fun K hK => ?_)
    go_simp
    refine hK _ _ ?_
    clear hK K
    refine wpList_store_mid rfl 30 _ _ rfl (w.heap.size + 2) 0 (pc fun _ => 0).toArray rfl (congrArg Value.agg zeroPos) (by rw [pc_size]; exact HI.out.z.there) (by rw [infoPos, pc_size]) (pc_one _) ?_
    rw [List.toList_toArray]
    obtain ⟨hr1, hb1⟩ := HI.out.stored (Q := fun _ => 0)
    have HR := Lib.hid hr1
    have HB := Lib.hid hb1
    clear hr1 hb1 HI q0 q1 q2 qf qz
    refine forgetL_B (fun W => W.rangeAt (w.heap.size + 2) 0 (pc fun _ => 0) ∧ Below w.heap.size w W) ⟨HR.out, HB.out⟩ ?_
    clear HR HB
    rintro W8 ⟨hr1, hb1⟩
    have HR := Lib.hid hr1
    have HB := Lib.hid hb1
    clear hr1 hb1
    refine wpList_plain rfl (fun K hK => ?_)
    go_simp
    refine hK _ _ ?_
    clear hK K
    show Exit.then _ _ Exit.normal _ _
    refine ret_go (by assumption) ?_
    repeat (first | refine then_ret ?_ | refine block_ret ?_)
    refine bodyPost_ret (v := .tuple #[.agg (pc fun _ => 0).toArray, .int .i64 6]) ?_ rfl ⟨by rw [HZ.out, HE.out], HB.out⟩
    exact results_mid2 (p := 4) (u := 5) (ty := 30) rfl _ W8 (w.heap.size + 2) _ _ _ rfl rfl HR.out Tryz.underlying30 rfl (by rw [infoPos, pc_len])
  · have HE := Lib.hid (MC.out h1 h2 hne).1
    have MCC := Lib.hid (MC.out h1 h2 hne).2
    have hne2 : (f == t) = false := beq_eq_false_iff_ne.2 hne
    rw [h1] at M1
    rw [h2] at M2
    clear h1 h2 HB6 MC
    go_wp2_with fail
    refine (M1.out _).mono ?_
    rintro e w1 ⟨rfl, rfl⟩
    go_wp2_with fail
    refine (M2.out _).mono ?_
    rintro e w1 ⟨rfl, rfl⟩
    go_wp2_with (refine wpList_pos (by rfl) _ (by rfl) w.heap.size P X HX.out (by rfl) HI.out.p ?_)
    refine (MCC.out _).mono ?_
    rintro e w1 ⟨rfl, hb1⟩
    replace HI := Lib.hid (HI.out.go hb1)
    clear q0 q1 q2 qf qz hb1
    obtain ⟨q0, q1, q2, qf, qz⟩ := row3 HI.out.m
    go_upto_region 4 with (fail)
    refine wp_region_lit ?_
    refine wpList_plain rfl (fun K hK => ?_)
    go_simp
    refine hK _ _ ?_
    clear hK K
    refine wpList_store_mid rfl 30 _ _ rfl (w.heap.size + 2) 0 (pc fun _ => 0).toArray rfl (congrArg Value.agg zeroPos) (by rw [pc_size]; exact HI.out.z.there) (by rw [infoPos, pc_size]) (pc_one _) ?_
    rw [List.toList_toArray]
    obtain ⟨hr1, hb1⟩ := HI.out.stored (Q := fun _ => 0)
    have HR := Lib.hid hr1
    have HB := Lib.hid hb1
    clear hr1 hb1 HI q0 q1 q2 qf qz
    refine forgetL_B (fun W => W.rangeAt (w.heap.size + 2) 0 (pc fun _ => 0) ∧ Below w.heap.size w W) ⟨HR.out, HB.out⟩ ?_
    clear HR HB
    rintro W8 ⟨hr1, hb1⟩
    have HR := Lib.hid hr1
    have HB := Lib.hid hb1
    clear hr1 hb1
    refine wpList_plain rfl (fun K hK => ?_)
    go_simp
    refine hK _ _ ?_
    clear hK K
    show Exit.then _ _ Exit.normal _ _
    refine ret_go (by assumption) ?_
    repeat (first | refine then_ret ?_ | refine block_ret ?_)
    refine bodyPost_ret (v := .tuple #[.agg (pc fun _ => 0).toArray, .int .i64 8]) ?_ rfl ⟨by rw [HZ.out, HE.out], HB.out⟩
    exact results_mid2 (p := 4) (u := 5) (ty := 30) rfl _ W8 (w.heap.size + 2) _ _ _ rfl rfl HR.out Tryz.underlying30 rfl (by rw [infoPos, pc_len])
theorem rMove_any (P : Nat → Int) (f t k : Int) (w : World) :
    Calls Tryz.prog 44 #[.agg (pc P).toArray, .agg #[.int .i64 f, .int .i64 t, .int .i64 k]] w fun e w' => e = .returned (.tuple #[.agg (pc (mvP P f t k)).toArray, .int .i64 (fltN (handP P) f t k)]) ∧ Below w.heap.size w w' := by
  by_cases hbad : fltN P f t k ≠ 0
  · exact rMove_bad P f t k w hbad
  have h0 : fltN P f t k = 0 := by omega
  rcases flt_cases P f t k with h | ⟨_, a, b, rfl, rfl, ha, hb⟩
  · rcases h with h | h <;> omega
  have hab : a ≠ b := by
    rintro rfl
    have := flt_bad P a a k (by simp)
    omega
  have hon := flt_on P a b k ha hb hab
  have hc : (ownB P a && becB P a b k) = true := by
    cases h : (ownB P a && becB P a b k)
    · rw [h] at hon; rw [hon] at h0; exact absurd h0 (by decide)
    · rfl
  have hown : ownB P a = true := by simp only [Bool.and_eq_true] at hc; exact hc.1
  have hparts : P (2 * a + 1) = P 128 ∧ (P 128 = 0 ∨ P 128 = 1) := by
    unfold ownB sideB at hown
    simp only [Bool.and_eq_true, Bool.or_eq_true, beq_iff_eq] at hown
    exact ⟨hown.1.1.2, hown.1.1.1⟩
  have hn : ((a : Nat) : Int).toNat = a := Int.toNat_natCast a
  have hn2 : ((b : Nat) : Int).toNat = b := Int.toNat_natCast b
  have htk : tkP P a b k = tksN P a b := by rw [tkP_eq, if_pos h0, hn, hn2]
  have key := rMove_go P (a : Int) (b : Int) k (tksN P a b) (by omega) (by omega) (by omega) w (fun W => by have := rCan_any P a b k ha hb W; rw [hc] at this; exact this) htk
    (by rcases tks_cases P a b ha hb with h | ⟨n, h, hn⟩ <;> omega) (by rw [hn, Nat.mul_comm a 2, hparts.1]; exact hparts.2) _ rfl _ rfl _ rfl _ rfl
  rw [hn, hn2, Nat.mul_comm a 2] at key
  have hm : mvP P a b k = cmN (handP P) a b k := by unfold mvP; rw [flt_hand, if_pos h0, hn, hn2]
  rw [rm_eq P a b k (tksN P a b) _ _ _ _ ha hb rfl hparts.1 hparts.2 rfl rfl rfl (by omega)] at key
  rw [hm, flt_hand, h0]
  exact key
end Go.Proofs.YtcdnakbdajbfoaaGreatDoor

namespace Go.Proofs.YtcdnakbdajbfoaaGreatDoor
open Go.RowKit
set_option linter.unusedSimpArgs false
set_option linter.unusedVariables false
set_option maxRecDepth 20000

variable {P : Program} {α : Type}

def Comes2 (P : Program) (g : FuncId) (lb : Array Value) (N : Nat → Prop) (enc : α → Array Value) (xs : List α) (w : World) : Prop :=
  (∀ k, N k → k < w.heap.size) ∧ ∀ (l : Nat) (J Jx : List α → (Nat → Prop) → World → Prop) (X : Nat → Prop) (W : World), Below w.heap.size w W → (∀ k, X k → ¬ N k) →
    (∀ s X A B, J s X A → Spares W.heap.size X A B → J s X B) → (∀ s X A B, Jx s X A → Spares W.heap.size X A B → Jx s X B) →
    (∀ s X A, J s X A → ∀ k, X k → k < A.heap.size) →
    (∀ pre x X A, J pre X A → pre ++ [x] <+: xs → YieldAt Fence.wide 0 P l (enc x) A fun e B => ∃ Y, Turns X A B ∧ (∀ k, Y k → X k ∨ A.heap.size ≤ k) ∧
      ((e = .returned (.bool true) ∧ J (pre ++ [x]) Y B) ∨ (e = .returned (.bool false) ∧ Jx (pre ++ [x]) Y B))) →
    J [] X W →
    Calls P g (#[.func (.yield l) #[] #[]] ++ lb) W fun e B => (∃ v, e = .returned v) ∧ ∃ Y, J xs Y B ∨ ∃ pre, pre <+: xs ∧ Jx pre Y B
theorem Comes2.later {g : FuncId} {lb : Array Value} {N : Nat → Prop} {enc : α → Array Value} {xs : List α} {w w' : World} (h : Comes2 P g lb N enc xs w) (hb : Below w.heap.size w w') : Comes2 P g lb N enc xs w' :=
  ⟨fun k hk => Nat.lt_of_lt_of_le (h.1 k hk) hb.size, fun l J Jx X W hW => h.2 l J Jx X W (hb.trans (hW.mono hb.size))⟩

end Go.Proofs.YtcdnakbdajbfoaaGreatDoor

namespace Go.Proofs.YtcdnakbdajbfoaaGreatDoor
open Go.RowKit Go.Sort
set_option linter.unusedSimpArgs false
set_option linter.unusedVariables false
set_option maxRecDepth 20000

def posB (P : Nat → Int) : Bool := rightB P && !chkB P (oth (P 128))
def cstM (P : Nat → Int) (s n : Nat) : Bool := (P (s * 2) == 6) && (((n : Int) == (s : Int) + 2) || ((n : Int) == (s : Int) - 2))
def wayF (f b : Int) (i : Nat) : Int := if i = 0 then f else b
def freeB (P : Nat → Int) (s n : Nat) : Bool := !isAt P (oth (P 128)) (wayF (s : Int) (((s : Int) + (n : Int)) / 2)) 2
theorem way_reads (V : World) (f b : Int) : Reads (V.alloc (.cells #[.int .i64 f, .int .i64 b] 3)).heap.size (V.alloc (.cells #[.int .i64 f, .int .i64 b] 3)) (some ⟨V.heap.size, 0, none⟩) 2 (fun i => .int .i64 (wayF f b i)) := by
  refine .inr ⟨V.heap.size, 0, rfl, by simp, fun i hi => ?_⟩
  have h : (V.alloc (.cells #[.int .i64 f, .int .i64 b] 3)).heap[V.heap.size]? = some (.cells #[.int .i64 f, .int .i64 b] 3 (0, 0)) := sl_at rfl
  obtain ⟨q1, q2, _, _⟩ := row2 h
  rcases (show i = 0 ∨ i = 1 by omega) with rfl | rfl
  · exact q1
  · exact q2
structure JQ (B b : Nat) (P : Nat → Int) (w W : World) : Prop where
  p : PB W b P
  gb : GB B W
  gs : GS B W
  gm : GM B W
  gp : GP B W
  bel : Below w.heap.size w W
  k : B ≤ w.heap.size
theorem JQ.s {B b : Nat} {P : Nat → Int} {w W : World} (h : JQ B b P w W) : B ≤ W.heap.size := Nat.le_trans h.k h.bel.size
theorem JQ.go {B b : Nat} {P : Nat → Int} {w W W' : World} (h : JQ B b P w W) (g : Below W.heap.size W W') : JQ B b P w W' :=
  ⟨h.p.go g, h.gb.below (g.mono h.s), h.gs.below (g.mono h.s), h.gm.below (g.mono h.s), h.gp.below (g.mono h.s), h.bel.trans (g.mono h.bel.size), h.k⟩
theorem JQ.begin {B b : Nat} {P : Nat → Int} {w : World} (hp : PB w b P) (hb : GB B w) (hs : GS B w) (hm : GM B w) (hg : GP B w) (hB : B ≤ w.heap.size) : JQ B b P w w := ⟨hp, hb, hs, hm, hg, Below.refl _ _, hB⟩
theorem JQ.anew {B b : Nat} {P : Nat → Int} {w W : World} (h : JQ B b P w W) : JQ B b P W W := ⟨h.p, h.gb, h.gs, h.gm, h.gp, Below.refl _ _, h.s⟩
set_option maxHeartbeats 2000000 in
set_option maxRecDepth 100000 in
theorem jPos_any (B b : Nat) (P : Nat → Int) (w : World) (h : JQ B b P w w) :
    Calls Tryz.prog 38 #[.pointer (some ⟨b, 0, none⟩)] w fun e w' => e = .returned (.bool (posB P)) ∧ Below w.heap.size w w' := by
  obtain ⟨X, hX⟩ : ∃ X, X = (pc P).toArray := ⟨_, rfl⟩
  have HI := Lib.hid h
  obtain ⟨rb, hrb⟩ : ∃ x, rightB P = x := ⟨_, rfl⟩
  obtain ⟨ch, hch⟩ : ∃ x, chkB P (oth (P 128)) = x := ⟨_, rfl⟩
  obtain ⟨sd, hsd⟩ : ∃ x, P 128 = x := ⟨_, rfl⟩
  obtain ⟨od, hod⟩ : ∃ x, oth sd = x := ⟨_, rfl⟩
  have HV := Lib.hid (show posB P = (rb && !ch) by unfold posB; rw [hrb, hch])
  rw [hsd, hod] at hch
  have c4 : ∀ dd os, Calls Tryz.prog 49 #[.agg X] (grow (redrawn w dd) os) fun e w'' => e = .returned (.bool rb) ∧ ∃ p : Regrown, w'' = grow (redrawn w p.d) p.os := fun dd os => by
    subst hX; subst hrb
    exact Calls.regrown_of (right_any P _ B (HI.out.go (below_regrown w dd os)).gb (HI.out.go (below_regrown w dd os)).s)
  have c15 := regrown_same (w := w) (fun W => other_any sd W)
  rw [hod] at c15
  have c16 : ∀ dd os, Calls Tryz.prog 50 #[.agg X, .int .i64 od] (grow (redrawn w dd) os) fun e w'' => e = .returned (.bool ch) ∧ ∃ p : Regrown, w'' = grow (redrawn w p.d) p.os := fun dd os => by
    subst hX; subst hch
    exact Calls.regrown_of (chk_any P od _ B (HI.out.go (below_regrown w dd os)).gs (HI.out.go (below_regrown w dd os)).s)
  have e1 := cell_regrown (HI.out.p.cell 128 (by omega))
  rw [hsd] at e1
  have HCP := Lib.hid HI.out.p.regrown
  have HX := Lib.hid hX
  clear hX h hrb hch hsd hod
  go_enter Tryz.func38, Tryz.ntmps38
  go_upto_region 1 with (fail)
  cases rb
  · refine wp_region_quiet_below (by kernel_rfl) (by kernel_rfl) ?_
    iterate 3 (go_big_quiet_step (fail))
    refine wpQuiet_pos (by rfl) _ (by rfl) b P X HX.out (by rfl) HCP.out ?_
    try simp only [aP, sA, sZ, sS]
    go_big_quiet_step (exact c4 _ _)
    repeat (go_big_quiet_step (fail))
    refine wpQuiet_nil ?_
    rintro W9 ⟨pq, rfl⟩
    have HB := Lib.hid (below_regrown w pq.d pq.os)
    generalize grow (redrawn w pq.d) pq.os = W9 at HB ⊢
    go_wp2
    go_ret
    exact ⟨q_b (by rw [HV.out]; rfl), HB.out⟩
  · refine wp_region_quiet_below (by kernel_rfl) (by kernel_rfl) ?_
    iterate 3 (go_big_quiet_step (fail))
    refine wpQuiet_pos (by rfl) _ (by rfl) b P X HX.out (by rfl) HCP.out ?_
    try simp only [aP, sA, sZ, sS]
    go_big_quiet_step (exact c4 _ _)
    iterate 4 (go_big_quiet_step (fail))
    refine wpQuiet_pos (by rfl) _ (by rfl) b P X HX.out (by rfl) HCP.out ?_
    try simp only [aP, sA, sZ, sS]
    iterate 5 (go_big_quiet_step (fail))
    go_big_quiet_step (exact c15 _ _)
    go_big_quiet_step (exact c16 _ _)
    repeat (go_big_quiet_step (fail))
    refine wpQuiet_nil ?_
    rintro W9 ⟨pq, rfl⟩
    have HB := Lib.hid (below_regrown w pq.d pq.os)
    generalize grow (redrawn w pq.d) pq.os = W9 at HB ⊢
    go_wp2
    go_ret
    exact ⟨q_b (by rw [HV.out]; simp), HB.out⟩
set_option maxHeartbeats 2000000 in
set_option maxRecDepth 100000 in
theorem jCst_any (b : Nat) (P : Nat → Int) (s n : Nat) (k : Int) (hs : s < 64) (hn : n < 64) (w : World) (hp : PB w b P) :
    Calls Tryz.prog 82 #[.pointer (some ⟨b, 0, none⟩), .agg #[.int .i64 (s : Int), .int .i64 (n : Int), .int .i64 k]] w fun e w' => e = .returned (.bool (cstM P s n)) ∧ Below w.heap.size w w' := by
  have HP := Lib.hid (hp.go (below_new (w := w) (.cells #[.int .i64 (s : Int), .int .i64 (n : Int), .int .i64 k] 52)))
  have HM := Lib.hid (show (w.alloc (.cells #[.int .i64 (s : Int), .int .i64 (n : Int), .int .i64 k] 52)).heap[w.heap.size]? = some (.cells #[.int .i64 (s : Int), .int .i64 (n : Int), .int .i64 k] 52 (0, 0)) from sl_at rfl)
  have HB := Lib.hid (below_new (w := w) (.cells #[.int .i64 (s : Int), .int .i64 (n : Int), .int .i64 k] 52))
  have s0 : (0 : Int) ≤ s := by omega
  have s1 : (s : Int) < 64 := by omega
  have hw1 : IntKind.i64.wrap ((s : Int) + 2) = (s : Int) + 2 := IntWalk.i64_in _ (by omega)
  have hw2 : IntKind.i64.wrap ((s : Int) - 2) = (s : Int) - 2 := IntWalk.i64_in _ (by omega)
  obtain ⟨kk, hkk⟩ : ∃ x, P (s * 2) = x := ⟨_, rfl⟩
  have HV := Lib.hid (show cstM P s n = ((kk == 6) && (((n : Int) == (s : Int) + 2) || ((n : Int) == (s : Int) - 2))) by unfold cstM; rw [hkk])
  have e1 := HP.out.cell (s * 2) (by omega)
  rw [hkk] at e1
  obtain ⟨m0, m1, m2, mf, mz⟩ := row3 HM.out
  clear hp hkk hn hs
  go_enter Tryz.func82, Tryz.ntmps82
  go_upto_region 1 with (fail)
  generalize w.alloc (.cells #[.int .i64 (s : Int), .int .i64 (n : Int), .int .i64 k] 52) = W at *
  generalize w.heap.size = mb at m0 m1 m2 mf mz HM ⊢
  replace m0 := cell_regrown m0
  replace m1 := cell_regrown m1
  replace e1 := cell_regrown e1
  clear m2 mf mz HM HP
  have FIN : ∀ (v : Bool) (pq : Regrown), v = cstM P s n → True := fun _ _ _ => trivial
  clear FIN
  by_cases h6 : kk = 6
  · subst h6
    by_cases h2 : (n : Int) = (s : Int) + 2
    · have h2b : ((n : Int) == (s : Int) + 2) = true := by simpa using h2
      rw [h2b] at HV
      clear h2
      refine wp_region_quiet_below (by kernel_rfl) (by kernel_rfl) ?_
      repeat (go_big_quiet_step (fail))
      refine wpQuiet_nil ?_
      rintro W9 ⟨pq, rfl⟩
      have HB9 := Lib.hid (HB.out.trans ((below_regrown W pq.d pq.os).mono HB.out.size))
      generalize grow (redrawn W pq.d) pq.os = W9 at HB9 ⊢
      go_wp2
      go_ret
      exact ⟨q_b (by rw [HV.out]; rfl), HB9.out⟩
    · have h2b : ((n : Int) == (s : Int) + 2) = false := by simpa using h2
      rw [h2b] at HV
      clear h2
      refine wp_region_quiet_below (by kernel_rfl) (by kernel_rfl) ?_
      repeat (go_big_quiet_step (fail))
      refine wpQuiet_nil ?_
      rintro W9 ⟨pq, rfl⟩
      have HB9 := Lib.hid (HB.out.trans ((below_regrown W pq.d pq.os).mono HB.out.size))
      generalize grow (redrawn W pq.d) pq.os = W9 at HB9 ⊢
      go_wp2
      go_ret
      exact ⟨q_b (by rw [HV.out]; simp), HB9.out⟩
  · have h6b : (kk == 6) = false := by simp [h6]
    rw [h6b] at HV
    clear h6
    refine wp_region_quiet_below (by kernel_rfl) (by kernel_rfl) ?_
    repeat (go_big_quiet_step (fail))
    refine wpQuiet_nil ?_
    rintro W9 ⟨pq, rfl⟩
    have HB9 := Lib.hid (HB.out.trans ((below_regrown W pq.d pq.os).mono HB.out.size))
    generalize grow (redrawn W pq.d) pq.os = W9 at HB9 ⊢
    go_wp2
    go_ret
    exact ⟨q_b (by rw [HV.out]; rfl), HB9.out⟩
set_option maxHeartbeats 4000000 in
set_option maxRecDepth 100000 in
theorem jFree_any (B b : Nat) (P : Nat → Int) (s n : Nat) (k : Int) (hs : s < 64) (hn : n < 64) (w : World) (h : JQ B b P w w) :
    Calls Tryz.prog 83 #[.pointer (some ⟨b, 0, none⟩), .agg #[.int .i64 (s : Int), .int .i64 (n : Int), .int .i64 k]] w fun e w' => e = .returned (.bool (freeB P s n)) ∧ Below w.heap.size w w' := by
  obtain ⟨X, hX⟩ : ∃ X, X = (pc P).toArray := ⟨_, rfl⟩
  have HJ := Lib.hid (h.go (below_new (w := w) (.cells #[.int .i64 (s : Int), .int .i64 (n : Int), .int .i64 k] 52)))
  have HM := Lib.hid (show (w.alloc (.cells #[.int .i64 (s : Int), .int .i64 (n : Int), .int .i64 k] 52)).heap[w.heap.size]? = some (.cells #[.int .i64 (s : Int), .int .i64 (n : Int), .int .i64 k] 52 (0, 0)) from sl_at rfl)
  obtain ⟨bt, hbt⟩ : ∃ x, ((s : Int) + (n : Int)) / 2 = x := ⟨_, rfl⟩
  have hw1 : IntKind.i64.wrap ((s : Int) + (n : Int)) = (s : Int) + (n : Int) := IntWalk.i64_in _ (by omega)
  have hd1 : ((s : Int) + (n : Int)).tdiv 2 = bt := by rw [Int.tdiv_eq_ediv_of_nonneg (by omega)]; exact hbt
  have hw2 : wrap64 bt = bt := by unfold wrap64; omega
  obtain ⟨sd, hsd⟩ : ∃ x, P 128 = x := ⟨_, rfl⟩
  have HIS := Lib.hid (fun W p n c f hn hr hg hB => isA_any W.heap.size P (oth sd) p n c f W hn hr hg hB)
  rw [← hX] at HIS
  have HV := Lib.hid (show freeB P s n = !isAt P (oth sd) (wayF (s : Int) bt) 2 by unfold freeB; rw [hsd, hbt])
  have HSD := Lib.hid hsd
  have HX := Lib.hid hX
  clear hX h hbt hsd hn hs
  go_enter Tryz.func83, Tryz.ntmps83
  go_upto_region 1 with (fail)
  generalize w.alloc (.cells #[.int .i64 (s : Int), .int .i64 (n : Int), .int .i64 k] 52) = W at *
  obtain ⟨m0, m1, m2, mf, mz⟩ := row3 HM.out
  go_upto_region 2 with (fail)
  simp only [hw2]
  clear m0 m1 m2 mf mz hw1 hd1 hw2
  obtain ⟨mb, hmb⟩ : ∃ x, w.heap.size = x := ⟨_, rfl⟩
  rw [hmb] at HM
  simp only [hmb]
  clear hmb
  refine wp_region_noPanic ?_
  refine wp_region_start (n := 17) (l := #[false, false, false, false, false, false, false, false, false, false, false, false, false, false, false, false, false]) (S := (fun W => JQ B b P w W ∧ W.heap[mb]? = some (.cells #[.int .i64 (s : Int), .int .i64 (n : Int), .int .i64 k] 52 (0, 0)))) (by kernel_rfl) rfl (by kernel_rfl) (by first | exact ⟨HJ.out, HM.out⟩ | exact ⟨HJ.out.go (Below.refl _ _).drew, sl_go HM.out (Below.refl _ _).drew⟩) (fun hHeld => ?_)
  replace HJ := Lib.hid (HJ.out.go (Below.refl W.heap.size W).drew)
  replace HM := Lib.hid (sl_go HM.out (Below.refl W.heap.size W).drew)
  generalize W.drew = V at *
  refine tq (i := 0) (d := some 12) rfl rfl ?_
  try simp only [aP, sA, sZ, sS]
  refine tq (i := 1) (d := some 13) rfl rfl ?_
  try simp only [aP, sA, sZ, sS]
  refine tq (i := 2) (d := some 14) rfl rfl ?_
  try simp only [aP, sA, sZ, sS]
  refine tg (i := 3) (d := some 15) (v := (.agg X)) rfl rfl ?_ ?_
  · exact yields_posC (by rfl) _ (by rfl) b P X HX.out (by rfl) (fun W h => h.1.p)
  try simp only [aP, sA, sZ, sS]
  refine tq (i := 4) (d := some 16) rfl rfl ?_
  try simp only [aP, sA, sZ, sS]
  refine tq (i := 5) (d := some 17) rfl rfl ?_
  try simp only [aP, sA, sZ, sS]
  refine tq (i := 6) (d := some 18) rfl rfl ?_
  try simp only [aP, sA, sZ, sS]
  refine tq (i := 7) (d := some 19) rfl rfl ?_
  try simp only [aP, sA, sZ, sS]
  refine tg (i := 8) (d := some 20) (v := (.int .i64 sd)) rfl rfl ?_ ?_
  · refine Or.inl ⟨by rfl, ?_⟩; intro w' hSw; (try dsimp only at hSw); have e1 := hSw.1.p.cell 128 (by omega); rw [HSD.out] at e1; go_simp
  try simp only [aP, sA, sZ, sS]
  refine tq (i := 10) (d := some 22) rfl rfl ?_
  try simp only [aP, sA, sZ, sS]
  refine tg (i := 11) (d := some 23) (v := (.int .i64 (s : Int))) rfl rfl ?_ ?_
  · refine Or.inl ⟨by rfl, ?_⟩; intro w' hSw; (try dsimp only at hSw); obtain ⟨m0, m1, m2, mf, mz⟩ := row3 hSw.2; go_simp
  try simp only [aP, sA, sZ, sS]
  refine tq (i := 12) (d := some 24) rfl rfl ?_
  try simp only [aP, sA, sZ, sS]
  refine wg (i := 9) (j := 13) rfl rfl (by kernel_rfl) (fun K hK => ?_) (fun K hK => ?_)
  · skip
    go_simp
    refine (other_any sd _).mono ?_
    rintro e V ⟨rfl, rfl⟩
    dsimp only
    refine hK.out _ _ (by first | exact ⟨HJ.out, HM.out⟩ | exact ⟨HJ.out.go (Below.refl _ _).drew, sl_go HM.out (Below.refl _ _).drew⟩) (fun hHeld => ?_)
    clear hK K
    try simp only [aP, sA, sZ, sS]
    refine og (i := 13) rfl (by kernel_rfl) (fun K hK => ?_)
    go_simp
    have hb : Below V.heap.size V (V.alloc (.cells #[.int .i64 (s : Int), .int .i64 bt] 3)) := below_new _
    have HRW := Lib.hid (show Reads (V.alloc (.cells #[.int .i64 (s : Int), .int .i64 bt] 3)).heap.size (V.alloc (.cells #[.int .i64 (s : Int), .int .i64 bt] 3)) (some ⟨V.heap.size, 0, none⟩) 2 (fun i => .int .i64 (wayF (s : Int) bt i)) from way_reads _ _ _)
    replace HJ := Lib.hid (HJ.out.go hb)
    replace HM := Lib.hid (sl_go HM.out hb)
    clear hb
    generalize V.alloc (.cells #[.int .i64 (s : Int), .int .i64 bt] 3) = V at *
    refine hK.out _ _ (by first | exact ⟨HJ.out, HM.out⟩ | exact ⟨HJ.out.go (Below.refl _ _).drew, sl_go HM.out (Below.refl _ _).drew⟩) (fun hHeld => ?_)
    clear hK K
    try simp only [aP, sA, sZ, sS]
    refine og (i := 14) rfl (by kernel_rfl) (fun K hK => ?_)
    go_simp
    refine (HIS.out _ _ 2 2 _ (by omega) HRW.out (HJ.out.gs.mono HJ.out.s) (Nat.le_refl _)).mono ?_
    rintro e V ⟨rfl, hb⟩
    replace HJ := Lib.hid (HJ.out.go hb)
    replace HM := Lib.hid (sl_go HM.out hb)
    clear hb HRW
    dsimp only
    refine hK.out _ _ (by first | exact ⟨HJ.out, HM.out⟩ | exact ⟨HJ.out.go (Below.refl _ _).drew, sl_go HM.out (Below.refl _ _).drew⟩) (fun hHeld => ?_)
    clear hK K
    try simp only [aP, sA, sZ, sS]
    refine tq (i := 15) (d := some 27) rfl rfl ?_
    try simp only [aP, sA, sZ, sS]
    refine tq (i := 16) (d := some 4) rfl rfl ?_
    try simp only [aP, sA, sZ, sS]
    refine wpAnyH_done (by kernel_rfl) ?_ _
    refine NoPanic.normal ?_
    clear hHeld
    go_wp2
    go_ret
    exact ⟨q_b HV.out.symm, HJ.out.bel⟩
  · skip
    go_simp
    have hb : Below V.heap.size V (V.alloc (.cells #[.int .i64 (s : Int), .int .i64 bt] 3)) := below_new _
    have HRW := Lib.hid (show Reads (V.alloc (.cells #[.int .i64 (s : Int), .int .i64 bt] 3)).heap.size (V.alloc (.cells #[.int .i64 (s : Int), .int .i64 bt] 3)) (some ⟨V.heap.size, 0, none⟩) 2 (fun i => .int .i64 (wayF (s : Int) bt i)) from way_reads _ _ _)
    replace HJ := Lib.hid (HJ.out.go hb)
    replace HM := Lib.hid (sl_go HM.out hb)
    clear hb
    generalize V.alloc (.cells #[.int .i64 (s : Int), .int .i64 bt] 3) = V at *
    refine hK.out _ _ (by first | exact ⟨HJ.out, HM.out⟩ | exact ⟨HJ.out.go (Below.refl _ _).drew, sl_go HM.out (Below.refl _ _).drew⟩) (fun hHeld => ?_)
    clear hK K
    try simp only [aP, sA, sZ, sS]
    refine og (i := 9) rfl (by kernel_rfl) (fun K hK => ?_)
    go_simp
    refine (other_any sd _).mono ?_
    rintro e V ⟨rfl, rfl⟩
    dsimp only
    refine hK.out _ _ (by first | exact ⟨HJ.out, HM.out⟩ | exact ⟨HJ.out.go (Below.refl _ _).drew, sl_go HM.out (Below.refl _ _).drew⟩) (fun hHeld => ?_)
    clear hK K
    try simp only [aP, sA, sZ, sS]
    refine og (i := 14) rfl (by kernel_rfl) (fun K hK => ?_)
    go_simp
    refine (HIS.out _ _ 2 2 _ (by omega) HRW.out (HJ.out.gs.mono HJ.out.s) (Nat.le_refl _)).mono ?_
    rintro e V ⟨rfl, hb⟩
    replace HJ := Lib.hid (HJ.out.go hb)
    replace HM := Lib.hid (sl_go HM.out hb)
    clear hb HRW
    dsimp only
    refine hK.out _ _ (by first | exact ⟨HJ.out, HM.out⟩ | exact ⟨HJ.out.go (Below.refl _ _).drew, sl_go HM.out (Below.refl _ _).drew⟩) (fun hHeld => ?_)
    clear hK K
    try simp only [aP, sA, sZ, sS]
    refine tq (i := 15) (d := some 27) rfl rfl ?_
    try simp only [aP, sA, sZ, sS]
    refine tq (i := 16) (d := some 4) rfl rfl ?_
    try simp only [aP, sA, sZ, sS]
    refine wpAnyH_done (by kernel_rfl) ?_ _
    refine NoPanic.normal ?_
    clear hHeld
    go_wp2
    go_ret
    exact ⟨q_b HV.out.symm, HJ.out.bel⟩
end Go.Proofs.YtcdnakbdajbfoaaGreatDoor
