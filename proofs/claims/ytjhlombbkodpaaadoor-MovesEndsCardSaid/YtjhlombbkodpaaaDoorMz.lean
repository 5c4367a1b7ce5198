/-
  The law MovesEnds: its walk.
-/
import Derived.Test.YtjhlombbkodpaaaDoorMy
import Derived.Deep.CutRange
import Derived.Deep.CutBlock
namespace Go.Proofs.YtjhlombbkodpaaaDoor
open Go.RowKit Go.Sort
set_option linter.unusedSimpArgs false
set_option linter.unusedVariables false
set_option maxRecDepth 20000

/-- what the packages' variables hold -/
structure E0 (B : Nat) (w W : World) : Prop where
  gs : GS B W
  gm : GM B W
  bel : Below w.heap.size w W
  k : B ≤ w.heap.size
theorem E0.s {B : Nat} {w W : World} (h : E0 B w W) : B ≤ W.heap.size := Nat.le_trans h.k h.bel.size
theorem E0.go {B : Nat} {w W W' : World} (h : E0 B w W) (g : Below W.heap.size W W') : E0 B w W' :=
  ⟨h.gs.below (g.mono h.s), h.gm.below (g.mono h.s), h.bel.trans (g.mono h.bel.size), h.k⟩
/-- .. and some position in a block -/
structure EX (B b1 : Nat) (w W : World) : Prop where
  e : E0 B w W
  p : ∃ P, PB W b1 P
  l : w.heap.size ≤ b1
theorem EX.gs {B b1 : Nat} {w W : World} (h : EX B b1 w W) : GS B W := h.e.gs
theorem EX.gm {B b1 : Nat} {w W : World} (h : EX B b1 w W) : GM B W := h.e.gm
theorem EX.s {B b1 : Nat} {w W : World} (h : EX B b1 w W) : B ≤ W.heap.size := h.e.s
theorem EX.bel {B b1 : Nat} {w W : World} (h : EX B b1 w W) : Below w.heap.size w W := h.e.bel
theorem EX.go {B b1 : Nat} {w W W' : World} (h : EX B b1 w W) (g : Below W.heap.size W W') : EX B b1 w W' := by
  obtain ⟨P, hp⟩ := h.p
  exact ⟨h.e.go g, ⟨P, hp.go g⟩, h.l⟩
theorem EX.set1 {B b1 : Nat} {w W : World} (h : EX B b1 w W) (i : Nat) (x : Int) (hi : i < 133) : EX B b1 w (W.setCell ⟨b1, i, none⟩ (.int .i64 x)) := by
  obtain ⟨P, hp⟩ := h.p
  have hb : Below w.heap.size W (W.setCell ⟨b1, i, none⟩ (.int .i64 x)) := (Below.refl _ W).setCell (p := ⟨b1, i, none⟩) h.l _
  exact ⟨⟨h.e.gs.below (hb.mono h.e.k), h.e.gm.below (hb.mono h.e.k), h.e.bel.trans hb, h.e.k⟩, ⟨_, hp.set i x hi⟩, h.l⟩
theorem EX.set2 {B b1 : Nat} {w W : World} (h : EX B b1 w W) (i j : Nat) (x y : Int) (hi : i < 133) (hj : j < 133) : EX B b1 w ((W.setCell ⟨b1, i, none⟩ (.int .i64 x)).setCell ⟨b1, j, none⟩ (.int .i64 y)) := (h.set1 i x hi).set1 j y hj
theorem EX.alloc {B b1 : Nat} {w W : World} (h : EX B b1 w W) (o : Obj) : EX B b1 w (W.alloc o) := h.go (below_new o)
theorem EX.drew {B b1 : Nat} {w W : World} (h : EX B b1 w W) : EX B b1 w W.drew := h.go (Below.refl _ _).drew
/-- .. and one more, behind it -/
structure EY (B b1 b5 : Nat) (w W : World) : Prop where
  t : EX B b1 w W
  q : ∃ Q, PB W b5 Q
  g : b1 < b5
theorem EY.go {B b1 b5 : Nat} {w W W' : World} (h : EY B b1 b5 w W) (g : Below W.heap.size W W') : EY B b1 b5 w W' := by
  obtain ⟨Q, hq⟩ := h.q
  exact ⟨h.t.go g, ⟨Q, hq.go g⟩, h.g⟩
theorem EY.alloc {B b1 b5 : Nat} {w W : World} (h : EY B b1 b5 w W) (o : Obj) : EY B b1 b5 w (W.alloc o) := h.go (below_new o)
theorem EY.set1 {B b1 b5 : Nat} {w W : World} (h : EY B b1 b5 w W) (i : Nat) (x : Int) (hi : i < 133) : EY B b1 b5 w (W.setCell ⟨b5, i, none⟩ (.int .i64 x)) := by
  obtain ⟨Q, hq⟩ := h.q
  obtain ⟨P, hp⟩ := h.t.p
  have hb : Below b5 W (W.setCell ⟨b5, i, none⟩ (.int .i64 x)) := (Below.refl _ W).setCell (p := ⟨b5, i, none⟩) (Nat.le_refl _) _
  have h1 := h.t.l
  have h2 := h.t.e.k
  have h3 := h.g
  exact ⟨⟨⟨h.t.e.gs.below (hb.mono (by omega)), h.t.e.gm.below (hb.mono (by omega)), h.t.e.bel.trans (hb.mono (by omega)), h.t.e.k⟩, ⟨P, hp.below hb h.g⟩, h.t.l⟩, ⟨_, hq.set i x hi⟩, h.g⟩
theorem EY.set2 {B b1 b5 : Nat} {w W : World} (h : EY B b1 b5 w W) (i j : Nat) (x y : Int) (hi : i < 133) (hj : j < 133) : EY B b1 b5 w ((W.setCell ⟨b5, i, none⟩ (.int .i64 x)).setCell ⟨b5, j, none⟩ (.int .i64 y)) := (h.set1 i x hi).set1 j y hj
def begN (d : Int) (i : Nat) : Int := if i = 128 then d else if i = 130 then -1 else 0
theorem beg_built (d : Int) : (Tryd.zeroCells29.setIfInBounds 128 (.int .i64 d)).setIfInBounds 130 (.int .i64 (-1)) = (pc (begN d)).toArray := by kernel_rfl
set_option maxHeartbeats 400000000 in
set_option maxRecDepth 100000 in
theorem ends9_any (w : World) (B : Nat) (hs : GS B w) (hm : GM B w) (hB : B ≤ w.heap.size) :
    Calls Tryd.prog 4 #[] w fun e w' => e = .returned (.bool true) ∧ Below w.heap.size w w' := by
  have HA0 := Lib.hid (fun P W h1 h2 h3 => all_any P W B h1 h2 h3)
  have RA0 := Lib.hid (fun P W => rAll9_any P W)
  have MT0 := Lib.hid (fun P s a b c a' b' c' W h1 h2 h3 => tell9_any P s a b c a' b' c' W B h1 h2 h3)
  have AW := Lib.hid (fun W h1 h2 h3 => awake9_any W B h1 h2 h3)
  have HI := Lib.hid (show E0 B w w from ⟨hs, hm, Below.refl _ _, hB⟩)
  clear hs hm hB
  go_enter Tryd.func4, Tryd.ntmps4
  go_wp2
  go_loopw [1] (fun v wr => ∃ n : Nat, n ≤ 3072 ∧ v = .int .i64 (n : Int) ∧ E0 B w wr) (fun v _ => 3072 - (intOf v).toNat)
  case atStart => exact ⟨0, Nat.zero_le _, rfl, HI.out⟩
  case round =>
    clear HI
    obtain ⟨n, hn, rfl, h1⟩ := hrel
    have HI := Lib.hid h1
    clear h1
    by_cases hlt : n < 3072
    · have HN := Lib.hid hlt
      obtain ⟨s, hs⟩ : ∃ s : Nat, n % 64 = s := ⟨_, rfl⟩
      obtain ⟨NI, hNI⟩ : ∃ x : Int, (n : Int) = x := ⟨_, rfl⟩
      obtain ⟨q1, hq1⟩ : ∃ x : Int, NI / 64 = x := ⟨_, rfl⟩
      obtain ⟨sd, hsd⟩ : ∃ x : Int, q1 % 2 = x := ⟨_, rfl⟩
      obtain ⟨q2, hq2⟩ : ∃ x : Int, NI / 128 = x := ⟨_, rfl⟩
      obtain ⟨k6, hk6⟩ : ∃ x : Int, q2 % 6 = x := ⟨_, rfl⟩
      obtain ⟨q3, hq3⟩ : ∃ x : Int, NI / 3 = x := ⟨_, rfl⟩
      obtain ⟨r3, hr3⟩ : ∃ x : Int, q3 % 2 = x := ⟨_, rfl⟩
      obtain ⟨r5, hr5⟩ : ∃ x : Int, NI % 5 = x := ⟨_, rfl⟩
      obtain ⟨on, hon⟩ : ∃ x : Int, 8 - 16 * sd = x := ⟨_, rfl⟩
      have l0 : NI < 3072 := by omega
      have ln0 : 0 ≤ NI := by omega
      have a1 : NI.tmod 64 = (s : Int) := by rw [Int.tmod_eq_emod_of_nonneg (by omega)]; omega
      have a2 : NI.tdiv 64 = q1 := by rw [Int.tdiv_eq_ediv_of_nonneg (by omega)]; exact hq1
      have a3 : wrap64 q1 = q1 := by unfold wrap64; omega
      have a4 : q1.tmod 2 = sd := by rw [Int.tmod_eq_emod_of_nonneg (by omega)]; exact hsd
      have a5 : NI.tdiv 128 = q2 := by rw [Int.tdiv_eq_ediv_of_nonneg (by omega)]; exact hq2
      have a6 : wrap64 q2 = q2 := by unfold wrap64; omega
      have a7 : q2.tmod 6 = k6 := by rw [Int.tmod_eq_emod_of_nonneg (by omega)]; exact hk6
      have a8 : wrap64 (1 + k6) = 1 + k6 := by unfold wrap64; omega
      have a9 : NI.tdiv 3 = q3 := by rw [Int.tdiv_eq_ediv_of_nonneg (by omega)]; exact hq3
      have b1' : wrap64 q3 = q3 := by unfold wrap64; omega
      have b2' : q3.tmod 2 = r3 := by rw [Int.tmod_eq_emod_of_nonneg (by omega)]; exact hr3
      have b3' : NI.tmod 5 = r5 := by rw [Int.tmod_eq_emod_of_nonneg (by omega)]; exact hr5
      have c1 : wrap64 (16 * sd) = 16 * sd := by unfold wrap64; omega
      have c2 : wrap64 (8 - 16 * sd) = on := by rw [hon]; unfold wrap64; omega
      have HON := Lib.hid (show on = 8 ∨ on = -8 by omega)
      have HS := Lib.hid (show s < 64 by omega)
      have s0 : (0 : Int) ≤ s := by omega
      have s1 : (s : Int) < 64 := by omega
      have HNI := Lib.hid hNI
      rw [hNI]
      clear hs hNI hq1 hsd hq2 hk6 hq3 hr3 hr5 hon hlt hn
      have hbg := beg_built sd
      obtain ⟨E, hE⟩ : ∃ E, E = (pc (begN sd)).toArray := ⟨_, rfl⟩
      rw [← hE] at hbg
      have HE := Lib.hid hE
      clear hE
      go_wp2_with (refine wpList_new E (begN sd) HE.out (by rfl) (by rfl) ?_)
      intro Wa hq hb hz
      try simp only [Act.put, List.setIfInBounds_toArray, List.set_cons_zero, List.set_cons_succ]
      have HX := Lib.hid (show EX B wr.heap.size w Wa from ⟨HI.out.go hb, ⟨_, hq⟩, HI.out.bel.size⟩)
      generalize wr.heap.size = b1 at HX ⊢
      clear hq hb hz HI HE hbg
      obtain ⟨P0, hp0⟩ := HX.out.p
      have e1 := hp0.cell (s * 2) (by have := HS.out; omega)
      have e2 := hp0.cell (s * 2 + 1) (by have := HS.out; omega)
      have fz := hp0.fr
      go_upto_region 7 with (fail)
      refine forget_B (fun W => EX B b1 w W) (HX.out.set2 (s * 2) (s * 2 + 1) _ _ (by have := HS.out; omega) (by have := HS.out; omega)) ?_
      clear HX hp0 e1 e2 fz P0
      intro Wb h
      have HX := Lib.hid h
      clear h
      go_upto_region 8 with (fail)
      simp only [a3, a6, a8, c1, c2]
      clear a1 a2 a3 a4 a5 a6 a7 a8 c1 c2
      go_wp2
      go_loopw [6] (fun v wr => ∃ k : Nat, k ≤ 4 ∧ v = .int .i64 (k : Int) ∧ EX B b1 w wr) (fun v _ => 4 - (intOf v).toNat)
      case atStart => exact ⟨0, Nat.zero_le _, rfl, HX.out⟩
      case round =>
        clear HX
        obtain ⟨k, hk, rfl, h1⟩ := hrel
        have HX := Lib.hid h1
        clear h1
        by_cases hk4 : k < 4
        · have HK := Lib.hid hk4
          have hki : (k : Int) < 4 := by omega
          have hon := HON.out
          have t1 : wrap64 (2 * on) = 2 * on := by unfold wrap64; omega
          have t2 : wrap64 (on - 1) = on - 1 := by unfold wrap64; omega
          have t3 : wrap64 (on + 1) = on + 1 := by unfold wrap64; omega
          have t4 : wrap64 ((s : Int) + on) = s + on := by unfold wrap64; omega
          have t5 : wrap64 ((s : Int) + 2 * on) = s + 2 * on := by unfold wrap64; omega
          have t6 : wrap64 ((s : Int) + (on - 1)) = s + (on - 1) := by unfold wrap64; omega
          have t7 : wrap64 ((s : Int) + (on + 1)) = s + (on + 1) := by unfold wrap64; omega
          clear hon hk
          go_upto_region 11 with (fail)
          go_cut [7] from 44 to 56 (fun v wx => ∃ t : Int, -100 ≤ t ∧ t ≤ 200 ∧ v = .int .i64 t ∧ EX B b1 w wx)
          case first =>
            rcases (show k = 0 ∨ k = 1 ∨ k = 2 ∨ k = 3 by omega) with rfl | rfl | rfl | rfl
            all_goals
              go_wp2_with fail
              go_meet
              refine ⟨_, ?_, ?_, rfl, HX.out.alloc _⟩
              all_goals (have hon := HON.out; omega)
          case rest =>
          obtain ⟨t, ht0, ht1, rfl, h1⟩ := hcut
          replace HX := Lib.hid h1
          clear h1 t1 t2 t3 t4 t5 t6 t7
          go_upto_region 12 with (fail)
          go_cut [70] from 57 to 70 (fun v wx => ∃ b : Bool, v = .bool b ∧ (b = true → 0 ≤ t ∧ t < 64) ∧ EX B b1 w wx)
          case first =>
            by_cases ht : 0 ≤ t
            · by_cases ht6 : t < 64
              · rcases (show k = 0 ∨ k = 1 ∨ k = 2 ∨ k = 3 by omega) with rfl | rfl | rfl | rfl
                all_goals
                  go_wp2_with fail
                  go_meet
                  exact ⟨_, rfl, fun _ => ⟨ht, ht6⟩, HX.out⟩
              · go_wp2_with fail
                go_meet
                exact ⟨false, rfl, (fun h => by cases h), HX.out⟩
            · go_wp2_with fail
              go_meet
              exact ⟨false, rfl, (fun h => by cases h), HX.out⟩
          case rest =>
          obtain ⟨bb, rfl, hbb, h1⟩ := hcut
          replace HX := Lib.hid h1
          clear h1
          cases bb
          · clear hbb ht0 ht1
            go_wp2
            go_roundw
            case rel => exact ⟨k + 1, by have := HK.out; omega, by go_num, HX.out⟩
            case measure => have := HK.out; simp [intOf]; omega
          · obtain ⟨u0, u1⟩ := hbb rfl
            obtain ⟨u, rfl⟩ := Int.eq_ofNat_of_zero_le u0
            obtain ⟨P0, hp0⟩ := HX.out.p
            have HU := Lib.hid (show u < 64 by omega)
            have e1 := hp0.cell (u * 2) (by omega)
            have e2 := hp0.cell (u * 2 + 1) (by omega)
            have fz := hp0.fr
            clear hbb ht0 ht1 hp0
            go_wp2
            go_roundw
            case rel => exact ⟨k + 1, by have := HK.out; omega, by go_num, HX.out.set2 (u * 2) (u * 2 + 1) _ _ (by have := HU.out; omega) (by have := HU.out; omega)⟩
            case measure => have := HK.out; simp [intOf]; omega
        · obtain rfl : k = 4 := by omega
          rw [show ((4 : Nat) : Int) = 4 from rfl]
          have hon := HON.out
          obtain ⟨o, ho⟩ : ∃ o : Int, (s : Int) + on + 1 = o := ⟨_, rfl⟩
          have t4 : wrap64 ((s : Int) + on) = s + on := by unfold wrap64; omega
          have t5 : wrap64 ((s : Int) + on + 1) = o := by rw [ho]; unfold wrap64; omega
          clear hon ho
          go_upto_region 15 with (fail)
          simp only [t4, t5]
          clear t4 t5
          go_cut [92] from 82 to 92 (fun v wx => ∃ b : Bool, v = .bool b ∧ (b = true → 0 ≤ o ∧ o < 64) ∧ EX B b1 w wx)
          case first =>
            by_cases h5 : r5 = 0
            · have h5b : (r5 == 0) = true := by simpa using h5
              by_cases ho : 0 ≤ o
              · by_cases ho6 : o < 64
                · go_wp2_with fail
                  go_meet
                  exact ⟨true, rfl, fun _ => ⟨ho, ho6⟩, HX.out⟩
                · go_wp2_with fail
                  go_meet
                  exact ⟨false, rfl, (fun h => by cases h), HX.out⟩
              · go_wp2_with fail
                go_meet
                exact ⟨false, rfl, (fun h => by cases h), HX.out⟩
            · have h5b : (r5 == 0) = false := by simpa using h5
              go_wp2_with fail
              go_meet
              exact ⟨false, rfl, (fun h => by cases h), HX.out⟩
          case rest =>
          obtain ⟨bb, rfl, hbb, h1⟩ := hcut
          replace HX := Lib.hid h1
          clear h1 hbb
          go_upto_if 92 with (fail)
          go_cut [] from 93 to 94 (fun wx => EX B b1 w wx)
          case first =>
            cases bb
            · go_wp2_with fail
              go_meet
              exact HX.out
            · obtain ⟨P0, hp0⟩ := HX.out.p
              have e1 := hp0.cell 130 (by omega)
              have fz := hp0.fr
              go_wp2_with fail
              go_meet
              exact HX.out.set1 130 _ (by omega)
          case rest =>
          replace HX := Lib.hid hcut
          clear hcut
          obtain ⟨P, hp⟩ := HX.out.p
          obtain ⟨X, hX⟩ : ∃ X, X = (pc P).toArray := ⟨_, rfl⟩
          have MA := Lib.hid (fun W h1 h2 h3 => HA0.out P W h1 h2 h3)
          have RA := Lib.hid (fun W => RA0.out P W)
          have HLA := Lib.hid (allM_len P)
          rw [← hX] at MA RA
          generalize allM P = L at MA RA HLA
          have HI0 := Lib.hid HX.out
          have HP0 := Lib.hid hp
          have HX := Lib.hid hX
          clear hp hX
          go_upto_region 17 with (fail)
          refine forget_B (fun W => EX B b1 w W ∧ PB W b1 P) ⟨HI0.out, HP0.out⟩ ?_
          clear HI0 HP0
          rintro Wz ⟨h1, h2⟩
          have HI := Lib.hid h1
          have HPB := Lib.hid h2
          clear h1 h2
          go_upto_region 17 with (fail)
          refine wp_region_noPanic ?_
          refine wp_region_start (n := 6) (l := #[false, false, false, false, false, false]) (S := (fun W => EX B b1 w W ∧ PB W b1 P)) (by kernel_rfl) rfl (by kernel_rfl) (by first | exact ⟨HI.out, HPB.out⟩ | exact ⟨HI.out.go (Below.refl _ _).drew, HPB.out.go (Below.refl _ _).drew⟩) (fun hHeld => ?_)
          replace HI := Lib.hid (HI.out.go (Below.refl Wz.heap.size Wz).drew)
          replace HPB := Lib.hid (HPB.out.go (Below.refl Wz.heap.size Wz).drew)
          generalize Wz.drew = V0 at hHeld HI HPB ⊢
          refine take_to (i := 0) (d := some 95) (v := (.agg X)) (l' := #[true, false, false, false, false, false]) rfl rfl (by kernel_rfl) (by kernel_rfl) (by kernel_rfl) (by kernel_rfl) (fun _ _ _ h => h) ?_ (by assumption) ?_
          · exact yields_posC (by rfl) _ (by rfl) b1 P X HX.out (by rfl) (fun W h => h.2)
          try simp only [Act.put, List.setIfInBounds_toArray, List.set_cons_zero, List.set_cons_succ]
          refine take_to (i := 2) (d := some 97) (v := (.agg X)) (l' := #[true, false, true, false, false, false]) rfl rfl (by kernel_rfl) (by kernel_rfl) (by kernel_rfl) (by kernel_rfl) (fun _ _ _ h => h) ?_ (by assumption) ?_
          · exact yields_posC (by rfl) _ (by rfl) b1 P X HX.out (by rfl) (fun W h => h.2)
          try simp only [Act.put, List.setIfInBounds_toArray, List.set_cons_zero, List.set_cons_succ]
          refine one_to (i := 1) (l' := #[true, true, true, false, false, false]) rfl (by kernel_rfl) (by kernel_rfl) (fun K hK => ?_)
          go_simp
          refine (MA.out _ HI.out.gs HI.out.gm HI.out.s).mono ?_
          rintro e V ⟨v, rfl, hb, hown⟩
          obtain ⟨p1, c1, rfl, hr1⟩ := reads3_own hown
          replace HI := Lib.hid (HI.out.go hb)
          replace HPB := Lib.hid (HPB.out.go hb)
          have HR1 := Lib.hid hr1
          clear hb hown hr1
          dsimp only
          refine hK.out _ _ (by first | exact ⟨HI.out, HPB.out⟩ | exact ⟨HI.out.go (Below.refl _ _).drew, HPB.out.go (Below.refl _ _).drew⟩) (fun hHeld => ?_)
          clear hK K
          try simp only [Act.put, List.setIfInBounds_toArray, List.set_cons_zero, List.set_cons_succ]
          refine one_to (i := 3) (l' := #[true, true, true, true, false, false]) rfl (by kernel_rfl) (by kernel_rfl) (fun K hK => ?_)
          go_simp
          refine (RA.out _).mono ?_
          rintro e V ⟨v, rfl, hb, hown⟩
          obtain ⟨p2, c2, rfl, hr2⟩ := reads3_own hown
          replace HI := Lib.hid (HI.out.go hb)
          replace HPB := Lib.hid (HPB.out.go hb)
          replace HR1 := Lib.hid ((HR1.out.below hb).mono hb.size)
          have HR2 := Lib.hid hr2
          clear hb hown hr2
          dsimp only
          refine hK.out _ _ (by first | exact ⟨HI.out, HPB.out⟩ | exact ⟨HI.out.go (Below.refl _ _).drew, HPB.out.go (Below.refl _ _).drew⟩) (fun hHeld => ?_)
          clear hK K
          try simp only [Act.put, List.setIfInBounds_toArray, List.set_cons_zero, List.set_cons_succ]
          refine one_to (i := 4) (l' := #[true, true, true, true, true, false]) rfl (by kernel_rfl) (by kernel_rfl) (fun K hK => ?_)
          go_simp
          refine (same9_any _ HLA.out _ _ _ _ _ HR1.out HR2.out).mono ?_
          rintro e V ⟨rfl, hb⟩
          replace HI := Lib.hid (HI.out.go hb)
          replace HPB := Lib.hid (HPB.out.go hb)
          clear hb HR1 HR2
          dsimp only
          refine hK.out _ _ (by first | exact ⟨HI.out, HPB.out⟩ | exact ⟨HI.out.go (Below.refl _ _).drew, HPB.out.go (Below.refl _ _).drew⟩) (fun hHeld => ?_)
          clear hK K
          try simp only [Act.put, List.setIfInBounds_toArray, List.set_cons_zero, List.set_cons_succ]
          refine take_to (i := 5) (d := some 100) (v := ?_) (l' := #[true, true, true, true, true, true]) rfl rfl (by kernel_rfl) (by kernel_rfl) (by kernel_rfl) (by kernel_rfl) (fun _ _ _ h => h) (Or.inl ⟨by rfl, ?_⟩) (by assumption) ?_; rotate_left; · (intro w' hSw; (try dsimp only at hSw); go_simp; (try with_reducible rfl))
          try simp only [Act.put, List.setIfInBounds_toArray, List.set_cons_zero, List.set_cons_succ]
          refine wpAnyH_done (by kernel_rfl) ?_ _
          refine NoPanic.normal ?_
          clear hHeld
          go_wp2
          go_roundw
          case rel => exact ⟨n + 1, by have := HN.out; omega, by rw [← HNI.out]; first | rfl | go_num, HI.out.e⟩
          case measure => rw [← HNI.out]; have := HN.out; simp [intOf]; omega
    · obtain rfl : n = 3072 := by omega
      rw [show ((3072 : Nat) : Int) = 3072 from rfl]
      go_upto_region 20 with (fail)
      refine forget_B (fun W => EX B wr.heap.size w W) ⟨HI.out.go (below_new _), ⟨fun _ => 0, by rw [zeroPos]; exact PB.new rfl⟩, HI.out.bel.size⟩ ?_
      clear HI
      intro W1 h
      have HI := Lib.hid h
      clear h
      generalize wr.heap.size = b1 at HI ⊢
      go_wp2
      go_loopw [10] (fun i wr => ∃ j : Nat, j ≤ 6 ∧ i = .int .i64 (j : Int) ∧ EX B b1 w wr) (fun i _ => 6 - (intOf i).toNat)
      case atStart => exact ⟨0, Nat.zero_le _, rfl, HI.out⟩
      case round =>
        clear HI
        obtain ⟨j, hj, rfl, h1⟩ := hrel
        have HI := Lib.hid h1
        clear h1
        by_cases hlt : j < 6
        · obtain ⟨P, hp⟩ := HI.out.p
          have hpl := hp.lt
          rcases (show j = 0 ∨ j = 1 ∨ j = 2 ∨ j = 3 ∨ j = 4 ∨ j = 5 by omega) with rfl | rfl | rfl | rfl | rfl | rfl
          · have z4 : ∀ o1 o2 o3 : Obj, (((wr.alloc o1).alloc o2).alloc o3).cell? ⟨b1, 0, none⟩ = some (.int .i64 (P 0)) := fun o1 o2 o3 => ((((hp.alloc o1).alloc o2).alloc o3).cell 0 (by omega))
            have z5 : ∀ o1 o2 o3 : Obj, (((wr.alloc o1).alloc o2).alloc o3).cell? ⟨b1, 1, none⟩ = some (.int .i64 (P 1)) := fun o1 o2 o3 => ((((hp.alloc o1).alloc o2).alloc o3).cell 1 (by omega))
            have z6 : ∀ (o1 o2 o3 : Obj) (i : Nat), (((wr.alloc o1).alloc o2).alloc o3).frozen? ⟨b1, i, none⟩ = false := fun o1 o2 o3 i => ((((hp.alloc o1).alloc o2).alloc o3).fr i)
            clear hp
            go_upto_region 23 with (fail)
            go_region
            all_goals
              go_wp2
              go_roundw
              case rel => exact ⟨1, by omega, rfl, ((((HI.out.alloc _).alloc _).alloc _).set2 0 1 _ _ (by omega) (by omega)).drew⟩
              case measure => simp [intOf]
          · have z4 : ∀ o1 o2 o3 : Obj, (((wr.alloc o1).alloc o2).alloc o3).cell? ⟨b1, 14, none⟩ = some (.int .i64 (P 14)) := fun o1 o2 o3 => ((((hp.alloc o1).alloc o2).alloc o3).cell 14 (by omega))
            have z5 : ∀ o1 o2 o3 : Obj, (((wr.alloc o1).alloc o2).alloc o3).cell? ⟨b1, 15, none⟩ = some (.int .i64 (P 15)) := fun o1 o2 o3 => ((((hp.alloc o1).alloc o2).alloc o3).cell 15 (by omega))
            have z6 : ∀ (o1 o2 o3 : Obj) (i : Nat), (((wr.alloc o1).alloc o2).alloc o3).frozen? ⟨b1, i, none⟩ = false := fun o1 o2 o3 i => ((((hp.alloc o1).alloc o2).alloc o3).fr i)
            clear hp
            go_upto_region 23 with (fail)
            go_region
            all_goals
              go_wp2
              go_roundw
              case rel => exact ⟨2, by omega, rfl, ((((HI.out.alloc _).alloc _).alloc _).set2 14 15 _ _ (by omega) (by omega)).drew⟩
              case measure => simp [intOf]
          · have z4 : ∀ o1 o2 o3 : Obj, (((wr.alloc o1).alloc o2).alloc o3).cell? ⟨b1, 112, none⟩ = some (.int .i64 (P 112)) := fun o1 o2 o3 => ((((hp.alloc o1).alloc o2).alloc o3).cell 112 (by omega))
            have z5 : ∀ o1 o2 o3 : Obj, (((wr.alloc o1).alloc o2).alloc o3).cell? ⟨b1, 113, none⟩ = some (.int .i64 (P 113)) := fun o1 o2 o3 => ((((hp.alloc o1).alloc o2).alloc o3).cell 113 (by omega))
            have z6 : ∀ (o1 o2 o3 : Obj) (i : Nat), (((wr.alloc o1).alloc o2).alloc o3).frozen? ⟨b1, i, none⟩ = false := fun o1 o2 o3 i => ((((hp.alloc o1).alloc o2).alloc o3).fr i)
            clear hp
            go_upto_region 23 with (fail)
            go_region
            all_goals
              go_wp2
              go_roundw
              case rel => exact ⟨3, by omega, rfl, ((((HI.out.alloc _).alloc _).alloc _).set2 112 113 _ _ (by omega) (by omega)).drew⟩
              case measure => simp [intOf]
          · have z4 : ∀ o1 o2 o3 : Obj, (((wr.alloc o1).alloc o2).alloc o3).cell? ⟨b1, 126, none⟩ = some (.int .i64 (P 126)) := fun o1 o2 o3 => ((((hp.alloc o1).alloc o2).alloc o3).cell 126 (by omega))
            have z5 : ∀ o1 o2 o3 : Obj, (((wr.alloc o1).alloc o2).alloc o3).cell? ⟨b1, 127, none⟩ = some (.int .i64 (P 127)) := fun o1 o2 o3 => ((((hp.alloc o1).alloc o2).alloc o3).cell 127 (by omega))
            have z6 : ∀ (o1 o2 o3 : Obj) (i : Nat), (((wr.alloc o1).alloc o2).alloc o3).frozen? ⟨b1, i, none⟩ = false := fun o1 o2 o3 i => ((((hp.alloc o1).alloc o2).alloc o3).fr i)
            clear hp
            go_upto_region 23 with (fail)
            go_region
            all_goals
              go_wp2
              go_roundw
              case rel => exact ⟨4, by omega, rfl, ((((HI.out.alloc _).alloc _).alloc _).set2 126 127 _ _ (by omega) (by omega)).drew⟩
              case measure => simp [intOf]
          · have z4 : ∀ o1 o2 o3 : Obj, (((wr.alloc o1).alloc o2).alloc o3).cell? ⟨b1, 8, none⟩ = some (.int .i64 (P 8)) := fun o1 o2 o3 => ((((hp.alloc o1).alloc o2).alloc o3).cell 8 (by omega))
            have z5 : ∀ o1 o2 o3 : Obj, (((wr.alloc o1).alloc o2).alloc o3).cell? ⟨b1, 9, none⟩ = some (.int .i64 (P 9)) := fun o1 o2 o3 => ((((hp.alloc o1).alloc o2).alloc o3).cell 9 (by omega))
            have z6 : ∀ (o1 o2 o3 : Obj) (i : Nat), (((wr.alloc o1).alloc o2).alloc o3).frozen? ⟨b1, i, none⟩ = false := fun o1 o2 o3 i => ((((hp.alloc o1).alloc o2).alloc o3).fr i)
            clear hp
            go_upto_region 23 with (fail)
            go_region
            all_goals
              go_wp2
              go_roundw
              case rel => exact ⟨5, by omega, rfl, ((((HI.out.alloc _).alloc _).alloc _).set2 8 9 _ _ (by omega) (by omega)).drew⟩
              case measure => simp [intOf]
          · have z4 : ∀ o1 o2 o3 : Obj, (((wr.alloc o1).alloc o2).alloc o3).cell? ⟨b1, 120, none⟩ = some (.int .i64 (P 120)) := fun o1 o2 o3 => ((((hp.alloc o1).alloc o2).alloc o3).cell 120 (by omega))
            have z5 : ∀ o1 o2 o3 : Obj, (((wr.alloc o1).alloc o2).alloc o3).cell? ⟨b1, 121, none⟩ = some (.int .i64 (P 121)) := fun o1 o2 o3 => ((((hp.alloc o1).alloc o2).alloc o3).cell 121 (by omega))
            have z6 : ∀ (o1 o2 o3 : Obj) (i : Nat), (((wr.alloc o1).alloc o2).alloc o3).frozen? ⟨b1, i, none⟩ = false := fun o1 o2 o3 i => ((((hp.alloc o1).alloc o2).alloc o3).fr i)
            clear hp
            go_upto_region 23 with (fail)
            go_region
            all_goals
              go_wp2
              go_roundw
              case rel => exact ⟨6, by omega, rfl, ((((HI.out.alloc _).alloc _).alloc _).set2 120 121 _ _ (by omega) (by omega)).drew⟩
              case measure => simp [intOf]
        · obtain rfl : j = 6 := by omega
          rw [show ((6 : Nat) : Int) = 6 from rfl]
          go_wp2
          go_loopw [11] (fun i wr => ∃ c : Int, -1 ≤ c ∧ c ≤ 17 ∧ i = .int .i64 c ∧ EX B b1 w wr) (fun i _ => (17 - intOf i).toNat)
          case atStart => exact ⟨-1, by omega, by omega, rfl, HI.out⟩
          case round =>
            clear HI
            obtain ⟨c, hc0, hc1, rfl, h1⟩ := hrel
            have HI := Lib.hid h1
            clear h1
            by_cases hc17 : c < 17
            · have HC := Lib.hid (show -1 ≤ c ∧ c < 17 from ⟨hc0, hc17⟩)
              clear hc0 hc1
              go_wp2
              go_loopw [12] (fun i wr => ∃ k : Nat, k ≤ 16 ∧ i = .int .i64 (k : Int) ∧ EX B b1 w wr) (fun i _ => 16 - (intOf i).toNat)
              case atStart => exact ⟨0, Nat.zero_le _, rfl, HI.out⟩
              case round =>
                clear HI
                obtain ⟨k, hk, rfl, h1⟩ := hrel
                have HI := Lib.hid h1
                clear h1
                by_cases hk16 : k < 16
                · have HK := Lib.hid hk16
                  obtain ⟨s, hs⟩ : ∃ s : Nat, k % 8 + 56 * (k / 8) = s := ⟨_, rfl⟩
                  obtain ⟨KI, hKI⟩ : ∃ x : Int, (k : Int) = x := ⟨_, rfl⟩
                  obtain ⟨q8, hq8⟩ : ∃ x : Int, KI / 8 = x := ⟨_, rfl⟩
                  obtain ⟨r8, hr8⟩ : ∃ x : Int, KI % 8 = x := ⟨_, rfl⟩
                  obtain ⟨r4, hr4⟩ : ∃ x : Int, KI % 4 = x := ⟨_, rfl⟩
                  have l0 : KI < 16 := by omega
                  have lk0 : 0 ≤ KI := by omega
                  have a1 : KI.tdiv 8 = q8 := by rw [Int.tdiv_eq_ediv_of_nonneg (by omega)]; exact hq8
                  have a2 : wrap64 q8 = q8 := by unfold wrap64; omega
                  have a3 : KI.tmod 8 = r8 := by rw [Int.tmod_eq_emod_of_nonneg (by omega)]; exact hr8
                  have a4 : wrap64 (56 * q8) = 56 * q8 := by unfold wrap64; omega
                  have a5 : wrap64 (r8 + 56 * q8) = (s : Int) := by unfold wrap64; omega
                  have a6 : KI.tmod 4 = r4 := by rw [Int.tmod_eq_emod_of_nonneg (by omega)]; exact hr4
                  have HR4 := Lib.hid (show r4 = 0 ∨ r4 = 1 ∨ r4 = 2 ∨ r4 = 3 by omega)
                  have HS := Lib.hid (show s < 64 by omega)
                  have s0 : (0 : Int) ≤ s := by omega
                  have s1 : (s : Int) < 64 := by omega
                  have HKI := Lib.hid hKI
                  rw [hKI]
                  have hki : (k : Int) < 16 := by omega
                  clear hs hKI hq8 hr8 hr4 hk16 hk
                  obtain ⟨P, hp⟩ := HI.out.p
                  obtain ⟨X, hX⟩ : ∃ X, X = (pc P).toArray := ⟨_, rfl⟩
                  have HX := Lib.hid hX
                  have HPB := Lib.hid hp
                  clear hX hp
                  go_wp2_with (first | refine wpList_new X P HX.out (by rfl) (by rfl) ?_ | refine wpList_pos (by rfl) _ (by rfl) b1 P X HX.out (by rfl) HPB.out ?_)
                  intro W hq hb hz
                  try simp only [Act.put, List.setIfInBounds_toArray, List.set_cons_zero, List.set_cons_succ]
                  have HY := Lib.hid (show EY B b1 wr.heap.size w W from ⟨HI.out.go hb, ⟨_, hq⟩, HPB.out.lt⟩)
                  generalize wr.heap.size = b5 at HY ⊢
                  clear hq hb hz HI HPB HX
                  obtain ⟨Q, hq⟩ := HY.out.q
                  have e1 := hq.cell 129 (by omega)
                  have fz := hq.fr
                  go_upto_region 32 with (fail)
                  refine forget_B (fun W => EY B b1 b5 w W) (HY.out.set1 129 c (by omega)) ?_
                  clear HY hq e1 fz Q
                  intro Wa h
                  have HY := Lib.hid h
                  clear h
                  obtain ⟨Q, hq⟩ := HY.out.q
                  have e1 := hq.cell 128 (by omega)
                  have fz := hq.fr
                  go_upto_region 33 with (fail)
                  refine forget_B (fun W => EY B b1 b5 w W) (HY.out.set1 128 _ (by omega)) ?_
                  clear HY hq e1 fz Q
                  intro Wb h
                  have HY := Lib.hid h
                  clear h
                  go_upto_region 34 with (fail)
                  simp only [a2, a4, a5]
                  clear a1 a2 a4 a5
                  obtain ⟨Q, hq⟩ := HY.out.q
                  obtain ⟨zk, hzk⟩ : ∃ x, Q (s * 2) = x := ⟨_, rfl⟩
                  obtain ⟨zd, hzd⟩ : ∃ x, Q (s * 2 + 1) = x := ⟨_, rfl⟩
                  have e1 := hq.cell (s * 2) (by have := HS.out; omega)
                  have e2 := hq.cell (s * 2 + 1) (by have := HS.out; omega)
                  have fz := hq.fr
                  rw [hzk] at e1
                  rw [hzd] at e2
                  obtain ⟨em, hem⟩ : ∃ b, pe zk zd 0 0 = b := ⟨_, rfl⟩
                  clear hzk hzd hq
                  go_upto_if 146 with (fail)
                  go_cut [] from 147 to 159 (fun wx => EY B b1 b5 w wx)
                  case first =>
                    cases em
                    · by_cases h4 : r8 = 4
                      · have h4b : (r8 != 4) = false := by simp [h4]
                        clear h4
                        go_wp2_with fail
                        go_meet
                        exact HY.out
                      · have h4b : (r8 != 4) = true := by simp [h4]
                        clear h4
                        go_wp2_with fail
                        go_meet
                        exact HY.out.set2 (s * 2) (s * 2 + 1) _ _ (by have := HS.out; omega) (by have := HS.out; omega)
                    · go_wp2_with fail
                      go_meet
                      exact HY.out.set2 (s * 2) (s * 2 + 1) _ _ (by have := HS.out; omega) (by have := HS.out; omega)
                  case rest =>
                  replace HY := Lib.hid hcut
                  clear hcut e1 e2 fz hem
                  obtain ⟨P, hp⟩ := HY.out.q
                  obtain ⟨X, hX⟩ : ∃ X, X = (pc P).toArray := ⟨_, rfl⟩
                  have MA := Lib.hid (fun W h1 h2 h3 => HA0.out P W h1 h2 h3)
                  have RA := Lib.hid (fun W => RA0.out P W)
                  have MT := Lib.hid (fun s a b c a' b' c' W h1 h2 h3 => MT0.out P s a b c a' b' c' W h1 h2 h3)
                  have HLA := Lib.hid (allM_len P)
                  rw [← hX] at MA RA MT
                  generalize allM P = L at MA RA HLA
                  have HP0 := Lib.hid hp
                  have HX := Lib.hid hX
                  clear hp hX
                  go_upto_region 38 with (fail)
                  refine forget_B (fun W => EY B b1 b5 w W ∧ PB W b5 P) ⟨HY.out, HP0.out⟩ ?_
                  clear HY HP0
                  rintro Wy ⟨h1, h2⟩
                  have HI := Lib.hid h1
                  have HPB := Lib.hid h2
                  clear h1 h2
                  have hr4 := HR4.out
                  rcases hr4 with rfl | rfl | rfl | rfl
                  all_goals
                    go_upto_region 38 with (fail)
                    refine wp_region_noPanic ?_
                    refine wp_region_start (n := 22) (l := #[false, false, false, false, false, false, false, false, false, false, false, false, false, false, false, false, false, false, false, false, false, false]) (S := (fun W => EY B b1 b5 w W ∧ PB W b5 P)) (by kernel_rfl) rfl (by kernel_rfl) (by first | exact ⟨HI.out, HPB.out⟩ | exact ⟨HI.out.go (Below.refl _ _).drew, HPB.out.go (Below.refl _ _).drew⟩) (fun hHeld => ?_)
                    replace HI := Lib.hid (HI.out.go (Below.refl Wy.heap.size Wy).drew)
                    replace HPB := Lib.hid (HPB.out.go (Below.refl Wy.heap.size Wy).drew)
                    generalize Wy.drew = V0 at hHeld HI HPB ⊢
                    refine take_to (i := 0) (d := some 160) (v := (.agg X)) (l' := #[true, false, false, false, false, false, false, false, false, false, false, false, false, false, false, false, false, false, false, false, false, false]) rfl rfl (by kernel_rfl) (by kernel_rfl) (by kernel_rfl) (by kernel_rfl) (fun _ _ _ h => h) ?_ (by assumption) ?_
                    · exact yields_posC (by rfl) _ (by rfl) b5 P X HX.out (by rfl) (fun W h => h.2)
                    try simp only [Act.put, List.setIfInBounds_toArray, List.set_cons_zero, List.set_cons_succ]
                    refine take_to (i := 2) (d := some 162) (v := (.agg X)) (l' := #[true, false, true, false, false, false, false, false, false, false, false, false, false, false, false, false, false, false, false, false, false, false]) rfl rfl (by kernel_rfl) (by kernel_rfl) (by kernel_rfl) (by kernel_rfl) (fun _ _ _ h => h) ?_ (by assumption) ?_
                    · exact yields_posC (by rfl) _ (by rfl) b5 P X HX.out (by rfl) (fun W h => h.2)
                    try simp only [Act.put, List.setIfInBounds_toArray, List.set_cons_zero, List.set_cons_succ]
                    refine one_to (i := 1) (l' := #[true, true, true, false, false, false, false, false, false, false, false, false, false, false, false, false, false, false, false, false, false, false]) rfl (by kernel_rfl) (by kernel_rfl) (fun K hK => ?_)
                    go_simp
                    refine (MA.out _ HI.out.t.gs HI.out.t.gm HI.out.t.s).mono ?_
                    rintro e V ⟨v, rfl, hb, hown⟩
                    obtain ⟨p1, c1, rfl, hr1⟩ := reads3_own hown
                    replace HI := Lib.hid (HI.out.go hb)
                    replace HPB := Lib.hid (HPB.out.go hb)
                    have HR1 := Lib.hid hr1
                    clear hb hown hr1
                    dsimp only
                    refine hK.out _ _ (by first | exact ⟨HI.out, HPB.out⟩ | exact ⟨HI.out.go (Below.refl _ _).drew, HPB.out.go (Below.refl _ _).drew⟩) (fun hHeld => ?_)
                    clear hK K
                    try simp only [Act.put, List.setIfInBounds_toArray, List.set_cons_zero, List.set_cons_succ]
                    refine one_to (i := 3) (l' := #[true, true, true, true, false, false, false, false, false, false, false, false, false, false, false, false, false, false, false, false, false, false]) rfl (by kernel_rfl) (by kernel_rfl) (fun K hK => ?_)
                    go_simp
                    refine (RA.out _).mono ?_
                    rintro e V ⟨v, rfl, hb, hown⟩
                    obtain ⟨p2, c2, rfl, hr2⟩ := reads3_own hown
                    replace HI := Lib.hid (HI.out.go hb)
                    replace HPB := Lib.hid (HPB.out.go hb)
                    replace HR1 := Lib.hid ((HR1.out.below hb).mono hb.size)
                    have HR2 := Lib.hid hr2
                    clear hb hown hr2
                    dsimp only
                    refine hK.out _ _ (by first | exact ⟨HI.out, HPB.out⟩ | exact ⟨HI.out.go (Below.refl _ _).drew, HPB.out.go (Below.refl _ _).drew⟩) (fun hHeld => ?_)
                    clear hK K
                    try simp only [Act.put, List.setIfInBounds_toArray, List.set_cons_zero, List.set_cons_succ]
                    refine one_to (i := 4) (l' := #[true, true, true, true, true, false, false, false, false, false, false, false, false, false, false, false, false, false, false, false, false, false]) rfl (by kernel_rfl) (by kernel_rfl) (fun K hK => ?_)
                    go_simp
                    refine (same9_any _ HLA.out _ _ _ _ _ HR1.out HR2.out).mono ?_
                    rintro e V ⟨rfl, hb⟩
                    replace HI := Lib.hid (HI.out.go hb)
                    replace HPB := Lib.hid (HPB.out.go hb)
                    clear hb HR1 HR2
                    dsimp only
                    refine hK.out _ _ (by first | exact ⟨HI.out, HPB.out⟩ | exact ⟨HI.out.go (Below.refl _ _).drew, HPB.out.go (Below.refl _ _).drew⟩) (fun hHeld => ?_)
                    clear hK K
                    try simp only [Act.put, List.setIfInBounds_toArray, List.set_cons_zero, List.set_cons_succ]
                    refine take_to (i := 5) (d := some 165) (v := ?_) (l' := #[true, true, true, true, true, true, false, false, false, false, false, false, false, false, false, false, false, false, false, false, false, false]) rfl rfl (by kernel_rfl) (by kernel_rfl) (by kernel_rfl) (by kernel_rfl) (fun _ _ _ h => h) (Or.inl ⟨by rfl, ?_⟩) (by assumption) ?_; rotate_left; · (intro w' hSw; (try dsimp only at hSw); go_simp; (try with_reducible rfl))
                    try simp only [Act.put, List.setIfInBounds_toArray, List.set_cons_zero, List.set_cons_succ]
                    refine take_to (i := 6) (d := some 166) (v := ?_) (l' := #[true, true, true, true, true, true, true, false, false, false, false, false, false, false, false, false, false, false, false, false, false, false]) rfl rfl (by kernel_rfl) (by kernel_rfl) (by kernel_rfl) (by kernel_rfl) (fun _ _ _ h => h) (Or.inl ⟨by rfl, ?_⟩) (by assumption) ?_; rotate_left; · (intro w' hSw; (try dsimp only at hSw); go_simp; (try with_reducible rfl))
                    try simp only [Act.put, List.setIfInBounds_toArray, List.set_cons_zero, List.set_cons_succ]
                    refine take_to (i := 7) (d := some 167) (v := (.agg X)) (l' := #[true, true, true, true, true, true, true, true, false, false, false, false, false, false, false, false, false, false, false, false, false, false]) rfl rfl (by kernel_rfl) (by kernel_rfl) (by kernel_rfl) (by kernel_rfl) (fun _ _ _ h => h) ?_ (by assumption) ?_
                    · exact yields_posC (by rfl) _ (by rfl) b5 P X HX.out (by rfl) (fun W h => h.2)
                    try simp only [Act.put, List.setIfInBounds_toArray, List.set_cons_zero, List.set_cons_succ]
                    refine take_to (i := 9) (d := some 169) (v := ?_) (l' := #[true, true, true, true, true, true, true, true, false, true, false, false, false, false, false, false, false, false, false, false, false, false]) rfl rfl (by kernel_rfl) (by kernel_rfl) (by kernel_rfl) (by kernel_rfl) (fun _ _ _ h => h) (Or.inl ⟨by rfl, ?_⟩) (by assumption) ?_; rotate_left; · (intro w' hSw; (try dsimp only at hSw); go_simp; (try with_reducible rfl))
                    try simp only [Act.put, List.setIfInBounds_toArray, List.set_cons_zero, List.set_cons_succ]
                    refine take_to (i := 10) (d := some 170) (v := ?_) (l' := #[true, true, true, true, true, true, true, true, false, true, true, false, false, false, false, false, false, false, false, false, false, false]) rfl rfl (by kernel_rfl) (by kernel_rfl) (by kernel_rfl) (by kernel_rfl) (fun _ _ _ h => h) (Or.inl ⟨by rfl, ?_⟩) (by assumption) ?_; rotate_left; · (intro w' hSw; (try dsimp only at hSw); go_simp; (try with_reducible rfl))
                    try simp only [Act.put, List.setIfInBounds_toArray, List.set_cons_zero, List.set_cons_succ]
                    refine take_to (i := 13) (d := some 173) (v := ?_) (l' := #[true, true, true, true, true, true, true, true, false, true, true, false, false, true, false, false, false, false, false, false, false, false]) rfl rfl (by kernel_rfl) (by kernel_rfl) (by kernel_rfl) (by kernel_rfl) (fun _ _ _ h => h) (Or.inl ⟨by rfl, ?_⟩) (by assumption) ?_; rotate_left; · (intro w' hSw; (try dsimp only at hSw); go_simp; (try with_reducible rfl))
                    try simp only [Act.put, List.setIfInBounds_toArray, List.set_cons_zero, List.set_cons_succ]
                    refine take_to (i := 14) (d := some 174) (v := ?_) (l' := #[true, true, true, true, true, true, true, true, false, true, true, false, false, true, true, false, false, false, false, false, false, false]) rfl rfl (by kernel_rfl) (by kernel_rfl) (by kernel_rfl) (by kernel_rfl) (fun _ _ _ h => h) (Or.inl ⟨by rfl, ?_⟩) (by assumption) ?_; rotate_left; · (intro w' hSw; (try dsimp only at hSw); go_simp; (try with_reducible rfl))
                    try simp only [Act.put, List.setIfInBounds_toArray, List.set_cons_zero, List.set_cons_succ]
                    refine take_to (i := 15) (d := some 175) (v := ?_) (l' := #[true, true, true, true, true, true, true, true, false, true, true, false, false, true, true, true, false, false, false, false, false, false]) rfl rfl (by kernel_rfl) (by kernel_rfl) (by kernel_rfl) (by kernel_rfl) (fun _ _ _ h => h) (Or.inl ⟨by rfl, ?_⟩) (by assumption) ?_; rotate_left; · (intro w' hSw; (try dsimp only at hSw); go_simp; (try with_reducible rfl))
                    try simp only [Act.put, List.setIfInBounds_toArray, List.set_cons_zero, List.set_cons_succ]
                    refine take_to (i := 16) (d := some 176) (v := ?_) (l' := #[true, true, true, true, true, true, true, true, false, true, true, false, false, true, true, true, true, false, false, false, false, false]) rfl rfl (by kernel_rfl) (by kernel_rfl) (by kernel_rfl) (by kernel_rfl) (fun _ _ _ h => h) (Or.inl ⟨by rfl, ?_⟩) (by assumption) ?_; rotate_left; · (intro w' hSw; (try dsimp only at hSw); go_simp; (try with_reducible rfl))
                    try simp only [Act.put, List.setIfInBounds_toArray, List.set_cons_zero, List.set_cons_succ]
                    refine take_to (i := 17) (d := some 177) (v := ?_) (l' := #[true, true, true, true, true, true, true, true, false, true, true, false, false, true, true, true, true, true, false, false, false, false]) rfl rfl (by kernel_rfl) (by kernel_rfl) (by kernel_rfl) (by kernel_rfl) (fun _ _ _ h => h) (Or.inl ⟨by rfl, ?_⟩) (by assumption) ?_; rotate_left; · (intro w' hSw; (try dsimp only at hSw); go_simp; (try with_reducible rfl))
                    try simp only [Act.put, List.setIfInBounds_toArray, List.set_cons_zero, List.set_cons_succ]
                    refine take_to (i := 18) (d := some 178) (v := ?_) (l' := #[true, true, true, true, true, true, true, true, false, true, true, false, false, true, true, true, true, true, true, false, false, false]) rfl rfl (by kernel_rfl) (by kernel_rfl) (by kernel_rfl) (by kernel_rfl) (fun _ _ _ h => h) (Or.inl ⟨by rfl, ?_⟩) (by assumption) ?_; rotate_left; · (intro w' hSw; (try dsimp only at hSw); go_simp; (try with_reducible rfl))
                    try simp only [Act.put, List.setIfInBounds_toArray, List.set_cons_zero, List.set_cons_succ]
                    refine one_to (i := 8) (l' := #[true, true, true, true, true, true, true, true, true, true, true, false, false, true, true, true, true, true, true, false, false, false]) rfl (by kernel_rfl) (by kernel_rfl) (fun K hK => ?_)
                    go_simp
                    have hb : Below V.heap.size V (V.alloc (.cells #[.int .i64 4, .int .i64 60, .int .i64 (-1), .int .i64 64] 3)) := below_new _
                    have hsl := Lib.hid (show (V.alloc (.cells #[.int .i64 4, .int .i64 60, .int .i64 (-1), .int .i64 64] 3)).heap[V.heap.size]? = some (.cells #[.int .i64 4, .int .i64 60, .int .i64 (-1), .int .i64 64] 3 (0, 0)) from sl_at rfl)
                    replace HI := Lib.hid (HI.out.go hb)
                    replace HPB := Lib.hid (HPB.out.go hb)
                    clear hb
                    generalize V.alloc (.cells #[.int .i64 4, .int .i64 60, .int .i64 (-1), .int .i64 64] 3) = V at HI HPB hsl ⊢
                    skip
                    refine hK.out _ _ (by first | exact ⟨HI.out, HPB.out⟩ | exact ⟨HI.out.go (Below.refl _ _).drew, HPB.out.go (Below.refl _ _).drew⟩) (fun hHeld => ?_)
                    clear hK K
                    try simp only [Act.put, List.setIfInBounds_toArray, List.set_cons_zero, List.set_cons_succ]
                    refine take_to (i := 11) (d := some 171) (v := ?_) (l' := #[true, true, true, true, true, true, true, true, true, true, true, true, false, true, true, true, true, true, true, false, false, false]) rfl rfl (by kernel_rfl) (by kernel_rfl) (by kernel_rfl) (by kernel_rfl) (fun _ _ _ h => h) (Or.inl ⟨by rfl, ?_⟩) (by assumption) ?_; rotate_left; · (intro w' hSw; (try dsimp only at hSw); go_simp; (try with_reducible rfl))
                    try simp only [Act.put, List.setIfInBounds_toArray, List.set_cons_zero, List.set_cons_succ]
                    refine one_to (i := 12) (l' := #[true, true, true, true, true, true, true, true, true, true, true, true, true, true, true, true, true, true, true, false, false, false]) rfl (by kernel_rfl) (by kernel_rfl) (fun K hK => ?_)
                    obtain ⟨q2, q3, q4⟩ := row4 hsl.out; have q1 := row4z hsl.out
                    go_simp
                    refine hK.out _ _ (by first | exact ⟨HI.out, HPB.out⟩ | exact ⟨HI.out.go (Below.refl _ _).drew, HPB.out.go (Below.refl _ _).drew⟩) (fun hHeld => ?_)
                    clear hK K
                    try simp only [Act.put, List.setIfInBounds_toArray, List.set_cons_zero, List.set_cons_succ]
                    refine one_to (i := 19) (l' := #[true, true, true, true, true, true, true, true, true, true, true, true, true, true, true, true, true, true, true, true, false, false]) rfl (by kernel_rfl) (by kernel_rfl) (fun K hK => ?_)
                    go_simp
                    refine (MT.out _ _ _ _ _ _ _ _ HI.out.t.gs HI.out.t.gm HI.out.t.s).mono ?_
                    rintro e V ⟨rfl, hb⟩
                    replace HI := Lib.hid (HI.out.go hb)
                    replace HPB := Lib.hid (HPB.out.go hb)
                    clear hb
                    dsimp only
                    refine hK.out _ _ (by first | exact ⟨HI.out, HPB.out⟩ | exact ⟨HI.out.go (Below.refl _ _).drew, HPB.out.go (Below.refl _ _).drew⟩) (fun hHeld => ?_)
                    clear hK K
                    try simp only [Act.put, List.setIfInBounds_toArray, List.set_cons_zero, List.set_cons_succ]
                    refine take_to (i := 20) (d := some 180) (v := ?_) (l' := #[true, true, true, true, true, true, true, true, true, true, true, true, true, true, true, true, true, true, true, true, true, false]) rfl rfl (by kernel_rfl) (by kernel_rfl) (by kernel_rfl) (by kernel_rfl) (fun _ _ _ h => h) (Or.inl ⟨by rfl, ?_⟩) (by assumption) ?_; rotate_left; · (intro w' hSw; (try dsimp only at hSw); go_simp; (try with_reducible rfl))
                    try simp only [Act.put, List.setIfInBounds_toArray, List.set_cons_zero, List.set_cons_succ]
                    refine take_to (i := 21) (d := some 181) (v := ?_) (l' := #[true, true, true, true, true, true, true, true, true, true, true, true, true, true, true, true, true, true, true, true, true, true]) rfl rfl (by kernel_rfl) (by kernel_rfl) (by kernel_rfl) (by kernel_rfl) (fun _ _ _ h => h) (Or.inl ⟨by rfl, ?_⟩) (by assumption) ?_; rotate_left; · (intro w' hSw; (try dsimp only at hSw); go_simp; (try with_reducible rfl))
                    try simp only [Act.put, List.setIfInBounds_toArray, List.set_cons_zero, List.set_cons_succ]
                    refine wpAnyH_done (by kernel_rfl) ?_ _
                    refine NoPanic.normal ?_
                    clear hHeld
                    go_wp2
                    go_roundw
                    case rel => exact ⟨k + 1, by have := HK.out; omega, by rw [← HKI.out]; first | rfl | go_num, HI.out.t⟩
                    case measure => rw [← HKI.out]; have := HK.out; simp [intOf]; omega
                · obtain rfl : k = 16 := by omega
                  rw [show ((16 : Nat) : Int) = 16 from rfl]
                  obtain ⟨hcl, hcu⟩ := HC.out
                  go_wp2
                  go_roundw
                  case rel => exact ⟨c + 1, by omega, by omega, by first | rfl | go_num, HI.out⟩
                  case measure => simp [intOf]; omega
            · obtain rfl : c = 17 := by omega
              have ML := Lib.hid (fun W => less_any 1 2 3 1 2 3 W)
              rw [show lessV 1 2 3 1 2 3 = false by decide] at ML
              clear hc0 hc1 hc17
              go_upto_region 41 with (fail)
              refine forget_B (fun W => E0 B w W ∧ W.heap[wr.heap.size]? = some (.cells #[.int .i64 1, .int .i64 2, .int .i64 3] 31 (0, 0)) ∧ W.heap[wr.heap.size + 1]? = some (.cells #[.int .i64 1, .int .i64 2, .int .i64 3] 31 (0, 0))) ⟨HI.out.e.go ((below_new _).alloc (by simp) _), al_old (sl_at rfl) _, sl_at (by simp)⟩ ?_
              clear HI
              rintro W1 ⟨h1, h2, h3⟩
              have HI := Lib.hid h1
              have HM := Lib.hid h2
              have HN := Lib.hid h3
              clear h1 h2 h3
              generalize wr.heap.size + 1 = nb at HN ⊢
              generalize wr.heap.size = mb at HM ⊢
              obtain ⟨m0, m1, m2, mf, mz⟩ := row3 HM.out
              obtain ⟨n0, n1, n2, nf, nz⟩ := row3 HN.out
              go_wp2_with fail
              refine (ML.out _).mono ?_
              rintro e w2 ⟨rfl, hb⟩
              replace HI := Lib.hid (HI.out.go hb)
              clear hb m0 m1 m2 mf mz n0 n1 n2 nf nz HM HN
              go_wp2_with fail
              refine (AW.out _ HI.out.gs HI.out.gm HI.out.s).mono ?_
              rintro e w3 ⟨rfl, hb⟩
              replace HI := Lib.hid (HI.out.go hb)
              clear hb
              go_wp2
              go_ret
              exact ⟨rfl, HI.out.bel⟩
end Go.Proofs.YtjhlombbkodpaaaDoor
