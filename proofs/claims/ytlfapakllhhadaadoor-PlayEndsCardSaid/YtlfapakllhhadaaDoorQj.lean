/-
  The law PlayEnds: its walk.
-/
import Derived.Test.YtlfapakllhhadaaDoorPv
import Derived.Test.YtlfapakllhhadaaDoorQg
import Derived.Test.YtlfapakllhhadaaDoorG12
import Derived.Test.YtlfapakllhhadaaDoorG13
import Derived.Deep.CutRange
import Derived.Deep.CutBlock
namespace Go.Proofs.YtlfapakllhhadaaDoor
open Go.RowKit Go.Sort
set_option linter.unusedSimpArgs false
set_option linter.unusedVariables false
set_option maxRecDepth 20000

/-- what stands: some position in a block -/
structure TX (B b1 : Nat) (w W : World) : Prop where
  p : ∃ P, PB W b1 P
  c : GP B W
  bel : Below w.heap.size w W
  l : w.heap.size ≤ b1
  k : B ≤ w.heap.size
theorem TX.s {B b1 : Nat} {w W : World} (h : TX B b1 w W) : B ≤ W.heap.size := Nat.le_trans h.k h.bel.size
theorem TX.go {B b1 : Nat} {w W W' : World} (h : TX B b1 w W) (g : Below W.heap.size W W') : TX B b1 w W' := by
  obtain ⟨P, hp⟩ := h.p
  exact ⟨⟨P, hp.go g⟩, h.c.below (g.mono h.s), h.bel.trans (g.mono h.bel.size), h.l, h.k⟩
theorem TX.set2 {B b1 : Nat} {w W : World} (h : TX B b1 w W) (i j : Nat) (x y : Int) (hi : i < 133) (hj : j < 133) : TX B b1 w ((W.setCell ⟨b1, i, none⟩ (.int .i64 x)).setCell ⟨b1, j, none⟩ (.int .i64 y)) := by
  obtain ⟨P, hp⟩ := h.p
  have hb : Below w.heap.size W ((W.setCell ⟨b1, i, none⟩ (.int .i64 x)).setCell ⟨b1, j, none⟩ (.int .i64 y)) := ((Below.refl _ W).setCell (p := ⟨b1, i, none⟩) h.l _).setCell (p := ⟨b1, j, none⟩) h.l _
  exact ⟨⟨_, (hp.set i x hi).set j y hj⟩, h.c.below (hb.mono h.k), h.bel.trans hb, h.l, h.k⟩
theorem TX.alloc {B b1 : Nat} {w W : World} (h : TX B b1 w W) (o : Obj) : TX B b1 w (W.alloc o) := h.go (below_new o)
theorem TX.drew {B b1 : Nat} {w W : World} (h : TX B b1 w W) : TX B b1 w W.drew := h.go (Below.refl _ _).drew
/-- .. and one more, behind it -/
structure TY (B b1 b5 : Nat) (w W : World) : Prop where
  t : TX B b1 w W
  q : ∃ Q, PB W b5 Q
  g : b1 < b5
theorem TY.go {B b1 b5 : Nat} {w W W' : World} (h : TY B b1 b5 w W) (g : Below W.heap.size W W') : TY B b1 b5 w W' := by
  obtain ⟨Q, hq⟩ := h.q
  exact ⟨h.t.go g, ⟨Q, hq.go g⟩, h.g⟩
theorem TY.alloc {B b1 b5 : Nat} {w W : World} (h : TY B b1 b5 w W) (o : Obj) : TY B b1 b5 w (W.alloc o) := h.go (below_new o)
theorem TY.set1 {B b1 b5 : Nat} {w W : World} (h : TY B b1 b5 w W) (i : Nat) (x : Int) (hi : i < 133) : TY B b1 b5 w (W.setCell ⟨b5, i, none⟩ (.int .i64 x)) := by
  obtain ⟨Q, hq⟩ := h.q
  obtain ⟨P, hp⟩ := h.t.p
  have hb : Below b5 W (W.setCell ⟨b5, i, none⟩ (.int .i64 x)) := (Below.refl _ W).setCell (p := ⟨b5, i, none⟩) (Nat.le_refl _) _
  have h1 := h.t.l
  have h2 := h.t.k
  have h3 := h.g
  exact ⟨⟨⟨P, hp.below hb h.g⟩, h.t.c.below (hb.mono (by omega)), h.t.bel.trans (hb.mono (by omega)), h.t.l, h.t.k⟩, ⟨_, hq.set i x hi⟩, h.g⟩
/-- a literal row of moves -/
theorem reads3_row {W : World} {H n : Nat} {cs : Array Value} {t : TypeId} (h : W.heap[H]? = some (.cells cs t (0, 0))) (F T G : Nat → Int) (hc : ∀ i, i < n → cs[i * 3]? = some (.int .i64 (F i)) ∧ cs[i * 3 + 1]? = some (.int .i64 (T i)) ∧ cs[i * 3 + 2]? = some (.int .i64 (G i))) :
    Reads3 W.heap.size W (some ⟨H, 0, none⟩) n F T G :=
  .inr ⟨H, 0, rfl, al_lt h, fun i hi => by
    obtain ⟨h1, h2, h3⟩ := hc i hi
    refine ⟨?_, ?_, ?_⟩
    · rw [cell_of_row W H _ _ _ (0, 0) h, Nat.zero_add]; exact h1
    · rw [cell_of_row W H _ _ _ (0, 0) h, Nat.zero_add]; exact h2
    · rw [cell_of_row W H _ _ _ (0, 0) h, Nat.zero_add]; exact h3⟩
/-- .. and the numbers at their ends -/
structure TZ (B b1 eb : Nat) (P : Nat → Int) (w W : World) : Prop where
  t : TX B b1 w W
  p : PB W b1 P
  o : W.heap[eb]? = some (.cells #[.int .i64 (-9223372036854775808), .int .i64 (-1), .int .i64 64, .int .i64 9223372036854775807] 3 (0, 0))
theorem TZ.go {B b1 eb : Nat} {P : Nat → Int} {w W W' : World} (h : TZ B b1 eb P w W) (g : Below W.heap.size W W') : TZ B b1 eb P w W' := ⟨h.t.go g, h.p.go g, sl_go h.o g⟩
def endN (j : Nat) : Int := [-9223372036854775808, -1, 64, 9223372036854775807].getD j 0
theorem TZ.cell {B b1 eb : Nat} {P : Nat → Int} {w W : World} (h : TZ B b1 eb P w W) (j : Nat) (hj : j < 4) : W.cell? ⟨eb, j, none⟩ = some (.int .i64 (endN j)) := by
  rw [cell_of_row W eb j _ _ (0, 0) h.o]
  rcases (show j = 0 ∨ j = 1 ∨ j = 2 ∨ j = 3 by omega) with rfl | rfl | rfl | rfl <;> rfl
theorem and3 : ∀ c ∈ List.range 18, 0 ≤ bits .and .i64 ((c : Int) - 1) 3 ∧ bits .and .i64 ((c : Int) - 1) 3 ≤ 3 := by decide +kernel
theorem and1 : ∀ c ∈ List.range 80, 0 ≤ bits .and .i64 ((c : Int) - 1) 1 ∧ bits .and .i64 ((c : Int) - 1) 1 ≤ 1 := by decide +kernel
set_option maxHeartbeats 400000000 in
set_option maxRecDepth 100000 in
theorem ends_play (w : World) (B : Nat) (hc : GP B w) (hB : B ≤ w.heap.size) :
    Calls Tryd.prog 3 #[] w fun e w' => e = .returned (.bool true) ∧ Below w.heap.size w w' := by
  obtain ⟨E, hE⟩ : ∃ E, E = (pc emptyN).toArray := ⟨_, rfl⟩
  have ME := Lib.hid (fun W => rEmpty_any W)
  rw [← hE] at ME
  have HE := Lib.hid hE
  have HC := Lib.hid hc
  clear hE hc
  go_enter Tryd.func3, Tryd.ntmps3
  go_wp2_with fail
  refine (ME.out _).mono ?_
  rintro e w1 ⟨rfl, hb⟩
  have H1 := Lib.hid hb
  have HC1 := Lib.hid (HC.out.below (hb.mono hB))
  clear hb
  go_wp2_with (refine wpList_new E emptyN HE.out (by rfl) (by rfl) ?_)
  intro w2 hq hb hz
  try simp only [Act.put, List.setIfInBounds_toArray, List.set_cons_zero, List.set_cons_succ]
  have HI := Lib.hid (show TX B w1.heap.size w w2 from ⟨⟨_, hq⟩, HC1.out.below (hb.mono (Nat.le_trans hB H1.out.size)), H1.out.trans (hb.mono H1.out.size), H1.out.size, hB⟩)
  generalize w1.heap.size = b1 at HI ⊢
  clear hq hb hz H1 HC1 ME HE HC
  go_wp2
  go_loopw [2] (fun i wr => ∃ j : Nat, j ≤ 6 ∧ i = .int .i64 (j : Int) ∧ TX B b1 w wr) (fun i _ => 6 - (intOf i).toNat)
  case atStart => exact ⟨0, Nat.zero_le _, rfl, HI.out⟩
  case round =>
    clear HI
    obtain ⟨j, hj, rfl, h1⟩ := hrel
    have HI := Lib.hid h1
    clear h1
    by_cases hlt : j < 6
    · obtain ⟨P, hp⟩ := HI.out.p
      have hpl := hp.lt
      rcases (show j = 0 ∨ j = 1 ∨ j = 2 ∨ j = 3 ∨ j = 4 ∨ j = 5 by omega) with rfl | rfl | rfl | rfl | rfl | rfl
      · have z4 : ∀ o1 o2 o3 : Obj, (((wr.alloc o1).alloc o2).alloc o3).cell? ⟨b1, 0, none⟩ = some (.int .i64 (P 0)) := fun o1 o2 o3 => ((((hp.alloc o1).alloc o2).alloc o3).cell 0 (by omega))
        have z5 : ∀ o1 o2 o3 : Obj, (((wr.alloc o1).alloc o2).alloc o3).cell? ⟨b1, 1, none⟩ = some (.int .i64 (P 1)) := fun o1 o2 o3 => ((((hp.alloc o1).alloc o2).alloc o3).cell 1 (by omega))
        have z6 : ∀ (o1 o2 o3 : Obj) (i : Nat), (((wr.alloc o1).alloc o2).alloc o3).frozen? ⟨b1, i, none⟩ = false := fun o1 o2 o3 i => ((((hp.alloc o1).alloc o2).alloc o3).fr i)
        clear hp
        go_upto_region 5 with (fail)
        go_region
        all_goals
          go_wp2
          go_roundw
          case rel => exact ⟨1, by omega, rfl, ((((HI.out.alloc _).alloc _).alloc _).set2 0 1 _ _ (by omega) (by omega)).drew⟩
          case measure => simp [intOf]
      · have z4 : ∀ o1 o2 o3 : Obj, (((wr.alloc o1).alloc o2).alloc o3).cell? ⟨b1, 14, none⟩ = some (.int .i64 (P 14)) := fun o1 o2 o3 => ((((hp.alloc o1).alloc o2).alloc o3).cell 14 (by omega))
        have z5 : ∀ o1 o2 o3 : Obj, (((wr.alloc o1).alloc o2).alloc o3).cell? ⟨b1, 15, none⟩ = some (.int .i64 (P 15)) := fun o1 o2 o3 => ((((hp.alloc o1).alloc o2).alloc o3).cell 15 (by omega))
        have z6 : ∀ (o1 o2 o3 : Obj) (i : Nat), (((wr.alloc o1).alloc o2).alloc o3).frozen? ⟨b1, i, none⟩ = false := fun o1 o2 o3 i => ((((hp.alloc o1).alloc o2).alloc o3).fr i)
        clear hp
        go_upto_region 5 with (fail)
        go_region
        all_goals
          go_wp2
          go_roundw
          case rel => exact ⟨2, by omega, rfl, ((((HI.out.alloc _).alloc _).alloc _).set2 14 15 _ _ (by omega) (by omega)).drew⟩
          case measure => simp [intOf]
      · have z4 : ∀ o1 o2 o3 : Obj, (((wr.alloc o1).alloc o2).alloc o3).cell? ⟨b1, 112, none⟩ = some (.int .i64 (P 112)) := fun o1 o2 o3 => ((((hp.alloc o1).alloc o2).alloc o3).cell 112 (by omega))
        have z5 : ∀ o1 o2 o3 : Obj, (((wr.alloc o1).alloc o2).alloc o3).cell? ⟨b1, 113, none⟩ = some (.int .i64 (P 113)) := fun o1 o2 o3 => ((((hp.alloc o1).alloc o2).alloc o3).cell 113 (by omega))
        have z6 : ∀ (o1 o2 o3 : Obj) (i : Nat), (((wr.alloc o1).alloc o2).alloc o3).frozen? ⟨b1, i, none⟩ = false := fun o1 o2 o3 i => ((((hp.alloc o1).alloc o2).alloc o3).fr i)
        clear hp
        go_upto_region 5 with (fail)
        go_region
        all_goals
          go_wp2
          go_roundw
          case rel => exact ⟨3, by omega, rfl, ((((HI.out.alloc _).alloc _).alloc _).set2 112 113 _ _ (by omega) (by omega)).drew⟩
          case measure => simp [intOf]
      · have z4 : ∀ o1 o2 o3 : Obj, (((wr.alloc o1).alloc o2).alloc o3).cell? ⟨b1, 126, none⟩ = some (.int .i64 (P 126)) := fun o1 o2 o3 => ((((hp.alloc o1).alloc o2).alloc o3).cell 126 (by omega))
        have z5 : ∀ o1 o2 o3 : Obj, (((wr.alloc o1).alloc o2).alloc o3).cell? ⟨b1, 127, none⟩ = some (.int .i64 (P 127)) := fun o1 o2 o3 => ((((hp.alloc o1).alloc o2).alloc o3).cell 127 (by omega))
        have z6 : ∀ (o1 o2 o3 : Obj) (i : Nat), (((wr.alloc o1).alloc o2).alloc o3).frozen? ⟨b1, i, none⟩ = false := fun o1 o2 o3 i => ((((hp.alloc o1).alloc o2).alloc o3).fr i)
        clear hp
        go_upto_region 5 with (fail)
        go_region
        all_goals
          go_wp2
          go_roundw
          case rel => exact ⟨4, by omega, rfl, ((((HI.out.alloc _).alloc _).alloc _).set2 126 127 _ _ (by omega) (by omega)).drew⟩
          case measure => simp [intOf]
      · have z4 : ∀ o1 o2 o3 : Obj, (((wr.alloc o1).alloc o2).alloc o3).cell? ⟨b1, 8, none⟩ = some (.int .i64 (P 8)) := fun o1 o2 o3 => ((((hp.alloc o1).alloc o2).alloc o3).cell 8 (by omega))
        have z5 : ∀ o1 o2 o3 : Obj, (((wr.alloc o1).alloc o2).alloc o3).cell? ⟨b1, 9, none⟩ = some (.int .i64 (P 9)) := fun o1 o2 o3 => ((((hp.alloc o1).alloc o2).alloc o3).cell 9 (by omega))
        have z6 : ∀ (o1 o2 o3 : Obj) (i : Nat), (((wr.alloc o1).alloc o2).alloc o3).frozen? ⟨b1, i, none⟩ = false := fun o1 o2 o3 i => ((((hp.alloc o1).alloc o2).alloc o3).fr i)
        clear hp
        go_upto_region 5 with (fail)
        go_region
        all_goals
          go_wp2
          go_roundw
          case rel => exact ⟨5, by omega, rfl, ((((HI.out.alloc _).alloc _).alloc _).set2 8 9 _ _ (by omega) (by omega)).drew⟩
          case measure => simp [intOf]
      · have z4 : ∀ o1 o2 o3 : Obj, (((wr.alloc o1).alloc o2).alloc o3).cell? ⟨b1, 120, none⟩ = some (.int .i64 (P 120)) := fun o1 o2 o3 => ((((hp.alloc o1).alloc o2).alloc o3).cell 120 (by omega))
        have z5 : ∀ o1 o2 o3 : Obj, (((wr.alloc o1).alloc o2).alloc o3).cell? ⟨b1, 121, none⟩ = some (.int .i64 (P 121)) := fun o1 o2 o3 => ((((hp.alloc o1).alloc o2).alloc o3).cell 121 (by omega))
        have z6 : ∀ (o1 o2 o3 : Obj) (i : Nat), (((wr.alloc o1).alloc o2).alloc o3).frozen? ⟨b1, i, none⟩ = false := fun o1 o2 o3 i => ((((hp.alloc o1).alloc o2).alloc o3).fr i)
        clear hp
        go_upto_region 5 with (fail)
        go_region
        all_goals
          go_wp2
          go_roundw
          case rel => exact ⟨6, by omega, rfl, ((((HI.out.alloc _).alloc _).alloc _).set2 120 121 _ _ (by omega) (by omega)).drew⟩
          case measure => simp [intOf]
    · obtain rfl : j = 6 := by omega
      rw [show ((6 : Nat) : Int) = 6 from rfl]
      obtain ⟨P, hp⟩ := HI.out.p
      have e1 := hp.cell 66 (by omega)
      have e2 := hp.cell 67 (by omega)
      have fz := hp.fr
      go_upto_region 7 with (fail)
      refine forget_B (fun W => TX B b1 w W) (HI.out.set2 66 67 1 0 (by omega) (by omega)) ?_
      clear HI hp e1 e2 fz P
      intro W0 h
      have HI := Lib.hid h
      clear h
      obtain ⟨P, hp⟩ := HI.out.p
      have e1 := hp.cell 68 (by omega)
      have e2 := hp.cell 69 (by omega)
      have fz := hp.fr
      go_upto_region 8 with (fail)
      refine forget_B (fun W => TX B b1 w W) (HI.out.set2 68 69 1 1 (by omega) (by omega)) ?_
      clear HI hp e1 e2 fz P
      intro W1 h
      have HI := Lib.hid h
      clear h
      obtain ⟨P, hp⟩ := HI.out.p
      have e1 := hp.cell 102 (by omega)
      have e2 := hp.cell 103 (by omega)
      have fz := hp.fr
      go_upto_region 9 with (fail)
      refine forget_B (fun W => TX B b1 w W) (HI.out.set2 102 103 1 0 (by omega) (by omega)) ?_
      clear HI hp e1 e2 fz P
      intro W2 h
      have HI := Lib.hid h
      clear h
      obtain ⟨P, hp⟩ := HI.out.p
      have e1 := hp.cell 22 (by omega)
      have e2 := hp.cell 23 (by omega)
      have fz := hp.fr
      go_upto_region 10 with (fail)
      refine forget_B (fun W => TX B b1 w W) (HI.out.set2 22 23 1 1 (by omega) (by omega)) ?_
      clear HI hp e1 e2 fz P
      intro W3 h
      have HI := Lib.hid h
      clear h
      obtain ⟨P, hp⟩ := HI.out.p
      have e1 := hp.cell 16 (by omega)
      have e2 := hp.cell 17 (by omega)
      have fz := hp.fr
      go_upto_region 11 with (fail)
      refine forget_B (fun W => TX B b1 w W) (HI.out.set2 16 17 1 0 (by omega) (by omega)) ?_
      clear HI hp e1 e2 fz P
      intro W4 h
      have HI := Lib.hid h
      clear h
      obtain ⟨P, hp⟩ := HI.out.p
      have e1 := hp.cell 110 (by omega)
      have e2 := hp.cell 111 (by omega)
      have fz := hp.fr
      go_upto_region 12 with (fail)
      refine forget_B (fun W => TX B b1 w W) (HI.out.set2 110 111 1 1 (by omega) (by omega)) ?_
      clear HI hp e1 e2 fz P
      intro W5 h
      have HI := Lib.hid h
      clear h
      go_wp2
      go_loopw [3] (fun i wr => ∃ c : Int, -1 ≤ c ∧ c ≤ 17 ∧ i = .int .i64 c ∧ TX B b1 w wr) (fun i _ => (17 - intOf i).toNat)
      case atStart => exact ⟨-1, by omega, by omega, rfl, HI.out⟩
      case round =>
        clear HI
        obtain ⟨c, hc0, hc1, rfl, h1⟩ := hrel
        have HI := Lib.hid h1
        clear h1
        by_cases hc17 : c < 17
        · have HC := Lib.hid (show -1 ≤ c ∧ c < 17 from ⟨hc0, hc17⟩)
          clear hc0 hc1
          go_wp2
          go_loopw [4] (fun i wr => ∃ d : Int, 0 ≤ d ∧ d ≤ 2 ∧ i = .int .i64 d ∧ TX B b1 w wr) (fun i _ => (2 - intOf i).toNat)
          case atStart => exact ⟨0, by omega, by omega, rfl, HI.out⟩
          case round =>
            clear HI
            obtain ⟨d, hd0, hd2, rfl, h1⟩ := hrel
            have HI := Lib.hid h1
            clear h1
            by_cases hd : d < 2
            · have HD := Lib.hid (show 0 ≤ d ∧ d < 2 from ⟨hd0, hd⟩)
              obtain ⟨P, hp⟩ := HI.out.p
              obtain ⟨X, hX⟩ : ∃ X, X = (pc P).toArray := ⟨_, rfl⟩
              have HX := Lib.hid hX
              have HPB := Lib.hid hp
              clear hX hp hd0 hd2
              go_wp2_with (first | refine wpList_new X P HX.out (by rfl) (by rfl) ?_ | refine wpList_pos (by rfl) _ (by rfl) b1 P X HX.out (by rfl) HPB.out ?_)
              intro W hq hb hz
              try simp only [Act.put, List.setIfInBounds_toArray, List.set_cons_zero, List.set_cons_succ]
              have HY := Lib.hid (show TY B b1 wr.heap.size w W from ⟨HI.out.go hb, ⟨_, hq⟩, HPB.out.lt⟩)
              generalize wr.heap.size = b5 at HY ⊢
              clear hq hb hz HI HPB HX
              obtain ⟨Q, hq⟩ := HY.out.q
              have e1 := hq.cell 129 (by omega)
              have fz := hq.fr
              go_upto_region 20 with (fail)
              refine forget_B (fun W => TY B b1 b5 w W) (HY.out.set1 129 c (by omega)) ?_
              clear HY hq e1 fz Q
              intro Wa h
              have HY := Lib.hid h
              clear h
              obtain ⟨Q, hq⟩ := HY.out.q
              have e1 := hq.cell 128 (by omega)
              have fz := hq.fr
              go_upto_region 21 with (fail)
              refine forget_B (fun W => TY B b1 b5 w W) (HY.out.set1 128 d (by omega)) ?_
              clear HY hq e1 fz Q
              intro Wb h
              have HY := Lib.hid h
              clear h
              go_upto_region 21 with (fail)
              go_cut [] from 68 to 74 (fun wx => TY B b1 b5 w wx)
              case first =>
                obtain ⟨Q, hq⟩ := HY.out.q
                have hc := HC.out
                obtain ⟨x, hx⟩ : ∃ x, c + 18 = x := ⟨_, rfl⟩
                have hw : IntKind.i64.wrap (c + 18) = x := by rw [hx]; exact IntWalk.i64_in _ (by omega)
                have hxx : 0 ≤ x := by omega
                have HM := Lib.hid (show x.tmod 3 = x % 3 from Int.tmod_eq_emod_of_nonneg hxx)
                have HZ := Lib.hid (fun o : Obj => And.intro ((hq.alloc o).cell 130 (by omega)) (hq.alloc o).fr)
                have hql := hq.lt
                clear hx hxx hc hq
                rcases (show x % 3 = 0 ∨ x % 3 = 1 ∨ x % 3 = 2 by omega) with h | h | h
                all_goals
                  have hm := HM.out
                  rw [h] at hm
                  have z1 := fun o => (HZ.out o).1
                  have z2 := fun o => (HZ.out o).2
                  clear HZ HM h
                  go_wp2
                  go_meet
                  exact (HY.out.set1 130 _ (by omega)).alloc _
              case rest =>
              have HY := Lib.hid hcut
              clear hcut
              go_upto_region 22 with (fail)
              go_cut [] from 75 to 81 (fun wx => TY B b1 b5 w wx)
              case first =>
                obtain ⟨Q, hq⟩ := HY.out.q
                have hc := HC.out
                obtain ⟨x, hx⟩ : ∃ x, c + 6 = x := ⟨_, rfl⟩
                have hw : IntKind.i64.wrap (c + 6) = x := by rw [hx]; exact IntWalk.i64_in _ (by omega)
                have hxx : 0 ≤ x := by omega
                have HM := Lib.hid (show x.tmod 6 = x % 6 from Int.tmod_eq_emod_of_nonneg hxx)
                have HZ := Lib.hid (fun o : Obj => And.intro ((hq.alloc o).cell 131 (by omega)) (hq.alloc o).fr)
                have hql := hq.lt
                clear hx hxx hc hq
                rcases (show x % 6 = 0 ∨ x % 6 = 1 ∨ x % 6 = 2 ∨ x % 6 = 3 ∨ x % 6 = 4 ∨ x % 6 = 5 by omega) with h | h | h | h | h | h
                all_goals
                  have hm := HM.out
                  rw [h] at hm
                  have z1 := fun o => (HZ.out o).1
                  have z2 := fun o => (HZ.out o).2
                  clear HZ HM h
                  go_wp2
                  go_meet
                  exact (HY.out.set1 131 _ (by omega)).alloc _
              case rest =>
              have HY := Lib.hid hcut
              clear hcut
              go_upto_region 23 with (fail)
              go_cut [] from 82 to 88 (fun wx => TY B b1 b5 w wx)
              case first =>
                obtain ⟨Q, hq⟩ := HY.out.q
                have hc := HC.out
                obtain ⟨x, hx⟩ : ∃ x, c + 4 = x := ⟨_, rfl⟩
                have hw : IntKind.i64.wrap (c + 4) = x := by rw [hx]; exact IntWalk.i64_in _ (by omega)
                have hxx : 0 ≤ x := by omega
                have HM := Lib.hid (show x.tmod 4 = x % 4 from Int.tmod_eq_emod_of_nonneg hxx)
                have HZ := Lib.hid (fun o : Obj => And.intro ((hq.alloc o).cell 132 (by omega)) (hq.alloc o).fr)
                have hql := hq.lt
                clear hx hxx hc hq
                rcases (show x % 4 = 0 ∨ x % 4 = 1 ∨ x % 4 = 2 ∨ x % 4 = 3 by omega) with h | h | h | h
                all_goals
                  have hm := HM.out
                  rw [h] at hm
                  have z1 := fun o => (HZ.out o).1
                  have z2 := fun o => (HZ.out o).2
                  clear HZ HM h
                  go_wp2
                  go_meet
                  exact (HY.out.set1 132 _ (by omega)).alloc _
              case rest =>
              have HY := Lib.hid hcut
              clear hcut
              go_wp2
              go_loopw [6] (fun i wr => ∃ s : Nat, s ≤ 64 ∧ i = .int .i64 (s : Int) ∧ TY B b1 b5 w wr) (fun i _ => 64 - (intOf i).toNat)
              case atStart => exact ⟨0, by omega, rfl, HY.out⟩
              case round =>
                clear HY
                obtain ⟨s, hs, rfl, h1⟩ := hrel
                have HY := Lib.hid h1
                clear h1
                by_cases hs64 : s < 64
                · have HS := Lib.hid hs64
                  have hsi : (s : Int) < 64 := by omega
                  have h5 : (s : Int).tmod 5 = (s : Int) % 5 := Int.tmod_eq_emod_of_nonneg (by omega)
                  obtain ⟨r5, hr5⟩ : ∃ x, (s : Int) % 5 = x := ⟨_, rfl⟩
                  have hrb : 0 ≤ r5 ∧ r5 < 5 := by omega
                  rw [hr5] at h5
                  have hw5 : IntKind.i64.wrap (r5 - 1) = r5 - 1 := IntWalk.i64_in _ (by omega)
                  have HR5 := Lib.hid hrb
                  clear hr5 hrb hs
                  go_wp2
                  go_loopw [7] (fun i wr => ∃ t : Int, -1 ≤ t ∧ t ≤ 70 ∧ i = .int .i64 t ∧ TY B b1 b5 w wr) (fun i _ => (70 - intOf i).toNat)
                  case atStart => exact ⟨r5 - 1, by have := HR5.out; omega, by have := HR5.out; omega, rfl, HY.out⟩
                  case round =>
                    clear HY h5 hw5 HR5
                    obtain ⟨tt, ht0, ht1, rfl, h1⟩ := hrel
                    have HY := Lib.hid h1
                    clear h1
                    by_cases ht65 : tt < 65
                    · have HT := Lib.hid (show -1 ≤ tt ∧ tt < 65 from ⟨ht0, ht65⟩)
                      obtain ⟨ba, hba⟩ : ∃ x, bits .and .i64 tt 1 = x := ⟨_, rfl⟩
                      have HBA := Lib.hid (show 0 ≤ ba ∧ ba ≤ 1 by
                        have h := and1 (tt + 1).toNat (List.mem_range.2 (by omega))
                        rw [show (((tt + 1).toNat : Nat) : Int) - 1 = tt by omega, hba] at h
                        exact h)
                      have HBE := Lib.hid hba
                      obtain ⟨bc, hbc⟩ : ∃ x, bits .and .i64 c 3 = x := ⟨_, rfl⟩
                      have HBC := Lib.hid (show 0 ≤ bc ∧ bc ≤ 3 by
                        have hc := HC.out
                        have h := and3 (c + 1).toNat (List.mem_range.2 (by omega))
                        rw [show (((c + 1).toNat : Nat) : Int) - 1 = c by omega, hbc] at h
                        exact h)
                      have HBD := Lib.hid hbc
                      clear ht0 ht1 hba hbc
                      go_wp2
                      go_loopw [8] (fun i wr => ∃ b : Int, -1 ≤ b ∧ b ≤ 10 ∧ i = .int .i64 b ∧ TY B b1 b5 w wr) (fun i _ => (10 - intOf i).toNat)
                      case atStart => exact ⟨-1, by omega, by omega, rfl, HY.out⟩
                      case round =>
                        clear HY
                        obtain ⟨b, hb0, hb1, rfl, h1⟩ := hrel
                        have HY := Lib.hid h1
                        clear h1
                        by_cases hb7 : b < 7
                        · have HBB := Lib.hid (show -1 ≤ b ∧ b < 7 from ⟨hb0, hb7⟩)
                          clear hb0 hb1
                          go_upto_region 34 with (fail)
                          obtain ⟨Q, hq⟩ := HY.out.q
                          obtain ⟨Z, hZ⟩ : ∃ Z, Z = (pc Q).toArray := ⟨_, rfl⟩
                          obtain ⟨V, hV⟩ : ∃ V, V = (pc (mvP Q (s : Int) tt b)).toArray := ⟨_, rfl⟩
                          obtain ⟨er, her⟩ : ∃ x, fltN (handP Q) (s : Int) tt b = x := ⟨_, rfl⟩
                          obtain ⟨tk, htk⟩ : ∃ x, tkP Q (s : Int) tt b = x := ⟨_, rfl⟩
                          have MV := Lib.hid (fun W h1 h2 => move_any Q (s : Int) tt b W B h1 h2)
                          have MW := Lib.hid (fun W => rMove_any Q (s : Int) tt b W)
                          have MK := Lib.hid (fun W => takesP_any Q (s : Int) tt b W)
                          have ML := Lib.hid (fun W => rTakes_any Q (s : Int) tt b W)
                          have NX := Lib.hid (show ∀ W, (binOp .neq 29 (.agg V) (.agg V)).run Tryd.prog W = .ok (.bool false) W from fun W => by rw [hV, neq_pos, posEq_self]; rfl)
                          rw [← hZ, ← hV, her] at MV MW
                          rw [← hZ, htk] at MK ML
                          have HZ := Lib.hid hZ
                          have HV := Lib.hid hV
                          clear hZ hV her htk
                          generalize mvP Q (s : Int) tt b = R at *
                          refine forget_B (fun W => TY B b1 b5 w W ∧ PB W b5 Q ∧ W.heap[wr.heap.size]? = some (.cells #[.int .i64 (s : Int), .int .i64 tt, .int .i64 b] 34 (0, 0))) ⟨HY.out.alloc _, hq.alloc _, sl_at rfl⟩ ?_
                          clear HY hq
                          rintro W4 ⟨h1, h2, h3⟩
                          have HY := Lib.hid h1
                          have HQ := Lib.hid h2
                          have HM := Lib.hid h3
                          clear h1 h2 h3
                          generalize wr.heap.size = mb at HM ⊢
                          obtain ⟨m0, m1, m2, _, _⟩ := row3 HM.out
                          go_wp2_with (refine wpList_pos (by rfl) _ (by rfl) b5 Q Z HZ.out (by rfl) HQ.out ?_)
                          refine (MV.out _ HY.out.t.c HY.out.t.s).mono ?_
                          rintro e w5 ⟨rfl, hb⟩
                          replace HY := Lib.hid (HY.out.go hb)
                          replace HQ := Lib.hid (HQ.out.go hb)
                          replace HM := Lib.hid (sl_go HM.out hb)
                          clear hb m0 m1 m2
                          go_wp2_with (refine wpList_new V R HV.out (by rfl) (by rfl) ?_)
                          intro W6 hp6 hb hz
                          replace HY := Lib.hid (HY.out.go hb)
                          replace HQ := Lib.hid (HQ.out.go hb)
                          replace HM := Lib.hid (sl_go HM.out hb)
                          have HX1 := Lib.hid hp6
                          generalize w5.heap.size = xb at HX1 ⊢
                          clear hb hz hp6
                          obtain ⟨m0, m1, m2, _, _⟩ := row3 HM.out
                          go_wp2_with (refine wpList_pos (by rfl) _ (by rfl) b5 Q Z HZ.out (by rfl) HQ.out ?_)
                          refine (MW.out _).mono ?_
                          rintro e w7 ⟨rfl, hb⟩
                          replace HY := Lib.hid (HY.out.go hb)
                          replace HQ := Lib.hid (HQ.out.go hb)
                          replace HM := Lib.hid (sl_go HM.out hb)
                          replace HX1 := Lib.hid (HX1.out.go hb)
                          clear hb m0 m1 m2
                          go_wp2_with (refine wpList_new V R HV.out (by rfl) (by rfl) ?_)
                          intro W8 hp8 hb hz
                          replace HY := Lib.hid (HY.out.go hb)
                          replace HQ := Lib.hid (HQ.out.go hb)
                          replace HM := Lib.hid (sl_go HM.out hb)
                          replace HX1 := Lib.hid (HX1.out.go hb)
                          have HX2 := Lib.hid hp8
                          generalize w7.heap.size = yb at HX2 ⊢
                          clear hb hz hp8
                          obtain ⟨m0, m1, m2, _, _⟩ := row3 HM.out
                          replace m0 := cell_regrown m0
                          replace m1 := cell_regrown m1
                          replace m2 := cell_regrown m2
                          have c1 := regrown_call (w := W8) MK.out
                          have c2 := regrown_call (w := W8) ML.out
                          have HC1 := Lib.hid HX1.out.regrown
                          have HC2 := Lib.hid HX2.out.regrown
                          have HC5 := Lib.hid HQ.out.regrown
                          go_upto_region 36 with (fail)
                          refine wp_region_quiet_below (by kernel_rfl) (by kernel_rfl) ?_
                          refine wpQuiet_pos (by rfl) _ (by rfl) xb R V HV.out (by rfl) HC1.out ?_
                          try simp only [Act.put, List.setIfInBounds_toArray, List.set_cons_zero, List.set_cons_succ]
                          refine wpQuiet_pos (by rfl) _ (by rfl) yb R V HV.out (by rfl) HC2.out ?_
                          try simp only [Act.put, List.setIfInBounds_toArray, List.set_cons_zero, List.set_cons_succ]
                          refine wpQuiet_bin (by rfl) _ _ _ _ _ (by rfl) (.agg V) (.agg V) (.bool false) (by rfl) (by rfl) (fun W => by go_simp) NX.out ?_
                          try simp only [Act.put, List.setIfInBounds_toArray, List.set_cons_zero, List.set_cons_succ]
                          iterate 6 (go_big_quiet_step (fail))
                          refine wpQuiet_pos (by rfl) _ (by rfl) b5 Q Z HZ.out (by rfl) HC5.out ?_
                          try simp only [Act.put, List.setIfInBounds_toArray, List.set_cons_zero, List.set_cons_succ]
                          go_big_quiet_step (fail)
                          go_big_quiet_step (exact c1 _ _)
                          refine wpQuiet_pos (by rfl) _ (by rfl) b5 Q Z HZ.out (by rfl) HC5.out ?_
                          try simp only [Act.put, List.setIfInBounds_toArray, List.set_cons_zero, List.set_cons_succ]
                          go_big_quiet_step (fail)
                          go_big_quiet_step (exact c2 _ _)
                          repeat (go_big_quiet_step (fail))
                          refine wpQuiet_nil ?_
                          rintro W9 ⟨p, rfl⟩
                          replace HY := Lib.hid (HY.out.go (below_regrown W8 p.d p.os))
                          clear c1 c2 m0 m1 m2 HC1 HC2 HC5 HQ HM HX1 HX2 MV MW MK ML NX
                          generalize grow (redrawn W8 p.d) p.os = W9 at HY ⊢
                          have hba := HBE.out
                          have hw1 : IntKind.i64.wrap (b + 2) = b + 2 := IntWalk.i64_in _ (by have := HBB.out; omega)
                          have hw2 : IntKind.i64.wrap (b + 2 + ba) = b + 2 + ba := IntWalk.i64_in _ (by have := HBB.out; have := HBA.out; omega)
                          go_wp2
                          go_roundw
                          case rel => exact ⟨b + 2 + ba, by have := HBB.out; have := HBA.out; omega, by have := HBB.out; have := HBA.out; omega, rfl, HY.out⟩
                          case measure => have := HBB.out; have := HBA.out; simp [intOf]; omega
                        · have hbc := HBD.out
                          have hw1 : IntKind.i64.wrap (tt + 1) = tt + 1 := IntWalk.i64_in _ (by have := HT.out; omega)
                          have hw2 : IntKind.i64.wrap (tt + 1 + bc) = tt + 1 + bc := IntWalk.i64_in _ (by have := HT.out; have := HBC.out; omega)
                          go_wp2
                          go_roundw
                          case rel => exact ⟨tt + 1 + bc, by have := HT.out; have := HBC.out; omega, by have := HT.out; have := HBC.out; omega, rfl, HY.out⟩
                          case measure => have := HT.out; have := HBC.out; simp [intOf]; omega
                    · go_wp2
                      go_roundw
                      case rel => exact ⟨s + 1, by have := HS.out; omega, by have := HS.out; go_num, HY.out⟩
                      case measure => have := HS.out; simp [intOf]; omega
                · obtain rfl : s = 64 := by omega
                  rw [show ((64 : Nat) : Int) = 64 from rfl]
                  obtain ⟨Q, hq⟩ := HY.out.q
                  obtain ⟨Z, hZ⟩ : ∃ Z, Z = (pc Q).toArray := ⟨_, rfl⟩
                  have HTL := Lib.hid (fun (W : World) (p : Option Addr) (n : Nat) (F T G : Nat → Int) (h1 : n ≤ maxLen) (h2 : Reads3 W.heap.size W p n F T G) (h3 : GP W.heap.size W) => tells_play Q p n n F T G W W.heap.size h1 h2 h3 (Nat.le_refl _))
                  rw [← hZ] at HTL
                  have HZ := Lib.hid hZ
                  have HQ := Lib.hid hq
                  clear hZ hq
                  go_wp2_with (refine wpList_pos (by rfl) _ (by rfl) b5 Q Z HZ.out (by rfl) HQ.out ?_)
                  refine (HTL.out _ _ 5 (fun i => [4, 60, 33, 51, 0].getD i 0) (fun i => [6, 58, 42, 59, 56].getD i 0) (fun i => [0, 0, 0, 5, 0].getD i 0) (by unfold maxLen; omega) (reads3_row (sl_at rfl) _ _ _ (fun i hi => by
                    rcases (show i = 0 ∨ i = 1 ∨ i = 2 ∨ i = 3 ∨ i = 4 by omega) with rfl | rfl | rfl | rfl | rfl <;> exact ⟨rfl, rfl, rfl⟩)) ((HY.out.alloc _).t.c.mono (HY.out.alloc _).t.s)).mono ?_
                  rintro e w5 ⟨rfl, hb⟩
                  replace HY := Lib.hid ((HY.out.alloc _).go hb)
                  replace HQ := Lib.hid ((HQ.out.alloc _).go hb)
                  clear hb
                  go_wp2_with (refine wpList_pos (by rfl) _ (by rfl) b5 Q Z HZ.out (by rfl) HQ.out ?_)
                  refine (HTL.out _ _ 2 (fun i => [4, 60].getD i 0) (fun i => [2, 62].getD i 0) (fun i => [0, 0].getD i 0) (by unfold maxLen; omega) (reads3_row (sl_at rfl) _ _ _ (fun i hi => by
                    rcases (show i = 0 ∨ i = 1 by omega) with rfl | rfl <;> exact ⟨rfl, rfl, rfl⟩)) ((HY.out.alloc _).t.c.mono (HY.out.alloc _).t.s)).mono ?_
                  rintro e w6 ⟨rfl, hb⟩
                  replace HY := Lib.hid ((HY.out.alloc _).go hb)
                  clear hb HQ HZ HTL
                  have HDD := HD.out
                  go_wp2
                  go_roundw
                  case rel => exact ⟨d + 1, by omega, by omega, by go_num, HY.out.t⟩
                  case measure => simp [intOf]; omega
            · have HCC := HC.out
              go_wp2
              go_roundw
              case rel => exact ⟨c + 1, by omega, by omega, by go_num, HI.out⟩
              case measure => simp [intOf]; omega
        · obtain rfl : c = 17 := by omega
          obtain ⟨P, hp⟩ := HI.out.p
          obtain ⟨X, hX⟩ : ∃ X, X = (pc P).toArray := ⟨_, rfl⟩
          have HTL := Lib.hid (fun (W : World) (p : Option Addr) (n : Nat) (F T G : Nat → Int) (h1 : n ≤ maxLen) (h2 : Reads3 W.heap.size W p n F T G) (h3 : GP W.heap.size W) => tells_play P p n n F T G W W.heap.size h1 h2 h3 (Nat.le_refl _))
          rw [← hX] at HTL
          have HX := Lib.hid hX
          have HPB := Lib.hid hp
          clear hX hp hc0 hc1 hc17
          go_upto_region 41 with (fail)
          refine forget_B (fun W => TZ B b1 wr.heap.size P w W) ⟨HI.out.alloc _, HPB.out.alloc _, sl_at rfl⟩ ?_
          generalize wr.heap.size = eb
          clear HI HPB
          intro W5 h5
          have HI := Lib.hid h5
          clear h5
          go_wp2
          go_loopw [15] (fun i wr => ∃ j : Nat, j ≤ 4 ∧ i = .int .i64 (j : Int) ∧ TZ B b1 eb P w wr) (fun i _ => 4 - (intOf i).toNat)
          case atStart => exact ⟨0, by omega, rfl, HI.out⟩
          case round =>
            clear HI
            obtain ⟨j, hj, rfl, h1⟩ := hrel
            have HI := Lib.hid h1
            clear h1
            by_cases hlt : j < 4
            · have j0 : (0 : Int) ≤ (j : Int) := by omega
              have j1 : (j : Int) < 4 := by omega
              obtain ⟨v, hv⟩ : ∃ v, endN j = v := ⟨_, rfl⟩
              have HCE := Lib.hid (show ∀ W, TZ B b1 eb P w W → W.cell? ⟨eb, j, none⟩ = some (.int .i64 v) from fun W h => by rw [← hv]; exact h.cell j hlt)
              clear hv
              go_upto_region 44 with (fail)
              refine wp_region_noPanic ?_
              refine wp_region_start (n := 31) (l := #[false, false, false, false, false, false, false, false, false, false, false, false, false, false, false, false, false, false, false, false, false, false, false, false, false, false, false, false, false, false, false]) (S := (fun W => TZ B b1 eb P w W)) (by kernel_rfl) rfl (by kernel_rfl) (by first | exact HI.out | exact HI.out.go (Below.refl _ _).drew) (fun hHeld => ?_)
              replace HI := Lib.hid (HI.out.go (Below.refl wr.heap.size wr).drew)
              generalize wr.drew = V0 at hHeld HI ⊢
              refine take_to (i := 0) (d := some 165) (v := (.agg X)) (l' := #[true, false, false, false, false, false, false, false, false, false, false, false, false, false, false, false, false, false, false, false, false, false, false, false, false, false, false, false, false, false, false]) rfl rfl (by kernel_rfl) (by kernel_rfl) (by kernel_rfl) (by kernel_rfl) (fun _ _ _ h => h) ?_ (by assumption) ?_
              · exact yields_posC (by rfl) _ (by rfl) b1 P X HX.out (by rfl) (fun W h => h.p)
              try simp only [Act.put, List.setIfInBounds_toArray, List.set_cons_zero, List.set_cons_succ]
              refine take_to (i := 1) (d := some 166) (v := ?_) (l' := #[true, true, false, false, false, false, false, false, false, false, false, false, false, false, false, false, false, false, false, false, false, false, false, false, false, false, false, false, false, false, false]) rfl rfl (by kernel_rfl) (by kernel_rfl) (by kernel_rfl) (by kernel_rfl) (fun _ _ _ h => h) (Or.inl ⟨by rfl, ?_⟩) (by assumption) ?_; rotate_left; · (intro w' hSw; (try dsimp only at hSw); go_simp; (try with_reducible rfl))
              try simp only [Act.put, List.setIfInBounds_toArray, List.set_cons_zero, List.set_cons_succ]
              refine take_to (i := 2) (d := some 167) (v := ?_) (l' := #[true, true, true, false, false, false, false, false, false, false, false, false, false, false, false, false, false, false, false, false, false, false, false, false, false, false, false, false, false, false, false]) rfl rfl (by kernel_rfl) (by kernel_rfl) (by kernel_rfl) (by kernel_rfl) (fun _ _ _ h => h) (Or.inl ⟨by rfl, ?_⟩) (by assumption) ?_; rotate_left; · (intro w' hSw; (try dsimp only at hSw); go_simp; (try with_reducible rfl))
              try simp only [Act.put, List.setIfInBounds_toArray, List.set_cons_zero, List.set_cons_succ]
              refine take_to (i := 3) (d := some 168) (v := ?_) (l' := #[true, true, true, true, false, false, false, false, false, false, false, false, false, false, false, false, false, false, false, false, false, false, false, false, false, false, false, false, false, false, false]) rfl rfl (by kernel_rfl) (by kernel_rfl) (by kernel_rfl) (by kernel_rfl) (fun _ _ _ h => h) (Or.inl ⟨by rfl, ?_⟩) (by assumption) ?_; rotate_left; · (intro w' hSw; (try dsimp only at hSw); go_simp; (try with_reducible rfl))
              try simp only [Act.put, List.setIfInBounds_toArray, List.set_cons_zero, List.set_cons_succ]
              refine take_to (i := 4) (d := some 169) (v := (.int .i64 v)) (l' := #[true, true, true, true, true, false, false, false, false, false, false, false, false, false, false, false, false, false, false, false, false, false, false, false, false, false, false, false, false, false, false]) rfl rfl (by kernel_rfl) (by kernel_rfl) (by kernel_rfl) (by kernel_rfl) (fun _ _ _ h => h) ?_ (by assumption) ?_
              · refine Or.inl ⟨by rfl, ?_⟩; intro w' hSw; have e := HCE.out w' hSw; go_simp
              try simp only [Act.put, List.setIfInBounds_toArray, List.set_cons_zero, List.set_cons_succ]
              refine take_to (i := 5) (d := some 170) (v := ?_) (l' := #[true, true, true, true, true, true, false, false, false, false, false, false, false, false, false, false, false, false, false, false, false, false, false, false, false, false, false, false, false, false, false]) rfl rfl (by kernel_rfl) (by kernel_rfl) (by kernel_rfl) (by kernel_rfl) (fun _ _ _ h => h) (Or.inl ⟨by rfl, ?_⟩) (by assumption) ?_; rotate_left; · (intro w' hSw; (try dsimp only at hSw); go_simp; (try with_reducible rfl))
              try simp only [Act.put, List.setIfInBounds_toArray, List.set_cons_zero, List.set_cons_succ]
              refine take_to (i := 6) (d := some 171) (v := ?_) (l' := #[true, true, true, true, true, true, true, false, false, false, false, false, false, false, false, false, false, false, false, false, false, false, false, false, false, false, false, false, false, false, false]) rfl rfl (by kernel_rfl) (by kernel_rfl) (by kernel_rfl) (by kernel_rfl) (fun _ _ _ h => h) (Or.inl ⟨by rfl, ?_⟩) (by assumption) ?_; rotate_left; · (intro w' hSw; (try dsimp only at hSw); go_simp; (try with_reducible rfl))
              try simp only [Act.put, List.setIfInBounds_toArray, List.set_cons_zero, List.set_cons_succ]
              refine take_to (i := 7) (d := some 172) (v := ?_) (l' := #[true, true, true, true, true, true, true, true, false, false, false, false, false, false, false, false, false, false, false, false, false, false, false, false, false, false, false, false, false, false, false]) rfl rfl (by kernel_rfl) (by kernel_rfl) (by kernel_rfl) (by kernel_rfl) (fun _ _ _ h => h) (Or.inl ⟨by rfl, ?_⟩) (by assumption) ?_; rotate_left; · (intro w' hSw; (try dsimp only at hSw); go_simp; (try with_reducible rfl))
              try simp only [Act.put, List.setIfInBounds_toArray, List.set_cons_zero, List.set_cons_succ]
              refine take_to (i := 8) (d := some 173) (v := ?_) (l' := #[true, true, true, true, true, true, true, true, true, false, false, false, false, false, false, false, false, false, false, false, false, false, false, false, false, false, false, false, false, false, false]) rfl rfl (by kernel_rfl) (by kernel_rfl) (by kernel_rfl) (by kernel_rfl) (fun _ _ _ h => h) (Or.inl ⟨by rfl, ?_⟩) (by assumption) ?_; rotate_left; · (intro w' hSw; (try dsimp only at hSw); go_simp; (try with_reducible rfl))
              try simp only [Act.put, List.setIfInBounds_toArray, List.set_cons_zero, List.set_cons_succ]
              refine take_to (i := 9) (d := some 174) (v := (.int .i64 v)) (l' := #[true, true, true, true, true, true, true, true, true, true, false, false, false, false, false, false, false, false, false, false, false, false, false, false, false, false, false, false, false, false, false]) rfl rfl (by kernel_rfl) (by kernel_rfl) (by kernel_rfl) (by kernel_rfl) (fun _ _ _ h => h) ?_ (by assumption) ?_
              · refine Or.inl ⟨by rfl, ?_⟩; intro w' hSw; have e := HCE.out w' hSw; go_simp
              try simp only [Act.put, List.setIfInBounds_toArray, List.set_cons_zero, List.set_cons_succ]
              refine take_to (i := 10) (d := some 175) (v := ?_) (l' := #[true, true, true, true, true, true, true, true, true, true, true, false, false, false, false, false, false, false, false, false, false, false, false, false, false, false, false, false, false, false, false]) rfl rfl (by kernel_rfl) (by kernel_rfl) (by kernel_rfl) (by kernel_rfl) (fun _ _ _ h => h) (Or.inl ⟨by rfl, ?_⟩) (by assumption) ?_; rotate_left; · (intro w' hSw; (try dsimp only at hSw); go_simp; (try with_reducible rfl))
              try simp only [Act.put, List.setIfInBounds_toArray, List.set_cons_zero, List.set_cons_succ]
              refine take_to (i := 11) (d := some 176) (v := ?_) (l' := #[true, true, true, true, true, true, true, true, true, true, true, true, false, false, false, false, false, false, false, false, false, false, false, false, false, false, false, false, false, false, false]) rfl rfl (by kernel_rfl) (by kernel_rfl) (by kernel_rfl) (by kernel_rfl) (fun _ _ _ h => h) (Or.inl ⟨by rfl, ?_⟩) (by assumption) ?_; rotate_left; · (intro w' hSw; (try dsimp only at hSw); go_simp; (try with_reducible rfl))
              try simp only [Act.put, List.setIfInBounds_toArray, List.set_cons_zero, List.set_cons_succ]
              refine take_to (i := 12) (d := some 177) (v := ?_) (l' := #[true, true, true, true, true, true, true, true, true, true, true, true, true, false, false, false, false, false, false, false, false, false, false, false, false, false, false, false, false, false, false]) rfl rfl (by kernel_rfl) (by kernel_rfl) (by kernel_rfl) (by kernel_rfl) (fun _ _ _ h => h) (Or.inl ⟨by rfl, ?_⟩) (by assumption) ?_; rotate_left; · (intro w' hSw; (try dsimp only at hSw); go_simp; (try with_reducible rfl))
              try simp only [Act.put, List.setIfInBounds_toArray, List.set_cons_zero, List.set_cons_succ]
              refine take_to (i := 13) (d := some 178) (v := ?_) (l' := #[true, true, true, true, true, true, true, true, true, true, true, true, true, true, false, false, false, false, false, false, false, false, false, false, false, false, false, false, false, false, false]) rfl rfl (by kernel_rfl) (by kernel_rfl) (by kernel_rfl) (by kernel_rfl) (fun _ _ _ h => h) (Or.inl ⟨by rfl, ?_⟩) (by assumption) ?_; rotate_left; · (intro w' hSw; (try dsimp only at hSw); go_simp; (try with_reducible rfl))
              try simp only [Act.put, List.setIfInBounds_toArray, List.set_cons_zero, List.set_cons_succ]
              refine take_to (i := 14) (d := some 179) (v := ?_) (l' := #[true, true, true, true, true, true, true, true, true, true, true, true, true, true, true, false, false, false, false, false, false, false, false, false, false, false, false, false, false, false, false]) rfl rfl (by kernel_rfl) (by kernel_rfl) (by kernel_rfl) (by kernel_rfl) (fun _ _ _ h => h) (Or.inl ⟨by rfl, ?_⟩) (by assumption) ?_; rotate_left; · (intro w' hSw; (try dsimp only at hSw); go_simp; (try with_reducible rfl))
              try simp only [Act.put, List.setIfInBounds_toArray, List.set_cons_zero, List.set_cons_succ]
              refine take_to (i := 15) (d := some 180) (v := (.int .i64 v)) (l' := #[true, true, true, true, true, true, true, true, true, true, true, true, true, true, true, true, false, false, false, false, false, false, false, false, false, false, false, false, false, false, false]) rfl rfl (by kernel_rfl) (by kernel_rfl) (by kernel_rfl) (by kernel_rfl) (fun _ _ _ h => h) ?_ (by assumption) ?_
              · refine Or.inl ⟨by rfl, ?_⟩; intro w' hSw; have e := HCE.out w' hSw; go_simp
              try simp only [Act.put, List.setIfInBounds_toArray, List.set_cons_zero, List.set_cons_succ]
              refine take_to (i := 16) (d := some 181) (v := ?_) (l' := #[true, true, true, true, true, true, true, true, true, true, true, true, true, true, true, true, true, false, false, false, false, false, false, false, false, false, false, false, false, false, false]) rfl rfl (by kernel_rfl) (by kernel_rfl) (by kernel_rfl) (by kernel_rfl) (fun _ _ _ h => h) (Or.inl ⟨by rfl, ?_⟩) (by assumption) ?_; rotate_left; · (intro w' hSw; (try dsimp only at hSw); go_simp; (try with_reducible rfl))
              try simp only [Act.put, List.setIfInBounds_toArray, List.set_cons_zero, List.set_cons_succ]
              refine one_to (i := 17) (l' := #[true, true, true, true, true, true, true, true, true, true, true, true, true, true, true, true, true, true, false, false, false, false, false, false, false, false, false, false, false, false, false]) rfl (by kernel_rfl) (by kernel_rfl) (fun K hK => ?_)
              go_simp
              have HRD := Lib.hid (show Reads3 (V0.alloc (.cells #[.int .i64 v, .int .i64 3, .int .i64 0, .int .i64 4, .int .i64 v, .int .i64 0, .int .i64 4, .int .i64 4, .int .i64 0, .int .i64 4, .int .i64 5, .int .i64 v] 34)).heap.size (V0.alloc (.cells #[.int .i64 v, .int .i64 3, .int .i64 0, .int .i64 4, .int .i64 v, .int .i64 0, .int .i64 4, .int .i64 4, .int .i64 0, .int .i64 4, .int .i64 5, .int .i64 v] 34)) (some ⟨V0.heap.size, 0, none⟩) 4 (fun i => [v, 4, 4, 4].getD i 0) (fun i => [3, v, 4, 5].getD i 0) (fun i => [0, 0, 0, v].getD i 0) from reads3_row (sl_at rfl) _ _ _ (fun i hi => by rcases (show i = 0 ∨ i = 1 ∨ i = 2 ∨ i = 3 by omega) with rfl | rfl | rfl | rfl <;> exact ⟨rfl, rfl, rfl⟩))
              replace HI := Lib.hid (HI.out.go (below_new (.cells #[.int .i64 v, .int .i64 3, .int .i64 0, .int .i64 4, .int .i64 v, .int .i64 0, .int .i64 4, .int .i64 4, .int .i64 0, .int .i64 4, .int .i64 5, .int .i64 v] 34)))
              generalize V0.heap.size = H1 at HRD ⊢
              generalize V0.alloc (.cells #[.int .i64 v, .int .i64 3, .int .i64 0, .int .i64 4, .int .i64 v, .int .i64 0, .int .i64 4, .int .i64 4, .int .i64 0, .int .i64 4, .int .i64 5, .int .i64 v] 34) = V0 at HI HRD ⊢
              refine hK.out _ _ (by first | exact HI.out | exact HI.out.go (Below.refl _ _).drew) (fun hHeld => ?_)
              clear hK K
              try simp only [Act.put, List.setIfInBounds_toArray, List.set_cons_zero, List.set_cons_succ]
              refine one_to (i := 18) (l' := #[true, true, true, true, true, true, true, true, true, true, true, true, true, true, true, true, true, true, true, false, false, false, false, false, false, false, false, false, false, false, false]) rfl (by kernel_rfl) (by kernel_rfl) (fun K hK => ?_)
              go_simp
              refine (HTL.out _ _ 4 _ _ _ (by unfold maxLen; omega) HRD.out (HI.out.t.c.mono HI.out.t.s)).mono ?_
              rintro e V0 ⟨rfl, hb⟩
              replace HI := Lib.hid (HI.out.go hb)
              clear hb HRD
              dsimp only
              refine hK.out _ _ (by first | exact HI.out | exact HI.out.go (Below.refl _ _).drew) (fun hHeld => ?_)
              clear hK K
              try simp only [Act.put, List.setIfInBounds_toArray, List.set_cons_zero, List.set_cons_succ]
              refine take_to (i := 19) (d := some 184) (v := ?_) (l' := #[true, true, true, true, true, true, true, true, true, true, true, true, true, true, true, true, true, true, true, true, false, false, false, false, false, false, false, false, false, false, false]) rfl rfl (by kernel_rfl) (by kernel_rfl) (by kernel_rfl) (by kernel_rfl) (fun _ _ _ h => h) (Or.inl ⟨by rfl, ?_⟩) (by assumption) ?_; rotate_left; · (intro w' hSw; (try dsimp only at hSw); go_simp; (try with_reducible rfl))
              try simp only [Act.put, List.setIfInBounds_toArray, List.set_cons_zero, List.set_cons_succ]
              refine take_to (i := 20) (d := some 185) (v := ?_) (l' := #[true, true, true, true, true, true, true, true, true, true, true, true, true, true, true, true, true, true, true, true, true, false, false, false, false, false, false, false, false, false, false]) rfl rfl (by kernel_rfl) (by kernel_rfl) (by kernel_rfl) (by kernel_rfl) (fun _ _ _ h => h) (Or.inl ⟨by rfl, ?_⟩) (by assumption) ?_; rotate_left; · (intro w' hSw; (try dsimp only at hSw); go_simp; (try with_reducible rfl))
              try simp only [Act.put, List.setIfInBounds_toArray, List.set_cons_zero, List.set_cons_succ]
              refine take_to (i := 21) (d := some 186) (v := (.agg X)) (l' := #[true, true, true, true, true, true, true, true, true, true, true, true, true, true, true, true, true, true, true, true, true, true, false, false, false, false, false, false, false, false, false]) rfl rfl (by kernel_rfl) (by kernel_rfl) (by kernel_rfl) (by kernel_rfl) (fun _ _ _ h => h) ?_ (by assumption) ?_
              · exact yields_posC (by rfl) _ (by rfl) b1 P X HX.out (by rfl) (fun W h => h.p)
              try simp only [Act.put, List.setIfInBounds_toArray, List.set_cons_zero, List.set_cons_succ]
              refine take_to (i := 22) (d := some 187) (v := ?_) (l' := #[true, true, true, true, true, true, true, true, true, true, true, true, true, true, true, true, true, true, true, true, true, true, true, false, false, false, false, false, false, false, false]) rfl rfl (by kernel_rfl) (by kernel_rfl) (by kernel_rfl) (by kernel_rfl) (fun _ _ _ h => h) (Or.inl ⟨by rfl, ?_⟩) (by assumption) ?_; rotate_left; · (intro w' hSw; (try dsimp only at hSw); go_simp; (try with_reducible rfl))
              try simp only [Act.put, List.setIfInBounds_toArray, List.set_cons_zero, List.set_cons_succ]
              refine take_to (i := 23) (d := some 188) (v := ?_) (l' := #[true, true, true, true, true, true, true, true, true, true, true, true, true, true, true, true, true, true, true, true, true, true, true, true, false, false, false, false, false, false, false]) rfl rfl (by kernel_rfl) (by kernel_rfl) (by kernel_rfl) (by kernel_rfl) (fun _ _ _ h => h) (Or.inl ⟨by rfl, ?_⟩) (by assumption) ?_; rotate_left; · (intro w' hSw; (try dsimp only at hSw); go_simp; (try with_reducible rfl))
              try simp only [Act.put, List.setIfInBounds_toArray, List.set_cons_zero, List.set_cons_succ]
              refine take_to (i := 24) (d := some 189) (v := ?_) (l' := #[true, true, true, true, true, true, true, true, true, true, true, true, true, true, true, true, true, true, true, true, true, true, true, true, true, false, false, false, false, false, false]) rfl rfl (by kernel_rfl) (by kernel_rfl) (by kernel_rfl) (by kernel_rfl) (fun _ _ _ h => h) (Or.inl ⟨by rfl, ?_⟩) (by assumption) ?_; rotate_left; · (intro w' hSw; (try dsimp only at hSw); go_simp; (try with_reducible rfl))
              try simp only [Act.put, List.setIfInBounds_toArray, List.set_cons_zero, List.set_cons_succ]
              refine take_to (i := 25) (d := some 190) (v := (.int .i64 v)) (l' := #[true, true, true, true, true, true, true, true, true, true, true, true, true, true, true, true, true, true, true, true, true, true, true, true, true, true, false, false, false, false, false]) rfl rfl (by kernel_rfl) (by kernel_rfl) (by kernel_rfl) (by kernel_rfl) (fun _ _ _ h => h) ?_ (by assumption) ?_
              · refine Or.inl ⟨by rfl, ?_⟩; intro w' hSw; have e := HCE.out w' hSw; go_simp
              try simp only [Act.put, List.setIfInBounds_toArray, List.set_cons_zero, List.set_cons_succ]
              refine take_to (i := 26) (d := some 191) (v := ?_) (l' := #[true, true, true, true, true, true, true, true, true, true, true, true, true, true, true, true, true, true, true, true, true, true, true, true, true, true, true, false, false, false, false]) rfl rfl (by kernel_rfl) (by kernel_rfl) (by kernel_rfl) (by kernel_rfl) (fun _ _ _ h => h) (Or.inl ⟨by rfl, ?_⟩) (by assumption) ?_; rotate_left; · (intro w' hSw; (try dsimp only at hSw); go_simp; (try with_reducible rfl))
              try simp only [Act.put, List.setIfInBounds_toArray, List.set_cons_zero, List.set_cons_succ]
              refine one_to (i := 27) (l' := #[true, true, true, true, true, true, true, true, true, true, true, true, true, true, true, true, true, true, true, true, true, true, true, true, true, true, true, true, false, false, false]) rfl (by kernel_rfl) (by kernel_rfl) (fun K hK => ?_)
              go_simp
              have HRD := Lib.hid (show Reads3 (V0.alloc (.cells #[.int .i64 20, .int .i64 v, .int .i64 0] 34)).heap.size (V0.alloc (.cells #[.int .i64 20, .int .i64 v, .int .i64 0] 34)) (some ⟨V0.heap.size, 0, none⟩) 1 (fun i => [20].getD i 0) (fun i => [v].getD i 0) (fun i => [0].getD i 0) from reads3_row (sl_at rfl) _ _ _ (fun i hi => by rcases (show i = 0 by omega) with rfl <;> exact ⟨rfl, rfl, rfl⟩))
              replace HI := Lib.hid (HI.out.go (below_new (.cells #[.int .i64 20, .int .i64 v, .int .i64 0] 34)))
              generalize V0.heap.size = H1 at HRD ⊢
              generalize V0.alloc (.cells #[.int .i64 20, .int .i64 v, .int .i64 0] 34) = V0 at HI HRD ⊢
              refine hK.out _ _ (by first | exact HI.out | exact HI.out.go (Below.refl _ _).drew) (fun hHeld => ?_)
              clear hK K
              try simp only [Act.put, List.setIfInBounds_toArray, List.set_cons_zero, List.set_cons_succ]
              refine one_to (i := 28) (l' := #[true, true, true, true, true, true, true, true, true, true, true, true, true, true, true, true, true, true, true, true, true, true, true, true, true, true, true, true, true, false, false]) rfl (by kernel_rfl) (by kernel_rfl) (fun K hK => ?_)
              go_simp
              refine (HTL.out _ _ 1 _ _ _ (by unfold maxLen; omega) HRD.out (HI.out.t.c.mono HI.out.t.s)).mono ?_
              rintro e V0 ⟨rfl, hb⟩
              replace HI := Lib.hid (HI.out.go hb)
              clear hb HRD
              dsimp only
              refine hK.out _ _ (by first | exact HI.out | exact HI.out.go (Below.refl _ _).drew) (fun hHeld => ?_)
              clear hK K
              try simp only [Act.put, List.setIfInBounds_toArray, List.set_cons_zero, List.set_cons_succ]
              refine take_to (i := 29) (d := some 194) (v := ?_) (l' := #[true, true, true, true, true, true, true, true, true, true, true, true, true, true, true, true, true, true, true, true, true, true, true, true, true, true, true, true, true, true, false]) rfl rfl (by kernel_rfl) (by kernel_rfl) (by kernel_rfl) (by kernel_rfl) (fun _ _ _ h => h) (Or.inl ⟨by rfl, ?_⟩) (by assumption) ?_; rotate_left; · (intro w' hSw; (try dsimp only at hSw); go_simp; (try with_reducible rfl))
              try simp only [Act.put, List.setIfInBounds_toArray, List.set_cons_zero, List.set_cons_succ]
              refine take_to (i := 30) (d := some 195) (v := ?_) (l' := #[true, true, true, true, true, true, true, true, true, true, true, true, true, true, true, true, true, true, true, true, true, true, true, true, true, true, true, true, true, true, true]) rfl rfl (by kernel_rfl) (by kernel_rfl) (by kernel_rfl) (by kernel_rfl) (fun _ _ _ h => h) (Or.inl ⟨by rfl, ?_⟩) (by assumption) ?_; rotate_left; · (intro w' hSw; (try dsimp only at hSw); go_simp; (try with_reducible rfl))
              try simp only [Act.put, List.setIfInBounds_toArray, List.set_cons_zero, List.set_cons_succ]
              refine wpAnyH_done (by kernel_rfl) ?_ _
              refine NoPanic.normal ?_
              clear hHeld
              go_wp2
              go_roundw
              case rel => exact ⟨j + 1, by omega, by go_num, HI.out⟩
              case measure => simp [intOf]; omega
            · obtain rfl : j = 4 := by omega
              rw [show ((4 : Nat) : Int) = 4 from rfl]
              go_wp2_with fail
              refine (awakeP_any _ B HI.out.t.c HI.out.t.s).mono ?_
              rintro e w9 ⟨rfl, hb⟩
              have HB9 := Lib.hid (HI.out.t.bel.trans (hb.mono HI.out.t.bel.size))
              clear hb
              go_wp2
              go_ret
              exact ⟨rfl, HB9.out⟩
end Go.Proofs.YtlfapakllhhadaaDoor
