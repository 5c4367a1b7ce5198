/-
  Merged: Vw, Nd, Dn, Di.
-/
import Derived.Test.YtcdnakbdajbfoaaGreatDoorG17
import Derived.Test.YtcdnakbdajbfoaaGreatDoorG14
import Derived.Test.YtcdnakbdajbfoaaGreatDoorG16
import Derived.Test.YtcdnakbdajbfoaaGreatDoorG7
import Derived.Test.YtcdnakbdajbfoaaGreatDoorRows
import Derived.Lib.LaidU8
import Derived.LaidLaws
import Derived.Handed
import Derived.Deep.Slices
import Derived.Deep.Fields
import Derived.Deep.Matrix
import Derived.ChangeSame
import Derived.OpenShut
import Derived.ProofKit
import Derived.Deep.DeepLaidRun
import Derived.Test.YtcdnakbdajbfoaaGreatDoorG10
import Derived.Test.YtcdnakbdajbfoaaGreatDoorG19
import Derived.Test.YtcdnakbdajbfoaaGreatDoorG9
import Derived.Test.YtcdnakbdajbfoaaGreatDoorG3

namespace Go.Proofs.YtcdnakbdajbfoaaGreatDoor
open Go.RowKit Go.ChangeShapes Go.WideShapes
set_option linter.unusedSimpArgs false
set_option linter.unusedVariables false
set_option maxRecDepth 20000

section
variable {H : Type} {enc : TypeId × Value → H} {w : World} {base : Nat}
end

theorem lit_of {H : Type} {enc : TypeId × Value → H} {w : World} {base : Nat} {sp : Nat → Bool} {held : Bool} {fuel : Nat} {t : TypeId} {cs : List Value} {d : DataW H} {q : List MemPlace} {o : Nat} {n : Int} (ht : Tryz.prog.underlying t = some (.int .i64)) (hc : Tryz.prog.cellsOf t = 1)
    (h : DataW.trod enc Tryz.prog w base sp held fuel t ((cs.drop o).take (Tryz.prog.cellsOf t)) = some (d, q)) (hd : d = .lit (.int .i64 n)) : cs[o]? = some (.int .i64 n) := by
  obtain ⟨z, hz, hx⟩ := DataW.trod_int ht h
  have e1 := (Prod.mk.inj hx.1).1
  rw [hd] at e1
  have e2 : n = z := by simpa using e1
  rw [hc] at hz
  have := congrArg (·[0]?) hz
  rw [e2]
  simpa [List.getElem?_take, List.getElem?_drop] using this
theorem cas_name : Tryz.prog.globalNamed "zugzwang/board.castlings" = some 0 := by kernel_rfl
theorem cas_type : (Tryz.prog.globals[0]?).map (·.type) = some 139 := by kernel_rfl
set_option maxRecDepth 100000 in
theorem cas_data : (Rows.laid_zugzwang_board_castlings : DataW Unit) = .agg ((List.range 4).map fun i => .agg [.lit (.int .i64 (casN (i * 4))), .lit (.int .i64 (casN (i * 4 + 1))), .lit (.int .i64 (casN (i * 4 + 2))), .lit (.int .i64 (casN (i * 4 + 3)))]) := by kernel_rfl
theorem cas_of_laid {W : World} {L : List (String × DataW Unit)} (h : laidMet Tryz.prog L W) (hm : ("zugzwang/board.castlings", Rows.laid_zugzwang_board_castlings) ∈ L) : ∀ i, i < 16 → W.cell? ⟨0, i, none⟩ = some (.int .i64 (casN i)) := by
  obtain ⟨g, t, cs, fuel, p, hg, ht, hvar, hd⟩ := Lib.laidMet.reads h hm
  obtain rfl := Option.some.inj (cas_name.symm.trans hg)
  obtain rfl := Option.some.inj (cas_type.symm.trans ht)
  rw [cas_data] at hd
  intro i hi
  obtain ⟨fuel', d, q, h1, h2⟩ := Lib.array_elem Tryz.underlying139 hd (i / 4) (by omega)
  rw [List.getElem?_map, List.getElem?_range (by omega)] at h1
  have hdd : d = .agg [.lit (.int .i64 (casN (i / 4 * 4))), .lit (.int .i64 (casN (i / 4 * 4 + 1))), .lit (.int .i64 (casN (i / 4 * 4 + 2))), .lit (.int .i64 (casN (i / 4 * 4 + 3)))] := by simpa using h1.symm
  rw [show Tryz.prog.cellsOf 138 = 4 by kernel_rfl] at h2
  obtain ⟨xs, n, _, hy, hl, hlen, hfs⟩ := DataW.trod_struct Tryz.underlying138 h2
  rw [World.var?_cell hg hvar i]
  match xs, hlen with
  | [y0, y1, y2, y3], _ =>
    have hyy := (Prod.mk.inj hy).1
    rw [hdd] at hyy
    simp only [List.map_cons, List.map_nil, DataW.agg.injEq, List.cons.injEq, and_true] at hyy
    obtain ⟨z0, z1, z2, z3⟩ := hyy
    have f0 := lit_of (o := 0) Tryz.underlying28 (by kernel_rfl) (hfs 0 _ rfl) z0.symm
    have f1 := lit_of (o := 1) Tryz.underlying24 (by kernel_rfl) (hfs 1 _ rfl) z1.symm
    have f2 := lit_of (o := 2) Tryz.underlying3 (by kernel_rfl) (hfs 2 _ rfl) z2.symm
    have f3 := lit_of (o := 3) Tryz.underlying3 (by kernel_rfl) (hfs 3 _ rfl) z3.symm
    simp only [List.getElem?_take, List.getElem?_drop] at f0 f1 f2 f3
    rcases (show i = i / 4 * 4 + 0 ∨ i = i / 4 * 4 + 1 ∨ i = i / 4 * 4 + 2 ∨ i = i / 4 * 4 + 3 by omega) with e | e | e | e
    · rw [e]; simpa using f0
    · rw [e]; simpa using f1
    · rw [e]; simpa using f2
    · rw [e]; simpa using f3
theorem kas_name : Tryz.prog.globalNamed "zugzwang/play.castlings" = some 4 := by kernel_rfl
theorem kas_type : (Tryz.prog.globals[4]?).map (·.type) = some 191 := by kernel_rfl
set_option maxRecDepth 100000 in
theorem kas_data : (Rows.laid_zugzwang_play_castlings : DataW Unit) = .agg ((List.range 4).map fun i => .agg [.lit (.int .i64 (kasN (i * 5))), .lit (.int .i64 (kasN (i * 5 + 1))), .lit (.int .i64 (kasN (i * 5 + 2))), .lit (.int .i64 (kasN (i * 5 + 3))), .lit (.int .i64 (kasN (i * 5 + 4)))]) := by kernel_rfl
theorem kas_of_laid {W : World} {L : List (String × DataW Unit)} (h : laidMet Tryz.prog L W) (hm : ("zugzwang/play.castlings", Rows.laid_zugzwang_play_castlings) ∈ L) : ∀ i, i < 20 → W.cell? ⟨4, i, none⟩ = some (.int .i64 (kasN i)) := by
  obtain ⟨g, t, cs, fuel, p, hg, ht, hvar, hd⟩ := Lib.laidMet.reads h hm
  obtain rfl := Option.some.inj (kas_name.symm.trans hg)
  obtain rfl := Option.some.inj (kas_type.symm.trans ht)
  rw [kas_data] at hd
  intro i hi
  obtain ⟨fuel', d, q, h1, h2⟩ := Lib.array_elem Tryz.underlying191 hd (i / 5) (by omega)
  rw [List.getElem?_map, List.getElem?_range (by omega)] at h1
  have hdd : d = .agg [.lit (.int .i64 (kasN (i / 5 * 5))), .lit (.int .i64 (kasN (i / 5 * 5 + 1))), .lit (.int .i64 (kasN (i / 5 * 5 + 2))), .lit (.int .i64 (kasN (i / 5 * 5 + 3))), .lit (.int .i64 (kasN (i / 5 * 5 + 4)))] := by simpa using h1.symm
  rw [show Tryz.prog.cellsOf 153 = 5 by kernel_rfl] at h2
  obtain ⟨xs, n, _, hy, hl, hlen, hfs⟩ := DataW.trod_struct Tryz.underlying153 h2
  rw [World.var?_cell hg hvar i]
  match xs, hlen with
  | [y0, y1, y2, y3, y4], _ =>
    have hyy := (Prod.mk.inj hy).1
    rw [hdd] at hyy
    simp only [List.map_cons, List.map_nil, DataW.agg.injEq, List.cons.injEq, and_true] at hyy
    obtain ⟨z0, z1, z2, z3, z4⟩ := hyy
    have f0 := lit_of (o := 0) Tryz.underlying28 (by kernel_rfl) (hfs 0 _ rfl) z0.symm
    have f1 := lit_of (o := 1) Tryz.underlying24 (by kernel_rfl) (hfs 1 _ rfl) z1.symm
    have f2 := lit_of (o := 2) Tryz.underlying3 (by kernel_rfl) (hfs 2 _ rfl) z2.symm
    have f3 := lit_of (o := 3) Tryz.underlying3 (by kernel_rfl) (hfs 3 _ rfl) z3.symm
    have f4 := lit_of (o := 4) Tryz.underlying3 (by kernel_rfl) (hfs 4 _ rfl) z4.symm
    simp only [List.getElem?_take, List.getElem?_drop] at f0 f1 f2 f3 f4
    rcases (show i = i / 5 * 5 + 0 ∨ i = i / 5 * 5 + 1 ∨ i = i / 5 * 5 + 2 ∨ i = i / 5 * 5 + 3 ∨ i = i / 5 * 5 + 4 by omega) with e | e | e | e | e
    · rw [e]; simpa using f0
    · rw [e]; simpa using f1
    · rw [e]; simpa using f2
    · rw [e]; simpa using f3
    · rw [e]; simpa using f4
theorem st_name : Tryz.prog.globalNamed "zugzwang/attack.steps" = some 2 := by kernel_rfl
theorem st_type : (Tryz.prog.globals[2]?).map (·.type) = some 174 := by kernel_rfl
set_option maxRecDepth 100000 in
theorem st_data : (Rows.laid_zugzwang_attack_steps : DataW Unit) = .agg ((List.range 16).map fun i => .agg [.lit (.int .i64 (stN (i * 2))), .lit (.int .i64 (stN (i * 2 + 1)))]) := by kernel_rfl
theorem st_of_laid {W : World} {L : List (String × DataW Unit)} (h : laidMet Tryz.prog L W) (hm : ("zugzwang/attack.steps", Rows.laid_zugzwang_attack_steps) ∈ L) : ∀ i, i < 32 → W.cell? ⟨2, i, none⟩ = some (.int .i64 (stN i)) := by
  obtain ⟨g, t, cs, fuel, p, hg, ht, hvar, hd⟩ := Lib.laidMet.reads h hm
  obtain rfl := Option.some.inj (st_name.symm.trans hg)
  obtain rfl := Option.some.inj (st_type.symm.trans ht)
  rw [st_data] at hd
  intro i hi
  obtain ⟨fuel', d, q, h1, h2⟩ := Lib.array_elem Tryz.underlying174 hd (i / 2) (by omega)
  rw [List.getElem?_map, List.getElem?_range (by omega)] at h1
  have hdd : d = .agg [.lit (.int .i64 (stN (i / 2 * 2))), .lit (.int .i64 (stN (i / 2 * 2 + 1)))] := by simpa using h1.symm
  rw [show Tryz.prog.cellsOf 173 = 2 by kernel_rfl] at h2
  obtain ⟨xs, n, _, hy, hl, hlen, hfs⟩ := DataW.trod_struct Tryz.underlying173 h2
  rw [World.var?_cell hg hvar i]
  match xs, hlen with
  | [y0, y1], _ =>
    have hyy := (Prod.mk.inj hy).1
    rw [hdd] at hyy
    simp only [List.map_cons, List.map_nil, DataW.agg.injEq, List.cons.injEq, and_true] at hyy
    obtain ⟨z0, z1⟩ := hyy
    have f0 := lit_of (o := 0) Tryz.underlying3 (by kernel_rfl) (hfs 0 _ rfl) z0.symm
    have f1 := lit_of (o := 1) Tryz.underlying3 (by kernel_rfl) (hfs 1 _ rfl) z1.symm
    simp only [List.getElem?_take, List.getElem?_drop] at f0 f1
    rcases (show i = i / 2 * 2 + 0 ∨ i = i / 2 * 2 + 1 by omega) with e | e
    · rw [e]; simpa using f0
    · rw [e]; simpa using f1
end Go.Proofs.YtcdnakbdajbfoaaGreatDoor

namespace Go.Proofs.YtcdnakbdajbfoaaGreatDoor
open Go.RowKit Go.ChangeShapes Go.WideShapes
set_option linter.unusedSimpArgs false
set_option linter.unusedVariables false
set_option maxRecDepth 20000

theorem mcs_name : Tryz.prog.globalNamed "zugzwang/moves.castlings" = some 3 := by kernel_rfl
theorem mcs_type : (Tryz.prog.globals[3]?).map (·.type) = some 179 := by kernel_rfl
set_option maxRecDepth 100000 in
theorem mcs_data : (Rows.laid_zugzwang_moves_castlings : DataW Unit) = .agg ((List.range 4).map fun i => .agg [.lit (.int .i64 (mcsN (i * 4))), .lit (.int .i64 (mcsN (i * 4 + 1))), .lit (.int .i64 (mcsN (i * 4 + 2))), .lit (.int .i64 (mcsN (i * 4 + 3)))]) := by kernel_rfl
theorem mcs_of_laid {W : World} {L : List (String × DataW Unit)} (h : laidMet Tryz.prog L W) (hm : ("zugzwang/moves.castlings", Rows.laid_zugzwang_moves_castlings) ∈ L) : ∀ i, i < 16 → W.cell? ⟨3, i, none⟩ = some (.int .i64 (mcsN i)) := by
  obtain ⟨g, t, cs, fuel, p, hg, ht, hvar, hd⟩ := Lib.laidMet.reads h hm
  obtain rfl := Option.some.inj (mcs_name.symm.trans hg)
  obtain rfl := Option.some.inj (mcs_type.symm.trans ht)
  rw [mcs_data] at hd
  intro i hi
  obtain ⟨fuel', d, q, h1, h2⟩ := Lib.array_elem Tryz.underlying179 hd (i / 4) (by omega)
  rw [List.getElem?_map, List.getElem?_range (by omega)] at h1
  have hdd : d = .agg [.lit (.int .i64 (mcsN (i / 4 * 4))), .lit (.int .i64 (mcsN (i / 4 * 4 + 1))), .lit (.int .i64 (mcsN (i / 4 * 4 + 2))), .lit (.int .i64 (mcsN (i / 4 * 4 + 3)))] := by simpa using h1.symm
  rw [show Tryz.prog.cellsOf 178 = 4 by kernel_rfl] at h2
  obtain ⟨xs, n, _, hy, hl, hlen, hfs⟩ := DataW.trod_struct Tryz.underlying178 h2
  rw [World.var?_cell hg hvar i]
  match xs, hlen with
  | [y0, y1, y2, y3], _ =>
    have hyy := (Prod.mk.inj hy).1
    rw [hdd] at hyy
    simp only [List.map_cons, List.map_nil, DataW.agg.injEq, List.cons.injEq, and_true] at hyy
    obtain ⟨z0, z1, z2, z3⟩ := hyy
    have f0 := lit_of (o := 0) Tryz.underlying28 (by kernel_rfl) (hfs 0 _ rfl) z0.symm
    have f1 := lit_of (o := 1) Tryz.underlying24 (by kernel_rfl) (hfs 1 _ rfl) z1.symm
    have f2 := lit_of (o := 2) Tryz.underlying3 (by kernel_rfl) (hfs 2 _ rfl) z2.symm
    have f3 := lit_of (o := 3) Tryz.underlying3 (by kernel_rfl) (hfs 3 _ rfl) z3.symm
    simp only [List.getElem?_take, List.getElem?_drop] at f0 f1 f2 f3
    rcases (show i = i / 4 * 4 + 0 ∨ i = i / 4 * 4 + 1 ∨ i = i / 4 * 4 + 2 ∨ i = i / 4 * 4 + 3 by omega) with e | e | e | e
    · rw [e]; simpa using f0
    · rw [e]; simpa using f1
    · rw [e]; simpa using f2
    · rw [e]; simpa using f3
end Go.Proofs.YtcdnakbdajbfoaaGreatDoor

namespace Go.Proofs.YtcdnakbdajbfoaaGreatDoor
open Go.RowKit Go.Sort
set_option linter.unusedSimpArgs false
set_option linter.unusedVariables false
set_option maxRecDepth 20000

set_option maxHeartbeats 4000000 in
set_option maxRecDepth 100000 in
theorem rTo_any (P : Nat → Int) (s d : Int) (w : World) :
    Calls Tryz.prog 103 #[.agg (pc P).toArray, .int .i64 s, .int .i64 d] w fun e w' => ∃ v, e = .returned v ∧ Below w.heap.size w w' ∧ w'.ownsRow w.heap.size 3 1 v (rToL P s d).length (ivals (rToL P s d)) := by
  obtain ⟨i0, hi, hz0, hz1, hz2⟩ := info_parts infoInt
  obtain ⟨X, hX⟩ : ∃ X, X = (pc P).toArray := ⟨_, rfl⟩
  have HA := Lib.hid (fun a b ha hb W => rAtt_any P a b ha hb W)
  rw [← hX] at HA ⊢
  have HX := Lib.hid hX
  have HP := Lib.hid (show PB (w.alloc (.cells X 30)) w.heap.size P by subst hX; exact PB.new rfl)
  have HB := Lib.hid (below_new (w := w) (.cells X 30))
  clear hX
  go_enter Tryz.func103, Tryz.ntmps103
  go_upto_region 1 with (fail)
  generalize w.alloc (.cells X 30) = W at *
  rcases sq_cases s with ⟨h1, hs⟩ | ⟨h1, hs⟩ | ⟨s0, s1, hs⟩
  · have HF := Lib.hid (show rToL P s d = [] by unfold rToL; rw [hs]; rfl)
    clear hs HA
    go_wp2
    go_loopw [7, 8] (fun v i wr => v = .slice none 0 0 ∧ i = .int .i64 0 ∧ wr = W) (fun _ i _ => 1)
    case atStart => exact ⟨rfl, rfl, rfl⟩
    case round =>
      obtain ⟨rfl, rfl, rfl⟩ := hrel
      go_wp2
      go_ret
      exact ⟨.slice none 0 0, rfl, HB.out, by rw [HF.out]; exact World.ownsRow_nil _ _ _ _⟩
  · have HF := Lib.hid (show rToL P s d = [] by unfold rToL; rw [hs]; rfl)
    have hs0 : 0 ≤ s := by omega
    clear hs HA
    go_wp2
    go_loopw [7, 8] (fun v i wr => v = .slice none 0 0 ∧ i = .int .i64 0 ∧ wr = W) (fun _ i _ => 1)
    case atStart => exact ⟨rfl, rfl, rfl⟩
    case round =>
      obtain ⟨rfl, rfl, rfl⟩ := hrel
      go_wp2
      go_ret
      exact ⟨.slice none 0 0, rfl, HB.out, by rw [HF.out]; exact World.ownsRow_nil _ _ _ _⟩
  · obtain ⟨a, rfl⟩ := Int.eq_ofNat_of_zero_le s0
    have ha : a < 64 := by omega
    obtain ⟨Q, hQ⟩ : ∃ Q : Nat → Bool, Q = fun x => P (2 * x + 1) == d && attR P x a := ⟨_, rfl⟩
    have HQ := Lib.hid (show ∀ x, Q x = (P (x * 2 + 1) == d && attR P x a) from fun x => by rw [hQ, Nat.mul_comm x 2])
    have HF := Lib.hid (show rToL P a d = upList Q 64 by unfold rToL; rw [hs, if_pos rfl, Int.toNat_natCast, hQ])
    clear hs hQ
    go_wp2
    go_loopw [7, 8] (fun v i wr => ∃ j : Nat, j ≤ 64 ∧ i = .int .i64 (j : Int) ∧ Below W.heap.size W wr ∧ wr.ownsRow W.heap.size 3 1 v (upList Q j).length (ivals (upList Q j))) (fun _ i _ => 64 - (intOf i).toNat)
    case atStart => exact ⟨0, Nat.zero_le _, rfl, Below.refl _ _, World.ownsRow_nil _ _ _ _⟩
    case round =>
      obtain ⟨j, hj, rfl, hb, hown⟩ := hrel
      by_cases hlt : j < 64
      · have HPR := Lib.hid (HP.out.go hb)
        have hfl := upList_len Q j
        have hsx := upList_succ Q j
        obtain ⟨L, hL⟩ : ∃ L, upList Q j = L := ⟨_, rfl⟩
        rw [hL] at hown hfl hsx
        have HS := Lib.hid hsx
        have HOW := Lib.hid hown
        have HB1 := Lib.hid hb
        clear hL hsx hown hb
        have hj0 : (0 : Int) ≤ j := by omega
        have hj1 : (j : Int) < 64 := by omega
        have e2 := HPR.out.cell (j * 2 + 1) (by omega)
        have HQJ := Lib.hid (HQ.out j)
        generalize P (j * 2 + 1) = pd at e2 HQJ
        cases hpd : (pd == d)
        · have HS2 := Lib.hid (show upList Q (j + 1) = L by rw [HS.out, HQJ.out, hpd]; simp)
          clear HS HPR
          go_wp2
          go_roundw
          case rel => exact ⟨j + 1, by omega, by go_num, HB1.out, by rw [HS2.out]; exact HOW.out⟩
          case measure => simp [intOf]; omega
        · go_wp2_with fail
          refine wp_load_mid 30 (.tmp 3) rfl _ 0 rfl (pc P) _ HPR.out.range Tryz.underlying30 rfl (by rw [infoPos, pc_len]) ?_
          rw [← HX.out]
          go_wp2_with fail
          refine (HA.out j a hlt ha _).mono ?_
          rintro e w2 ⟨rfl, hb2⟩
          have HOD := Lib.hid (owns_go HOW.out hb2)
          have HBD := Lib.hid (HB1.out.trans (hb2.mono HB1.out.size))
          clear hb2 HOW HB1 HPR e2
          cases hq : attR P j a
          · have HS2 := Lib.hid (show upList Q (j + 1) = L by rw [HS.out, HQJ.out, hpd, hq]; simp)
            clear hq HS hpd HQJ
            go_wp2
            go_roundw
            case rel => exact ⟨j + 1, by omega, by go_num, HBD.out, by rw [HS2.out]; exact HOD.out⟩
            case measure => simp [intOf]; omega
          · have HS2 := Lib.hid (show upList Q (j + 1) = L ++ [(j : Int)] by rw [HS.out, HQJ.out, hpd, hq]; simp)
            have hm1 : L.length + 1 ≤ maxLen := by unfold maxLen; omega
            clear hq HS hpd HQJ
            go_wp2_with (at_builtin; refine wpList_append_lies _ rfl (.tmp 34) (.tmp 36) 43 rfl W.heap.size 3 i0 (.int .i64 0) 1 8 Tryz.underlying43 hi hz0 hz1 hz2 rfl (by decide) _ L.length (ivals L) rfl (owns_go HOD.out ((Below.refl _ _).alloc (Nat.le_refl _) _)) ⟨w2.heap.size, 0, none⟩ 1 1 [.int .i64 (j : Int)] rfl rfl (World.news_of_block (heap_alloc_new _ _)) ?c2 (by decide) hm1 (by omega) (by have h : W.heap.size ≤ w2.heap.size := HBD.out.size; simp; omega) (w2.heap.size + 1) (by simp) ?next)
            case c2 => intro y hy; simp at hy; subst hy; rfl
            case next =>
              intro g1 cap1 w4 hown1 hgrow1 hat1 hlt3
              rw [ivals_snoc] at hown1
              have HB4 := Lib.hid ((HBD.out.alloc HBD.out.size _).grown hgrow1 (by have h : W.heap.size ≤ w2.heap.size := HBD.out.size; simp; omega) (fun b e => (HOD.out.lt b e).1))
              have HO4 := Lib.hid hown1
              clear hgrow1 hown1 hat1 HBD HOD
              go_wp2
              go_roundw
              case rel => exact ⟨j + 1, by omega, by go_num, HB4.out, by rw [HS2.out, show (L ++ [(j : Int)]).length = L.length + 1 by simp]; exact HO4.out⟩
              case measure => simp [intOf]; omega
      · obtain rfl : j = 64 := by omega
        have HO := Lib.hid hown
        have HBK := Lib.hid hb
        clear hown hb
        rw [show ((64 : Nat) : Int) = 64 from rfl]
        go_wp2
        go_ret
        exact ⟨_, rfl, HB.out.trans (HBK.out.mono HB.out.size), by rw [HF.out]; exact owns_base HO.out HB.out.size⟩
end Go.Proofs.YtcdnakbdajbfoaaGreatDoor

namespace Go.Proofs.YtcdnakbdajbfoaaGreatDoor
open Go.RowKit Go.Sort
set_option linter.unusedSimpArgs false
set_option linter.unusedVariables false
set_option maxRecDepth 20000
attribute [local go_sem] Oper.semAt_some

theorem results_cell_bool {P : Program} {fn : Func} {p : Tmp} {ty : TypeId} (h : fn.results = #[.cell p ty]) (tmps : Array Value) (w : World) (g : Nat) (b : Bool) (hp : tmps.getD p undef = .pointer (some ⟨g, 0, none⟩)) (hc : w.cell? ⟨g, 0, none⟩ = some (.bool b)) (hu : P.underlying ty = some .bool) :
    (results fn tmps).run P w = .ok (.bool b) w := by
  have hp' : tmps[p]?.getD undef = .pointer (some ⟨g, 0, none⟩) := by simpa using hp
  simp [results, h, hp', asAddr, loadVar, isAgg, run_underlying hu, hc, go_sem]
def isAt (P : Nat → Int) (d : Int) (f : Nat → Int) (n : Nat) : Bool := (List.range n).any fun i => !(atkL P (f i) d).isEmpty
theorem isAt_hit {P : Nat → Int} {d : Int} {f : Nat → Int} {n i : Nat} (hi : i < n) (h : atkL P (f i) d ≠ []) : isAt P d f n = true := by
  unfold isAt
  refine List.any_eq_true.2 ⟨i, List.mem_range.2 hi, ?_⟩
  cases hl : atkL P (f i) d with
  | nil => exact absurd hl h
  | cons _ _ => rfl
theorem isAt_miss {P : Nat → Int} {d : Int} {f : Nat → Int} {n : Nat} (h : ∀ i, i < n → atkL P (f i) d = []) : isAt P d f n = false := by
  unfold isAt
  refine List.any_eq_false.2 fun i hi => ?_
  rw [h i (List.mem_range.1 hi)]
  simp
structure IsI (w : World) (fb : Nat) (P : Nat → Int) (b : Bool) (Ds : List Nat) (W : World) : Prop where
  below : Below w.heap.size w W
  p : PB W fb P
  r : W.heap[w.heap.size + 1]? = some (.cells #[.bool b] 4 (0, 0))
  ds : ∀ D ∈ Ds, W.heap[D]? = some (.deferred (some [])) ∧ w.heap.size + 1 < D
theorem IsI.go {w : World} {fb : Nat} {P : Nat → Int} {b : Bool} {Ds : List Nat} {A B : World} (h : IsI w fb P b Ds A) (g : Below A.heap.size A B) : IsI w fb P b Ds B :=
  ⟨h.below.trans (g.mono h.below.size), h.p.go g, sl_go h.r g, fun D hD => ⟨(g.block D (Array.getElem?_eq_some_iff.1 (h.ds D hD).1).1).trans (h.ds D hD).1, (h.ds D hD).2⟩⟩
theorem IsI.spare {w : World} {fb n : Nat} {P : Nat → Int} {b : Bool} {Ds : List Nat} {X : Nat → Prop} {A B : World} (h : IsI w fb P b Ds A) (hf : fb < n) (hr : w.heap.size + 1 < n) (hd : ∀ D ∈ Ds, D < n) (g : Spares n X A B) : IsI w fb P b Ds B :=
  ⟨h.below.trans (g.below h.below.size (by omega)), h.p.same g.size (g.block _ h.p.lt (.inl hf)), (g.block _ (al_lt h.r) (.inl hr)).trans h.r, fun D hD => ⟨(g.block D (Array.getElem?_eq_some_iff.1 (h.ds D hD).1).1 (.inl (hd D hD))).trans (h.ds D hD).1, (h.ds D hD).2⟩⟩
def idxAt (a : Act) : Nat := (intOf (a.tmps.getD 14 undef)).toNat
set_option maxHeartbeats 4000000 in
set_option maxRecDepth 100000 in
theorem isA_any (B : Nat) (P : Nat → Int) (d : Int) (p : Option Addr) (n c : Nat) (f : Nat → Int) (w : World) (hn : n ≤ 1000000) (hr : Reads B w p n (fun i => .int .i64 (f i))) (hg : GS B w) (hB : B ≤ w.heap.size) :
    Calls Tryz.prog 79 #[.agg (pc P).toArray, .int .i64 d, .slice p n c] w fun e w' => e = .returned (.bool (isAt P d f n)) ∧ Below w.heap.size w w' := by
  obtain ⟨X, hX⟩ : ∃ X, X = (pc P).toArray := ⟨_, rfl⟩
  rw [← hX]
  have HP0' := Lib.hid (pos_box P w X hX 30)
  have HG := Lib.hid hg
  have HRD := Lib.hid hr
  have HX := Lib.hid hX
  have hsz : X.size = 133 := by rw [hX, pc_size]
  have hfold := fold_fin X hsz
  have HBW' := Lib.hid (below_new (w := w) (.cells X 30))
  clear hX hg hr
  refine calls_of_marks Tryz.func79 rfl ?_
  simp only [Tryz.ntmps79, List.size_toArray, List.length_cons, List.length_nil, Nat.reduceAdd, Nat.reduceSub, Array.replicate_succ, Array.replicate_zero, List.push_toArray, List.append_toArray, List.nil_append, List.cons_append]
  go_upto_region 1 with (fail)
  have HBW := Lib.hid (HBW'.out.alloc (by simp) (.cells #[.bool false] 4))
  have HP0 := Lib.hid (HP0'.out.alloc (.cells #[.bool false] 4))
  have HRC := Lib.hid (sl_at (W := w.alloc (.cells X 30)) (o := .cells #[.bool false] 4) (H := w.heap.size + 1) (by simp))
  have HZ := Lib.hid (show ((w.alloc (.cells X 30)).alloc (.cells #[.bool false] 4)).heap.size = w.heap.size + 2 by simp)
  clear HBW' HP0'
  generalize (w.alloc (.cells X 30)).alloc (.cells #[.bool false] 4) = W0 at *
  refine wp_region_lit ?_
  refine wpList_pos (by rfl) _ (by rfl) w.heap.size P X HX.out (by rfl) HP0.out ?_
  refine wpList_plain rfl (fun K hK => ?_)
  go_simp
  refine hK _ _ ?_
  clear hK K
  clear hfold
  refine wpList_plain rfl (fun K hK => ?_)
  go_simp
  refine hK _ _ ?_
  clear hK K
  have hpn : PB (W0.alloc (.cells Tryz.zeroCells115 115)) W0.heap.size (fun _ => 0) := by rw [zeroFin]; exact PB.new rfl
  refine wpList_store_mid rfl 115 _ _ rfl W0.heap.size 0 X rfl rfl (by rw [hsz]; exact hpn.there) (by rw [infoFin, hsz]) (by rw [HX.out]; exact pc_one P) ?_
  refine forgetL_B (fun W => PB W W0.heap.size P ∧ Below W0.heap.size W0 W) (by
    rw [HX.out, List.toList_toArray]
    exact ⟨hpn.store (Q := P), below_store (b := W0.heap.size) P (below_new _) (Nat.le_refl _) (by simp)⟩) ?_
  rintro W ⟨hp, hb⟩
  have HP := Lib.hid hp
  have HB := Lib.hid (HBW.out.trans (hb.mono HBW.out.size))
  have HBS := Lib.hid (show W0.heap.size < W.heap.size from hp.lt)
  have hb0 := hb
  clear hp hb hpn HP0 hsz
  have HRW := Lib.hid (sl_go HRC.out hb0)
  clear hb0
  obtain ⟨fb, hfb⟩ : ∃ f, W0.heap.size = f := ⟨_, rfl⟩
  rw [hfb] at HP HBS HZ
  simp only [hfb]
  show Exit.then _ _ Exit.normal _ _
  have HI0 := Lib.hid (show IsI w fb P false [] W from ⟨HB.out, HP.out, HRW.out, fun D hD => by cases hD⟩)
  have HF2 := Lib.hid (show w.heap.size + 1 < fb by have := HZ.out; omega)
  clear HP HRC HRW HB
  go_wp2
  refine wp_loop (fun a wr => ∃ (i : Nat) (Ds : List Nat) (u9 u15 u16 u17 u18 u19 u20 u21 u22 : Value), i ≤ n ∧ Ds.Nodup ∧ a = { tmps := #[.agg X, .int .i64 d, .slice p n c, .pointer (some ⟨w.heap.size, 0, none⟩), undef, undef, .pointer (some ⟨w.heap.size + 1, 0, none⟩), .pointer (some ⟨fb, 0, none⟩), undef, u9, .agg X, .agg X, .slice p n c, .int .i64 n, .int .i64 (i : Int), u15, u16, u17, u18, u19, u20, u21, u22], defers := Ds.map markOf } ∧ IsI w fb P false Ds wr ∧ ∀ j, j < i → atkL P (f j) d = [])
    (fun a _ => n - idxAt a) ?start ?round
  case start => exact ⟨0, [], undef, undef, undef, undef, undef, undef, undef, undef, undef, Nat.zero_le _, List.nodup_nil, rfl, HI0.out, fun j hj => by omega⟩
  case round =>
    clear HI0
    rintro a wr ⟨i, Ds, u9, u15, u16, u17, u18, u19, u20, u21, u22, hi, hnd, rfl, hst, hall⟩
    have HS := Lib.hid hst
    have HND := Lib.hid hnd
    have HALL := Lib.hid hall
    clear hst hnd hall
    have hmu : idxAt { tmps := #[.agg X, .int .i64 d, .slice p n c, .pointer (some ⟨w.heap.size, 0, none⟩), undef, undef, .pointer (some ⟨w.heap.size + 1, 0, none⟩), .pointer (some ⟨fb, 0, none⟩), undef, u9, .agg X, .agg X, .slice p n c, .int .i64 n, .int .i64 (i : Int), u15, u16, u17, u18, u19, u20, u21, u22], defers := Ds.map markOf } = i := by simp [idxAt, intOf]
    have HMU := Lib.hid hmu
    clear hmu
    by_cases hlt : i < n
    · have hrd := HRD.out.below (HS.out.below.mono hB)
      rcases hrd with h0 | ⟨b, off, rfl, hbb, hc⟩
      · omega
      have e0 : wr.cell? ⟨b, off + i, none⟩ = some (.int .i64 (f i)) := hc i hlt
      obtain ⟨s, hs⟩ : ∃ s, f i = s := ⟨_, rfl⟩
      rw [hs] at e0
      have HSF := Lib.hid hs
      clear hs hc
      have HGW := Lib.hid ((HG.out.below (HS.out.below.mono hB)).mono (Nat.le_trans hB HS.out.below.size))
      go_wp2_with fail
      refine (made_atk fb P s d wr HS.out.p HGW.out).mono ?_
      rintro e w2 ⟨lb, N, rfl, hb2, hc, hN⟩
      have HS2 := Lib.hid (HS.out.go hb2)
      have HRN := Lib.hid (show ∀ k, k = w.heap.size + 1 → ¬ N k from fun k hk hn => by
        rcases hN k hn with h1 | h1 | h1
        · have := HF2.out; omega
        · have := al_lt HS.out.r; omega
        · have h2 := HG.out.lt
          rw [← h1, hk] at h2
          omega)
      have HD2 := Lib.hid (fun D hD => Nat.lt_of_lt_of_le (Array.getElem?_eq_some_iff.1 (HS.out.ds D hD).1).1 hb2.size)
      have HC := Lib.hid hc
      clear hb2 hc hN HS HGW e0
      go_wp2
      refine wp_range_over (gf := 140) (lb := lb) rfl (enters_of Tryz.func140 (by kernel_rfl) rfl) HC.out (Below.refl _ _) rfl
        (fun pre Z W => pre = [] ∧ IsI w fb P false Ds W ∧ ∀ k, Z k ↔ k = w.heap.size + 1)
        (fun c pre Z W => c = .ret ∧ pre ≠ [] ∧ IsI w fb P true Ds W ∧ ∀ k, Z k ↔ k = w.heap.size + 1)
        (fun pi Z A B h hs => ⟨h.1, h.2.1.spare HS2.out.p.lt (al_lt HS2.out.r) HD2.out hs, h.2.2⟩)
        (fun c pi Z A B h hs => ⟨h.1, h.2.1, h.2.2.1.spare HS2.out.p.lt (al_lt HS2.out.r) HD2.out hs, h.2.2.2⟩)
        (fun pi Z A h k hk => by rw [h.2.2 k] at hk; rw [hk]; exact al_lt h.2.1.r) (X0 := fun k => k = w.heap.size + 1) ⟨rfl, HS2.out, fun _ => Iff.rfl⟩ HRN.out
        (fun x => { tmps := #[.agg X, .int .i64 d, .slice (some ⟨b, off, none⟩) n c, .pointer (some ⟨w.heap.size, 0, none⟩), undef, undef, .pointer (some ⟨w.heap.size + 1, 0, none⟩), .pointer (some ⟨fb, 0, none⟩), undef, .int .i64 s, .agg X, .agg X, .slice (some ⟨b, off, none⟩) n c, .int .i64 n, .int .i64 (i : Int), .bool true, .pointer (some ⟨b, off + i, none⟩), .int .i64 s, .int .i64 s, .int .i64 d, .func (.func 140) #[] lb, .int .i64 x, u22], defers := [] }) ?assign ?body ?done ?stop
      case assign =>
        intro l' x W' K hK
        refine wpIn_skip ?_
        show K _ W'
        simpa using hK
      case body =>
        rintro l' pi x Z W' ⟨rfl, hst, hz⟩ hpre hzw
        have HSB := Lib.hid hst
        obtain ⟨r0, rf, _⟩ := row1 hst.r
        have rf0 := rf 0
        clear hst
        gi_wp2
        refine ⟨Z, ⟨rfl, rfl, rfl, by rw [World.size_setCell]; exact Nat.le_refl _, fun k hk hx => Below.heap_setCell _ _ _ k (fun e => hx ((hz k).2 e))⟩, fun q hq => .inl hq, rfl, by simp, ⟨?_, ?_, ?_, ?_⟩, hz⟩
        · exact HSB.out.below.setCell (p := ⟨w.heap.size + 1, 0, none⟩) (by simp) _
        · exact HSB.out.p.other (by have := HF2.out; omega) _ _
        · exact Go.heap_setCell_same W' (w.heap.size + 1) 0 _ _ _ HSB.out.r
        · intro D hD
          have h1 := HSB.out.ds D hD
          exact ⟨(Below.heap_setCell _ _ _ D (by simp; omega)).trans h1.1, h1.2⟩
      case done =>
        rintro Y2 B2 ⟨hnil, hst, hz⟩ hd hny _
        have HSB := Lib.hid (show IsI w fb P false (w2.heap.size :: Ds) B2 from ⟨hst.below, hst.p, hst.r, fun D hD => by
          rcases List.mem_cons.1 hD with rfl | hD
          · exact ⟨hd, al_lt HS2.out.r⟩
          · exact hst.ds D hD⟩)
        have HND2 := Lib.hid (show (w2.heap.size :: Ds).Nodup from List.nodup_cons.2 ⟨fun hm => by have := HD2.out _ hm; omega, HND.out⟩)
        have HNIL := Lib.hid (show ∀ j, j < i + 1 → atkL P (f j) d = [] from fun j hj => by
          rcases (show j < i ∨ j = i by omega) with h | rfl
          · exact HALL.out j h
          · rw [HSF.out]; exact hnil)
        clear hst hd hny hz HC hnil
        go_wp2
        refine ⟨⟨i + 1, w2.heap.size :: Ds, .int .i64 s, .bool true, .pointer (some ⟨b, off + i, none⟩), .int .i64 s, .int .i64 s, .int .i64 d, .func (.func 140) #[] lb, u21, .int .i64 ((i : Int) + 1), by omega, HND2.out, by go_num, HSB.out, HNIL.out⟩, ?_⟩
        rw [HMU.out]
        simp [idxAt, intOf]
        omega
      case stop =>
        rintro c pi Y2 B2 hpre ⟨rfl, hne, hst, hz⟩ hd hny _
        have HSB := Lib.hid hst
        have HD9 := Lib.hid hd
        have HND2 := Lib.hid (show (w2.heap.size :: Ds).Nodup from List.nodup_cons.2 ⟨fun hm => by have := HD2.out _ hm; omega, HND.out⟩)
        have HT := Lib.hid (show isAt P d f n = true from isAt_hit hlt (by rw [HSF.out]; intro h0; rw [h0] at hpre; exact hne (List.eq_nil_of_prefix_nil hpre)))
        clear hst hd hny hz HC hpre hne
        go_wp2
        refine leaves_marks (T := fun W' => Below w.heap.size w W' ∧ W'.heap[w.heap.size + 1]? = some (.cells #[.bool true] 4 (0, 0))) (G := fun D => w.heap.size + 1 < D) (fun D W' hg hj hw => ⟨?_, ?_⟩) (fun W' hj => ⟨.bool true, results_cell_bool (p := 6) (ty := 4) rfl _ _ (w.heap.size + 1) true rfl (row1 hj.2).1 Tryz.underlying4, by rw [HT.out], hj.1⟩) (w2.heap.size :: Ds) _ HND2.out (fun D hD => ?_) ⟨HSB.out.below, HSB.out.r⟩
        · exact ⟨hj.1.os, hj.1.tape, hj.1.output, by simpa using hj.1.size, fun k hk => (World.putObj_heap_other (by omega)).trans (hj.1.block k hk)⟩
        · exact (World.putObj_heap_other (by omega)).trans hj.2
        · rcases List.mem_cons.1 hD with rfl | hD
          · exact ⟨HD9.out, al_lt HS2.out.r⟩
          · exact HSB.out.ds D hD
    · obtain rfl : i = n := by omega
      obtain ⟨r0, rf, _⟩ := row1 HS.out.r
      have rf0 := rf 0
      have HT := Lib.hid (isAt_miss HALL.out)
      go_wp2
      refine leaves_marks (T := fun W' => Below w.heap.size w W' ∧ W'.heap[w.heap.size + 1]? = some (.cells #[.bool false] 4 (0, 0))) (G := fun D => w.heap.size + 1 < D) (fun D W' hg hj hw => ⟨?_, ?_⟩) (fun W' hj => ⟨.bool false, results_cell_bool (p := 6) (ty := 4) rfl _ _ (w.heap.size + 1) false rfl (row1 hj.2).1 Tryz.underlying4, by rw [HT.out], hj.1⟩) Ds _ HND.out (fun D hD => ?_) ⟨?_, ?_⟩
      · exact ⟨hj.1.os, hj.1.tape, hj.1.output, by simpa using hj.1.size, fun k hk => (World.putObj_heap_other (by omega)).trans (hj.1.block k hk)⟩
      · exact (World.putObj_heap_other (by omega)).trans hj.2
      · have h1 := HS.out.ds D hD
        exact ⟨(Below.heap_setCell _ _ _ D (by simp; omega)).trans h1.1, h1.2⟩
      · exact HS.out.below.setCell (p := ⟨w.heap.size + 1, 0, none⟩) (by simp) _
      · exact Go.heap_setCell_same wr (w.heap.size + 1) 0 _ _ _ HS.out.r
def getI (l : List Int) (i : Nat) : Int := l.getD i 0
def chkB (P : Nat → Int) (d : Int) : Bool := sideB d && isAt P (oth d) (getI (fnd P 6 d 64)) (fnd P 6 d 64).length
set_option maxHeartbeats 2000000 in
set_option maxRecDepth 100000 in
theorem chk_any (P : Nat → Int) (d : Int) (w : World) (B : Nat) (hg : GS B w) (hB : B ≤ w.heap.size) :
    Calls Tryz.prog 50 #[.agg (pc P).toArray, .int .i64 d] w fun e w' => e = .returned (.bool (chkB P d)) ∧ Below w.heap.size w w' := by
  obtain ⟨X, hX⟩ : ∃ X, X = (pc P).toArray := ⟨_, rfl⟩
  have HF := Lib.hid (fun W => find_any P 6 d W)
  have HI := Lib.hid (fun W p n c f hn hr hg hB => isA_any W.heap.size P (oth d) p n c f W hn hr hg hB)
  rw [← hX] at HF HI ⊢
  have HP0 := Lib.hid (pos_box P w X hX 30)
  have HG := Lib.hid hg
  have HX := Lib.hid hX
  have HBW := Lib.hid (below_new (w := w) (.cells X 30))
  have HFL := Lib.hid (fnd_len P 6 d 64)
  clear hX hg
  go_enter Tryz.func50, Tryz.ntmps50
  go_upto_region 1 with (fail)
  generalize w.alloc (.cells X 30) = W0 at *
  go_wp2_with fail
  refine (aSide_any d _).mono ?_
  cases hs : sideB d
  · have HC := Lib.hid (show chkB P d = false by unfold chkB; rw [hs, Bool.false_and])
    clear hs
    rintro e w1 ⟨rfl, rfl⟩
    go_wp2
    go_ret
    exact ⟨by rw [HC.out]; rfl, HBW.out⟩
  · have HC := Lib.hid (show chkB P d = isAt P (oth d) (getI (fnd P 6 d 64)) (fnd P 6 d 64).length by unfold chkB; rw [hs, Bool.true_and])
    clear hs
    rintro e w1 ⟨rfl, rfl⟩
    go_upto_region 3 with (fail)
    refine wp_region_lit ?_
    refine wpList_pos (by rfl) _ (by rfl) w.heap.size P X HX.out (by rfl) HP0.out ?_
    go_wp2_with fail
    refine (HF.out _).mono ?_
    rintro e w2 ⟨v, rfl, hb2, hown⟩
    rw [ivals_range] at hown
    obtain ⟨p1, c1, rfl, hr1, _⟩ := sq_reads hown
    have HP2 := Lib.hid (HP0.out.go hb2)
    have HB2 := Lib.hid (HBW.out.trans (hb2.mono HBW.out.size))
    generalize hL : fnd P 6 d 64 = L at *
    obtain ⟨n, hn⟩ : ∃ n, L.length = n := ⟨_, rfl⟩
    rw [hn] at HFL hr1 HC ⊢
    have HRD := Lib.hid hr1
    have HGW := Lib.hid ((HG.out.below (HB2.out.mono hB)).mono (Nat.le_trans hB HB2.out.size))
    clear hb2 hown hr1 hL hn HF
    go_upto_region 4 with (fail)
    have c15 := regrown_same (w := w2) (fun W => other_any d W)
    have c17 : ∀ dd os, Calls Tryz.prog 79 #[.agg X, .int .i64 (oth d), .slice p1 n c1] (grow (redrawn w2 dd) os) fun e w'' => e = .returned (.bool (isAt P (oth d) (getI L) n)) ∧ ∃ p : Regrown, w'' = grow (redrawn w2 p.d) p.os := fun dd os =>
      Calls.regrown_of (HI.out _ p1 n c1 (getI L) (by have := HFL.out; omega) ((HRD.out.below (below_regrown w2 dd os)).mono (below_regrown w2 dd os).size) ((HGW.out.below (below_regrown w2 dd os)).mono (below_regrown w2 dd os).size) (Nat.le_refl _))
    have HCP := Lib.hid HP2.out.regrown
    clear HI HRD HGW HG
    refine wp_region_quiet_below (by kernel_rfl) (by kernel_rfl) ?_
    refine wpQuiet_pos (by rfl) _ (by rfl) w.heap.size P X HX.out (by rfl) HCP.out ?_
    try simp only [aP, sA, sZ, sS]
    iterate 1 (go_big_quiet_step (fail))
    go_big_quiet_step (exact c15 _ _)
    iterate 1 (go_big_quiet_step (fail))
    go_big_quiet_step (exact c17 _ _)
    iterate 1 (go_big_quiet_step (fail))
    refine wpQuiet_nil ?_
    rintro w4 ⟨q, rfl⟩
    have HB4 := Lib.hid (HB2.out.trans ((below_regrown w2 q.d q.os).mono HB2.out.size))
    clear c15 c17 HCP HP2 HP0
    generalize grow (redrawn w2 q.d) q.os = w4 at *
    go_wp2
    go_ret
    exact ⟨by rw [HC.out]; rfl, HB4.out⟩
end Go.Proofs.YtcdnakbdajbfoaaGreatDoor
