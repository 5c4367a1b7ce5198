/-
  Merged: Vw, Yv, Nd, Uv, Za, Zb.
-/
import Derived.Test.YtkncfeijlmomaaaGreatDoorG16
import Derived.Test.YtkncfeijlmomaaaGreatDoorG13
import Derived.Test.YtkncfeijlmomaaaGreatDoorG15
import Derived.Test.YtkncfeijlmomaaaGreatDoorG6
import Derived.Test.YtkncfeijlmomaaaGreatDoorRows
import Derived.Lib.LaidU8
import Derived.LaidLaws
import Derived.Handed
import Derived.Deep.Slices
import Derived.Deep.Fields
import Derived.Deep.Matrix
import Derived.ChangeSame
import Derived.OpenShut
import Derived.ProofKit
import Derived.Deep.DeepLaidRun
import Derived.Lib.LaidTab
import Derived.Test.YtkncfeijlmomaaaGreatDoorG22
import Derived.Test.YtkncfeijlmomaaaGreatDoorG9
import Derived.Test.YtkncfeijlmomaaaGreatDoorG1
import Derived.Test.YtkncfeijlmomaaaGreatDoorG28

namespace Go.Proofs.YtkncfeijlmomaaaGreatDoor
open Go.RowKit Go.ChangeShapes Go.WideShapes
set_option linter.unusedSimpArgs false
set_option linter.unusedVariables false
set_option maxRecDepth 20000

section
variable {H : Type} {enc : TypeId × Value → H} {w : World} {base : Nat}
theorem one_int {sp : Nat → Bool} {held : Bool} {fuel : Nat} {t : TypeId} {cs : List Value} {x : DataW H × List MemPlace} {o : Nat} (ht : Tryz.prog.underlying t = some (.int .i64)) (hc : Tryz.prog.cellsOf t = 1)
    (h : DataW.trod enc Tryz.prog w base sp held fuel t ((cs.drop o).take (Tryz.prog.cellsOf t)) = some x) : ∃ z, cs[o]? = some (.int .i64 z) ∧ (Lit.int .i64 z).wf = true := by
  obtain ⟨z, hz, _, hw⟩ := DataW.trod_int ht h
  rw [hc] at hz
  refine ⟨z, ?_, hw⟩
  have := congrArg (·[0]?) hz
  simpa [List.getElem?_take, List.getElem?_drop] using this
theorem piece_ints {sp : Nat → Bool} {held : Bool} {fuel : Nat} {cs : List Value} {x : DataW H × List MemPlace} (h : DataW.trod enc Tryz.prog w base sp held fuel 25 cs = some x) :
    (∃ z, cs[0]? = some (.int .i64 z) ∧ (Lit.int .i64 z).wf = true) ∧ ∃ z, cs[1]? = some (.int .i64 z) ∧ (Lit.int .i64 z).wf = true := by
  obtain ⟨xs, n, _, rfl, hl, hlen, hf⟩ := DataW.trod_struct Tryz.underlying25 h
  match xs, hlen with
  | [y0, y1], _ =>
    exact ⟨one_int Tryz.underlying22 (by kernel_rfl) (hf 0 _ rfl), one_int Tryz.underlying23 (by kernel_rfl) (hf 1 _ rfl)⟩
set_option maxRecDepth 100000 in
theorem view_pos {r : Reach} {b0 : Nat} {v : Value} {d : DataW H} {p : List MemPlace} (hv : Value.okWide Tryz.prog w r b0 29 v) (h : DataW.Trod enc Tryz.prog w base (fun _ => true) true 29 v d p) : ∃ P, v = .agg (pc P).toArray := by
  have hu := Tryz.underlying29
  simp only [Value.okWide, hu] at hv
  obtain ⟨cs, rfl, hs, _⟩ := hv
  rw [show Tryz.prog.cellsOf 29 = 133 by kernel_rfl] at hs
  obtain ⟨fuel, hf⟩ := h
  obtain ⟨xs, n, _, _, hl, hlen, hfs⟩ := DataW.trod_struct hu hf
  have key : ∀ i, i < 133 → ∃ z, cs.toList[i]? = some (.int .i64 z) := fun i hi => by
    simp only [Value.cells] at hfs
    match xs, hlen with
    | [y0, y1, y2, y3, y4, y5], _ =>
      by_cases h128 : i < 128
      · have hf0 : DataW.trod enc Tryz.prog w base (fun _ => true) true n 26 ((cs.toList.drop 0).take (Tryz.prog.cellsOf 26)) = some y0 := hfs 0 _ rfl
        obtain ⟨ys, m, _, _, _, hyl, hat⟩ := DataW.trod_array Tryz.underlying26 hf0
        have h1 := hat (i / 2) (by omega)
        have hx : ys[i / 2]? = some (ys[i / 2]'(by omega)) := List.getElem?_eq_getElem (by omega)
        obtain ⟨⟨a, ha, _⟩, ⟨b, hb, _⟩⟩ := piece_ints (h1.trans hx)
        rw [show Tryz.prog.cellsOf 25 = 2 by kernel_rfl, show Tryz.prog.cellsOf 26 = 128 by kernel_rfl] at ha hb
        simp only [List.getElem?_take, List.getElem?_drop, Nat.zero_add, Nat.add_zero, List.drop_zero] at ha hb
        rcases (show i = i / 2 * 2 ∨ i = i / 2 * 2 + 1 by omega) with e | e
        · refine ⟨a, ?_⟩
          rw [e]
          have hlt : i / 2 * 2 < 128 := by omega
          simpa [hlt] using ha
        · refine ⟨b, ?_⟩
          rw [e]
          have hlt : i / 2 * 2 + 1 < 128 := by omega
          simpa [hlt] using hb
      · rcases (show i = 128 ∨ i = 129 ∨ i = 130 ∨ i = 131 ∨ i = 132 by omega) with rfl | rfl | rfl | rfl | rfl
        · obtain ⟨z, hz, _⟩ := one_int Tryz.underlying23 (by kernel_rfl) (hfs 1 _ rfl); exact ⟨z, hz⟩
        · obtain ⟨z, hz, _⟩ := one_int Tryz.underlying27 (by kernel_rfl) (hfs 2 _ rfl); exact ⟨z, hz⟩
        · obtain ⟨z, hz, _⟩ := one_int Tryz.underlying3 (by kernel_rfl) (hfs 3 _ rfl); exact ⟨z, hz⟩
        · obtain ⟨z, hz, _⟩ := one_int Tryz.underlying3 (by kernel_rfl) (hfs 4 _ rfl); exact ⟨z, hz⟩
        · obtain ⟨z, hz, _⟩ := one_int Tryz.underlying3 (by kernel_rfl) (hfs 5 _ rfl); exact ⟨z, hz⟩
  obtain ⟨Z, hZ⟩ := Go.Deep.choose_lt key
  refine ⟨Z, ?_⟩
  congr 1
  apply Array.ext_getElem?
  intro i
  by_cases hi : i < 133
  · have e : cs[i]? = some (.int .i64 (Z i)) := by rw [← Array.getElem?_toList]; exact hZ i hi
    rw [e, List.getElem?_toArray, pc_get _ _ hi]
  · rw [Array.getElem?_eq_none (by omega), Array.getElem?_eq_none (by rw [pc_size]; omega)]
theorem move_ints {sp : Nat → Bool} {held : Bool} {fuel : Nat} {cs : List Value} {x : DataW H × List MemPlace} (h : DataW.trod enc Tryz.prog w base sp held fuel 46 cs = some x) :
    (∃ z, cs[0]? = some (.int .i64 z) ∧ (Lit.int .i64 z).wf = true) ∧ (∃ z, cs[1]? = some (.int .i64 z) ∧ (Lit.int .i64 z).wf = true) ∧ ∃ z, cs[2]? = some (.int .i64 z) ∧ (Lit.int .i64 z).wf = true := by
  obtain ⟨xs, n, _, rfl, hl, hlen, hf⟩ := DataW.trod_struct Tryz.underlying46 h
  match xs, hlen with
  | [y0, y1, y2], _ =>
    exact ⟨one_int Tryz.underlying3 (by kernel_rfl) (hf 0 _ rfl), one_int Tryz.underlying3 (by kernel_rfl) (hf 1 _ rfl), one_int Tryz.underlying22 (by kernel_rfl) (hf 2 _ rfl)⟩
set_option maxRecDepth 100000 in
theorem view_moves {r : Reach} {b0 : Nat} {v : Value} {d : DataW H} {p : List MemPlace} (hv : Value.okWide Tryz.prog w r b0 42 v) (h : DataW.Trod enc Tryz.prog w base (fun _ => true) true 42 v d p) :
    ∃ (a : Option Addr) (len cap : Nat) (F T G : Nat → Int), v = .slice a len cap ∧ len ≤ maxLen ∧ Reads3 w.heap.size w a len F T G := by
  obtain ⟨a, len, cap, rfl⟩ := okWide_slice Tryz.underlying42 hv
  obtain ⟨fuel, hf⟩ := h
  rcases Go.Deep.open_slice Tryz.underlying42 hf with ⟨hcs, _⟩ | ⟨x, l, c, m, n', D, Pl, hcs, hb, hl, hm, hmm, hx, hat⟩
  · simp [Value.cells] at hcs
    obtain ⟨rfl, rfl, rfl⟩ := hcs
    exact ⟨none, 0, 0, fun _ => 0, fun _ => 0, fun _ => 0, rfl, by unfold maxLen; omega, .inl rfl⟩
  · simp [Value.cells] at hcs
    obtain ⟨rfl, rfl, rfl⟩ := hcs
    simp only [if_true] at hmm
    have hc3 : Tryz.prog.cellsOf 46 = 3 := by kernel_rfl
    have key : ∀ i, i < len → ∃ z : Int × Int × Int, w.cell? (x.add (i * 3)) = some (.int .i64 z.1) ∧ w.cell? (x.add (i * 3 + 1)) = some (.int .i64 z.2.1) ∧ w.cell? (x.add (i * 3 + 2)) = some (.int .i64 z.2.2) := fun i hi => by
      obtain ⟨cs', hc, ht⟩ := hat i (by omega)
      rw [hc3] at hc
      obtain ⟨_, hcl, hce⟩ := World.cells?_some hc
      obtain ⟨⟨z0, e0, _⟩, ⟨z1, e1, _⟩, ⟨z2, e2, _⟩⟩ := move_ints ht
      refine ⟨(z0, z1, z2), ?_, ?_, ?_⟩
      · have := hce 0 (by omega)
        rw [Go.Deep.add_add] at this
        rw [← e0]; simpa using this
      · have := hce 1 (by omega)
        rw [Go.Deep.add_add] at this
        rw [← e1]; simpa using this
      · have := hce 2 (by omega)
        rw [Go.Deep.add_add] at this
        rw [← e2]; simpa using this
    obtain ⟨Z, hZ⟩ := Go.Deep.choose_lt key
    refine ⟨some x, len, cap, fun i => (Z i).1, fun i => (Z i).2.1, fun i => (Z i).2.2, rfl, by omega, ?_⟩
    by_cases h0 : len = 0
    · exact .inl h0
    · obtain ⟨b, off, spot⟩ := x
      have hspot : spot = none := by simpa [Addr.add] using World.cell?_spot (hZ 0 (by omega)).1
      subst hspot
      refine .inr ⟨b, off, rfl, ?_, fun i hi => ?_⟩
      · have := (hZ 0 (by omega)).1
        exact World.block_lt_of_cell? w ⟨b, off + 0 * 3, none⟩ (by rw [Go.WideShapes.add_plain] at this; exact this)
      · obtain ⟨h1, h2, h3⟩ := hZ i hi
        rw [Go.WideShapes.add_plain] at h1 h2 h3
        exact ⟨h1, by rw [Nat.add_assoc]; exact h2, by rw [Nat.add_assoc]; exact h3⟩
end

/-! ### what a row lays -/
theorem lit_of {H : Type} {enc : TypeId × Value → H} {w : World} {base : Nat} {sp : Nat → Bool} {held : Bool} {fuel : Nat} {t : TypeId} {cs : List Value} {d : DataW H} {q : List MemPlace} {o : Nat} {n : Int} (ht : Tryz.prog.underlying t = some (.int .i64)) (hc : Tryz.prog.cellsOf t = 1)
    (h : DataW.trod enc Tryz.prog w base sp held fuel t ((cs.drop o).take (Tryz.prog.cellsOf t)) = some (d, q)) (hd : d = .lit (.int .i64 n)) : cs[o]? = some (.int .i64 n) := by
  obtain ⟨z, hz, hx⟩ := DataW.trod_int ht h
  have e1 := (Prod.mk.inj hx.1).1
  rw [hd] at e1
  have e2 : n = z := by simpa using e1
  rw [hc] at hz
  have := congrArg (·[0]?) hz
  rw [e2]
  simpa [List.getElem?_take, List.getElem?_drop] using this
theorem cas_name : Tryz.prog.globalNamed "zugzwang/board.castlings" = some 1 := by kernel_rfl
theorem cas_type : (Tryz.prog.globals[1]?).map (·.type) = some 180 := by kernel_rfl
set_option maxRecDepth 100000 in
theorem cas_data : (Rows.laid_zugzwang_board_castlings : DataW Unit) = .agg ((List.range 4).map fun i => .agg [.lit (.int .i64 (casN (i * 4))), .lit (.int .i64 (casN (i * 4 + 1))), .lit (.int .i64 (casN (i * 4 + 2))), .lit (.int .i64 (casN (i * 4 + 3)))]) := by kernel_rfl
theorem cas_of_laid {W : World} {L : List (String × DataW Unit)} (h : laidMet Tryz.prog L W) (hm : ("zugzwang/board.castlings", Rows.laid_zugzwang_board_castlings) ∈ L) : ∀ i, i < 16 → W.cell? ⟨1, i, none⟩ = some (.int .i64 (casN i)) := by
  obtain ⟨g, t, cs, fuel, p, hg, ht, hvar, hd⟩ := Lib.laidMet.reads h hm
  obtain rfl := Option.some.inj (cas_name.symm.trans hg)
  obtain rfl := Option.some.inj (cas_type.symm.trans ht)
  rw [cas_data] at hd
  intro i hi
  obtain ⟨fuel', d, q, h1, h2⟩ := Lib.array_elem Tryz.underlying180 hd (i / 4) (by omega)
  rw [List.getElem?_map, List.getElem?_range (by omega)] at h1
  have hdd : d = .agg [.lit (.int .i64 (casN (i / 4 * 4))), .lit (.int .i64 (casN (i / 4 * 4 + 1))), .lit (.int .i64 (casN (i / 4 * 4 + 2))), .lit (.int .i64 (casN (i / 4 * 4 + 3)))] := by simpa using h1.symm
  rw [show Tryz.prog.cellsOf 179 = 4 by kernel_rfl] at h2
  obtain ⟨xs, n, _, hy, hl, hlen, hfs⟩ := DataW.trod_struct Tryz.underlying179 h2
  rw [World.var?_cell hg hvar i]
  match xs, hlen with
  | [y0, y1, y2, y3], _ =>
    have hyy := (Prod.mk.inj hy).1
    rw [hdd] at hyy
    simp only [List.map_cons, List.map_nil, DataW.agg.injEq, List.cons.injEq, and_true] at hyy
    obtain ⟨z0, z1, z2, z3⟩ := hyy
    have f0 := lit_of (o := 0) Tryz.underlying27 (by kernel_rfl) (hfs 0 _ rfl) z0.symm
    have f1 := lit_of (o := 1) Tryz.underlying23 (by kernel_rfl) (hfs 1 _ rfl) z1.symm
    have f2 := lit_of (o := 2) Tryz.underlying3 (by kernel_rfl) (hfs 2 _ rfl) z2.symm
    have f3 := lit_of (o := 3) Tryz.underlying3 (by kernel_rfl) (hfs 3 _ rfl) z3.symm
    simp only [List.getElem?_take, List.getElem?_drop] at f0 f1 f2 f3
    rcases (show i = i / 4 * 4 + 0 ∨ i = i / 4 * 4 + 1 ∨ i = i / 4 * 4 + 2 ∨ i = i / 4 * 4 + 3 by omega) with e | e | e | e
    · rw [e]; simpa using f0
    · rw [e]; simpa using f1
    · rw [e]; simpa using f2
    · rw [e]; simpa using f3
theorem kas_name : Tryz.prog.globalNamed "zugzwang/play.castlings" = some 4 := by kernel_rfl
theorem kas_type : (Tryz.prog.globals[4]?).map (·.type) = some 236 := by kernel_rfl
set_option maxRecDepth 100000 in
theorem kas_data : (Rows.laid_zugzwang_play_castlings : DataW Unit) = .agg ((List.range 4).map fun i => .agg [.lit (.int .i64 (kasN (i * 5))), .lit (.int .i64 (kasN (i * 5 + 1))), .lit (.int .i64 (kasN (i * 5 + 2))), .lit (.int .i64 (kasN (i * 5 + 3))), .lit (.int .i64 (kasN (i * 5 + 4)))]) := by kernel_rfl
theorem kas_of_laid {W : World} {L : List (String × DataW Unit)} (h : laidMet Tryz.prog L W) (hm : ("zugzwang/play.castlings", Rows.laid_zugzwang_play_castlings) ∈ L) : ∀ i, i < 20 → W.cell? ⟨4, i, none⟩ = some (.int .i64 (kasN i)) := by
  obtain ⟨g, t, cs, fuel, p, hg, ht, hvar, hd⟩ := Lib.laidMet.reads h hm
  obtain rfl := Option.some.inj (kas_name.symm.trans hg)
  obtain rfl := Option.some.inj (kas_type.symm.trans ht)
  rw [kas_data] at hd
  intro i hi
  obtain ⟨fuel', d, q, h1, h2⟩ := Lib.array_elem Tryz.underlying236 hd (i / 5) (by omega)
  rw [List.getElem?_map, List.getElem?_range (by omega)] at h1
  have hdd : d = .agg [.lit (.int .i64 (kasN (i / 5 * 5))), .lit (.int .i64 (kasN (i / 5 * 5 + 1))), .lit (.int .i64 (kasN (i / 5 * 5 + 2))), .lit (.int .i64 (kasN (i / 5 * 5 + 3))), .lit (.int .i64 (kasN (i / 5 * 5 + 4)))] := by simpa using h1.symm
  rw [show Tryz.prog.cellsOf 198 = 5 by kernel_rfl] at h2
  obtain ⟨xs, n, _, hy, hl, hlen, hfs⟩ := DataW.trod_struct Tryz.underlying198 h2
  rw [World.var?_cell hg hvar i]
  match xs, hlen with
  | [y0, y1, y2, y3, y4], _ =>
    have hyy := (Prod.mk.inj hy).1
    rw [hdd] at hyy
    simp only [List.map_cons, List.map_nil, DataW.agg.injEq, List.cons.injEq, and_true] at hyy
    obtain ⟨z0, z1, z2, z3, z4⟩ := hyy
    have f0 := lit_of (o := 0) Tryz.underlying27 (by kernel_rfl) (hfs 0 _ rfl) z0.symm
    have f1 := lit_of (o := 1) Tryz.underlying23 (by kernel_rfl) (hfs 1 _ rfl) z1.symm
    have f2 := lit_of (o := 2) Tryz.underlying3 (by kernel_rfl) (hfs 2 _ rfl) z2.symm
    have f3 := lit_of (o := 3) Tryz.underlying3 (by kernel_rfl) (hfs 3 _ rfl) z3.symm
    have f4 := lit_of (o := 4) Tryz.underlying3 (by kernel_rfl) (hfs 4 _ rfl) z4.symm
    simp only [List.getElem?_take, List.getElem?_drop] at f0 f1 f2 f3 f4
    rcases (show i = i / 5 * 5 + 0 ∨ i = i / 5 * 5 + 1 ∨ i = i / 5 * 5 + 2 ∨ i = i / 5 * 5 + 3 ∨ i = i / 5 * 5 + 4 by omega) with e | e | e | e | e
    · rw [e]; simpa using f0
    · rw [e]; simpa using f1
    · rw [e]; simpa using f2
    · rw [e]; simpa using f3
    · rw [e]; simpa using f4
theorem st_name : Tryz.prog.globalNamed "zugzwang/attack.steps" = some 2 := by kernel_rfl
theorem st_type : (Tryz.prog.globals[2]?).map (·.type) = some 212 := by kernel_rfl
set_option maxRecDepth 100000 in
theorem st_data : (Rows.laid_zugzwang_attack_steps : DataW Unit) = .agg ((List.range 16).map fun i => .agg [.lit (.int .i64 (stN (i * 2))), .lit (.int .i64 (stN (i * 2 + 1)))]) := by kernel_rfl
theorem st_of_laid {W : World} {L : List (String × DataW Unit)} (h : laidMet Tryz.prog L W) (hm : ("zugzwang/attack.steps", Rows.laid_zugzwang_attack_steps) ∈ L) : ∀ i, i < 32 → W.cell? ⟨2, i, none⟩ = some (.int .i64 (stN i)) := by
  obtain ⟨g, t, cs, fuel, p, hg, ht, hvar, hd⟩ := Lib.laidMet.reads h hm
  obtain rfl := Option.some.inj (st_name.symm.trans hg)
  obtain rfl := Option.some.inj (st_type.symm.trans ht)
  rw [st_data] at hd
  intro i hi
  obtain ⟨fuel', d, q, h1, h2⟩ := Lib.array_elem Tryz.underlying212 hd (i / 2) (by omega)
  rw [List.getElem?_map, List.getElem?_range (by omega)] at h1
  have hdd : d = .agg [.lit (.int .i64 (stN (i / 2 * 2))), .lit (.int .i64 (stN (i / 2 * 2 + 1)))] := by simpa using h1.symm
  rw [show Tryz.prog.cellsOf 211 = 2 by kernel_rfl] at h2
  obtain ⟨xs, n, _, hy, hl, hlen, hfs⟩ := DataW.trod_struct Tryz.underlying211 h2
  rw [World.var?_cell hg hvar i]
  match xs, hlen with
  | [y0, y1], _ =>
    have hyy := (Prod.mk.inj hy).1
    rw [hdd] at hyy
    simp only [List.map_cons, List.map_nil, DataW.agg.injEq, List.cons.injEq, and_true] at hyy
    obtain ⟨z0, z1⟩ := hyy
    have f0 := lit_of (o := 0) Tryz.underlying3 (by kernel_rfl) (hfs 0 _ rfl) z0.symm
    have f1 := lit_of (o := 1) Tryz.underlying3 (by kernel_rfl) (hfs 1 _ rfl) z1.symm
    simp only [List.getElem?_take, List.getElem?_drop] at f0 f1
    rcases (show i = i / 2 * 2 + 0 ∨ i = i / 2 * 2 + 1 by omega) with e | e
    · rw [e]; simpa using f0
    · rw [e]; simpa using f1
end Go.Proofs.YtkncfeijlmomaaaGreatDoor

namespace Go.Proofs.YtkncfeijlmomaaaGreatDoor
open Go.RowKit
set_option linter.unusedSimpArgs false
set_option linter.unusedVariables false
set_option maxRecDepth 100000

theorem pow_name : Tryz.prog.globalNamed "internal/strconv.uint64pow10" = some 5 := by kernel_rfl
theorem pow_type : (Tryz.prog.globals[5]?).map (·.type) = some 243 := by kernel_rfl
theorem pow_data : (Rows.laid_internal_strconv_uint64pow10 : DataW Unit) = Lib.tabData .u64 Lib.pow10Tab := by kernel_rfl
theorem tp_of_laid {W : World} {L : List (String × DataW Unit)} (h : laidMet Tryz.prog L W) (hm : ("internal/strconv.uint64pow10", Rows.laid_internal_strconv_uint64pow10) ∈ L) : TP W.heap.size W := by
  obtain ⟨g, t, cs, fuel, p, hg, ht, hvar, hd⟩ := Lib.laidMet.reads h hm
  obtain rfl := Option.some.inj (pow_name.symm.trans hg)
  obtain rfl := Option.some.inj (pow_type.symm.trans ht)
  rw [pow_data] at hd
  refine Lib.tabBelow_of_tabIs ?_
  unfold Lib.TabIs
  rw [hvar, ← Lib.cells_of_tab Tryz.underlying243 Tryz.underlying188 (by kernel_rfl) (by kernel_rfl) hd]
end Go.Proofs.YtkncfeijlmomaaaGreatDoor

namespace Go.Proofs.YtkncfeijlmomaaaGreatDoor
open Go.RowKit Go.ChangeShapes Go.WideShapes
set_option linter.unusedSimpArgs false
set_option linter.unusedVariables false
set_option maxRecDepth 20000

theorem mcs_name : Tryz.prog.globalNamed "zugzwang/moves.castlings" = some 3 := by kernel_rfl
theorem mcs_type : (Tryz.prog.globals[3]?).map (·.type) = some 223 := by kernel_rfl
set_option maxRecDepth 100000 in
theorem mcs_data : (Rows.laid_zugzwang_moves_castlings : DataW Unit) = .agg ((List.range 4).map fun i => .agg [.lit (.int .i64 (mcsN (i * 4))), .lit (.int .i64 (mcsN (i * 4 + 1))), .lit (.int .i64 (mcsN (i * 4 + 2))), .lit (.int .i64 (mcsN (i * 4 + 3)))]) := by kernel_rfl
theorem mcs_of_laid {W : World} {L : List (String × DataW Unit)} (h : laidMet Tryz.prog L W) (hm : ("zugzwang/moves.castlings", Rows.laid_zugzwang_moves_castlings) ∈ L) : ∀ i, i < 16 → W.cell? ⟨3, i, none⟩ = some (.int .i64 (mcsN i)) := by
  obtain ⟨g, t, cs, fuel, p, hg, ht, hvar, hd⟩ := Lib.laidMet.reads h hm
  obtain rfl := Option.some.inj (mcs_name.symm.trans hg)
  obtain rfl := Option.some.inj (mcs_type.symm.trans ht)
  rw [mcs_data] at hd
  intro i hi
  obtain ⟨fuel', d, q, h1, h2⟩ := Lib.array_elem Tryz.underlying223 hd (i / 4) (by omega)
  rw [List.getElem?_map, List.getElem?_range (by omega)] at h1
  have hdd : d = .agg [.lit (.int .i64 (mcsN (i / 4 * 4))), .lit (.int .i64 (mcsN (i / 4 * 4 + 1))), .lit (.int .i64 (mcsN (i / 4 * 4 + 2))), .lit (.int .i64 (mcsN (i / 4 * 4 + 3)))] := by simpa using h1.symm
  rw [show Tryz.prog.cellsOf 222 = 4 by kernel_rfl] at h2
  obtain ⟨xs, n, _, hy, hl, hlen, hfs⟩ := DataW.trod_struct Tryz.underlying222 h2
  rw [World.var?_cell hg hvar i]
  match xs, hlen with
  | [y0, y1, y2, y3], _ =>
    have hyy := (Prod.mk.inj hy).1
    rw [hdd] at hyy
    simp only [List.map_cons, List.map_nil, DataW.agg.injEq, List.cons.injEq, and_true] at hyy
    obtain ⟨z0, z1, z2, z3⟩ := hyy
    have f0 := lit_of (o := 0) Tryz.underlying27 (by kernel_rfl) (hfs 0 _ rfl) z0.symm
    have f1 := lit_of (o := 1) Tryz.underlying23 (by kernel_rfl) (hfs 1 _ rfl) z1.symm
    have f2 := lit_of (o := 2) Tryz.underlying3 (by kernel_rfl) (hfs 2 _ rfl) z2.symm
    have f3 := lit_of (o := 3) Tryz.underlying3 (by kernel_rfl) (hfs 3 _ rfl) z3.symm
    simp only [List.getElem?_take, List.getElem?_drop] at f0 f1 f2 f3
    rcases (show i = i / 4 * 4 + 0 ∨ i = i / 4 * 4 + 1 ∨ i = i / 4 * 4 + 2 ∨ i = i / 4 * 4 + 3 by omega) with e | e | e | e
    · rw [e]; simpa using f0
    · rw [e]; simpa using f1
    · rw [e]; simpa using f2
    · rw [e]; simpa using f3
end Go.Proofs.YtkncfeijlmomaaaGreatDoor

namespace Go.Proofs.YtkncfeijlmomaaaGreatDoor
open Go.RowKit Go.ChangeShapes Go.WideShapes
set_option linter.unusedSimpArgs false
set_option linter.unusedVariables false
set_option maxRecDepth 20000

theorem row_reads {k : IntKind} {w : World} {a : Option Addr} {len cap : Nat} {zs : List Int} (h : (a = none ∧ len = 0 ∧ cap = 0 ∧ zs = []) ∨
    ∃ x, a = some x ∧ len ≤ cap ∧ cap ≤ maxLen ∧ zs.length = cap ∧ (∀ i, i < zs.length → w.cell? (x.add i) = some (.int k (zs.getD i 0))) ∧ ∀ n ∈ zs, (Lit.int k n).wf = true) :
    Reads w.heap.size w a len (fun i => .int k (zs.getD i 0)) ∧ (a = none → len = 0 ∧ cap = 0) ∧ len ≤ maxLen ∧ ∀ i, i < len → (Lit.int k (zs.getD i 0)).wf = true := by
  rcases h with ⟨rfl, rfl, rfl, rfl⟩ | ⟨x, rfl, h1, h2, h3, h4, h5⟩
  · exact ⟨.inl rfl, fun _ => ⟨rfl, rfl⟩, by unfold maxLen; omega, fun i hi => by omega⟩
  · refine ⟨?_, fun e => (by cases e), Nat.le_trans h1 h2, fun i hi => h5 _ ?_⟩
    · by_cases h0 : len = 0
      · exact .inl h0
      · obtain ⟨b, off, rfl, hc⟩ := ints_at h4 (by omega)
        refine .inr ⟨b, off, rfl, ?_, fun i hi => hc i (by omega)⟩
        exact World.block_lt_of_cell? w ⟨b, off + 0, none⟩ (hc 0 (by omega))
    · have : zs.getD i 0 = zs[i] := by simp [List.getD, show i < zs.length by omega]
      rw [this]; exact List.getElem_mem _
section
variable {H : Type} {enc : TypeId × Value → H} {w : World} {base : Nat}
set_option maxRecDepth 100000 in
theorem view_nums {r : Reach} {b0 : Nat} {v : Value} {d : DataW H} {p : List MemPlace} (hv : Value.okWide Tryz.prog w r b0 63 v) (h : DataW.Trod enc Tryz.prog w base (fun _ => true) true 63 v d p) :
    ∃ (a : Option Addr) (len cap : Nat) (f : Nat → Int), v = .slice a len cap ∧ Reads w.heap.size w a len (fun i => .int .i64 (f i)) ∧ (a = none → len = 0 ∧ cap = 0) := by
  obtain ⟨a, len, cap, rfl⟩ := okWide_slice Tryz.underlying63 hv
  obtain ⟨fuel, hf⟩ := h
  rcases open_ints Tryz.underlying63 Tryz.underlying3 (by kernel_rfl) hf with ⟨hcs, _⟩ | ⟨x, l, c, zs, hcs, _, hl, hm, hlz, hx, hcell, hwz⟩
  · simp [Value.cells] at hcs
    obtain ⟨rfl, rfl, rfl⟩ := hcs
    exact ⟨none, 0, 0, fun _ => 0, rfl, .inl rfl, fun _ => ⟨rfl, rfl⟩⟩
  · simp [Value.cells] at hcs
    obtain ⟨rfl, rfl, rfl⟩ := hcs
    obtain ⟨r1, _, _, r4⟩ := row_reads (k := .i64) (w := w) (a := some x) (len := len) (cap := cap) (zs := zs) (.inr ⟨x, rfl, hl, hm, by simpa using hlz, hcell, hwz⟩)
    exact ⟨some x, len, cap, _, rfl, r1, fun e => by cases e⟩
end
end Go.Proofs.YtkncfeijlmomaaaGreatDoor

namespace Go.Proofs.YtkncfeijlmomaaaGreatDoor
open Go.RowKit Go.Sort
set_option linter.unusedSimpArgs false
set_option linter.unusedVariables false
set_option maxRecDepth 20000

end Go.Proofs.YtkncfeijlmomaaaGreatDoor

namespace Go.Proofs.YtkncfeijlmomaaaGreatDoor
open Go.RowKit Go.Sort
set_option linter.unusedSimpArgs false
set_option linter.unusedVariables false
set_option maxRecDepth 20000

end Go.Proofs.YtkncfeijlmomaaaGreatDoor
