/-
  Merged: Vw, Dl.
-/
import Derived.Test.YtjhlombbkodpaaaDoorG18
import Derived.Test.YtjhlombbkodpaaaDoorG16
import Derived.Test.YtjhlombbkodpaaaDoorPg
import Derived.Test.YtjhlombbkodpaaaDoorG9
import Derived.Test.YtjhlombbkodpaaaDoorRows
import Derived.Lib.LaidU8
import Derived.LaidLaws
import Derived.Handed
import Derived.Deep.Slices
import Derived.Deep.Fields
import Derived.Deep.Matrix
import Derived.ChangeSame
import Derived.OpenShut
import Derived.ProofKit
import Derived.Deep.DeepLaidRun
import Derived.Test.YtjhlombbkodpaaaDoorG10

namespace Go.Proofs.YtjhlombbkodpaaaDoor
open Go.RowKit Go.ChangeShapes Go.WideShapes
set_option linter.unusedSimpArgs false
set_option linter.unusedVariables false
set_option maxRecDepth 20000

section
variable {H : Type} {enc : TypeId × Value → H} {w : World} {base : Nat}
theorem one_int {sp : Nat → Bool} {held : Bool} {fuel : Nat} {t : TypeId} {cs : List Value} {x : DataW H × List MemPlace} {o : Nat} (ht : Tryd.prog.underlying t = some (.int .i64)) (hc : Tryd.prog.cellsOf t = 1)
    (h : DataW.trod enc Tryd.prog w base sp held fuel t ((cs.drop o).take (Tryd.prog.cellsOf t)) = some x) : ∃ z, cs[o]? = some (.int .i64 z) ∧ (Lit.int .i64 z).wf = true := by
  obtain ⟨z, hz, _, hw⟩ := DataW.trod_int ht h
  rw [hc] at hz
  refine ⟨z, ?_, hw⟩
  have := congrArg (·[0]?) hz
  simpa [List.getElem?_take, List.getElem?_drop] using this
theorem piece_ints {sp : Nat → Bool} {held : Bool} {fuel : Nat} {cs : List Value} {x : DataW H × List MemPlace} (h : DataW.trod enc Tryd.prog w base sp held fuel 25 cs = some x) :
    (∃ z, cs[0]? = some (.int .i64 z) ∧ (Lit.int .i64 z).wf = true) ∧ ∃ z, cs[1]? = some (.int .i64 z) ∧ (Lit.int .i64 z).wf = true := by
  obtain ⟨xs, n, _, rfl, hl, hlen, hf⟩ := DataW.trod_struct Tryd.underlying25 h
  match xs, hlen with
  | [y0, y1], _ =>
    exact ⟨one_int Tryd.underlying22 (by kernel_rfl) (hf 0 _ rfl), one_int Tryd.underlying23 (by kernel_rfl) (hf 1 _ rfl)⟩
set_option maxRecDepth 100000 in
theorem view_piece {r : Reach} {b0 : Nat} {v : Value} {d : DataW H} {p : List MemPlace} (hv : Value.okWide Tryd.prog w r b0 25 v) (h : DataW.Trod enc Tryd.prog w base (fun _ => true) true 25 v d p) : ∃ k d, v = .agg #[.int .i64 k, .int .i64 d] := by
  have hu := Tryd.underlying25
  simp only [Value.okWide, hu] at hv
  obtain ⟨cs, rfl, hs, _⟩ := hv
  rw [show Tryd.prog.cellsOf 25 = 2 by kernel_rfl] at hs
  obtain ⟨fuel, hf⟩ := h
  obtain ⟨⟨k, hk, _⟩, ⟨d, hd, _⟩⟩ := piece_ints hf
  refine ⟨k, d, ?_⟩
  congr 1
  apply Array.ext
  · simp [hs]
  · intro i h1 h2
    simp [Value.cells] at hk hd
    rcases (show i = 0 ∨ i = 1 by omega) with rfl | rfl
    · rw [Array.getElem?_eq_getElem h1] at hk; simpa using hk
    · rw [Array.getElem?_eq_getElem h1] at hd; simpa using hd
set_option maxRecDepth 100000 in
theorem view_pos {r : Reach} {b0 : Nat} {v : Value} {d : DataW H} {p : List MemPlace} (hv : Value.okWide Tryd.prog w r b0 29 v) (h : DataW.Trod enc Tryd.prog w base (fun _ => true) true 29 v d p) : ∃ P, v = .agg (pc P).toArray := by
  have hu := Tryd.underlying29
  simp only [Value.okWide, hu] at hv
  obtain ⟨cs, rfl, hs, _⟩ := hv
  rw [show Tryd.prog.cellsOf 29 = 133 by kernel_rfl] at hs
  obtain ⟨fuel, hf⟩ := h
  obtain ⟨xs, n, _, _, hl, hlen, hfs⟩ := DataW.trod_struct hu hf
  have key : ∀ i, i < 133 → ∃ z, cs.toList[i]? = some (.int .i64 z) := fun i hi => by
    simp only [Value.cells] at hfs
    match xs, hlen with
    | [y0, y1, y2, y3, y4, y5], _ =>
      by_cases h128 : i < 128
      · have hf0 : DataW.trod enc Tryd.prog w base (fun _ => true) true n 26 ((cs.toList.drop 0).take (Tryd.prog.cellsOf 26)) = some y0 := hfs 0 _ rfl
        obtain ⟨ys, m, _, _, _, hyl, hat⟩ := DataW.trod_array Tryd.underlying26 hf0
        have h1 := hat (i / 2) (by omega)
        have hx : ys[i / 2]? = some (ys[i / 2]'(by omega)) := List.getElem?_eq_getElem (by omega)
        obtain ⟨⟨a, ha, _⟩, ⟨b, hb, _⟩⟩ := piece_ints (h1.trans hx)
        rw [show Tryd.prog.cellsOf 25 = 2 by kernel_rfl, show Tryd.prog.cellsOf 26 = 128 by kernel_rfl] at ha hb
        simp only [List.getElem?_take, List.getElem?_drop, Nat.zero_add, Nat.add_zero, List.drop_zero] at ha hb
        rcases (show i = i / 2 * 2 ∨ i = i / 2 * 2 + 1 by omega) with e | e
        · refine ⟨a, ?_⟩
          rw [e]
          have hlt : i / 2 * 2 < 128 := by omega
          simpa [hlt] using ha
        · refine ⟨b, ?_⟩
          rw [e]
          have hlt : i / 2 * 2 + 1 < 128 := by omega
          simpa [hlt] using hb
      · rcases (show i = 128 ∨ i = 129 ∨ i = 130 ∨ i = 131 ∨ i = 132 by omega) with rfl | rfl | rfl | rfl | rfl
        · obtain ⟨z, hz, _⟩ := one_int Tryd.underlying23 (by kernel_rfl) (hfs 1 _ rfl); exact ⟨z, hz⟩
        · obtain ⟨z, hz, _⟩ := one_int Tryd.underlying27 (by kernel_rfl) (hfs 2 _ rfl); exact ⟨z, hz⟩
        · obtain ⟨z, hz, _⟩ := one_int Tryd.underlying3 (by kernel_rfl) (hfs 3 _ rfl); exact ⟨z, hz⟩
        · obtain ⟨z, hz, _⟩ := one_int Tryd.underlying3 (by kernel_rfl) (hfs 4 _ rfl); exact ⟨z, hz⟩
        · obtain ⟨z, hz, _⟩ := one_int Tryd.underlying3 (by kernel_rfl) (hfs 5 _ rfl); exact ⟨z, hz⟩
  obtain ⟨Z, hZ⟩ := Go.Deep.choose_lt key
  refine ⟨Z, ?_⟩
  congr 1
  apply Array.ext_getElem?
  intro i
  by_cases hi : i < 133
  · have e : cs[i]? = some (.int .i64 (Z i)) := by rw [← Array.getElem?_toList]; exact hZ i hi
    rw [e, List.getElem?_toArray, pc_get _ _ hi]
  · rw [Array.getElem?_eq_none (by omega), Array.getElem?_eq_none (by rw [pc_size]; omega)]
theorem move_ints {sp : Nat → Bool} {held : Bool} {fuel : Nat} {cs : List Value} {x : DataW H × List MemPlace} (h : DataW.trod enc Tryd.prog w base sp held fuel 31 cs = some x) :
    (∃ z, cs[0]? = some (.int .i64 z) ∧ (Lit.int .i64 z).wf = true) ∧ (∃ z, cs[1]? = some (.int .i64 z) ∧ (Lit.int .i64 z).wf = true) ∧ ∃ z, cs[2]? = some (.int .i64 z) ∧ (Lit.int .i64 z).wf = true := by
  obtain ⟨xs, n, _, rfl, hl, hlen, hf⟩ := DataW.trod_struct Tryd.underlying31 h
  match xs, hlen with
  | [y0, y1, y2], _ =>
    exact ⟨one_int Tryd.underlying3 (by kernel_rfl) (hf 0 _ rfl), one_int Tryd.underlying3 (by kernel_rfl) (hf 1 _ rfl), one_int Tryd.underlying22 (by kernel_rfl) (hf 2 _ rfl)⟩
set_option maxRecDepth 100000 in
theorem view_moves {r : Reach} {b0 : Nat} {v : Value} {d : DataW H} {p : List MemPlace} (hv : Value.okWide Tryd.prog w r b0 33 v) (h : DataW.Trod enc Tryd.prog w base (fun _ => true) true 33 v d p) :
    ∃ (a : Option Addr) (len cap : Nat) (F T G : Nat → Int), v = .slice a len cap ∧ len ≤ maxLen ∧ Reads3 w.heap.size w a len F T G := by
  obtain ⟨a, len, cap, rfl⟩ := okWide_slice Tryd.underlying33 hv
  obtain ⟨fuel, hf⟩ := h
  rcases Go.Deep.open_slice Tryd.underlying33 hf with ⟨hcs, _⟩ | ⟨x, l, c, m, n', D, Pl, hcs, hb, hl, hm, hmm, hx, hat⟩
  · simp [Value.cells] at hcs
    obtain ⟨rfl, rfl, rfl⟩ := hcs
    exact ⟨none, 0, 0, fun _ => 0, fun _ => 0, fun _ => 0, rfl, by unfold maxLen; omega, .inl rfl⟩
  · simp [Value.cells] at hcs
    obtain ⟨rfl, rfl, rfl⟩ := hcs
    simp only [if_true] at hmm
    have hc3 : Tryd.prog.cellsOf 31 = 3 := by kernel_rfl
    have key : ∀ i, i < len → ∃ z : Int × Int × Int, w.cell? (x.add (i * 3)) = some (.int .i64 z.1) ∧ w.cell? (x.add (i * 3 + 1)) = some (.int .i64 z.2.1) ∧ w.cell? (x.add (i * 3 + 2)) = some (.int .i64 z.2.2) := fun i hi => by
      obtain ⟨cs', hc, ht⟩ := hat i (by omega)
      rw [hc3] at hc
      obtain ⟨_, hcl, hce⟩ := World.cells?_some hc
      obtain ⟨⟨z0, e0, _⟩, ⟨z1, e1, _⟩, ⟨z2, e2, _⟩⟩ := move_ints ht
      refine ⟨(z0, z1, z2), ?_, ?_, ?_⟩
      · have := hce 0 (by omega)
        rw [Go.Deep.add_add] at this
        rw [← e0]; simpa using this
      · have := hce 1 (by omega)
        rw [Go.Deep.add_add] at this
        rw [← e1]; simpa using this
      · have := hce 2 (by omega)
        rw [Go.Deep.add_add] at this
        rw [← e2]; simpa using this
    obtain ⟨Z, hZ⟩ := Go.Deep.choose_lt key
    refine ⟨some x, len, cap, fun i => (Z i).1, fun i => (Z i).2.1, fun i => (Z i).2.2, rfl, by omega, ?_⟩
    by_cases h0 : len = 0
    · exact .inl h0
    · obtain ⟨b, off, spot⟩ := x
      have hspot : spot = none := by simpa [Addr.add] using World.cell?_spot (hZ 0 (by omega)).1
      subst hspot
      refine .inr ⟨b, off, rfl, ?_, fun i hi => ?_⟩
      · have := (hZ 0 (by omega)).1
        exact World.block_lt_of_cell? w ⟨b, off + 0 * 3, none⟩ (by rw [Go.WideShapes.add_plain] at this; exact this)
      · obtain ⟨h1, h2, h3⟩ := hZ i hi
        rw [Go.WideShapes.add_plain] at h1 h2 h3
        exact ⟨h1, by rw [Nat.add_assoc]; exact h2, by rw [Nat.add_assoc]; exact h3⟩
set_option maxRecDepth 100000 in
theorem view_move {r : Reach} {b0 : Nat} {v : Value} {d : DataW H} {p : List MemPlace} (hv : Value.okWide Tryd.prog w r b0 31 v) (h : DataW.Trod enc Tryd.prog w base (fun _ => true) true 31 v d p) : ∃ f t k, v = .agg #[.int .i64 f, .int .i64 t, .int .i64 k] := by
  have hu := Tryd.underlying31
  simp only [Value.okWide, hu] at hv
  obtain ⟨cs, rfl, hs, _⟩ := hv
  rw [show Tryd.prog.cellsOf 31 = 3 by kernel_rfl] at hs
  obtain ⟨fuel, hf⟩ := h
  obtain ⟨⟨k, hk, _⟩, ⟨d, hd, _⟩, ⟨e, he, _⟩⟩ := move_ints hf
  refine ⟨k, d, e, ?_⟩
  congr 1
  apply Array.ext
  · simp [hs]
  · intro i h1 h2
    simp [Value.cells] at hk hd he
    rcases (show i = 0 ∨ i = 1 ∨ i = 2 by omega) with rfl | rfl | rfl
    · rw [Array.getElem?_eq_getElem h1] at hk; simpa using hk
    · rw [Array.getElem?_eq_getElem h1] at hd; simpa using hd
    · rw [Array.getElem?_eq_getElem h1] at he; simpa using he
end

/-! ### what a row lays -/
theorem lit_of {H : Type} {enc : TypeId × Value → H} {w : World} {base : Nat} {sp : Nat → Bool} {held : Bool} {fuel : Nat} {t : TypeId} {cs : List Value} {d : DataW H} {q : List MemPlace} {o : Nat} {n : Int} (ht : Tryd.prog.underlying t = some (.int .i64)) (hc : Tryd.prog.cellsOf t = 1)
    (h : DataW.trod enc Tryd.prog w base sp held fuel t ((cs.drop o).take (Tryd.prog.cellsOf t)) = some (d, q)) (hd : d = .lit (.int .i64 n)) : cs[o]? = some (.int .i64 n) := by
  obtain ⟨z, hz, hx⟩ := DataW.trod_int ht h
  have e1 := (Prod.mk.inj hx.1).1
  rw [hd] at e1
  have e2 : n = z := by simpa using e1
  rw [hc] at hz
  have := congrArg (·[0]?) hz
  rw [e2]
  simpa [List.getElem?_take, List.getElem?_drop] using this
theorem cas_name : Tryd.prog.globalNamed "zugzwang/board.castlings" = some 2 := by kernel_rfl
theorem cas_type : (Tryd.prog.globals[2]?).map (·.type) = some 119 := by kernel_rfl
set_option maxRecDepth 100000 in
theorem cas_data : (Rows.laid_zugzwang_board_castlings : DataW Unit) = .agg ((List.range 4).map fun i => .agg [.lit (.int .i64 (casN (i * 4))), .lit (.int .i64 (casN (i * 4 + 1))), .lit (.int .i64 (casN (i * 4 + 2))), .lit (.int .i64 (casN (i * 4 + 3)))]) := by kernel_rfl
theorem cas_of_laid {W : World} {L : List (String × DataW Unit)} (h : laidMet Tryd.prog L W) (hm : ("zugzwang/board.castlings", Rows.laid_zugzwang_board_castlings) ∈ L) : ∀ i, i < 16 → W.cell? ⟨2, i, none⟩ = some (.int .i64 (casN i)) := by
  obtain ⟨g, t, cs, fuel, p, hg, ht, hvar, hd⟩ := Lib.laidMet.reads h hm
  obtain rfl := Option.some.inj (cas_name.symm.trans hg)
  obtain rfl := Option.some.inj (cas_type.symm.trans ht)
  rw [cas_data] at hd
  intro i hi
  obtain ⟨fuel', d, q, h1, h2⟩ := Lib.array_elem Tryd.underlying119 hd (i / 4) (by omega)
  rw [List.getElem?_map, List.getElem?_range (by omega)] at h1
  have hdd : d = .agg [.lit (.int .i64 (casN (i / 4 * 4))), .lit (.int .i64 (casN (i / 4 * 4 + 1))), .lit (.int .i64 (casN (i / 4 * 4 + 2))), .lit (.int .i64 (casN (i / 4 * 4 + 3)))] := by simpa using h1.symm
  rw [show Tryd.prog.cellsOf 118 = 4 by kernel_rfl] at h2
  obtain ⟨xs, n, _, hy, hl, hlen, hfs⟩ := DataW.trod_struct Tryd.underlying118 h2
  rw [World.var?_cell hg hvar i]
  match xs, hlen with
  | [y0, y1, y2, y3], _ =>
    have hyy := (Prod.mk.inj hy).1
    rw [hdd] at hyy
    simp only [List.map_cons, List.map_nil, DataW.agg.injEq, List.cons.injEq, and_true] at hyy
    obtain ⟨z0, z1, z2, z3⟩ := hyy
    have f0 := lit_of (o := 0) Tryd.underlying27 (by kernel_rfl) (hfs 0 _ rfl) z0.symm
    have f1 := lit_of (o := 1) Tryd.underlying23 (by kernel_rfl) (hfs 1 _ rfl) z1.symm
    have f2 := lit_of (o := 2) Tryd.underlying3 (by kernel_rfl) (hfs 2 _ rfl) z2.symm
    have f3 := lit_of (o := 3) Tryd.underlying3 (by kernel_rfl) (hfs 3 _ rfl) z3.symm
    simp only [List.getElem?_take, List.getElem?_drop] at f0 f1 f2 f3
    rcases (show i = i / 4 * 4 + 0 ∨ i = i / 4 * 4 + 1 ∨ i = i / 4 * 4 + 2 ∨ i = i / 4 * 4 + 3 by omega) with e | e | e | e
    · rw [e]; simpa using f0
    · rw [e]; simpa using f1
    · rw [e]; simpa using f2
    · rw [e]; simpa using f3
theorem kas_name : Tryd.prog.globalNamed "zugzwang/play.castlings" = some 1 := by kernel_rfl
theorem kas_type : (Tryd.prog.globals[1]?).map (·.type) = some 109 := by kernel_rfl
set_option maxRecDepth 100000 in
theorem kas_data : (Rows.laid_zugzwang_play_castlings : DataW Unit) = .agg ((List.range 4).map fun i => .agg [.lit (.int .i64 (kasN (i * 5))), .lit (.int .i64 (kasN (i * 5 + 1))), .lit (.int .i64 (kasN (i * 5 + 2))), .lit (.int .i64 (kasN (i * 5 + 3))), .lit (.int .i64 (kasN (i * 5 + 4)))]) := by kernel_rfl
theorem kas_of_laid {W : World} {L : List (String × DataW Unit)} (h : laidMet Tryd.prog L W) (hm : ("zugzwang/play.castlings", Rows.laid_zugzwang_play_castlings) ∈ L) : ∀ i, i < 20 → W.cell? ⟨1, i, none⟩ = some (.int .i64 (kasN i)) := by
  obtain ⟨g, t, cs, fuel, p, hg, ht, hvar, hd⟩ := Lib.laidMet.reads h hm
  obtain rfl := Option.some.inj (kas_name.symm.trans hg)
  obtain rfl := Option.some.inj (kas_type.symm.trans ht)
  rw [kas_data] at hd
  intro i hi
  obtain ⟨fuel', d, q, h1, h2⟩ := Lib.array_elem Tryd.underlying109 hd (i / 5) (by omega)
  rw [List.getElem?_map, List.getElem?_range (by omega)] at h1
  have hdd : d = .agg [.lit (.int .i64 (kasN (i / 5 * 5))), .lit (.int .i64 (kasN (i / 5 * 5 + 1))), .lit (.int .i64 (kasN (i / 5 * 5 + 2))), .lit (.int .i64 (kasN (i / 5 * 5 + 3))), .lit (.int .i64 (kasN (i / 5 * 5 + 4)))] := by simpa using h1.symm
  rw [show Tryd.prog.cellsOf 83 = 5 by kernel_rfl] at h2
  obtain ⟨xs, n, _, hy, hl, hlen, hfs⟩ := DataW.trod_struct Tryd.underlying83 h2
  rw [World.var?_cell hg hvar i]
  match xs, hlen with
  | [y0, y1, y2, y3, y4], _ =>
    have hyy := (Prod.mk.inj hy).1
    rw [hdd] at hyy
    simp only [List.map_cons, List.map_nil, DataW.agg.injEq, List.cons.injEq, and_true] at hyy
    obtain ⟨z0, z1, z2, z3, z4⟩ := hyy
    have f0 := lit_of (o := 0) Tryd.underlying27 (by kernel_rfl) (hfs 0 _ rfl) z0.symm
    have f1 := lit_of (o := 1) Tryd.underlying23 (by kernel_rfl) (hfs 1 _ rfl) z1.symm
    have f2 := lit_of (o := 2) Tryd.underlying3 (by kernel_rfl) (hfs 2 _ rfl) z2.symm
    have f3 := lit_of (o := 3) Tryd.underlying3 (by kernel_rfl) (hfs 3 _ rfl) z3.symm
    have f4 := lit_of (o := 4) Tryd.underlying3 (by kernel_rfl) (hfs 4 _ rfl) z4.symm
    simp only [List.getElem?_take, List.getElem?_drop] at f0 f1 f2 f3 f4
    rcases (show i = i / 5 * 5 + 0 ∨ i = i / 5 * 5 + 1 ∨ i = i / 5 * 5 + 2 ∨ i = i / 5 * 5 + 3 ∨ i = i / 5 * 5 + 4 by omega) with e | e | e | e | e
    · rw [e]; simpa using f0
    · rw [e]; simpa using f1
    · rw [e]; simpa using f2
    · rw [e]; simpa using f3
    · rw [e]; simpa using f4
theorem st_name : Tryd.prog.globalNamed "zugzwang/attack.steps" = some 0 := by kernel_rfl
theorem st_type : (Tryd.prog.globals[0]?).map (·.type) = some 95 := by kernel_rfl
set_option maxRecDepth 100000 in
theorem st_data : (Rows.laid_zugzwang_attack_steps : DataW Unit) = .agg ((List.range 16).map fun i => .agg [.lit (.int .i64 (stN (i * 2))), .lit (.int .i64 (stN (i * 2 + 1)))]) := by kernel_rfl
theorem st_of_laid {W : World} {L : List (String × DataW Unit)} (h : laidMet Tryd.prog L W) (hm : ("zugzwang/attack.steps", Rows.laid_zugzwang_attack_steps) ∈ L) : ∀ i, i < 32 → W.cell? ⟨0, i, none⟩ = some (.int .i64 (stN i)) := by
  obtain ⟨g, t, cs, fuel, p, hg, ht, hvar, hd⟩ := Lib.laidMet.reads h hm
  obtain rfl := Option.some.inj (st_name.symm.trans hg)
  obtain rfl := Option.some.inj (st_type.symm.trans ht)
  rw [st_data] at hd
  intro i hi
  obtain ⟨fuel', d, q, h1, h2⟩ := Lib.array_elem Tryd.underlying95 hd (i / 2) (by omega)
  rw [List.getElem?_map, List.getElem?_range (by omega)] at h1
  have hdd : d = .agg [.lit (.int .i64 (stN (i / 2 * 2))), .lit (.int .i64 (stN (i / 2 * 2 + 1)))] := by simpa using h1.symm
  rw [show Tryd.prog.cellsOf 94 = 2 by kernel_rfl] at h2
  obtain ⟨xs, n, _, hy, hl, hlen, hfs⟩ := DataW.trod_struct Tryd.underlying94 h2
  rw [World.var?_cell hg hvar i]
  match xs, hlen with
  | [y0, y1], _ =>
    have hyy := (Prod.mk.inj hy).1
    rw [hdd] at hyy
    simp only [List.map_cons, List.map_nil, DataW.agg.injEq, List.cons.injEq, and_true] at hyy
    obtain ⟨z0, z1⟩ := hyy
    have f0 := lit_of (o := 0) Tryd.underlying3 (by kernel_rfl) (hfs 0 _ rfl) z0.symm
    have f1 := lit_of (o := 1) Tryd.underlying3 (by kernel_rfl) (hfs 1 _ rfl) z1.symm
    simp only [List.getElem?_take, List.getElem?_drop] at f0 f1
    rcases (show i = i / 2 * 2 + 0 ∨ i = i / 2 * 2 + 1 by omega) with e | e
    · rw [e]; simpa using f0
    · rw [e]; simpa using f1
end Go.Proofs.YtjhlombbkodpaaaDoor

namespace Go.Proofs.YtjhlombbkodpaaaDoor
open Go.RowKit Go.Sort
set_option linter.unusedSimpArgs false
set_option linter.unusedVariables false
set_option maxRecDepth 20000

theorem kinds6 (k : Int) (h0 : 1 ≤ k) (h1 : k ≤ 6) : k = 1 ∨ k = 2 ∨ k = 6 ∨ k = 4 ∨ k = 3 ∨ k = 5 := by omega
set_option maxHeartbeats 8000000 in
set_option maxRecDepth 100000 in
theorem rAtt_any (P : Nat → Int) (a b : Nat) (ha : a < 64) (hb : b < 64) (w : World) :
    Calls Tryd.prog 44 #[.agg (pc P).toArray, .int .i64 (a : Int), .int .i64 (b : Int)] w fun e w' => e = .returned (.bool (attR P a b)) ∧ Below w.heap.size w w' := by
  obtain ⟨X, hX⟩ : ∃ X, X = (pc P).toArray := ⟨_, rfl⟩
  have HOP := Lib.hid (fun hg W => open_any P a b ha hb hg W)
  rw [← hX] at HOP ⊢
  have HX := Lib.hid hX
  have HP := Lib.hid (show PB (w.alloc (.cells X 29)) w.heap.size P by subst hX; exact PB.new rfl)
  have HB := Lib.hid (below_new (w := w) (.cells X 29))
  have hd := D_small a ha b hb
  clear hX
  go_enter Tryd.func44, Tryd.ntmps44
  go_upto_region 1 with (fail)
  generalize w.alloc (.cells X 29) = W0 at *
  have e1 := HP.out.cell (a * 2) (by omega)
  have e2 := HP.out.cell (a * 2 + 1) (by omega)
  have HAT := Lib.hid (show attR P a b = attK P (P (a * 2)) (P (a * 2 + 1)) a b by unfold attR; rw [Nat.mul_comm 2 a])
  generalize P (a * 2) = k at e1 HAT
  generalize P (a * 2 + 1) = d at e2 HAT
  have h0 : (0 : Int) ≤ a := by omega
  have h1 : (a : Int) < 64 := by omega
  have hl : (W0.alloc (.cells #[.int .i64 k, .int .i64 d] 25)).heap[W0.heap.size]? = some (.cells #[.int .i64 k, .int .i64 d] 25 (0, 0)) := sl_at rfl
  have HL := Lib.hid hl
  clear hl
  go_wp2_with fail
  refine (rMay_any k d _).mono ?_
  cases hm : mayB k d
  · have HF := Lib.hid (show attR P a b = false by rw [HAT.out]; unfold attK; rw [hm]; rfl)
    clear hm
    rintro e w2 ⟨rfl, hb2⟩
    have HB2 := Lib.hid ((HB.out.alloc HB.out.size _).trans (hb2.mono (Nat.le_trans HB.out.size (by simp))))
    clear hb2
    go_wp2
    go_ret
    exact ⟨q_b HF.out.symm, HB2.out⟩
  rintro e w2 ⟨rfl, hb2⟩
  have HB2 := Lib.hid ((HB.out.alloc HB.out.size (.cells #[.int .i64 k, .int .i64 d] 25)).trans (hb2.mono (Nat.le_trans HB.out.size (by simp))))
  have HL2 := Lib.hid (sl_go HL.out hb2)
  have HP2 := Lib.hid ((HP.out.alloc (.cells #[.int .i64 k, .int .i64 d] 25)).go hb2)
  obtain ⟨pb, hpb⟩ : ∃ p, W0.heap.size = p := ⟨_, rfl⟩
  rw [hpb] at HL2 ⊢
  have hk6 : 1 ≤ k ∧ k ≤ 6 := by
    rcases may_cases k d with ⟨h, hh⟩ | ⟨h, hh⟩ | ⟨h, h', _⟩
    · rw [hh] at hm; cases hm
    · rw [hh] at hm; cases hm
    · exact ⟨h, h'⟩
  have hsd : d = 0 ∨ d = 1 := by
    rcases may_cases k d with ⟨h, hh⟩ | ⟨h, hh⟩ | ⟨h, h', h3⟩
    · rw [hh] at hm; cases hm
    · rw [hh] at hm; cases hm
    · rw [h3] at hm
      rcases side_cases d with ⟨h, _⟩ | ⟨h, _⟩ | ⟨_, _, h⟩
      · exact .inl h
      · exact .inr h
      · rw [h] at hm; cases hm
  have HM := Lib.hid hm
  have HK6 := Lib.hid hk6
  have HSD := Lib.hid hsd
  clear hm hb2 HL HP HB e1 e2 hk6 hsd hpb
  by_cases hab : a = b
  · have HF := Lib.hid (show attR P a b = false by rw [HAT.out]; unfold attK; subst hab; simp)
    have hne : ((a : Int) == (b : Int)) = true := by simp [hab]
    clear hab
    go_wp2
    go_ret
    exact ⟨q_b HF.out.symm, HB2.out⟩
  have hkb : attR P a b = kindB P k d a b := by rw [HAT.out]; unfold attK; rw [HM.out]; simp [hab]
  unfold kindB at hkb
  have HKB := Lib.hid hkb
  clear hkb
  have HGD := Lib.hid (show good a b = (fD a b == 0 || rD a b == 0 || absI (fD a b) == absI (rD a b)) by unfold good; simp [hab])
  have hne : ((a : Int) == (b : Int)) = false := by simp; omega
  clear hab HAT HM
  go_wp2_with fail
  refine (apart_any a b ha hb _).mono ?_
  rintro e w3 ⟨rfl, rfl⟩
  generalize hf : fD a b = f at *
  generalize hr : rD a b = r at *
  clear hf hr
  go_upto_region 5 with (fail)
  rename_i K5 hK5
  have HK : ∀ (st sl : Bool) (u30 u31 u32 u33 u34 u35 u36 u37 u38 u39 u40 : Value), st = (f == 0 || r == 0) → sl = (absI f == absI r) → K5 { tmps := #[.agg X, .int .i64 a, .int .i64 b, .pointer (some ⟨w.heap.size, 0, none⟩), undef, undef, .bool false, .pointer (some ⟨pb, 0, none⟩), .int .i64 f, .int .i64 r, .bool st, .bool sl, .int .i64 a, .pointer (some ⟨w.heap.size, 0, none⟩), .pointer (some ⟨w.heap.size, a * 2, none⟩), .agg #[.int .i64 k, .int .i64 d], .agg #[.int .i64 k, .int .i64 d], .bool true, .bool false, .bool false, .int .i64 a, .int .i64 b, .bool false, .bool false, .tuple #[.int .i64 f, .int .i64 r], .int .i64 a, .int .i64 b, .tuple #[.int .i64 f, .int .i64 r], .int .i64 f, .int .i64 r, u30, u31, u32, u33, u34, u35, u36, u37, u38, u39, u40, undef, undef, undef, undef, undef, undef, undef, undef, undef, undef, undef, undef, undef, undef, undef, undef, undef, undef, undef, undef, undef, undef, undef, undef, undef, undef, undef, undef, undef, undef, undef, undef, undef, undef, undef, undef, undef, undef, undef, undef, undef, undef, undef, undef, undef, undef, undef, undef, undef, undef, undef, undef, undef, undef, undef, undef, undef, undef, undef, undef, undef, undef, undef, undef, undef, undef, undef, undef, undef, undef, undef], defers := [] } w2 := by
    intro st sl u30 u31 u32 u33 u34 u35 u36 u37 u38 u39 u40 hst hsl
    rw [← hst, ← hsl] at HKB HGD
    have HST := Lib.hid hst
    have HSL := Lib.hid hsl
    refine hK5 _ _ ?_
    clear hK5 hst hsl
    obtain ⟨c0, c1, cf, _⟩ := row2 HL2.out
    have hk6 := HK6.out
    have h2 : 0 ≤ absI f ∧ absI f ≤ 7 := by unfold absI; split <;> omega
    have h3 : 0 ≤ absI r ∧ absI r ≤ 7 := by unfold absI; split <;> omega
    rcases kinds6 k hk6.1 hk6.2 with rfl | rfl | rfl | rfl | rfl | rfl
    · clear hk6 h2 h3 HOP
      have HKB2 := Lib.hid (show attR P a b = (absI f == 1 && (d == 0 && r == 1 || d == 1 && r == -1)) from HKB.out)
      clear HKB
      cases h1f : (absI f == 1)
      · have HF := Lib.hid (show attR P a b = false by rw [HKB2.out, h1f]; rfl)
        clear HKB2
        go_wp2_with fail
        refine (abs_any f (by omega) (by omega) _).mono ?_
        generalize absI f = af at *
        rintro e w4 ⟨rfl, rfl⟩
        go_wp2
        go_ret
        exact ⟨q_b HF.out.symm, HB2.out⟩
      · rcases HSD.out with rfl | rfl
        · cases hr1 : (r == 1)
          · have HF := Lib.hid (show attR P a b = false by rw [HKB2.out, h1f, hr1]; rfl)
            clear HKB2
            go_wp2_with fail
            refine (abs_any f (by omega) (by omega) _).mono ?_
            generalize absI f = af at *
            rintro e w4 ⟨rfl, rfl⟩
            go_wp2
            go_ret
            exact ⟨q_b HF.out.symm, HB2.out⟩
          · have HF := Lib.hid (show attR P a b = true by rw [HKB2.out, h1f, hr1]; rfl)
            clear HKB2
            go_wp2_with fail
            refine (abs_any f (by omega) (by omega) _).mono ?_
            generalize absI f = af at *
            rintro e w4 ⟨rfl, rfl⟩
            go_wp2
            go_ret
            exact ⟨q_b HF.out.symm, HB2.out⟩
        · have HF := Lib.hid (show attR P a b = (r == -1) by rw [HKB2.out, h1f]; rfl)
          clear HKB2
          go_wp2_with fail
          refine (abs_any f (by omega) (by omega) _).mono ?_
          generalize absI f = af at *
          rintro e w4 ⟨rfl, rfl⟩
          go_wp2
          go_ret
          exact ⟨q_b HF.out.symm, HB2.out⟩
    · have HF := Lib.hid (show attR P a b = (absI f * absI r == 2) from HKB.out)
      have p0 := Int.mul_nonneg h2.1 h3.1
      have p1 : absI f * absI r ≤ 7 * 7 := Int.mul_le_mul h2.2 h3.2 h3.1 (by omega)
      clear HKB HOP hk6 h2 h3
      go_wp2_with fail
      refine (abs_any f (by omega) (by omega) _).mono ?_
      rintro e w4 ⟨rfl, rfl⟩
      go_wp2_with fail
      refine (abs_any r (by omega) (by omega) _).mono ?_
      generalize absI f = af at *
      generalize absI r = ar at *
      rintro e w4 ⟨rfl, rfl⟩
      obtain ⟨pp, hpp⟩ : ∃ p, af * ar = p := ⟨_, rfl⟩
      rw [hpp] at p0 p1 HF
      have p2 : wrap64 pp = pp := by unfold wrap64; omega
      go_wp2
      go_ret
      exact ⟨q_b HF.out.symm, HB2.out⟩
    · have HF := Lib.hid (show attR P a b = (decide (absI f ≤ 1) && decide (absI r ≤ 1)) from HKB.out)
      clear HKB HOP hk6
      by_cases h1f : absI f ≤ 1
      · have HF2 := Lib.hid (show attR P a b = decide (absI r ≤ 1) by rw [HF.out, decide_eq_true h1f, Bool.true_and])
        clear HF
        go_wp2_with fail
        refine (abs_any f (by omega) (by omega) _).mono ?_
        generalize absI f = af at *
        rintro e w4 ⟨rfl, rfl⟩
        go_wp2_with fail
        refine (abs_any r (by omega) (by omega) _).mono ?_
        generalize absI r = ar at *
        rintro e w4 ⟨rfl, rfl⟩
        go_wp2
        go_ret
        exact ⟨q_b HF2.out.symm, HB2.out⟩
      · have HF2 := Lib.hid (show attR P a b = false by rw [HF.out, decide_eq_false h1f, Bool.false_and])
        clear HF
        go_wp2_with fail
        refine (abs_any f (by omega) (by omega) _).mono ?_
        generalize absI f = af at *
        rintro e w4 ⟨rfl, rfl⟩
        go_wp2
        go_ret
        exact ⟨q_b HF2.out.symm, HB2.out⟩
    · have HF := Lib.hid (show attR P a b = (st && openB P a b) from HKB.out)
      clear HKB hk6 h2 h3
      cases st
      · have HF2 := Lib.hid (show attR P a b = false by rw [HF.out, Bool.false_and])
        clear HF HOP
        go_wp2
        go_ret
        exact ⟨q_b HF2.out.symm, HB2.out⟩
      · have HF2 := Lib.hid (show attR P a b = openB P a b by rw [HF.out, Bool.true_and])
        have HO := Lib.hid (HOP.out (by rw [HGD.out, Bool.true_or]))
        clear HF HOP
        go_wp2_with fail
        refine wp_load_mid 29 (.tmp 3) rfl _ 0 rfl (pc P) _ HP2.out.range Tryd.underlying29 rfl (by rw [infoPos, pc_len]) ?_
        rw [← HX.out]
        go_wp2_with fail
        refine (HO.out _).mono ?_
        rintro e w4 ⟨rfl, hb4⟩
        have HB4 := Lib.hid (HB2.out.trans (hb4.mono HB2.out.size))
        clear hb4
        go_wp2
        go_ret
        exact ⟨q_b HF2.out.symm, HB4.out⟩
    · have HF := Lib.hid (show attR P a b = (sl && openB P a b) from HKB.out)
      clear HKB hk6 h2 h3
      cases sl
      · have HF2 := Lib.hid (show attR P a b = false by rw [HF.out, Bool.false_and])
        clear HF HOP
        go_wp2
        go_ret
        exact ⟨q_b HF2.out.symm, HB2.out⟩
      · have HF2 := Lib.hid (show attR P a b = openB P a b by rw [HF.out, Bool.true_and])
        have HO := Lib.hid (HOP.out (by rw [HGD.out, Bool.or_true]))
        clear HF HOP
        go_wp2_with fail
        refine wp_load_mid 29 (.tmp 3) rfl _ 0 rfl (pc P) _ HP2.out.range Tryd.underlying29 rfl (by rw [infoPos, pc_len]) ?_
        rw [← HX.out]
        go_wp2_with fail
        refine (HO.out _).mono ?_
        rintro e w4 ⟨rfl, hb4⟩
        have HB4 := Lib.hid (HB2.out.trans (hb4.mono HB2.out.size))
        clear hb4
        go_wp2
        go_ret
        exact ⟨q_b HF2.out.symm, HB4.out⟩
    · have HF := Lib.hid (show attR P a b = ((st || sl) && openB P a b) from HKB.out)
      clear HKB hk6 h2 h3
      cases st
      · cases sl
        · have HF2 := Lib.hid (show attR P a b = false by rw [HF.out]; rfl)
          clear HF HOP
          go_wp2
          go_ret
          exact ⟨q_b HF2.out.symm, HB2.out⟩
        · have HF2 := Lib.hid (show attR P a b = openB P a b by rw [HF.out]; simp)
          have HO := Lib.hid (HOP.out (by rw [HGD.out, Bool.or_true]))
          clear HF HOP
          go_wp2_with fail
          refine wp_load_mid 29 (.tmp 3) rfl _ 0 rfl (pc P) _ HP2.out.range Tryd.underlying29 rfl (by rw [infoPos, pc_len]) ?_
          rw [← HX.out]
          go_wp2_with fail
          refine (HO.out _).mono ?_
          rintro e w4 ⟨rfl, hb4⟩
          have HB4 := Lib.hid (HB2.out.trans (hb4.mono HB2.out.size))
          clear hb4
          go_wp2
          go_ret
          exact ⟨q_b HF2.out.symm, HB4.out⟩
      · have HF2 := Lib.hid (show attR P a b = openB P a b by rw [HF.out]; simp)
        have HO := Lib.hid (HOP.out (by rw [HGD.out, Bool.true_or]))
        clear HF HOP
        go_wp2_with fail
        refine wp_load_mid 29 (.tmp 3) rfl _ 0 rfl (pc P) _ HP2.out.range Tryd.underlying29 rfl (by rw [infoPos, pc_len]) ?_
        rw [← HX.out]
        go_wp2_with fail
        refine (HO.out _).mono ?_
        rintro e w4 ⟨rfl, hb4⟩
        have HB4 := Lib.hid (HB2.out.trans (hb4.mono HB2.out.size))
        clear hb4
        go_wp2
        go_ret
        exact ⟨q_b HF2.out.symm, HB4.out⟩
  clear hK5 HKB HGD HOP HP2 HL2 HB2 HX
  have HK2 := Lib.hid HK
  clear HK
  cases hf0 : (f == 0)
  · cases hr0 : (r == 0)
    · go_wp2_with fail
      refine (abs_any f (by omega) (by omega) _).mono ?_
      rintro e w4 ⟨rfl, rfl⟩
      go_wp2_with fail
      refine (abs_any r (by omega) (by omega) _).mono ?_
      rintro e w4 ⟨rfl, rfl⟩
      go_wp2
      exact HK2.out _ _ _ _ _ _ _ _ _ _ _ _ _ (by rw [hf0, hr0]; rfl) rfl
    · go_wp2_with fail
      refine (abs_any f (by omega) (by omega) _).mono ?_
      rintro e w4 ⟨rfl, rfl⟩
      go_wp2_with fail
      refine (abs_any r (by omega) (by omega) _).mono ?_
      rintro e w4 ⟨rfl, rfl⟩
      go_wp2
      exact HK2.out _ _ _ _ _ _ _ _ _ _ _ _ _ (by rw [hf0, hr0]; rfl) rfl
  · go_wp2_with fail
    refine (abs_any f (by omega) (by omega) _).mono ?_
    rintro e w4 ⟨rfl, rfl⟩
    go_wp2_with fail
    refine (abs_any r (by omega) (by omega) _).mono ?_
    rintro e w4 ⟨rfl, rfl⟩
    go_wp2
    exact HK2.out _ _ _ _ _ _ _ _ _ _ _ _ _ (by rw [hf0]; rfl) rfl
end Go.Proofs.YtjhlombbkodpaaaDoor
