/-
  Merged: ViewAsk, TReal.
-/
import Derived.Test.YtjflaeohkhmkaaaDoorG3
import Derived.Test.YtjflaeohkhmkaaaDoorG6
import Derived.Lib.SmallJoins
import Derived.Deep.Slices
import Derived.Deep.Fields
import Derived.Deep.Cut
import Derived.Deep.CutRange

namespace Go.Proofs.YtjflaeohkhmkaaaDoor
open Go.RowKit Go.ChangeShapes Go.WideShapes
set_option linter.unusedVariables false
set_option linter.unusedSimpArgs false

section
variable {H : Type} {enc : TypeId × Value → H} {w : World} {base : Nat}
theorem cell_form {P : Program} {t e : TypeId} {fuel : Nat} {v : Value} {x : DataW H × List MemPlace} {sp : Nat → Bool} {held : Bool} (ht : P.underlying t = some (.slice e)) (h : DataW.trod enc P w base sp held fuel t [v] = some x) : ∃ a len cap, v = .slice a len cap := by
  rcases Go.Deep.open_slice ht h with ⟨hc, _⟩ | ⟨a, len, cap, m, n, D, Pl, hc, _⟩
  · exact ⟨_, _, _, (List.cons.inj hc).1⟩
  · exact ⟨_, _, _, (List.cons.inj hc).1⟩
set_option maxRecDepth 100000 in
/-- a slice of bytes in a cell -/
theorem cell_bytes {v : Value} {d : DataW H} {p : List MemPlace} (hv : ∃ a len cap, v = .slice a len cap) (h : DataW.Trod enc Tryd.prog w base (fun _ => true) true 23 v d p) (hz : ∀ x ∈ d.weights Tryd.prog 23, x ≤ reachBytes) :
    ∃ (a : Option Addr) (len cap : Nat) (f : Nat → BitVec 8), v = .slice a len cap ∧ len ≤ cap ∧ cap ≤ 140737488351232 ∧ Reads w.heap.size w a len (fun i => .int .u8 (ub (f i))) ∧ (a = none → cap = 0) := by
  obtain ⟨a, len, cap, rfl⟩ := hv
  obtain ⟨fuel, hf⟩ := h
  rcases open_ints Tryd.underlying23 Tryd.underlying5 (by kernel_rfl) hf with ⟨hcs, _⟩ | ⟨x, l, c, zs, hcs, _, hl, hm, hlz, hx, hcell, hwz⟩
  · simp [Value.cells] at hcs
    obtain ⟨rfl, rfl, rfl⟩ := hcs
    exact ⟨none, 0, 0, fun _ => 0#8, rfl, Nat.le_refl _, by omega, .inl rfl, fun _ => rfl⟩
  · simp [Value.cells] at hcs
    obtain ⟨rfl, rfl, rfl⟩ := hcs
    obtain ⟨r1, _, _, r4⟩ := row_reads (k := .u8) (w := w) (a := some x) (len := len) (cap := cap) (zs := zs) (.inr ⟨x, rfl, hl, hm, by simpa using hlz, hcell, hwz⟩)
    obtain ⟨f, _, hr⟩ := row_bytes r1 r4
    simp only [if_true] at hlz
    have hd := (Prod.mk.inj hx).1
    rw [hd] at hz
    have hs := (slice_small Tryd.underlying23 hz).1
    rw [show Tryd.prog.bytesOf 5 = 1 by kernel_rfl] at hs
    simp only [lits, List.length_map, List.length_take, List.length_drop, reachBytes] at hs
    exact ⟨some x, len, cap, f, rfl, hl, by omega, hr, (fun e => by cases e)⟩
set_option maxRecDepth 100000 in
/-- rows of bytes in a cell -/
theorem cell_rows {v : Value} {d : DataW H} {p : List MemPlace} (hv : ∃ a len cap, v = .slice a len cap) (h : DataW.Trod enc Tryd.prog w base (fun _ => true) true 24 v d p) (hz : ∀ x ∈ d.weights Tryd.prog 24, x ≤ reachBytes) :
    ∃ (a : Option Addr) (len cap : Nat) (P : Nat → Option Addr) (L C : Nat → Nat) (f : Nat → Nat → BitVec 8), v = .slice a len cap ∧ len ≤ cap ∧ cap ≤ 5864062014634 ∧ RI w a len P L C f ∧ (a = none → cap = 0) ∧ (∀ i, i < len → P i = none → C i = 0) ∧ ∀ i, i < len → C i ≤ 140737488351232 := by
  obtain ⟨a, len, cap, rfl⟩ := hv
  obtain ⟨fuel, hf⟩ := h
  rcases Go.Deep.open_int_rows Tryd.underlying24 Tryd.underlying23 Tryd.underlying5 (by kernel_rfl) (by kernel_rfl) hf with ⟨hcs, _⟩ | ⟨x, l, c, A, L, C, Z, hcs, hb, hl, hm, hx, hrow⟩
  · simp [Value.cells] at hcs
    obtain ⟨rfl, rfl, rfl⟩ := hcs
    exact ⟨none, 0, 0, fun _ => none, fun _ => 0, fun _ => 0, fun _ _ => 0#8, rfl, Nat.le_refl _, by omega, ⟨.inl rfl, fun i hi => by omega, fun i hi => by omega⟩, fun _ => rfl, fun i hi => by omega, fun i hi => by omega⟩
  · simp [Value.cells] at hcs
    obtain ⟨rfl, rfl, rfl⟩ := hcs
    have hd := (Prod.mk.inj hx).1
    rw [hd] at hz
    obtain ⟨hs, hin⟩ := slice_small Tryd.underlying24 hz
    rw [show Tryd.prog.bytesOf 23 = 24 by kernel_rfl] at hs
    simp only [List.length_map, List.length_range, reachBytes] at hs
    have hC : ∀ i, i < len → C i ≤ 140737488351232 := fun i hi => by
      obtain ⟨_, _, _, h3, _, h5, _⟩ := hrow i (by omega)
      cases hA : A i with
      | none => have := h5 hA; omega
      | some a' =>
        have h := hin _ (List.mem_map.2 ⟨i, List.mem_range.2 hi, rfl⟩)
        unfold Go.Deep.intRow at h
        simp only [hA] at h
        have h2 := (slice_small Tryd.underlying23 h).1
        rw [show Tryd.prog.bytesOf 5 = 1 by kernel_rfl] at h2
        simp only [lits, List.length_map, List.length_take, List.length_drop, reachBytes] at h2
        omega
    refine ⟨some x, len, cap, A, L, C, fun i j => BitVec.ofNat 8 ((Z i).getD j 0).toNat, rfl, hl, by omega, ⟨?_, fun i hi => ⟨(hrow i (by omega)).2.1, (hrow i (by omega)).2.2.1⟩, fun i hi => ?_⟩, fun e => (by cases e), fun i hi => (hrow i (by omega)).2.2.2.2.2.1, hC⟩
    · by_cases h0 : len = 0
      · exact .inl h0
      · have hc := fun i hi => (hrow i hi).1
        obtain ⟨b, off, rfl, hc2⟩ := vals_at hc (by omega)
        exact .inr ⟨b, off, rfl, World.block_lt_of_cell? w ⟨b, off + 0, none⟩ (hc2 0 (by omega)), fun i hi => hc2 i (by omega)⟩
    · obtain ⟨_, h1, h2, h3, h4, h5, h6⟩ := hrow i (by omega)
      cases hA : A i with
      | none => exact .inl (by have := h5 hA; omega)
      | some a' =>
        obtain ⟨_, hcell⟩ := h6 a' hA
        obtain ⟨r1, _, _, r4⟩ := row_reads (k := .u8) (w := w) (a := some a') (len := L i) (cap := C i) (zs := Z i) (.inr ⟨a', rfl, h1, h2, h3, fun j hj => hcell j (by omega), h4⟩)
        exact r1.mono' (Nat.le_refl _) fun j hj => by rw [← u8_wf (r4 j hj)]
set_option maxRecDepth 100000 in
theorem weights_ask {y0 y1 y2 y3 : DataW H} (hz : ∀ x ∈ (DataW.agg [y0, y1, y2, y3]).weights Tryd.prog 26, x ≤ reachBytes) : (∀ x ∈ y1.weights Tryd.prog 23, x ≤ reachBytes) ∧ (∀ x ∈ y2.weights Tryd.prog 24, x ≤ reachBytes) := by
  rw [DataW.weights, Tryd.underlying26] at hz
  simp only [List.map_cons, List.map_nil, DataW.weightsEach, List.append_nil, List.mem_append] at hz
  exact ⟨fun x hx => hz x (.inr (.inl hx)), fun x hx => hz x (.inr (.inr (.inl hx)))⟩
set_option maxRecDepth 100000 in
/-- what lies in an ask's cells -/
theorem ask_of {v0 v1 v2 v3 : Value} {y0 y1 y2 y3 : DataW H × List MemPlace} {n : Nat} (h0 : DataW.trod enc Tryd.prog w base (fun _ => true) true n 3 [v0] = some y0) (h1 : DataW.trod enc Tryd.prog w base (fun _ => true) true n 23 [v1] = some y1)
    (h2 : DataW.trod enc Tryd.prog w base (fun _ => true) true n 24 [v2] = some y2) (h3 : DataW.trod enc Tryd.prog w base (fun _ => true) true n 3 [v3] = some y3)
    (hz : ∀ x ∈ (DataW.agg [y0.1, y1.1, y2.1, y3.1]).weights Tryd.prog 26, x ≤ reachBytes) :
    ∃ x : Ask, v0 = .int .i64 x.what ∧ v1 = .slice x.kp x.kn x.kc ∧ v2 = .slice x.p x.m x.c ∧ v3 = .int .i64 x.k ∧ x.fits w.heap.size w ∧ Reads w.heap.size w x.kp x.kn (fun j => .int .u8 (ub (x.key j))) ∧ (x.kp = none → x.kn = 0) ∧ RI w x.p x.m x.P x.ln x.C x.f ∧ x.kn ≤ x.kc ∧ x.kc ≤ maxLen ∧ x.m ≤ x.c ∧ x.c ≤ maxLen ∧ (Lit.int .i64 x.k).wf = true := by
  obtain ⟨z1, z2⟩ := weights_ask hz
  obtain ⟨a0, e0, _, _⟩ := DataW.trod_int Tryd.underlying3 h0
  obtain ⟨a3, e3, _, w3⟩ := DataW.trod_int Tryd.underlying3 h3
  have f1 := cell_form Tryd.underlying23 h1
  have f2 := cell_form Tryd.underlying24 h2
  have k1 : v1.cells.toList = [v1] := by obtain ⟨_, _, _, rfl⟩ := f1; rfl
  have k2 : v2.cells.toList = [v2] := by obtain ⟨_, _, _, rfl⟩ := f2; rfl
  obtain ⟨kp, kn, kc, key, rfl, hc1, hm1, hr1, hn1⟩ := cell_bytes f1 ⟨n, by rw [k1]; exact h1⟩ z1
  obtain ⟨p, m, c, P, L, C, f, rfl, hc2, hm2, hr2, hn2, ho2, hq2⟩ := cell_rows f2 ⟨n, by rw [k2]; exact h2⟩ z2
  obtain rfl := (List.cons.inj e0).1
  obtain rfl := (List.cons.inj e3).1
  refine ⟨⟨a0, kp, kn, kc, key, p, m, c, P, L, C, f, a3⟩, rfl, rfl, rfl, rfl, ⟨by show kn ≤ _; omega, by show m ≤ _; omega, fun i hi => Nat.le_trans (hr2.cap i hi).1 (hq2 i hi), hr2.rows⟩, hr1, fun e => by show kn = 0; have := hn1 e; omega, hr2, hc1, by unfold maxLen; show kc ≤ _; omega, hc2, by unfold maxLen; show c ≤ _; omega, w3⟩
/-- what is asked lies there, as long as the machine bears -/
structure Ask.there (x : Ask) (w : World) : Prop where
  fits : x.fits w.heap.size w
  key : Reads w.heap.size w x.kp x.kn (fun j => .int .u8 (ub (x.key j)))
  kz : x.kp = none → x.kn = 0
  rows : RI w x.p x.m x.P x.ln x.C x.f
  kc : x.kn ≤ x.kc ∧ x.kc ≤ maxLen
  mc : x.m ≤ x.c ∧ x.c ≤ maxLen
  k : (Lit.int .i64 x.k).wf = true
set_option maxRecDepth 100000 in
/-- an ask by value -/
theorem view_ask {r : Reach} {b0 : Nat} {v : Value} {d : DataW H} {p : List MemPlace} (hv : Value.okWide Tryd.prog w r b0 26 v) (h : DataW.Trod enc Tryd.prog w base (fun _ => true) true 26 v d p) (hz : ∀ x ∈ d.weights Tryd.prog 26, x ≤ reachBytes) :
    ∃ x : Ask, v = x.val ∧ x.there w := by
  obtain ⟨v0, v1, v2, v3, y0, y1, y2, y3, n, rfl, rfl, _, h0, h1, h2, h3⟩ := Go.Joins.open_agg4 Tryd.underlying26 (by kernel_rfl) (by kernel_rfl) hv h
  obtain ⟨x, rfl, rfl, rfl, rfl, q1, q2, q3, q4, q5, q6, q7, q8, q9⟩ := ask_of h0 h1 h2 h3 hz
  exact ⟨x, rfl, q1, q2, q3, q4, ⟨q5, q6⟩, ⟨q7, q8⟩, q9⟩
set_option maxRecDepth 100000 in
/-- a row of asks -/
theorem view_asks {r : Reach} {b0 : Nat} {v : Value} {d : DataW H} {p : List MemPlace} (hv : Value.okWide Tryd.prog w r b0 22 v) (h : DataW.Trod enc Tryd.prog w base (fun _ => true) true 22 v d p) (hz : ∀ x ∈ d.weights Tryd.prog 22, x ≤ reachBytes) :
    ∃ (a : Option Addr) (len cap : Nat) (X : Nat → Ask), v = .slice a len cap ∧ len ≤ 5864062014634 ∧ AskRow w.heap.size w a len X ∧ ∀ i, i < len → (X i).there w := by
  obtain ⟨a, len, cap, rfl⟩ := okWide_slice Tryd.underlying22 hv
  obtain ⟨fuel, hf⟩ := h
  rcases Go.Deep.open_slice Tryd.underlying22 hf with ⟨hcs, _⟩ | ⟨x, l, c, m, n', D, Pl, hcs, hb, hl, hm, hmm, hx, hat⟩
  · simp [Value.cells] at hcs
    obtain ⟨rfl, rfl, rfl⟩ := hcs
    exact ⟨none, 0, 0, fun _ => ⟨0, none, 0, 0, fun _ => 0#8, none, 0, 0, fun _ => none, fun _ => 0, fun _ => 0, fun _ _ => 0#8, 0⟩, rfl, by omega, .inl rfl, fun i hi => by omega⟩
  · simp [Value.cells] at hcs
    obtain ⟨rfl, rfl, rfl⟩ := hcs
    simp only [if_true] at hmm
    have hd := (Prod.mk.inj hx).1
    rw [hd] at hz
    obtain ⟨hs, hin⟩ := slice_small Tryd.underlying22 hz
    rw [show Tryd.prog.bytesOf 26 = 64 by kernel_rfl] at hs
    simp only [List.length_map, List.length_range, reachBytes] at hs
    have hc4 : Tryd.prog.cellsOf 26 = 4 := by kernel_rfl
    have key : ∀ i, i < len → ∃ y : Ask, (w.cell? (x.add (i * 4)) = some (.int .i64 y.what) ∧ w.cell? (x.add (i * 4 + 1)) = some (.slice y.kp y.kn y.kc) ∧ w.cell? (x.add (i * 4 + 2)) = some (.slice y.p y.m y.c) ∧ w.cell? (x.add (i * 4 + 3)) = some (.int .i64 y.k)) ∧ y.there w := fun i hi => by
      obtain ⟨cs', hc, ht⟩ := hat i (by omega)
      rw [hc4] at hc
      obtain ⟨_, hcl, hce⟩ := World.cells?_some hc
      have hw := hin (D i) (List.mem_map.2 ⟨i, List.mem_range.2 hi, rfl⟩)
      match cs', hcl with
      | [v0, v1, v2, v3], _ =>
        obtain ⟨xs, n2, hn2, hy, hlen, hyl, hf2⟩ := DataW.trod_struct Tryd.underlying26 ht
        match xs, hyl with
        | [y0, y1, y2, y3], _ =>
          have k3 : Tryd.prog.cellsOf 3 = 1 := by kernel_rfl
          have k23 : Tryd.prog.cellsOf 23 = 1 := by kernel_rfl
          have k24 : Tryd.prog.cellsOf 24 = 1 := by kernel_rfl
          have h0 := hf2 0 _ rfl
          have h1 := hf2 1 _ rfl
          have h2 := hf2 2 _ rfl
          have h3 := hf2 3 _ rfl
          have hD : D i = .agg [y0.1, y1.1, y2.1, y3.1] := by have := (Prod.mk.inj hy).1; simpa using this
          rw [hD] at hw
          obtain ⟨y, rfl, rfl, rfl, rfl, q1, q2, q3, q4, q5, q6, q7, q8, q9⟩ := ask_of (n := n2) (y0 := y0) (y1 := y1) (y2 := y2) (y3 := y3) (by simpa [k3, k23, k24] using h0) (by simpa [k3, k23, k24] using h1) (by simpa [k3, k23, k24] using h2) (by simpa [k3, k23, k24] using h3) hw
          refine ⟨y, ⟨?_, ?_, ?_, ?_⟩, q1, q2, q3, q4, ⟨q5, q6⟩, ⟨q7, q8⟩, q9⟩
          · have := hce 0 (by omega); rw [Go.Deep.add_add] at this; simpa using this
          · have := hce 1 (by omega); rw [Go.Deep.add_add] at this; simpa using this
          · have := hce 2 (by omega); rw [Go.Deep.add_add] at this; simpa using this
          · have := hce 3 (by omega); rw [Go.Deep.add_add] at this; simpa using this
    haveI : Inhabited Ask := ⟨⟨0, none, 0, 0, fun _ => 0#8, none, 0, 0, fun _ => none, fun _ => 0, fun _ => 0, fun _ _ => 0#8, 0⟩⟩
    obtain ⟨X, hX⟩ := Go.Deep.choose_lt key
    refine ⟨some x, len, cap, X, rfl, by omega, ?_, fun i hi => (hX i hi).2⟩
    by_cases h0 : len = 0
    · exact .inl h0
    · obtain ⟨b, off, spot⟩ := x
      have hspot : spot = none := by simpa [Addr.add] using World.cell?_spot (hX 0 (by omega)).1.1
      subst hspot
      refine .inr ⟨b, off, rfl, ?_, fun i hi => ?_⟩
      · have := (hX 0 (by omega)).1.1
        exact World.block_lt_of_cell? w ⟨b, off + 0 * 4, none⟩ (by rw [Go.WideShapes.add_plain] at this; exact this)
      · obtain ⟨e0, e1, e2, e3⟩ := (hX i hi).1
        rw [Go.WideShapes.add_plain] at e0 e1 e2 e3
        exact ⟨e0, by rw [Nat.add_assoc]; exact e1, by rw [Nat.add_assoc]; exact e2, by rw [Nat.add_assoc]; exact e3⟩
end
end Go.Proofs.YtjflaeohkhmkaaaDoor

namespace Go.Proofs.YtjflaeohkhmkaaaDoor
open Go.RowKit
set_option linter.unusedVariables false
set_option linter.unusedSimpArgs false

theorem tot_le (X : Nat → Ask) (m i : Nat) (h : i < m) : (X i).tot ≤ totA X m := by
  induction m with
  | zero => omega
  | succ m ih =>
    by_cases e : i = m
    · subst e; show _ ≤ totA X i + (X i).tot; omega
    · have := ih (by omega); show _ ≤ totA X m + (X m).tot; omega
theorem Ask.there.lies {x : Ask} {w : World} (h : x.there w) (ht : x.tot ≤ 400) : x.lies w :=
  ⟨h.key, h.kz, by unfold Ask.tot at ht; omega, h.rows, h.mc.1, by unfold Ask.tot at ht; omega, by unfold Ask.tot at ht; omega, h.k⟩
theorem Ask.there.small {x : Ask} {w : World} (h : x.there w) (ht : x.tot ≤ 400) : x.small :=
  ⟨h.kc, by unfold Ask.tot at ht; omega, h.mc.2, by unfold Ask.tot at ht; omega⟩
theorem Ask.fits.mono {x : Ask} {B B' : Nat} {w : World} (h : x.fits B w) (hB : B ≤ B') : x.fits B' w := ⟨h.kn, h.m, h.ln, h.rows.mono hB⟩
/-- an ask alone, as a row -/
theorem one_ask {W : World} {q : Nat} {x : Ask} (h : W.heap[q]? = some (.cells #[.int .i64 x.what, .slice x.kp x.kn x.kc, .slice x.p x.m x.c, .int .i64 x.k] 26 (0, 0))) :
    AskRow W.heap.size W (some ⟨q, 0, none⟩) 1 (fun _ => x) := by
  refine .inr ⟨q, 0, rfl, (Array.getElem?_eq_some_iff.1 h).1, fun i hi => ?_⟩
  obtain rfl : i = 0 := by omega
  exact ⟨by rw [cell_of_row W q _ _ _ (0, 0) h]; rfl, by rw [cell_of_row W q _ _ _ (0, 0) h]; rfl, by rw [cell_of_row W q _ _ _ (0, 0) h]; rfl, by rw [cell_of_row W q _ _ _ (0, 0) h]; rfl⟩
theorem below_al (w : World) (o : Obj) : Below w.heap.size w (w.alloc o) := (Below.refl _ _).alloc (Nat.le_refl _) _
theorem tag_load' {S : World → Prop} {ops : Array Oper} {o : Oper} {ac : Act} {x : Operand} {T : Nat} {s : Nat → BitVec 8} (hS : ∀ w, S w → BT w T 32 s) (h1 : Region.wanted o (yielded ops ac.tmps) = true) (h2 : o.op = .load 33 x) (h3 : ac.eval x = .pointer (some ⟨T, 0, none⟩)) : YieldsIf Tryd.prog ops S o (tagV s) ac :=
  yieldsIf_load_mid h1 33 x h2 T 0 h3 (tagC s) _ (fun w' hw' => (hS w' hw').range) Tryd.underlying33 rfl (by simp [infoTag, tagC_len])
theorem row4 {W : World} {H : Nat} {a b c d : Value} {t : TypeId} (h : W.heap[H]? = some (.cells #[a, b, c, d] t (0, 0))) :
    W.cell? ⟨H, 0, none⟩ = some a ∧ W.cell? ⟨H, 1, none⟩ = some b ∧ W.cell? ⟨H, 2, none⟩ = some c ∧ W.cell? ⟨H, 3, none⟩ = some d :=
  ⟨by rw [cell_of_row W H 0 _ _ (0, 0) h]; rfl, by rw [cell_of_row W H 1 _ _ (0, 0) h]; rfl, by rw [cell_of_row W H 2 _ _ (0, 0) h]; rfl, by rw [cell_of_row W H 3 _ _ (0, 0) h]; rfl⟩
theorem new_at {B : Nat} {w W : World} (_ : Below B w W) (o : Obj) : (W.alloc o).heap[W.heap.size]? = some o := laid_at rfl
theorem wraps_of {x1 sm y1 : Nat} (h1 : x1 ≤ 844424930107392) (h2 : sm ≤ 140737488351232) (h3 : y1 ≤ 844424930107392) (h : IntKind.i64.wrap (IntKind.i64.wrap ((x1 : Int) + sm) + y1) ≤ 400) : (x1 : Int) + sm + y1 ≤ 400 := by
  rw [IntWalk.i64_in ((x1 : Int) + sm) (by omega), IntWalk.i64_in _ (by omega)] at h
  exact h
theorem sizes_of {X : Nat → Ask} {x : Ask} {m sm x1 y1 : Nat} (h : (x1 : Int) + sm + y1 ≤ 400) (h1 : x1 ≤ 400 → x1 = m + totA X m) (h2 : y1 ≤ 400 → y1 = 1 + totA (fun _ => x) 1) : m + totA X m ≤ 400 ∧ sm ≤ 400 ∧ x.tot ≤ 400 := by
  have e1 := h1 (by omega)
  have e2 := h2 (by omega)
  have e3 : totA (fun _ => x) 1 = 0 + x.tot := rfl
  omega
end Go.Proofs.YtjflaeohkhmkaaaDoor
