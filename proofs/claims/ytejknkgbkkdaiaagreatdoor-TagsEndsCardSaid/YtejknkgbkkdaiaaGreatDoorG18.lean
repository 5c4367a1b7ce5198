/-
  Merged: AskRow, ViewAsk.
-/
import Derived.Test.YtejknkgbkkdaiaaGreatDoorG17
import Derived.Test.YtejknkgbkkdaiaaGreatDoorG9
import Derived.Lib.SmallJoins
import Derived.Deep.Slices
import Derived.Deep.Fields

namespace Go.Proofs.YtejknkgbkkdaiaaGreatDoor
open Go.RowKit
set_option linter.unusedVariables false
set_option linter.unusedSimpArgs false

/-- a row of asks -/
def AskRow (B : Nat) (w : World) (p : Option Addr) (m : Nat) (X : Nat → Ask) : Prop :=
  m = 0 ∨ ∃ b off, p = some ⟨b, off, none⟩ ∧ b < B ∧ ∀ i, i < m → w.cell? ⟨b, off + i * 4, none⟩ = some (.int .i64 (X i).what) ∧ w.cell? ⟨b, off + i * 4 + 1, none⟩ = some (.slice (X i).kp (X i).kn (X i).kc) ∧
    w.cell? ⟨b, off + i * 4 + 2, none⟩ = some (.slice (X i).p (X i).m (X i).c) ∧ w.cell? ⟨b, off + i * 4 + 3, none⟩ = some (.int .i64 (X i).k)
theorem AskRow.below {B : Nat} {w w' : World} {p : Option Addr} {m : Nat} {X : Nat → Ask} (h : AskRow B w p m X) (hb : Below B w w') : AskRow B w' p m X := by
  rcases h with h | ⟨b, off, h1, h2, h3⟩
  · exact .inl h
  · refine .inr ⟨b, off, h1, h2, fun i hi => ?_⟩
    obtain ⟨c0, c1, c2, c3⟩ := h3 i hi
    exact ⟨(hb.cell (p := ⟨b, off + i * 4, none⟩) h2).trans c0, (hb.cell (p := ⟨b, off + i * 4 + 1, none⟩) h2).trans c1, (hb.cell (p := ⟨b, off + i * 4 + 2, none⟩) h2).trans c2, (hb.cell (p := ⟨b, off + i * 4 + 3, none⟩) h2).trans c3⟩
theorem AskRow.mono {B B' : Nat} {w : World} {p : Option Addr} {m : Nat} {X : Nat → Ask} (h : AskRow B w p m X) (hB : B ≤ B') : AskRow B' w p m X := by
  rcases h with h | ⟨b, off, h1, h2, h3⟩
  · exact .inl h
  · exact .inr ⟨b, off, h1, Nat.lt_of_lt_of_le h2 hB, h3⟩
def Ask.tot (x : Ask) : Nat := x.kn + x.m + pos x.ln x.m
def totA (X : Nat → Ask) : Nat → Nat
  | 0 => 0
  | k + 1 => totA X k + (X k).tot
/-- what is asked is not longer than the machine bears -/
structure Ask.fits (x : Ask) (B : Nat) (w : World) : Prop where
  kn : x.kn ≤ 140737488351232
  m : x.m ≤ 5864062014634
  ln : ∀ i, i < x.m → x.ln i ≤ 140737488351232
  rows : Reads B w x.p x.m (fun i => .slice (x.P i) (x.ln i) (x.C i))
theorem Ask.fits.below {x : Ask} {B : Nat} {w w' : World} (h : x.fits B w) (hb : Below B w w') : x.fits B w' := ⟨h.kn, h.m, h.ln, h.rows.below hb⟩
set_option maxHeartbeats 4000000 in
set_option maxRecDepth 100000 in
theorem size04_any (w : World) (p : Option Addr) (m c : Nat) (X : Nat → Ask) (hm : m ≤ 5864062014634) (hr : AskRow w.heap.size w p m X) (hf : ∀ i, i < m → (X i).fits w.heap.size w) :
    Calls Tryz.prog 5 #[.slice p m c] w fun e w' => ∃ x : Nat, e = .returned (.int .i64 (x : Int)) ∧ (x ≤ 400 → x = m + totA X m) ∧ x ≤ 844424930107392 ∧ Below w.heap.size w w' := by
  have HR := Lib.hid hr
  have HF := Lib.hid hf
  clear hr hf
  go_enter Tryz.func5, Tryz.ntmps5
  go_wp2
  go_loopw [3, 4] (fun nv iv wr => ∃ k x : Nat, k ≤ m ∧ iv = .int .i64 (k : Int) ∧ nv = .int .i64 (x : Int) ∧ (x ≤ 400 → x = m + totA X k) ∧ x ≤ 844424930107392 ∧ Below w.heap.size w wr) (fun _ iv _ => m - (intOf iv).toNat)
  case atStart => exact ⟨0, m, Nat.zero_le _, rfl, rfl, fun _ => by simp [totA], by omega, Below.refl _ _⟩
  case round =>
    obtain ⟨k, x, hk, rfl, rfl, hx, hxb, hbk⟩ := hrel
    have HX := Lib.hid hx
    have HBK := Lib.hid hbk
    clear hx hbk
    by_cases hlt : k < m
    · by_cases h400 : (x : Int) ≤ 400
      · rcases HR.out.below HBK.out with h0 | ⟨b, off, rfl, hbb, hcc⟩
        · omega
        obtain ⟨_, c1, c2, _⟩ := hcc k hlt
        have hfk := HF.out k hlt
        have b1 := hfk.kn
        have b2 := hfk.m
        have HFK := Lib.hid hfk
        clear hcc hfk
        obtain ⟨kp, hkp⟩ : ∃ y, (X k).kp = y := ⟨_, rfl⟩
        obtain ⟨kn, hkn⟩ : ∃ y, (X k).kn = y := ⟨_, rfl⟩
        obtain ⟨kc, hkc⟩ : ∃ y, (X k).kc = y := ⟨_, rfl⟩
        obtain ⟨rp, hrp⟩ : ∃ y, (X k).p = y := ⟨_, rfl⟩
        obtain ⟨rm, hrm⟩ : ∃ y, (X k).m = y := ⟨_, rfl⟩
        obtain ⟨rc, hrc⟩ : ∃ y, (X k).c = y := ⟨_, rfl⟩
        rw [hkp, hkn, hkc] at c1
        rw [hrp, hrm, hrc] at c2
        rw [hkn] at b1
        rw [hrm] at b2
        have HTK := Lib.hid (show totA X (k + 1) = totA X k + (kn + rm + pos (X k).ln rm) from by show totA X k + (X k).tot = _; unfold Ask.tot; rw [hkn, hrm])
        have HRW := Lib.hid (show Reads w.heap.size w rp rm (fun i => .slice ((X k).P i) ((X k).ln i) ((X k).C i)) from by rw [← hrp, ← hrm]; exact HFK.out.rows)
        have HLN := Lib.hid (show ∀ i, i < rm → (X k).ln i ≤ 140737488351232 from by rw [← hrm]; exact HFK.out.ln)
        have hx2 := HX.out (by omega)
        have HX2 := Lib.hid hx2
        clear hkp hkn hkc hrp hrm hrc HFK hx2
        go_wp2
        go_region
        go_wp2
        obtain ⟨wo, hwo⟩ : ∃ wo : World, wo = wr := ⟨_, rfl⟩
        subst hwo
        go_loopw [3, 5] (fun nv jv wr => ∃ j y : Nat, j ≤ rm ∧ jv = .int .i64 (j : Int) ∧ nv = .int .i64 (y : Int) ∧ (y ≤ 400 → y = x + kn + rm + pos (X k).ln j) ∧ y ≤ 844424930107392 ∧ Below w.heap.size w wr ∧ wr.cell? ⟨b, off + k * 4 + 2, none⟩ = some (.slice rp rm rc)) (fun _ jv _ => rm - (intOf jv).toNat)
        case atStart => exact ⟨0, x + kn + rm, Nat.zero_le _, rfl, by push_cast; rfl, fun _ => by simp [pos], by omega, HBK.out.drew, c2⟩
        case round =>
          clear HBK c1 c2
          obtain ⟨j, y, hj, rfl, rfl, hy, hyb, hbj, c2⟩ := hrel
          have HY := Lib.hid hy
          have HBJ := Lib.hid hbj
          clear hy hbj
          by_cases hjl : j < rm
          · by_cases hy4 : (y : Int) ≤ 400
            · rcases HRW.out.below HBJ.out with h0 | ⟨b3, off3, rfl, hbb3, hc3⟩
              · omega
              have c3 : wr.cell? ⟨b3, off3 + j, none⟩ = some (.slice ((X k).P j) ((X k).ln j) ((X k).C j)) := hc3 j hjl
              have hl1 := HLN.out j hjl
              clear hc3
              go_wp2
              go_roundw
              case rel => exact ⟨j + 1, y + (X k).ln j, by omega, by go_num, by go_num, fun h => by simp only [pos]; have := HY.out (by omega); omega, by omega, HBJ.out, c2⟩
              case measure => simp [intOf]; omega
            · have hdd : decide ((y : Int) ≤ 400) = false := by simp; omega
              go_wp2
              go_roundw
              case rel => exact ⟨k + 1, y, by omega, by go_num, rfl, fun h => by omega, hyb, HBJ.out⟩
              case measure => simp [intOf]; omega
          · obtain rfl : j = rm := by omega
            by_cases hy4 : (y : Int) ≤ 400
            all_goals
              go_wp2
              go_roundw
              case rel => exact ⟨k + 1, y, by omega, by go_num, rfl, fun h => by have h1 := HY.out h; have h2 := HX2.out; have h3 := HTK.out; omega, hyb, HBJ.out⟩
              case measure => simp [intOf]; omega
      · go_wp2
        go_ret
        exact ⟨x, rfl, fun h => by omega, hxb, HBK.out⟩
    · obtain rfl : k = m := by omega
      by_cases h400 : (x : Int) ≤ 400
      all_goals
        go_wp2
        go_ret
        exact ⟨x, rfl, HX.out, hxb, HBK.out⟩
end Go.Proofs.YtejknkgbkkdaiaaGreatDoor

namespace Go.Proofs.YtejknkgbkkdaiaaGreatDoor
open Go.RowKit Go.ChangeShapes Go.WideShapes
set_option linter.unusedVariables false
set_option linter.unusedSimpArgs false

section
variable {H : Type} {enc : TypeId × Value → H} {w : World} {base : Nat}
theorem cell_form {P : Program} {t e : TypeId} {fuel : Nat} {v : Value} {x : DataW H × List MemPlace} {sp : Nat → Bool} {held : Bool} (ht : P.underlying t = some (.slice e)) (h : DataW.trod enc P w base sp held fuel t [v] = some x) : ∃ a len cap, v = .slice a len cap := by
  rcases Go.Deep.open_slice ht h with ⟨hc, _⟩ | ⟨a, len, cap, m, n, D, Pl, hc, _⟩
  · exact ⟨_, _, _, (List.cons.inj hc).1⟩
  · exact ⟨_, _, _, (List.cons.inj hc).1⟩
set_option maxRecDepth 100000 in
/-- a slice of bytes in a cell -/
theorem cell_bytes {v : Value} {d : DataW H} {p : List MemPlace} (hv : ∃ a len cap, v = .slice a len cap) (h : DataW.Trod enc Tryz.prog w base (fun _ => true) true 22 v d p) (hz : ∀ x ∈ d.weights Tryz.prog 22, x ≤ reachBytes) :
    ∃ (a : Option Addr) (len cap : Nat) (f : Nat → BitVec 8), v = .slice a len cap ∧ len ≤ cap ∧ cap ≤ 140737488351232 ∧ Reads w.heap.size w a len (fun i => .int .u8 (ub (f i))) ∧ (a = none → cap = 0) := by
  obtain ⟨a, len, cap, rfl⟩ := hv
  obtain ⟨fuel, hf⟩ := h
  rcases open_ints Tryz.underlying22 Tryz.underlying5 (by kernel_rfl) hf with ⟨hcs, _⟩ | ⟨x, l, c, zs, hcs, _, hl, hm, hlz, hx, hcell, hwz⟩
  · simp [Value.cells] at hcs
    obtain ⟨rfl, rfl, rfl⟩ := hcs
    exact ⟨none, 0, 0, fun _ => 0#8, rfl, Nat.le_refl _, by omega, .inl rfl, fun _ => rfl⟩
  · simp [Value.cells] at hcs
    obtain ⟨rfl, rfl, rfl⟩ := hcs
    obtain ⟨r1, _, _, r4⟩ := row_reads (k := .u8) (w := w) (a := some x) (len := len) (cap := cap) (zs := zs) (.inr ⟨x, rfl, hl, hm, by simpa using hlz, hcell, hwz⟩)
    obtain ⟨f, _, hr⟩ := row_bytes r1 r4
    simp only [if_true] at hlz
    have hd := (Prod.mk.inj hx).1
    rw [hd] at hz
    have hs := (slice_small Tryz.underlying22 hz).1
    rw [show Tryz.prog.bytesOf 5 = 1 by kernel_rfl] at hs
    simp only [lits, List.length_map, List.length_take, List.length_drop, reachBytes] at hs
    exact ⟨some x, len, cap, f, rfl, hl, by omega, hr, (fun e => by cases e)⟩
set_option maxRecDepth 100000 in
/-- rows of bytes in a cell -/
theorem cell_rows {v : Value} {d : DataW H} {p : List MemPlace} (hv : ∃ a len cap, v = .slice a len cap) (h : DataW.Trod enc Tryz.prog w base (fun _ => true) true 36 v d p) (hz : ∀ x ∈ d.weights Tryz.prog 36, x ≤ reachBytes) :
    ∃ (a : Option Addr) (len cap : Nat) (P : Nat → Option Addr) (L C : Nat → Nat) (f : Nat → Nat → BitVec 8), v = .slice a len cap ∧ len ≤ cap ∧ cap ≤ 5864062014634 ∧ RI w a len P L C f ∧ (a = none → cap = 0) ∧ (∀ i, i < len → P i = none → C i = 0) ∧ ∀ i, i < len → C i ≤ 140737488351232 := by
  obtain ⟨a, len, cap, rfl⟩ := hv
  obtain ⟨fuel, hf⟩ := h
  rcases Go.Deep.open_int_rows Tryz.underlying36 Tryz.underlying22 Tryz.underlying5 (by kernel_rfl) (by kernel_rfl) hf with ⟨hcs, _⟩ | ⟨x, l, c, A, L, C, Z, hcs, hb, hl, hm, hx, hrow⟩
  · simp [Value.cells] at hcs
    obtain ⟨rfl, rfl, rfl⟩ := hcs
    exact ⟨none, 0, 0, fun _ => none, fun _ => 0, fun _ => 0, fun _ _ => 0#8, rfl, Nat.le_refl _, by omega, ⟨.inl rfl, fun i hi => by omega, fun i hi => by omega⟩, fun _ => rfl, fun i hi => by omega, fun i hi => by omega⟩
  · simp [Value.cells] at hcs
    obtain ⟨rfl, rfl, rfl⟩ := hcs
    have hd := (Prod.mk.inj hx).1
    rw [hd] at hz
    obtain ⟨hs, hin⟩ := slice_small Tryz.underlying36 hz
    rw [show Tryz.prog.bytesOf 22 = 24 by kernel_rfl] at hs
    simp only [List.length_map, List.length_range, reachBytes] at hs
    have hC : ∀ i, i < len → C i ≤ 140737488351232 := fun i hi => by
      obtain ⟨_, _, _, h3, _, h5, _⟩ := hrow i (by omega)
      cases hA : A i with
      | none => have := h5 hA; omega
      | some a' =>
        have h := hin _ (List.mem_map.2 ⟨i, List.mem_range.2 hi, rfl⟩)
        unfold Go.Deep.intRow at h
        simp only [hA] at h
        have h2 := (slice_small Tryz.underlying22 h).1
        rw [show Tryz.prog.bytesOf 5 = 1 by kernel_rfl] at h2
        simp only [lits, List.length_map, List.length_take, List.length_drop, reachBytes] at h2
        omega
    refine ⟨some x, len, cap, A, L, C, fun i j => BitVec.ofNat 8 ((Z i).getD j 0).toNat, rfl, hl, by omega, ⟨?_, fun i hi => ⟨(hrow i (by omega)).2.1, (hrow i (by omega)).2.2.1⟩, fun i hi => ?_⟩, fun e => (by cases e), fun i hi => (hrow i (by omega)).2.2.2.2.2.1, hC⟩
    · by_cases h0 : len = 0
      · exact .inl h0
      · have hc := fun i hi => (hrow i hi).1
        obtain ⟨b, off, rfl, hc2⟩ := vals_at hc (by omega)
        exact .inr ⟨b, off, rfl, World.block_lt_of_cell? w ⟨b, off + 0, none⟩ (hc2 0 (by omega)), fun i hi => hc2 i (by omega)⟩
    · obtain ⟨_, h1, h2, h3, h4, h5, h6⟩ := hrow i (by omega)
      cases hA : A i with
      | none => exact .inl (by have := h5 hA; omega)
      | some a' =>
        obtain ⟨_, hcell⟩ := h6 a' hA
        obtain ⟨r1, _, _, r4⟩ := row_reads (k := .u8) (w := w) (a := some a') (len := L i) (cap := C i) (zs := Z i) (.inr ⟨a', rfl, h1, h2, h3, fun j hj => hcell j (by omega), h4⟩)
        exact r1.mono' (Nat.le_refl _) fun j hj => by rw [← u8_wf (r4 j hj)]
set_option maxRecDepth 100000 in
theorem weights_ask {y0 y1 y2 y3 : DataW H} (hz : ∀ x ∈ (DataW.agg [y0, y1, y2, y3]).weights Tryz.prog 38, x ≤ reachBytes) : (∀ x ∈ y1.weights Tryz.prog 22, x ≤ reachBytes) ∧ (∀ x ∈ y2.weights Tryz.prog 36, x ≤ reachBytes) := by
  rw [DataW.weights, Tryz.underlying38] at hz
  simp only [List.map_cons, List.map_nil, DataW.weightsEach, List.append_nil, List.mem_append] at hz
  exact ⟨fun x hx => hz x (.inr (.inl hx)), fun x hx => hz x (.inr (.inr (.inl hx)))⟩
set_option maxRecDepth 100000 in
/-- what lies in an ask's cells -/
theorem ask_of {v0 v1 v2 v3 : Value} {y0 y1 y2 y3 : DataW H × List MemPlace} {n : Nat} (h0 : DataW.trod enc Tryz.prog w base (fun _ => true) true n 3 [v0] = some y0) (h1 : DataW.trod enc Tryz.prog w base (fun _ => true) true n 22 [v1] = some y1)
    (h2 : DataW.trod enc Tryz.prog w base (fun _ => true) true n 36 [v2] = some y2) (h3 : DataW.trod enc Tryz.prog w base (fun _ => true) true n 3 [v3] = some y3)
    (hz : ∀ x ∈ (DataW.agg [y0.1, y1.1, y2.1, y3.1]).weights Tryz.prog 38, x ≤ reachBytes) :
    ∃ x : Ask, v0 = .int .i64 x.what ∧ v1 = .slice x.kp x.kn x.kc ∧ v2 = .slice x.p x.m x.c ∧ v3 = .int .i64 x.k ∧ x.fits w.heap.size w ∧ Reads w.heap.size w x.kp x.kn (fun j => .int .u8 (ub (x.key j))) ∧ (x.kp = none → x.kn = 0) ∧ RI w x.p x.m x.P x.ln x.C x.f ∧ x.kn ≤ x.kc ∧ x.kc ≤ maxLen ∧ x.m ≤ x.c ∧ x.c ≤ maxLen ∧ (Lit.int .i64 x.k).wf = true ∧ (x.kp = none → x.kc = 0) ∧ (∀ i, i < x.m → x.P i = none → x.C i = 0) := by
  obtain ⟨z1, z2⟩ := weights_ask hz
  obtain ⟨a0, e0, _, _⟩ := DataW.trod_int Tryz.underlying3 h0
  obtain ⟨a3, e3, _, w3⟩ := DataW.trod_int Tryz.underlying3 h3
  have f1 := cell_form Tryz.underlying22 h1
  have f2 := cell_form Tryz.underlying36 h2
  have k1 : v1.cells.toList = [v1] := by obtain ⟨_, _, _, rfl⟩ := f1; rfl
  have k2 : v2.cells.toList = [v2] := by obtain ⟨_, _, _, rfl⟩ := f2; rfl
  obtain ⟨kp, kn, kc, key, rfl, hc1, hm1, hr1, hn1⟩ := cell_bytes f1 ⟨n, by rw [k1]; exact h1⟩ z1
  obtain ⟨p, m, c, P, L, C, f, rfl, hc2, hm2, hr2, hn2, ho2, hq2⟩ := cell_rows f2 ⟨n, by rw [k2]; exact h2⟩ z2
  obtain rfl := (List.cons.inj e0).1
  obtain rfl := (List.cons.inj e3).1
  refine ⟨⟨a0, kp, kn, kc, key, p, m, c, P, L, C, f, a3⟩, rfl, rfl, rfl, rfl, ⟨by show kn ≤ _; omega, by show m ≤ _; omega, fun i hi => Nat.le_trans (hr2.cap i hi).1 (hq2 i hi), hr2.rows⟩, hr1, fun e => by show kn = 0; have := hn1 e; omega, hr2, hc1, by unfold maxLen; show kc ≤ _; omega, hc2, by unfold maxLen; show c ≤ _; omega, w3, hn1, ho2⟩
/-- what is asked lies there, as long as the machine bears -/
structure Ask.there (x : Ask) (w : World) : Prop where
  fits : x.fits w.heap.size w
  key : Reads w.heap.size w x.kp x.kn (fun j => .int .u8 (ub (x.key j)))
  kz : x.kp = none → x.kn = 0
  rows : RI w x.p x.m x.P x.ln x.C x.f
  kc : x.kn ≤ x.kc ∧ x.kc ≤ maxLen
  mc : x.m ≤ x.c ∧ x.c ≤ maxLen
  k : (Lit.int .i64 x.k).wf = true
  nil : (x.kp = none → x.kc = 0) ∧ (∀ i, i < x.m → x.P i = none → x.C i = 0)
set_option maxRecDepth 100000 in
/-- an ask by value -/
theorem view_ask {r : Reach} {b0 : Nat} {v : Value} {d : DataW H} {p : List MemPlace} (hv : Value.okWide Tryz.prog w r b0 38 v) (h : DataW.Trod enc Tryz.prog w base (fun _ => true) true 38 v d p) (hz : ∀ x ∈ d.weights Tryz.prog 38, x ≤ reachBytes) :
    ∃ x : Ask, v = x.val ∧ x.there w := by
  obtain ⟨v0, v1, v2, v3, y0, y1, y2, y3, n, rfl, rfl, _, h0, h1, h2, h3⟩ := Go.Joins.open_agg4 Tryz.underlying38 (by kernel_rfl) (by kernel_rfl) hv h
  obtain ⟨x, rfl, rfl, rfl, rfl, q1, q2, q3, q4, q5, q6, q7, q8, q9, q10⟩ := ask_of h0 h1 h2 h3 hz
  exact ⟨x, rfl, q1, q2, q3, q4, ⟨q5, q6⟩, ⟨q7, q8⟩, q9, q10⟩
set_option maxRecDepth 100000 in
/-- a row of asks -/
theorem view_asks {r : Reach} {b0 : Nat} {v : Value} {d : DataW H} {p : List MemPlace} (hv : Value.okWide Tryz.prog w r b0 23 v) (h : DataW.Trod enc Tryz.prog w base (fun _ => true) true 23 v d p) (hz : ∀ x ∈ d.weights Tryz.prog 23, x ≤ reachBytes) :
    ∃ (a : Option Addr) (len cap : Nat) (X : Nat → Ask), v = .slice a len cap ∧ len ≤ 5864062014634 ∧ AskRow w.heap.size w a len X ∧ ∀ i, i < len → (X i).there w := by
  obtain ⟨a, len, cap, rfl⟩ := okWide_slice Tryz.underlying23 hv
  obtain ⟨fuel, hf⟩ := h
  rcases Go.Deep.open_slice Tryz.underlying23 hf with ⟨hcs, _⟩ | ⟨x, l, c, m, n', D, Pl, hcs, hb, hl, hm, hmm, hx, hat⟩
  · simp [Value.cells] at hcs
    obtain ⟨rfl, rfl, rfl⟩ := hcs
    exact ⟨none, 0, 0, fun _ => ⟨0, none, 0, 0, fun _ => 0#8, none, 0, 0, fun _ => none, fun _ => 0, fun _ => 0, fun _ _ => 0#8, 0⟩, rfl, by omega, .inl rfl, fun i hi => by omega⟩
  · simp [Value.cells] at hcs
    obtain ⟨rfl, rfl, rfl⟩ := hcs
    simp only [if_true] at hmm
    have hd := (Prod.mk.inj hx).1
    rw [hd] at hz
    obtain ⟨hs, hin⟩ := slice_small Tryz.underlying23 hz
    rw [show Tryz.prog.bytesOf 38 = 64 by kernel_rfl] at hs
    simp only [List.length_map, List.length_range, reachBytes] at hs
    have hc4 : Tryz.prog.cellsOf 38 = 4 := by kernel_rfl
    have key : ∀ i, i < len → ∃ y : Ask, (w.cell? (x.add (i * 4)) = some (.int .i64 y.what) ∧ w.cell? (x.add (i * 4 + 1)) = some (.slice y.kp y.kn y.kc) ∧ w.cell? (x.add (i * 4 + 2)) = some (.slice y.p y.m y.c) ∧ w.cell? (x.add (i * 4 + 3)) = some (.int .i64 y.k)) ∧ y.there w := fun i hi => by
      obtain ⟨cs', hc, ht⟩ := hat i (by omega)
      rw [hc4] at hc
      obtain ⟨_, hcl, hce⟩ := World.cells?_some hc
      have hw := hin (D i) (List.mem_map.2 ⟨i, List.mem_range.2 hi, rfl⟩)
      match cs', hcl with
      | [v0, v1, v2, v3], _ =>
        obtain ⟨xs, n2, hn2, hy, hlen, hyl, hf2⟩ := DataW.trod_struct Tryz.underlying38 ht
        match xs, hyl with
        | [y0, y1, y2, y3], _ =>
          have k3 : Tryz.prog.cellsOf 3 = 1 := by kernel_rfl
          have k23 : Tryz.prog.cellsOf 22 = 1 := by kernel_rfl
          have k24 : Tryz.prog.cellsOf 36 = 1 := by kernel_rfl
          have h0 := hf2 0 _ rfl
          have h1 := hf2 1 _ rfl
          have h2 := hf2 2 _ rfl
          have h3 := hf2 3 _ rfl
          have hD : D i = .agg [y0.1, y1.1, y2.1, y3.1] := by have := (Prod.mk.inj hy).1; simpa using this
          rw [hD] at hw
          obtain ⟨y, rfl, rfl, rfl, rfl, q1, q2, q3, q4, q5, q6, q7, q8, q9, q10⟩ := ask_of (n := n2) (y0 := y0) (y1 := y1) (y2 := y2) (y3 := y3) (by simpa [k3, k23, k24] using h0) (by simpa [k3, k23, k24] using h1) (by simpa [k3, k23, k24] using h2) (by simpa [k3, k23, k24] using h3) hw
          refine ⟨y, ⟨?_, ?_, ?_, ?_⟩, q1, q2, q3, q4, ⟨q5, q6⟩, ⟨q7, q8⟩, q9, q10⟩
          · have := hce 0 (by omega); rw [Go.Deep.add_add] at this; simpa using this
          · have := hce 1 (by omega); rw [Go.Deep.add_add] at this; simpa using this
          · have := hce 2 (by omega); rw [Go.Deep.add_add] at this; simpa using this
          · have := hce 3 (by omega); rw [Go.Deep.add_add] at this; simpa using this
    haveI : Inhabited Ask := ⟨⟨0, none, 0, 0, fun _ => 0#8, none, 0, 0, fun _ => none, fun _ => 0, fun _ => 0, fun _ _ => 0#8, 0⟩⟩
    obtain ⟨X, hX⟩ := Go.Deep.choose_lt key
    refine ⟨some x, len, cap, X, rfl, by omega, ?_, fun i hi => (hX i hi).2⟩
    by_cases h0 : len = 0
    · exact .inl h0
    · obtain ⟨b, off, spot⟩ := x
      have hspot : spot = none := by simpa [Addr.add] using World.cell?_spot (hX 0 (by omega)).1.1
      subst hspot
      refine .inr ⟨b, off, rfl, ?_, fun i hi => ?_⟩
      · have := (hX 0 (by omega)).1.1
        exact World.block_lt_of_cell? w ⟨b, off + 0 * 4, none⟩ (by rw [Go.WideShapes.add_plain] at this; exact this)
      · obtain ⟨e0, e1, e2, e3⟩ := (hX i hi).1
        rw [Go.WideShapes.add_plain] at e0 e1 e2 e3
        exact ⟨e0, by rw [Nat.add_assoc]; exact e1, by rw [Nat.add_assoc]; exact e2, by rw [Nat.add_assoc]; exact e3⟩
end
end Go.Proofs.YtejknkgbkkdaiaaGreatDoor
