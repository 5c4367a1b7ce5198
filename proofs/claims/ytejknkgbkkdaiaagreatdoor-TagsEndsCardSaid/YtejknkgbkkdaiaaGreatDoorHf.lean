/-
  The walk of TagsEnds.
-/
import Derived.Test.YtejknkgbkkdaiaaGreatDoorH1
import Derived.Test.YtejknkgbkkdaiaaGreatDoorOct
import Derived.Deep.Cut
import Derived.Deep.CutRange
namespace Go.Proofs.YtejknkgbkkdaiaaGreatDoor
open Go.RowKit
set_option linter.unusedVariables false
set_option linter.unusedSimpArgs false

/-- four asks of a round -/
def ask4 (r1 r2 r3 ab : Nat) (p1 p2 : Addr) (i : Nat) (j : Nat) : Ask := if j = 0 then askA1 r1 p1 p2 i else if j = 1 then askA2 r2 p1 p2 i else if j = 2 then askA3 r3 ab p1 i else drawA (i : Int)
theorem ask4_cells (r1 r2 r3 ab : Nat) (p1 p2 : Addr) (i : Nat) : askRL (ask4 r1 r2 r3 ab p1 p2 i) 4 = [.int .i64 0, .slice none 0 0, .slice (some ⟨r1, 0, none⟩) 2 2, .int .i64 0, .int .i64 1, .slice (some p1) i 3, .slice (some ⟨r2, 0, none⟩) 1 1, .int .i64 0, .int .i64 1, .slice (some ⟨ab, 0, none⟩) 3 3, .slice (some ⟨r3, 0, none⟩) 2 2, .int .i64 0, .int .i64 2, .slice none 0 0, .slice none 0 0, .int .i64 (i : Int)] := rfl
/-- one byte in a row -/
def askE (rb cb : Nat) (bv : BitVec 8) : Ask := ⟨0, none, 0, 0, fun _ => 0#8, some ⟨rb, 0, none⟩, 1, 1, fun _ => some ⟨cb, 0, none⟩, fun _ => 1, fun _ => 1, fun _ _ => bv, 0⟩
def bvE (ev : Int) : BitVec 8 := BitVec.ofNat 8 (ev % 256).toNat
theorem bvE_val (ev : Int) : IntKind.u8.wrap ev = ub (bvE ev) := by
  unfold ub bvE
  rw [IntKind.wrap_u8, BitVec.toNat_ofNat]
  omega
theorem ae_E {w : World} {rb cb ab : Nat} (ev : Int) (hab : w.heap[ab]? = some (.cells #[.int .u8 97, .int .u8 98, .int .u8 99] 5 (3, 4))) (hrb : w.heap[rb]? = some (.cells #[.slice (some ⟨cb, 0, none⟩) 1 1] 22 (0, 0)))
    (hcb : w.heap[cb]? = some (.cells #[.int .u8 (IntKind.u8.wrap ev)] 5 (0, 0))) : AE w (askE rb cb (bvE ev)) :=
  made_ask w (askE rb cb (bvE ev)) rb ab _ hab hrb rfl ⟨by show 1 ≤ 2; omega, Nat.le_refl 1, by show 1 ≤ 2; omega⟩ (lt1 rfl) (lt1 ⟨Nat.le_refl 1, by show 1 ≤ 3; omega, fun e => by cases e⟩)
    (fun W g => lt1 (by
      have h := g.at hcb (by decide)
      exact .inr ⟨cb, 0, rfl, (Array.getElem?_eq_some_iff.1 h).1, lt1 (by rw [cell_of_row W cb 0 _ _ (0, 0) h, bvE_val]; rfl)⟩)) (fun W g => .inl rfl) ⟨Nat.le_refl 0, Nat.zero_le 3, fun _ => rfl⟩ (show (Lit.int .i64 0).wf = true by decide)
def ask2 (rb cb : Nat) (ev : Int) (q : Nat) : Ask := if q = 0 then drawA ev else askE rb cb (bvE ev)
theorem ask2_cells (rb cb : Nat) (ev : Int) : askRL (ask2 rb cb ev) 2 = [.int .i64 2, .slice none 0 0, .slice none 0 0, .int .i64 ev, .int .i64 0, .slice none 0 0, .slice (some ⟨rb, 0, none⟩) 1 1, .int .i64 0] := rfl
def endsL : List Int := [-9223372036854775808, -1, 0, 255, 256, 9223372036854775807]
theorem ends_wf : ∀ j, j < 6 → (Lit.int .i64 (endsL.getD j 0)).wf = true := fun j hj => by
  match j, hj with
  | 0, _ | 1, _ | 2, _ | 3, _ | 4, _ | 5, _ => decide
theorem ends_cell {W : World} {eb : Nat} (h : W.heap[eb]? = some (.cells #[.int .i64 (-9223372036854775808), .int .i64 (-1), .int .i64 0, .int .i64 255, .int .i64 256, .int .i64 9223372036854775807] 3 (0, 0))) (j : Nat) (hj : j < 6) : W.cell? ⟨eb, j, none⟩ = some (.int .i64 (endsL.getD j 0)) := by
  rw [cell_of_row W eb j _ _ (0, 0) h]
  match j, hj with
  | 0, _ | 1, _ | 2, _ | 3, _ | 4, _ | 5, _ => rfl
theorem lt4 {P : Nat → Prop} (h0 : P 0) (h1 : P 1) (h2 : P 2) (h3 : P 3) : ∀ i, i < 4 → P i := fun i hi => by
  match i, hi with
  | 0, _ => exact h0
  | 1, _ => exact h1
  | 2, _ => exact h2
  | 3, _ => exact h3
theorem one_asks (X : Nat → Ask) : ∀ n, ∀ u ∈ askRL X n, u.oneCell' = true
  | 0, u, h => by cases h
  | n + 1, u, h => by
    rcases List.mem_append.1 h with h | h
    · exact one_asks X n u h
    · unfold askC at h
      simp only [List.mem_cons, List.not_mem_nil, or_false] at h
      rcases h with rfl | rfl | rfl | rfl <;> rfl
/-- a row of tags is laid -/
theorem wp_sliceTn {o : Oper} {a : Act} {w : World} {K : Act → World → Prop} {Q : Exit → Act → World → Prop} (len : Nat) (parts : Array (Nat × Operand)) (ho : o.op = .buildSlice 48 len parts)
    (Xs : List (Array Value)) (hX : ∀ X ∈ Xs, X.size = 32) (hlen : len = Xs.length) (hpos : 0 < len) (hle : len ≤ 1000)
    (hparts : (parts.toList.map fun x => (x.1, a.eval x.2)) = ((Xs.map Value.agg).zipIdx 0).map fun x => (x.2, x.1))
    (h : K (a.put o.dst (.slice (some ⟨w.heap.size, 0, none⟩) len len)) (w.alloc (.cells (Xs.flatMap fun X => X.toList).toArray 25))) : o.wp Tryz.prog a w K Q := by
  obtain ⟨ie, hie, ⟨z, hzz, hzs⟩, hsz, _⟩ := infoTagAll
  refine wp_buildSlice 48 25 len parts ho _ ie z Tryz.underlying48 hie hzz (by rw [hsz]; omega) (by rw [hsz]; omega) ?_ h
  rw [Array.toList_map, show (parts.toList.map fun (x : Nat × Operand) => match x with | (i, x) => (i, a.eval x)) = parts.toList.map fun x => (x.1, a.eval x.2) from rfl, hparts, hsz]
  have hf := Great.fill_whole (s := 32) (by omega) (Xs.map Value.agg) ((Array.range (len * 32)).map (z.cells[· % z.cells.size]!)) (fun v hv => by obtain ⟨X, hx, rfl⟩ := List.mem_map.1 hv; exact hX X hx) (by simp [hlen])
  rw [hf]
  simp [List.flatMap_map, Value.cells]
/-- the six tags of the law -/
def nearL : List (Array Value) := [(tagC (nearT 0)).toArray, (tagC (nearT 1)).toArray, (tagC (nearT 2)).toArray, (tagC (nearT 3)).toArray, (tagC (nearT 4)).toArray, (tagC (nearT 5)).toArray]
theorem near_one (k : Nat) : (tagC (nearT k)).toArray.size = 32 := by rw [List.size_toArray, tagC_len]
theorem near_size : ∀ X ∈ nearL, X.size = 32 := by
  intro X hX
  rcases List.mem_cons.1 hX with h | hX
  · exact h ▸ near_one 0
  rcases List.mem_cons.1 hX with h | hX
  · exact h ▸ near_one 1
  rcases List.mem_cons.1 hX with h | hX
  · exact h ▸ near_one 2
  rcases List.mem_cons.1 hX with h | hX
  · exact h ▸ near_one 3
  rcases List.mem_cons.1 hX with h | hX
  · exact h ▸ near_one 4
  rcases List.mem_cons.1 hX with h | hX
  · exact h ▸ near_one 5
  · exact absurd hX List.not_mem_nil
theorem near_flat : (nearL.flatMap fun X => X.toList) = tagL nearT 6 := by simp [nearL, tagL]
set_option maxHeartbeats 40000000 in
set_option maxRecDepth 100000 in
theorem tagsEnds_walk (w : World) (mx : Int) (hmx : w.cell? ⟨mk_lays_ren.g 1, 0, none⟩ = some (.int .i64 mx)) (hk : Kc w.heap.size w) :
    Calls Tryz.prog 4 #[] w fun e w' => e = .returned (.bool true) ∧ Below w.heap.size w w' := by
  have HK := Lib.hid hk
  have HMX := Lib.hid hmx
  clear hk hmx
  obtain ⟨ab, hab⟩ : ∃ ab, ab = w.heap.size := ⟨_, rfl⟩
  obtain ⟨b0, hb0⟩ : ∃ b0, b0 = w.heap.size + 1 := ⟨_, rfl⟩
  have h0 : LE4 w ab b0 (.slice none 0 0) (4 * 0) (fun _ => drawA 0) (w.alloc (.cells #[.int .u8 97, .int .u8 98, .int .u8 99] 5 (3, 4))) :=
    ⟨(Below.refl _ _).alloc (Nat.le_refl _) _, by rw [hab]; exact laid_at rfl, World.ownsRow_nil _ _ _ _, fun i hi => by omega, by omega, by simp; omega⟩
  have kc := fun (W : World) => Lib.run_convert_bytes_const (P := Tryz.prog) W 22 5 #[.int .u8 97, .int .u8 98, .int .u8 99] 3 3 Tryz.underlying22 Tryz.underlying5
  simp only [List.size_toArray, List.length_cons, List.length_nil, World.size_alloc, Nat.zero_add, Nat.reduceAdd] at kc
  go_enter Tryz.func4, Tryz.ntmps4
  go_upto_region 4 with (fail)
  rw [← hab]
  refine forget_code (LE4 w ab b0 (.slice none 0 0) (4 * 0) (fun _ => drawA 0)) h0 ?_
  intro W hW
  have HL := Lib.hid hW
  clear hW h0 kc hab hb0
  go_wp2
  go_loopw [2, 3] (fun v kv wr => ∃ (i : Nat) (X : Nat → Ask), i ≤ 4 ∧ kv = .int .i64 (i : Int) ∧ LE4 w ab b0 v (4 * i) X wr) (fun _ kv _ => 4 - (intOf kv).toNat)
  case atStart => exact ⟨0, _, by omega, rfl, HL.out⟩
  case round =>
    obtain ⟨i, X, hi, rfl, hl⟩ := hrel
    clear HL
    have HL := Lib.hid hl
    clear hl
    by_cases hlt : i < 4
    · obtain ⟨p1, hs1, hr1⟩ := piece_to ab 0 3 3 i (by omega) (by omega)
      obtain ⟨p2, hs2, hr2⟩ := piece_from ab 0 3 3 i (by omega) (by omega)
      have hq1 := Lib.hid hr1
      have hq2 := Lib.hid hr2
      have hi3 : i ≤ 3 := by omega
      have hwf : (Lit.int .i64 (i : Int)).wf = true := WalkArith.wf_i64 ⟨by omega, by omega⟩
      clear hr1 hr2
      go_upto_region 6 with (fail)
      refine wp_region_noPanic ?_
      refine wp_region_start (n := 28) (l := #[false, false, false, false, false, false, false, false, false, false, false, false, false, false, false, false, false, false, false, false, false, false, false, false, false, false, false, false]) (S := (fun W => Below w.heap.size w W)) (by kernel_rfl) rfl (by kernel_rfl) (by first | exact HL.out.bel | exact (HL.out.go (Below.refl _ _).drew).bel) (fun hHeld => ?_)
      replace HL := Lib.hid (HL.out.go (Below.refl _ _).drew)
      generalize World.drew _ = V2 at hHeld HL ⊢
      refine take_to (i := 0) (d := some 17) (v := ?_) (l' := #[true, false, false, false, false, false, false, false, false, false, false, false, false, false, false, false, false, false, false, false, false, false, false, false, false, false, false, false]) rfl rfl (by kernel_rfl) (by kernel_rfl) (by kernel_rfl) (by kernel_rfl) (fun _ _ _ h => h) (Or.inl ⟨by rfl, ?_⟩) (by assumption) ?_; rotate_left; · (intro w' hSw; (try dsimp only at hSw); go_simp; (try with_reducible rfl))
      try simp only [Act.put, List.setIfInBounds_toArray, List.set_cons_zero, List.set_cons_succ]
      refine take_to (i := 1) (d := some 18) (v := ?_) (l' := #[true, true, false, false, false, false, false, false, false, false, false, false, false, false, false, false, false, false, false, false, false, false, false, false, false, false, false, false]) rfl rfl (by kernel_rfl) (by kernel_rfl) (by kernel_rfl) (by kernel_rfl) (fun _ _ _ h => h) (Or.inl ⟨by rfl, ?_⟩) (by assumption) ?_; rotate_left; · (intro w' hSw; (try dsimp only at hSw); go_simp; (try with_reducible rfl))
      try simp only [Act.put, List.setIfInBounds_toArray, List.set_cons_zero, List.set_cons_succ]
      refine take_to (i := 2) (d := some 19) (v := ?_) (l' := #[true, true, true, false, false, false, false, false, false, false, false, false, false, false, false, false, false, false, false, false, false, false, false, false, false, false, false, false]) rfl rfl (by kernel_rfl) (by kernel_rfl) (by kernel_rfl) (by kernel_rfl) (fun _ _ _ h => h) (Or.inl ⟨by rfl, ?_⟩) (by assumption) ?_; rotate_left; · (intro w' hSw; (try dsimp only at hSw); go_simp; (try with_reducible rfl))
      try simp only [Act.put, List.setIfInBounds_toArray, List.set_cons_zero, List.set_cons_succ]
      refine take_to (i := 3) (d := some 20) (v := ?_) (l' := #[true, true, true, true, false, false, false, false, false, false, false, false, false, false, false, false, false, false, false, false, false, false, false, false, false, false, false, false]) rfl rfl (by kernel_rfl) (by kernel_rfl) (by kernel_rfl) (by kernel_rfl) (fun _ _ _ h => h) (Or.inl ⟨by rfl, ?_⟩) (by assumption) ?_; rotate_left; · (intro w' hSw; (try dsimp only at hSw); go_simp; (try with_reducible rfl))
      try simp only [Act.put, List.setIfInBounds_toArray, List.set_cons_zero, List.set_cons_succ]
      refine take_to (i := 4) (d := some 21) (v := ?_) (l' := #[true, true, true, true, true, false, false, false, false, false, false, false, false, false, false, false, false, false, false, false, false, false, false, false, false, false, false, false]) rfl rfl (by kernel_rfl) (by kernel_rfl) (by kernel_rfl) (by kernel_rfl) (fun _ _ _ h => h) (Or.inl ⟨by rfl, ?_⟩) (by assumption) ?_; rotate_left; · (intro w' hSw; (try dsimp only at hSw); go_simp; (try with_reducible rfl))
      try simp only [Act.put, List.setIfInBounds_toArray, List.set_cons_zero, List.set_cons_succ]
      refine take_to (i := 5) (d := some 22) (v := ?_) (l' := #[true, true, true, true, true, true, false, false, false, false, false, false, false, false, false, false, false, false, false, false, false, false, false, false, false, false, false, false]) rfl rfl (by kernel_rfl) (by kernel_rfl) (by kernel_rfl) (by kernel_rfl) (fun _ _ _ h => h) (Or.inl ⟨by rfl, ?_⟩) (by assumption) ?_; rotate_left; · (intro w' hSw; (try dsimp only at hSw); go_simp; (try with_reducible rfl))
      try simp only [Act.put, List.setIfInBounds_toArray, List.set_cons_zero, List.set_cons_succ]
      refine take_to (i := 6) (d := some 23) (v := ?_) (l' := #[true, true, true, true, true, true, true, false, false, false, false, false, false, false, false, false, false, false, false, false, false, false, false, false, false, false, false, false]) rfl rfl (by kernel_rfl) (by kernel_rfl) (by kernel_rfl) (by kernel_rfl) (fun _ _ _ h => h) (Or.inl ⟨by rfl, ?_⟩) (by assumption) ?_; rotate_left; · (intro w' hSw; (try dsimp only at hSw); go_simp; (try with_reducible rfl))
      try simp only [Act.put, List.setIfInBounds_toArray, List.set_cons_zero, List.set_cons_succ]
      refine take_to (i := 9) (d := some 26) (v := ?_) (l' := #[true, true, true, true, true, true, true, false, false, true, false, false, false, false, false, false, false, false, false, false, false, false, false, false, false, false, false, false]) rfl rfl (by kernel_rfl) (by kernel_rfl) (by kernel_rfl) (by kernel_rfl) (fun _ _ _ h => h) (Or.inl ⟨by rfl, ?_⟩) (by assumption) ?_; rotate_left; · (intro w' hSw; (try dsimp only at hSw); go_simp; (try with_reducible rfl))
      try simp only [Act.put, List.setIfInBounds_toArray, List.set_cons_zero, List.set_cons_succ]
      refine take_to (i := 10) (d := some 27) (v := ?_) (l' := #[true, true, true, true, true, true, true, false, false, true, true, false, false, false, false, false, false, false, false, false, false, false, false, false, false, false, false, false]) rfl rfl (by kernel_rfl) (by kernel_rfl) (by kernel_rfl) (by kernel_rfl) (fun _ _ _ h => h) (Or.inl ⟨by rfl, ?_⟩) (by assumption) ?_; rotate_left; · (intro w' hSw; (try dsimp only at hSw); go_simp; (try with_reducible rfl))
      try simp only [Act.put, List.setIfInBounds_toArray, List.set_cons_zero, List.set_cons_succ]
      refine take_to (i := 11) (d := some 28) (v := ?_) (l' := #[true, true, true, true, true, true, true, false, false, true, true, true, false, false, false, false, false, false, false, false, false, false, false, false, false, false, false, false]) rfl rfl (by kernel_rfl) (by kernel_rfl) (by kernel_rfl) (by kernel_rfl) (fun _ _ _ h => h) (Or.inl ⟨by rfl, ?_⟩) (by assumption) ?_; rotate_left; · (intro w' hSw; (try dsimp only at hSw); go_simp; (try with_reducible rfl))
      try simp only [Act.put, List.setIfInBounds_toArray, List.set_cons_zero, List.set_cons_succ]
      refine take_to (i := 12) (d := some 29) (v := ?_) (l' := #[true, true, true, true, true, true, true, false, false, true, true, true, true, false, false, false, false, false, false, false, false, false, false, false, false, false, false, false]) rfl rfl (by kernel_rfl) (by kernel_rfl) (by kernel_rfl) (by kernel_rfl) (fun _ _ _ h => h) (Or.inl ⟨by rfl, ?_⟩) (by assumption) ?_; rotate_left; · (intro w' hSw; (try dsimp only at hSw); go_simp; (try with_reducible rfl))
      try simp only [Act.put, List.setIfInBounds_toArray, List.set_cons_zero, List.set_cons_succ]
      refine take_to (i := 13) (d := some 30) (v := ?_) (l' := #[true, true, true, true, true, true, true, false, false, true, true, true, true, true, false, false, false, false, false, false, false, false, false, false, false, false, false, false]) rfl rfl (by kernel_rfl) (by kernel_rfl) (by kernel_rfl) (by kernel_rfl) (fun _ _ _ h => h) (Or.inl ⟨by rfl, ?_⟩) (by assumption) ?_; rotate_left; · (intro w' hSw; (try dsimp only at hSw); go_simp; (try with_reducible rfl))
      try simp only [Act.put, List.setIfInBounds_toArray, List.set_cons_zero, List.set_cons_succ]
      refine take_to (i := 14) (d := some 31) (v := ?_) (l' := #[true, true, true, true, true, true, true, false, false, true, true, true, true, true, true, false, false, false, false, false, false, false, false, false, false, false, false, false]) rfl rfl (by kernel_rfl) (by kernel_rfl) (by kernel_rfl) (by kernel_rfl) (fun _ _ _ h => h) (Or.inl ⟨by rfl, ?_⟩) (by assumption) ?_; rotate_left; · (intro w' hSw; (try dsimp only at hSw); go_simp; (try with_reducible rfl))
      try simp only [Act.put, List.setIfInBounds_toArray, List.set_cons_zero, List.set_cons_succ]
      refine take_to (i := 17) (d := some 34) (v := ?_) (l' := #[true, true, true, true, true, true, true, false, false, true, true, true, true, true, true, false, false, true, false, false, false, false, false, false, false, false, false, false]) rfl rfl (by kernel_rfl) (by kernel_rfl) (by kernel_rfl) (by kernel_rfl) (fun _ _ _ h => h) (Or.inl ⟨by rfl, ?_⟩) (by assumption) ?_; rotate_left; · (intro w' hSw; (try dsimp only at hSw); go_simp; (try with_reducible rfl))
      try simp only [Act.put, List.setIfInBounds_toArray, List.set_cons_zero, List.set_cons_succ]
      refine take_to (i := 18) (d := some 35) (v := ?_) (l' := #[true, true, true, true, true, true, true, false, false, true, true, true, true, true, true, false, false, true, true, false, false, false, false, false, false, false, false, false]) rfl rfl (by kernel_rfl) (by kernel_rfl) (by kernel_rfl) (by kernel_rfl) (fun _ _ _ h => h) (Or.inl ⟨by rfl, ?_⟩) (by assumption) ?_; rotate_left; · (intro w' hSw; (try dsimp only at hSw); go_simp; (try with_reducible rfl))
      try simp only [Act.put, List.setIfInBounds_toArray, List.set_cons_zero, List.set_cons_succ]
      refine take_to (i := 19) (d := some 36) (v := ?_) (l' := #[true, true, true, true, true, true, true, false, false, true, true, true, true, true, true, false, false, true, true, true, false, false, false, false, false, false, false, false]) rfl rfl (by kernel_rfl) (by kernel_rfl) (by kernel_rfl) (by kernel_rfl) (fun _ _ _ h => h) (Or.inl ⟨by rfl, ?_⟩) (by assumption) ?_; rotate_left; · (intro w' hSw; (try dsimp only at hSw); go_simp; (try with_reducible rfl))
      try simp only [Act.put, List.setIfInBounds_toArray, List.set_cons_zero, List.set_cons_succ]
      refine take_to (i := 20) (d := some 37) (v := ?_) (l' := #[true, true, true, true, true, true, true, false, false, true, true, true, true, true, true, false, false, true, true, true, true, false, false, false, false, false, false, false]) rfl rfl (by kernel_rfl) (by kernel_rfl) (by kernel_rfl) (by kernel_rfl) (fun _ _ _ h => h) (Or.inl ⟨by rfl, ?_⟩) (by assumption) ?_; rotate_left; · (intro w' hSw; (try dsimp only at hSw); go_simp; (try with_reducible rfl))
      try simp only [Act.put, List.setIfInBounds_toArray, List.set_cons_zero, List.set_cons_succ]
      refine take_to (i := 23) (d := some 40) (v := ?_) (l' := #[true, true, true, true, true, true, true, false, false, true, true, true, true, true, true, false, false, true, true, true, true, false, false, true, false, false, false, false]) rfl rfl (by kernel_rfl) (by kernel_rfl) (by kernel_rfl) (by kernel_rfl) (fun _ _ _ h => h) (Or.inl ⟨by rfl, ?_⟩) (by assumption) ?_; rotate_left; · (intro w' hSw; (try dsimp only at hSw); go_simp; (try with_reducible rfl))
      try simp only [Act.put, List.setIfInBounds_toArray, List.set_cons_zero, List.set_cons_succ]
      refine take_to (i := 24) (d := some 41) (v := ?_) (l' := #[true, true, true, true, true, true, true, false, false, true, true, true, true, true, true, false, false, true, true, true, true, false, false, true, true, false, false, false]) rfl rfl (by kernel_rfl) (by kernel_rfl) (by kernel_rfl) (by kernel_rfl) (fun _ _ _ h => h) (Or.inl ⟨by rfl, ?_⟩) (by assumption) ?_; rotate_left; · (intro w' hSw; (try dsimp only at hSw); go_simp; (try with_reducible rfl))
      try simp only [Act.put, List.setIfInBounds_toArray, List.set_cons_zero, List.set_cons_succ]
      refine three_to (i := 7) (j := 15) (k := 21) (l1 := #[true, true, true, true, true, true, true, true, false, true, true, true, true, true, true, false, false, true, true, true, true, false, false, true, true, false, false, false]) (l2 := #[true, true, true, true, true, true, true, false, false, true, true, true, true, true, true, true, false, true, true, true, true, false, false, true, true, false, false, false]) (l3 := #[true, true, true, true, true, true, true, false, false, true, true, true, true, true, true, false, false, true, true, true, true, true, false, true, true, false, false, false]) rfl rfl rfl (by kernel_rfl) (by kernel_rfl) (by kernel_rfl) (by kernel_rfl) (fun K hK => ?_) (fun K hK => ?_) (fun K hK => ?_)
      · skip
        go_simp
        have hal := below_al V2 (.cells #[.slice (some p1) i 3, .slice (some p2) (3 - i) (3 - i)] 22)
        try replace HR1 := Lib.hid (laid_go HR1.out hal)
        try replace HR2 := Lib.hid (laid_go HR2.out hal)
        try replace HR3 := Lib.hid (laid_go HR3.out hal)
        have HR1 := Lib.hid (laid_at (W := V2) (o := (.cells #[.slice (some p1) i 3, .slice (some p2) (3 - i) (3 - i)] 22)) rfl)
        replace HL := Lib.hid (HL.out.go hal)
        clear hal
        generalize V2.alloc (.cells #[.slice (some p1) i 3, .slice (some p2) (3 - i) (3 - i)] 22) = V3 at *
        generalize V2.heap.size = r1 at *
        rename World => V2
        refine hK.out _ _ (by first | exact HL.out.bel | exact (HL.out.go (Below.refl _ _).drew).bel) (fun hHeld => ?_)
        clear hK K
        try simp only [Act.put, List.setIfInBounds_toArray, List.set_cons_zero, List.set_cons_succ]
        refine take_to (i := 8) (d := some 25) (v := ?_) (l' := #[true, true, true, true, true, true, true, true, true, true, true, true, true, true, true, false, false, true, true, true, true, false, false, true, true, false, false, false]) rfl rfl (by kernel_rfl) (by kernel_rfl) (by kernel_rfl) (by kernel_rfl) (fun _ _ _ h => h) (Or.inl ⟨by rfl, ?_⟩) (by assumption) ?_; rotate_left; · (intro w' hSw; (try dsimp only at hSw); go_simp; (try with_reducible rfl))
        try simp only [Act.put, List.setIfInBounds_toArray, List.set_cons_zero, List.set_cons_succ]
        refine two_to (i := 15) (j := 21) (l1 := #[true, true, true, true, true, true, true, true, true, true, true, true, true, true, true, true, false, true, true, true, true, false, false, true, true, false, false, false]) (l2 := #[true, true, true, true, true, true, true, true, true, true, true, true, true, true, true, false, false, true, true, true, true, true, false, true, true, false, false, false]) rfl rfl (by kernel_rfl) (by kernel_rfl) (by kernel_rfl) (fun K hK => ?_) (fun K hK => ?_)
        · skip
          go_simp
          have hal := below_al V2 (.cells #[.slice (some p2) (3 - i) (3 - i)] 22)
          try replace HR1 := Lib.hid (laid_go HR1.out hal)
          try replace HR2 := Lib.hid (laid_go HR2.out hal)
          try replace HR3 := Lib.hid (laid_go HR3.out hal)
          have HR2 := Lib.hid (laid_at (W := V2) (o := (.cells #[.slice (some p2) (3 - i) (3 - i)] 22)) rfl)
          replace HL := Lib.hid (HL.out.go hal)
          clear hal
          generalize V2.alloc (.cells #[.slice (some p2) (3 - i) (3 - i)] 22) = V3 at *
          generalize V2.heap.size = r2 at *
          rename World => V2
          refine hK.out _ _ (by first | exact HL.out.bel | exact (HL.out.go (Below.refl _ _).drew).bel) (fun hHeld => ?_)
          clear hK K
          try simp only [Act.put, List.setIfInBounds_toArray, List.set_cons_zero, List.set_cons_succ]
          refine take_to (i := 16) (d := some 33) (v := ?_) (l' := #[true, true, true, true, true, true, true, true, true, true, true, true, true, true, true, true, true, true, true, true, true, false, false, true, true, false, false, false]) rfl rfl (by kernel_rfl) (by kernel_rfl) (by kernel_rfl) (by kernel_rfl) (fun _ _ _ h => h) (Or.inl ⟨by rfl, ?_⟩) (by assumption) ?_; rotate_left; · (intro w' hSw; (try dsimp only at hSw); go_simp; (try with_reducible rfl))
          try simp only [Act.put, List.setIfInBounds_toArray, List.set_cons_zero, List.set_cons_succ]
          refine one_to (i := 21) (l' := #[true, true, true, true, true, true, true, true, true, true, true, true, true, true, true, true, true, true, true, true, true, true, false, true, true, false, false, false]) rfl (by kernel_rfl) (by kernel_rfl) (fun K hK => ?_)
          go_simp
          have hal := below_al V2 (.cells #[.slice (some p1) i 3, .slice none 0 0] 22)
          try replace HR1 := Lib.hid (laid_go HR1.out hal)
          try replace HR2 := Lib.hid (laid_go HR2.out hal)
          try replace HR3 := Lib.hid (laid_go HR3.out hal)
          have HR3 := Lib.hid (laid_at (W := V2) (o := (.cells #[.slice (some p1) i 3, .slice none 0 0] 22)) rfl)
          replace HL := Lib.hid (HL.out.go hal)
          clear hal
          generalize V2.alloc (.cells #[.slice (some p1) i 3, .slice none 0 0] 22) = V3 at *
          generalize V2.heap.size = r3 at *
          rename World => V2
          refine hK.out _ _ (by first | exact HL.out.bel | exact (HL.out.go (Below.refl _ _).drew).bel) (fun hHeld => ?_)
          clear hK K
          try simp only [Act.put, List.setIfInBounds_toArray, List.set_cons_zero, List.set_cons_succ]
          refine take_to (i := 22) (d := some 39) (v := ?_) (l' := #[true, true, true, true, true, true, true, true, true, true, true, true, true, true, true, true, true, true, true, true, true, true, true, true, true, false, false, false]) rfl rfl (by kernel_rfl) (by kernel_rfl) (by kernel_rfl) (by kernel_rfl) (fun _ _ _ h => h) (Or.inl ⟨by rfl, ?_⟩) (by assumption) ?_; rotate_left; · (intro w' hSw; (try dsimp only at hSw); go_simp; (try with_reducible rfl))
          try simp only [Act.put, List.setIfInBounds_toArray, List.set_cons_zero, List.set_cons_succ]
          refine one_to (i := 25) (l' := #[true, true, true, true, true, true, true, true, true, true, true, true, true, true, true, true, true, true, true, true, true, true, true, true, true, true, false, false]) rfl (by kernel_rfl) (by kernel_rfl) (fun K hK => ?_)
          have HZ := Lib.hid (show ∀ j, j < 4 → AE V2 (ask4 r1 r2 r3 ab p1 p2 i j) from lt4 (ae_A1 hi3 hq1.out hq2.out HL.out.abc HR1.out) (ae_A2 hi3 hq1.out hq2.out HL.out.abc HR2.out) (ae_A3 hi3 hq1.out HL.out.abc HR3.out) (drawA_there V2 (i : Int) hwf))
          refine wp_sliceA 4 _ rfl [#[.int .i64 0, .slice none 0 0, .slice (some ⟨r1, 0, none⟩) 2 2, .int .i64 0], #[.int .i64 1, .slice (some p1) i 3, .slice (some ⟨r2, 0, none⟩) 1 1, .int .i64 0], #[.int .i64 1, .slice (some ⟨ab, 0, none⟩) 3 3, .slice (some ⟨r3, 0, none⟩) 2 2, .int .i64 0], #[.int .i64 2, .slice none 0 0, .slice none 0 0, .int .i64 (i : Int)]] (by simp) rfl (by omega) (by omega) (by rfl) ?_
          have hal := below_al V2 (.cells (([#[.int .i64 0, .slice none 0 0, .slice (some ⟨r1, 0, none⟩) 2 2, .int .i64 0], #[.int .i64 1, .slice (some p1) i 3, .slice (some ⟨r2, 0, none⟩) 1 1, .int .i64 0], #[.int .i64 1, .slice (some ⟨ab, 0, none⟩) 3 3, .slice (some ⟨r3, 0, none⟩) 2 2, .int .i64 0], #[.int .i64 2, .slice none 0 0, .slice none 0 0, .int .i64 (i : Int)]] : List (Array Value)).flatMap fun X => X.toList).toArray 38)
          have hnb := laid_at (W := V2) (o := .cells (([#[.int .i64 0, .slice none 0 0, .slice (some ⟨r1, 0, none⟩) 2 2, .int .i64 0], #[.int .i64 1, .slice (some p1) i 3, .slice (some ⟨r2, 0, none⟩) 1 1, .int .i64 0], #[.int .i64 1, .slice (some ⟨ab, 0, none⟩) 3 3, .slice (some ⟨r3, 0, none⟩) 2 2, .int .i64 0], #[.int .i64 2, .slice none 0 0, .slice none 0 0, .int .i64 (i : Int)]] : List (Array Value)).flatMap fun X => X.toList).toArray 38) rfl
          have HNB := Lib.hid hnb
          replace HZ := Lib.hid (fun j hj => (HZ.out j hj).go (AC.bel hal))
          replace HL := Lib.hid (HL.out.go hal)
          clear hal hnb
          generalize V2.alloc _ = V3 at *
          generalize V2.heap.size = nb at *
          rename World => V2
          refine hK.out _ _ (by first | exact HL.out.bel | exact (HL.out.go (Below.refl _ _).drew).bel) (fun hHeld => ?_)
          clear hK K
          try simp only [Act.put, List.setIfInBounds_toArray, List.set_cons_zero, List.set_cons_succ]
          refine one_to (i := 26) (l' := #[true, true, true, true, true, true, true, true, true, true, true, true, true, true, true, true, true, true, true, true, true, true, true, true, true, true, true, false]) rfl (by kernel_rfl) (by kernel_rfl) (fun K hK => ?_)
          obtain ⟨ie, hie, ⟨z, hz, hzs⟩, hz2, hz3⟩ := infoAskAll
          refine wp_append_own _ _ _ 23 rfl b0 38 ie z 4 64 Tryz.underlying23 hie hz hz2 hz3 hzs (by omega) _ _ _ rfl HL.out.own ⟨nb, 0, none⟩ 4 4 (askRL (ask4 r1 r2 r3 ab p1 p2 i) 4) rfl (by rw [askRL_len]) (fun j u hj => by rw [Go.WideShapes.add_plain, Nat.zero_add, cell_of_row V2 nb j _ _ (0, 0) HNB.out]; rw [ask4_cells] at hj; simpa using hj) (one_asks _ 4) (by unfold maxLen; omega) (by omega) HL.out.lo.2 (fun v2 U3 hown2 hgrow _ => ?_)
          have HL3 := Lib.hid (HL.out.more HZ.out hown2 hgrow)
          clear hown2 hgrow hie hz hzs hz2 hz3
          refine hK.out _ _ (by exact HL3.out.bel) (fun hHeld => ?_)
          clear hK K
          try simp only [Act.put, List.setIfInBounds_toArray, List.set_cons_zero, List.set_cons_succ]
          refine take_to (i := 27) (d := some 2) (v := ?_) (l' := #[true, true, true, true, true, true, true, true, true, true, true, true, true, true, true, true, true, true, true, true, true, true, true, true, true, true, true, true]) rfl rfl (by kernel_rfl) (by kernel_rfl) (by kernel_rfl) (by kernel_rfl) (fun _ _ _ h => h) (Or.inl ⟨by rfl, ?_⟩) (by assumption) ?_; rotate_left; · (intro w' hSw; (try dsimp only at hSw); go_simp; (try with_reducible rfl))
          try simp only [Act.put, List.setIfInBounds_toArray, List.set_cons_zero, List.set_cons_succ]
          refine wpAnyH_done (by kernel_rfl) ?_ _
          refine NoPanic.normal ?_
          clear hHeld
          go_wp2
          go_roundw
          case rel => exact ⟨i + 1, _, by omega, by go_num, by rw [show 4 * (i + 1) = 4 * i + 4 by omega]; exact HL3.out⟩
          case measure => simp [intOf]; omega
        · skip
          go_simp
          have hal := below_al V2 (.cells #[.slice (some p1) i 3, .slice none 0 0] 22)
          try replace HR1 := Lib.hid (laid_go HR1.out hal)
          try replace HR2 := Lib.hid (laid_go HR2.out hal)
          try replace HR3 := Lib.hid (laid_go HR3.out hal)
          have HR3 := Lib.hid (laid_at (W := V2) (o := (.cells #[.slice (some p1) i 3, .slice none 0 0] 22)) rfl)
          replace HL := Lib.hid (HL.out.go hal)
          clear hal
          generalize V2.alloc (.cells #[.slice (some p1) i 3, .slice none 0 0] 22) = V3 at *
          generalize V2.heap.size = r3 at *
          rename World => V2
          refine hK.out _ _ (by first | exact HL.out.bel | exact (HL.out.go (Below.refl _ _).drew).bel) (fun hHeld => ?_)
          clear hK K
          try simp only [Act.put, List.setIfInBounds_toArray, List.set_cons_zero, List.set_cons_succ]
          refine take_to (i := 22) (d := some 39) (v := ?_) (l' := #[true, true, true, true, true, true, true, true, true, true, true, true, true, true, true, false, false, true, true, true, true, true, true, true, true, false, false, false]) rfl rfl (by kernel_rfl) (by kernel_rfl) (by kernel_rfl) (by kernel_rfl) (fun _ _ _ h => h) (Or.inl ⟨by rfl, ?_⟩) (by assumption) ?_; rotate_left; · (intro w' hSw; (try dsimp only at hSw); go_simp; (try with_reducible rfl))
          try simp only [Act.put, List.setIfInBounds_toArray, List.set_cons_zero, List.set_cons_succ]
          refine one_to (i := 15) (l' := #[true, true, true, true, true, true, true, true, true, true, true, true, true, true, true, true, false, true, true, true, true, true, true, true, true, false, false, false]) rfl (by kernel_rfl) (by kernel_rfl) (fun K hK => ?_)
          go_simp
          have hal := below_al V2 (.cells #[.slice (some p2) (3 - i) (3 - i)] 22)
          try replace HR1 := Lib.hid (laid_go HR1.out hal)
          try replace HR2 := Lib.hid (laid_go HR2.out hal)
          try replace HR3 := Lib.hid (laid_go HR3.out hal)
          have HR2 := Lib.hid (laid_at (W := V2) (o := (.cells #[.slice (some p2) (3 - i) (3 - i)] 22)) rfl)
          replace HL := Lib.hid (HL.out.go hal)
          clear hal
          generalize V2.alloc (.cells #[.slice (some p2) (3 - i) (3 - i)] 22) = V3 at *
          generalize V2.heap.size = r2 at *
          rename World => V2
          refine hK.out _ _ (by first | exact HL.out.bel | exact (HL.out.go (Below.refl _ _).drew).bel) (fun hHeld => ?_)
          clear hK K
          try simp only [Act.put, List.setIfInBounds_toArray, List.set_cons_zero, List.set_cons_succ]
          refine take_to (i := 16) (d := some 33) (v := ?_) (l' := #[true, true, true, true, true, true, true, true, true, true, true, true, true, true, true, true, true, true, true, true, true, true, true, true, true, false, false, false]) rfl rfl (by kernel_rfl) (by kernel_rfl) (by kernel_rfl) (by kernel_rfl) (fun _ _ _ h => h) (Or.inl ⟨by rfl, ?_⟩) (by assumption) ?_; rotate_left; · (intro w' hSw; (try dsimp only at hSw); go_simp; (try with_reducible rfl))
          try simp only [Act.put, List.setIfInBounds_toArray, List.set_cons_zero, List.set_cons_succ]
          refine one_to (i := 25) (l' := #[true, true, true, true, true, true, true, true, true, true, true, true, true, true, true, true, true, true, true, true, true, true, true, true, true, true, false, false]) rfl (by kernel_rfl) (by kernel_rfl) (fun K hK => ?_)
          have HZ := Lib.hid (show ∀ j, j < 4 → AE V2 (ask4 r1 r2 r3 ab p1 p2 i j) from lt4 (ae_A1 hi3 hq1.out hq2.out HL.out.abc HR1.out) (ae_A2 hi3 hq1.out hq2.out HL.out.abc HR2.out) (ae_A3 hi3 hq1.out HL.out.abc HR3.out) (drawA_there V2 (i : Int) hwf))
          refine wp_sliceA 4 _ rfl [#[.int .i64 0, .slice none 0 0, .slice (some ⟨r1, 0, none⟩) 2 2, .int .i64 0], #[.int .i64 1, .slice (some p1) i 3, .slice (some ⟨r2, 0, none⟩) 1 1, .int .i64 0], #[.int .i64 1, .slice (some ⟨ab, 0, none⟩) 3 3, .slice (some ⟨r3, 0, none⟩) 2 2, .int .i64 0], #[.int .i64 2, .slice none 0 0, .slice none 0 0, .int .i64 (i : Int)]] (by simp) rfl (by omega) (by omega) (by rfl) ?_
          have hal := below_al V2 (.cells (([#[.int .i64 0, .slice none 0 0, .slice (some ⟨r1, 0, none⟩) 2 2, .int .i64 0], #[.int .i64 1, .slice (some p1) i 3, .slice (some ⟨r2, 0, none⟩) 1 1, .int .i64 0], #[.int .i64 1, .slice (some ⟨ab, 0, none⟩) 3 3, .slice (some ⟨r3, 0, none⟩) 2 2, .int .i64 0], #[.int .i64 2, .slice none 0 0, .slice none 0 0, .int .i64 (i : Int)]] : List (Array Value)).flatMap fun X => X.toList).toArray 38)
          have hnb := laid_at (W := V2) (o := .cells (([#[.int .i64 0, .slice none 0 0, .slice (some ⟨r1, 0, none⟩) 2 2, .int .i64 0], #[.int .i64 1, .slice (some p1) i 3, .slice (some ⟨r2, 0, none⟩) 1 1, .int .i64 0], #[.int .i64 1, .slice (some ⟨ab, 0, none⟩) 3 3, .slice (some ⟨r3, 0, none⟩) 2 2, .int .i64 0], #[.int .i64 2, .slice none 0 0, .slice none 0 0, .int .i64 (i : Int)]] : List (Array Value)).flatMap fun X => X.toList).toArray 38) rfl
          have HNB := Lib.hid hnb
          replace HZ := Lib.hid (fun j hj => (HZ.out j hj).go (AC.bel hal))
          replace HL := Lib.hid (HL.out.go hal)
          clear hal hnb
          generalize V2.alloc _ = V3 at *
          generalize V2.heap.size = nb at *
          rename World => V2
          refine hK.out _ _ (by first | exact HL.out.bel | exact (HL.out.go (Below.refl _ _).drew).bel) (fun hHeld => ?_)
          clear hK K
          try simp only [Act.put, List.setIfInBounds_toArray, List.set_cons_zero, List.set_cons_succ]
          refine one_to (i := 26) (l' := #[true, true, true, true, true, true, true, true, true, true, true, true, true, true, true, true, true, true, true, true, true, true, true, true, true, true, true, false]) rfl (by kernel_rfl) (by kernel_rfl) (fun K hK => ?_)
          obtain ⟨ie, hie, ⟨z, hz, hzs⟩, hz2, hz3⟩ := infoAskAll
          refine wp_append_own _ _ _ 23 rfl b0 38 ie z 4 64 Tryz.underlying23 hie hz hz2 hz3 hzs (by omega) _ _ _ rfl HL.out.own ⟨nb, 0, none⟩ 4 4 (askRL (ask4 r1 r2 r3 ab p1 p2 i) 4) rfl (by rw [askRL_len]) (fun j u hj => by rw [Go.WideShapes.add_plain, Nat.zero_add, cell_of_row V2 nb j _ _ (0, 0) HNB.out]; rw [ask4_cells] at hj; simpa using hj) (one_asks _ 4) (by unfold maxLen; omega) (by omega) HL.out.lo.2 (fun v2 U3 hown2 hgrow _ => ?_)
          have HL3 := Lib.hid (HL.out.more HZ.out hown2 hgrow)
          clear hown2 hgrow hie hz hzs hz2 hz3
          refine hK.out _ _ (by exact HL3.out.bel) (fun hHeld => ?_)
          clear hK K
          try simp only [Act.put, List.setIfInBounds_toArray, List.set_cons_zero, List.set_cons_succ]
          refine take_to (i := 27) (d := some 2) (v := ?_) (l' := #[true, true, true, true, true, true, true, true, true, true, true, true, true, true, true, true, true, true, true, true, true, true, true, true, true, true, true, true]) rfl rfl (by kernel_rfl) (by kernel_rfl) (by kernel_rfl) (by kernel_rfl) (fun _ _ _ h => h) (Or.inl ⟨by rfl, ?_⟩) (by assumption) ?_; rotate_left; · (intro w' hSw; (try dsimp only at hSw); go_simp; (try with_reducible rfl))
          try simp only [Act.put, List.setIfInBounds_toArray, List.set_cons_zero, List.set_cons_succ]
          refine wpAnyH_done (by kernel_rfl) ?_ _
          refine NoPanic.normal ?_
          clear hHeld
          go_wp2
          go_roundw
          case rel => exact ⟨i + 1, _, by omega, by go_num, by rw [show 4 * (i + 1) = 4 * i + 4 by omega]; exact HL3.out⟩
          case measure => simp [intOf]; omega
      · skip
        go_simp
        have hal := below_al V2 (.cells #[.slice (some p2) (3 - i) (3 - i)] 22)
        try replace HR1 := Lib.hid (laid_go HR1.out hal)
        try replace HR2 := Lib.hid (laid_go HR2.out hal)
        try replace HR3 := Lib.hid (laid_go HR3.out hal)
        have HR2 := Lib.hid (laid_at (W := V2) (o := (.cells #[.slice (some p2) (3 - i) (3 - i)] 22)) rfl)
        replace HL := Lib.hid (HL.out.go hal)
        clear hal
        generalize V2.alloc (.cells #[.slice (some p2) (3 - i) (3 - i)] 22) = V3 at *
        generalize V2.heap.size = r2 at *
        rename World => V2
        refine hK.out _ _ (by first | exact HL.out.bel | exact (HL.out.go (Below.refl _ _).drew).bel) (fun hHeld => ?_)
        clear hK K
        try simp only [Act.put, List.setIfInBounds_toArray, List.set_cons_zero, List.set_cons_succ]
        refine take_to (i := 16) (d := some 33) (v := ?_) (l' := #[true, true, true, true, true, true, true, false, false, true, true, true, true, true, true, true, true, true, true, true, true, false, false, true, true, false, false, false]) rfl rfl (by kernel_rfl) (by kernel_rfl) (by kernel_rfl) (by kernel_rfl) (fun _ _ _ h => h) (Or.inl ⟨by rfl, ?_⟩) (by assumption) ?_; rotate_left; · (intro w' hSw; (try dsimp only at hSw); go_simp; (try with_reducible rfl))
        try simp only [Act.put, List.setIfInBounds_toArray, List.set_cons_zero, List.set_cons_succ]
        refine two_to (i := 7) (j := 21) (l1 := #[true, true, true, true, true, true, true, true, false, true, true, true, true, true, true, true, true, true, true, true, true, false, false, true, true, false, false, false]) (l2 := #[true, true, true, true, true, true, true, false, false, true, true, true, true, true, true, true, true, true, true, true, true, true, false, true, true, false, false, false]) rfl rfl (by kernel_rfl) (by kernel_rfl) (by kernel_rfl) (fun K hK => ?_) (fun K hK => ?_)
        · skip
          go_simp
          have hal := below_al V2 (.cells #[.slice (some p1) i 3, .slice (some p2) (3 - i) (3 - i)] 22)
          try replace HR1 := Lib.hid (laid_go HR1.out hal)
          try replace HR2 := Lib.hid (laid_go HR2.out hal)
          try replace HR3 := Lib.hid (laid_go HR3.out hal)
          have HR1 := Lib.hid (laid_at (W := V2) (o := (.cells #[.slice (some p1) i 3, .slice (some p2) (3 - i) (3 - i)] 22)) rfl)
          replace HL := Lib.hid (HL.out.go hal)
          clear hal
          generalize V2.alloc (.cells #[.slice (some p1) i 3, .slice (some p2) (3 - i) (3 - i)] 22) = V3 at *
          generalize V2.heap.size = r1 at *
          rename World => V2
          refine hK.out _ _ (by first | exact HL.out.bel | exact (HL.out.go (Below.refl _ _).drew).bel) (fun hHeld => ?_)
          clear hK K
          try simp only [Act.put, List.setIfInBounds_toArray, List.set_cons_zero, List.set_cons_succ]
          refine take_to (i := 8) (d := some 25) (v := ?_) (l' := #[true, true, true, true, true, true, true, true, true, true, true, true, true, true, true, true, true, true, true, true, true, false, false, true, true, false, false, false]) rfl rfl (by kernel_rfl) (by kernel_rfl) (by kernel_rfl) (by kernel_rfl) (fun _ _ _ h => h) (Or.inl ⟨by rfl, ?_⟩) (by assumption) ?_; rotate_left; · (intro w' hSw; (try dsimp only at hSw); go_simp; (try with_reducible rfl))
          try simp only [Act.put, List.setIfInBounds_toArray, List.set_cons_zero, List.set_cons_succ]
          refine one_to (i := 21) (l' := #[true, true, true, true, true, true, true, true, true, true, true, true, true, true, true, true, true, true, true, true, true, true, false, true, true, false, false, false]) rfl (by kernel_rfl) (by kernel_rfl) (fun K hK => ?_)
          go_simp
          have hal := below_al V2 (.cells #[.slice (some p1) i 3, .slice none 0 0] 22)
          try replace HR1 := Lib.hid (laid_go HR1.out hal)
          try replace HR2 := Lib.hid (laid_go HR2.out hal)
          try replace HR3 := Lib.hid (laid_go HR3.out hal)
          have HR3 := Lib.hid (laid_at (W := V2) (o := (.cells #[.slice (some p1) i 3, .slice none 0 0] 22)) rfl)
          replace HL := Lib.hid (HL.out.go hal)
          clear hal
          generalize V2.alloc (.cells #[.slice (some p1) i 3, .slice none 0 0] 22) = V3 at *
          generalize V2.heap.size = r3 at *
          rename World => V2
          refine hK.out _ _ (by first | exact HL.out.bel | exact (HL.out.go (Below.refl _ _).drew).bel) (fun hHeld => ?_)
          clear hK K
          try simp only [Act.put, List.setIfInBounds_toArray, List.set_cons_zero, List.set_cons_succ]
          refine take_to (i := 22) (d := some 39) (v := ?_) (l' := #[true, true, true, true, true, true, true, true, true, true, true, true, true, true, true, true, true, true, true, true, true, true, true, true, true, false, false, false]) rfl rfl (by kernel_rfl) (by kernel_rfl) (by kernel_rfl) (by kernel_rfl) (fun _ _ _ h => h) (Or.inl ⟨by rfl, ?_⟩) (by assumption) ?_; rotate_left; · (intro w' hSw; (try dsimp only at hSw); go_simp; (try with_reducible rfl))
          try simp only [Act.put, List.setIfInBounds_toArray, List.set_cons_zero, List.set_cons_succ]
          refine one_to (i := 25) (l' := #[true, true, true, true, true, true, true, true, true, true, true, true, true, true, true, true, true, true, true, true, true, true, true, true, true, true, false, false]) rfl (by kernel_rfl) (by kernel_rfl) (fun K hK => ?_)
          have HZ := Lib.hid (show ∀ j, j < 4 → AE V2 (ask4 r1 r2 r3 ab p1 p2 i j) from lt4 (ae_A1 hi3 hq1.out hq2.out HL.out.abc HR1.out) (ae_A2 hi3 hq1.out hq2.out HL.out.abc HR2.out) (ae_A3 hi3 hq1.out HL.out.abc HR3.out) (drawA_there V2 (i : Int) hwf))
          refine wp_sliceA 4 _ rfl [#[.int .i64 0, .slice none 0 0, .slice (some ⟨r1, 0, none⟩) 2 2, .int .i64 0], #[.int .i64 1, .slice (some p1) i 3, .slice (some ⟨r2, 0, none⟩) 1 1, .int .i64 0], #[.int .i64 1, .slice (some ⟨ab, 0, none⟩) 3 3, .slice (some ⟨r3, 0, none⟩) 2 2, .int .i64 0], #[.int .i64 2, .slice none 0 0, .slice none 0 0, .int .i64 (i : Int)]] (by simp) rfl (by omega) (by omega) (by rfl) ?_
          have hal := below_al V2 (.cells (([#[.int .i64 0, .slice none 0 0, .slice (some ⟨r1, 0, none⟩) 2 2, .int .i64 0], #[.int .i64 1, .slice (some p1) i 3, .slice (some ⟨r2, 0, none⟩) 1 1, .int .i64 0], #[.int .i64 1, .slice (some ⟨ab, 0, none⟩) 3 3, .slice (some ⟨r3, 0, none⟩) 2 2, .int .i64 0], #[.int .i64 2, .slice none 0 0, .slice none 0 0, .int .i64 (i : Int)]] : List (Array Value)).flatMap fun X => X.toList).toArray 38)
          have hnb := laid_at (W := V2) (o := .cells (([#[.int .i64 0, .slice none 0 0, .slice (some ⟨r1, 0, none⟩) 2 2, .int .i64 0], #[.int .i64 1, .slice (some p1) i 3, .slice (some ⟨r2, 0, none⟩) 1 1, .int .i64 0], #[.int .i64 1, .slice (some ⟨ab, 0, none⟩) 3 3, .slice (some ⟨r3, 0, none⟩) 2 2, .int .i64 0], #[.int .i64 2, .slice none 0 0, .slice none 0 0, .int .i64 (i : Int)]] : List (Array Value)).flatMap fun X => X.toList).toArray 38) rfl
          have HNB := Lib.hid hnb
          replace HZ := Lib.hid (fun j hj => (HZ.out j hj).go (AC.bel hal))
          replace HL := Lib.hid (HL.out.go hal)
          clear hal hnb
          generalize V2.alloc _ = V3 at *
          generalize V2.heap.size = nb at *
          rename World => V2
          refine hK.out _ _ (by first | exact HL.out.bel | exact (HL.out.go (Below.refl _ _).drew).bel) (fun hHeld => ?_)
          clear hK K
          try simp only [Act.put, List.setIfInBounds_toArray, List.set_cons_zero, List.set_cons_succ]
          refine one_to (i := 26) (l' := #[true, true, true, true, true, true, true, true, true, true, true, true, true, true, true, true, true, true, true, true, true, true, true, true, true, true, true, false]) rfl (by kernel_rfl) (by kernel_rfl) (fun K hK => ?_)
          obtain ⟨ie, hie, ⟨z, hz, hzs⟩, hz2, hz3⟩ := infoAskAll
          refine wp_append_own _ _ _ 23 rfl b0 38 ie z 4 64 Tryz.underlying23 hie hz hz2 hz3 hzs (by omega) _ _ _ rfl HL.out.own ⟨nb, 0, none⟩ 4 4 (askRL (ask4 r1 r2 r3 ab p1 p2 i) 4) rfl (by rw [askRL_len]) (fun j u hj => by rw [Go.WideShapes.add_plain, Nat.zero_add, cell_of_row V2 nb j _ _ (0, 0) HNB.out]; rw [ask4_cells] at hj; simpa using hj) (one_asks _ 4) (by unfold maxLen; omega) (by omega) HL.out.lo.2 (fun v2 U3 hown2 hgrow _ => ?_)
          have HL3 := Lib.hid (HL.out.more HZ.out hown2 hgrow)
          clear hown2 hgrow hie hz hzs hz2 hz3
          refine hK.out _ _ (by exact HL3.out.bel) (fun hHeld => ?_)
          clear hK K
          try simp only [Act.put, List.setIfInBounds_toArray, List.set_cons_zero, List.set_cons_succ]
          refine take_to (i := 27) (d := some 2) (v := ?_) (l' := #[true, true, true, true, true, true, true, true, true, true, true, true, true, true, true, true, true, true, true, true, true, true, true, true, true, true, true, true]) rfl rfl (by kernel_rfl) (by kernel_rfl) (by kernel_rfl) (by kernel_rfl) (fun _ _ _ h => h) (Or.inl ⟨by rfl, ?_⟩) (by assumption) ?_; rotate_left; · (intro w' hSw; (try dsimp only at hSw); go_simp; (try with_reducible rfl))
          try simp only [Act.put, List.setIfInBounds_toArray, List.set_cons_zero, List.set_cons_succ]
          refine wpAnyH_done (by kernel_rfl) ?_ _
          refine NoPanic.normal ?_
          clear hHeld
          go_wp2
          go_roundw
          case rel => exact ⟨i + 1, _, by omega, by go_num, by rw [show 4 * (i + 1) = 4 * i + 4 by omega]; exact HL3.out⟩
          case measure => simp [intOf]; omega
        · skip
          go_simp
          have hal := below_al V2 (.cells #[.slice (some p1) i 3, .slice none 0 0] 22)
          try replace HR1 := Lib.hid (laid_go HR1.out hal)
          try replace HR2 := Lib.hid (laid_go HR2.out hal)
          try replace HR3 := Lib.hid (laid_go HR3.out hal)
          have HR3 := Lib.hid (laid_at (W := V2) (o := (.cells #[.slice (some p1) i 3, .slice none 0 0] 22)) rfl)
          replace HL := Lib.hid (HL.out.go hal)
          clear hal
          generalize V2.alloc (.cells #[.slice (some p1) i 3, .slice none 0 0] 22) = V3 at *
          generalize V2.heap.size = r3 at *
          rename World => V2
          refine hK.out _ _ (by first | exact HL.out.bel | exact (HL.out.go (Below.refl _ _).drew).bel) (fun hHeld => ?_)
          clear hK K
          try simp only [Act.put, List.setIfInBounds_toArray, List.set_cons_zero, List.set_cons_succ]
          refine take_to (i := 22) (d := some 39) (v := ?_) (l' := #[true, true, true, true, true, true, true, false, false, true, true, true, true, true, true, true, true, true, true, true, true, true, true, true, true, false, false, false]) rfl rfl (by kernel_rfl) (by kernel_rfl) (by kernel_rfl) (by kernel_rfl) (fun _ _ _ h => h) (Or.inl ⟨by rfl, ?_⟩) (by assumption) ?_; rotate_left; · (intro w' hSw; (try dsimp only at hSw); go_simp; (try with_reducible rfl))
          try simp only [Act.put, List.setIfInBounds_toArray, List.set_cons_zero, List.set_cons_succ]
          refine one_to (i := 7) (l' := #[true, true, true, true, true, true, true, true, false, true, true, true, true, true, true, true, true, true, true, true, true, true, true, true, true, false, false, false]) rfl (by kernel_rfl) (by kernel_rfl) (fun K hK => ?_)
          go_simp
          have hal := below_al V2 (.cells #[.slice (some p1) i 3, .slice (some p2) (3 - i) (3 - i)] 22)
          try replace HR1 := Lib.hid (laid_go HR1.out hal)
          try replace HR2 := Lib.hid (laid_go HR2.out hal)
          try replace HR3 := Lib.hid (laid_go HR3.out hal)
          have HR1 := Lib.hid (laid_at (W := V2) (o := (.cells #[.slice (some p1) i 3, .slice (some p2) (3 - i) (3 - i)] 22)) rfl)
          replace HL := Lib.hid (HL.out.go hal)
          clear hal
          generalize V2.alloc (.cells #[.slice (some p1) i 3, .slice (some p2) (3 - i) (3 - i)] 22) = V3 at *
          generalize V2.heap.size = r1 at *
          rename World => V2
          refine hK.out _ _ (by first | exact HL.out.bel | exact (HL.out.go (Below.refl _ _).drew).bel) (fun hHeld => ?_)
          clear hK K
          try simp only [Act.put, List.setIfInBounds_toArray, List.set_cons_zero, List.set_cons_succ]
          refine take_to (i := 8) (d := some 25) (v := ?_) (l' := #[true, true, true, true, true, true, true, true, true, true, true, true, true, true, true, true, true, true, true, true, true, true, true, true, true, false, false, false]) rfl rfl (by kernel_rfl) (by kernel_rfl) (by kernel_rfl) (by kernel_rfl) (fun _ _ _ h => h) (Or.inl ⟨by rfl, ?_⟩) (by assumption) ?_; rotate_left; · (intro w' hSw; (try dsimp only at hSw); go_simp; (try with_reducible rfl))
          try simp only [Act.put, List.setIfInBounds_toArray, List.set_cons_zero, List.set_cons_succ]
          refine one_to (i := 25) (l' := #[true, true, true, true, true, true, true, true, true, true, true, true, true, true, true, true, true, true, true, true, true, true, true, true, true, true, false, false]) rfl (by kernel_rfl) (by kernel_rfl) (fun K hK => ?_)
          have HZ := Lib.hid (show ∀ j, j < 4 → AE V2 (ask4 r1 r2 r3 ab p1 p2 i j) from lt4 (ae_A1 hi3 hq1.out hq2.out HL.out.abc HR1.out) (ae_A2 hi3 hq1.out hq2.out HL.out.abc HR2.out) (ae_A3 hi3 hq1.out HL.out.abc HR3.out) (drawA_there V2 (i : Int) hwf))
          refine wp_sliceA 4 _ rfl [#[.int .i64 0, .slice none 0 0, .slice (some ⟨r1, 0, none⟩) 2 2, .int .i64 0], #[.int .i64 1, .slice (some p1) i 3, .slice (some ⟨r2, 0, none⟩) 1 1, .int .i64 0], #[.int .i64 1, .slice (some ⟨ab, 0, none⟩) 3 3, .slice (some ⟨r3, 0, none⟩) 2 2, .int .i64 0], #[.int .i64 2, .slice none 0 0, .slice none 0 0, .int .i64 (i : Int)]] (by simp) rfl (by omega) (by omega) (by rfl) ?_
          have hal := below_al V2 (.cells (([#[.int .i64 0, .slice none 0 0, .slice (some ⟨r1, 0, none⟩) 2 2, .int .i64 0], #[.int .i64 1, .slice (some p1) i 3, .slice (some ⟨r2, 0, none⟩) 1 1, .int .i64 0], #[.int .i64 1, .slice (some ⟨ab, 0, none⟩) 3 3, .slice (some ⟨r3, 0, none⟩) 2 2, .int .i64 0], #[.int .i64 2, .slice none 0 0, .slice none 0 0, .int .i64 (i : Int)]] : List (Array Value)).flatMap fun X => X.toList).toArray 38)
          have hnb := laid_at (W := V2) (o := .cells (([#[.int .i64 0, .slice none 0 0, .slice (some ⟨r1, 0, none⟩) 2 2, .int .i64 0], #[.int .i64 1, .slice (some p1) i 3, .slice (some ⟨r2, 0, none⟩) 1 1, .int .i64 0], #[.int .i64 1, .slice (some ⟨ab, 0, none⟩) 3 3, .slice (some ⟨r3, 0, none⟩) 2 2, .int .i64 0], #[.int .i64 2, .slice none 0 0, .slice none 0 0, .int .i64 (i : Int)]] : List (Array Value)).flatMap fun X => X.toList).toArray 38) rfl
          have HNB := Lib.hid hnb
          replace HZ := Lib.hid (fun j hj => (HZ.out j hj).go (AC.bel hal))
          replace HL := Lib.hid (HL.out.go hal)
          clear hal hnb
          generalize V2.alloc _ = V3 at *
          generalize V2.heap.size = nb at *
          rename World => V2
          refine hK.out _ _ (by first | exact HL.out.bel | exact (HL.out.go (Below.refl _ _).drew).bel) (fun hHeld => ?_)
          clear hK K
          try simp only [Act.put, List.setIfInBounds_toArray, List.set_cons_zero, List.set_cons_succ]
          refine one_to (i := 26) (l' := #[true, true, true, true, true, true, true, true, true, true, true, true, true, true, true, true, true, true, true, true, true, true, true, true, true, true, true, false]) rfl (by kernel_rfl) (by kernel_rfl) (fun K hK => ?_)
          obtain ⟨ie, hie, ⟨z, hz, hzs⟩, hz2, hz3⟩ := infoAskAll
          refine wp_append_own _ _ _ 23 rfl b0 38 ie z 4 64 Tryz.underlying23 hie hz hz2 hz3 hzs (by omega) _ _ _ rfl HL.out.own ⟨nb, 0, none⟩ 4 4 (askRL (ask4 r1 r2 r3 ab p1 p2 i) 4) rfl (by rw [askRL_len]) (fun j u hj => by rw [Go.WideShapes.add_plain, Nat.zero_add, cell_of_row V2 nb j _ _ (0, 0) HNB.out]; rw [ask4_cells] at hj; simpa using hj) (one_asks _ 4) (by unfold maxLen; omega) (by omega) HL.out.lo.2 (fun v2 U3 hown2 hgrow _ => ?_)
          have HL3 := Lib.hid (HL.out.more HZ.out hown2 hgrow)
          clear hown2 hgrow hie hz hzs hz2 hz3
          refine hK.out _ _ (by exact HL3.out.bel) (fun hHeld => ?_)
          clear hK K
          try simp only [Act.put, List.setIfInBounds_toArray, List.set_cons_zero, List.set_cons_succ]
          refine take_to (i := 27) (d := some 2) (v := ?_) (l' := #[true, true, true, true, true, true, true, true, true, true, true, true, true, true, true, true, true, true, true, true, true, true, true, true, true, true, true, true]) rfl rfl (by kernel_rfl) (by kernel_rfl) (by kernel_rfl) (by kernel_rfl) (fun _ _ _ h => h) (Or.inl ⟨by rfl, ?_⟩) (by assumption) ?_; rotate_left; · (intro w' hSw; (try dsimp only at hSw); go_simp; (try with_reducible rfl))
          try simp only [Act.put, List.setIfInBounds_toArray, List.set_cons_zero, List.set_cons_succ]
          refine wpAnyH_done (by kernel_rfl) ?_ _
          refine NoPanic.normal ?_
          clear hHeld
          go_wp2
          go_roundw
          case rel => exact ⟨i + 1, _, by omega, by go_num, by rw [show 4 * (i + 1) = 4 * i + 4 by omega]; exact HL3.out⟩
          case measure => simp [intOf]; omega
      · skip
        go_simp
        have hal := below_al V2 (.cells #[.slice (some p1) i 3, .slice none 0 0] 22)
        try replace HR1 := Lib.hid (laid_go HR1.out hal)
        try replace HR2 := Lib.hid (laid_go HR2.out hal)
        try replace HR3 := Lib.hid (laid_go HR3.out hal)
        have HR3 := Lib.hid (laid_at (W := V2) (o := (.cells #[.slice (some p1) i 3, .slice none 0 0] 22)) rfl)
        replace HL := Lib.hid (HL.out.go hal)
        clear hal
        generalize V2.alloc (.cells #[.slice (some p1) i 3, .slice none 0 0] 22) = V3 at *
        generalize V2.heap.size = r3 at *
        rename World => V2
        refine hK.out _ _ (by first | exact HL.out.bel | exact (HL.out.go (Below.refl _ _).drew).bel) (fun hHeld => ?_)
        clear hK K
        try simp only [Act.put, List.setIfInBounds_toArray, List.set_cons_zero, List.set_cons_succ]
        refine take_to (i := 22) (d := some 39) (v := ?_) (l' := #[true, true, true, true, true, true, true, false, false, true, true, true, true, true, true, false, false, true, true, true, true, true, true, true, true, false, false, false]) rfl rfl (by kernel_rfl) (by kernel_rfl) (by kernel_rfl) (by kernel_rfl) (fun _ _ _ h => h) (Or.inl ⟨by rfl, ?_⟩) (by assumption) ?_; rotate_left; · (intro w' hSw; (try dsimp only at hSw); go_simp; (try with_reducible rfl))
        try simp only [Act.put, List.setIfInBounds_toArray, List.set_cons_zero, List.set_cons_succ]
        refine two_to (i := 7) (j := 15) (l1 := #[true, true, true, true, true, true, true, true, false, true, true, true, true, true, true, false, false, true, true, true, true, true, true, true, true, false, false, false]) (l2 := #[true, true, true, true, true, true, true, false, false, true, true, true, true, true, true, true, false, true, true, true, true, true, true, true, true, false, false, false]) rfl rfl (by kernel_rfl) (by kernel_rfl) (by kernel_rfl) (fun K hK => ?_) (fun K hK => ?_)
        · skip
          go_simp
          have hal := below_al V2 (.cells #[.slice (some p1) i 3, .slice (some p2) (3 - i) (3 - i)] 22)
          try replace HR1 := Lib.hid (laid_go HR1.out hal)
          try replace HR2 := Lib.hid (laid_go HR2.out hal)
          try replace HR3 := Lib.hid (laid_go HR3.out hal)
          have HR1 := Lib.hid (laid_at (W := V2) (o := (.cells #[.slice (some p1) i 3, .slice (some p2) (3 - i) (3 - i)] 22)) rfl)
          replace HL := Lib.hid (HL.out.go hal)
          clear hal
          generalize V2.alloc (.cells #[.slice (some p1) i 3, .slice (some p2) (3 - i) (3 - i)] 22) = V3 at *
          generalize V2.heap.size = r1 at *
          rename World => V2
          refine hK.out _ _ (by first | exact HL.out.bel | exact (HL.out.go (Below.refl _ _).drew).bel) (fun hHeld => ?_)
          clear hK K
          try simp only [Act.put, List.setIfInBounds_toArray, List.set_cons_zero, List.set_cons_succ]
          refine take_to (i := 8) (d := some 25) (v := ?_) (l' := #[true, true, true, true, true, true, true, true, true, true, true, true, true, true, true, false, false, true, true, true, true, true, true, true, true, false, false, false]) rfl rfl (by kernel_rfl) (by kernel_rfl) (by kernel_rfl) (by kernel_rfl) (fun _ _ _ h => h) (Or.inl ⟨by rfl, ?_⟩) (by assumption) ?_; rotate_left; · (intro w' hSw; (try dsimp only at hSw); go_simp; (try with_reducible rfl))
          try simp only [Act.put, List.setIfInBounds_toArray, List.set_cons_zero, List.set_cons_succ]
          refine one_to (i := 15) (l' := #[true, true, true, true, true, true, true, true, true, true, true, true, true, true, true, true, false, true, true, true, true, true, true, true, true, false, false, false]) rfl (by kernel_rfl) (by kernel_rfl) (fun K hK => ?_)
          go_simp
          have hal := below_al V2 (.cells #[.slice (some p2) (3 - i) (3 - i)] 22)
          try replace HR1 := Lib.hid (laid_go HR1.out hal)
          try replace HR2 := Lib.hid (laid_go HR2.out hal)
          try replace HR3 := Lib.hid (laid_go HR3.out hal)
          have HR2 := Lib.hid (laid_at (W := V2) (o := (.cells #[.slice (some p2) (3 - i) (3 - i)] 22)) rfl)
          replace HL := Lib.hid (HL.out.go hal)
          clear hal
          generalize V2.alloc (.cells #[.slice (some p2) (3 - i) (3 - i)] 22) = V3 at *
          generalize V2.heap.size = r2 at *
          rename World => V2
          refine hK.out _ _ (by first | exact HL.out.bel | exact (HL.out.go (Below.refl _ _).drew).bel) (fun hHeld => ?_)
          clear hK K
          try simp only [Act.put, List.setIfInBounds_toArray, List.set_cons_zero, List.set_cons_succ]
          refine take_to (i := 16) (d := some 33) (v := ?_) (l' := #[true, true, true, true, true, true, true, true, true, true, true, true, true, true, true, true, true, true, true, true, true, true, true, true, true, false, false, false]) rfl rfl (by kernel_rfl) (by kernel_rfl) (by kernel_rfl) (by kernel_rfl) (fun _ _ _ h => h) (Or.inl ⟨by rfl, ?_⟩) (by assumption) ?_; rotate_left; · (intro w' hSw; (try dsimp only at hSw); go_simp; (try with_reducible rfl))
          try simp only [Act.put, List.setIfInBounds_toArray, List.set_cons_zero, List.set_cons_succ]
          refine one_to (i := 25) (l' := #[true, true, true, true, true, true, true, true, true, true, true, true, true, true, true, true, true, true, true, true, true, true, true, true, true, true, false, false]) rfl (by kernel_rfl) (by kernel_rfl) (fun K hK => ?_)
          have HZ := Lib.hid (show ∀ j, j < 4 → AE V2 (ask4 r1 r2 r3 ab p1 p2 i j) from lt4 (ae_A1 hi3 hq1.out hq2.out HL.out.abc HR1.out) (ae_A2 hi3 hq1.out hq2.out HL.out.abc HR2.out) (ae_A3 hi3 hq1.out HL.out.abc HR3.out) (drawA_there V2 (i : Int) hwf))
          refine wp_sliceA 4 _ rfl [#[.int .i64 0, .slice none 0 0, .slice (some ⟨r1, 0, none⟩) 2 2, .int .i64 0], #[.int .i64 1, .slice (some p1) i 3, .slice (some ⟨r2, 0, none⟩) 1 1, .int .i64 0], #[.int .i64 1, .slice (some ⟨ab, 0, none⟩) 3 3, .slice (some ⟨r3, 0, none⟩) 2 2, .int .i64 0], #[.int .i64 2, .slice none 0 0, .slice none 0 0, .int .i64 (i : Int)]] (by simp) rfl (by omega) (by omega) (by rfl) ?_
          have hal := below_al V2 (.cells (([#[.int .i64 0, .slice none 0 0, .slice (some ⟨r1, 0, none⟩) 2 2, .int .i64 0], #[.int .i64 1, .slice (some p1) i 3, .slice (some ⟨r2, 0, none⟩) 1 1, .int .i64 0], #[.int .i64 1, .slice (some ⟨ab, 0, none⟩) 3 3, .slice (some ⟨r3, 0, none⟩) 2 2, .int .i64 0], #[.int .i64 2, .slice none 0 0, .slice none 0 0, .int .i64 (i : Int)]] : List (Array Value)).flatMap fun X => X.toList).toArray 38)
          have hnb := laid_at (W := V2) (o := .cells (([#[.int .i64 0, .slice none 0 0, .slice (some ⟨r1, 0, none⟩) 2 2, .int .i64 0], #[.int .i64 1, .slice (some p1) i 3, .slice (some ⟨r2, 0, none⟩) 1 1, .int .i64 0], #[.int .i64 1, .slice (some ⟨ab, 0, none⟩) 3 3, .slice (some ⟨r3, 0, none⟩) 2 2, .int .i64 0], #[.int .i64 2, .slice none 0 0, .slice none 0 0, .int .i64 (i : Int)]] : List (Array Value)).flatMap fun X => X.toList).toArray 38) rfl
          have HNB := Lib.hid hnb
          replace HZ := Lib.hid (fun j hj => (HZ.out j hj).go (AC.bel hal))
          replace HL := Lib.hid (HL.out.go hal)
          clear hal hnb
          generalize V2.alloc _ = V3 at *
          generalize V2.heap.size = nb at *
          rename World => V2
          refine hK.out _ _ (by first | exact HL.out.bel | exact (HL.out.go (Below.refl _ _).drew).bel) (fun hHeld => ?_)
          clear hK K
          try simp only [Act.put, List.setIfInBounds_toArray, List.set_cons_zero, List.set_cons_succ]
          refine one_to (i := 26) (l' := #[true, true, true, true, true, true, true, true, true, true, true, true, true, true, true, true, true, true, true, true, true, true, true, true, true, true, true, false]) rfl (by kernel_rfl) (by kernel_rfl) (fun K hK => ?_)
          obtain ⟨ie, hie, ⟨z, hz, hzs⟩, hz2, hz3⟩ := infoAskAll
          refine wp_append_own _ _ _ 23 rfl b0 38 ie z 4 64 Tryz.underlying23 hie hz hz2 hz3 hzs (by omega) _ _ _ rfl HL.out.own ⟨nb, 0, none⟩ 4 4 (askRL (ask4 r1 r2 r3 ab p1 p2 i) 4) rfl (by rw [askRL_len]) (fun j u hj => by rw [Go.WideShapes.add_plain, Nat.zero_add, cell_of_row V2 nb j _ _ (0, 0) HNB.out]; rw [ask4_cells] at hj; simpa using hj) (one_asks _ 4) (by unfold maxLen; omega) (by omega) HL.out.lo.2 (fun v2 U3 hown2 hgrow _ => ?_)
          have HL3 := Lib.hid (HL.out.more HZ.out hown2 hgrow)
          clear hown2 hgrow hie hz hzs hz2 hz3
          refine hK.out _ _ (by exact HL3.out.bel) (fun hHeld => ?_)
          clear hK K
          try simp only [Act.put, List.setIfInBounds_toArray, List.set_cons_zero, List.set_cons_succ]
          refine take_to (i := 27) (d := some 2) (v := ?_) (l' := #[true, true, true, true, true, true, true, true, true, true, true, true, true, true, true, true, true, true, true, true, true, true, true, true, true, true, true, true]) rfl rfl (by kernel_rfl) (by kernel_rfl) (by kernel_rfl) (by kernel_rfl) (fun _ _ _ h => h) (Or.inl ⟨by rfl, ?_⟩) (by assumption) ?_; rotate_left; · (intro w' hSw; (try dsimp only at hSw); go_simp; (try with_reducible rfl))
          try simp only [Act.put, List.setIfInBounds_toArray, List.set_cons_zero, List.set_cons_succ]
          refine wpAnyH_done (by kernel_rfl) ?_ _
          refine NoPanic.normal ?_
          clear hHeld
          go_wp2
          go_roundw
          case rel => exact ⟨i + 1, _, by omega, by go_num, by rw [show 4 * (i + 1) = 4 * i + 4 by omega]; exact HL3.out⟩
          case measure => simp [intOf]; omega
        · skip
          go_simp
          have hal := below_al V2 (.cells #[.slice (some p2) (3 - i) (3 - i)] 22)
          try replace HR1 := Lib.hid (laid_go HR1.out hal)
          try replace HR2 := Lib.hid (laid_go HR2.out hal)
          try replace HR3 := Lib.hid (laid_go HR3.out hal)
          have HR2 := Lib.hid (laid_at (W := V2) (o := (.cells #[.slice (some p2) (3 - i) (3 - i)] 22)) rfl)
          replace HL := Lib.hid (HL.out.go hal)
          clear hal
          generalize V2.alloc (.cells #[.slice (some p2) (3 - i) (3 - i)] 22) = V3 at *
          generalize V2.heap.size = r2 at *
          rename World => V2
          refine hK.out _ _ (by first | exact HL.out.bel | exact (HL.out.go (Below.refl _ _).drew).bel) (fun hHeld => ?_)
          clear hK K
          try simp only [Act.put, List.setIfInBounds_toArray, List.set_cons_zero, List.set_cons_succ]
          refine take_to (i := 16) (d := some 33) (v := ?_) (l' := #[true, true, true, true, true, true, true, false, false, true, true, true, true, true, true, true, true, true, true, true, true, true, true, true, true, false, false, false]) rfl rfl (by kernel_rfl) (by kernel_rfl) (by kernel_rfl) (by kernel_rfl) (fun _ _ _ h => h) (Or.inl ⟨by rfl, ?_⟩) (by assumption) ?_; rotate_left; · (intro w' hSw; (try dsimp only at hSw); go_simp; (try with_reducible rfl))
          try simp only [Act.put, List.setIfInBounds_toArray, List.set_cons_zero, List.set_cons_succ]
          refine one_to (i := 7) (l' := #[true, true, true, true, true, true, true, true, false, true, true, true, true, true, true, true, true, true, true, true, true, true, true, true, true, false, false, false]) rfl (by kernel_rfl) (by kernel_rfl) (fun K hK => ?_)
          go_simp
          have hal := below_al V2 (.cells #[.slice (some p1) i 3, .slice (some p2) (3 - i) (3 - i)] 22)
          try replace HR1 := Lib.hid (laid_go HR1.out hal)
          try replace HR2 := Lib.hid (laid_go HR2.out hal)
          try replace HR3 := Lib.hid (laid_go HR3.out hal)
          have HR1 := Lib.hid (laid_at (W := V2) (o := (.cells #[.slice (some p1) i 3, .slice (some p2) (3 - i) (3 - i)] 22)) rfl)
          replace HL := Lib.hid (HL.out.go hal)
          clear hal
          generalize V2.alloc (.cells #[.slice (some p1) i 3, .slice (some p2) (3 - i) (3 - i)] 22) = V3 at *
          generalize V2.heap.size = r1 at *
          rename World => V2
          refine hK.out _ _ (by first | exact HL.out.bel | exact (HL.out.go (Below.refl _ _).drew).bel) (fun hHeld => ?_)
          clear hK K
          try simp only [Act.put, List.setIfInBounds_toArray, List.set_cons_zero, List.set_cons_succ]
          refine take_to (i := 8) (d := some 25) (v := ?_) (l' := #[true, true, true, true, true, true, true, true, true, true, true, true, true, true, true, true, true, true, true, true, true, true, true, true, true, false, false, false]) rfl rfl (by kernel_rfl) (by kernel_rfl) (by kernel_rfl) (by kernel_rfl) (fun _ _ _ h => h) (Or.inl ⟨by rfl, ?_⟩) (by assumption) ?_; rotate_left; · (intro w' hSw; (try dsimp only at hSw); go_simp; (try with_reducible rfl))
          try simp only [Act.put, List.setIfInBounds_toArray, List.set_cons_zero, List.set_cons_succ]
          refine one_to (i := 25) (l' := #[true, true, true, true, true, true, true, true, true, true, true, true, true, true, true, true, true, true, true, true, true, true, true, true, true, true, false, false]) rfl (by kernel_rfl) (by kernel_rfl) (fun K hK => ?_)
          have HZ := Lib.hid (show ∀ j, j < 4 → AE V2 (ask4 r1 r2 r3 ab p1 p2 i j) from lt4 (ae_A1 hi3 hq1.out hq2.out HL.out.abc HR1.out) (ae_A2 hi3 hq1.out hq2.out HL.out.abc HR2.out) (ae_A3 hi3 hq1.out HL.out.abc HR3.out) (drawA_there V2 (i : Int) hwf))
          refine wp_sliceA 4 _ rfl [#[.int .i64 0, .slice none 0 0, .slice (some ⟨r1, 0, none⟩) 2 2, .int .i64 0], #[.int .i64 1, .slice (some p1) i 3, .slice (some ⟨r2, 0, none⟩) 1 1, .int .i64 0], #[.int .i64 1, .slice (some ⟨ab, 0, none⟩) 3 3, .slice (some ⟨r3, 0, none⟩) 2 2, .int .i64 0], #[.int .i64 2, .slice none 0 0, .slice none 0 0, .int .i64 (i : Int)]] (by simp) rfl (by omega) (by omega) (by rfl) ?_
          have hal := below_al V2 (.cells (([#[.int .i64 0, .slice none 0 0, .slice (some ⟨r1, 0, none⟩) 2 2, .int .i64 0], #[.int .i64 1, .slice (some p1) i 3, .slice (some ⟨r2, 0, none⟩) 1 1, .int .i64 0], #[.int .i64 1, .slice (some ⟨ab, 0, none⟩) 3 3, .slice (some ⟨r3, 0, none⟩) 2 2, .int .i64 0], #[.int .i64 2, .slice none 0 0, .slice none 0 0, .int .i64 (i : Int)]] : List (Array Value)).flatMap fun X => X.toList).toArray 38)
          have hnb := laid_at (W := V2) (o := .cells (([#[.int .i64 0, .slice none 0 0, .slice (some ⟨r1, 0, none⟩) 2 2, .int .i64 0], #[.int .i64 1, .slice (some p1) i 3, .slice (some ⟨r2, 0, none⟩) 1 1, .int .i64 0], #[.int .i64 1, .slice (some ⟨ab, 0, none⟩) 3 3, .slice (some ⟨r3, 0, none⟩) 2 2, .int .i64 0], #[.int .i64 2, .slice none 0 0, .slice none 0 0, .int .i64 (i : Int)]] : List (Array Value)).flatMap fun X => X.toList).toArray 38) rfl
          have HNB := Lib.hid hnb
          replace HZ := Lib.hid (fun j hj => (HZ.out j hj).go (AC.bel hal))
          replace HL := Lib.hid (HL.out.go hal)
          clear hal hnb
          generalize V2.alloc _ = V3 at *
          generalize V2.heap.size = nb at *
          rename World => V2
          refine hK.out _ _ (by first | exact HL.out.bel | exact (HL.out.go (Below.refl _ _).drew).bel) (fun hHeld => ?_)
          clear hK K
          try simp only [Act.put, List.setIfInBounds_toArray, List.set_cons_zero, List.set_cons_succ]
          refine one_to (i := 26) (l' := #[true, true, true, true, true, true, true, true, true, true, true, true, true, true, true, true, true, true, true, true, true, true, true, true, true, true, true, false]) rfl (by kernel_rfl) (by kernel_rfl) (fun K hK => ?_)
          obtain ⟨ie, hie, ⟨z, hz, hzs⟩, hz2, hz3⟩ := infoAskAll
          refine wp_append_own _ _ _ 23 rfl b0 38 ie z 4 64 Tryz.underlying23 hie hz hz2 hz3 hzs (by omega) _ _ _ rfl HL.out.own ⟨nb, 0, none⟩ 4 4 (askRL (ask4 r1 r2 r3 ab p1 p2 i) 4) rfl (by rw [askRL_len]) (fun j u hj => by rw [Go.WideShapes.add_plain, Nat.zero_add, cell_of_row V2 nb j _ _ (0, 0) HNB.out]; rw [ask4_cells] at hj; simpa using hj) (one_asks _ 4) (by unfold maxLen; omega) (by omega) HL.out.lo.2 (fun v2 U3 hown2 hgrow _ => ?_)
          have HL3 := Lib.hid (HL.out.more HZ.out hown2 hgrow)
          clear hown2 hgrow hie hz hzs hz2 hz3
          refine hK.out _ _ (by exact HL3.out.bel) (fun hHeld => ?_)
          clear hK K
          try simp only [Act.put, List.setIfInBounds_toArray, List.set_cons_zero, List.set_cons_succ]
          refine take_to (i := 27) (d := some 2) (v := ?_) (l' := #[true, true, true, true, true, true, true, true, true, true, true, true, true, true, true, true, true, true, true, true, true, true, true, true, true, true, true, true]) rfl rfl (by kernel_rfl) (by kernel_rfl) (by kernel_rfl) (by kernel_rfl) (fun _ _ _ h => h) (Or.inl ⟨by rfl, ?_⟩) (by assumption) ?_; rotate_left; · (intro w' hSw; (try dsimp only at hSw); go_simp; (try with_reducible rfl))
          try simp only [Act.put, List.setIfInBounds_toArray, List.set_cons_zero, List.set_cons_succ]
          refine wpAnyH_done (by kernel_rfl) ?_ _
          refine NoPanic.normal ?_
          clear hHeld
          go_wp2
          go_roundw
          case rel => exact ⟨i + 1, _, by omega, by go_num, by rw [show 4 * (i + 1) = 4 * i + 4 by omega]; exact HL3.out⟩
          case measure => simp [intOf]; omega
    · have hi4 : i = 4 := by omega
      subst hi4
      have HE0 := Lib.hid (laid_at (W := wr) (o := .cells #[.int .i64 (-9223372036854775808), .int .i64 (-1), .int .i64 0, .int .i64 255, .int .i64 256, .int .i64 9223372036854775807] 3) rfl)
      have HL0 := Lib.hid (HL.out.go (below_al wr (.cells #[.int .i64 (-9223372036854775808), .int .i64 (-1), .int .i64 0, .int .i64 255, .int .i64 256, .int .i64 9223372036854775807] 3)))
      clear HL
      go_upto_region 9 with (fail)
      generalize wr.alloc (.cells #[.int .i64 (-9223372036854775808), .int .i64 (-1), .int .i64 0, .int .i64 255, .int .i64 256, .int .i64 9223372036854775807] 3) = W1 at *
      generalize wr.heap.size = eb at *
      go_wp2
      go_loopw [2, 5] (fun v jv wr => ∃ (j : Nat) (X : Nat → Ask), j ≤ 6 ∧ jv = .int .i64 (j : Int) ∧ LE4 w ab b0 v (16 + 2 * j) X wr ∧ wr.heap[eb]? = some (.cells #[.int .i64 (-9223372036854775808), .int .i64 (-1), .int .i64 0, .int .i64 255, .int .i64 256, .int .i64 9223372036854775807] 3 (0, 0))) (fun _ jv _ => 6 - (intOf jv).toNat)
      case atStart => exact ⟨0, _, by omega, rfl, HL0.out, HE0.out⟩
      case round =>
        obtain ⟨j, X, hj, rfl, hl, he⟩ := hrel
        clear HL0 HE0
        have HL := Lib.hid hl
        have HE := Lib.hid he
        clear hl he
        by_cases hlt2 : j < 6
        · obtain ⟨ev, hev⟩ : ∃ ev, ev = endsL.getD j 0 := ⟨_, rfl⟩
          have HEC := Lib.hid (show ∀ W : World, W.heap[eb]? = some (.cells #[.int .i64 (-9223372036854775808), .int .i64 (-1), .int .i64 0, .int .i64 255, .int .i64 256, .int .i64 9223372036854775807] 3 (0, 0)) → W.cell? ⟨eb, j, none⟩ = some (.int .i64 ev) from fun W h => by rw [hev]; exact ends_cell h j hlt2)
          have HWF := Lib.hid (show (Lit.int .i64 ev).wf = true by rw [hev]; exact ends_wf j hlt2)
          clear hev
          go_upto_region 11 with (fail)
          refine wp_region_noPanic ?_
          refine wp_region_start (n := 17) (l := #[false, false, false, false, false, false, false, false, false, false, false, false, false, false, false, false, false]) (S := (fun W => W.cell? ⟨eb, j, none⟩ = some (.int .i64 ev))) (by kernel_rfl) rfl (by kernel_rfl) (by first | exact HEC.out _ HE.out | exact HEC.out _ (laid_go HE.out (Below.refl _ _).drew)) (fun hHeld => ?_)
          replace HL := Lib.hid (HL.out.go (Below.refl _ _).drew)
          replace HE := Lib.hid (laid_go HE.out (Below.refl _ _).drew)
          generalize World.drew _ = V2 at hHeld HL HE ⊢
          refine take_to (i := 0) (d := some 51) (v := ?_) (l' := #[true, false, false, false, false, false, false, false, false, false, false, false, false, false, false, false, false]) rfl rfl (by kernel_rfl) (by kernel_rfl) (by kernel_rfl) (by kernel_rfl) (fun _ _ _ h => h) (Or.inl ⟨by rfl, ?_⟩) (by assumption) ?_; rotate_left; · (intro w' hSw; (try dsimp only at hSw); go_simp; (try with_reducible rfl))
          try simp only [Act.put, List.setIfInBounds_toArray, List.set_cons_zero, List.set_cons_succ]
          refine take_to (i := 1) (d := some 52) (v := ?_) (l' := #[true, true, false, false, false, false, false, false, false, false, false, false, false, false, false, false, false]) rfl rfl (by kernel_rfl) (by kernel_rfl) (by kernel_rfl) (by kernel_rfl) (fun _ _ _ h => h) (Or.inl ⟨by rfl, ?_⟩) (by assumption) ?_; rotate_left; · (intro w' hSw; (try dsimp only at hSw); go_simp; (try with_reducible rfl))
          try simp only [Act.put, List.setIfInBounds_toArray, List.set_cons_zero, List.set_cons_succ]
          refine take_to (i := 2) (d := some 53) (v := ?_) (l' := #[true, true, true, false, false, false, false, false, false, false, false, false, false, false, false, false, false]) rfl rfl (by kernel_rfl) (by kernel_rfl) (by kernel_rfl) (by kernel_rfl) (fun _ _ _ h => h) (Or.inl ⟨by rfl, ?_⟩) (by assumption) ?_; rotate_left; · (intro w' hSw; (try dsimp only at hSw); go_simp; (try with_reducible rfl))
          try simp only [Act.put, List.setIfInBounds_toArray, List.set_cons_zero, List.set_cons_succ]
          refine take_to (i := 3) (d := some 54) (v := ?_) (l' := #[true, true, true, true, false, false, false, false, false, false, false, false, false, false, false, false, false]) rfl rfl (by kernel_rfl) (by kernel_rfl) (by kernel_rfl) (by kernel_rfl) (fun _ _ _ h => h) (Or.inl ⟨by rfl, ?_⟩) (by assumption) ?_; rotate_left; · (intro w' hSw; (try dsimp only at hSw); go_simp; (try with_reducible rfl))
          try simp only [Act.put, List.setIfInBounds_toArray, List.set_cons_zero, List.set_cons_succ]
          refine take_to (i := 4) (d := some 55) (v := ?_) (l' := #[true, true, true, true, true, false, false, false, false, false, false, false, false, false, false, false, false]) rfl rfl (by kernel_rfl) (by kernel_rfl) (by kernel_rfl) (by kernel_rfl) (fun _ _ _ h => h) (Or.inl ⟨by rfl, ?_⟩) (by assumption) ?_; rotate_left; · (intro w' hSw; (try dsimp only at hSw); go_simp; (try with_reducible rfl))
          try simp only [Act.put, List.setIfInBounds_toArray, List.set_cons_zero, List.set_cons_succ]
          refine take_to (i := 5) (d := some 56) (v := ?_) (l' := #[true, true, true, true, true, true, false, false, false, false, false, false, false, false, false, false, false]) rfl rfl (by kernel_rfl) (by kernel_rfl) (by kernel_rfl) (by kernel_rfl) (fun _ _ _ h => h) (Or.inl ⟨by rfl, ?_⟩) (by assumption) ?_; rotate_left; · (intro w' hSw; (try dsimp only at hSw); go_simp; (try with_reducible rfl))
          try simp only [Act.put, List.setIfInBounds_toArray, List.set_cons_zero, List.set_cons_succ]
          refine take_to (i := 6) (d := some 57) (v := ?_) (l' := #[true, true, true, true, true, true, true, false, false, false, false, false, false, false, false, false, false]) rfl rfl (by kernel_rfl) (by kernel_rfl) (by kernel_rfl) (by kernel_rfl) (fun _ _ _ h => h) (Or.inl ⟨by rfl, ?_⟩) (by assumption) ?_; rotate_left; · (intro w' hSw; (try dsimp only at hSw); go_simp; (try with_reducible rfl))
          try simp only [Act.put, List.setIfInBounds_toArray, List.set_cons_zero, List.set_cons_succ]
          refine take_to (i := 7) (d := some 58) (v := ?_) (l' := #[true, true, true, true, true, true, true, true, false, false, false, false, false, false, false, false, false]) rfl rfl (by kernel_rfl) (by kernel_rfl) (by kernel_rfl) (by kernel_rfl) (fun _ _ _ h => h) (Or.inl ⟨by rfl, ?_⟩) (by assumption) ?_; rotate_left; · (intro w' hSw; (try dsimp only at hSw); go_simp; (try with_reducible rfl))
          try simp only [Act.put, List.setIfInBounds_toArray, List.set_cons_zero, List.set_cons_succ]
          refine take_to (i := 8) (d := some 59) (v := ?_) (l' := #[true, true, true, true, true, true, true, true, true, false, false, false, false, false, false, false, false]) rfl rfl (by kernel_rfl) (by kernel_rfl) (by kernel_rfl) (by kernel_rfl) (fun _ _ _ h => h) (Or.inl ⟨by rfl, ?_⟩) (by assumption) ?_; rotate_left; · (intro w' hSw; (try dsimp only at hSw); go_simp; (try with_reducible rfl))
          try simp only [Act.put, List.setIfInBounds_toArray, List.set_cons_zero, List.set_cons_succ]
          refine take_to (i := 9) (d := some 60) (v := ?_) (l' := #[true, true, true, true, true, true, true, true, true, true, false, false, false, false, false, false, false]) rfl rfl (by kernel_rfl) (by kernel_rfl) (by kernel_rfl) (by kernel_rfl) (fun _ _ _ h => h) (Or.inl ⟨by rfl, ?_⟩) (by assumption) ?_; rotate_left; · (intro w' hSw; (try dsimp only at hSw); go_simp; (try with_reducible rfl))
          try simp only [Act.put, List.setIfInBounds_toArray, List.set_cons_zero, List.set_cons_succ]
          refine take_to (i := 10) (d := some 61) (v := ?_) (l' := #[true, true, true, true, true, true, true, true, true, true, true, false, false, false, false, false, false]) rfl rfl (by kernel_rfl) (by kernel_rfl) (by kernel_rfl) (by kernel_rfl) (fun _ _ _ h => h) (Or.inl ⟨by rfl, ?_⟩) (by assumption) ?_; rotate_left; · (intro w' hSw; (try dsimp only at hSw); go_simp; (try with_reducible rfl))
          try simp only [Act.put, List.setIfInBounds_toArray, List.set_cons_zero, List.set_cons_succ]
          refine one_to (i := 11) (l' := #[true, true, true, true, true, true, true, true, true, true, true, true, false, false, false, false, false]) rfl (by kernel_rfl) (by kernel_rfl) (fun K hK => ?_)
          go_simp
          have hal := below_al V2 (.cells #[.int .u8 (IntKind.u8.wrap ev)] 5)
          have HCB := Lib.hid (laid_at (W := V2) (o := (.cells #[.int .u8 (IntKind.u8.wrap ev)] 5)) rfl)
          replace HL := Lib.hid (HL.out.go hal)
          replace HE := Lib.hid (laid_go HE.out hal)
          clear hal
          generalize V2.alloc (.cells #[.int .u8 (IntKind.u8.wrap ev)] 5) = V3 at *
          generalize V2.heap.size = cb at *
          rename World => V2
          refine hK.out _ _ (by first | exact HEC.out _ HE.out | exact HEC.out _ (laid_go HE.out (Below.refl _ _).drew)) (fun hHeld => ?_)
          clear hK K
          try simp only [Act.put, List.setIfInBounds_toArray, List.set_cons_zero, List.set_cons_succ]
          refine one_to (i := 12) (l' := #[true, true, true, true, true, true, true, true, true, true, true, true, true, false, false, false, false]) rfl (by kernel_rfl) (by kernel_rfl) (fun K hK => ?_)
          go_simp
          have hal := below_al V2 (.cells #[.slice (some ⟨cb, 0, none⟩) 1 1] 22)
          have HRB := Lib.hid (laid_at (W := V2) (o := (.cells #[.slice (some ⟨cb, 0, none⟩) 1 1] 22)) rfl)
          replace HL := Lib.hid (HL.out.go hal)
          replace HE := Lib.hid (laid_go HE.out hal)
          replace HCB := Lib.hid (laid_go HCB.out hal)
          clear hal
          generalize V2.alloc (.cells #[.slice (some ⟨cb, 0, none⟩) 1 1] 22) = V3 at *
          generalize V2.heap.size = rb at *
          rename World => V2
          refine hK.out _ _ (by first | exact HEC.out _ HE.out | exact HEC.out _ (laid_go HE.out (Below.refl _ _).drew)) (fun hHeld => ?_)
          clear hK K
          try simp only [Act.put, List.setIfInBounds_toArray, List.set_cons_zero, List.set_cons_succ]
          refine take_to (i := 13) (d := some 64) (v := ?_) (l' := #[true, true, true, true, true, true, true, true, true, true, true, true, true, true, false, false, false]) rfl rfl (by kernel_rfl) (by kernel_rfl) (by kernel_rfl) (by kernel_rfl) (fun _ _ _ h => h) (Or.inl ⟨by rfl, ?_⟩) (by assumption) ?_; rotate_left; · (intro w' hSw; (try dsimp only at hSw); go_simp; (try with_reducible rfl))
          try simp only [Act.put, List.setIfInBounds_toArray, List.set_cons_zero, List.set_cons_succ]
          refine one_to (i := 14) (l' := #[true, true, true, true, true, true, true, true, true, true, true, true, true, true, true, false, false]) rfl (by kernel_rfl) (by kernel_rfl) (fun K hK => ?_)
          have HZ := Lib.hid (show ∀ q, q < 2 → AE V2 (ask2 rb cb ev q) from lt2 (drawA_there V2 ev HWF.out) (ae_E ev HL.out.abc HRB.out HCB.out))
          refine wp_sliceA 2 _ rfl [#[.int .i64 2, .slice none 0 0, .slice none 0 0, .int .i64 ev], #[.int .i64 0, .slice none 0 0, .slice (some ⟨rb, 0, none⟩) 1 1, .int .i64 0]] (by simp) rfl (by omega) (by omega) (by rfl) ?_
          have hal := below_al V2 (.cells (([#[.int .i64 2, .slice none 0 0, .slice none 0 0, .int .i64 ev], #[.int .i64 0, .slice none 0 0, .slice (some ⟨rb, 0, none⟩) 1 1, .int .i64 0]] : List (Array Value)).flatMap fun X => X.toList).toArray 38)
          have hnb := laid_at (W := V2) (o := .cells (([#[.int .i64 2, .slice none 0 0, .slice none 0 0, .int .i64 ev], #[.int .i64 0, .slice none 0 0, .slice (some ⟨rb, 0, none⟩) 1 1, .int .i64 0]] : List (Array Value)).flatMap fun X => X.toList).toArray 38) rfl
          have HNB := Lib.hid hnb
          replace HZ := Lib.hid (fun q hq => (HZ.out q hq).go (AC.bel hal))
          replace HL := Lib.hid (HL.out.go hal)
          replace HE := Lib.hid (laid_go HE.out hal)
          clear hal hnb
          generalize V2.alloc _ = V3 at *
          generalize V2.heap.size = nb at *
          rename World => V2
          refine hK.out _ _ (by first | exact HEC.out _ HE.out | exact HEC.out _ (laid_go HE.out (Below.refl _ _).drew)) (fun hHeld => ?_)
          clear hK K
          try simp only [Act.put, List.setIfInBounds_toArray, List.set_cons_zero, List.set_cons_succ]
          refine one_to (i := 15) (l' := #[true, true, true, true, true, true, true, true, true, true, true, true, true, true, true, true, false]) rfl (by kernel_rfl) (by kernel_rfl) (fun K hK => ?_)
          obtain ⟨ie, hie, ⟨z, hz, hzs⟩, hz2, hz3⟩ := infoAskAll
          refine wp_append_own _ _ _ 23 rfl b0 38 ie z 4 64 Tryz.underlying23 hie hz hz2 hz3 hzs (by omega) _ _ _ rfl HL.out.own ⟨nb, 0, none⟩ 2 2 (askRL (ask2 rb cb ev) 2) rfl (by rw [askRL_len]) (fun q u hj => by rw [Go.WideShapes.add_plain, Nat.zero_add, cell_of_row V2 nb q _ _ (0, 0) HNB.out]; rw [ask2_cells] at hj; simpa using hj) (one_asks _ 2) (by unfold maxLen; omega) (by omega) HL.out.lo.2 (fun v2 U3 hown2 hgrow _ => ?_)
          have HL3 := Lib.hid (HL.out.more HZ.out hown2 hgrow)
          have HE3 := Lib.hid ((AC.own HL.out.own hgrow).at HE.out (by decide))
          clear hown2 hgrow hie hz hzs hz2 hz3
          refine hK.out _ _ (by exact HEC.out _ HE3.out) (fun hHeld => ?_)
          clear hK K
          try simp only [Act.put, List.setIfInBounds_toArray, List.set_cons_zero, List.set_cons_succ]
          refine take_to (i := 16) (d := some 2) (v := ?_) (l' := #[true, true, true, true, true, true, true, true, true, true, true, true, true, true, true, true, true]) rfl rfl (by kernel_rfl) (by kernel_rfl) (by kernel_rfl) (by kernel_rfl) (fun _ _ _ h => h) (Or.inl ⟨by rfl, ?_⟩) (by assumption) ?_; rotate_left; · (intro w' hSw; (try dsimp only at hSw); go_simp; (try with_reducible rfl))
          try simp only [Act.put, List.setIfInBounds_toArray, List.set_cons_zero, List.set_cons_succ]
          refine wpAnyH_done (by kernel_rfl) ?_ _
          refine NoPanic.normal ?_
          clear hHeld
          go_wp2
          go_roundw
          case rel =>
            repeat apply Exists.intro
            refine ⟨?_, rfl⟩
            exact ⟨j + 1, _, by omega, by go_num, by rw [show 16 + 2 * (j + 1) = 16 + 2 * j + 2 by omega]; exact HL3.out, HE3.out⟩
          case measure => simp [intOf]; omega
        · have hj6 : j = 6 := by omega
          subst hj6
          obtain ⟨g2, c2, rfl, hle2, hcm2, har2⟩ := own_asks HL.out.own (by omega)
          have HAR2 := Lib.hid har2
          clear har2
          go_wp2_with fail
          refine (number_any 0 0 (by first | rfl | decide) _).mono ?_
          rintro e w10 ⟨rfl, hb14⟩
          replace HL := Lib.hid (HL.out.go hb14)
          clear hb14
          go_wp2_with fail
          refine (number_any 5 5 (by first | rfl | decide) _).mono ?_
          rintro e w11 ⟨rfl, hb14⟩
          replace HL := Lib.hid (HL.out.go hb14)
          clear hb14
          go_wp2_with fail
          refine (number_any ((16 + 2 * 6 : Nat) : Int) 28 (by rw [IntKind.wrap_u64]; omega) _).mono ?_
          rintro e w12 ⟨rfl, hb14⟩
          replace HL := Lib.hid (HL.out.go hb14)
          clear hb14
          go_wp2_with fail
          refine (number_any (-1) 18446744073709551615 (by rw [IntKind.wrap_u64]; omega) _).mono ?_
          rintro e w13 ⟨rfl, hb14⟩
          replace HL := Lib.hid (HL.out.go hb14)
          clear hb14
          go_wp2_with fail
          refine (number_any 4611686018427387904 4611686018427387904 (by rw [IntKind.wrap_u64]; omega) _).mono ?_
          rintro e w14 ⟨rfl, hb14⟩
          replace HL := Lib.hid (HL.out.go hb14)
          clear hb14
          dsimp only
          refine tlist_go (by assumption) ?_
          refine wpList_plain rfl (fun K hK => ?_)
          refine wp_sliceTn 6 _ rfl nearL near_size rfl (by omega) (by omega) (by rfl) ?_
          refine hK _ _ ?_
          clear hK K
          rw [near_flat]
          have HN := Lib.hid (show N4 w ab b0 g2 c2 w14.heap.size X (w14.alloc (.cells (tagL nearT 6).toArray 25)) from ⟨HL.out.go (below_al w14 _), laid_at rfl⟩)
          obtain ⟨nb, hnb⟩ : ∃ nb, w14.heap.size = nb := ⟨_, rfl⟩
          rw [hnb] at HN ⊢
          clear hnb HL HAR2
          try clear HE
          generalize w14.alloc (.cells (tagL nearT 6).toArray 25) = W5 at *
          go_upto_region 14 with (fail)
          go_loopw [7] (fun i wr => ∃ k : Nat, k ≤ 6 ∧ i = .int .i64 (k : Int) ∧ N4 w ab b0 g2 c2 nb X wr) (fun i _ => 6 - (intOf i).toNat)
          case atStart => exact ⟨0, Nat.zero_le _, rfl, HN.out⟩
          case round =>
            clear HN
            obtain ⟨k, hk, rfl, h1⟩ := hrel
            have HN := Lib.hid h1
            clear h1
            by_cases hlt3 : k < 6
            · have hk0 : (0 : Int) ≤ (k : Int) := by omega
              have hk6 : (k : Int) < 6 := by omega
              go_upto_region 16 with (fail)
              refine wp_region_lit ?_
              iterate 3 (refine wpList_plain rfl (fun K hK => ?_); go_simp; refine hK _ _ ?_; clear hK K)
              refine wpList_load_mid rfl 25 _ rfl nb (k * 32) rfl (tagC (nearT k)) _ (HN.out.nb.range k hlt3) Tryz.underlying25 rfl (by simp [infoTag, tagC_len]) ?_
              refine wpList_plain rfl (fun K hK => ?_)
              go_simp
              refine hK _ _ ?_
              clear hK K
              refine wpList_store_mid rfl 25 _ _ rfl wr.heap.size 0 (tagC (nearT k)).toArray rfl rfl (by simpa [tagC_len] using tag_there wr) (by simp [infoTag, tagC_len]) (tagC_one _) ?_
              rw [List.toList_toArray]
              obtain ⟨ht9, hb9⟩ := tag_store wr (nearT k)
              show Exit.then _ _ Exit.normal _ ((wr.alloc (.cells (List.replicate 32 (Value.int .u8 0)).toArray 25)).setCells wr.heap.size 0 (tagC (nearT k)))
              generalize (wr.alloc (.cells (List.replicate 32 (Value.int .u8 0)).toArray 25)).setCells wr.heap.size 0 (tagC (nearT k)) = w9 at ht9 hb9 ⊢
              have HTL := Lib.hid (show wr.heap.size < w9.heap.size ∧ ∀ v, Below wr.heap.size wr (w9.setCell ⟨wr.heap.size, 31, none⟩ v) from ⟨ht9.lt, fun v => hb9.setCell (p := ⟨wr.heap.size, 31, none⟩) (Nat.le_refl _) v⟩)
              obtain ⟨T, hT⟩ : ∃ T, T = wr.heap.size := ⟨_, rfl⟩
              have HN9 := Lib.hid (HN.out.go (HTL.out.2 (.int .u8 1)))
              rw [← hT] at ht9 HN9 ⊢
              have e31 := ht9.byte 31 (by omega)
              have f31 := ht9.free 31
              have HT := Lib.hid (show BT (w9.setCell ⟨T, 31, none⟩ (.int .u8 1)) T 32 (tailT k) from ht9.set 31 (by omega) 1#8 (tail_set k).1 (tail_set k).2)
              clear hb9 ht9 HN HTL hT
              go_upto_region 18 with (fail)
              clear e31 f31
              generalize w9.setCell ⟨T, 31, none⟩ (.int .u8 1) = W9 at *
              have HN := Lib.hid HN9.out
              clear HN9
              have hsl := asks_from g2 c2 k (by omega) hle2
              try simp only [Act.put, List.setIfInBounds_toArray, List.set_cons_zero, List.set_cons_succ]
              go_cut [118] from 87 to 118 (fun v wx => v = .bool false ∧ N4 w ab b0 g2 c2 nb X wx)
              case first =>
                refine wp_region_noPanic ?_
                refine wp_region_start (n := 32) (l := #[false, false, false, false, false, false, false, false, false, false, false, false, false, false, false, false, false, false, false, false, false, false, false, false, false, false, false, false, false, false, false, false]) (S := (fun W => NB W nb ∧ BT W T 32 (tailT k))) (by kernel_rfl) rfl (by kernel_rfl) (by first | exact ⟨HN.out.nb, HT.out⟩ | exact ⟨HN.out.nb.go (Below.refl _ _).drew, HT.out.drew⟩) (fun hHeld => ?_)
                replace HN := Lib.hid (HN.out.go (Below.refl _ _).drew)
                replace HT := Lib.hid HT.out.drew
                generalize World.drew _ = V at hHeld HN HT ⊢
                refine take_to (i := 0) (d := some 87) (v := ?_) (l' := #[true, false, false, false, false, false, false, false, false, false, false, false, false, false, false, false, false, false, false, false, false, false, false, false, false, false, false, false, false, false, false, false]) rfl rfl (by kernel_rfl) (by kernel_rfl) (by kernel_rfl) (by kernel_rfl) (fun _ _ _ h => h) (Or.inl ⟨by rfl, ?_⟩) (by assumption) ?_; rotate_left; · (intro w' hSw; (try dsimp only at hSw); go_simp; (try with_reducible rfl))
                try simp only [Act.put, List.setIfInBounds_toArray, List.set_cons_zero, List.set_cons_succ]
                refine take_to (i := 1) (d := some 88) (v := ?_) (l' := #[true, true, false, false, false, false, false, false, false, false, false, false, false, false, false, false, false, false, false, false, false, false, false, false, false, false, false, false, false, false, false, false]) rfl rfl (by kernel_rfl) (by kernel_rfl) (by kernel_rfl) (by kernel_rfl) (fun _ _ _ h => h) (Or.inl ⟨by rfl, ?_⟩) (by assumption) ?_; rotate_left; · (intro w' hSw; (try dsimp only at hSw); go_simp; (try with_reducible rfl))
                try simp only [Act.put, List.setIfInBounds_toArray, List.set_cons_zero, List.set_cons_succ]
                refine take_to (i := 2) (d := some 89) (v := ?_) (l' := #[true, true, true, false, false, false, false, false, false, false, false, false, false, false, false, false, false, false, false, false, false, false, false, false, false, false, false, false, false, false, false, false]) rfl rfl (by kernel_rfl) (by kernel_rfl) (by kernel_rfl) (by kernel_rfl) (fun _ _ _ h => h) (Or.inl ⟨by rfl, ?_⟩) (by assumption) ?_; rotate_left; · (intro w' hSw; (try dsimp only at hSw); go_simp; (try with_reducible rfl))
                try simp only [Act.put, List.setIfInBounds_toArray, List.set_cons_zero, List.set_cons_succ]
                refine take_to (i := 3) (d := some 90) (v := ?_) (l' := #[true, true, true, true, false, false, false, false, false, false, false, false, false, false, false, false, false, false, false, false, false, false, false, false, false, false, false, false, false, false, false, false]) rfl rfl (by kernel_rfl) (by kernel_rfl) (by kernel_rfl) (by kernel_rfl) (fun _ _ _ h => h) (Or.inl ⟨by rfl, ?_⟩) (by assumption) ?_; rotate_left; · (intro w' hSw; (try dsimp only at hSw); go_simp; (try with_reducible rfl))
                try simp only [Act.put, List.setIfInBounds_toArray, List.set_cons_zero, List.set_cons_succ]
                refine take_to (i := 4) (d := some 91) (v := ?_) (l' := #[true, true, true, true, true, false, false, false, false, false, false, false, false, false, false, false, false, false, false, false, false, false, false, false, false, false, false, false, false, false, false, false]) rfl rfl (by kernel_rfl) (by kernel_rfl) (by kernel_rfl) (by kernel_rfl) (fun _ _ _ h => h) (Or.inl ⟨by rfl, ?_⟩) (by assumption) ?_; rotate_left; · (intro w' hSw; (try dsimp only at hSw); go_simp; (try with_reducible rfl))
                try simp only [Act.put, List.setIfInBounds_toArray, List.set_cons_zero, List.set_cons_succ]
                refine take_to (i := 5) (d := some 92) (v := (tagV (nearT k))) (l' := #[true, true, true, true, true, true, false, false, false, false, false, false, false, false, false, false, false, false, false, false, false, false, false, false, false, false, false, false, false, false, false, false]) rfl rfl (by kernel_rfl) (by kernel_rfl) (by kernel_rfl) (by kernel_rfl) (fun _ _ _ h => h) ?_ (by assumption) ?_
                · exact near_load hlt3 (fun W h => h.1) (by rfl) (by rfl) (by rfl)
                try simp only [Act.put, List.setIfInBounds_toArray, List.set_cons_zero, List.set_cons_succ]
                refine one_to (i := 6) (l' := #[true, true, true, true, true, true, true, false, false, false, false, false, false, false, false, false, false, false, false, false, false, false, false, false, false, false, false, false, false, false, false, false]) rfl (by kernel_rfl) (by kernel_rfl) (fun K hK => ?_)
                go_simp
                refine (HN.out.ask mx HMX.out HK.out false (nearT k)).mono ?_
                rintro e V ⟨rfl, hb⟩
                replace HN := Lib.hid (HN.out.go hb)
                replace HT := Lib.hid (HT.out.below' hb)
                clear hb
                dsimp only
                refine hK.out _ _ (by first | exact ⟨HN.out.nb, HT.out⟩ | exact ⟨HN.out.nb.go (Below.refl _ _).drew, HT.out.drew⟩) (fun hHeld => ?_)
                clear hK K
                try simp only [Act.put, List.setIfInBounds_toArray, List.set_cons_zero, List.set_cons_succ]
                refine take_to (i := 7) (d := some 94) (v := ?_) (l' := #[true, true, true, true, true, true, true, true, false, false, false, false, false, false, false, false, false, false, false, false, false, false, false, false, false, false, false, false, false, false, false, false]) rfl rfl (by kernel_rfl) (by kernel_rfl) (by kernel_rfl) (by kernel_rfl) (fun _ _ _ h => h) (Or.inl ⟨by rfl, ?_⟩) (by assumption) ?_; rotate_left; · (intro w' hSw; (try dsimp only at hSw); go_simp; (try with_reducible rfl))
                try simp only [Act.put, List.setIfInBounds_toArray, List.set_cons_zero, List.set_cons_succ]
                refine take_to (i := 8) (d := some 95) (v := ?_) (l' := #[true, true, true, true, true, true, true, true, true, false, false, false, false, false, false, false, false, false, false, false, false, false, false, false, false, false, false, false, false, false, false, false]) rfl rfl (by kernel_rfl) (by kernel_rfl) (by kernel_rfl) (by kernel_rfl) (fun _ _ _ h => h) (Or.inl ⟨by rfl, ?_⟩) (by assumption) ?_; rotate_left; · (intro w' hSw; (try dsimp only at hSw); go_simp; (try with_reducible rfl))
                try simp only [Act.put, List.setIfInBounds_toArray, List.set_cons_zero, List.set_cons_succ]
                refine take_to (i := 9) (d := some 96) (v := ?_) (l' := #[true, true, true, true, true, true, true, true, true, true, false, false, false, false, false, false, false, false, false, false, false, false, false, false, false, false, false, false, false, false, false, false]) rfl rfl (by kernel_rfl) (by kernel_rfl) (by kernel_rfl) (by kernel_rfl) (fun _ _ _ h => h) (Or.inl ⟨by rfl, ?_⟩) (by assumption) ?_; rotate_left; · (intro w' hSw; (try dsimp only at hSw); go_simp; (try with_reducible rfl))
                try simp only [Act.put, List.setIfInBounds_toArray, List.set_cons_zero, List.set_cons_succ]
                refine take_to (i := 10) (d := some 97) (v := ?_) (l' := #[true, true, true, true, true, true, true, true, true, true, true, false, false, false, false, false, false, false, false, false, false, false, false, false, false, false, false, false, false, false, false, false]) rfl rfl (by kernel_rfl) (by kernel_rfl) (by kernel_rfl) (by kernel_rfl) (fun _ _ _ h => h) (Or.inl ⟨by rfl, ?_⟩) (by assumption) ?_; rotate_left; · (intro w' hSw; (try dsimp only at hSw); go_simp; (try with_reducible rfl))
                try simp only [Act.put, List.setIfInBounds_toArray, List.set_cons_zero, List.set_cons_succ]
                refine take_to (i := 11) (d := some 98) (v := ?_) (l' := #[true, true, true, true, true, true, true, true, true, true, true, true, false, false, false, false, false, false, false, false, false, false, false, false, false, false, false, false, false, false, false, false]) rfl rfl (by kernel_rfl) (by kernel_rfl) (by kernel_rfl) (by kernel_rfl) (fun _ _ _ h => h) (Or.inl ⟨by rfl, ?_⟩) (by assumption) ?_; rotate_left; · (intro w' hSw; (try dsimp only at hSw); go_simp; (try with_reducible rfl))
                try simp only [Act.put, List.setIfInBounds_toArray, List.set_cons_zero, List.set_cons_succ]
                refine take_to (i := 12) (d := some 99) (v := ?_) (l' := #[true, true, true, true, true, true, true, true, true, true, true, true, true, false, false, false, false, false, false, false, false, false, false, false, false, false, false, false, false, false, false, false]) rfl rfl (by kernel_rfl) (by kernel_rfl) (by kernel_rfl) (by kernel_rfl) (fun _ _ _ h => h) (Or.inl ⟨by rfl, ?_⟩) (by assumption) ?_; rotate_left; · (intro w' hSw; (try dsimp only at hSw); go_simp; (try with_reducible rfl))
                try simp only [Act.put, List.setIfInBounds_toArray, List.set_cons_zero, List.set_cons_succ]
                refine take_to (i := 13) (d := some 100) (v := ?_) (l' := #[true, true, true, true, true, true, true, true, true, true, true, true, true, true, false, false, false, false, false, false, false, false, false, false, false, false, false, false, false, false, false, false]) rfl rfl (by kernel_rfl) (by kernel_rfl) (by kernel_rfl) (by kernel_rfl) (fun _ _ _ h => h) (Or.inl ⟨by rfl, ?_⟩) (by assumption) ?_; rotate_left; · (intro w' hSw; (try dsimp only at hSw); go_simp; (try with_reducible rfl))
                try simp only [Act.put, List.setIfInBounds_toArray, List.set_cons_zero, List.set_cons_succ]
                refine take_to (i := 14) (d := some 101) (v := (tagV (nearT k))) (l' := #[true, true, true, true, true, true, true, true, true, true, true, true, true, true, true, false, false, false, false, false, false, false, false, false, false, false, false, false, false, false, false, false]) rfl rfl (by kernel_rfl) (by kernel_rfl) (by kernel_rfl) (by kernel_rfl) (fun _ _ _ h => h) ?_ (by assumption) ?_
                · exact near_load hlt3 (fun W h => h.1) (by rfl) (by rfl) (by rfl)
                try simp only [Act.put, List.setIfInBounds_toArray, List.set_cons_zero, List.set_cons_succ]
                refine one_to (i := 15) (l' := #[true, true, true, true, true, true, true, true, true, true, true, true, true, true, true, true, false, false, false, false, false, false, false, false, false, false, false, false, false, false, false, false]) rfl (by kernel_rfl) (by kernel_rfl) (fun K hK => ?_)
                go_simp
                refine (HN.out.ask mx HMX.out HK.out true (nearT k)).mono ?_
                rintro e V ⟨rfl, hb⟩
                replace HN := Lib.hid (HN.out.go hb)
                replace HT := Lib.hid (HT.out.below' hb)
                clear hb
                dsimp only
                refine hK.out _ _ (by first | exact ⟨HN.out.nb, HT.out⟩ | exact ⟨HN.out.nb.go (Below.refl _ _).drew, HT.out.drew⟩) (fun hHeld => ?_)
                clear hK K
                try simp only [Act.put, List.setIfInBounds_toArray, List.set_cons_zero, List.set_cons_succ]
                refine take_to (i := 16) (d := some 103) (v := ?_) (l' := #[true, true, true, true, true, true, true, true, true, true, true, true, true, true, true, true, true, false, false, false, false, false, false, false, false, false, false, false, false, false, false, false]) rfl rfl (by kernel_rfl) (by kernel_rfl) (by kernel_rfl) (by kernel_rfl) (fun _ _ _ h => h) (Or.inl ⟨by rfl, ?_⟩) (by assumption) ?_; rotate_left; · (intro w' hSw; (try dsimp only at hSw); go_simp; (try with_reducible rfl))
                try simp only [Act.put, List.setIfInBounds_toArray, List.set_cons_zero, List.set_cons_succ]
                refine take_to (i := 17) (d := some 104) (v := ?_) (l' := #[true, true, true, true, true, true, true, true, true, true, true, true, true, true, true, true, true, true, false, false, false, false, false, false, false, false, false, false, false, false, false, false]) rfl rfl (by kernel_rfl) (by kernel_rfl) (by kernel_rfl) (by kernel_rfl) (fun _ _ _ h => h) (Or.inl ⟨by rfl, ?_⟩) (by assumption) ?_; rotate_left; · (intro w' hSw; (try dsimp only at hSw); go_simp; (try with_reducible rfl))
                try simp only [Act.put, List.setIfInBounds_toArray, List.set_cons_zero, List.set_cons_succ]
                refine take_to (i := 18) (d := some 105) (v := ?_) (l' := #[true, true, true, true, true, true, true, true, true, true, true, true, true, true, true, true, true, true, true, false, false, false, false, false, false, false, false, false, false, false, false, false]) rfl rfl (by kernel_rfl) (by kernel_rfl) (by kernel_rfl) (by kernel_rfl) (fun _ _ _ h => h) (Or.inl ⟨by rfl, ?_⟩) (by assumption) ?_; rotate_left; · (intro w' hSw; (try dsimp only at hSw); go_simp; (try with_reducible rfl))
                try simp only [Act.put, List.setIfInBounds_toArray, List.set_cons_zero, List.set_cons_succ]
                refine take_to (i := 19) (d := some 106) (v := ?_) (l' := #[true, true, true, true, true, true, true, true, true, true, true, true, true, true, true, true, true, true, true, true, false, false, false, false, false, false, false, false, false, false, false, false]) rfl rfl (by kernel_rfl) (by kernel_rfl) (by kernel_rfl) (by kernel_rfl) (fun _ _ _ h => h) (Or.inl ⟨by rfl, ?_⟩) (by assumption) ?_; rotate_left; · (intro w' hSw; (try dsimp only at hSw); go_simp; (try with_reducible rfl))
                try simp only [Act.put, List.setIfInBounds_toArray, List.set_cons_zero, List.set_cons_succ]
                refine take_to (i := 20) (d := some 107) (v := (tagV (tailT k))) (l' := #[true, true, true, true, true, true, true, true, true, true, true, true, true, true, true, true, true, true, true, true, true, false, false, false, false, false, false, false, false, false, false, false]) rfl rfl (by kernel_rfl) (by kernel_rfl) (by kernel_rfl) (by kernel_rfl) (fun _ _ _ h => h) ?_ (by assumption) ?_
                · exact tag_load' (fun W h => h.2) (by rfl) (by rfl) (by rfl)
                try simp only [Act.put, List.setIfInBounds_toArray, List.set_cons_zero, List.set_cons_succ]
                refine one_to (i := 21) (l' := #[true, true, true, true, true, true, true, true, true, true, true, true, true, true, true, true, true, true, true, true, true, true, false, false, false, false, false, false, false, false, false, false]) rfl (by kernel_rfl) (by kernel_rfl) (fun K hK => ?_)
                go_simp
                refine (HN.out.asks0 mx HMX.out HK.out false (tailT k)).mono ?_
                rintro e V ⟨rfl, hb⟩
                replace HN := Lib.hid (HN.out.go hb)
                replace HT := Lib.hid (HT.out.below' hb)
                clear hb
                dsimp only
                refine hK.out _ _ (by first | exact ⟨HN.out.nb, HT.out⟩ | exact ⟨HN.out.nb.go (Below.refl _ _).drew, HT.out.drew⟩) (fun hHeld => ?_)
                clear hK K
                try simp only [Act.put, List.setIfInBounds_toArray, List.set_cons_zero, List.set_cons_succ]
                refine take_to (i := 22) (d := some 109) (v := ?_) (l' := #[true, true, true, true, true, true, true, true, true, true, true, true, true, true, true, true, true, true, true, true, true, true, true, false, false, false, false, false, false, false, false, false]) rfl rfl (by kernel_rfl) (by kernel_rfl) (by kernel_rfl) (by kernel_rfl) (fun _ _ _ h => h) (Or.inl ⟨by rfl, ?_⟩) (by assumption) ?_; rotate_left; · (intro w' hSw; (try dsimp only at hSw); go_simp; (try with_reducible rfl))
                try simp only [Act.put, List.setIfInBounds_toArray, List.set_cons_zero, List.set_cons_succ]
                refine take_to (i := 23) (d := some 110) (v := ?_) (l' := #[true, true, true, true, true, true, true, true, true, true, true, true, true, true, true, true, true, true, true, true, true, true, true, true, false, false, false, false, false, false, false, false]) rfl rfl (by kernel_rfl) (by kernel_rfl) (by kernel_rfl) (by kernel_rfl) (fun _ _ _ h => h) (Or.inl ⟨by rfl, ?_⟩) (by assumption) ?_; rotate_left; · (intro w' hSw; (try dsimp only at hSw); go_simp; (try with_reducible rfl))
                try simp only [Act.put, List.setIfInBounds_toArray, List.set_cons_zero, List.set_cons_succ]
                refine take_to (i := 24) (d := some 111) (v := ?_) (l' := #[true, true, true, true, true, true, true, true, true, true, true, true, true, true, true, true, true, true, true, true, true, true, true, true, true, false, false, false, false, false, false, false]) rfl rfl (by kernel_rfl) (by kernel_rfl) (by kernel_rfl) (by kernel_rfl) (fun _ _ _ h => h) (Or.inl ⟨by rfl, ?_⟩) (by assumption) ?_; rotate_left; · (intro w' hSw; (try dsimp only at hSw); go_simp; (try with_reducible rfl))
                try simp only [Act.put, List.setIfInBounds_toArray, List.set_cons_zero, List.set_cons_succ]
                refine take_to (i := 25) (d := some 112) (v := ?_) (l' := #[true, true, true, true, true, true, true, true, true, true, true, true, true, true, true, true, true, true, true, true, true, true, true, true, true, true, false, false, false, false, false, false]) rfl rfl (by kernel_rfl) (by kernel_rfl) (by kernel_rfl) (by kernel_rfl) (fun _ _ _ h => h) (Or.inl ⟨by rfl, ?_⟩) (by assumption) ?_; rotate_left; · (intro w' hSw; (try dsimp only at hSw); go_simp; (try with_reducible rfl))
                try simp only [Act.put, List.setIfInBounds_toArray, List.set_cons_zero, List.set_cons_succ]
                refine take_to (i := 26) (d := some 113) (v := ?_) (l' := #[true, true, true, true, true, true, true, true, true, true, true, true, true, true, true, true, true, true, true, true, true, true, true, true, true, true, true, false, false, false, false, false]) rfl rfl (by kernel_rfl) (by kernel_rfl) (by kernel_rfl) (by kernel_rfl) (fun _ _ _ h => h) (Or.inl ⟨by rfl, ?_⟩) (by assumption) ?_; rotate_left; · (intro w' hSw; (try dsimp only at hSw); go_simp; (try with_reducible rfl))
                try simp only [Act.put, List.setIfInBounds_toArray, List.set_cons_zero, List.set_cons_succ]
                refine take_to (i := 27) (d := some 114) (v := ?_) (l' := #[true, true, true, true, true, true, true, true, true, true, true, true, true, true, true, true, true, true, true, true, true, true, true, true, true, true, true, true, false, false, false, false]) rfl rfl (by kernel_rfl) (by kernel_rfl) (by kernel_rfl) (by kernel_rfl) (fun _ _ _ h => h) (Or.inl ⟨by rfl, ?_⟩) (by assumption) ?_; rotate_left; · (intro w' hSw; (try dsimp only at hSw); go_simp; (try with_reducible rfl))
                try simp only [Act.put, List.setIfInBounds_toArray, List.set_cons_zero, List.set_cons_succ]
                refine take_to (i := 28) (d := some 115) (v := (tagV (tailT k))) (l' := #[true, true, true, true, true, true, true, true, true, true, true, true, true, true, true, true, true, true, true, true, true, true, true, true, true, true, true, true, true, false, false, false]) rfl rfl (by kernel_rfl) (by kernel_rfl) (by kernel_rfl) (by kernel_rfl) (fun _ _ _ h => h) ?_ (by assumption) ?_
                · exact tag_load' (fun W h => h.2) (by rfl) (by rfl) (by rfl)
                try simp only [Act.put, List.setIfInBounds_toArray, List.set_cons_zero, List.set_cons_succ]
                refine one_to (i := 29) (l' := #[true, true, true, true, true, true, true, true, true, true, true, true, true, true, true, true, true, true, true, true, true, true, true, true, true, true, true, true, true, true, false, false]) rfl (by kernel_rfl) (by kernel_rfl) (fun K hK => ?_)
                go_simp
                refine (HN.out.asks mx HMX.out HK.out true (tailT k) k (c2 - k) (by omega)).mono ?_
                rintro e V ⟨rfl, hb⟩
                replace HN := Lib.hid (HN.out.go hb)
                replace HT := Lib.hid (HT.out.below' hb)
                clear hb
                dsimp only
                refine hK.out _ _ (by first | exact ⟨HN.out.nb, HT.out⟩ | exact ⟨HN.out.nb.go (Below.refl _ _).drew, HT.out.drew⟩) (fun hHeld => ?_)
                clear hK K
                try simp only [Act.put, List.setIfInBounds_toArray, List.set_cons_zero, List.set_cons_succ]
                refine take_to (i := 30) (d := some 117) (v := ?_) (l' := #[true, true, true, true, true, true, true, true, true, true, true, true, true, true, true, true, true, true, true, true, true, true, true, true, true, true, true, true, true, true, true, false]) rfl rfl (by kernel_rfl) (by kernel_rfl) (by kernel_rfl) (by kernel_rfl) (fun _ _ _ h => h) (Or.inl ⟨by rfl, ?_⟩) (by assumption) ?_; rotate_left; · (intro w' hSw; (try dsimp only at hSw); go_simp; (try with_reducible rfl))
                try simp only [Act.put, List.setIfInBounds_toArray, List.set_cons_zero, List.set_cons_succ]
                refine take_to (i := 31) (d := some 118) (v := ?_) (l' := #[true, true, true, true, true, true, true, true, true, true, true, true, true, true, true, true, true, true, true, true, true, true, true, true, true, true, true, true, true, true, true, true]) rfl rfl (by kernel_rfl) (by kernel_rfl) (by kernel_rfl) (by kernel_rfl) (fun _ _ _ h => h) (Or.inl ⟨by rfl, ?_⟩) (by assumption) ?_; rotate_left; · (intro w' hSw; (try dsimp only at hSw); go_simp; (try with_reducible rfl))
                try simp only [Act.put, List.setIfInBounds_toArray, List.set_cons_zero, List.set_cons_succ]
                refine wpAnyH_done (by kernel_rfl) ?_ _
                refine NoPanic.normal ?_
                clear hHeld
                go_wp2_with fail
                go_meet
                exact ⟨rfl, HN.out⟩
              case rest =>
                obtain ⟨rfl, h1⟩ := hcut
                replace HN := Lib.hid h1
                clear h1 HT hsl
                go_wp2
                go_roundw
                case rel => exact ⟨k + 1, by omega, by go_num, HN.out⟩
                case measure => simp [intOf]; omega
            · obtain rfl : k = 6 := by omega
              have HB := Lib.hid HN.out.le.bel
              clear HN
              go_upto_region 22 with (fail)
              go_loopw [10] (fun i wr => ∃ k : Nat, k ≤ 9 ∧ i = .int .i64 (k : Int) ∧ Below w.heap.size w wr) (fun i _ => 9 - (intOf i).toNat)
              case atStart => exact ⟨0, Nat.zero_le _, rfl, HB.out⟩
              case round =>
                clear HB
                obtain ⟨k, hk, rfl, h1⟩ := hrel
                have HB := Lib.hid h1
                clear h1
                by_cases hlt4 : k < 9
                · have hk8 : k ≤ 8 := by omega
                  have HSZ := Lib.hid (size_u k hlt4)
                  obtain ⟨e8, he8⟩ : ∃ e, decide (k = 8) = e := ⟨_, rfl⟩
                  obtain ⟨e0, he0⟩ : ∃ e, decide (k = 0) = e := ⟨_, rfl⟩
                  have M1 := Lib.hid (fun W hb b c hc hr => markS_any (W := W) mx HMX.out (t1S k) e8 (size_t k hlt4).1 ((mark1 k hlt4).trans he8) hb b c hc hr)
                  have M2 := Lib.hid (fun W hb b c hc hr => markS_any (W := W) mx HMX.out (t2S k) e0 (size_t k hlt4).2.1 ((mark2 k hlt4).trans he0) hb b c hc hr)
                  have M3 := Lib.hid (fun W hb b c hc hr => markS_any (W := W) mx HMX.out (t3S k) true (size_t k hlt4).2.2 (mark3 k hlt4) hb b c hc hr)
                  have HE8 := Lib.hid he8
                  have HE0 := Lib.hid he0
                  have hn8 : (e8 != e8) = false := by simp
                  have hn0 : (e0 != e0) = false := by simp
                  clear he8 he0
                  go_upto_region 24 with (fail)
                  have hk36 : decide ((k : Int) ≤ 8) = true := decide_eq_true (by omega)
                  rw [hk36]
                  go_cut [156] from 123 to 156 (fun v wx => v = .bool false ∧ Below w.heap.size w wx)
                  case first =>
                    refine wp_region_noPanic ?_
                    refine wp_region_start (n := 34) (l := #[false, false, false, false, false, false, false, false, false, false, false, false, false, false, false, false, false, false, false, false, false, false, false, false, false, false, false, false, false, false, false, false, false, false]) (S := (fun _ => True)) (by kernel_rfl) rfl (by kernel_rfl) (by trivial) (fun hHeld => ?_)
                    replace HB := Lib.hid HB.out.drew
                    generalize World.drew _ = V at hHeld HB ⊢
                    refine take_to (i := 0) (d := some 123) (v := ?_) (l' := #[true, false, false, false, false, false, false, false, false, false, false, false, false, false, false, false, false, false, false, false, false, false, false, false, false, false, false, false, false, false, false, false, false, false]) rfl rfl (by kernel_rfl) (by kernel_rfl) (by kernel_rfl) (by kernel_rfl) (fun _ _ _ h => h) (Or.inl ⟨by rfl, ?_⟩) (by assumption) ?_; rotate_left; · (intro w' hSw; (try dsimp only at hSw); go_simp; (try with_reducible rfl))
                    try simp only [Act.put, List.setIfInBounds_toArray, List.set_cons_zero, List.set_cons_succ]
                    refine take_to (i := 1) (d := some 124) (v := ?_) (l' := #[true, true, false, false, false, false, false, false, false, false, false, false, false, false, false, false, false, false, false, false, false, false, false, false, false, false, false, false, false, false, false, false, false, false]) rfl rfl (by kernel_rfl) (by kernel_rfl) (by kernel_rfl) (by kernel_rfl) (fun _ _ _ h => h) (Or.inl ⟨by rfl, ?_⟩) (by assumption) ?_; rotate_left; · (intro w' hSw; (try dsimp only at hSw); go_simp; (try with_reducible rfl))
                    try simp only [Act.put, List.setIfInBounds_toArray, List.set_cons_zero, List.set_cons_succ]
                    refine take_to (i := 2) (d := some 125) (v := (.string (zS.extract 0 k))) (l' := #[true, true, true, false, false, false, false, false, false, false, false, false, false, false, false, false, false, false, false, false, false, false, false, false, false, false, false, false, false, false, false, false, false, false]) rfl rfl (by kernel_rfl) (by kernel_rfl) (by kernel_rfl) (by kernel_rfl) (fun _ _ _ h => h) ?_ (by assumption) ?_
                    · exact yields_strTo (by rfl) _ _ (by rfl) k hk8 (by rfl) (by rfl)
                    try simp only [Act.put, List.setIfInBounds_toArray, List.set_cons_zero, List.set_cons_succ]
                    refine take_to (i := 3) (d := some 126) (v := (.string (t1S k))) (l' := #[true, true, true, true, false, false, false, false, false, false, false, false, false, false, false, false, false, false, false, false, false, false, false, false, false, false, false, false, false, false, false, false, false, false]) rfl rfl (by kernel_rfl) (by kernel_rfl) (by kernel_rfl) (by kernel_rfl) (fun _ _ _ h => h) ?_ (by assumption) ?_
                    · exact yields_strAdd (by rfl) _ _ _ (by rfl) ⟨#[122, 117, 103]⟩ (zS.extract 0 k) (HSZ.out.1) (by rfl) (by rfl)
                    try simp only [Act.put, List.setIfInBounds_toArray, List.set_cons_zero, List.set_cons_succ]
                    refine take_to (i := 6) (d := some 129) (v := ?_) (l' := #[true, true, true, true, false, false, true, false, false, false, false, false, false, false, false, false, false, false, false, false, false, false, false, false, false, false, false, false, false, false, false, false, false, false]) rfl rfl (by kernel_rfl) (by kernel_rfl) (by kernel_rfl) (by kernel_rfl) (fun _ _ _ h => h) (Or.inl ⟨by rfl, ?_⟩) (by assumption) ?_; rotate_left; · (intro w' hSw; (try dsimp only at hSw); go_simp; (try with_reducible rfl))
                    try simp only [Act.put, List.setIfInBounds_toArray, List.set_cons_zero, List.set_cons_succ]
                    refine take_to (i := 7) (d := some 130) (v := (.bool e8)) (l' := #[true, true, true, true, false, false, true, true, false, false, false, false, false, false, false, false, false, false, false, false, false, false, false, false, false, false, false, false, false, false, false, false, false, false]) rfl rfl (by kernel_rfl) (by kernel_rfl) (by kernel_rfl) (by kernel_rfl) (fun _ _ _ h => h) ?_ (by assumption) ?_
                    · exact yields_eqK (by rfl) _ _ _ (by rfl) k 8 e8 HE8.out (by rfl) (by rfl)
                    try simp only [Act.put, List.setIfInBounds_toArray, List.set_cons_zero, List.set_cons_succ]
                    refine one_to (i := 4) (l' := #[true, true, true, true, true, false, true, true, false, false, false, false, false, false, false, false, false, false, false, false, false, false, false, false, false, false, false, false, false, false, false, false, false, false]) rfl (by kernel_rfl) (by kernel_rfl) (fun K hK => ?_)
                    rw [if_pos (by rfl)]
                    refine wp_conv _ (by rfl) (t1S k) (by rfl) ?_
                    intro b c V hb hsc hrd
                    have HR := Lib.hid hrd
                    have HC := Lib.hid hsc
                    replace HB := Lib.hid (HB.out.trans (hb.mono HB.out.size))
                    clear hb hsc hrd
                    refine hK.out _ _ (by trivial) (fun hHeld => ?_)
                    clear hK K
                    try simp only [Act.put, List.setIfInBounds_toArray, List.set_cons_zero, List.set_cons_succ]
                    refine one_to (i := 5) (l' := #[true, true, true, true, true, true, true, true, false, false, false, false, false, false, false, false, false, false, false, false, false, false, false, false, false, false, false, false, false, false, false, false, false, false]) rfl (by kernel_rfl) (by kernel_rfl) (fun K hK => ?_)
                    go_simp
                    refine (M1.out _ HB.out _ _ HC.out HR.out).mono ?_
                    rintro e V ⟨rfl, hb⟩
                    replace HB := Lib.hid (HB.out.trans (hb.mono HB.out.size))
                    clear hb HR HC
                    dsimp only
                    refine hK.out _ _ (by trivial) (fun hHeld => ?_)
                    clear hK K
                    try simp only [Act.put, List.setIfInBounds_toArray, List.set_cons_zero, List.set_cons_succ]
                    refine take_to (i := 8) (d := some 131) (v := ?_) (l' := #[true, true, true, true, true, true, true, true, true, false, false, false, false, false, false, false, false, false, false, false, false, false, false, false, false, false, false, false, false, false, false, false, false, false]) rfl rfl (by kernel_rfl) (by kernel_rfl) (by kernel_rfl) (by kernel_rfl) (fun _ _ _ h => h) (Or.inl ⟨by rfl, ?_⟩) (by assumption) ?_; rotate_left; · (intro w' hSw; (try dsimp only at hSw); go_simp; (try with_reducible rfl))
                    try simp only [Act.put, List.setIfInBounds_toArray, List.set_cons_zero, List.set_cons_succ]
                    refine take_to (i := 9) (d := some 132) (v := ?_) (l' := #[true, true, true, true, true, true, true, true, true, true, false, false, false, false, false, false, false, false, false, false, false, false, false, false, false, false, false, false, false, false, false, false, false, false]) rfl rfl (by kernel_rfl) (by kernel_rfl) (by kernel_rfl) (by kernel_rfl) (fun _ _ _ h => h) (Or.inl ⟨by rfl, ?_⟩) (by assumption) ?_; rotate_left; · (intro w' hSw; (try dsimp only at hSw); go_simp; (try with_reducible rfl))
                    try simp only [Act.put, List.setIfInBounds_toArray, List.set_cons_zero, List.set_cons_succ]
                    refine take_to (i := 10) (d := some 133) (v := ?_) (l' := #[true, true, true, true, true, true, true, true, true, true, true, false, false, false, false, false, false, false, false, false, false, false, false, false, false, false, false, false, false, false, false, false, false, false]) rfl rfl (by kernel_rfl) (by kernel_rfl) (by kernel_rfl) (by kernel_rfl) (fun _ _ _ h => h) (Or.inl ⟨by rfl, ?_⟩) (by assumption) ?_; rotate_left; · (intro w' hSw; (try dsimp only at hSw); go_simp; (try with_reducible rfl))
                    try simp only [Act.put, List.setIfInBounds_toArray, List.set_cons_zero, List.set_cons_succ]
                    refine take_to (i := 11) (d := some 134) (v := ?_) (l' := #[true, true, true, true, true, true, true, true, true, true, true, true, false, false, false, false, false, false, false, false, false, false, false, false, false, false, false, false, false, false, false, false, false, false]) rfl rfl (by kernel_rfl) (by kernel_rfl) (by kernel_rfl) (by kernel_rfl) (fun _ _ _ h => h) (Or.inl ⟨by rfl, ?_⟩) (by assumption) ?_; rotate_left; · (intro w' hSw; (try dsimp only at hSw); go_simp; (try with_reducible rfl))
                    try simp only [Act.put, List.setIfInBounds_toArray, List.set_cons_zero, List.set_cons_succ]
                    refine take_to (i := 12) (d := some 135) (v := (.string (zS.extract k zS.size))) (l' := #[true, true, true, true, true, true, true, true, true, true, true, true, true, false, false, false, false, false, false, false, false, false, false, false, false, false, false, false, false, false, false, false, false, false]) rfl rfl (by kernel_rfl) (by kernel_rfl) (by kernel_rfl) (by kernel_rfl) (fun _ _ _ h => h) ?_ (by assumption) ?_
                    · exact yields_strFrom (by rfl) _ _ (by rfl) k hk8 (by rfl) (by rfl)
                    try simp only [Act.put, List.setIfInBounds_toArray, List.set_cons_zero, List.set_cons_succ]
                    refine take_to (i := 13) (d := some 136) (v := (.string (t2S k))) (l' := #[true, true, true, true, true, true, true, true, true, true, true, true, true, true, false, false, false, false, false, false, false, false, false, false, false, false, false, false, false, false, false, false, false, false]) rfl rfl (by kernel_rfl) (by kernel_rfl) (by kernel_rfl) (by kernel_rfl) (fun _ _ _ h => h) ?_ (by assumption) ?_
                    · exact yields_strAdd (by rfl) _ _ _ (by rfl) (zS.extract k zS.size) ⟨#[33]⟩ (HSZ.out.2.1) (by rfl) (by rfl)
                    try simp only [Act.put, List.setIfInBounds_toArray, List.set_cons_zero, List.set_cons_succ]
                    refine take_to (i := 16) (d := some 139) (v := ?_) (l' := #[true, true, true, true, true, true, true, true, true, true, true, true, true, true, false, false, true, false, false, false, false, false, false, false, false, false, false, false, false, false, false, false, false, false]) rfl rfl (by kernel_rfl) (by kernel_rfl) (by kernel_rfl) (by kernel_rfl) (fun _ _ _ h => h) (Or.inl ⟨by rfl, ?_⟩) (by assumption) ?_; rotate_left; · (intro w' hSw; (try dsimp only at hSw); go_simp; (try with_reducible rfl))
                    try simp only [Act.put, List.setIfInBounds_toArray, List.set_cons_zero, List.set_cons_succ]
                    refine take_to (i := 17) (d := some 140) (v := (.bool e0)) (l' := #[true, true, true, true, true, true, true, true, true, true, true, true, true, true, false, false, true, true, false, false, false, false, false, false, false, false, false, false, false, false, false, false, false, false]) rfl rfl (by kernel_rfl) (by kernel_rfl) (by kernel_rfl) (by kernel_rfl) (fun _ _ _ h => h) ?_ (by assumption) ?_
                    · exact yields_eqK (by rfl) _ _ _ (by rfl) k 0 e0 HE0.out (by rfl) (by rfl)
                    try simp only [Act.put, List.setIfInBounds_toArray, List.set_cons_zero, List.set_cons_succ]
                    refine one_to (i := 14) (l' := #[true, true, true, true, true, true, true, true, true, true, true, true, true, true, true, false, true, true, false, false, false, false, false, false, false, false, false, false, false, false, false, false, false, false]) rfl (by kernel_rfl) (by kernel_rfl) (fun K hK => ?_)
                    rw [if_pos (by rfl)]
                    refine wp_conv _ (by rfl) (t2S k) (by rfl) ?_
                    intro b c V hb hsc hrd
                    have HR := Lib.hid hrd
                    have HC := Lib.hid hsc
                    replace HB := Lib.hid (HB.out.trans (hb.mono HB.out.size))
                    clear hb hsc hrd
                    refine hK.out _ _ (by trivial) (fun hHeld => ?_)
                    clear hK K
                    try simp only [Act.put, List.setIfInBounds_toArray, List.set_cons_zero, List.set_cons_succ]
                    refine one_to (i := 15) (l' := #[true, true, true, true, true, true, true, true, true, true, true, true, true, true, true, true, true, true, false, false, false, false, false, false, false, false, false, false, false, false, false, false, false, false]) rfl (by kernel_rfl) (by kernel_rfl) (fun K hK => ?_)
                    go_simp
                    refine (M2.out _ HB.out _ _ HC.out HR.out).mono ?_
                    rintro e V ⟨rfl, hb⟩
                    replace HB := Lib.hid (HB.out.trans (hb.mono HB.out.size))
                    clear hb HR HC
                    dsimp only
                    refine hK.out _ _ (by trivial) (fun hHeld => ?_)
                    clear hK K
                    try simp only [Act.put, List.setIfInBounds_toArray, List.set_cons_zero, List.set_cons_succ]
                    refine take_to (i := 18) (d := some 141) (v := ?_) (l' := #[true, true, true, true, true, true, true, true, true, true, true, true, true, true, true, true, true, true, true, false, false, false, false, false, false, false, false, false, false, false, false, false, false, false]) rfl rfl (by kernel_rfl) (by kernel_rfl) (by kernel_rfl) (by kernel_rfl) (fun _ _ _ h => h) (Or.inl ⟨by rfl, ?_⟩) (by assumption) ?_; rotate_left; · (intro w' hSw; (try dsimp only at hSw); go_simp; (try with_reducible rfl))
                    try simp only [Act.put, List.setIfInBounds_toArray, List.set_cons_zero, List.set_cons_succ]
                    refine take_to (i := 19) (d := some 142) (v := ?_) (l' := #[true, true, true, true, true, true, true, true, true, true, true, true, true, true, true, true, true, true, true, true, false, false, false, false, false, false, false, false, false, false, false, false, false, false]) rfl rfl (by kernel_rfl) (by kernel_rfl) (by kernel_rfl) (by kernel_rfl) (fun _ _ _ h => h) (Or.inl ⟨by rfl, ?_⟩) (by assumption) ?_; rotate_left; · (intro w' hSw; (try dsimp only at hSw); go_simp; (try with_reducible rfl))
                    try simp only [Act.put, List.setIfInBounds_toArray, List.set_cons_zero, List.set_cons_succ]
                    refine take_to (i := 20) (d := some 143) (v := ?_) (l' := #[true, true, true, true, true, true, true, true, true, true, true, true, true, true, true, true, true, true, true, true, true, false, false, false, false, false, false, false, false, false, false, false, false, false]) rfl rfl (by kernel_rfl) (by kernel_rfl) (by kernel_rfl) (by kernel_rfl) (fun _ _ _ h => h) (Or.inl ⟨by rfl, ?_⟩) (by assumption) ?_; rotate_left; · (intro w' hSw; (try dsimp only at hSw); go_simp; (try with_reducible rfl))
                    try simp only [Act.put, List.setIfInBounds_toArray, List.set_cons_zero, List.set_cons_succ]
                    refine take_to (i := 21) (d := some 144) (v := ?_) (l' := #[true, true, true, true, true, true, true, true, true, true, true, true, true, true, true, true, true, true, true, true, true, true, false, false, false, false, false, false, false, false, false, false, false, false]) rfl rfl (by kernel_rfl) (by kernel_rfl) (by kernel_rfl) (by kernel_rfl) (fun _ _ _ h => h) (Or.inl ⟨by rfl, ?_⟩) (by assumption) ?_; rotate_left; · (intro w' hSw; (try dsimp only at hSw); go_simp; (try with_reducible rfl))
                    try simp only [Act.put, List.setIfInBounds_toArray, List.set_cons_zero, List.set_cons_succ]
                    refine take_to (i := 22) (d := some 145) (v := ?_) (l' := #[true, true, true, true, true, true, true, true, true, true, true, true, true, true, true, true, true, true, true, true, true, true, true, false, false, false, false, false, false, false, false, false, false, false]) rfl rfl (by kernel_rfl) (by kernel_rfl) (by kernel_rfl) (by kernel_rfl) (fun _ _ _ h => h) (Or.inl ⟨by rfl, ?_⟩) (by assumption) ?_; rotate_left; · (intro w' hSw; (try dsimp only at hSw); go_simp; (try with_reducible rfl))
                    try simp only [Act.put, List.setIfInBounds_toArray, List.set_cons_zero, List.set_cons_succ]
                    refine take_to (i := 23) (d := some 146) (v := (.string (zS.extract 0 k))) (l' := #[true, true, true, true, true, true, true, true, true, true, true, true, true, true, true, true, true, true, true, true, true, true, true, true, false, false, false, false, false, false, false, false, false, false]) rfl rfl (by kernel_rfl) (by kernel_rfl) (by kernel_rfl) (by kernel_rfl) (fun _ _ _ h => h) ?_ (by assumption) ?_
                    · exact yields_strTo (by rfl) _ _ (by rfl) k hk8 (by rfl) (by rfl)
                    try simp only [Act.put, List.setIfInBounds_toArray, List.set_cons_zero, List.set_cons_succ]
                    refine take_to (i := 24) (d := some 147) (v := ?_) (l' := #[true, true, true, true, true, true, true, true, true, true, true, true, true, true, true, true, true, true, true, true, true, true, true, true, true, false, false, false, false, false, false, false, false, false]) rfl rfl (by kernel_rfl) (by kernel_rfl) (by kernel_rfl) (by kernel_rfl) (fun _ _ _ h => h) (Or.inl ⟨by rfl, ?_⟩) (by assumption) ?_; rotate_left; · (intro w' hSw; (try dsimp only at hSw); go_simp; (try with_reducible rfl))
                    try simp only [Act.put, List.setIfInBounds_toArray, List.set_cons_zero, List.set_cons_succ]
                    refine take_to (i := 25) (d := some 148) (v := (.string (zS.extract 0 k ++ zS))) (l' := #[true, true, true, true, true, true, true, true, true, true, true, true, true, true, true, true, true, true, true, true, true, true, true, true, true, true, false, false, false, false, false, false, false, false]) rfl rfl (by kernel_rfl) (by kernel_rfl) (by kernel_rfl) (by kernel_rfl) (fun _ _ _ h => h) ?_ (by assumption) ?_
                    · exact yields_strAdd (by rfl) _ _ _ (by rfl) (zS.extract 0 k) zS (HSZ.out.2.2.1) (by rfl) (by rfl)
                    try simp only [Act.put, List.setIfInBounds_toArray, List.set_cons_zero, List.set_cons_succ]
                    refine take_to (i := 26) (d := some 149) (v := ?_) (l' := #[true, true, true, true, true, true, true, true, true, true, true, true, true, true, true, true, true, true, true, true, true, true, true, true, true, true, true, false, false, false, false, false, false, false]) rfl rfl (by kernel_rfl) (by kernel_rfl) (by kernel_rfl) (by kernel_rfl) (fun _ _ _ h => h) (Or.inl ⟨by rfl, ?_⟩) (by assumption) ?_; rotate_left; · (intro w' hSw; (try dsimp only at hSw); go_simp; (try with_reducible rfl))
                    try simp only [Act.put, List.setIfInBounds_toArray, List.set_cons_zero, List.set_cons_succ]
                    refine take_to (i := 27) (d := some 150) (v := ?_) (l' := #[true, true, true, true, true, true, true, true, true, true, true, true, true, true, true, true, true, true, true, true, true, true, true, true, true, true, true, true, false, false, false, false, false, false]) rfl rfl (by kernel_rfl) (by kernel_rfl) (by kernel_rfl) (by kernel_rfl) (fun _ _ _ h => h) (Or.inl ⟨by rfl, ?_⟩) (by assumption) ?_; rotate_left; · (intro w' hSw; (try dsimp only at hSw); go_simp; (try with_reducible rfl))
                    try simp only [Act.put, List.setIfInBounds_toArray, List.set_cons_zero, List.set_cons_succ]
                    refine take_to (i := 28) (d := some 151) (v := (.string (zS.extract k zS.size))) (l' := #[true, true, true, true, true, true, true, true, true, true, true, true, true, true, true, true, true, true, true, true, true, true, true, true, true, true, true, true, true, false, false, false, false, false]) rfl rfl (by kernel_rfl) (by kernel_rfl) (by kernel_rfl) (by kernel_rfl) (fun _ _ _ h => h) ?_ (by assumption) ?_
                    · exact yields_strFrom (by rfl) _ _ (by rfl) k hk8 (by rfl) (by rfl)
                    try simp only [Act.put, List.setIfInBounds_toArray, List.set_cons_zero, List.set_cons_succ]
                    refine take_to (i := 29) (d := some 152) (v := (.string (t3S k))) (l' := #[true, true, true, true, true, true, true, true, true, true, true, true, true, true, true, true, true, true, true, true, true, true, true, true, true, true, true, true, true, true, false, false, false, false]) rfl rfl (by kernel_rfl) (by kernel_rfl) (by kernel_rfl) (by kernel_rfl) (fun _ _ _ h => h) ?_ (by assumption) ?_
                    · exact yields_strAdd (by rfl) _ _ _ (by rfl) (zS.extract 0 k ++ zS) (zS.extract k zS.size) (HSZ.out.2.2.2) (by rfl) (by rfl)
                    try simp only [Act.put, List.setIfInBounds_toArray, List.set_cons_zero, List.set_cons_succ]
                    refine one_to (i := 30) (l' := #[true, true, true, true, true, true, true, true, true, true, true, true, true, true, true, true, true, true, true, true, true, true, true, true, true, true, true, true, true, true, true, false, false, false]) rfl (by kernel_rfl) (by kernel_rfl) (fun K hK => ?_)
                    rw [if_pos (by rfl)]
                    refine wp_conv _ (by rfl) (t3S k) (by rfl) ?_
                    intro b c V hb hsc hrd
                    have HR := Lib.hid hrd
                    have HC := Lib.hid hsc
                    replace HB := Lib.hid (HB.out.trans (hb.mono HB.out.size))
                    clear hb hsc hrd
                    refine hK.out _ _ (by trivial) (fun hHeld => ?_)
                    clear hK K
                    try simp only [Act.put, List.setIfInBounds_toArray, List.set_cons_zero, List.set_cons_succ]
                    refine one_to (i := 31) (l' := #[true, true, true, true, true, true, true, true, true, true, true, true, true, true, true, true, true, true, true, true, true, true, true, true, true, true, true, true, true, true, true, true, false, false]) rfl (by kernel_rfl) (by kernel_rfl) (fun K hK => ?_)
                    go_simp
                    refine (M3.out _ HB.out _ _ HC.out HR.out).mono ?_
                    rintro e V ⟨rfl, hb⟩
                    replace HB := Lib.hid (HB.out.trans (hb.mono HB.out.size))
                    clear hb HR HC
                    dsimp only
                    refine hK.out _ _ (by trivial) (fun hHeld => ?_)
                    clear hK K
                    try simp only [Act.put, List.setIfInBounds_toArray, List.set_cons_zero, List.set_cons_succ]
                    refine take_to (i := 32) (d := some 155) (v := ?_) (l' := #[true, true, true, true, true, true, true, true, true, true, true, true, true, true, true, true, true, true, true, true, true, true, true, true, true, true, true, true, true, true, true, true, true, false]) rfl rfl (by kernel_rfl) (by kernel_rfl) (by kernel_rfl) (by kernel_rfl) (fun _ _ _ h => h) (Or.inl ⟨by rfl, ?_⟩) (by assumption) ?_; rotate_left; · (intro w' hSw; (try dsimp only at hSw); go_simp; (try with_reducible rfl))
                    try simp only [Act.put, List.setIfInBounds_toArray, List.set_cons_zero, List.set_cons_succ]
                    refine take_to (i := 33) (d := some 156) (v := ?_) (l' := #[true, true, true, true, true, true, true, true, true, true, true, true, true, true, true, true, true, true, true, true, true, true, true, true, true, true, true, true, true, true, true, true, true, true]) rfl rfl (by kernel_rfl) (by kernel_rfl) (by kernel_rfl) (by kernel_rfl) (fun _ _ _ h => h) (Or.inl ⟨by rfl, ?_⟩) (by assumption) ?_; rotate_left; · (intro w' hSw; (try dsimp only at hSw); go_simp; (try with_reducible rfl))
                    try simp only [Act.put, List.setIfInBounds_toArray, List.set_cons_zero, List.set_cons_succ]
                    refine wpAnyH_done (by kernel_rfl) ?_ _
                    refine NoPanic.normal ?_
                    clear hHeld
                    go_wp2_with fail
                    go_meet
                    exact ⟨rfl, HB.out⟩
                  case rest =>
                    obtain ⟨rfl, h1⟩ := hcut
                    replace HB := Lib.hid h1
                    clear h1 M1 M2 M3 HSZ HE8 HE0 hn8 hn0
                    go_wp2
                    go_roundw
                    case rel => exact ⟨k + 1, by omega, by go_num, HB.out⟩
                    case measure => simp [intOf]; omega
                · obtain rfl : k = 9 := by omega
                  go_wp2_with fail
                  refine (mark0_any mx HMX.out HB.out).mono ?_
                  rintro e w20 ⟨rfl, hb⟩
                  replace HB := Lib.hid (HB.out.trans (hb.mono HB.out.size))
                  clear hb
                  go_wp2_with fail
                  refine (none04_any _).mono ?_
                  rintro e w21 ⟨rfl, hb⟩
                  replace HB := Lib.hid (HB.out.trans (hb.mono HB.out.size))
                  clear hb
                  go_wp2_with fail
                  refine (awake4 _).mono ?_
                  rintro e w22 ⟨rfl, hb⟩
                  replace HB := Lib.hid (HB.out.trans (hb.mono HB.out.size))
                  clear hb
                  go_wp2
                  go_ret
                  exact ⟨rfl, HB.out⟩
end Go.Proofs.YtejknkgbkkdaiaaGreatDoor
