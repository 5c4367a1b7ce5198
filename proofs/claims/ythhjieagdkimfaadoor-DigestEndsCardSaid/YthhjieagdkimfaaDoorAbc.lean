/-
  Contract: the chapter's example is answered.
-/
import Derived.Test.YthhjieagdkimfaaDoorOf
import Derived.Lib.SlBytesConst
namespace Go.Proofs.YthhjieagdkimfaaDoor
open Go.RowKit
set_option linter.unusedSimpArgs false
set_option linter.unusedVariables false

theorem infoB1 : ∃ i, Tryd.prog.info? 5 = some i ∧ i.size = 1 := by
  have h : (Tryd.prog.info? 5).map (·.size) = some 1 := by kernel_rfl
  cases hq : Tryd.prog.info? 5 with
  | none => rw [hq] at h; cases h
  | some i => exact ⟨i, rfl, by rw [hq] at h; simpa using h⟩
theorem equal_tag (s : Nat → BitVec 8) (d : Nat) (w : World) : (Op.equalIn (d + 2) 32 (tagV s) (tagV s)).run Tryd.prog w = .ok true w := by
  obtain ⟨i, hi, hs⟩ := infoB1
  unfold tagV
  rw [Op.equalIn]
  simp only [Sem.run_bind, run_underlying Tryd.underlying32, Result.andThen_ok, sizeOf, typeInfo, hi, hs, Std.Legacy.Range.forIn_eq_forIn_range', Std.Legacy.Range.size, Nat.sub_zero, Nat.add_sub_cancel, Nat.div_one]
  simp only [Sem.run_pure, Sem.run_bind, Result.andThen_ok, run_program, hi, hs]
  have hl : ∀ j ∈ List.range' 0 32 1, j < 32 := fun j hj => by simpa using (List.mem_range'_1.1 hj).2
  generalize List.range' 0 32 1 = l at hl ⊢
  induction l with
  | nil => simp
  | cons j l ih =>
    have hj : j < 32 := hl j (by simp)
    have px : (Go.part 5 (tagC s).toArray (j * 1)).run Tryd.prog w = .ok (.int .u8 (ub (s j))) w := by
      simp [Go.part, isAgg, run_underlying Tryd.underlying5, tagC, hj]
    have pe : (Op.equalIn (d + 1) 5 (.int .u8 (ub (s j))) (.int .u8 (ub (s j)))).run Tryd.prog w = .ok true w := by
      rw [run_equalIn_int w d 5 .u8 .u8 _ _ Tryd.underlying5]; simp
    simp only [List.forIn_cons, Sem.run_bind, px, pe, Result.andThen_ok, Bool.not_true, Bool.false_eq_true, if_false, Sem.run_pure]
    exact ih fun k hk => hl k (by simp [hk])
theorem eql_tag (s : Nat → BitVec 8) (w : World) : (binOp .eql 32 (tagV s) (tagV s)).run Tryd.prog w = .ok (.bool true) w := by
  have h := run_eql_struct (P := Tryd.prog) w 32 (tagC s).toArray (tagC s).toArray
  have e := equal_tag s 9998 w
  unfold tagV at e ⊢
  rw [h, e]; rfl
theorem neq_tag (s : Nat → BitVec 8) (w : World) : (binOp .neq 32 (tagV s) (tagV s)).run Tryd.prog w = .ok (.bool false) w := by
  have h := run_neq_struct (P := Tryd.prog) w 32 (tagC s).toArray (tagC s).toArray
  have e := equal_tag s 9998 w
  unfold tagV at e ⊢
  rw [h, e]; rfl
theorem guard_tag (s s' : Nat → BitVec 8) (op : BinOp) (x y : Operand) (w : World) : (eqGuard op 32 x y (tagV s) (tagV s')).run Tryd.prog w = .ok () w :=
  run_eqGuard_agg w op 32 x y _ _ (by kernel_rfl)
/-- the example's tag -/
def abcS (i : Nat) : BitVec 8 := abcT.getD i 0#8

def abcL : List Value := [Value.int .u8 186, Value.int .u8 120, Value.int .u8 22, Value.int .u8 191, Value.int .u8 143, Value.int .u8 1, Value.int .u8 207, Value.int .u8 234, Value.int .u8 65, Value.int .u8 65, Value.int .u8 64, Value.int .u8 222, Value.int .u8 93, Value.int .u8 174, Value.int .u8 34, Value.int .u8 35, Value.int .u8 176, Value.int .u8 3, Value.int .u8 97, Value.int .u8 163, Value.int .u8 150, Value.int .u8 23, Value.int .u8 122, Value.int .u8 156, Value.int .u8 180, Value.int .u8 16, Value.int .u8 255, Value.int .u8 97, Value.int .u8 242, Value.int .u8 0, Value.int .u8 21, Value.int .u8 173]
theorem abcL_one : abcL.toArray.all (·.oneCell') = true := by kernel_rfl
theorem abc_val : tagV abcS = .agg abcL.toArray := by kernel_rfl
theorem wpList_build_at {P : Program} {ops : Array Oper} {rest : List Oper} {o : Oper} {a : Act} {w : World} {Q : Exit → Act → World → Prop} (hg : o.guard = none) (t : TypeId) (parts : Array (Nat × Operand)) (ho : o.op = .build t parts) (cells : Array Value)
    (hb : P.built t (parts.map fun (i, x) => (i, a.eval x)).toList = some cells) (h : wpList P ops Q rest (a.put o.dst (.agg cells)) w) : wpList P ops Q (o :: rest) a w := by
  refine wpList_build hg t parts ho (by rw [hb]; rfl) ?_
  rw [hb]; exact h
set_option maxHeartbeats 1000000 in
set_option maxRecDepth 100000 in
theorem abc_any (w : World) : Calls Tryd.prog 37 #[] w fun e w' => e = .returned (tagV abcS) ∧ Below w.heap.size w w' := by
  rw [abc_val]
  go_enter Tryd.func37, Tryd.ntmps37
  go_upto_region 1 with (fail)
  refine wp_region_lit ?_
  refine wpList_build_at rfl 32 _ rfl abcL.toArray (by kernel_rfl) ?_
  simp only [Act.put, List.setIfInBounds_toArray, List.set_cons_zero, List.set_cons_succ]
  refine wpList_store_mid rfl 32 _ _ rfl w.heap.size 0 abcL.toArray rfl rfl (there_block (laid_at rfl) (by simp [abcL])) (by simp [infoTag, abcL]) abcL_one ?_
  rw [List.toList_toArray]
  have HR := Lib.hid (World.rangeAt_setCells_same (w.alloc (.cells (List.replicate 32 (Value.int .u8 0)).toArray 32)) w.heap.size 0 abcL (there_block (laid_at rfl) (by simp [abcL])))
  have HB := Lib.hid (((Below.refl w.heap.size w).alloc (Nat.le_refl _) (.cells (List.replicate 32 (Value.int .u8 0)).toArray 32)).grown (gr_setCells (hb := w.heap.size) abcL 0 _) (by simp) (by rintro k ⟨⟩; omega))
  show Exit.then _ _ Exit.normal _ ((w.alloc (.cells (List.replicate 32 (Value.int .u8 0)).toArray 32)).setCells w.heap.size 0 abcL)
  generalize (w.alloc (.cells (List.replicate 32 (Value.int .u8 0)).toArray 32)).setCells w.heap.size 0 abcL = W7 at HR HB ⊢
  go_wp2
  refine bodyPost_ret (v := .agg abcL.toArray) ?_ rfl ⟨rfl, HB.out⟩
  exact results_cell_mid (p := 0) (ty := 32) rfl _ W7 w.heap.size _ _ rfl HR.out Tryd.underlying32 rfl (by simp [infoTag, abcL])

theorem sha_abc {g : Nat → BitVec 8} (hg : ∀ i, i < 3 → g i = abcB i) : tagV (sha g 3) = tagV abcS := by
  unfold tagV tagC
  congr 2
  apply List.map_congr_left
  intro i hi
  rw [sha_congr 3 hg, abc_sha i (List.mem_range.1 hi)]
  rfl

set_option maxHeartbeats 2000000 in
set_option maxRecDepth 100000 in
theorem awake2 (B : Nat) (w : World) (hk : Kc B w) (hB : B ≤ w.heap.size) :
    Calls Tryd.prog 9 #[] w fun e w' => e = .returned (.bool true) ∧ Below w.heap.size w w' := by
  have HK := Lib.hid hk
  clear hk
  go_enter Tryd.func9, Tryd.ntmps9
  go_wp2_with fail
  refine (new_any w).mono ?_
  rintro e W1 ⟨hb, rfl, hbW, hb1, hh1⟩
  have HH1 := Lib.hid (hh1 abcB)
  have HB1 := Lib.hid hb1
  have hlt1 : hb < W1.heap.size := by obtain ⟨op, hs, _⟩ := hh1 abcB; exact hs.lt
  have cv1 := Lib.run_convert_bytes_const (P := Tryd.prog) W1 27 5 #[.int .u8 97] 1 1 Tryd.underlying27 Tryd.underlying5
  have cv2 := Lib.run_convert_bytes_const (P := Tryd.prog) (W1.alloc (.cells #[.int .u8 97] 5 (1, 2))) 27 5 #[.int .u8 98, .int .u8 99] 2 2 Tryd.underlying27 Tryd.underlying5
  simp only [List.size_toArray, List.length_cons, List.length_nil, World.size_alloc] at cv1 cv2
  have q1 := HB1.out.size
  clear hb1 hh1
  go_wp2_with fail
  refine (write2 B _ hb (W1.heap.size + 1 + 1) 0 1 1 2 2 (some ⟨W1.heap.size, 0, none⟩) (some ⟨W1.heap.size + 1, 0, none⟩) 27 abcB
    (HK.out.below ((((HB1.out.mono hB).alloc (by omega) _).alloc (by simp; omega) _).alloc (by simp; omega) _)) (by omega) (((HH1.out.alloc _).alloc _).alloc _) (by exact laid_at (by simp)) (by omega) (by omega) (by decide) (by omega) (by decide)
    (rx_laid (t := 5) (by exact laid_old (laid_old (laid_at rfl))) (by omega) (fun i hi => by rw [show i = 0 by omega]; rfl))
    (rx_laid (t := 5) (by exact laid_old (laid_at (by simp))) (by omega) (fun i hi => by
      match i, hi with
      | 0, _ => rfl
      | 1, _ => rfl)) (by omega)).mono ?_
  rintro e W2 ⟨rfl, hg2, hh2⟩
  have HH2 := Lib.hid hh2
  have HG2 := Lib.hid ((((World.grownBy_alloc W1 _ (some hb)).trans (World.grownBy_alloc _ _ _)).trans (World.grownBy_alloc _ _ _)).trans hg2)
  have HB2 := Lib.hid (HB1.out.grown HG2.out HB1.out.size (by rintro k ⟨⟩; omega))
  have q2 := HB2.out.size
  clear hh2 hg2
  clear cv1 cv2
  have cv3 := Lib.run_convert_bytes_const (P := Tryd.prog) W2 27 5 #[.int .u8 97, .int .u8 98, .int .u8 99] 3 3 Tryd.underlying27 Tryd.underlying5
  simp only [List.size_toArray, List.length_cons, List.length_nil, World.size_alloc] at cv3
  go_wp2_with fail
  refine (of1 B _ (W2.heap.size + 1) 3 3 (some ⟨W2.heap.size, 0, none⟩) 27 abcB (HK.out.below (((HB2.out.mono hB).alloc (by omega) _).alloc (by simp; omega) _)) (by simp; omega) (by exact laid_at (by simp)) (by omega) (by decide)
    (reads_at (t := 5) (by exact laid_old (laid_at rfl)) (fun i hi => by
      match i, hi with
      | 0, _ => rfl
      | 1, _ => rfl
      | 2, _ => rfl)) (by omega)).mono ?_
  rintro e W3 ⟨rfl, hb3⟩
  rw [sha_abc (g := abcB) (fun _ _ => rfl)]
  have hb3' : Below W2.heap.size W2 W3 := (((Below.refl _ _).alloc (Nat.le_refl _) _).alloc (by simp) _).trans (hb3.mono (by simp; omega))
  have HB3 := Lib.hid (HB2.out.trans (hb3'.mono q2))
  have HH3 := Lib.hid (HH2.out.below' hb3')
  have q3 := HB3.out.size
  clear hb3 hb3' cv3
  go_wp2_with fail
  refine (abc_any W3).mono ?_
  rintro e W4 ⟨rfl, hb4⟩
  have heq := eql_tag abcS
  have hgd := guard_tag abcS abcS
  have HB4 := Lib.hid (HB3.out.trans (hb4.mono q3))
  have HH4 := Lib.hid (HH3.out.below' hb4)
  have q4 := HB4.out.size
  clear hb4
  go_wp2_with fail
  refine (tagOf_any B W4 hb abcB _ (HK.out.below (HB4.out.mono hB)) (by omega) HH4.out (by omega)).mono ?_
  rintro e W5 ⟨rfl, hb5⟩
  rw [show (0 + (1 + 2)) = 3 from rfl, sha_abc (g := abcB) (fun _ _ => rfl)]
  have HB5 := Lib.hid (HB4.out.trans (hb5.mono q4))
  have HH5 := Lib.hid (HH4.out.below' hb5)
  have q5 := HB5.out.size
  clear hb5
  go_wp2_with fail
  refine (abc_any W5).mono ?_
  rintro e W6 ⟨rfl, hb6⟩
  have HB6 := Lib.hid (HB5.out.trans (hb6.mono q5))
  have HH6 := Lib.hid (HH5.out.below' hb6)
  clear hb6
  go_wp2_with fail
  refine (lenH W6 hb _ abcB HH6.out).mono ?_
  rintro e W7 ⟨rfl, rfl⟩
  go_wp2
  go_ret
  exact ⟨rfl, HB6.out⟩
end Go.Proofs.YthhjieagdkimfaaDoor
