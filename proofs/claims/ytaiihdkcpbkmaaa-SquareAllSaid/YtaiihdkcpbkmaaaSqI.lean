/-
  The walk of SquareTells.
-/
import Derived.Test.YtaiihdkcpbkmaaaSqH
import Derived.Laws.OwnMore
import Derived.Lib.AppendZeros
namespace Go.Proofs.Ytaiihdkcpbkmaaa
open Go.RowKit
set_option linter.unusedSimpArgs false
set_option linter.unusedVariables false

/-- the cells of a row of steps -/
def pv (f g : Nat → Int) (j : Nat) : Value := .int .i64 (if j % 2 = 0 then f (j / 2) else g (j / 2))
theorem pv0 (f g : Nat → Int) (i : Nat) : pv f g (i * 2) = .int .i64 (f i) := by
  unfold pv; rw [if_pos (by omega), show i * 2 / 2 = i by omega]
theorem pv1 (f g : Nat → Int) (i : Nat) : pv f g (i * 2 + 1) = .int .i64 (g i) := by
  unfold pv; rw [if_neg (by omega), show (i * 2 + 1) / 2 = i by omega]
theorem reads2_at {B : Nat} {w : World} {b off n : Nat} {f g : Nat → Int} (h : ∀ i, i < n → w.cell? ⟨b, off + i * 2, none⟩ = some (.int .i64 (f i)) ∧ w.cell? ⟨b, off + i * 2 + 1, none⟩ = some (.int .i64 (g i))) (j : Nat) (hj : j < n * 2) :
    w.cell? ⟨b, off + j, none⟩ = some (pv f g j) := by
  obtain ⟨h0, h1⟩ := h (j / 2) (by omega)
  unfold pv
  by_cases hp : j % 2 = 0
  · rw [if_pos hp]; rw [show off + j / 2 * 2 = off + j by omega] at h0; exact h0
  · rw [if_neg hp]; rw [show off + j / 2 * 2 + 1 = off + j by omega] at h1; exact h1
theorem append_pairs {P : Program} (w : World) (base B : Nat) (t ty e : TypeId) (i : TypeInfo) (z : Value) (bytes : Nat) (ht : P.underlying t = some (.slice e)) (hi : P.info? e = some i) (hz : i.zero = some z)
    (hsize : i.size = 2) (hby : i.bytes = bytes) (hzs : z.cells.size = 2) (v : Value) (hown : w.ownsRow base e 2 v 0 [])
    (p : Option Addr) (m c : Nat) (f g : Nat → Int) (hr : Reads2 B w p m f g)
    (h63 : 0 + m ≤ maxLen) (hbytes : (0 + m) * bytes ≤ 140737488355328) (hbase : base ≤ w.heap.size) :
    ∃ v' w', (Builtin.append_ #[t, t] ty #[v, .slice p m c]).run P w = .ok v' w' ∧ w'.ownsRow base e 2 v' m ((List.range (m * 2)).map (pv f g)) ∧ w.grownBy w' v.ownBlock := by
  cases p with
  | none =>
    have hm : m = 0 := by
      rcases hr with h | ⟨b, off, h, _⟩
      · exact h
      · cases h
    subst hm
    refine ⟨v, w, ?_, by simpa using hown, World.grownBy.refl _ _⟩
    rcases hown.2 with ⟨rfl, _⟩ | ⟨g, cap, cur, rfl, _, _, hnc, _⟩
    · simp [Builtin.append_, run_underlying ht, sizeOf, typeInfo, hi, Builtin.lenOf, Builtin.firstCells]
    · simp [Builtin.append_, run_underlying ht, sizeOf, typeInfo, hi, Builtin.lenOf, Builtin.firstCells, hnc, storeCells]
  | some a =>
    obtain ⟨v', w', h2, h3, h4, _⟩ := run_append_own (P := P) w base t ty e i z 2 bytes ht hi hz hsize hby hzs (by omega) v 0 [] hown a m c ((List.range (m * 2)).map (pv f g)) (by simp) (fun j u hj => by
      have hjm : j < m * 2 := by have := (List.getElem?_eq_some_iff.1 hj).1; simpa using this
      rcases hr with h | ⟨b, off, he, hb, hc⟩
      · omega
      · cases he
        rw [List.getElem?_map, List.getElem?_range hjm] at hj
        rw [Go.WideShapes.add_plain, reads2_at (B := B) hc j hjm]; simpa using hj) (fun u hu => by
      obtain ⟨j, hj, rfl⟩ := List.mem_map.1 hu
      rfl) h63 hbytes hbase
    exact ⟨v', w', h2, by simpa using h3, h4⟩
theorem owns2_reads {w : World} {base : Nat} {e : TypeId} {v : Value} {n : Nat} {f g : Nat → Int} (h : w.ownsRow base e 2 v n ((List.range (n * 2)).map (pv f g))) :
    ∃ p c, v = .slice p n c ∧ Reads2 w.heap.size w p n f g := by
  rcases h.2 with ⟨rfl, rfl⟩ | ⟨q, cap, cur, rfl, h1, h2, h3, h4, h5, h6⟩
  · exact ⟨none, 0, rfl, .inl rfl⟩
  · refine ⟨_, cap, rfl, .inr ⟨q, 0, rfl, (Array.getElem?_eq_some_iff.1 h2).1, fun i hi => ?_⟩⟩
    have hc : ∀ j, j < n * 2 → w.cell? ⟨q, 0 + j, none⟩ = some (pv f g j) := fun j hj => by
      rw [Nat.zero_add, cell_of_row w q j cur e (0, 0) h2]
      have h7 := congrArg (·[j]?) h6
      simp only [List.getElem?_take, List.getElem?_map] at h7
      rw [if_pos hj, List.getElem?_range hj, Array.getElem?_toList] at h7
      exact h7
    exact ⟨by rw [hc (i * 2) (by omega), pv0], by rw [show 0 + i * 2 + 1 = 0 + (i * 2 + 1) by omega, hc (i * 2 + 1) (by omega), pv1]⟩
/-- both answer the same way -/
theorem rays_both (s a b : Int) (ha : I64 a) (hb : I64 b) : ∃ (m : Nat) (h : Nat → Int), m ≤ 7 ∧
    (∀ W, Calls Try.prog 25 #[.int .i64 s, .int .i64 a, .int .i64 b] W fun e w' => ∃ v, e = .returned v ∧ Below W.heap.size W w' ∧ w'.ownsRow W.heap.size 3 1 v m ((List.range m).map fun i => .int .i64 (h i))) ∧
    (∀ W, Calls Try.prog 26 #[.int .i64 s, .int .i64 a, .int .i64 b] W fun e w' => ∃ v, e = .returned v ∧ Below W.heap.size W w' ∧ w'.ownsRow W.heap.size 3 1 v m ((List.range m).map fun i => .int .i64 (h i))) := by
  by_cases hab : a = 0 ∧ b = 0
  · obtain ⟨rfl, rfl⟩ := hab
    refine ⟨0, fun _ => 0, by omega, fun W => ?_, fun W => ?_⟩
    · refine (ray_none s W).mono ?_
      rintro e w' ⟨rfl, hb⟩
      exact ⟨_, rfl, hb, World.ownsRow_nil _ _ _ _⟩
    · refine (rray_none s W).mono ?_
      rintro e w' ⟨rfl, hb⟩
      exact ⟨_, rfl, hb, World.ownsRow_nil _ _ _ _⟩
  · obtain ⟨n, h7, hn⟩ := rayN_ex s a b hab
    exact ⟨n, rq s a b, h7, fun W => ray_any s a b n W ha hb hab hn h7, fun W => rray_any s a b n W ha hb hab hn h7⟩
theorem infoPair : (Try.prog.info? 36).map (fun i => (i.zero, i.size, i.bytes)) = some (some (.agg #[.int .i64 0, .int .i64 0]), 2, 16) := by kernel_rfl
set_option maxHeartbeats 4000000 in
set_option maxRecDepth 100000 in
theorem tells_walk (B : Nat) (s a b : Int) (S : ByteArray) (p : Option Addr) (n c : Nat) (f g : Nat → Int) (w : World) (ha : I64 a) (hb : I64 b) (hr : Reads2 B w p n f g) (hB : B ≤ w.heap.size) (hw : ∀ i, i < n → I64 (f i) ∧ I64 (g i)) (hn : n ≤ maxLen) (hS : S.size ≤ maxLen) :
    Calls Try.prog 3 #[.int .i64 s, .int .i64 a, .int .i64 b, .string S, .slice p n c] w fun e w' => e = .returned (.bool true) ∧ Below w.heap.size w w' := by
  unfold maxLen at hn hS
  by_cases hn3 : 300 < n
  · go_enter Try.func3, Try.ntmps3
    go_wp2_with fail
    refine (awakeS_any _).mono ?_
    rintro e w1 ⟨rfl, hb1⟩
    go_wp2
    go_ret
    exact ⟨rfl, hb1⟩
  · by_cases hS3 : 300 < S.size
    · go_enter Try.func3, Try.ntmps3
      go_wp2_with fail
      refine (awakeS_any _).mono ?_
      rintro e w1 ⟨rfl, hb1⟩
      go_wp2
      go_ret
      exact ⟨rfl, hb1⟩
    · obtain ⟨i2, hi, hz0, hz1, hz2⟩ := info_parts infoPair
      have HR := Lib.hid hr
      have HW := Lib.hid hw
      clear hr hw
      obtain ⟨N, hN⟩ : ∃ N, nN S = N := ⟨_, rfl⟩
      obtain ⟨Q, hQ⟩ : ∃ Q, isN S = Q := ⟨_, rfl⟩
      have C1 := Lib.hid (show ∀ W, Calls Try.prog 8 #[.string S] W fun e w' => e = .returned (.tuple #[.int .i64 N, .bool Q]) ∧ Below W.heap.size W w' from fun W => by rw [← hN, ← hQ]; exact named_any S W)
      have C2 := Lib.hid (show ∀ W, Calls Try.prog 9 #[.string S] W fun e w' => e = .returned (.tuple #[.int .i64 N, .bool Q]) ∧ Below W.heap.size W w' from fun W => by rw [← hN, ← hQ]; exact rNamed_any S W)
      clear hN hQ
      obtain ⟨sQ, hsQ⟩ : ∃ q, sq s = q := ⟨_, rfl⟩
      obtain ⟨sA, hsA⟩ : ∃ q, sAt a b = q := ⟨_, rfl⟩
      obtain ⟨xF, hxF⟩ : ∃ q, sF s = q := ⟨_, rfl⟩
      obtain ⟨xR, hxR⟩ : ∃ q, sR s = q := ⟨_, rfl⟩
      obtain ⟨xD, hxD⟩ : ∃ q, dark s = q := ⟨_, rfl⟩
      obtain ⟨xN, hxN⟩ : ∃ q, nmV s = q := ⟨_, rfl⟩
      have HSQ := Lib.hid hsQ
      have HSA := Lib.hid hsA
      have HXF := Lib.hid hxF
      have HXR := Lib.hid hxR
      have HXD := Lib.hid hxD
      have HXN := Lib.hid hxN
      clear hsQ hsA hxF hxR hxD hxN
      go_enter Try.func3, Try.ntmps3
      go_wp2_with fail
      refine (C1.out _).mono ?_
      rintro e w1 ⟨rfl, hb1⟩
      have HB := Lib.hid hb1
      clear hb1 C1
      go_wp2_with fail
      refine (C2.out _).mono ?_
      rintro e w2 ⟨rfl, hb2⟩
      replace HB := Lib.hid (HB.out.trans (hb2.mono HB.out.size))
      clear hb2 C2
      go_wp2_with fail
      refine (is_any s _).mono ?_
      rw [HSQ.out]
      rintro e w3 ⟨rfl, hb3⟩
      replace HB := Lib.hid (HB.out.trans (hb3.mono HB.out.size))
      clear hb3
      go_wp2_with fail
      refine (rIs_any s _).mono ?_
      rw [HSQ.out]
      rintro e w' ⟨rfl, rfl⟩
      go_wp2_with fail
      refine (at_any a b _).mono ?_
      rw [HSA.out]
      rintro e w4 ⟨rfl, hb4⟩
      replace HB := Lib.hid (HB.out.trans (hb4.mono HB.out.size))
      clear hb4
      go_wp2_with fail
      refine (rAt_any a b _ ha hb).mono ?_
      rw [HSA.out]
      rintro e w' ⟨rfl, rfl⟩
      go_wp2_with fail
      refine (file_any s _).mono ?_
      rw [HXF.out]
      rintro e w5 ⟨rfl, hb5⟩
      replace HB := Lib.hid (HB.out.trans (hb5.mono HB.out.size))
      clear hb5
      go_wp2_with fail
      refine (rFile_any s _).mono ?_
      rw [HXF.out]
      rintro e w' ⟨rfl, rfl⟩
      go_wp2_with fail
      refine (rank_any s _).mono ?_
      rw [HXR.out]
      rintro e w6 ⟨rfl, hb6⟩
      replace HB := Lib.hid (HB.out.trans (hb6.mono HB.out.size))
      clear hb6
      go_wp2_with fail
      refine (rRank_any s _).mono ?_
      rw [HXR.out]
      rintro e w' ⟨rfl, rfl⟩
      go_wp2_with fail
      refine (darkSq_any s _).mono ?_
      rw [HXD.out]
      rintro e w7 ⟨rfl, hb7⟩
      replace HB := Lib.hid (HB.out.trans (hb7.mono HB.out.size))
      clear hb7
      go_wp2_with fail
      refine (rDark_any s _).mono ?_
      rw [HXD.out]
      rintro e w' ⟨rfl, rfl⟩
      go_wp2_with fail
      refine (name_any s _).mono ?_
      rw [HXN.out]
      rintro e w8 ⟨rfl, hb8⟩
      replace HB := Lib.hid (HB.out.trans (hb8.mono HB.out.size))
      clear hb8
      go_wp2_with fail
      refine (rName_any s _).mono ?_
      rw [HXN.out]
      rintro e w9 ⟨rfl, hb9⟩
      replace HB := Lib.hid (HB.out.trans (hb9.mono HB.out.size))
      clear hb9
      go_upto_region 7 with (fail)
      have hz9 := HB.out.size
      have hown0 : (w9.alloc (.cells #[] 36)).ownsRow w.heap.size 36 2 (.slice (some ⟨w9.heap.size, 0, none⟩) 0 0) 0 [] :=
        ⟨rfl, .inr ⟨w9.heap.size, 0, #[], rfl, hz9, sl_at rfl, Nat.le_refl _, Nat.zero_le _, rfl, rfl⟩⟩
      have HBa := Lib.hid (HB.out.alloc hz9 (.cells #[] 36))
      obtain ⟨v, w10, hap, hown10, hg10⟩ := append_pairs (P := Try.prog) (w9.alloc (.cells #[] 36)) w.heap.size B 22 22 36 i2 _ 16 Try.underlying22 hi hz0 hz1 hz2 rfl _ hown0 p n c f g (HR.out.below (HBa.out.mono hB)) (by unfold maxLen; omega) (by omega) (by simp; omega)
      obtain ⟨p2, c2, rfl, hr2⟩ := owns2_reads hown10
      have HB10 := Lib.hid (HBa.out.grown hg10 (by simp; omega) (fun k hk => by
        have : k = w9.heap.size := by simpa [Value.ownBlock] using hk.symm
        omega))
      have HR10 := Lib.hid hr2
      clear HBa hown0 hown10 hg10 hr2 HB hz9
      go_wp2_with (at_builtin; refine Lib.wpList_append_run _ rfl _ _ _ _ rfl _ _ rfl rfl _ _ hap ?_)
      clear hap
      obtain ⟨t, ht⟩ : ∃ t, stp s a b = t := ⟨_, rfl⟩
      have HT := Lib.hid ht
      clear ht
      go_wp2_with fail
      refine (step_any s a b _ ha hb).mono ?_
      rw [HT.out]
      rintro e w11 ⟨rfl, hb11⟩
      have HB11 := Lib.hid hb11
      clear hb11
      go_wp2_with fail
      refine (rStep_any s a b _ ha hb).mono ?_
      rw [HT.out]
      rintro e w12 ⟨rfl, hb12⟩
      replace HB11 := Lib.hid (HB11.out.trans (hb12.mono HB11.out.size))
      clear hb12 HT
      obtain ⟨m, h, hm7, hq1, hq2⟩ := rays_both s a b ha hb
      have HQ1 := Lib.hid hq1
      have HQ2 := Lib.hid hq2
      clear hq1 hq2
      go_wp2_with fail
      refine (HQ1.out _).mono ?_
      rintro e w13 ⟨v3, rfl, hb13, hown3⟩
      obtain ⟨p3, c3, rfl, hr3, _⟩ := sq_reads hown3
      replace HB11 := Lib.hid (HB11.out.trans (hb13.mono HB11.out.size))
      have HR3 := Lib.hid hr3
      clear hb13 hown3 hr3 HQ1
      go_wp2_with fail
      refine (HQ2.out _).mono ?_
      rintro e w14 ⟨v4, rfl, hb14, hown4⟩
      obtain ⟨p4, c4, rfl, hr4, _⟩ := sq_reads hown4
      replace HB11 := Lib.hid (HB11.out.trans (hb14.mono HB11.out.size))
      replace HR3 := Lib.hid ((HR3.out.below hb14).mono hb14.size)
      have HR4 := Lib.hid hr4
      clear hb14 hown4 hr4 HQ2
      go_wp2_with fail
      refine (sameInts_any _ p3 p4 m c3 c4 h _ (by omega) HR3.out HR4.out).mono ?_
      rintro e w15 ⟨rfl, hb15⟩
      replace HB11 := Lib.hid (HB11.out.trans (hb15.mono HB11.out.size))
      clear hb15 HR3 HR4
      have hrl := rg_len s f g n
      go_wp2_with fail
      refine (ring_any _ s p2 n c2 f g _ (by omega) (HR10.out.below HB11.out) HB11.out.size HW.out).mono ?_
      rintro e w16 ⟨v5, rfl, hb16, hown5⟩
      rw [ivals_range] at hown5
      obtain ⟨p5, c5, rfl, hr5, _⟩ := sq_reads hown5
      replace HB11 := Lib.hid (HB11.out.trans (hb16.mono HB11.out.size))
      have HR5 := Lib.hid hr5
      clear hb16 hown5 hr5
      go_wp2_with fail
      refine (rring_any B s p n c f g _ (by omega) ((HR.out.below (HB10.out.mono hB)).below (HB11.out.mono (Nat.le_trans hB HB10.out.size))) (Nat.le_trans hB (Nat.le_trans HB10.out.size HB11.out.size)) HW.out).mono ?_
      rintro e w17 ⟨v6, rfl, hb17, hown6⟩
      rw [ivals_range] at hown6
      obtain ⟨p6, c6, rfl, hr6, _⟩ := sq_reads hown6
      replace HB11 := Lib.hid (HB11.out.trans (hb17.mono HB11.out.size))
      replace HR5 := Lib.hid ((HR5.out.below hb17).mono hb17.size)
      have HR6 := Lib.hid hr6
      clear hb17 hown6 hr6
      go_wp2_with fail
      refine (sameInts_any _ p5 p6 _ c5 c6 _ _ (by omega) HR5.out HR6.out).mono ?_
      rintro e w18 ⟨rfl, hb18⟩
      replace HB11 := Lib.hid (HB11.out.trans (hb18.mono HB11.out.size))
      clear hb18 HR5 HR6
      go_wp2
      go_loopw [17] (fun i wr => ∃ k : Nat, k ≤ n ∧ i = .int .i64 (k : Int) ∧ Below w10.heap.size w10 wr) (fun i _ => n - (intOf i).toNat)
      case atStart => exact ⟨0, Nat.zero_le _, rfl, HB11.out⟩
      case round =>
        clear HB11
        obtain ⟨k, hk, rfl, hbk⟩ := hrel
        by_cases hlt : k < n
        · rcases HR10.out with h0 | ⟨b2, o2, rfl, hbb2, hc2⟩
          · omega
          rcases HR.out with h0 | ⟨b1, o1, rfl, hbb1, hc1⟩
          · omega
          have hz1 := HB10.out.size
          have d1 : wr.cell? ⟨b1, o1 + k * 2, none⟩ = some (.int .i64 (f k)) := (hbk.cell (p := ⟨b1, o1 + k * 2, none⟩) (by show b1 < w10.heap.size; omega)).trans ((HB10.out.cell (p := ⟨b1, o1 + k * 2, none⟩) (by show b1 < w.heap.size; omega)).trans (hc1 k hlt).1)
          have d2 : wr.cell? ⟨b1, o1 + k * 2 + 1, none⟩ = some (.int .i64 (g k)) := (hbk.cell (p := ⟨b1, o1 + k * 2 + 1, none⟩) (by show b1 < w10.heap.size; omega)).trans ((HB10.out.cell (p := ⟨b1, o1 + k * 2 + 1, none⟩) (by show b1 < w.heap.size; omega)).trans (hc1 k hlt).2)
          have d3 : wr.cell? ⟨b2, o2 + k * 2, none⟩ = some (.int .i64 (f k)) := (hbk.cell (p := ⟨b2, o2 + k * 2, none⟩) hbb2).trans (hc2 k hlt).1
          have d4 : wr.cell? ⟨b2, o2 + k * 2 + 1, none⟩ = some (.int .i64 (g k)) := (hbk.cell (p := ⟨b2, o2 + k * 2 + 1, none⟩) hbb2).trans (hc2 k hlt).2
          have hne : ∀ W : World, (binOp .neq 36 (.agg #[.int .i64 (f k), .int .i64 (g k)]) (.agg #[.int .i64 (f k), .int .i64 (g k)])).run Try.prog W = .ok (.bool false) W := fun W => by
            rw [neq_pair]; simp
          have HBK := Lib.hid hbk
          clear hc1 hc2 hbk hz1
          go_wp2
          go_region
          go_wp2
          go_roundw
          case rel => exact ⟨k + 1, by omega, by go_num, HBK.out.drew⟩
          case measure => simp [intOf]; omega
        · obtain rfl : k = n := by omega
          have HBK := Lib.hid hbk
          clear hbk
          go_wp2_with fail
          refine (awakeS_any _).mono ?_
          rintro e w19 ⟨rfl, hb19⟩
          go_wp2
          go_ret
          exact ⟨rfl, HB10.out.trans ((HBK.out.trans (hb19.mono HBK.out.size)).mono HB10.out.size)⟩
end Go.Proofs.Ytaiihdkcpbkmaaa
