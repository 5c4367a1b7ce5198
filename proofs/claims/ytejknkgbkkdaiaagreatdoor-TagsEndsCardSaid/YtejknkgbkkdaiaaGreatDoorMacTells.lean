/-
  Rows and bytes that are lent; the second reckoning of a tag under a key; the walk of MacTells. (One text: a claim has at most 60 files.)
-/
import Derived.Test.YtejknkgbkkdaiaaGreatDoorG10
import Derived.Test.YtejknkgbkkdaiaaGreatDoorG12
import Derived.Test.YtejknkgbkkdaiaaGreatDoorRefTag
import Derived.Test.YtejknkgbkkdaiaaGreatDoorG15
namespace Go.Proofs.YtejknkgbkkdaiaaGreatDoor
open Go.RowKit
set_option linter.unusedVariables false
set_option linter.unusedSimpArgs false

set_option maxHeartbeats 1000000 in
set_option maxRecDepth 100000 in
theorem ref3_bytes (s : Nat → BitVec 8) (w : World) :
    Calls Tryz.prog 69 #[tagV s] w fun e w' => ∃ v, e = .returned v ∧ Below w.heap.size w w' ∧ w'.ownsRow w.heap.size 5 1 v 32 (cellsOf s 32) := by
  obtain ⟨C1, hC1⟩ : ∃ C, C = (tagC s).toArray := ⟨_, rfl⟩
  unfold tagV
  rw [← hC1]
  have HC1 := Lib.hid hC1
  clear hC1
  go_enter Tryz.func69, Tryz.ntmps69
  go_upto_region 1 with (fail)
  refine forget_code (fun W => Below w.heap.size w W ∧ BT W w.heap.size 32 s)
    ⟨(Below.refl _ _).alloc (Nat.le_refl _) _, BT.of_cells (laid_at rfl) fun i hi => by rw [HC1.out]; exact tagC_get s i hi⟩ ?_
  rintro W ⟨hbel, hbt⟩
  have HB := Lib.hid hbel
  have HT := Lib.hid hbt
  have hz := hbt.lt
  clear hbel hbt
  go_wp2
  go_loopw [3, 4] (fun v i wr => ∃ j : Nat, j ≤ 32 ∧ i = .int .i64 j ∧ Below W.heap.size W wr ∧ wr.ownsRow W.heap.size 5 1 v j (cellsOf s j)) (fun _ i _ => 32 - (intOf i).toNat)
  case atStart => exact ⟨0, Nat.zero_le _, rfl, Below.refl _ _, World.ownsRow_nil _ _ _ _⟩
  case round =>
    obtain ⟨j, hj, rfl, hb, hown⟩ := hrel
    obtain ⟨pj, cj, rfl, hcj, hmj⟩ := owns_slice hown
    have hsz := hb.size
    by_cases hlt : j < 32
    · have c1 : wr.cell? ⟨w.heap.size, j, none⟩ = some (.int .u8 (ub (s j))) := by rw [hb.cell (p := ⟨w.heap.size, j, none⟩) hz]; exact (HT.out.byte j hlt)
      have hap := append_byte wr W.heap.size 22 (.slice pj j cj) j s hown (.int .u8 (ub (s j))) rfl (by omega) hsz
      have HAP := Lib.hid hap
      have HO := Lib.hid hown
      have HBB := Lib.hid hb
      clear hap hown hb
      go_wp2_with (at_builtin; (obtain ⟨v', w1, hrun, hown1, hgr1⟩ := HAP.out; refine Lib.wpList_append_run _ rfl _ _ _ _ rfl _ _ rfl rfl v' w1 hrun ?_))
      have H2 := Lib.hid (HBB.out.grown hgr1 hsz (fun q e => (HO.out.lt q e).1))
      have H3 := Lib.hid hown1
      clear hrun hown1 hgr1
      go_wp2
      go_roundw
      case rel => exact ⟨j + 1, by omega, by go_num, H2.out, H3.out⟩
      case measure => simp [intOf]; omega
    · obtain rfl : j = 32 := by omega
      have HO := Lib.hid hown
      have HBB := Lib.hid hb
      clear hown hb
      go_wp2
      go_ret
      exact ⟨_, rfl, HB.out.trans (HBB.out.mono (by omega)), HO.out.1, by
        rcases HO.out.2 with h | ⟨g, cap, cur, h1, h2, h3⟩
        · exact .inl h
        · exact .inr ⟨g, cap, cur, h1, by omega, h3⟩⟩
/-- a block of bytes that is whole -/
structure OB (w : World) (H n : Nat) (f : Nat → BitVec 8) : Prop where
  bt : BT w H n f
  row : ∃ cur : Array Value, w.heap[H]? = some (.cells cur 5 (0, 0)) ∧ cur.size = n
section
variable {w w' : World} {H n : Nat} {f f' : Nat → BitVec 8}
theorem OB.congr (h : OB w H n f) (e : ∀ i, i < n → f i = f' i) : OB w H n f' := ⟨h.bt.congr e, h.row⟩
theorem OB.set (h : OB w H n f) (i : Nat) (hi : i < n) (x : BitVec 8) (hx : f' i = x) (ho : ∀ j, j < n → j ≠ i → f' j = f j) : OB (w.setCell ⟨H, i, none⟩ (.int .u8 (ub x))) H n f' := by
  obtain ⟨cur, hc, hs⟩ := h.row
  exact ⟨h.bt.set i hi x hx ho, _, heap_setCell_same w H i cur _ _ hc, by simpa using hs⟩
theorem OB.owns {base : Nat} (h : OB w H n f) (hb : base ≤ H) (hm : n ≤ maxLen) : w.ownsRow base 5 1 (.slice (some ⟨H, 0, none⟩) n n) n (cellsOf f n) := by
  obtain ⟨cur, hc, hs⟩ := h.row
  refine ⟨by simp [cellsOf], .inr ⟨H, n, cur, rfl, hb, hc, Nat.le_refl _, hm, by omega, ?_⟩⟩
  refine List.ext_getElem? fun i => ?_
  by_cases hi : i < n
  · have h1 := h.bt.byte i hi
    rw [cell_of_row w H i cur _ (0, 0) hc] at h1
    rw [List.getElem?_take, if_pos (by omega), Array.getElem?_toList, h1, cellsOf_at f n i hi]
  · rw [List.getElem?_eq_none (by simp; omega), List.getElem?_eq_none (by simp [cellsOf]; omega)]
theorem OB.made (w : World) (n : Nat) : OB (w.alloc (.cells (madeCells #[Value.int .u8 0] n) 5)) w.heap.size n (fun _ => 0#8) :=
  ⟨BT.of_cells (laid_at rfl) fun i hi => by simp [madeCells, hi, Nat.mod_one, ub], ⟨_, laid_at rfl, size_madeCells _ _⟩⟩
end
/-- the first j turned -/
def part3 (b : Nat → BitVec 8) (x : BitVec 8) (j : Nat) : Nat → BitVec 8 := fun i => if i < j then b i ^^^ x else 0#8
set_option maxHeartbeats 2000000 in
set_option maxRecDepth 100000 in
theorem ref3_short (w : World) (p : Option Addr) (n c : Nat) (k : Nat → BitVec 8) (x : BitVec 8) (hn : n ≤ 64) (hr : Reads w.heap.size w p n (fun i => .int .u8 (ub (k i)))) :
    Calls Tryz.prog 68 #[.slice p n c, .int .u8 (ub x)] w fun e w' => ∃ v, e = .returned v ∧ Below w.heap.size w w' ∧ w'.ownsRow w.heap.size 5 1 v 64 (cellsOf (xorB (kblk k n) x) 64) := by
  obtain ⟨i0, hi, hz0, hz1, hz2⟩ := info_parts Tryz.infoB
  obtain ⟨b, hb⟩ : ∃ b, b = kblk k n := ⟨_, rfl⟩
  rw [← hb]
  have hbk : ∀ i, i < 64 → b i = if i < n then k i else 0#8 := fun i hi => by rw [hb]; unfold kblk; rw [if_pos hn]
  have HBK := Lib.hid hbk
  have HR := Lib.hid hr
  have hmk := fun W => run_make (P := Tryz.prog) W 22 5 i0 (.int .u8 0) Tryz.underlying22 hi hz0 .i64 .i64 64 64 (by omega) (by omega) (by rw [hz2]; omega) (by omega)
  clear hb hbk hr
  have hgt : ¬ ((n : Int) > 64) := by omega
  go_enter Tryz.func68, Tryz.ntmps68
  go_upto_region 4 with (fail)
  refine forget_code (fun W2 => Below w.heap.size w W2 ∧ OB W2 w.heap.size 64 (part3 b x 0) ∧ w.heap.size < W2.heap.size)
    ⟨(Below.refl w.heap.size w).alloc (Below.refl w.heap.size w).size _, (OB.made w 64).congr fun i hi => by simp [part3], by simp⟩ ?_
  rintro W2 ⟨hbel, hob, hz⟩
  have HO := Lib.hid hob
  have HB := Lib.hid hbel
  have hwa : w.heap.size ≤ w.heap.size := (Below.refl w.heap.size w).size
  clear hbel hob hmk
  go_wp2
  go_loopw [6] (fun i wr => ∃ j : Nat, j ≤ 64 ∧ i = .int .i64 j ∧ OB wr w.heap.size 64 (part3 b x j) ∧ Below w.heap.size w wr ∧ Reads w.heap.size wr p n (fun i => .int .u8 (ub (k i)))) (fun i _ => 64 - (intOf i).toNat)
  case atStart => exact ⟨0, Nat.zero_le _, rfl, HO.out, HB.out, HR.out.below HB.out⟩
  case round =>
    clear HO HB
    obtain ⟨j, hj, rfl, hob, hb, hrd⟩ := hrel
    by_cases hlt : j < 64
    · have f0 := hob.bt.free j
      have c0 : wr.cell? ⟨w.heap.size, j, none⟩ = some (.int .u8 0) := by have := hob.bt.byte j hlt; unfold part3 at this; rw [if_neg (by omega)] at this; exact this
      have hbj := HBK.out j hlt
      have h2 : ∀ y, OB (wr.setCell ⟨w.heap.size, j, none⟩ (.int .u8 (ub y))) w.heap.size 64 (fun i => if i = j then y else part3 b x j i) := fun y => hob.set j hlt y (by simp) (fun q h1 h2 => by simp [h2])
      have h2b : ∀ y, Below w.heap.size w (wr.setCell ⟨w.heap.size, j, none⟩ (.int .u8 (ub y))) := fun y => hb.setCell (p := ⟨w.heap.size, j, none⟩) hwa _
      have hfin : ∀ W y, y = b j → OB W w.heap.size 64 (fun i => if i = j then y else part3 b x j i) → OB (W.setCell ⟨w.heap.size, j, none⟩ (.int .u8 (ub (y ^^^ x)))) w.heap.size 64 (part3 b x (j + 1)) := fun W y hy h => h.set j hlt _ (by unfold part3; rw [if_pos (by omega), hy]) (fun q h1 h2 => by
        simp only [h2, if_false]
        unfold part3
        by_cases h3 : q < j
        · rw [if_pos h3, if_pos (by omega)]
        · rw [if_neg h3, if_neg (by omega)])
      have HF := Lib.hid hfin
      clear hfin
      by_cases hin : j < n
      · rw [if_pos hin] at hbj
        have hrd' := hrd
        rcases hrd' with h0 | ⟨kb, off, rfl, hkb, hkc⟩
        · omega
        have hcell := hkc j hin
        clear hkc
        have H2 := Lib.hid (h2 (k j))
        have H2B := Lib.hid (h2b (k j))
        have HJ := Lib.hid hbj
        have HRD := Lib.hid hrd
        clear h2 h2b hbj hrd hob hb
        go_upto_region 9 with (fail)
        refine forget_code (fun W3 => OB W3 w.heap.size 64 (fun i => if i = j then k j else part3 b x j i) ∧ Below w.heap.size w W3 ∧ Reads w.heap.size W3 (some ⟨kb, off, none⟩) n (fun i => .int .u8 (ub (k i)))) ⟨H2.out, H2B.out, HR.out.below H2B.out⟩ ?_
        rintro W3 ⟨hob, hb, hrd⟩
        have f1 := hob.bt.free j
        have c1 : W3.cell? ⟨w.heap.size, j, none⟩ = some (.int .u8 (ub (k j))) := by have := hob.bt.byte j hlt; simpa using this
        have H3 := Lib.hid (HF.out W3 _ HJ.out.symm hob)
        have H3B := Lib.hid (hb.setCell (p := ⟨w.heap.size, j, none⟩) hwa (.int .u8 (ub (k j ^^^ x))))
        have H3R := Lib.hid hrd
        clear hob hb hrd HF H2 H2B hcell c0 f0
        go_wp2
        go_roundw
        case rel => exact ⟨j + 1, by omega, by go_num, H3.out, H3B.out, HR.out.below H3B.out⟩
        case measure => simp [intOf]; omega
      · rw [if_neg hin] at hbj
        have hob' : OB wr w.heap.size 64 (fun i => if i = j then 0#8 else part3 b x j i) := hob.congr fun i hi => by
          by_cases e : i = j
          · subst e; simp [part3]
          · simp [e]
        have c2 : wr.cell? ⟨w.heap.size, j, none⟩ = some (.int .u8 (ub 0#8)) := c0
        have e0 : (0#8 ^^^ x) = x := BitVec.zero_xor
        have h3 := HF.out wr 0#8 hbj.symm hob'
        rw [e0] at h3
        have H3 := Lib.hid h3
        have H3B := Lib.hid (hb.setCell (p := ⟨w.heap.size, j, none⟩) hwa (.int .u8 (ub x)))
        have H3R := Lib.hid hrd
        clear h2 h2b hob hob' hb hrd HF hbj c0 h3 e0
        go_wp2
        go_roundw
        case rel => exact ⟨j + 1, by omega, by go_num, H3.out, H3B.out, HR.out.below H3B.out⟩
        case measure => simp [intOf]; omega
    · obtain rfl : j = 64 := by omega
      have HX := Lib.hid (hob.congr (f' := xorB b x) fun i hi => by unfold part3 xorB; rw [if_pos hi])
      have HB := Lib.hid hb
      clear hob hb hrd
      go_wp2
      go_ret
      exact ⟨_, rfl, HB.out, HX.out.owns hwa (by unfold maxLen; omega)⟩
set_option maxHeartbeats 2000000 in
set_option maxRecDepth 100000 in
theorem ref3_long (B : Nat) (w : World) (p : Option Addr) (n c : Nat) (k : Nat → BitVec 8) (x : BitVec 8) (hB : B ≤ w.heap.size) (hn : 64 < n) (hn2 : n ≤ 2147483648) (hr : Reads B w p n (fun i => .int .u8 (ub (k i)))) :
    Calls Tryz.prog 68 #[.slice p n c, .int .u8 (ub x)] w fun e w' => ∃ v, e = .returned v ∧ Below w.heap.size w w' ∧ w'.ownsRow w.heap.size 5 1 v 64 (cellsOf (xorB (kblk k n) x) 64) := by
  obtain ⟨i0, hi, hz0, hz1, hz2⟩ := info_parts Tryz.infoB
  obtain ⟨b, hb⟩ : ∃ b, b = kblk k n := ⟨_, rfl⟩
  obtain ⟨s, hs⟩ : ∃ s, s = sha k n := ⟨_, rfl⟩
  obtain ⟨T, hT⟩ : ∃ T, T = tagV s := ⟨_, rfl⟩
  have hof := refOf_any B w p n c k hB hn2 hr
  have hby := fun W => ref3_bytes s W
  rw [← hs, ← hT] at hof
  rw [← hT] at hby
  rw [← hb]
  have hbk : ∀ i, i < 64 → b i = if i < 32 then s i else 0#8 := fun i hi => by rw [hb, hs]; unfold kblk; rw [if_neg (by omega)]
  have HBK := Lib.hid hbk
  have HOF := Lib.hid hof
  have HBY := Lib.hid hby
  have hmk := fun W => run_make (P := Tryz.prog) W 22 5 i0 (.int .u8 0) Tryz.underlying22 hi hz0 .i64 .i64 64 64 (by omega) (by omega) (by rw [hz2]; omega) (by omega)
  clear hb hbk hr hof hby hT hs
  have hgt : ((n : Int) > 64) := by omega
  go_enter Tryz.func68, Tryz.ntmps68
  go_wp2_with fail
  refine HOF.out.mono ?_
  rintro e W1 ⟨rfl, hb1⟩
  go_wp2_with fail
  refine (HBY.out W1).mono ?_
  rintro e WA ⟨vA, rfl, hb2, hown⟩
  obtain ⟨p2, c2, rfl, hrd2, _, _⟩ := owns_reads hown
  have HBA := Lib.hid (hb1.trans (hb2.mono hb1.size))
  have HKR := Lib.hid hrd2
  clear hb1 hb2 hown hrd2 HOF HBY
  go_upto_region 4 with (fail)
  refine forget_code (fun W2 => Below w.heap.size w W2 ∧ OB W2 WA.heap.size 64 (part3 b x 0) ∧ WA.heap.size < W2.heap.size ∧ Below WA.heap.size WA W2)
    ⟨HBA.out.alloc HBA.out.size _, (OB.made WA 64).congr fun i hi => by simp [part3], by simp, (Below.refl _ _).alloc (Nat.le_refl _) _⟩ ?_
  rintro W2 ⟨hbel, hob, hz, hbw⟩
  have HO := Lib.hid hob
  have HB := Lib.hid hbel
  have HBW := Lib.hid hbw
  have hwa : w.heap.size ≤ WA.heap.size := HBA.out.size
  clear hbel hob hmk hbw
  go_wp2
  go_loopw [6] (fun i wr => ∃ j : Nat, j ≤ 64 ∧ i = .int .i64 j ∧ OB wr WA.heap.size 64 (part3 b x j) ∧ Below w.heap.size w wr ∧ Below WA.heap.size WA wr) (fun i _ => 64 - (intOf i).toNat)
  case atStart => exact ⟨0, Nat.zero_le _, rfl, HO.out, HB.out, HBW.out⟩
  case round =>
    clear HO HB HBW
    obtain ⟨j, hj, rfl, hob, hb, hrd⟩ := hrel
    by_cases hlt : j < 64
    · have f0 := hob.bt.free j
      have c0 : wr.cell? ⟨WA.heap.size, j, none⟩ = some (.int .u8 0) := by have := hob.bt.byte j hlt; unfold part3 at this; rw [if_neg (by omega)] at this; exact this
      have hbj := HBK.out j hlt
      have h2 : ∀ y, OB (wr.setCell ⟨WA.heap.size, j, none⟩ (.int .u8 (ub y))) WA.heap.size 64 (fun i => if i = j then y else part3 b x j i) := fun y => hob.set j hlt y (by simp) (fun q h1 h2 => by simp [h2])
      have h2b : ∀ y, Below w.heap.size w (wr.setCell ⟨WA.heap.size, j, none⟩ (.int .u8 (ub y))) := fun y => hb.setCell (p := ⟨WA.heap.size, j, none⟩) hwa _
      have hfin : ∀ W y, y = b j → OB W WA.heap.size 64 (fun i => if i = j then y else part3 b x j i) → OB (W.setCell ⟨WA.heap.size, j, none⟩ (.int .u8 (ub (y ^^^ x)))) WA.heap.size 64 (part3 b x (j + 1)) := fun W y hy h => h.set j hlt _ (by unfold part3; rw [if_pos (by omega), hy]) (fun q h1 h2 => by
        simp only [h2, if_false]
        unfold part3
        by_cases h3 : q < j
        · rw [if_pos h3, if_pos (by omega)]
        · rw [if_neg h3, if_neg (by omega)])
      have HF := Lib.hid hfin
      clear hfin
      by_cases hin : j < 32
      · rw [if_pos hin] at hbj
        have hrd' := HKR.out.below hrd
        rcases hrd' with h0 | ⟨kb, off, rfl, hkb, hkc⟩
        · omega
        have hcell := hkc j hin
        clear hkc
        have H2 := Lib.hid (h2 (s j))
        have H2B := Lib.hid (h2b (s j))
        have HJ := Lib.hid hbj
        have HRD := Lib.hid hrd
        clear h2 h2b hbj hrd hob hb
        go_upto_region 9 with (fail)
        refine forget_code (fun W3 => OB W3 WA.heap.size 64 (fun i => if i = j then s j else part3 b x j i) ∧ Below w.heap.size w W3 ∧ Below WA.heap.size WA W3) ⟨H2.out, H2B.out, HRD.out.setCell (p := ⟨WA.heap.size, j, none⟩) (Nat.le_refl _) _⟩ ?_
        rintro W3 ⟨hob, hb, hrd⟩
        have f1 := hob.bt.free j
        have c1 : W3.cell? ⟨WA.heap.size, j, none⟩ = some (.int .u8 (ub (s j))) := by have := hob.bt.byte j hlt; simpa using this
        have H3 := Lib.hid (HF.out W3 _ HJ.out.symm hob)
        have H3B := Lib.hid (hb.setCell (p := ⟨WA.heap.size, j, none⟩) hwa (.int .u8 (ub (s j ^^^ x))))
        have H3R := Lib.hid hrd
        clear hob hb hrd HF H2 H2B hcell c0 f0
        go_wp2
        go_roundw
        case rel => exact ⟨j + 1, by omega, by go_num, H3.out, H3B.out, H3R.out.setCell (p := ⟨WA.heap.size, j, none⟩) (Nat.le_refl _) _⟩
        case measure => simp [intOf]; omega
      · rw [if_neg hin] at hbj
        have hob' : OB wr WA.heap.size 64 (fun i => if i = j then 0#8 else part3 b x j i) := hob.congr fun i hi => by
          by_cases e : i = j
          · subst e; simp [part3]
          · simp [e]
        have c2 : wr.cell? ⟨WA.heap.size, j, none⟩ = some (.int .u8 (ub 0#8)) := c0
        have e0 : (0#8 ^^^ x) = x := BitVec.zero_xor
        have h3 := HF.out wr 0#8 hbj.symm hob'
        rw [e0] at h3
        have H3 := Lib.hid h3
        have H3B := Lib.hid (hb.setCell (p := ⟨WA.heap.size, j, none⟩) hwa (.int .u8 (ub x)))
        have H3R := Lib.hid hrd
        clear h2 h2b hob hob' hb hrd HF hbj c0 h3 e0
        go_wp2
        go_roundw
        case rel => exact ⟨j + 1, by omega, by go_num, H3.out, H3B.out, H3R.out.setCell (p := ⟨WA.heap.size, j, none⟩) (Nat.le_refl _) _⟩
        case measure => simp [intOf]; omega
    · obtain rfl : j = 64 := by omega
      have HX := Lib.hid (hob.congr (f' := xorB b x) fun i hi => by unfold part3 xorB; rw [if_pos hi])
      have HB := Lib.hid hb
      clear hob hb hrd
      go_wp2
      go_ret
      exact ⟨_, rfl, HB.out, HX.out.owns hwa (by unfold maxLen; omega)⟩

theorem ref3_block (B : Nat) (w : World) (p : Option Addr) (n c : Nat) (k : Nat → BitVec 8) (x : BitVec 8) (hB : B ≤ w.heap.size) (hn2 : n ≤ 2147483648) (hr : Reads B w p n (fun i => .int .u8 (ub (k i)))) :
    Calls Tryz.prog 68 #[.slice p n c, .int .u8 (ub x)] w fun e w' => ∃ v, e = .returned v ∧ Below w.heap.size w w' ∧ w'.ownsRow w.heap.size 5 1 v 64 (cellsOf (xorB (kblk k n) x) 64) := by
  by_cases h : n ≤ 64
  · exact ref3_short w p n c k x h (hr.mono hB)
  · exact ref3_long B w p n c k x hB (by omega) hn2 hr
end Go.Proofs.YtejknkgbkkdaiaaGreatDoor
namespace Go.Proofs.YtejknkgbkkdaiaaGreatDoor
open Go.RowKit
set_option linter.unusedVariables false
set_option linter.unusedSimpArgs false

theorem cells_cat (f g : Nat → BitVec 8) (n m : Nat) : cellsOf f n ++ (List.range m).map (fun j => Value.int .u8 (ub (g j))) = cellsOf (cat f n g) (n + m) := by
  rw [← cellsOf_add (cat f n g) n m, cellsOf_congr (f := cat f n g) (g := f) (fun i hi => cat_lo hi)]
  congr 1
  exact List.map_congr_left fun j _ => by rw [cat_hi]
/-- bytes are appended to an owned row -/
theorem append_cat (w : World) (base B : Nat) (ty : TypeId) (v : Value) (n : Nat) (f : Nat → BitVec 8) (hown : w.ownsRow base 5 1 v n (cellsOf f n)) (p : Option Addr) (m c : Nat) (g : Nat → BitVec 8) (hr : Reads B w p m (fun i => .int .u8 (ub (g i)))) (hn : n + m ≤ 4294967296) (hbase : base ≤ w.heap.size) :
    ∃ v' w', (Builtin.append_ #[22, 22] ty #[v, .slice p m c]).run Tryz.prog w = .ok v' w' ∧ w'.ownsRow base 5 1 v' (n + m) (cellsOf (cat f n g) (n + m)) ∧ w.grownBy w' v.ownBlock := by
  obtain ⟨i0, hi, hz0, hz1, hz2⟩ := info_parts Tryz.infoB
  obtain ⟨v', w', h1, h2, h3⟩ := append_reads (P := Tryz.prog) w base B 22 ty 5 i0 (.int .u8 0) 1 Tryz.underlying22 hi hz0 hz1 hz2 rfl _ _ _ hown p m c _ hr (fun _ _ => rfl) (by unfold maxLen; omega) (by omega) hbase
  rw [cells_cat] at h2
  exact ⟨v', w', h1, h2, h3⟩
/-- what stays while Of asks -/
structure S3 (w : World) (HI : Nat) (s : Nat → BitVec 8) (W : World) : Prop where
  bel : Below w.heap.size w W
  out : W.there w.heap.size 0 32
  tag : BT W HI 32 s
  lo : w.heap.size < HI
theorem S3.drew {w W : World} {HI : Nat} {s : Nat → BitVec 8} (h : S3 w HI s W) : S3 w HI s W.drew := ⟨h.bel.drew, h.out, h.tag.drew, h.lo⟩
theorem S3.go {w W W' : World} {HI : Nat} {s : Nat → BitVec 8} (h : S3 w HI s W) (g : Below W.heap.size W W') : S3 w HI s W' :=
  ⟨h.bel.trans (g.mono h.bel.size), there_below h.out g (by have := h.tag.lt; have := h.lo; omega), h.tag.below' g, h.lo⟩
theorem S3.grown {w W W' : World} {HI : Nat} {s : Nat → BitVec 8} {row : Option Nat} (h : S3 w HI s W) (g : W.grownBy W' row) (hr : ∀ q, row = some q → HI < q) : S3 w HI s W' := by
  have hlo := h.lo
  have hlt := h.tag.lt
  cases row with
  | none => exact ⟨h.bel.grown g h.bel.size (by rintro q ⟨⟩), there_gr h.out g (by omega) (by simp), h.tag.of_block g.size (g.block HI hlt (by simp)), hlo⟩
  | some q =>
    have hq := hr q rfl
    exact ⟨h.bel.grown g h.bel.size (by rintro q ⟨⟩; omega), there_gr h.out g (by omega) (by simp; omega), h.tag.gr g (by omega), hlo⟩
theorem S3.store {w W : World} {HI : Nat} {s : Nat → BitVec 8} (h : S3 w HI s W) (vs : List Value) : S3 w HI s (W.setCells w.heap.size 0 vs) :=
  ⟨h.bel.grown (gr_setCells (hb := w.heap.size) vs 0 W) h.bel.size (by rintro q ⟨⟩; omega), World.there_setCells h.out _ _ _, h.tag.gr (gr_setCells (hb := w.heap.size) vs 0 W) (by have := h.lo; omega), h.lo⟩
set_option maxHeartbeats 2000000 in
set_option maxRecDepth 100000 in
theorem ref3Of_any (B : Nat) (w : World) (kp : Option Addr) (kn kc : Nat) (k : Nat → BitVec 8) (p : Option Addr) (n c : Nat) (g : Nat → BitVec 8)
    (hB : B ≤ w.heap.size) (hkn : kn ≤ 2147483648) (hkr : Reads B w kp kn (fun j => .int .u8 (ub (k j)))) (hn : n ≤ 2147483584) (hr : Reads B w p n (fun j => .int .u8 (ub (g j)))) :
    Calls Tryz.prog 48 #[.slice kp kn kc, .slice p n c] w fun e w' => e = .returned (tagV (hmac k kn g n)) ∧ Below w.heap.size w w' := by
  obtain ⟨b, hb⟩ : ∃ b, b = kblk k kn := ⟨_, rfl⟩
  have hblk : ∀ W (x : BitVec 8), Below w.heap.size w W → Calls Tryz.prog 68 #[.slice kp kn kc, .int .u8 (ub x)] W fun e w' => ∃ v, e = .returned v ∧ Below W.heap.size W w' ∧ w'.ownsRow W.heap.size 5 1 v 64 (cellsOf (xorB b x) 64) := fun W x hW => by
    rw [hb]; exact ref3_block B W kp kn kc k x (Nat.le_trans hB hW.size) hkn (hkr.below (hW.mono hB))
  unfold hmac
  rw [← hb]
  obtain ⟨s, hs⟩ : ∃ s, s = sha (cat (xorB b 0x36#8) 64 g) (64 + n) := ⟨_, rfl⟩
  obtain ⟨s2, hs2⟩ : ∃ s2, s2 = hmb b g n := ⟨_, rfl⟩
  have hs3 : sha (cat (xorB b 0x5c#8) 64 s) (64 + 32) = s2 := by rw [hs2, hs]; rfl
  rw [← hs2]
  have HS := Lib.hid hs
  have HS2 := Lib.hid hs3
  have HBLK := Lib.hid hblk
  have HR := Lib.hid hr
  clear hb hblk hr hkr hs hs2 hs3
  go_enter Tryz.func48, Tryz.ntmps48
  go_upto_region 1 with (fail)
  refine forget_code (fun W => Below w.heap.size w W ∧ W.there w.heap.size 0 32 ∧ w.heap.size < W.heap.size)
    ⟨(Below.refl _ _).alloc (Nat.le_refl _) _, there_block (laid_at rfl) (by simp), by simp⟩ ?_
  rintro W ⟨hbel, ht1, hsz⟩
  have H2 := Lib.hid ht1
  have H3 := Lib.hid hbel
  clear ht1 hbel
  refine wp_region_lit ?_
  refine wpList_plain rfl (fun K hK => ?_)
  go_simp
  refine hK _ _ ?_
  clear hK K
  refine wpList_plain rfl (fun K hK => ?_)
  go_simp
  refine (HBLK.out W 0x36#8 H3.out).mono ?_
  rintro e W1 ⟨v1, rfl, hb1, hown1⟩
  dsimp only
  refine hK _ _ ?_
  clear hK K
  have q1 := hb1.size
  refine wpList_plain rfl (fun K hK => ?_)
  go_simp
  refine hK _ _ ?_
  clear hK K
  obtain ⟨v2, W2, hrun2, hown2, hgr2⟩ := append_cat W1 W.heap.size B 22 v1 64 _ hown1 p n c g (HR.out.below ((H3.out.mono hB).trans (hb1.mono (by omega)))) (by omega) q1
  have hb2 : Below W.heap.size W W2 := hb1.grown hgr2 q1 (fun q e => (hown1.lt q e).1)
  refine Lib.wpList_append_run _ rfl _ _ _ _ rfl _ _ rfl rfl v2 W2 hrun2 ?_
  obtain ⟨p2, c2, rfl, hrd2, _, _⟩ := owns_reads hown2
  have q2 := hb2.size
  have G2 := Lib.hid (there_below H2.out hb2 hsz)
  have G3 := Lib.hid (H3.out.trans (hb2.mono (by omega)))
  clear hrun2 hgr2 hown1 hown2 hb1 hb2 H2 H3
  refine wpList_plain rfl (fun K hK => ?_)
  go_simp
  refine (refOf_any W2.heap.size W2 p2 (64 + n) c2 _ (Nat.le_refl _) (by omega) hrd2).mono ?_
  rintro e W4 ⟨rfl, hb4⟩
  rw [← HS.out]
  dsimp only
  refine hK _ _ ?_
  clear hK K
  have q4 := hb4.size
  have E2 := Lib.hid (there_below G2.out hb4 (by omega))
  have E3 := Lib.hid (G3.out.trans (hb4.mono (by omega)))
  clear hb4 G2 G3 hrd2
  refine wpList_plain rfl (fun K hK => ?_)
  go_simp
  refine hK _ _ ?_
  clear hK K
  have ht : (W4.alloc (.cells (List.replicate 32 (Value.int .u8 0)).toArray 25)).there W4.heap.size 0 32 := there_block (laid_at rfl) (by simp)
  have ht0 : BT (W4.alloc (.cells (List.replicate 32 (Value.int .u8 0)).toArray 25)) W4.heap.size 32 (fun _ => 0#8) := BT.of_cells (laid_at rfl) (fun i hi => zero_at 32 i hi)
  refine wpList_store_mid rfl 25 _ _ rfl W4.heap.size 0 (tagC s).toArray rfl rfl (by simpa [tagC_len] using ht) (by simp [infoTag, tagC_len]) (tagC_one _) ?_
  rw [List.toList_toArray]
  have ht5 : BT ((W4.alloc (.cells (List.replicate 32 (Value.int .u8 0)).toArray 25)).setCells W4.heap.size 0 (tagC s)) W4.heap.size 32 s := ht0.setFirst 32 (Nat.le_refl _) _ rfl fun j h1 h2 => by omega
  have hg5 : W4.grownBy ((W4.alloc (.cells (List.replicate 32 (Value.int .u8 0)).toArray 25)).setCells W4.heap.size 0 (tagC s)) (some W4.heap.size) := (World.grownBy_alloc W4 _ _).trans (gr_setCells _ _ _)
  show Exit.then _ _ Exit.normal _ ((W4.alloc (.cells (List.replicate 32 (Value.int .u8 0)).toArray 25)).setCells W4.heap.size 0 (tagC s))
  generalize (W4.alloc (.cells (List.replicate 32 (Value.int .u8 0)).toArray 25)).setCells W4.heap.size 0 (tagC s) = W5 at ht5 hg5 ⊢
  have q5 := hg5.size
  have HV := Lib.hid (show S3 w W4.heap.size s W5 from ⟨E3.out.grown hg5 E3.out.size (by rintro q ⟨⟩; omega), there_gr E2.out hg5 (by omega) (by simp; omega), ht5, by omega⟩)
  clear ht5 hg5 ht ht0 E2 E3
  go_upto_region 2 with (fail)
  refine wp_region_noPanic ?_
  refine wp_region_start (n := 7) (l := #[false, false, false, false, false, false, false]) (S := S3 w W4.heap.size s) (by kernel_rfl) rfl (by kernel_rfl) HV.out.drew (fun hHeld => ?_)
  refine take_to (i := 0) (d := some 11) (v := ?_) (l' := #[true, false, false, false, false, false, false]) rfl rfl (by kernel_rfl) (by kernel_rfl) (by kernel_rfl) (by kernel_rfl) (fun _ _ _ h => h) (Or.inl ⟨by rfl, ?_⟩) (by assumption) ?_; rotate_left; · (intro w' hSw; (try dsimp only at hSw); go_simp; (try with_reducible rfl))
  try simp only [Act.put, List.setIfInBounds_toArray, List.set_cons_zero, List.set_cons_succ]
  refine take_to (i := 2) (d := some 13) (v := .agg (tagC s).toArray) (l' := #[true, false, true, false, false, false, false]) rfl rfl (by kernel_rfl) (by kernel_rfl) (by kernel_rfl) (by kernel_rfl) (fun _ _ _ h => h) ?_ (by assumption) ?_
  · exact yieldsIf_load_mid (by rfl) 25 _ rfl W4.heap.size 0 rfl (tagC s) _ (fun w' hw' => S3.tag hw' |>.range) Tryz.underlying25 rfl (by simp [infoTag, tagC_len])
  try simp only [Act.put, List.setIfInBounds_toArray, List.set_cons_zero, List.set_cons_succ]
  refine one_to (i := 1) (l' := #[true, true, true, false, false, false, false]) rfl (by kernel_rfl) (by kernel_rfl) (fun K hK => ?_)
  go_simp
  refine (HBLK.out _ 0x5c#8 hHeld.bel).mono ?_
  rintro e W6 ⟨v6, rfl, hb6, hown6⟩
  dsimp only
  refine hK.out _ _ (hHeld.go hb6) (fun hV6 => ?_)
  clear hK K
  try simp only [Act.put, List.setIfInBounds_toArray, List.set_cons_zero, List.set_cons_succ]
  refine one_to (i := 3) (l' := #[true, true, true, true, false, false, false]) rfl (by kernel_rfl) (by kernel_rfl) (fun K hK => ?_)
  go_simp
  refine (ref3_bytes s W6).mono ?_
  rintro e W7 ⟨v7, rfl, hb7, hown7⟩
  dsimp only
  refine hK.out _ _ (hV6.go hb7) (fun hV7 => ?_)
  clear hK K
  try simp only [Act.put, List.setIfInBounds_toArray, List.set_cons_zero, List.set_cons_succ]
  have q6 := hb6.size
  have q7 := hb7.size
  obtain ⟨p7, c7, rfl, hrd7, _, _⟩ := owns_reads hown7
  have hown6' := owns_below hown6 hb7
  obtain ⟨v8, W8, hrun8, hown8, hgr8⟩ := append_cat W7 _ W7.heap.size 22 v6 64 _ hown6' p7 32 c7 s hrd7 (by omega) (by omega)
  refine one_to (i := 4) (l' := #[true, true, true, true, true, false, false]) rfl (by kernel_rfl) (by kernel_rfl) (fun K hK => ?_)
  rw [if_pos (by rfl)]
  refine Lib.wp_append_run _ _ _ _ _ rfl _ _ rfl rfl v8 W8 hrun8 ?_
  refine hK.out _ _ (hV7.grown hgr8 (fun q e => by have := (hown6'.lt q e).1; have h1 := hHeld.tag.lt; have h2 : W5.drew.heap.size ≤ q := this; omega)) (fun hV8 => ?_)
  clear hK K
  try simp only [Act.put, List.setIfInBounds_toArray, List.set_cons_zero, List.set_cons_succ]
  obtain ⟨p8, c8, rfl, hrd8, _, _⟩ := owns_reads hown8
  refine one_to (i := 5) (l' := #[true, true, true, true, true, true, false]) rfl (by kernel_rfl) (by kernel_rfl) (fun K hK => ?_)
  go_simp
  refine (refOf_any W8.heap.size W8 p8 (64 + 32) c8 _ (Nat.le_refl _) (by omega) hrd8).mono ?_
  rintro e W9 ⟨rfl, hb9⟩
  rw [HS2.out]
  dsimp only
  refine hK.out _ _ (hV8.go hb9) (fun hV9 => ?_)
  clear hK K
  try simp only [Act.put, List.setIfInBounds_toArray, List.set_cons_zero, List.set_cons_succ]
  refine one_to (i := 6) (l' := #[true, true, true, true, true, true, true]) rfl (by kernel_rfl) (by kernel_rfl) (fun K hK => ?_)
  rw [if_pos (by rfl)]
  refine wp_store_mid 25 _ _ rfl w.heap.size 0 (tagC s2).toArray rfl rfl (by simpa [tagC_len] using hV9.out) (by simp [infoTag, tagC_len]) (tagC_one _) ?_
  rw [List.toList_toArray]
  refine hK.out _ _ (hV9.store _) (fun hV10 => ?_)
  clear hK K
  try simp only [Act.put, List.setIfInBounds_toArray, List.set_cons_zero, List.set_cons_succ]
  refine wpAnyH_done (by kernel_rfl) ?_ _
  refine NoPanic.normal ?_
  have HR5 := Lib.hid (World.rangeAt_setCells_same W9 w.heap.size 0 (tagC s2) (by rw [tagC_len]; exact hV9.out))
  have HB5 := Lib.hid hV10.bel
  clear hV10 hV9 hV8 hV7 hV6 hHeld hrd7 hrd8 hown6 hown6' hown7 hown8 hrun8 hgr8 hb6 hb7 hb9
  generalize W9.setCells w.heap.size 0 (tagC s2) = W10 at HR5 HB5 ⊢
  go_wp2
  refine bodyPost_ret (v := tagV s2) ?_ rfl ⟨rfl, HB5.out⟩
  exact results_cell_mid (p := 4) (ty := 25) rfl _ W10 w.heap.size _ _ rfl HR5.out Tryz.underlying25 rfl (by simp [infoTag, tagC_len])
end Go.Proofs.YtejknkgbkkdaiaaGreatDoor
namespace Go.Proofs.YtejknkgbkkdaiaaGreatDoor
open Go.RowKit
set_option linter.unusedVariables false
set_option linter.unusedSimpArgs false

end Go.Proofs.YtejknkgbkkdaiaaGreatDoor
namespace Go.Proofs.YtejknkgbkkdaiaaGreatDoor
open Go.RowKit
set_option linter.unusedVariables false
set_option linter.unusedSimpArgs false

/-- what stays behind the first loop -/
structure MT (w W1 : World) (t : Nat → BitVec 8) (gk kn : Nat) (k : Nat → BitVec 8) (v : Value) (m : Nat) (G ln : Nat → Nat) (f : Nat → Nat → BitVec 8) (W : World) : Prop where
  cv : CV w t W
  lr : LR W1 W v m G ln (fun i q => ub (f i q))
  key : W.ownsRow w.heap.size 5 1 (.slice (some ⟨gk, 0, none⟩) (kn + 12) (kn + 12)) (kn + 12) ((List.range (kn + 12)).map (LentBytes.ext kn fun i => ub (k i)))
section
variable {w W1 W W' : World} {t : Nat → BitVec 8} {gk kn : Nat} {k : Nat → BitVec 8} {v : Value} {m : Nat} {G ln : Nat → Nat} {f : Nat → Nat → BitVec 8}
theorem MT.drew (h : MT w W1 t gk kn k v m G ln f W) : MT w W1 t gk kn k v m G ln f W.drew := ⟨h.cv.drew, h.lr.drew, h.key⟩
theorem MT.go (h : MT w W1 t gk kn k v m G ln f W) (g : Below W.heap.size W W') : MT w W1 t gk kn k v m G ln f W' := ⟨h.cv.go g, h.lr.go g, owns_below h.key g⟩
theorem MT.ri {p : Option Addr} {c : Nat} (h : MT w W1 t gk kn k (.slice p m c) m G ln f W) (hl : ∀ i, i < m → ln i ≤ 700) : RI W p m (fun i => some ⟨G i, 0, none⟩) ln (fun i => ln i + 12) f :=
  ⟨owns_reads' h.lr.own, fun i hi => ⟨by omega, by have := hl i hi; unfold maxLen; omega⟩, fun i hi => by
    rcases h.lr.reads i hi with h0 | ⟨b, off, he, hb, hc⟩
    · omega
    · exact .inr ⟨b, off, he, hb, fun q hq => by rw [hc q (by omega), LentBytes.ext_lt hq]⟩⟩
structure MT2 (w W1 : World) (t : Nat → BitVec 8) (gk kn : Nat) (k : Nat → BitVec 8) (v : Value) (m : Nat) (G ln : Nat → Nat) (f : Nat → Nat → BitVec 8) (T1 T2 : Nat) (s : Nat → BitVec 8) (W : World) : Prop where
  mt : MT w W1 t gk kn k v m G ln f W
  want : BT W T1 32 s
  got : BT W T2 32 s
theorem MT2.drew {T1 T2 : Nat} {s : Nat → BitVec 8} (h : MT2 w W1 t gk kn k v m G ln f T1 T2 s W) : MT2 w W1 t gk kn k v m G ln f T1 T2 s W.drew := ⟨h.mt.drew, h.want.drew, h.got.drew⟩
theorem MT2.go {T1 T2 : Nat} {s : Nat → BitVec 8} (h : MT2 w W1 t gk kn k v m G ln f T1 T2 s W) (g : Below W.heap.size W W') : MT2 w W1 t gk kn k v m G ln f T1 T2 s W' := ⟨h.mt.go g, h.want.below' g, h.got.below' g⟩
theorem MT.kr12 (h : MT w W1 t gk kn k v m G ln f W) : Reads W.heap.size W (some ⟨gk, 0, none⟩) (kn + 12) (LentBytes.ext kn fun i => ub (k i)) := by
  obtain ⟨p, c, he, hr, _⟩ := owns_reads h.key
  cases he
  exact hr
theorem MT.kr (h : MT w W1 t gk kn k v m G ln f W) : Reads W.heap.size W (some ⟨gk, 0, none⟩) kn (fun i => .int .u8 (ub (k i))) := by
  obtain ⟨p, c, he, hr, _⟩ := owns_reads h.key
  cases he
  rcases hr with h0 | ⟨b, off, he, hb, hc⟩
  · omega
  · exact .inr ⟨b, off, he, hb, fun q hq => by rw [hc q (by omega), LentBytes.ext_lt hq]⟩
end
end Go.Proofs.YtejknkgbkkdaiaaGreatDoor
