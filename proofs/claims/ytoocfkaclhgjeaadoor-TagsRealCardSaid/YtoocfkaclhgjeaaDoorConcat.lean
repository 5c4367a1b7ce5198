/-
  Contracts: lists of rows, one behind the other (slices.Grow, slices.Concat).
-/
import Derived.Test.YtoocfkaclhgjeaaDoorBlock
import Derived.Lib.AppendZeros
import Derived.Laws.OwnMore
namespace Go.Proofs.YtoocfkaclhgjeaaDoor
open Go.RowKit
set_option linter.unusedVariables false
set_option linter.unusedSimpArgs false

/-- a row that is read is appended to one that is owned, wherever it lies, nil or not -/
theorem append_reads {P : Program} (w : World) (base B : Nat) (t ty e : TypeId) (i : TypeInfo) (z : Value) (bytes : Nat) (ht : P.underlying t = some (.slice e)) (hi : P.info? e = some i) (hz : i.zero = some z)
    (hsize : i.size = 1) (hby : i.bytes = bytes) (hzs : z.cells.size = 1) (v : Value) (n : Nat) (xs : List Value) (hown : w.ownsRow base e 1 v n xs)
    (p : Option Addr) (m c : Nat) (f : Nat → Value) (hr : Reads B w p m f) (h1 : ∀ i, i < m → (f i).oneCell' = true)
    (h63 : n + m ≤ maxLen) (hbytes : (n + m) * bytes ≤ 140737488355328) (hbase : base ≤ w.heap.size) :
    ∃ v' w', (Builtin.append_ #[t, t] ty #[v, .slice p m c]).run P w = .ok v' w' ∧ w'.ownsRow base e 1 v' (n + m) (xs ++ (List.range m).map f) ∧ w.grownBy w' v.ownBlock := by
  cases p with
  | none =>
    have hm : m = 0 := by
      rcases hr with h | ⟨b, off, h, _⟩
      · exact h
      · cases h
    subst hm
    refine ⟨v, w, ?_, by simpa using hown, World.grownBy.refl _ _⟩
    rcases hown.2 with ⟨rfl, rfl⟩ | ⟨g, cap, cur, rfl, _, _, hnc, _⟩
    · simp [Builtin.append_, run_underlying ht, sizeOf, typeInfo, hi, Builtin.lenOf, Builtin.firstCells]
    · simp [Builtin.append_, run_underlying ht, sizeOf, typeInfo, hi, Builtin.lenOf, Builtin.firstCells, hnc, storeCells]
  | some a =>
    obtain ⟨v', w', h2, h3, h4, _⟩ := run_append_own (P := P) w base t ty e i z 1 bytes ht hi hz hsize hby hzs (by omega) v n xs hown a m c ((List.range m).map f) (by simp) (fun j u hj => by
      have hjm : j < m := by have := (List.getElem?_eq_some_iff.1 hj).1; simpa using this
      rcases hr with h | ⟨b, off, he, hb, hc⟩
      · omega
      · cases he
        rw [List.getElem?_map, List.getElem?_range hjm] at hj
        rw [Go.WideShapes.add_plain, hc j hjm]; simpa using hj) (fun u hu => by
      obtain ⟨j, hj, rfl⟩ := List.mem_map.1 hu
      exact h1 j (List.mem_range.1 hj)) h63 hbytes hbase
    exact ⟨v', w', h2, h3, h4⟩
theorem infoBs : (Tryd.prog.info? 23).map (fun i => (i.zero, i.size, i.bytes)) = some (some (.slice none 0 0), 1, 24) := by kernel_rfl

set_option maxHeartbeats 1000000 in
set_option maxRecDepth 100000 in
theorem grow_any (n : Nat) (w : World) (hn : n ≤ 4294967296) :
    Calls Tryd.prog 67 #[.slice none 0 0, .int .i64 n] w fun e w' => ∃ v, e = .returned v ∧ Below w.heap.size w w' ∧ w'.ownsRow w.heap.size 23 1 v 0 [] := by
  obtain ⟨i0, hi, hz0, hz1, hz2⟩ := info_parts infoBs
  by_cases h0 : n = 0
  · subst h0
    go_enter Tryd.func67, Tryd.ntmps67
    go_wp2
    go_ret
    exact ⟨_, rfl, Below.refl _ _, World.ownsRow_nil _ _ _ _⟩
  · have hpos : 0 < n := by omega
    have hap : ∀ ty, (Builtin.append_ #[24, 3] ty #[.slice none 0 0, .int .i64 n]).run Tryd.prog w = _ := fun ty => Lib.run_append_nil_zeros w 24 3 ty 23 i0 (.slice none 0 0) .i64 .i64 Tryd.underlying24 Tryd.underlying3 hi hz0 n hpos (by omega) (by omega) (by rw [hz2]; omega)
    have hge := grownCap_ge w n 0 23
    have hle := grownCap_le_maxLen w n 0 23 (by unfold maxLen; omega)
    have hsz : (Builtin.zeroCells (Value.slice none 0 0).cells n ++ Builtin.zeroCells (Value.slice none 0 0).cells (grownCap w n 0 23 - n)).size = grownCap w n 0 23 := by
      rw [Array.size_append, size_zeroCells, size_zeroCells, show (Value.slice none 0 0).cells.size = 1 from rfl]; omega
    generalize grownCap w n 0 23 = G at hap hge hle hsz
    generalize (Builtin.zeroCells (Value.slice none 0 0).cells n ++ Builtin.zeroCells (Value.slice none 0 0).cells (G - n)) = C at hap hsz
    have hown := World.ownsRow_made (e := 23) (size := 1) (base := w.heap.size) w.drew C G (Nat.le_refl _) hle (by omega)
    have HO := Lib.hid hown
    have HS := Lib.hid hsz
    clear hown hsz
    unfold maxLen at hle
    have hnn : ¬ ((n : Int) < 0) := by omega
    have hnp : (n : Int) > 0 := by omega
    go_enter Tryd.func67, Tryd.ntmps67
    go_wp2_with (at_builtin; refine Lib.wpList_append_run _ rfl _ _ _ _ rfl _ _ rfl rfl _ _ (hap _) ?_)
    go_wp2
    go_ret
    exact ⟨_, rfl, ((Below.refl _ _).drew).alloc (Nat.le_refl _) _, HO.out⟩

/-- how many there are in the first k lists -/
def totL (L : Nat → Nat) : Nat → Nat
  | 0 => 0
  | k + 1 => totL L k + L k
def flatL (L : Nat → Nat) (f : Nat → Nat → Value) : Nat → List Value
  | 0 => []
  | k + 1 => flatL L f k ++ (List.range (L k)).map (f k)
theorem totL_mono (ln : Nat → Nat) {i j : Nat} (h : i ≤ j) : totL ln i ≤ totL ln j := by
  induction j with
  | zero => rw [show i = 0 by omega]; exact Nat.le_refl _
  | succ j ih =>
    by_cases e : i = j + 1
    · rw [e]; exact Nat.le_refl _
    · have := ih (by omega); simp only [totL]; omega

set_option maxHeartbeats 1000000 in
set_option maxRecDepth 100000 in
theorem concat_any (w : World) (p : Option Addr) (m c : Nat) (Q : Nat → Option Addr) (L C : Nat → Nat) (f : Nat → Nat → Value) (hm : m ≤ 4294967296) (ht : totL L m ≤ 4294967296)
    (hp : Reads w.heap.size w p m (fun i => .slice (Q i) (L i) (C i))) (hc : ∀ i, i < m → L i ≤ C i ∧ C i ≤ maxLen) (hr : ∀ i, i < m → Reads w.heap.size w (Q i) (L i) (f i)) (h1 : ∀ i, i < m → ∀ j, j < L i → (f i j).oneCell' = true) :
    Calls Tryd.prog 59 #[.slice p m c] w fun e w' => ∃ v, e = .returned v ∧ Below w.heap.size w w' ∧ w'.ownsRow w.heap.size 23 1 v (totL L m) (flatL L f m) := by
  obtain ⟨i0, hi, hz0, hz1, hz2⟩ := info_parts infoBs
  have HP := Lib.hid hp
  have HC := Lib.hid hc
  have HR := Lib.hid hr
  have H1 := Lib.hid h1
  clear hp hc hr h1
  go_enter Tryd.func59, Tryd.ntmps59
  go_wp2
  go_loop [3, 5, 11] (fun s _ i => ∃ k : Nat, k ≤ m ∧ i = .int .i64 (k : Int) ∧ s = .int .i64 (totL L k)) (fun _ _ i => m - (intOf i).toNat)
  case atStart => exact ⟨0, Nat.zero_le _, rfl, rfl⟩
  case round =>
    obtain ⟨k, hk, rfl, rfl⟩ := hrel
    by_cases hlt : k < m
    · rcases HP.out with h0 | ⟨b, off, rfl, hb, hcp⟩
      · omega
      have hcell := hcp k hlt
      have hcc := HC.out k hlt
      clear hcp
      unfold maxLen at hcc
      have hmo := totL_mono L (show k + 1 ≤ m by omega)
      simp only [totL] at hmo
      have hnn : ¬ ((totL L k : Int) + (L k : Int) < 0) := by omega
      go_wp2
      go_round
      case rel => exact ⟨k + 1, by omega, by go_num, by simp only [totL]; go_num⟩
      case measure => simp [intOf]; omega
    · obtain rfl : k = m := by omega
      go_wp2_with fail
      refine (grow_any (totL L k) w ht).mono ?_
      rintro e W ⟨v, rfl, hb, hown⟩
      have HB := Lib.hid hb
      have HO := Lib.hid hown
      clear hb hown
      go_wp2
      go_loopw [6, 8, 27] (fun v _ i wr => ∃ j : Nat, j ≤ k ∧ i = .int .i64 (j : Int) ∧ Below w.heap.size w wr ∧ wr.ownsRow w.heap.size 23 1 v (totL L j) (flatL L f j)) (fun _ _ i _ => k - (intOf i).toNat)
      case atStart => exact ⟨0, Nat.zero_le _, rfl, HB.out, HO.out⟩
      case round =>
        clear HB HO
        obtain ⟨j, hj, rfl, hb, hown⟩ := hrel
        by_cases hlt : j < k
        · rcases HP.out with h0 | ⟨b, off, rfl, hbb, hcp⟩
          · omega
          have hcell : wr.cell? ⟨b, off + j, none⟩ = _ := (hb.cell (p := ⟨b, off + j, none⟩) hbb).trans (hcp j hlt)
          have hcc := HC.out j hlt
          have hmo := totL_mono L (show j + 1 ≤ k by omega)
          simp only [totL] at hmo
          have hsz := hb.size
          have hap := fun ty => append_reads (P := Tryd.prog) wr w.heap.size w.heap.size 24 ty 23 i0 (.slice none 0 0) 24 Tryd.underlying24 hi hz0 hz1 hz2 rfl _ _ _ hown (Q j) (L j) (C j) (f j) ((HR.out j hlt).below hb) (H1.out j hlt) (by unfold maxLen; omega) (by omega) hsz
          have HAP := Lib.hid hap
          have HB := Lib.hid hb
          have HO := Lib.hid hown
          clear hcp hap hb hown hmo hcc
          go_wp2_with (at_builtin; (obtain ⟨v', w1, hrun, hown1, hgr1⟩ := HAP.out _; refine Lib.wpList_append_run _ rfl _ _ _ _ rfl _ _ rfl rfl v' w1 hrun ?_))
          have H2 := Lib.hid (HB.out.grown hgr1 hsz (fun q e => (HO.out.lt q e).1))
          have H3 := Lib.hid hown1
          clear hrun hown1 hgr1 hcell
          go_wp2
          go_roundw
          case rel => exact ⟨j + 1, by omega, by go_num, H2.out, H3.out⟩
          case measure => simp [intOf]; omega
        · obtain rfl : j = k := by omega
          have H2 := Lib.hid hb
          have H3 := Lib.hid hown
          clear hb hown
          go_wp2
          go_ret
          exact ⟨_, rfl, H2.out, H3.out⟩
end Go.Proofs.YtoocfkaclhgjeaaDoor
