/-
  Contract: all rows' bytes as one text (bytes.Join without a separator, and its conversion).
-/
import Derived.Ground.SlbNamesProg
import Derived.Shelf.Bytes.SlJoin
import Derived.Test.YtoocfkaclhgjeaaDoorTab
import Derived.Lib.BufferRead
namespace Go.Proofs.YtoocfkaclhgjeaaDoor
open Go.RowKit
set_option linter.unusedVariables false
set_option linter.unusedSimpArgs false

def join_ren : Go.Shelf.Ren := ⟨fun | 14 => 58 | 15 => 66 | n => n, fun | 26 => 24 | 22 => 23 | 3 => 3 | 4 => 4 | 0 => 0 | 9 => 9 | 20 => 20 | 5 => 5 | n => n, fun | n => n⟩
theorem join_lays : Go.Proofs.SlLaysJ.n14 Tryd.prog join_ren := {
  mixed := by kernel_rfl
  f14 := Tryd.func58.trans (congrArg some (by kernel_rfl))
  f15 := Tryd.func66.trans (congrArg some (by kernel_rfl))
  t0 := Tryd.underlying0
  a0 := Tryd.isAgg0
  z0 := Tryd.sizeOf0
  v0 := Tryd.zeroValue0
  t3 := Tryd.underlying3
  a3 := Tryd.isAgg3
  z3 := Tryd.sizeOf3
  v3 := Tryd.zeroValue3
  t4 := Tryd.underlying4
  a4 := Tryd.isAgg4
  z4 := Tryd.sizeOf4
  v4 := Tryd.zeroValue4
  t9 := Tryd.underlying9
  a9 := Tryd.isAgg9
  z9 := Tryd.sizeOf9
  v9 := Tryd.zeroValue9
  t20 := Tryd.underlying20
  a20 := Tryd.isAgg20
  z20 := Tryd.sizeOf20
  v20 := Tryd.zeroValue20
  t22 := Tryd.underlying23
  a22 := Tryd.isAgg23
  z22 := Tryd.sizeOf23
  v22 := Tryd.zeroValue23
  t26 := Tryd.underlying24
  a26 := Tryd.isAgg24
  z26 := Tryd.sizeOf24
  v26 := Tryd.zeroValue24
  t5 := Tryd.underlying5
  z5 := Tryd.sizeOf5
  i5 := by kernel_rfl }
/-- bytes as a list -/
def byL (g : Nat → BitVec 8) (n : Nat) : List UInt8 := (List.range n).map fun i => UInt8.ofBitVec (g i)
theorem byL_len (g : Nat → BitVec 8) (n : Nat) : (byL g n).length = n := by simp [byL]
theorem byL_get (g : Nat → BitVec 8) (n i : Nat) (hi : i < n) : (byL g n)[i]? = some (UInt8.ofBitVec (g i)) := by simp [byL, hi]
theorem by_val (x : BitVec 8) : ((UInt8.ofBitVec x).toNat : Int) = ub x := rfl
theorem byL_congr {f g : Nat → BitVec 8} {n : Nat} (h : ∀ i, i < n → f i = g i) : byL f n = byL g n := List.map_congr_left fun i hi => by rw [h i (List.mem_range.1 hi)]
theorem byL_add (g : Nat → BitVec 8) (n m : Nat) : byL g n ++ byL (fun i => g (n + i)) m = byL g (n + m) := by
  unfold byL
  rw [List.range_add, List.map_append, List.map_map]
  rfl
theorem flat_sp : ∀ xs : List (List UInt8), (List.intersperse [] xs).flatten = xs.flatten
  | [] => rfl
  | [a] => by simp
  | a :: b :: r => by
    rw [List.intersperse_cons_cons, List.flatten_cons, List.flatten_cons, List.nil_append, flat_sp (b :: r)]
    rfl
theorem byL_flat (P : Nat → Option Addr) (ln : Nat → Nat) (f : Nat → Nat → BitVec 8) (g : Nat → BitVec 8) (m : Nat) (hg : ∀ i, i < m → ∀ j, j < ln i → f i j = g (pos ln i + j)) : Lib.join ((List.range m).map fun i => byL (f i) (ln i)) [] = byL g (pos ln m) := by
  have e : Lib.join ((List.range m).map fun i => byL (f i) (ln i)) [] = ((List.range m).map fun i => byL (f i) (ln i)).flatten := by
    exact flat_sp _
  rw [e]
  clear e
  induction m with
  | zero => simp [byL, pos]
  | succ m ih =>
    rw [List.range_succ, List.map_append, List.flatten_append, ih fun i hi => hg i (by omega)]
    show byL g (pos ln m) ++ _ = byL g (pos ln m + ln m)
    rw [← byL_add]
    simp only [List.map_cons, List.map_nil, List.flatten_cons, List.flatten_nil, List.append_nil]
    rw [byL_congr fun j hj => hg m (by omega) j hj]
theorem fresh_reads {B : Nat} {W : World} {v : Value} {g : Nat → BitVec 8} {n : Nat} (h : Lib.FreshBytes B W v (byL g n)) : ∃ q c, v = .slice (some q) n c ∧ ∀ j (hj : j < (byL g n).length), W.cell? (q.add j) = some (.int .u8 ((byL g n)[j].toNat : Int)) := by
  obtain ⟨x, c, zs, rfl, hB, hl, hm, hz, hr, hb, hc, _⟩ := h
  rw [byL_len] at hl hb
  refine ⟨_, c, by rw [byL_len], fun j hj => ?_⟩
  have hjn : j < n := by rwa [byL_len] at hj
  rw [Go.WideShapes.add_plain, Nat.zero_add, hc j (by omega)]
  have e : (Lib.bytesOf (zs.take n))[j]? = some (byL g n)[j] := by rw [hb]; exact List.getElem?_eq_getElem hj
  have hjz : j < zs.length := by omega
  unfold Lib.bytesOf at e
  rw [List.getElem?_map, List.getElem?_take, if_pos hjn, List.getElem?_eq_getElem hjz] at e
  have e2 := Option.some.inj e
  have hx := hr zs[j] (List.getElem_mem _)
  have e3 : (byL g n)[j].toNat = zs[j].toNat := by
    rw [← e2, UInt8.toNat_ofNat']
    exact Nat.mod_eq_of_lt (by omega)
  rw [e3]
  congr 2
  rw [List.getD_eq_getElem?_getD, List.getElem?_eq_getElem hjz]
  simp only [Option.getD_some]
  omega
theorem parts_at {w : World} {b o m : Nat} {P : Nat → Option Addr} {ln C : Nat → Nat} {f : Nat → Nat → BitVec 8} (hp : ∀ i, i < m → w.cell? ⟨b, o + i, none⟩ = some (.slice (P i) (ln i) (C i))) (hr : ∀ i, i < m → Reads w.heap.size w (P i) (ln i) (fun j => .int .u8 (ub (f i j)))) :
    Lib.PartsAt w ⟨b, o, none⟩ ((List.range m).map fun i => .slice (P i) (ln i) (C i)) ((List.range m).map fun i => byL (f i) (ln i)) := by
  refine ⟨by simp, fun i v hv => ?_, fun i v l hv hl => ?_⟩
  · have hi : i < m := by have := (List.getElem?_eq_some_iff.1 hv).1; simpa using this
    rw [Go.WideShapes.add_plain, hp i hi, ← hv]
    simp [hi]
  · have hi : i < m := by have := (List.getElem?_eq_some_iff.1 hv).1; simpa using this
    simp only [List.getElem?_map, List.getElem?_range hi, Option.map_some, Option.some.injEq] at hv hl
    subst hv hl
    refine ⟨P i, C i, by rw [byL_len], fun e => ?_, fun a e j x hj => ?_⟩
    · rcases hr i hi with h | ⟨b', o', h, _⟩
      · exact List.length_eq_zero_iff.1 (by rw [byL_len]; exact h)
      · rw [h] at e; cases e
    · have hjn : j < ln i := by have := (List.getElem?_eq_some_iff.1 hj).1; rwa [byL_len] at this
      rw [byL_get _ _ _ hjn] at hj
      cases hj
      rcases hr i hi with h | ⟨b', o', h, hb, hc⟩
      · omega
      · rw [h] at e
        cases e
        rw [Go.WideShapes.add_plain, hc j hjn]
        rfl
theorem lens_pos (f : Nat → Nat → BitVec 8) (ln : Nat → Nat) (m : Nat) : Lib.lens ((List.range m).map fun i => byL (f i) (ln i)) = pos ln m := by
  unfold Lib.lens
  rw [List.map_map]
  induction m with
  | zero => simp [pos]
  | succ m ih =>
    rw [List.range_succ, List.map_append, List.sum_append, ih]
    simp [byL_len, pos]
set_option maxHeartbeats 1000000 in
theorem joined_any (w : World) (p : Option Addr) (m c : Nat) (P : Nat → Option Addr) (ln C : Nat → Nat) (f : Nat → Nat → BitVec 8) (g : Nat → BitVec 8) (hr : RI w p m P ln C f) (hmc : m ≤ c) (hm : m ≤ 4294967295) (hn : pos ln m ≤ 4294967295) (hg : ∀ i, i < m → ∀ j, j < ln i → f i j = g (pos ln i + j)) :
    Calls Tryd.prog 44 #[.slice p m c] w fun e w' => e = .returned (.string ⟨(byL g (pos ln m)).toArray⟩) ∧ Below w.heap.size w w' := by
  have hj : Calls Tryd.prog 58 #[.slice p m c, .slice none 0 0] w fun e w' => ∃ v, e = .returned v ∧ Below w.heap.size w w' ∧ ((v = .slice none 0 0 ∧ pos ln m = 0) ∨ ∃ q cq, v = .slice (some q) (byL g (pos ln m)).length cq ∧ ∀ j (hj : j < (byL g (pos ln m)).length), w'.cell? (q.add j) = some (.int .u8 ((byL g (pos ln m))[j].toNat : Int))) := by
    by_cases h0 : m = 0
    · subst h0
      refine (Any.bytes_Join_none join_lays p c (.slice none 0 0) w).mono ?_
      rintro e w' ⟨rfl, rfl⟩
      exact ⟨_, rfl, (Below.refl _ _).alloc (Nat.le_refl _) _, .inr ⟨_, 0, rfl, fun j hj => by rw [byL_len] at hj; simp [pos] at hj⟩⟩
    · rcases hr.rows with h | ⟨b, o, rfl, hb, hp⟩
      · omega
      by_cases h1 : m = 1
      · subst h1
        have hc0 : w.cell? ⟨b, o, none⟩ = some (.slice (P 0) (ln 0) (C 0)) := hp 0 (by omega)
        by_cases hz : ln 0 = 0
        · rw [hz] at hc0
          refine (Any.bytes_Join_one_empty join_lays b o c (P 0) (C 0) (.slice none 0 0) w hc0).mono ?_
          rintro e w' ⟨rfl, rfl⟩
          exact ⟨_, rfl, Below.refl _ _, .inl ⟨rfl, by simp [pos, hz]⟩⟩
        · rcases hr.row 0 (by omega) with h | ⟨b0, o0, he, hb0, hc⟩
          · omega
          rw [he] at hc0
          have hl0 : (byL (f 0) (ln 0)).length = ln 0 := byL_len _ _
          refine (Any.bytes_Join_one join_lays b o c ⟨b0, o0, none⟩ (C 0) (byL (f 0) (ln 0)) (.slice none 0 0) w (by rw [hl0]; exact hc0) (fun i x hx => by
            have hi : i < ln 0 := by have := (List.getElem?_eq_some_iff.1 hx).1; rwa [byL_len] at this
            rw [byL_get _ _ _ hi] at hx
            cases hx
            rw [Go.WideShapes.add_plain, hc i hi]
            rfl) (by rw [hl0]; omega) (by rw [hl0]; have : pos ln 1 = 0 + ln 0 := rfl; omega)).mono ?_
          rintro e w' ⟨v, rfl, hf, hbel⟩
          have e1 : byL (f 0) (ln 0) = byL g (pos ln 1) := by
            rw [show pos ln 1 = ln 0 by show 0 + ln 0 = _; omega]
            exact byL_congr fun j hj => by rw [hg 0 (by omega) j hj]; simp [pos]
          rw [e1] at hf
          obtain ⟨q, cq, hv, hcc⟩ := fresh_reads hf
          exact ⟨v, rfl, hbel, .inr ⟨q, cq, by rw [byL_len]; exact hv, hcc⟩⟩
      · have hlens : Lib.lens ((List.range m).map fun i => byL (f i) (ln i)) = pos ln m := lens_pos f ln m
        refine (Any.bytes_Join_many join_lays b o m c _ _ (.slice none 0 0) [] w (by simp) (by omega) (parts_at hp hr.row) hmc ⟨none, 0, rfl, fun _ => rfl, fun a e => by cases e⟩ (by omega) (by rw [hlens]; simp; omega)).mono ?_
        rintro e w' ⟨v, rfl, hf, hbel⟩
        rw [byL_flat P ln f g m hg] at hf
        obtain ⟨q, cq, hv, hcc⟩ := fresh_reads hf
        exact ⟨v, rfl, hbel, .inr ⟨q, cq, by rw [byL_len]; exact hv, hcc⟩⟩
  have HJ := Lib.hid hj
  clear hj
  go_enter Tryd.func44, Tryd.ntmps44
  go_wp2_with fail
  refine HJ.out.mono ?_
  rintro e w1 ⟨v, rfl, hb, h⟩
  have HB := Lib.hid hb
  clear hb HJ
  rcases h with ⟨rfl, h0⟩ | ⟨q, cq, rfl, hc⟩
  · have cv := Lib.run_convert_nil_bytes (P := Tryd.prog) w1 23 9 5 0 Tryd.underlying23 Tryd.underlying5 Tryd.underlying9
    have he : (byL g (pos ln m)) = [] := List.length_eq_zero_iff.1 (by rw [byL_len]; exact h0)
    have HE := Lib.hid he
    clear h0 he
    go_wp2
    go_ret
    exact ⟨by first | (rw [HE.out]; rfl) | (rw [HE.out]), HB.out⟩
  · have cv := run_convert_bytes_back (P := Tryd.prog) w1 23 9 5 q cq (byL g (pos ln m)) Tryd.underlying23 Tryd.underlying5 Tryd.underlying9 hc
    obtain ⟨l, hl⟩ : ∃ l, l = byL g (pos ln m) := ⟨_, rfl⟩
    rw [← hl] at cv
    have HL := Lib.hid hl
    rw [← hl]
    clear hc hl
    go_wp2
    go_ret
    exact ⟨by first | rfl | (rw [← HL.out]; rfl) | (rw [HL.out]; rfl), HB.out⟩
end Go.Proofs.YtoocfkaclhgjeaaDoor
