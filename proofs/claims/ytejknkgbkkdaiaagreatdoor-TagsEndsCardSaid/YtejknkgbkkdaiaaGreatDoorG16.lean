/-
  Merged: Tab, Join.
-/
import Derived.Test.YtejknkgbkkdaiaaGreatDoorOct
import Derived.Laws.Bits64b
import Derived.Maps.OwnSet
import Derived.Maps.OwnOps
import Derived.DeepKeys4
import Derived.Ground.SlbNamesProg
import Derived.Shelf.Bytes.SlJoin
import Derived.Lib.BufferRead

namespace Go.Proofs.YtejknkgbkkdaiaaGreatDoor
open Go.RowKit
set_option linter.unusedVariables false
set_option linter.unusedSimpArgs false

/-- the first j of the eight bytes from place 8 on, as a number -/
def val8 (t : Nat → BitVec 8) : Nat → Nat
  | 0 => 0
  | j + 1 => val8 t j * 256 + (t (8 + j)).toNat
theorem val8_lt (t : Nat → BitVec 8) (j : Nat) : val8 t j < 256 ^ j := by
  induction j with
  | zero => simp [val8]
  | succ j ih =>
    have h := (t (8 + j)).isLt
    rw [Nat.pow_succ]
    unfold val8
    omega
theorem val8_step (t : Nat → BitVec 8) (j : Nat) (hj : j < 8) : bits .or .u64 (IntKind.u64.wrap ((val8 t j : Int) * 256)) (IntKind.u64.wrap (ub (t (8 + j)))) = (val8 t (j + 1) : Int) := by
  have h1 := val8_lt t j
  have h2 := (t (8 + j)).isLt
  have h3 : 256 ^ j ≤ 256 ^ 7 := Nat.pow_le_pow_right (by omega) (by omega)
  have h4 : (256 : Nat) ^ 7 = 72057594037927936 := by decide
  have e1 : IntKind.u64.wrap ((val8 t j : Int) * 256) = ((val8 t j * 256 : Nat) : Int) := by rw [IntKind.wrap_u64]; omega
  have e2 : IntKind.u64.wrap (ub (t (8 + j))) = (((t (8 + j)).toNat : Nat) : Int) := by unfold ub; rw [IntKind.wrap_u64]; omega
  rw [e1, e2, bits_or_u64_nat _ _ (by omega) (by omega)]
  have h := Nat.shiftLeft_add_eq_or_of_lt (i := 8) (show (t (8 + j)).toNat < 2 ^ 8 from h2) (val8 t j)
  rw [Nat.shiftLeft_eq] at h
  have h5 : val8 t j * 256 ||| (t (8 + j)).toNat = val8 t j * 256 + (t (8 + j)).toNat := h.symm
  rw [h5]
  rfl
theorem val8_div (n : Nat) (h : n < lim64) (j : Nat) (hj : j ≤ 8) : val8 (numT n) j = n / 2 ^ (8 * (8 - j)) := by
  induction j with
  | zero =>
    have : n / 2 ^ (8 * (8 - 0)) = 0 := Nat.div_eq_of_lt (by unfold lim64 at h; exact h)
    rw [this]; rfl
  | succ j ih =>
    have hb : (numT n (8 + j)).toNat = n / 2 ^ (8 * (7 - j)) % 256 := by
      unfold numT oct
      rw [if_neg (by omega), if_pos (by omega), show 8 + j - 8 = j by omega, BitVec.toNat_ofNat]
    have e1 : n / 2 ^ (8 * (8 - j)) = n / 2 ^ (8 * (7 - j)) / 256 := by
      rw [Nat.div_div_eq_div_mul, show (256 : Nat) = 2 ^ 8 from rfl, ← Nat.pow_add]
      congr 2
      omega
    show val8 (numT n) j * 256 + (numT n (8 + j)).toNat = _
    rw [ih (by omega), hb, e1, show 8 - (j + 1) = 7 - j by omega]
    generalize n / 2 ^ (8 * (7 - j)) = m
    omega
theorem val8_num (n : Nat) (h : n < lim64) : val8 (numT n) 8 = n := by
  rw [val8_div n h 8 (by omega)]
  simp
set_option maxHeartbeats 1000000 in
set_option maxRecDepth 100000 in
theorem numberIn_any (t : Nat → BitVec 8) (w : World) :
    Calls Tryz.prog 49 #[tagV t] w fun e w' => e = .returned (.int .u64 (val8 t 8 : Int)) ∧ Below w.heap.size w w' := by
  obtain ⟨C1, hC1⟩ : ∃ C, C = (tagC t).toArray := ⟨_, rfl⟩
  unfold tagV
  rw [← hC1]
  have HC1 := Lib.hid hC1
  clear hC1
  go_enter Tryz.func49, Tryz.ntmps49
  go_upto_region 1 with (fail)
  refine forget_code (fun W => Below w.heap.size w W ∧ BT W w.heap.size 32 t)
    ⟨(Below.refl _ _).alloc (Nat.le_refl _) _, BT.of_cells (laid_at rfl) fun i hi => by rw [HC1.out]; exact tagC_get t i hi⟩ ?_
  rintro W ⟨hbel, hbt⟩
  have HB := Lib.hid hbel
  have HT := Lib.hid hbt
  clear hbel hbt
  go_wp2
  go_loop [3, 8] (fun nv iv => ∃ j : Nat, j ≤ 8 ∧ iv = .int .i64 j ∧ nv = .int .u64 (val8 t j : Int)) (fun _ iv => 8 - (intOf iv).toNat)
  case atStart => exact ⟨0, Nat.zero_le _, rfl, rfl⟩
  case round =>
    obtain ⟨j, hj, rfl, rfl⟩ := hrel
    by_cases hlt : j < 8
    · have c1 := HT.out.byte (8 + j) (by omega)
      have HV := Lib.hid (val8_step t j hlt)
      go_wp2
      go_round
      case rel => exact ⟨j + 1, by omega, by go_num, congrArg (Value.int .u64) HV.out⟩
      case measure => simp [intOf]; omega
    · obtain rfl : j = 8 := by omega
      go_wp2
      go_ret
      exact ⟨rfl, HB.out⟩
/-- a thing that is asked -/
def thV (kind : Int) (k t : ByteArray) (n : Int) : Value := .agg #[.int .i64 kind, .string k, .string t, .int .i64 n]
def thL (kind : Int) (k t : ByteArray) (n : Int) : Lit := .string (keyBytes [.int .i64 kind, .string k.data.toList, .string t.data.toList, .int .i64 n])
theorem laidOutT : laidOutB Tryz.prog = true := by kernel_rfl
theorem rowT : (68 : TypeId) < Tryz.prog.types.size := of_decide_eq_true (by kernel_rfl)
theorem keyTypeT : Tryz.prog.keyTypeAt 2 68 = true := by kernel_rfl
theorem keyTypeT' : Tryz.prog.keyType 68 = true := by kernel_rfl
theorem thing_law : Maps.Keyed Tryz.prog 68 := Maps.Keyed.of_law (deep_law_laid laidOutT (m := 2) (by simp) rowT keyTypeT (by rw [Tryz.underlying68]))
theorem sizeT : ∃ m, Tryz.prog.types.size = m + 1 + 1 := by
  have h : (1 : Nat) < Tryz.prog.types.size := of_decide_eq_true (by kernel_rfl)
  exact ⟨Tryz.prog.types.size - 2, by omega⟩
theorem cellsK : Tryz.prog.cellsOf 66 = 1 := by kernel_rfl
theorem cellsS : Tryz.prog.cellsOf 9 = 1 := by kernel_rfl
theorem cellsI : Tryz.prog.cellsOf 3 = 1 := by kernel_rfl
theorem cellsT : Tryz.prog.cellsOf 68 = 4 := by kernel_rfl
theorem thing_key (kind n : Int) (k t : ByteArray) (h1 : (Lit.int .i64 kind).wf = true) (h2 : (Lit.int .i64 n).wf = true) (hk : k.size ≤ maxLen) (ht : t.size ≤ maxLen) : keyOf Tryz.prog 68 (thV kind k t n) = some (thL kind k t n) := by
  unfold keyOf thV thL
  simp only [Tryz.underlying68]
  rw [if_pos (by simp [keyTypeT', Value.formed, Tryz.underlying68, cellsT])]
  obtain ⟨m, hm⟩ := sizeT
  rw [hm]
  unfold Program.keyLits
  simp only [Tryz.underlying68, Value.cells]
  rw [if_pos (by rw [cellsT]; exact ⟨rfl, by decide +kernel⟩)]
  simp [List.mapM_cons, Program.keyLits, cellsK, cellsS, cellsI, Tryz.underlying66, Tryz.underlying9, Tryz.underlying3, h1, h2, hk, ht]
/-- a thing: its kind, key, bytes, number -/
abbrev Thing := Int × List UInt8 × List UInt8 × Int
def Thing.val (x : Thing) : Value := thV x.1 ⟨x.2.1.toArray⟩ ⟨x.2.2.1.toArray⟩ x.2.2.2
def Thing.lit (x : Thing) : Lit := thL x.1 ⟨x.2.1.toArray⟩ ⟨x.2.2.1.toArray⟩ x.2.2.2
structure Thing.ok (x : Thing) : Prop where
  kind : (Lit.int .i64 x.1).wf = true
  num : (Lit.int .i64 x.2.2.2).wf = true
  key : x.2.1.length ≤ maxLen
  text : x.2.2.1.length ≤ maxLen
theorem size_arr (l : List UInt8) : (⟨l.toArray⟩ : ByteArray).size = l.length := by simp [ByteArray.size]
theorem Thing.ok.key_ {x : Thing} (h : x.ok) : keyOf Tryz.prog 68 x.val = some x.lit :=
  thing_key _ _ _ _ h.kind h.num (by rw [size_arr]; exact h.key) (by rw [size_arr]; exact h.text)
theorem Thing.lit_inj {x y : Thing} (hx : x.ok) (hy : y.ok) (h : x.lit = y.lit) : x = y := by
  have e := thing_law.inj hx.key_ (h ▸ hy.key_)
  unfold Thing.val thV at e
  simp only [Value.agg.injEq, Array.mk.injEq, List.cons.injEq, Value.int.injEq, Value.string.injEq, ByteArray.mk.injEq, List.toArray_inj, and_true, true_and] at e
  obtain ⟨h1, h2, h3, h4⟩ := e
  exact Prod.ext h1 (Prod.ext (by simpa using h2) (Prod.ext (by simpa using h3) h4))
/-- the place of a thing -/
def idx : List Thing → Thing → Nat
  | [], _ => 0
  | y :: L, x => if y = x then 0 else idx L x + 1
theorem idx_in {L : List Thing} {x : Thing} (h : x ∈ L) : L[idx L x]? = some x := by
  induction L with
  | nil => cases h
  | cons y L ih =>
    unfold idx
    by_cases e : y = x
    · rw [if_pos e]; simp [e]
    · rw [if_neg e]
      rcases List.mem_cons.1 h with h | h
      · exact absurd h.symm e
      · simpa using ih h
theorem idx_append_in {L : List Thing} {x y : Thing} (h : x ∈ L) : idx (L ++ [y]) x = idx L x := by
  induction L with
  | nil => cases h
  | cons z L ih =>
    show (if z = x then 0 else idx (L ++ [y]) x + 1) = (if z = x then 0 else idx L x + 1)
    by_cases e : z = x
    · rw [if_pos e, if_pos e]
    · rw [if_neg e, if_neg e]
      rcases List.mem_cons.1 h with h | h
      · exact absurd h.symm e
      · rw [ih h]
theorem idx_new {L : List Thing} {x : Thing} (h : x ∉ L) : idx (L ++ [x]) x = L.length := by
  induction L with
  | nil => simp [idx]
  | cons z L ih =>
    show (if z = x then 0 else idx (L ++ [x]) x + 1) = L.length + 1
    have e : z ≠ x := fun e => h (e ▸ List.mem_cons_self)
    rw [if_neg e, ih fun h2 => h (List.mem_cons_of_mem _ h2)]
theorem idx_lt {L : List Thing} {x : Thing} (h : x ∈ L) : idx L x < L.length := (List.getElem?_eq_some_iff.1 (idx_in h)).1
/-- the things that were asked, in their order -/
def addT (L : List Thing) (x : Thing) : List Thing := if x ∈ L then L else L ++ [x]
theorem addT_in {L : List Thing} {x : Thing} (h : x ∈ L) : addT L x = L := by unfold addT; rw [if_pos h]
theorem addT_new {L : List Thing} {x : Thing} (h : x ∉ L) : addT L x = L ++ [x] := by unfold addT; rw [if_neg h]
theorem addT_mem (L : List Thing) (x : Thing) : x ∈ addT L x := by
  unfold addT
  by_cases h : x ∈ L
  · rw [if_pos h]; exact h
  · rw [if_neg h]; simp
abbrev zI : DataW Unit := .lit (.int .i64 0)
/-- block B is a table of the things L, each with its place -/
def BK (W : World) (B : Nat) (L : List Thing) : Prop :=
  ∃ D : DataW Unit, W.ownsMap Tryz.prog 68 (plainElem Tryz.prog 3) B L.length D ∧ (∀ (i : Nat) (x : Thing), L[i]? = some x → D.atKey x.lit zI = .lit (.int .i64 (i : Int))) ∧ (∀ x : Thing, x.ok → Maps.has D x.lit = decide (x ∈ L)) ∧ L.Nodup ∧ (∀ x : Thing, x ∈ L → x.ok) ∧ Maps.size D = L.length
theorem BK.kept {W W' : World} {B : Nat} {L : List Thing} {row : Option Nat} (h : BK W B L) (g : W.grownBy W' row) (hne : some B ≠ row) : BK W' B L := by
  obtain ⟨D, h1, h2⟩ := h
  exact ⟨D, h1.kept g hne, h2⟩
theorem BK.below {W W' : World} {B : Nat} {L : List Thing} (h : BK W B L) (g : Below W.heap.size W W') : BK W' B L := h.kept (below_gr g none) (by simp)
theorem BK.lt {W : World} {B : Nat} {L : List Thing} (h : BK W B L) : B < W.heap.size := by
  obtain ⟨D, h1, _⟩ := h
  exact h1.lt
theorem BK.made (W : World) : BK (W.alloc (.map #[] 0)) W.heap.size [] :=
  ⟨.map [], World.ownsMap_made _ _ _ _, fun i l h => by simp at h, fun l _ => by simp [Maps.has], List.nodup_nil, fun l h => by simp at h, rfl⟩
theorem BK.more {W W' : World} {B : Nat} {L : List Thing} {x : Thing} {D : DataW Unit} (hl : x ∉ L) (hk : x.ok)
    (h0 : W.ownsMap Tryz.prog 68 (plainElem Tryz.prog 3) B L.length D) (h1 : ∀ (i : Nat) (x : Thing), L[i]? = some x → D.atKey x.lit zI = .lit (.int .i64 (i : Int))) (h2 : ∀ x : Thing, x.ok → Maps.has D x.lit = decide (x ∈ L)) (h3 : L.Nodup) (h4 : ∀ x : Thing, x ∈ L → x.ok) (h5 : Maps.size D = L.length)
    (h : W'.ownsMap Tryz.prog 68 (plainElem Tryz.prog 3) B (L.length + 1) (D.put x.lit (.lit (.int .i64 (L.length : Int))))) : BK W' B (L ++ [x]) := by
  have hm := h0.isMap
  have hkk := thing_law.key hk.key_
  refine ⟨_, by simpa using h, fun i y hy => ?_, fun y hy => ?_, ?_, fun y hy => ?_, ?_⟩
  · by_cases hi : i < L.length
    · rw [List.getElem?_append_left hi] at hy
      have hym := List.mem_of_getElem? hy
      have hxl : y.lit ≠ x.lit := fun e => hl (Thing.lit_inj (h4 y hym) hk e ▸ hym)
      rw [Maps.atKey_put_other hxl]
      exact h1 i y hy
    · have hi2 : i = L.length := by
        have := (List.getElem?_eq_some_iff.1 hy).1
        simp at this
        omega
      subst hi2
      simp at hy
      subst hy
      exact Maps.atKey_put_same hm hkk _ _
  · by_cases e : y = x
    · subst e
      rw [Maps.has_put_same hm hkk]; simp
    · rw [Maps.has_put_other (fun e2 => e (Thing.lit_inj hy hk e2)), h2 y hy]; simp [e]
  · rw [List.nodup_append]
    exact ⟨h3, by simp, fun a ha b hb e => by simp at hb; subst hb; subst e; exact hl ha⟩
  · rcases List.mem_append.1 hy with h | h
    · exact h4 y h
    · simp at h; subst h; exact hk
  · rw [Maps.size_put (h0.tidy thing_law), h2 x hk, h5]; simp [hl]
theorem zeroIntT (w : World) : (zeroValue 3).run Tryz.prog w = .ok (.int .i64 0) w := by kernel_rfl
theorem wfLen (L : List Thing) (h : L.length ≤ 1000000000000) : (Lit.int .i64 (L.length : Int)).wf = true := WalkArith.wf_i64 ⟨by omega, by omega⟩
/-- a block that is new may have turned besides -/
theorem gr_new {w W W' : World} {B h : Nat} (g : w.grownBy W (some B)) (g' : W.grownBy W' (some h)) (hh : w.heap.size ≤ h) : w.grownBy W' (some B) :=
  ⟨g'.os.trans g.os, g'.tape.trans g.tape, g'.output.trans g.output, Nat.le_trans g.size g'.size, fun k hk hne => (g'.block k (Nat.lt_of_lt_of_le hk g.size) (by simp; omega)).trans (g.block k hk hne)⟩
/-- what lies there while a table is asked -/
structure TL (w : World) (B : Nat) (L : List Thing) (kd : Int) (K T : ByteArray) (nm : Int) (W : World) : Prop where
  gr : w.grownBy W (some B)
  bk : BK W B L
  b0 : W.heap[w.heap.size]? = some (.cells #[.map (some B)] 53 (0, 0))
  b1 : W.heap[w.heap.size + 1]? = some (.cells #[.int .i64 kd, .string K, .string T, .int .i64 nm] 68 (0, 0))
  b2 : BT W (w.heap.size + 2) 32 (fun _ => 0#8)
set_option maxHeartbeats 1000000 in
set_option maxRecDepth 100000 in
theorem tell_any (w : World) (B : Nat) (L : List Thing) (x : Thing) (K T : ByteArray) (hK : K = ⟨x.2.1.toArray⟩) (hT : T = ⟨x.2.2.1.toArray⟩) (hx : x.ok) (hb : BK w B L) (hL : L.length ≤ 1000000000000) :
    Calls Tryz.prog 39 #[.agg #[.map (some B)], .agg #[.int .i64 x.1, .string K, .string T, .int .i64 x.2.2.2]] w fun e w' => e = .returned (tagV (numT (idx (addT L x) x))) ∧ w.grownBy w' (some B) ∧ BK w' B (addT L x) := by
  have HX := Lib.hid hx
  have hkey : keyOf Tryz.prog 68 (.agg #[.int .i64 x.1, .string K, .string T, .int .i64 x.2.2.2]) = some x.lit := by rw [hK, hT]; exact hx.key_
  have HKEY := Lib.hid hkey
  have HB := Lib.hid hb
  have hBw := hb.lt
  generalize x.1 = kd at hkey HKEY ⊢
  generalize x.2.2.2 = nm at hkey HKEY ⊢
  clear hK hT hx hkey hb
  go_enter Tryz.func39, Tryz.ntmps39
  go_upto_region 1 with (fail)
  refine forget_code (TL w B L kd K T nm) ⟨((World.grownBy_alloc _ _ _).trans (World.grownBy_alloc _ _ _)).trans (World.grownBy_alloc _ _ _), HB.out.below ((((Below.refl _ _).alloc (Nat.le_refl _) _).alloc (by simp) _).alloc (by simp; omega) _), laid_old (laid_old (laid_at rfl)), laid_old (laid_at (by simp)), BT.of_cells (laid_at (by simp)) (fun i hi => zero_atL 32 i hi)⟩ ?_
  intro W hW
  have HW := Lib.hid hW
  have hc0 : W.cell? ⟨w.heap.size, 0, none⟩ = some (.map (some B)) := by rw [cell_of_row W _ 0 _ _ (0, 0) hW.b0]; rfl
  have hd0 : W.cell? ⟨w.heap.size + 1, 0, none⟩ = some (.int .i64 kd) := by rw [cell_of_row W _ 0 _ _ (0, 0) hW.b1]; rfl
  have hd1 : W.cell? ⟨w.heap.size + 1, 1, none⟩ = some (.string K) := by rw [cell_of_row W _ 1 _ _ (0, 0) hW.b1]; rfl
  have hd2 : W.cell? ⟨w.heap.size + 1, 2, none⟩ = some (.string T) := by rw [cell_of_row W _ 2 _ _ (0, 0) hW.b1]; rfl
  have hd3 : W.cell? ⟨w.heap.size + 1, 3, none⟩ = some (.int .i64 nm) := by rw [cell_of_row W _ 3 _ _ (0, 0) hW.b1]; rfl
  obtain ⟨D, hown, hat, hhas, hnd, hok, hsz⟩ := hW.bk
  have HO := Lib.hid hown
  have hhx := hhas x HX.out
  by_cases hin : x ∈ L
  · have HIN := Lib.hid hin
    have hh : Maps.has D x.lit = true := by rw [hhx]; simp [hin]
    have hatx := hat _ _ (idx_in hin)
    have HATX := Lib.hid hatx
    clear hat hhas hok hsz hhx hin hatx hown hnd hW
    go_upto_region 5 with (at_lookup; refine wpList_lookup_own_ok_int W rfl _ _ 51 rfl 68 3 .i64 thing_law Tryz.underlying51 Tryz.underlying3 (zeroIntT _) B L.length D rfl HO.out _ x.lit rfl HKEY.out ?_; intro c hcat hwc)
    have hci : c = ((idx L x : Nat) : Int) := by
      have := hcat.symm.trans HATX.out
      simpa using this
    have hidx := idx_lt HIN.out
    have hwr : IntKind.u64.wrap c = ((idx L x : Nat) : Int) := by rw [hci, IntKind.wrap_u64]; omega
    have T5 := Lib.hid HW.out.b2
    have G5 := Lib.hid HW.out.gr
    have K5 := Lib.hid HW.out.bk
    clear hcat hwc hci hh hd0 hd1 hd2 hd3 hc0 HW
    refine wp_region_lit ?_
    refine wpList_plain rfl (fun K hK => ?_)
    go_simp
    refine hK _ _ ?_
    clear hK K
    refine wpList_plain rfl (fun K hK => ?_)
    go_simp
    refine hK _ _ ?_
    clear hK K
    refine wpList_plain rfl (fun K hK => ?_)
    go_simp
    refine (numbered_any (idx L x) W).mono ?_
    rintro e W5 ⟨rfl, hb5⟩
    dsimp only
    refine hK _ _ ?_
    clear hK K
    have t5 := T5.out.below' hb5
    have g5 := G5.out.trans (below_gr hb5 (some B))
    have k5 := K5.out.below hb5
    refine wpList_store_mid rfl 25 _ _ rfl (w.heap.size + 1 + 1) 0 (tagC (numT (idx L x))).toArray rfl rfl (by simpa [tagC_len] using t5.there 32 (Nat.le_refl _)) (by simp [infoTag, tagC_len]) (tagC_one _) ?_
    rw [List.toList_toArray]
    have HR5 := Lib.hid (World.rangeAt_setCells_same W5 (w.heap.size + 2) 0 (tagC (numT (idx L x))) (by rw [tagC_len]; exact t5.there 32 (Nat.le_refl _)))
    have gs := gr_setCells (hb := w.heap.size + 2) (tagC (numT (idx L x))) 0 W5
    have HG5 := Lib.hid (gr_new g5 gs (by omega))
    have HK5 := Lib.hid (k5.kept gs (by simp; omega))
    generalize W5.setCells (w.heap.size + 2) 0 (tagC (numT (idx L x))) = W7 at HR5 HG5 HK5 ⊢
    clear t5 g5 k5 hb5 T5 G5 K5 gs
    show Exit.then _ _ Exit.normal _ W7
    go_wp2
    refine bodyPost_ret (v := tagV (numT (idx L x))) ?_ rfl ?_
    · exact results_cell_mid (p := 4) (ty := 25) rfl _ W7 (w.heap.size + 2) _ _ rfl HR5.out Tryz.underlying25 rfl (by simp [infoTag, tagC_len])
    · rw [addT_in HIN.out]
      exact ⟨rfl, HG5.out, HK5.out⟩
  · have hh : Maps.has D x.lit = false := by rw [hhx]; simp [hin]
    have HIN := Lib.hid hin
    have HAT := Lib.hid hat
    have HHAS := Lib.hid hhas
    have HOK := Lib.hid hok
    have HND := Lib.hid hnd
    have HSZ := Lib.hid hsz
    have hlen : ∀ ty, (Builtin.len_ #[51] ty #[.map (some B)]).run Tryz.prog W = .ok (.int .i64 (L.length : Int)) W := fun ty => by
      rw [← hsz]; exact hown.len Tryz.underlying51 ty
    obtain ⟨w1, hrun, hown1, hgrow1⟩ := HO.out.update thing_law Tryz.underlying51 (by unfold maxLen; omega) HKEY.out (plainElem_int Tryz.underlying3 (wfLen L hL))
    have hbk1 := BK.more HIN.out HX.out HO.out HAT.out HHAS.out HND.out HOK.out HSZ.out hown1
    have T5 := Lib.hid (HW.out.b2.gr hgrow1 (by omega))
    have G5 := Lib.hid (HW.out.gr.trans hgrow1)
    have K5 := Lib.hid hbk1
    have hwr : IntKind.u64.wrap ((L.length : Nat) : Int) = ((L.length : Nat) : Int) := by rw [IntKind.wrap_u64]; omega
    clear hat hhas hok hhx hin hown hnd hW hsz hown1 hgrow1 hbk1
    go_upto_region 5 with (at_lookup; refine wpList_lookup_own_ok_int W rfl _ _ 51 rfl 68 3 .i64 thing_law Tryz.underlying51 Tryz.underlying3 (zeroIntT _) B L.length D rfl HO.out _ x.lit rfl HKEY.out ?_; intro c hcat hwc)
    clear hrun hlen hh hd0 hd1 hd2 hd3 hc0 HW hcat hwc
    refine wp_region_lit ?_
    refine wpList_plain rfl (fun K hK => ?_)
    go_simp
    refine hK _ _ ?_
    clear hK K
    refine wpList_plain rfl (fun K hK => ?_)
    go_simp
    refine hK _ _ ?_
    clear hK K
    refine wpList_plain rfl (fun K hK => ?_)
    go_simp
    refine (numbered_any L.length w1).mono ?_
    rintro e W5 ⟨rfl, hb5⟩
    dsimp only
    refine hK _ _ ?_
    clear hK K
    have t5 := T5.out.below' hb5
    have g5 := G5.out.trans (below_gr hb5 (some B))
    have k5 := K5.out.below hb5
    refine wpList_store_mid rfl 25 _ _ rfl (w.heap.size + 1 + 1) 0 (tagC (numT L.length)).toArray rfl rfl (by simpa [tagC_len] using t5.there 32 (Nat.le_refl _)) (by simp [infoTag, tagC_len]) (tagC_one _) ?_
    rw [List.toList_toArray]
    have HR5 := Lib.hid (World.rangeAt_setCells_same W5 (w.heap.size + 2) 0 (tagC (numT L.length)) (by rw [tagC_len]; exact t5.there 32 (Nat.le_refl _)))
    have gs := gr_setCells (hb := w.heap.size + 2) (tagC (numT L.length)) 0 W5
    have HG5 := Lib.hid (gr_new g5 gs (by omega))
    have HK5 := Lib.hid (k5.kept gs (by simp; omega))
    generalize W5.setCells (w.heap.size + 2) 0 (tagC (numT L.length)) = W7 at HR5 HG5 HK5 ⊢
    clear t5 g5 k5 hb5 T5 G5 K5 gs
    show Exit.then _ _ Exit.normal _ W7
    go_wp2
    refine bodyPost_ret (v := tagV (numT L.length)) ?_ rfl ?_
    · exact results_cell_mid (p := 4) (ty := 25) rfl _ W7 (w.heap.size + 2) _ _ rfl HR5.out Tryz.underlying25 rfl (by simp [infoTag, tagC_len])
    · rw [addT_new HIN.out, idx_new HIN.out]
      exact ⟨rfl, HG5.out, HK5.out⟩
end Go.Proofs.YtejknkgbkkdaiaaGreatDoor

namespace Go.Proofs.YtejknkgbkkdaiaaGreatDoor
open Go.RowKit
set_option linter.unusedVariables false
set_option linter.unusedSimpArgs false

def join_ren : Go.Shelf.Ren := ⟨fun | 14 => 81 | 15 => 95 | n => n, fun | 26 => 36 | 22 => 22 | 3 => 3 | 4 => 4 | 0 => 0 | 9 => 9 | 20 => 20 | 5 => 5 | n => n, fun | n => n⟩
theorem join_lays : Go.Proofs.SlLaysJ.n14 Tryz.prog join_ren := {
  mixed := by kernel_rfl
  f14 := Tryz.func81.trans (congrArg some (by kernel_rfl))
  f15 := Tryz.func95.trans (congrArg some (by kernel_rfl))
  t0 := Tryz.underlying0
  a0 := Tryz.isAgg0
  z0 := Tryz.sizeOf0
  v0 := Tryz.zeroValue0
  t3 := Tryz.underlying3
  a3 := Tryz.isAgg3
  z3 := Tryz.sizeOf3
  v3 := Tryz.zeroValue3
  t4 := Tryz.underlying4
  a4 := Tryz.isAgg4
  z4 := Tryz.sizeOf4
  v4 := Tryz.zeroValue4
  t9 := Tryz.underlying9
  a9 := Tryz.isAgg9
  z9 := Tryz.sizeOf9
  v9 := Tryz.zeroValue9
  t20 := Tryz.underlying20
  a20 := Tryz.isAgg20
  z20 := Tryz.sizeOf20
  v20 := Tryz.zeroValue20
  t22 := Tryz.underlying22
  a22 := Tryz.isAgg22
  z22 := Tryz.sizeOf22
  v22 := Tryz.zeroValue22
  t26 := Tryz.underlying36
  a26 := Tryz.isAgg36
  z26 := Tryz.sizeOf36
  v26 := Tryz.zeroValue36
  t5 := Tryz.underlying5
  z5 := Tryz.sizeOf5
  i5 := by kernel_rfl }
/-- bytes as a list -/
def byL (g : Nat → BitVec 8) (n : Nat) : List UInt8 := (List.range n).map fun i => UInt8.ofBitVec (g i)
theorem byL_len (g : Nat → BitVec 8) (n : Nat) : (byL g n).length = n := by simp [byL]
theorem byL_get (g : Nat → BitVec 8) (n i : Nat) (hi : i < n) : (byL g n)[i]? = some (UInt8.ofBitVec (g i)) := by simp [byL, hi]
theorem by_val (x : BitVec 8) : ((UInt8.ofBitVec x).toNat : Int) = ub x := rfl
theorem byL_congr {f g : Nat → BitVec 8} {n : Nat} (h : ∀ i, i < n → f i = g i) : byL f n = byL g n := List.map_congr_left fun i hi => by rw [h i (List.mem_range.1 hi)]
theorem byL_add (g : Nat → BitVec 8) (n m : Nat) : byL g n ++ byL (fun i => g (n + i)) m = byL g (n + m) := by
  unfold byL
  rw [List.range_add, List.map_append, List.map_map]
  rfl
theorem flat_sp : ∀ xs : List (List UInt8), (List.intersperse [] xs).flatten = xs.flatten
  | [] => rfl
  | [a] => by simp
  | a :: b :: r => by
    rw [List.intersperse_cons_cons, List.flatten_cons, List.flatten_cons, List.nil_append, flat_sp (b :: r)]
    rfl
theorem byL_flat (P : Nat → Option Addr) (ln : Nat → Nat) (f : Nat → Nat → BitVec 8) (g : Nat → BitVec 8) (m : Nat) (hg : ∀ i, i < m → ∀ j, j < ln i → f i j = g (pos ln i + j)) : Lib.join ((List.range m).map fun i => byL (f i) (ln i)) [] = byL g (pos ln m) := by
  have e : Lib.join ((List.range m).map fun i => byL (f i) (ln i)) [] = ((List.range m).map fun i => byL (f i) (ln i)).flatten := by
    exact flat_sp _
  rw [e]
  clear e
  induction m with
  | zero => simp [byL, pos]
  | succ m ih =>
    rw [List.range_succ, List.map_append, List.flatten_append, ih fun i hi => hg i (by omega)]
    show byL g (pos ln m) ++ _ = byL g (pos ln m + ln m)
    rw [← byL_add]
    simp only [List.map_cons, List.map_nil, List.flatten_cons, List.flatten_nil, List.append_nil]
    rw [byL_congr fun j hj => hg m (by omega) j hj]
theorem fresh_reads {B : Nat} {W : World} {v : Value} {g : Nat → BitVec 8} {n : Nat} (h : Lib.FreshBytes B W v (byL g n)) : ∃ q c, v = .slice (some q) n c ∧ ∀ j (hj : j < (byL g n).length), W.cell? (q.add j) = some (.int .u8 ((byL g n)[j].toNat : Int)) := by
  obtain ⟨x, c, zs, rfl, hB, hl, hm, hz, hr, hb, hc, _⟩ := h
  rw [byL_len] at hl hb
  refine ⟨_, c, by rw [byL_len], fun j hj => ?_⟩
  have hjn : j < n := by rwa [byL_len] at hj
  rw [Go.WideShapes.add_plain, Nat.zero_add, hc j (by omega)]
  have e : (Lib.bytesOf (zs.take n))[j]? = some (byL g n)[j] := by rw [hb]; exact List.getElem?_eq_getElem hj
  have hjz : j < zs.length := by omega
  unfold Lib.bytesOf at e
  rw [List.getElem?_map, List.getElem?_take, if_pos hjn, List.getElem?_eq_getElem hjz] at e
  have e2 := Option.some.inj e
  have hx := hr zs[j] (List.getElem_mem _)
  have e3 : (byL g n)[j].toNat = zs[j].toNat := by
    rw [← e2, UInt8.toNat_ofNat']
    exact Nat.mod_eq_of_lt (by omega)
  rw [e3]
  congr 2
  rw [List.getD_eq_getElem?_getD, List.getElem?_eq_getElem hjz]
  simp only [Option.getD_some]
  omega
theorem parts_at {w : World} {b o m : Nat} {P : Nat → Option Addr} {ln C : Nat → Nat} {f : Nat → Nat → BitVec 8} (hp : ∀ i, i < m → w.cell? ⟨b, o + i, none⟩ = some (.slice (P i) (ln i) (C i))) (hr : ∀ i, i < m → Reads w.heap.size w (P i) (ln i) (fun j => .int .u8 (ub (f i j)))) :
    Lib.PartsAt w ⟨b, o, none⟩ ((List.range m).map fun i => .slice (P i) (ln i) (C i)) ((List.range m).map fun i => byL (f i) (ln i)) := by
  refine ⟨by simp, fun i v hv => ?_, fun i v l hv hl => ?_⟩
  · have hi : i < m := by have := (List.getElem?_eq_some_iff.1 hv).1; simpa using this
    rw [Go.WideShapes.add_plain, hp i hi, ← hv]
    simp [hi]
  · have hi : i < m := by have := (List.getElem?_eq_some_iff.1 hv).1; simpa using this
    simp only [List.getElem?_map, List.getElem?_range hi, Option.map_some, Option.some.injEq] at hv hl
    subst hv hl
    refine ⟨P i, C i, by rw [byL_len], fun e => ?_, fun a e j x hj => ?_⟩
    · rcases hr i hi with h | ⟨b', o', h, _⟩
      · exact List.length_eq_zero_iff.1 (by rw [byL_len]; exact h)
      · rw [h] at e; cases e
    · have hjn : j < ln i := by have := (List.getElem?_eq_some_iff.1 hj).1; rwa [byL_len] at this
      rw [byL_get _ _ _ hjn] at hj
      cases hj
      rcases hr i hi with h | ⟨b', o', h, hb, hc⟩
      · omega
      · rw [h] at e
        cases e
        rw [Go.WideShapes.add_plain, hc j hjn]
        rfl
theorem lens_pos (f : Nat → Nat → BitVec 8) (ln : Nat → Nat) (m : Nat) : Lib.lens ((List.range m).map fun i => byL (f i) (ln i)) = pos ln m := by
  unfold Lib.lens
  rw [List.map_map]
  induction m with
  | zero => simp [pos]
  | succ m ih =>
    rw [List.range_succ, List.map_append, List.sum_append, ih]
    simp [byL_len, pos]
set_option maxHeartbeats 1000000 in
theorem joined_any (w : World) (p : Option Addr) (m c : Nat) (P : Nat → Option Addr) (ln C : Nat → Nat) (f : Nat → Nat → BitVec 8) (g : Nat → BitVec 8) (hr : RI w p m P ln C f) (hmc : m ≤ c) (hm : m ≤ 4294967295) (hn : pos ln m ≤ 4294967295) (hg : ∀ i, i < m → ∀ j, j < ln i → f i j = g (pos ln i + j)) :
    Calls Tryz.prog 56 #[.slice p m c] w fun e w' => e = .returned (.string ⟨(byL g (pos ln m)).toArray⟩) ∧ Below w.heap.size w w' := by
  have hj : Calls Tryz.prog 81 #[.slice p m c, .slice none 0 0] w fun e w' => ∃ v, e = .returned v ∧ Below w.heap.size w w' ∧ ((v = .slice none 0 0 ∧ pos ln m = 0) ∨ ∃ q cq, v = .slice (some q) (byL g (pos ln m)).length cq ∧ ∀ j (hj : j < (byL g (pos ln m)).length), w'.cell? (q.add j) = some (.int .u8 ((byL g (pos ln m))[j].toNat : Int))) := by
    by_cases h0 : m = 0
    · subst h0
      refine (Any.bytes_Join_none join_lays p c (.slice none 0 0) w).mono ?_
      rintro e w' ⟨rfl, rfl⟩
      exact ⟨_, rfl, (Below.refl _ _).alloc (Nat.le_refl _) _, .inr ⟨_, 0, rfl, fun j hj => by rw [byL_len] at hj; simp [pos] at hj⟩⟩
    · rcases hr.rows with h | ⟨b, o, rfl, hb, hp⟩
      · omega
      by_cases h1 : m = 1
      · subst h1
        have hc0 : w.cell? ⟨b, o, none⟩ = some (.slice (P 0) (ln 0) (C 0)) := hp 0 (by omega)
        by_cases hz : ln 0 = 0
        · rw [hz] at hc0
          refine (Any.bytes_Join_one_empty join_lays b o c (P 0) (C 0) (.slice none 0 0) w hc0).mono ?_
          rintro e w' ⟨rfl, rfl⟩
          exact ⟨_, rfl, Below.refl _ _, .inl ⟨rfl, by simp [pos, hz]⟩⟩
        · rcases hr.row 0 (by omega) with h | ⟨b0, o0, he, hb0, hc⟩
          · omega
          rw [he] at hc0
          have hl0 : (byL (f 0) (ln 0)).length = ln 0 := byL_len _ _
          refine (Any.bytes_Join_one join_lays b o c ⟨b0, o0, none⟩ (C 0) (byL (f 0) (ln 0)) (.slice none 0 0) w (by rw [hl0]; exact hc0) (fun i x hx => by
            have hi : i < ln 0 := by have := (List.getElem?_eq_some_iff.1 hx).1; rwa [byL_len] at this
            rw [byL_get _ _ _ hi] at hx
            cases hx
            rw [Go.WideShapes.add_plain, hc i hi]
            rfl) (by rw [hl0]; omega) (by rw [hl0]; have : pos ln 1 = 0 + ln 0 := rfl; omega)).mono ?_
          rintro e w' ⟨v, rfl, hf, hbel⟩
          have e1 : byL (f 0) (ln 0) = byL g (pos ln 1) := by
            rw [show pos ln 1 = ln 0 by show 0 + ln 0 = _; omega]
            exact byL_congr fun j hj => by rw [hg 0 (by omega) j hj]; simp [pos]
          rw [e1] at hf
          obtain ⟨q, cq, hv, hcc⟩ := fresh_reads hf
          exact ⟨v, rfl, hbel, .inr ⟨q, cq, by rw [byL_len]; exact hv, hcc⟩⟩
      · have hlens : Lib.lens ((List.range m).map fun i => byL (f i) (ln i)) = pos ln m := lens_pos f ln m
        refine (Any.bytes_Join_many join_lays b o m c _ _ (.slice none 0 0) [] w (by simp) (by omega) (parts_at hp hr.row) hmc ⟨none, 0, rfl, fun _ => rfl, fun a e => by cases e⟩ (by omega) (by rw [hlens]; simp; omega)).mono ?_
        rintro e w' ⟨v, rfl, hf, hbel⟩
        rw [byL_flat P ln f g m hg] at hf
        obtain ⟨q, cq, hv, hcc⟩ := fresh_reads hf
        exact ⟨v, rfl, hbel, .inr ⟨q, cq, by rw [byL_len]; exact hv, hcc⟩⟩
  have HJ := Lib.hid hj
  clear hj
  go_enter Tryz.func56, Tryz.ntmps56
  go_wp2_with fail
  refine HJ.out.mono ?_
  rintro e w1 ⟨v, rfl, hb, h⟩
  have HB := Lib.hid hb
  clear hb HJ
  rcases h with ⟨rfl, h0⟩ | ⟨q, cq, rfl, hc⟩
  · have cv := Lib.run_convert_nil_bytes (P := Tryz.prog) w1 22 9 5 0 Tryz.underlying22 Tryz.underlying5 Tryz.underlying9
    have he : (byL g (pos ln m)) = [] := List.length_eq_zero_iff.1 (by rw [byL_len]; exact h0)
    have HE := Lib.hid he
    clear h0 he
    go_wp2
    go_ret
    exact ⟨by first | (rw [HE.out]; rfl) | (rw [HE.out]), HB.out⟩
  · have cv := run_convert_bytes_back (P := Tryz.prog) w1 22 9 5 q cq (byL g (pos ln m)) Tryz.underlying22 Tryz.underlying5 Tryz.underlying9 hc
    obtain ⟨l, hl⟩ : ∃ l, l = byL g (pos ln m) := ⟨_, rfl⟩
    rw [← hl] at cv
    have HL := Lib.hid hl
    rw [← hl]
    clear hc hl
    go_wp2
    go_ret
    exact ⟨by first | rfl | (rw [← HL.out]; rfl) | (rw [HL.out]; rfl), HB.out⟩
end Go.Proofs.YtejknkgbkkdaiaaGreatDoor
