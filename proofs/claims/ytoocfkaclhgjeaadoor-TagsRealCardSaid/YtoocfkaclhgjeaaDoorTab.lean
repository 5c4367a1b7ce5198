/-
  Contracts: a table's book.
-/
import Derived.Test.YtoocfkaclhgjeaaDoorOct
import Derived.Laws.Bits64b
import Derived.Maps.OwnSet
import Derived.Maps.OwnOps
import Derived.DeepKeys4
namespace Go.Proofs.YtoocfkaclhgjeaaDoor
open Go.RowKit
set_option linter.unusedVariables false
set_option linter.unusedSimpArgs false

/-- the first j of the eight bytes from place 8 on, as a number -/
def val8 (t : Nat → BitVec 8) : Nat → Nat
  | 0 => 0
  | j + 1 => val8 t j * 256 + (t (8 + j)).toNat
theorem val8_lt (t : Nat → BitVec 8) (j : Nat) : val8 t j < 256 ^ j := by
  induction j with
  | zero => simp [val8]
  | succ j ih =>
    have h := (t (8 + j)).isLt
    rw [Nat.pow_succ]
    unfold val8
    omega
theorem val8_step (t : Nat → BitVec 8) (j : Nat) (hj : j < 8) : bits .or .u64 (IntKind.u64.wrap ((val8 t j : Int) * 256)) (IntKind.u64.wrap (ub (t (8 + j)))) = (val8 t (j + 1) : Int) := by
  have h1 := val8_lt t j
  have h2 := (t (8 + j)).isLt
  have h3 : 256 ^ j ≤ 256 ^ 7 := Nat.pow_le_pow_right (by omega) (by omega)
  have h4 : (256 : Nat) ^ 7 = 72057594037927936 := by decide
  have e1 : IntKind.u64.wrap ((val8 t j : Int) * 256) = ((val8 t j * 256 : Nat) : Int) := by rw [IntKind.wrap_u64]; omega
  have e2 : IntKind.u64.wrap (ub (t (8 + j))) = (((t (8 + j)).toNat : Nat) : Int) := by unfold ub; rw [IntKind.wrap_u64]; omega
  rw [e1, e2, bits_or_u64_nat _ _ (by omega) (by omega)]
  have h := Nat.shiftLeft_add_eq_or_of_lt (i := 8) (show (t (8 + j)).toNat < 2 ^ 8 from h2) (val8 t j)
  rw [Nat.shiftLeft_eq] at h
  have h5 : val8 t j * 256 ||| (t (8 + j)).toNat = val8 t j * 256 + (t (8 + j)).toNat := h.symm
  rw [h5]
  rfl
theorem val8_div (n : Nat) (h : n < lim64) (j : Nat) (hj : j ≤ 8) : val8 (numT n) j = n / 2 ^ (8 * (8 - j)) := by
  induction j with
  | zero =>
    have : n / 2 ^ (8 * (8 - 0)) = 0 := Nat.div_eq_of_lt (by unfold lim64 at h; exact h)
    rw [this]; rfl
  | succ j ih =>
    have hb : (numT n (8 + j)).toNat = n / 2 ^ (8 * (7 - j)) % 256 := by
      unfold numT oct
      rw [if_neg (by omega), if_pos (by omega), show 8 + j - 8 = j by omega, BitVec.toNat_ofNat]
    have e1 : n / 2 ^ (8 * (8 - j)) = n / 2 ^ (8 * (7 - j)) / 256 := by
      rw [Nat.div_div_eq_div_mul, show (256 : Nat) = 2 ^ 8 from rfl, ← Nat.pow_add]
      congr 2
      omega
    show val8 (numT n) j * 256 + (numT n (8 + j)).toNat = _
    rw [ih (by omega), hb, e1, show 8 - (j + 1) = 7 - j by omega]
    generalize n / 2 ^ (8 * (7 - j)) = m
    omega
theorem val8_num (n : Nat) (h : n < lim64) : val8 (numT n) 8 = n := by
  rw [val8_div n h 8 (by omega)]
  simp
set_option maxHeartbeats 1000000 in
set_option maxRecDepth 100000 in
theorem numberIn_any (t : Nat → BitVec 8) (w : World) :
    Calls Tryd.prog 37 #[tagV t] w fun e w' => e = .returned (.int .u64 (val8 t 8 : Int)) ∧ Below w.heap.size w w' := by
  obtain ⟨C1, hC1⟩ : ∃ C, C = (tagC t).toArray := ⟨_, rfl⟩
  unfold tagV
  rw [← hC1]
  have HC1 := Lib.hid hC1
  clear hC1
  go_enter Tryd.func37, Tryd.ntmps37
  go_upto_region 1 with (fail)
  refine forget_code (fun W => Below w.heap.size w W ∧ BT W w.heap.size 32 t)
    ⟨(Below.refl _ _).alloc (Nat.le_refl _) _, BT.of_cells (laid_at rfl) fun i hi => by rw [HC1.out]; exact tagC_get t i hi⟩ ?_
  rintro W ⟨hbel, hbt⟩
  have HB := Lib.hid hbel
  have HT := Lib.hid hbt
  clear hbel hbt
  go_wp2
  go_loop [3, 8] (fun nv iv => ∃ j : Nat, j ≤ 8 ∧ iv = .int .i64 j ∧ nv = .int .u64 (val8 t j : Int)) (fun _ iv => 8 - (intOf iv).toNat)
  case atStart => exact ⟨0, Nat.zero_le _, rfl, rfl⟩
  case round =>
    obtain ⟨j, hj, rfl, rfl⟩ := hrel
    by_cases hlt : j < 8
    · have c1 := HT.out.byte (8 + j) (by omega)
      have HV := Lib.hid (val8_step t j hlt)
      go_wp2
      go_round
      case rel => exact ⟨j + 1, by omega, by go_num, congrArg (Value.int .u64) HV.out⟩
      case measure => simp [intOf]; omega
    · obtain rfl : j = 8 := by omega
      go_wp2
      go_ret
      exact ⟨rfl, HB.out⟩
/-- a thing that is asked -/
def thV (kind : Int) (k t : ByteArray) (n : Int) : Value := .agg #[.int .i64 kind, .string k, .string t, .int .i64 n]
def thL (kind : Int) (k t : ByteArray) (n : Int) : Lit := .string (keyBytes [.int .i64 kind, .string k.data.toList, .string t.data.toList, .int .i64 n])
theorem laidOutT : laidOutB Tryd.prog = true := by kernel_rfl
theorem rowT : (57 : TypeId) < Tryd.prog.types.size := of_decide_eq_true (by kernel_rfl)
theorem keyTypeT : Tryd.prog.keyTypeAt 2 57 = true := by kernel_rfl
theorem keyTypeT' : Tryd.prog.keyType 57 = true := by kernel_rfl
theorem thing_law : Maps.Keyed Tryd.prog 57 := Maps.Keyed.of_law (deep_law_laid laidOutT (m := 2) (by simp) rowT keyTypeT (by rw [Tryd.underlying57]))
theorem sizeT : ∃ m, Tryd.prog.types.size = m + 1 + 1 := by
  have h : (1 : Nat) < Tryd.prog.types.size := of_decide_eq_true (by kernel_rfl)
  exact ⟨Tryd.prog.types.size - 2, by omega⟩
theorem cellsK : Tryd.prog.cellsOf 55 = 1 := by kernel_rfl
theorem cellsS : Tryd.prog.cellsOf 9 = 1 := by kernel_rfl
theorem cellsI : Tryd.prog.cellsOf 3 = 1 := by kernel_rfl
theorem cellsT : Tryd.prog.cellsOf 57 = 4 := by kernel_rfl
theorem thing_key (kind n : Int) (k t : ByteArray) (h1 : (Lit.int .i64 kind).wf = true) (h2 : (Lit.int .i64 n).wf = true) (hk : k.size ≤ maxLen) (ht : t.size ≤ maxLen) : keyOf Tryd.prog 57 (thV kind k t n) = some (thL kind k t n) := by
  unfold keyOf thV thL
  simp only [Tryd.underlying57]
  rw [if_pos (by simp [keyTypeT', Value.formed, Tryd.underlying57, cellsT])]
  obtain ⟨m, hm⟩ := sizeT
  rw [hm]
  unfold Program.keyLits
  simp only [Tryd.underlying57, Value.cells]
  rw [if_pos (by rw [cellsT]; exact ⟨rfl, by decide +kernel⟩)]
  simp [List.mapM_cons, Program.keyLits, cellsK, cellsS, cellsI, Tryd.underlying55, Tryd.underlying9, Tryd.underlying3, h1, h2, hk, ht]
/-- a thing: its kind, key, bytes, number -/
abbrev Thing := Int × List UInt8 × List UInt8 × Int
def Thing.val (x : Thing) : Value := thV x.1 ⟨x.2.1.toArray⟩ ⟨x.2.2.1.toArray⟩ x.2.2.2
def Thing.lit (x : Thing) : Lit := thL x.1 ⟨x.2.1.toArray⟩ ⟨x.2.2.1.toArray⟩ x.2.2.2
structure Thing.ok (x : Thing) : Prop where
  kind : (Lit.int .i64 x.1).wf = true
  num : (Lit.int .i64 x.2.2.2).wf = true
  key : x.2.1.length ≤ maxLen
  text : x.2.2.1.length ≤ maxLen
theorem size_arr (l : List UInt8) : (⟨l.toArray⟩ : ByteArray).size = l.length := by simp [ByteArray.size]
theorem Thing.ok.key_ {x : Thing} (h : x.ok) : keyOf Tryd.prog 57 x.val = some x.lit :=
  thing_key _ _ _ _ h.kind h.num (by rw [size_arr]; exact h.key) (by rw [size_arr]; exact h.text)
theorem Thing.lit_inj {x y : Thing} (hx : x.ok) (hy : y.ok) (h : x.lit = y.lit) : x = y := by
  have e := thing_law.inj hx.key_ (h ▸ hy.key_)
  unfold Thing.val thV at e
  simp only [Value.agg.injEq, Array.mk.injEq, List.cons.injEq, Value.int.injEq, Value.string.injEq, ByteArray.mk.injEq, List.toArray_inj, and_true, true_and] at e
  obtain ⟨h1, h2, h3, h4⟩ := e
  exact Prod.ext h1 (Prod.ext (by simpa using h2) (Prod.ext (by simpa using h3) h4))
/-- the place of a thing -/
def idx : List Thing → Thing → Nat
  | [], _ => 0
  | y :: L, x => if y = x then 0 else idx L x + 1
theorem idx_in {L : List Thing} {x : Thing} (h : x ∈ L) : L[idx L x]? = some x := by
  induction L with
  | nil => cases h
  | cons y L ih =>
    unfold idx
    by_cases e : y = x
    · rw [if_pos e]; simp [e]
    · rw [if_neg e]
      rcases List.mem_cons.1 h with h | h
      · exact absurd h.symm e
      · simpa using ih h
theorem idx_append_in {L : List Thing} {x y : Thing} (h : x ∈ L) : idx (L ++ [y]) x = idx L x := by
  induction L with
  | nil => cases h
  | cons z L ih =>
    show (if z = x then 0 else idx (L ++ [y]) x + 1) = (if z = x then 0 else idx L x + 1)
    by_cases e : z = x
    · rw [if_pos e, if_pos e]
    · rw [if_neg e, if_neg e]
      rcases List.mem_cons.1 h with h | h
      · exact absurd h.symm e
      · rw [ih h]
theorem idx_new {L : List Thing} {x : Thing} (h : x ∉ L) : idx (L ++ [x]) x = L.length := by
  induction L with
  | nil => simp [idx]
  | cons z L ih =>
    show (if z = x then 0 else idx (L ++ [x]) x + 1) = L.length + 1
    have e : z ≠ x := fun e => h (e ▸ List.mem_cons_self)
    rw [if_neg e, ih fun h2 => h (List.mem_cons_of_mem _ h2)]
theorem idx_lt {L : List Thing} {x : Thing} (h : x ∈ L) : idx L x < L.length := (List.getElem?_eq_some_iff.1 (idx_in h)).1
/-- the things that were asked, in their order -/
def addT (L : List Thing) (x : Thing) : List Thing := if x ∈ L then L else L ++ [x]
theorem addT_in {L : List Thing} {x : Thing} (h : x ∈ L) : addT L x = L := by unfold addT; rw [if_pos h]
theorem addT_new {L : List Thing} {x : Thing} (h : x ∉ L) : addT L x = L ++ [x] := by unfold addT; rw [if_neg h]
theorem addT_mem (L : List Thing) (x : Thing) : x ∈ addT L x := by
  unfold addT
  by_cases h : x ∈ L
  · rw [if_pos h]; exact h
  · rw [if_neg h]; simp
abbrev zI : DataW Unit := .lit (.int .i64 0)
/-- block B is a table of the things L, each with its place -/
def BK (W : World) (B : Nat) (L : List Thing) : Prop :=
  ∃ D : DataW Unit, W.ownsMap Tryd.prog 57 (plainElem Tryd.prog 3) B L.length D ∧ (∀ (i : Nat) (x : Thing), L[i]? = some x → D.atKey x.lit zI = .lit (.int .i64 (i : Int))) ∧ (∀ x : Thing, x.ok → Maps.has D x.lit = decide (x ∈ L)) ∧ L.Nodup ∧ (∀ x : Thing, x ∈ L → x.ok) ∧ Maps.size D = L.length
theorem BK.kept {W W' : World} {B : Nat} {L : List Thing} {row : Option Nat} (h : BK W B L) (g : W.grownBy W' row) (hne : some B ≠ row) : BK W' B L := by
  obtain ⟨D, h1, h2⟩ := h
  exact ⟨D, h1.kept g hne, h2⟩
theorem BK.below {W W' : World} {B : Nat} {L : List Thing} (h : BK W B L) (g : Below W.heap.size W W') : BK W' B L := h.kept (below_gr g none) (by simp)
theorem BK.lt {W : World} {B : Nat} {L : List Thing} (h : BK W B L) : B < W.heap.size := by
  obtain ⟨D, h1, _⟩ := h
  exact h1.lt
theorem BK.made (W : World) : BK (W.alloc (.map #[] 0)) W.heap.size [] :=
  ⟨.map [], World.ownsMap_made _ _ _ _, fun i l h => by simp at h, fun l _ => by simp [Maps.has], List.nodup_nil, fun l h => by simp at h, rfl⟩
theorem BK.more {W W' : World} {B : Nat} {L : List Thing} {x : Thing} {D : DataW Unit} (hl : x ∉ L) (hk : x.ok)
    (h0 : W.ownsMap Tryd.prog 57 (plainElem Tryd.prog 3) B L.length D) (h1 : ∀ (i : Nat) (x : Thing), L[i]? = some x → D.atKey x.lit zI = .lit (.int .i64 (i : Int))) (h2 : ∀ x : Thing, x.ok → Maps.has D x.lit = decide (x ∈ L)) (h3 : L.Nodup) (h4 : ∀ x : Thing, x ∈ L → x.ok) (h5 : Maps.size D = L.length)
    (h : W'.ownsMap Tryd.prog 57 (plainElem Tryd.prog 3) B (L.length + 1) (D.put x.lit (.lit (.int .i64 (L.length : Int))))) : BK W' B (L ++ [x]) := by
  have hm := h0.isMap
  have hkk := thing_law.key hk.key_
  refine ⟨_, by simpa using h, fun i y hy => ?_, fun y hy => ?_, ?_, fun y hy => ?_, ?_⟩
  · by_cases hi : i < L.length
    · rw [List.getElem?_append_left hi] at hy
      have hym := List.mem_of_getElem? hy
      have hxl : y.lit ≠ x.lit := fun e => hl (Thing.lit_inj (h4 y hym) hk e ▸ hym)
      rw [Maps.atKey_put_other hxl]
      exact h1 i y hy
    · have hi2 : i = L.length := by
        have := (List.getElem?_eq_some_iff.1 hy).1
        simp at this
        omega
      subst hi2
      simp at hy
      subst hy
      exact Maps.atKey_put_same hm hkk _ _
  · by_cases e : y = x
    · subst e
      rw [Maps.has_put_same hm hkk]; simp
    · rw [Maps.has_put_other (fun e2 => e (Thing.lit_inj hy hk e2)), h2 y hy]; simp [e]
  · rw [List.nodup_append]
    exact ⟨h3, by simp, fun a ha b hb e => by simp at hb; subst hb; subst e; exact hl ha⟩
  · rcases List.mem_append.1 hy with h | h
    · exact h4 y h
    · simp at h; subst h; exact hk
  · rw [Maps.size_put (h0.tidy thing_law), h2 x hk, h5]; simp [hl]
theorem zeroIntT (w : World) : (zeroValue 3).run Tryd.prog w = .ok (.int .i64 0) w := by kernel_rfl
theorem wfLen (L : List Thing) (h : L.length ≤ 1000000000000) : (Lit.int .i64 (L.length : Int)).wf = true := WalkArith.wf_i64 ⟨by omega, by omega⟩
/-- a block that is new may have turned besides -/
theorem gr_new {w W W' : World} {B h : Nat} (g : w.grownBy W (some B)) (g' : W.grownBy W' (some h)) (hh : w.heap.size ≤ h) : w.grownBy W' (some B) :=
  ⟨g'.os.trans g.os, g'.tape.trans g.tape, g'.output.trans g.output, Nat.le_trans g.size g'.size, fun k hk hne => (g'.block k (Nat.lt_of_lt_of_le hk g.size) (by simp; omega)).trans (g.block k hk hne)⟩
/-- what lies there while a table is asked -/
structure TL (w : World) (B : Nat) (L : List Thing) (kd : Int) (K T : ByteArray) (nm : Int) (W : World) : Prop where
  gr : w.grownBy W (some B)
  bk : BK W B L
  b0 : W.heap[w.heap.size]? = some (.cells #[.map (some B)] 47 (0, 0))
  b1 : W.heap[w.heap.size + 1]? = some (.cells #[.int .i64 kd, .string K, .string T, .int .i64 nm] 57 (0, 0))
  b2 : BT W (w.heap.size + 2) 32 (fun _ => 0#8)
set_option maxHeartbeats 1000000 in
set_option maxRecDepth 100000 in
theorem tell_any (w : World) (B : Nat) (L : List Thing) (x : Thing) (K T : ByteArray) (hK : K = ⟨x.2.1.toArray⟩) (hT : T = ⟨x.2.2.1.toArray⟩) (hx : x.ok) (hb : BK w B L) (hL : L.length ≤ 1000000000000) :
    Calls Tryd.prog 30 #[.agg #[.map (some B)], .agg #[.int .i64 x.1, .string K, .string T, .int .i64 x.2.2.2]] w fun e w' => e = .returned (tagV (numT (idx (addT L x) x))) ∧ w.grownBy w' (some B) ∧ BK w' B (addT L x) := by
  have HX := Lib.hid hx
  have hkey : keyOf Tryd.prog 57 (.agg #[.int .i64 x.1, .string K, .string T, .int .i64 x.2.2.2]) = some x.lit := by rw [hK, hT]; exact hx.key_
  have HKEY := Lib.hid hkey
  have HB := Lib.hid hb
  have hBw := hb.lt
  generalize x.1 = kd at hkey HKEY ⊢
  generalize x.2.2.2 = nm at hkey HKEY ⊢
  clear hK hT hx hkey hb
  go_enter Tryd.func30, Tryd.ntmps30
  go_upto_region 1 with (fail)
  refine forget_code (TL w B L kd K T nm) ⟨((World.grownBy_alloc _ _ _).trans (World.grownBy_alloc _ _ _)).trans (World.grownBy_alloc _ _ _), HB.out.below ((((Below.refl _ _).alloc (Nat.le_refl _) _).alloc (by simp) _).alloc (by simp; omega) _), laid_old (laid_old (laid_at rfl)), laid_old (laid_at (by simp)), BT.of_cells (laid_at (by simp)) (fun i hi => zero_atL 32 i hi)⟩ ?_
  intro W hW
  have HW := Lib.hid hW
  have hc0 : W.cell? ⟨w.heap.size, 0, none⟩ = some (.map (some B)) := by rw [cell_of_row W _ 0 _ _ (0, 0) hW.b0]; rfl
  have hd0 : W.cell? ⟨w.heap.size + 1, 0, none⟩ = some (.int .i64 kd) := by rw [cell_of_row W _ 0 _ _ (0, 0) hW.b1]; rfl
  have hd1 : W.cell? ⟨w.heap.size + 1, 1, none⟩ = some (.string K) := by rw [cell_of_row W _ 1 _ _ (0, 0) hW.b1]; rfl
  have hd2 : W.cell? ⟨w.heap.size + 1, 2, none⟩ = some (.string T) := by rw [cell_of_row W _ 2 _ _ (0, 0) hW.b1]; rfl
  have hd3 : W.cell? ⟨w.heap.size + 1, 3, none⟩ = some (.int .i64 nm) := by rw [cell_of_row W _ 3 _ _ (0, 0) hW.b1]; rfl
  obtain ⟨D, hown, hat, hhas, hnd, hok, hsz⟩ := hW.bk
  have HO := Lib.hid hown
  have hhx := hhas x HX.out
  by_cases hin : x ∈ L
  · have HIN := Lib.hid hin
    have hh : Maps.has D x.lit = true := by rw [hhx]; simp [hin]
    have hatx := hat _ _ (idx_in hin)
    have HATX := Lib.hid hatx
    clear hat hhas hok hsz hhx hin hatx hown hnd hW
    go_upto_region 5 with (at_lookup; refine wpList_lookup_own_ok_int W rfl _ _ 45 rfl 57 3 .i64 thing_law Tryd.underlying45 Tryd.underlying3 (zeroIntT _) B L.length D rfl HO.out _ x.lit rfl HKEY.out ?_; intro c hcat hwc)
    have hci : c = ((idx L x : Nat) : Int) := by
      have := hcat.symm.trans HATX.out
      simpa using this
    have hidx := idx_lt HIN.out
    have hwr : IntKind.u64.wrap c = ((idx L x : Nat) : Int) := by rw [hci, IntKind.wrap_u64]; omega
    have T5 := Lib.hid HW.out.b2
    have G5 := Lib.hid HW.out.gr
    have K5 := Lib.hid HW.out.bk
    clear hcat hwc hci hh hd0 hd1 hd2 hd3 hc0 HW
    refine wp_region_lit ?_
    refine wpList_plain rfl (fun K hK => ?_)
    go_simp
    refine hK _ _ ?_
    clear hK K
    refine wpList_plain rfl (fun K hK => ?_)
    go_simp
    refine hK _ _ ?_
    clear hK K
    refine wpList_plain rfl (fun K hK => ?_)
    go_simp
    refine (numbered_any (idx L x) W).mono ?_
    rintro e W5 ⟨rfl, hb5⟩
    dsimp only
    refine hK _ _ ?_
    clear hK K
    have t5 := T5.out.below' hb5
    have g5 := G5.out.trans (below_gr hb5 (some B))
    have k5 := K5.out.below hb5
    refine wpList_store_mid rfl 33 _ _ rfl (w.heap.size + 1 + 1) 0 (tagC (numT (idx L x))).toArray rfl rfl (by simpa [tagC_len] using t5.there 32 (Nat.le_refl _)) (by simp [infoTag, tagC_len]) (tagC_one _) ?_
    rw [List.toList_toArray]
    have HR5 := Lib.hid (World.rangeAt_setCells_same W5 (w.heap.size + 2) 0 (tagC (numT (idx L x))) (by rw [tagC_len]; exact t5.there 32 (Nat.le_refl _)))
    have gs := gr_setCells (hb := w.heap.size + 2) (tagC (numT (idx L x))) 0 W5
    have HG5 := Lib.hid (gr_new g5 gs (by omega))
    have HK5 := Lib.hid (k5.kept gs (by simp; omega))
    generalize W5.setCells (w.heap.size + 2) 0 (tagC (numT (idx L x))) = W7 at HR5 HG5 HK5 ⊢
    clear t5 g5 k5 hb5 T5 G5 K5 gs
    show Exit.then _ _ Exit.normal _ W7
    go_wp2
    refine bodyPost_ret (v := tagV (numT (idx L x))) ?_ rfl ?_
    · exact results_cell_mid (p := 4) (ty := 33) rfl _ W7 (w.heap.size + 2) _ _ rfl HR5.out Tryd.underlying33 rfl (by simp [infoTag, tagC_len])
    · rw [addT_in HIN.out]
      exact ⟨rfl, HG5.out, HK5.out⟩
  · have hh : Maps.has D x.lit = false := by rw [hhx]; simp [hin]
    have HIN := Lib.hid hin
    have HAT := Lib.hid hat
    have HHAS := Lib.hid hhas
    have HOK := Lib.hid hok
    have HND := Lib.hid hnd
    have HSZ := Lib.hid hsz
    have hlen : ∀ ty, (Builtin.len_ #[45] ty #[.map (some B)]).run Tryd.prog W = .ok (.int .i64 (L.length : Int)) W := fun ty => by
      rw [← hsz]; exact hown.len Tryd.underlying45 ty
    obtain ⟨w1, hrun, hown1, hgrow1⟩ := HO.out.update thing_law Tryd.underlying45 (by unfold maxLen; omega) HKEY.out (plainElem_int Tryd.underlying3 (wfLen L hL))
    have hbk1 := BK.more HIN.out HX.out HO.out HAT.out HHAS.out HND.out HOK.out HSZ.out hown1
    have T5 := Lib.hid (HW.out.b2.gr hgrow1 (by omega))
    have G5 := Lib.hid (HW.out.gr.trans hgrow1)
    have K5 := Lib.hid hbk1
    have hwr : IntKind.u64.wrap ((L.length : Nat) : Int) = ((L.length : Nat) : Int) := by rw [IntKind.wrap_u64]; omega
    clear hat hhas hok hhx hin hown hnd hW hsz hown1 hgrow1 hbk1
    go_upto_region 5 with (at_lookup; refine wpList_lookup_own_ok_int W rfl _ _ 45 rfl 57 3 .i64 thing_law Tryd.underlying45 Tryd.underlying3 (zeroIntT _) B L.length D rfl HO.out _ x.lit rfl HKEY.out ?_; intro c hcat hwc)
    clear hrun hlen hh hd0 hd1 hd2 hd3 hc0 HW hcat hwc
    refine wp_region_lit ?_
    refine wpList_plain rfl (fun K hK => ?_)
    go_simp
    refine hK _ _ ?_
    clear hK K
    refine wpList_plain rfl (fun K hK => ?_)
    go_simp
    refine hK _ _ ?_
    clear hK K
    refine wpList_plain rfl (fun K hK => ?_)
    go_simp
    refine (numbered_any L.length w1).mono ?_
    rintro e W5 ⟨rfl, hb5⟩
    dsimp only
    refine hK _ _ ?_
    clear hK K
    have t5 := T5.out.below' hb5
    have g5 := G5.out.trans (below_gr hb5 (some B))
    have k5 := K5.out.below hb5
    refine wpList_store_mid rfl 33 _ _ rfl (w.heap.size + 1 + 1) 0 (tagC (numT L.length)).toArray rfl rfl (by simpa [tagC_len] using t5.there 32 (Nat.le_refl _)) (by simp [infoTag, tagC_len]) (tagC_one _) ?_
    rw [List.toList_toArray]
    have HR5 := Lib.hid (World.rangeAt_setCells_same W5 (w.heap.size + 2) 0 (tagC (numT L.length)) (by rw [tagC_len]; exact t5.there 32 (Nat.le_refl _)))
    have gs := gr_setCells (hb := w.heap.size + 2) (tagC (numT L.length)) 0 W5
    have HG5 := Lib.hid (gr_new g5 gs (by omega))
    have HK5 := Lib.hid (k5.kept gs (by simp; omega))
    generalize W5.setCells (w.heap.size + 2) 0 (tagC (numT L.length)) = W7 at HR5 HG5 HK5 ⊢
    clear t5 g5 k5 hb5 T5 G5 K5 gs
    show Exit.then _ _ Exit.normal _ W7
    go_wp2
    refine bodyPost_ret (v := tagV (numT L.length)) ?_ rfl ?_
    · exact results_cell_mid (p := 4) (ty := 33) rfl _ W7 (w.heap.size + 2) _ _ rfl HR5.out Tryd.underlying33 rfl (by simp [infoTag, tagC_len])
    · rw [addT_new HIN.out, idx_new HIN.out]
      exact ⟨rfl, HG5.out, HK5.out⟩
end Go.Proofs.YtoocfkaclhgjeaaDoor
