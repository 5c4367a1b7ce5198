/-
  Contracts of again: numbers as a text; a position's text.
-/
import Derived.Shelf.Strconv.AppendIntPublic10
import Derived.Laws.IdiomStrings
import Derived.Laws.MakeOwn
import Derived.OwnWalk
import Derived.Lib.Slices
import Derived.Test.YtcdnakbdajbfoaaGreatDoorYa
import Derived.Test.YtcdnakbdajbfoaaGreatDoorG14
namespace Go.Proofs.YtcdnakbdajbfoaaGreatDoor
open Go.RowKit Go.Sort
set_option linter.unusedSimpArgs false
set_option linter.unusedVariables false
set_option maxRecDepth 20000

def ai_lays_ren : Go.Shelf.Ren := ⟨fun | 176 => 48 | 249 => 75 | 288 => 104 | 283 => 128 | 284 => 129 | 285 => 130 | 286 => 131 | 129 => 162 | 317 => 161 | 318 => 163 | 319 => 164 | 320 => 165 | 337 => 191 | 338 => 192 | n => n, fun | 37 => 64 | 2 => 2 | 3 => 3 | 53 => 112 | 4 => 4 | 9 => 9 | 171 => 131 | 0 => 0 | 173 => 134 | 212 => 164 | 51 => 165 | 5 => 5 | 20 => 20 | 213 => 166 | 46 => 149 | 232 => 205 | 233 => 206 | n => n, fun | 17 => 1 | 18 => 5 | 19 => 6 | n => n⟩
theorem ai_lays : Go.Proofs.LaysM.n176 Tryz.prog ai_lays_ren := {
  mixed := by kernel_rfl
  f129 := Tryz.func162.trans (congrArg some (by kernel_rfl))
  f176 := Tryz.func48.trans (congrArg some (by kernel_rfl))
  f249 := Tryz.func75.trans (congrArg some (by kernel_rfl))
  f283 := Tryz.func128.trans (congrArg some (by kernel_rfl))
  f284 := Tryz.func129.trans (congrArg some (by kernel_rfl))
  f285 := Tryz.func130.trans (congrArg some (by kernel_rfl))
  f286 := Tryz.func131.trans (congrArg some (by kernel_rfl))
  f288 := Tryz.func104.trans (congrArg some (by kernel_rfl))
  f317 := Tryz.func161.trans (congrArg some (by kernel_rfl))
  f318 := Tryz.func163.trans (congrArg some (by kernel_rfl))
  f319 := Tryz.func164.trans (congrArg some (by kernel_rfl))
  f320 := Tryz.func165.trans (congrArg some (by kernel_rfl))
  f337 := Tryz.func191.trans (congrArg some (by kernel_rfl))
  f338 := Tryz.func192.trans (congrArg some (by kernel_rfl))
  t0 := Tryz.underlying0
  a0 := Tryz.isAgg0
  z0 := Tryz.sizeOf0
  v0 := Tryz.zeroValue0
  t2 := Tryz.underlying2
  a2 := Tryz.isAgg2
  z2 := Tryz.sizeOf2
  v2 := Tryz.zeroValue2
  t3 := Tryz.underlying3
  a3 := Tryz.isAgg3
  z3 := Tryz.sizeOf3
  v3 := Tryz.zeroValue3
  t4 := Tryz.underlying4
  a4 := Tryz.isAgg4
  z4 := Tryz.sizeOf4
  v4 := Tryz.zeroValue4
  t5 := Tryz.underlying5
  a5 := Tryz.isAgg5
  z5 := Tryz.sizeOf5
  v5 := Tryz.zeroValue5
  t9 := Tryz.underlying9
  a9 := Tryz.isAgg9
  z9 := Tryz.sizeOf9
  v9 := Tryz.zeroValue9
  t20 := Tryz.underlying20
  a20 := Tryz.isAgg20
  z20 := Tryz.sizeOf20
  v20 := Tryz.zeroValue20
  t37 := Tryz.underlying64
  a37 := Tryz.isAgg64
  z37 := Tryz.sizeOf64
  v37 := Tryz.zeroValue64
  t46 := Tryz.underlying149
  a46 := Tryz.isAgg149
  z46 := Tryz.sizeOf149
  v46 := Tryz.zeroValue149
  t51 := Tryz.underlying165
  a51 := Tryz.isAgg165
  z51 := Tryz.sizeOf165
  v51 := Tryz.zeroValue165
  t53 := Tryz.underlying112
  a53 := Tryz.isAgg112
  z53 := Tryz.sizeOf112
  v53 := Tryz.zeroValue112
  t171 := Tryz.underlying131
  a171 := Tryz.isAgg131
  z171 := Tryz.sizeOf131
  v171 := Tryz.zeroValue131
  t173 := Tryz.underlying134
  a173 := Tryz.isAgg134
  z173 := Tryz.sizeOf134
  v173 := Tryz.zeroValue134
  t212 := Tryz.underlying164
  a212 := Tryz.isAgg164
  z212 := Tryz.sizeOf164
  v212 := Tryz.zeroValue164
  t213 := Tryz.underlying166
  a213 := Tryz.isAgg166
  z213 := Tryz.sizeOf166
  t232 := Tryz.underlying205
  a232 := Tryz.isAgg205
  z232 := Tryz.sizeOf205
  v232 := Tryz.zeroValue205
  t233 := Tryz.underlying206
  a233 := Tryz.isAgg206
  z233 := Tryz.sizeOf206
  v233 := Tryz.zeroValue206
  g17 := by kernel_rfl
  g18 := by kernel_rfl
  g19 := by kernel_rfl
  i0 := by kernel_rfl
  i2 := by kernel_rfl
  i3 := by kernel_rfl
  i4 := by kernel_rfl
  i5 := by kernel_rfl
  i9 := by kernel_rfl
  i20 := by kernel_rfl
  i37 := by kernel_rfl
  i46 := by kernel_rfl
  i51 := by kernel_rfl
  i53 := by kernel_rfl
  i171 := by kernel_rfl
  i173 := by kernel_rfl
  i212 := by kernel_rfl
  i232 := by kernel_rfl
  i233 := by kernel_rfl
  m17 := by kernel_rfl
  m18 := by kernel_rfl
  m19 := by kernel_rfl }
def TP (B : Nat) (w : World) : Prop := Lib.TabBelow Tryz.prog B w "internal/strconv.uint64pow10" .u64 Lib.pow10Tab
theorem TP.on {B : Nat} {w w' : World} (h : TP B w) (g : Below B w w') : TP B w' := Lib.TabBelow.on h g
theorem owns_below_ {w w' : World} {base : Nat} {e : TypeId} {k : Nat} {v : Value} {n : Nat} {xs : List Value} (h : w.ownsRow base e k v n xs) (hb : Below w.heap.size w w') : w'.ownsRow base e k v n xs := by
  refine ⟨h.1, ?_⟩
  rcases h.2 with h2 | ⟨g, cap, cur, h1, h2, h3, h4⟩
  · exact .inl h2
  · exact .inr ⟨g, cap, cur, h1, h2, (hb.block g (Array.getElem?_eq_some_iff.1 h3).1).trans h3, h4⟩
theorem kept_at {w W : World} (h : Lib.OthersKept 5 none w W) {k : Nat} {X : Array Value} {t : TypeId} (hk : w.heap[k]? = some (.cells X t (0, 0))) (ht : t ≠ 5) : W.heap[k]? = some (.cells X t (0, 0)) :=
  h k _ hk (by simp) (fun c fz e => by cases e; exact ht rfl)
structure NS (B : Nat) (w W : World) (sv : Value) (xs : List UInt8) (vb : Nat) (X : Array Value) : Prop where
  own : W.ownsRow B 5 1 sv xs.length (Lib.byteCells xs)
  row : W.heap[vb]? = some (.cells X 3 (0, 0))
  b : Below B w W
  k : Lib.OthersKept 5 none w W
theorem infoU8' : (Tryz.prog.info? 5).map (fun i => (i.zero, i.size, i.bytes)) = some (some (.int .u8 0), 1, 1) := by kernel_rfl
theorem own_tag {W : World} {B n : Nat} {e : TypeId} {sv : Value} {xs : List Value} (h : W.ownsRow B e 1 sv n xs) : ∀ g, sv.ownBlock = some g → ∃ c fz, W.heap[g]? = some (.cells c e fz) := by
  intro g hg
  rcases h.2 with ⟨rfl, _⟩ | ⟨g', cap, cur, rfl, _, hc, _⟩
  · cases hg
  · simp [Value.ownBlock] at hg
    subst hg
    exact ⟨_, _, hc⟩
set_option maxHeartbeats 4000000 in
set_option maxRecDepth 100000 in
theorem numbers_any (B vb m : Nat) (F : Nat → Int) (hF : ∀ i, i < m → -9223372036854775808 ≤ F i ∧ F i ≤ 9223372036854775807) (sv : Value) (xs : List UInt8) (w : World)
    (hown : w.ownsRow B 5 1 sv xs.length (Lib.byteCells xs)) (hrow : w.heap[vb]? = some (.cells (nums F 0 m).toArray 3 (0, 0))) (hB : B ≤ w.heap.size) (hlim : xs.length + 22 * m ≤ 1000000) (ht : TP B w) :
    Calls Tryz.prog 33 #[sv, .slice (some ⟨vb, 0, none⟩) m m] w fun e w' => ∃ v', e = .returned v' ∧ w'.ownsRow B 5 1 v' (xs ++ kyT ((List.range m).map F)).length (Lib.byteCells (xs ++ kyT ((List.range m).map F))) ∧ Below B w w' ∧ Lib.OthersKept 5 none w w' := by
  obtain ⟨i0, hi, hz0, hz1, hz2⟩ := info_parts infoU8'
  have HIN := Lib.hid (And.intro hi (And.intro hz0 (And.intro hz1 hz2)))
  clear hi hz0 hz1 hz2
  have AI := Lib.hid (fun i (hi : i < m) (W : World) sv (ys : List UInt8) (h : NS B w W sv ys vb (nums F 0 m).toArray) (hl : ys.length ≤ 1000000) =>
    show Calls Tryz.prog 48 #[sv, .int .i64 (F i), .int .i64 10] W fun e w' => ∃ v', e = .returned v' ∧ w'.ownsRow B 5 1 v' (ys.length + (Lib.itoa (F i)).length) (Lib.byteCells ys ++ Lib.byteCells (Lib.itoa (F i))) ∧ Below B W w' ∧ Lib.OthersKept 5 none W w' from
      Any.strconv_AppendInt_10 ai_lays B ys.length (F i) (hF i hi).1 (hF i hi).2 sv (Lib.byteCells ys) W h.own (Nat.le_trans hB h.b.size) (by omega) (ht.on h.b))
  have HI := Lib.hid (show NS B w w sv (xs ++ kyT ((List.range 0).map F)) vb (nums F 0 m).toArray from ⟨by simpa [kyT] using hown, hrow, Below.refl _ _, Lib.OthersKept.refl _ _ _⟩)
  have HLEN := Lib.hid (fun i (hi : i ≤ m) => show (xs ++ kyT ((List.range i).map F)).length ≤ 1000000 by
    have h1 := kyT_len ((List.range i).map F) fun n hn => by
      obtain ⟨j, hj, rfl⟩ := List.mem_map.1 hn
      exact hF j (by have := List.mem_range.1 hj; omega)
    rw [List.length_map, List.length_range] at h1
    rw [List.length_append]
    omega)
  have HNEXT := Lib.hid (fun i => show xs ++ kyT ((List.range (i + 1)).map F) = xs ++ kyT ((List.range i).map F) ++ Lib.itoa (F i) ++ [32] by
    rw [List.range_succ, List.map_append, kyT_append, List.map_cons, List.map_nil, kyT_one, List.append_assoc, List.append_assoc])
  have HIT := Lib.hid (fun i (hi : i < m) => Lib.itoa_length_le (F i) (hF i hi).1 (hF i hi).2)
  have HX := Lib.hid (fun i (hi : i < m) => nums_at F 0 m i hi)
  have HBB := Lib.hid hB
  have m0 : m ≤ 100000 := by omega
  clear hown hrow hF hlim ht hB
  generalize (nums F 0 m).toArray = X at *
  go_enter Tryz.func33, Tryz.ntmps33
  go_wp2
  go_loopw [0, 9] (fun tv x wr => ∃ i : Nat, i ≤ m ∧ x = .int .i64 (i : Int) ∧ NS B w wr tv (xs ++ kyT ((List.range i).map F)) vb X) (fun _ x _ => m - (intOf x).toNat)
  case atStart => exact ⟨0, Nat.zero_le _, rfl, HI.out⟩
  case round =>
    clear HI
    obtain ⟨i, hi, rfl, hn⟩ := hrel
    have HN := Lib.hid hn
    clear hn
    by_cases hlt : i < m
    · have c0 : wr.cell? ⟨vb, i, none⟩ = some (.int .i64 (F i)) := by
        rw [cell_of_row wr vb i _ _ (0, 0) HN.out.row]
        have := HX.out i hlt
        rwa [Nat.zero_add] at this
      have A1 := Lib.hid (fun W sv ys h hl => AI.out i hlt W sv ys h hl)
      have HL := Lib.hid (HLEN.out i hi)
      have HE := Lib.hid (HNEXT.out i)
      have HT := Lib.hid (HIT.out i hlt)
      obtain ⟨ys, hys⟩ : ∃ l, xs ++ kyT ((List.range i).map F) = l := ⟨_, rfl⟩
      rw [hys] at HN HL HE
      generalize F i = a at *
      have i0' : (0 : Int) ≤ (i : Int) := by omega
      clear hys
      go_wp2_with fail
      refine (A1.out _ _ ys HN.out HL.out).mono ?_
      rintro e w1 ⟨v1, rfl, hown1, hb1, hk1⟩
      have e1 : Lib.byteCells ys ++ Lib.byteCells (Lib.itoa a) = Lib.byteCells (ys ++ Lib.itoa a) := by simp [Lib.byteCells]
      have e2 : ys.length + (Lib.itoa a).length = (ys ++ Lib.itoa a).length := by simp
      rw [e1, e2] at hown1
      have H1 := Lib.hid (show NS B w w1 v1 (ys ++ Lib.itoa a) vb X from ⟨hown1, kept_at hk1 HN.out.row (by decide), HN.out.b.trans hb1, HN.out.k.trans hk1⟩)
      clear hown1 hb1 hk1 e1 e2 A1 c0 HN
      dsimp only
      refine list_go (by assumption) ?_
      obtain ⟨hi', hz0, hz1, hz2⟩ := HIN.out
      have hll : (ys ++ Lib.itoa a).length ≤ 1000100 := by have := HT.out; have := HL.out; rw [List.length_append]; omega
      go_wp2_with (at_builtin; refine wpList_append_own _ rfl _ _ 64 rfl B 5 i0 (.int .u8 0) 1 1 Tryz.underlying64 hi' hz0 hz1 hz2 rfl (by decide) _ _ _ rfl (H1.out.own.alloc _) ⟨w1.heap.size, 0, none⟩ 1 1 [Value.int .u8 32] rfl rfl (by intro j u' hj; match j, hj with | 0, hj => simp at hj; subst hj; simp [Addr.add]) (by intro u' hu'; simp at hu'; subst hu'; rfl) (by unfold maxLen; omega) (by omega) (by have := H1.out.b.size; have := HBB.out; simp; omega) ?_)
      intro v2 w2 hown2 hgrow _
      have e1 : Lib.byteCells (ys ++ Lib.itoa a) ++ [Value.int .u8 32] = Lib.byteCells (ys ++ Lib.itoa a ++ [32]) := by unfold Lib.byteCells; rw [List.map_append, List.map_append, List.map_append, List.map_cons, List.map_nil]; rfl
      have e2 : ys.length + (Lib.itoa a).length + 1 = (ys ++ Lib.itoa a ++ [32]).length := by rw [List.length_append, List.length_append]; rfl
      rw [e1, e2] at hown2
      have hlt1 : vb < w1.heap.size := (Array.getElem?_eq_some_iff.1 H1.out.row).1
      have hkk : Lib.OthersKept 5 none w w2 := (H1.out.k.alloc _).grown hgrow (own_tag (H1.out.own.alloc _))
      have H2 := Lib.hid (show NS B w w2 v2 (ys ++ Lib.itoa a ++ [32]) vb X from ⟨hown2, kept_at (((Lib.OthersKept.refl _ _ w1).alloc _).grown hgrow (own_tag (H1.out.own.alloc _))) H1.out.row (by decide),
        (H1.out.b.alloc (Nat.le_trans HBB.out H1.out.b.size) _).grown hgrow (by simp; exact Nat.le_succ_of_le (Nat.le_trans HBB.out H1.out.b.size)) (fun k hk => (H1.out.own.lt k hk).1), hkk⟩)
      rw [← HE.out] at H2
      clear hown2 hgrow e1 e2 hkk hlt1 hll hi' hz0 hz1 hz2 H1
      go_wp2
      go_roundw
      case rel => exact ⟨i + 1, by omega, by go_num, H2.out⟩
      case measure => simp [intOf]; omega
    · obtain rfl : i = m := by omega
      go_wp2
      go_ret
      exact ⟨_, rfl, HN.out.own, HN.out.b, HN.out.k⟩
structure KZ (w W : World) (P : Nat → Int) (sv : Value) (xs : List UInt8) : Prop where
  own : W.ownsRow w.heap.size 5 1 sv xs.length (Lib.byteCells xs)
  p : ∃ X, X = (pc P).toArray ∧ W.heap[w.heap.size]? = some (.cells X 30 (0, 0))
  b : Below w.heap.size w W
theorem KZ.pb {w W : World} {P : Nat → Int} {sv : Value} {xs : List UInt8} (h : KZ w W P sv xs) : PB W w.heap.size P := by
  obtain ⟨X, rfl, h2⟩ := h.p
  exact PB.of_block h2
theorem KZ.go {w W W' : World} {P : Nat → Int} {sv : Value} {xs : List UInt8} (h : KZ w W P sv xs) (g : Below W.heap.size W W') : KZ w W' P sv xs := by
  obtain ⟨X, h1, h2⟩ := h.p
  exact ⟨owns_below_ h.own g, ⟨X, h1, sl_go h2 g⟩, h.b.trans (g.mono h.b.size)⟩
theorem KZ.put {w W W' : World} {P : Nat → Int} {sv v : Value} {xs ys : List UInt8} (h : KZ w W P sv xs) (ho : W'.ownsRow w.heap.size 5 1 v ys.length (Lib.byteCells ys)) (hb : Below w.heap.size W W') (hk : Lib.OthersKept 5 none W W') : KZ w W' P v ys := by
  obtain ⟨X, h1, h2⟩ := h.p
  exact ⟨ho, ⟨X, h1, kept_at hk h2 (by decide)⟩, h.b.trans hb⟩
theorem KZ.str {w W : World} {P : Nat → Int} {sv : Value} {l : List UInt8} (h : KZ w W P sv l) (hl : 0 < l.length) : ∃ g cap, sv = .slice (some ⟨g, 0, none⟩) l.length cap ∧ (convert 64 9 (.slice (some ⟨g, 0, none⟩) l.length cap)).run Tryz.prog W = .ok (.string ⟨l.toArray⟩) W := by
  rcases h.own.2 with ⟨-, h0⟩ | ⟨g, cap, cur, h1, -, -, -, -, -, -⟩
  · omega
  · subst h1
    exact ⟨g, cap, rfl, run_convert_bytes_back (P := Tryz.prog) W 64 9 5 ⟨g, 0, none⟩ cap l Tryz.underlying64 Tryz.underlying5 Tryz.underlying9 (fun j hj => h.own.cells (g := g) rfl j _ (by simp [Lib.byteCells, hj]))⟩
theorem two_nums (F : Nat → Int) : (nums F 0 2).toArray = #[.int .i64 (F 0), .int .i64 (F 1)] := rfl
theorem kyT_two (P : Nat → Int) (j : Nat) : kyT ((List.range (2 * (j + 1))).map P) = kyT ((List.range (2 * j)).map P) ++ kyT ((List.range 2).map fun i => P (2 * j + i)) := by
  rw [← kyT_append, show 2 * (j + 1) = 2 * j + 2 by omega, List.range_add, List.map_append, List.map_map]
  rfl
theorem kyB_end (P : Nat → Int) : kyB P = kyT ((List.range (2 * 64)).map P) ++ kyT [P 128, P 129, ovU P] := by
  unfold kyB kyL
  rw [← kyT_append]
  congr 1
theorem inWf {P : Nat → Int} (h : ∀ i, i < 133 → -9223372036854775808 ≤ P i ∧ P i ≤ 9223372036854775807) : -9223372036854775808 ≤ ovU P ∧ ovU P ≤ 9223372036854775807 := by
  rcases ovU_or P with e | e
  · rw [e]; omega
  · rw [e]; exact h 130 (by omega)
set_option maxHeartbeats 8000000 in
set_option maxRecDepth 100000 in
theorem key_any (P : Nat → Int) (hP : ∀ i, i < 133 → -9223372036854775808 ≤ P i ∧ P i ≤ 9223372036854775807) (w : World) (B : Nat) (hgb : GB B w) (hgs : GS B w) (hgm : GM B w) (hgp : GP B w) (ht : TP w.heap.size w) (hB : B ≤ w.heap.size) :
    Calls Tryz.prog 13 #[.agg (pc P).toArray] w fun e w' => e = .returned (.string ⟨(kyB P).toArray⟩) ∧ Below w.heap.size w w' := by
  have MN := Lib.hid (fun (vb m : Nat) (F : Nat → Int) (hF : ∀ i, i < m → -9223372036854775808 ≤ F i ∧ F i ≤ 9223372036854775807) sv xs W (hW : KZ w W P sv xs) (hr : W.heap[vb]? = some (.cells (nums F 0 m).toArray 3 (0, 0))) (hl : xs.length + 22 * m ≤ 1000000) =>
    numbers_any w.heap.size vb m F hF sv xs W hW.own hr hW.b.size hl (ht.on hW.b))
  have MO := Lib.hid (fun W (h : Below w.heap.size w W) => overU_any P W B (hgb.below (h.mono hB)) (hgs.below (h.mono hB)) (hgm.below (h.mono hB)) (hgp.below (h.mono hB)) (Nat.le_trans hB h.size))
  have HLEN := Lib.hid (fun j (hj : j ≤ 64) => show (kyT ((List.range (2 * j)).map P)).length ≤ 2816 by
    have h1 := kyT_len ((List.range (2 * j)).map P) fun n hn => by
      obtain ⟨i, hi, rfl⟩ := List.mem_map.1 hn
      exact hP i (by have := List.mem_range.1 hi; omega)
    rw [List.length_map, List.length_range] at h1
    omega)
  have HP2 := Lib.hid (fun j (hj : j < 64) i (hi : i < 2) => hP (2 * j + i) (by omega))
  have HP3 := Lib.hid (show ∀ i, i < 3 → -9223372036854775808 ≤ (fun i => if i = 0 then P 128 else if i = 1 then P 129 else ovU P) i ∧ (fun i => if i = 0 then P 128 else if i = 1 then P 129 else ovU P) i ≤ 9223372036854775807 from fun i hi => by
    rcases (show i = 0 ∨ i = 1 ∨ i = 2 by omega) with rfl | rfl | rfl
    · exact hP 128 (by omega)
    · exact hP 129 (by omega)
    · exact inWf hP)
  have M3 := Lib.hid (fun vb sv xs W (h : KZ w W P sv xs) (hr : W.heap[vb]? = some (.cells #[.int .i64 (P 128), .int .i64 (P 129), .int .i64 (ovU P)] 3 (0, 0))) (hl : xs.length ≤ 2816) =>
    show Calls Tryz.prog 33 #[sv, .slice (some ⟨vb, 0, none⟩) 3 3] W fun e w' => ∃ v', e = .returned v' ∧ w'.ownsRow w.heap.size 5 1 v' (xs ++ kyT [P 128, P 129, ovU P]).length (Lib.byteCells (xs ++ kyT [P 128, P 129, ovU P])) ∧ Below w.heap.size W w' ∧ Lib.OthersKept 5 none W w' from
      MN.out vb 3 _ HP3.out sv xs W h hr (by omega))
  clear HP3
  obtain ⟨X, hX⟩ : ∃ X, X = (pc P).toArray := ⟨_, rfl⟩
  have HI := Lib.hid (show PB (w.alloc (.cells X 30)) w.heap.size P ∧ (w.alloc (.cells X 30)).heap[w.heap.size]? = some (.cells X 30 (0, 0)) ∧ Below w.heap.size w (w.alloc (.cells X 30)) from ⟨by rw [hX]; exact PB.new rfl, sl_at rfl, below_new _⟩)
  rw [← hX] at MO ⊢
  obtain ⟨Z, hZ⟩ : ∃ Z, Z = (nums P 0 128).toArray := ⟨_, rfl⟩
  have HIX := Lib.hid (show ∀ (j : Nat) (hj : j < 64) (W : World), (Instr.index 27 (.agg Z) (.int .i64 (j : Int))).run Tryz.prog W = .ok (.agg #[.int .i64 (P (2 * j)), .int .i64 (P (2 * j + 1))]) W from fun j hj W => by
    rw [hZ]; exact index_sqs P j hj W)
  have HEND := Lib.hid (kyB_end P)
  have HX := Lib.hid hX
  have HZ := Lib.hid hZ
  clear hX hZ hgb hgs hgm hgp ht hB hP
  go_enter Tryz.func13, Tryz.ntmps13
  go_upto_region 1 with (fail)
  refine forget_B (fun W => PB W w.heap.size P ∧ W.heap[w.heap.size]? = some (.cells X 30 (0, 0)) ∧ Below w.heap.size w W) HI.out ?_
  clear HI
  rintro W ⟨h1, h2, h3⟩
  have H1 := Lib.hid h1
  have H2 := Lib.hid h2
  have H3 := Lib.hid h3
  clear h1 h2 h3
  obtain ⟨w1, hmk, hown, hgr⟩ : ∃ w1, (Instr.makeSlice 64 (.int .i64 0) (.int .i64 264)).run Tryz.prog W = .ok (.slice (some ⟨W.heap.size, 0, none⟩) 0 264) w1 ∧ w1.ownsRow w.heap.size 5 1 (.slice (some ⟨W.heap.size, 0, none⟩) 0 264) 0 [] ∧ W.grownBy w1 none := by
    obtain ⟨i0, hi, hz0, hz1, hz2⟩ := info_parts infoU8'
    exact run_make_own (P := Tryz.prog) W w.heap.size 64 5 i0 (.int .u8 0) 1 Tryz.underlying64 hi hz0 hz1 .i64 .i64 264 (by rw [hz2]; omega) (by unfold maxLen; omega) H3.out.size
  have hb1 : Below W.heap.size W w1 := ⟨hgr.os, hgr.tape, hgr.output, hgr.size, fun k hk => hgr.block k hk (by simp)⟩
  have HZ1 := Lib.hid (show KZ w w1 P (.slice (some ⟨W.heap.size, 0, none⟩) 0 264) (kyT ((List.range (2 * 0)).map P)) from ⟨by simpa [kyT, Lib.byteCells] using hown, ⟨X, HX.out, sl_go H2.out hb1⟩, H3.out.trans (hb1.mono H3.out.size)⟩)
  clear hown hgr hb1
  go_upto_region 2 with (fail)
  clear hmk H1 H2 H3
  generalize W.heap.size = kb at *
  go_wp2_with (refine wpList_sqs (by rfl) _ (by rfl) w.heap.size P Z HZ.out (by rfl) HZ1.out.pb ?_)
  go_loopw [3, 9] (fun sv x wr => ∃ j : Nat, j ≤ 64 ∧ x = .int .i64 (j : Int) ∧ KZ w wr P sv (kyT ((List.range (2 * j)).map P))) (fun _ x _ => 64 - (intOf x).toNat)
  case atStart => exact ⟨0, Nat.zero_le _, rfl, HZ1.out⟩
  case round =>
    clear HZ1
    obtain ⟨j, hj, rfl, h1⟩ := hrel
    have H1 := Lib.hid h1
    clear h1
    by_cases hlt : j < 64
    · have hix := HIX.out j hlt
      have HNX := Lib.hid (kyT_two P j)
      have MM := Lib.hid (fun vb sv xs W h hr hl => MN.out vb 2 (fun i => P (2 * j + i)) (HP2.out j hlt) sv xs W h hr hl)
      have HLL := Lib.hid (HLEN.out j hj)
      obtain ⟨xs, hxs⟩ : ∃ l, kyT ((List.range (2 * j)).map P) = l := ⟨_, rfl⟩
      obtain ⟨ys, hys⟩ : ∃ l, kyT ((List.range 2).map fun i => P (2 * j + i)) = l := ⟨_, rfl⟩
      rw [hxs] at H1 HNX HLL
      rw [hys] at HNX MM
      have HF0 := Lib.hid (two_nums fun i => P (2 * j + i))
      generalize (nums (fun i => P (2 * j + i)) 0 2).toArray = NN at *
      have e0 : P (2 * j + 0) = P (2 * j) := rfl
      rw [e0] at HF0
      generalize P (2 * j) = k at *
      generalize P (2 * j + 1) = d at *
      have j0 : (0 : Int) ≤ (j : Int) := by omega
      clear hxs hys e0
      go_upto_region 5 with (fail)
      refine forget_B (fun W => KZ w W P u3 xs ∧ W.heap[wr.heap.size]? = some (.cells #[.int .i64 k, .int .i64 d] 26 (0, 0))) ⟨H1.out.go (below_new _), sl_at rfl⟩ ?_
      clear H1 hix
      rintro W3 ⟨h1, h2⟩
      obtain ⟨q1, q2, qf, qz⟩ := row2 h2
      have HA := Lib.hid (MM.out W3.heap.size u3 xs (W3.alloc (.cells #[.int .i64 k, .int .i64 d] 3)) (h1.go (below_new _)) (by rw [HF0.out]; exact sl_at rfl) (by have := HLL.out; omega))
      have H1 := Lib.hid (h1.go (below_new (.cells #[.int .i64 k, .int .i64 d] 3)))
      clear h1 h2
      go_wp2_with fail
      refine HA.out.mono ?_
      rintro e w4 ⟨v4, rfl, hown, hb, hk⟩
      have H4 := Lib.hid (H1.out.put hown hb hk)
      rw [← HNX.out] at H4
      clear hown hb hk H1 HA q1 q2 qf qz HF0
      dsimp only
      refine list_go (by assumption) ?_
      go_wp2
      go_roundw
      case rel => exact ⟨j + 1, by omega, by go_num, H4.out⟩
      case measure => simp [intOf]; omega
    · obtain rfl : j = 64 := by omega
      have HL3 := Lib.hid (HLEN.out 64 (Nat.le_refl _))
      have c1 := Lib.hid (fun W (h : PB W w.heap.size P) => h.cell 128 (by omega))
      have c2 := Lib.hid (fun W (h : PB W w.heap.size P) => h.cell 129 (by omega))
      have HPO := Lib.hid (show 0 < (kyB P).length by
        rw [HEND.out, List.length_append]
        have : kyT [P 128, P 129, ovU P] = kyT [P 128, P 129] ++ (Lib.itoa (ovU P) ++ [32]) := by rw [← kyT_one, ← kyT_append]; rfl
        rw [this, List.length_append, List.length_append, List.length_cons]
        omega)
      have M4 := Lib.hid (fun vb sv W (h : KZ w W P sv (kyT ((List.range (2 * 64)).map P))) hr => M3.out vb sv _ W h hr HL3.out)
      rw [← HEND.out] at M4
      have HST := Lib.hid (fun sv W (h : KZ w W P sv (kyB P)) => h.str HPO.out)
      generalize kyT ((List.range (2 * 64)).map P) = xs at *
      obtain ⟨ys, hys⟩ : ∃ y, kyB P = y := ⟨_, rfl⟩
      rw [hys] at M4 HST
      have HYS := Lib.hid (show (Ending.returned (.string ⟨ys.toArray⟩)) = .returned (.string ⟨(kyB P).toArray⟩) by rw [hys])
      clear hys
      generalize P 128 = s at *
      generalize P 129 = c at *
      generalize ovU P = o at *
      clear M3 HL3 HLEN HPO
      go_upto_region 7 with (fail)
      refine wp_region_noPanic ?_
      refine wp_region_start (n := 11) (l := #[ff, ff, ff, ff, ff, ff, ff, ff, ff, ff, ff]) (S := (fun W => PB W w.heap.size P)) (by kernel_rfl) rfl (by kernel_rfl) (by first | exact HI.out.pb | exact (H1.out.go (Below.refl _ _).drew).pb) (fun hHeld => ?_)
      have HI := Lib.hid (H1.out.go (Below.refl wr.heap.size wr).drew)
      clear H1
      generalize wr.drew = V at *
      refine tq (i := 0) (d := some 20) rfl rfl ?_
      try simp only [aP, sA, sZ, sS]
      refine tq (i := 1) (d := some 21) rfl rfl ?_
      try simp only [aP, sA, sZ, sS]
      refine tg (i := 2) (d := some 22) (v := (.int .i64 s)) rfl rfl ?_ ?_
      · refine Or.inl ⟨by rfl, ?_⟩; intro w' hSw; (try dsimp only at hSw); have cc := c1.out _ hSw; go_simp
      try simp only [aP, sA, sZ, sS]
      refine tq (i := 3) (d := some 23) rfl rfl ?_
      try simp only [aP, sA, sZ, sS]
      refine tg (i := 4) (d := some 24) (v := (.int .i64 c)) rfl rfl ?_ ?_
      · refine Or.inl ⟨by rfl, ?_⟩; intro w' hSw; (try dsimp only at hSw); have cc := c2.out _ hSw; go_simp
      try simp only [aP, sA, sZ, sS]
      refine tg (i := 5) (d := some 25) (v := (.agg X)) rfl rfl ?_ ?_
      · exact yields_posC (by rfl) _ (by rfl) w.heap.size P X HX.out (by rfl) (fun W h => h)
      try simp only [aP, sA, sZ, sS]
      refine og (i := 6) rfl (by kernel_rfl) (fun K hK => ?_)
      go_simp
      refine (MO.out _ HI.out.b).mono ?_
      rintro e V ⟨rfl, hb⟩
      replace HI := Lib.hid (HI.out.go hb)
      clear hb
      dsimp only
      refine hK.out _ _ (by first | exact HI.out.pb | exact (H1.out.go (Below.refl _ _).drew).pb) (fun hHeld => ?_)
      clear hK K
      try simp only [aP, sA, sZ, sS]
      refine og (i := 7) rfl (by kernel_rfl) (fun K hK => ?_)
      go_simp
      have HR := Lib.hid (show (V.alloc (.cells #[.int .i64 s, .int .i64 c, .int .i64 o] 3)).heap[V.heap.size]? = some (.cells #[.int .i64 s, .int .i64 c, .int .i64 o] 3 (0, 0)) from sl_at rfl)
      replace HI := Lib.hid (HI.out.go (below_new (.cells #[.int .i64 s, .int .i64 c, .int .i64 o] 3)))
      generalize V.alloc (.cells #[.int .i64 s, .int .i64 c, .int .i64 o] 3) = V2 at *
      generalize V.heap.size = vb at *
      refine hK.out _ _ (by first | exact HI.out.pb | exact (H1.out.go (Below.refl _ _).drew).pb) (fun hHeld => ?_)
      clear hK K
      try simp only [aP, sA, sZ, sS]
      refine og (i := 8) rfl (by kernel_rfl) (fun K hK => ?_)
      go_simp
      refine (M4.out _ _ _ HI.out HR.out).mono ?_
      rintro e V ⟨v4, rfl, hown, hb, hk⟩
      replace HI := Lib.hid (HI.out.put hown hb hk)
      clear hown hb hk HR
      obtain ⟨g, cap, rfl, hcv⟩ := HST.out _ _ HI.out
      dsimp only
      refine hK.out _ _ (by first | exact HI.out.pb | exact (H1.out.go (Below.refl _ _).drew).pb) (fun hHeld => ?_)
      clear hK K
      try simp only [aP, sA, sZ, sS]
      refine og (i := 9) rfl (by kernel_rfl) (fun K hK => ?_)
      go_simp
      clear hcv
      refine hK.out _ _ (by first | exact HI.out.pb | exact (H1.out.go (Below.refl _ _).drew).pb) (fun hHeld => ?_)
      clear hK K
      try simp only [aP, sA, sZ, sS]
      refine tq (i := 10) (d := some 2) rfl rfl ?_
      try simp only [aP, sA, sZ, sS]
      refine wpAnyH_done (by kernel_rfl) ?_ _
      refine NoPanic.normal ?_
      clear hHeld M4 MO HST
      go_wp2
      go_ret
      exact ⟨HYS.out, HI.out.b⟩
end Go.Proofs.YtcdnakbdajbfoaaGreatDoor
