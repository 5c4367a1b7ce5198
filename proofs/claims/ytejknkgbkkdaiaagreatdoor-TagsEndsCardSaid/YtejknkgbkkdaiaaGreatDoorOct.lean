/-
  Contracts: a number's eight bytes, and back; a table's tag.
-/
import Derived.Test.YtejknkgbkkdaiaaGreatDoorMacTells
import Derived.Lib.LazyBuf
import Derived.ArgAppend
namespace Go.Proofs.YtejknkgbkkdaiaaGreatDoor
open Go.RowKit
set_option linter.unusedVariables false
set_option linter.unusedSimpArgs false

/-- a number's bits, the highest first -/
def oct (n : Nat) (j : Nat) : BitVec 8 := BitVec.ofNat 8 (n / 2 ^ (8 * (7 - j)))
def lim64 : Nat := 18446744073709551616
theorem oct_val (n i : Nat) (hi : i < 8) : IntKind.u8.wrap ((n : Int) / 2 ^ (8 * i)) = ub (oct n (7 - i)) := by
  unfold ub oct
  rw [IntKind.wrap_u8, BitVec.toNat_ofNat, show 7 - (7 - i) = i by omega]
  have e : ((n : Int) / 2 ^ (8 * i)) = ((n / 2 ^ (8 * i) : Nat) : Int) := by push_cast; rfl
  rw [e]
  omega
/-- what is stored of the octets: the last i -/
def octTo (n : Nat) (i : Nat) : Nat → BitVec 8 := fun j => if 8 - i ≤ j then oct n j else 0#8
set_option maxHeartbeats 1000000 in
set_option maxRecDepth 100000 in
theorem octets_any (n : Nat) (w : World) :
    Calls Tryz.prog 41 #[.int .u64 (n : Int)] w fun e w' => ∃ H, e = .returned (.slice (some ⟨H, 0, none⟩) 8 8) ∧ w.heap.size ≤ H ∧ Below w.heap.size w w' ∧ OB w' H 8 (oct n) := by
  obtain ⟨i0, hi, hz0, hz1, hz2⟩ := info_parts Tryz.infoB
  have hmk := fun W => run_make (P := Tryz.prog) W 22 5 i0 (.int .u8 0) Tryz.underlying22 hi hz0 .i64 .i64 8 8 (by omega) (by omega) (by rw [hz2]; omega) (by omega)
  rw [show (8 : Int).toNat = 8 from rfl, hz1] at hmk
  have h0 := OB.made w 8
  go_enter Tryz.func41, Tryz.ntmps41
  go_upto_region 2 with (fail)
  refine forget_code (fun W => Below w.heap.size w W ∧ OB W w.heap.size 8 (octTo n 0)) ⟨(Below.refl _ _).alloc (Nat.le_refl _) _, h0.congr fun i hi => by unfold octTo; rw [if_neg (by omega)]⟩ ?_
  rintro W ⟨hb0, ho0⟩
  have HB0 := Lib.hid hb0
  have HO0 := Lib.hid ho0
  clear hb0 ho0 h0 hmk
  go_wp2
  go_loopw [8] (fun iv wr => ∃ i : Nat, i ≤ 8 ∧ iv = .int .i64 i ∧ Below w.heap.size w wr ∧ OB wr w.heap.size 8 (octTo n i)) (fun iv _ => 8 - (intOf iv).toNat)
  case atStart => exact ⟨0, Nat.zero_le _, rfl, HB0.out, HO0.out⟩
  case round =>
    clear HB0 HO0
    obtain ⟨i, hi8, rfl, hb, ho⟩ := hrel
    by_cases hlt : i < 8
    · have hv := oct_val n i hlt
      have c1 := ho.bt.byte (7 - i) (by omega)
      have f1 := ho.bt.free (7 - i)
      have hsz : w.heap.size < wr.heap.size := ho.bt.lt
      have HB1 := Lib.hid (hb.grown (gr_setCell (hb := w.heap.size) (i := 7 - i) (.int .u8 (ub (oct n (7 - i))))) hb.size (by rintro k ⟨⟩; exact Nat.le_refl _))
      have HO1 := Lib.hid (ho.set (f' := octTo n (i + 1)) (7 - i) (by omega) (oct n (7 - i)) (by unfold octTo; rw [if_pos (by omega)]) (fun j h1 h2 => by
        unfold octTo
        by_cases h3 : 8 - i ≤ j
        · rw [if_pos h3, if_pos (by omega)]
        · rw [if_neg h3, if_neg (by omega)]))
      have hi7 : (7 : Int) - (i : Int) = ((7 - i : Nat) : Int) := by omega
      clear hb ho
      go_wp2
      go_roundw
      case rel => exact ⟨i + 1, by omega, by go_num, HB1.out, HO1.out⟩
      case measure => simp [intOf]; omega
    · obtain rfl : i = 8 := by omega
      have HB1 := Lib.hid hb
      have HO1 := Lib.hid (ho.congr (f' := oct n) fun j hj => by unfold octTo; rw [if_pos (by omega)])
      clear hb ho
      go_wp2
      go_ret
      exact ⟨_, rfl, Nat.le_refl _, HB1.out, HO1.out⟩
/-- bytes are stored in the midst -/
theorem BT.setMid {w : World} {tb n : Nat} {f f' : Nat → BitVec 8} (h : BT w tb n f) (o m : Nat) (hm : o + m ≤ n) (vs : List Value) (hv : vs = (List.range m).map fun i => .int .u8 (ub (f' (o + i)))) (ho : ∀ j, j < n → (j < o ∨ o + m ≤ j) → f' j = f j) : BT (w.setCells tb o vs) tb n f' := by
  have hl : vs.length = m := by rw [hv]; simp
  refine ⟨by rw [size_setCells]; exact h.lt, fun i hi => ?_, fun i => (World.frozen?_setCells _ _ _ _ _).trans (h.free i)⟩
  by_cases hin : o ≤ i ∧ i < o + m
  · have := World.cell?_setCells_in tb vs o w (fun j hj => by rw [h.byte (o + j) (by omega)]; rfl) (i - o) (by omega)
    rw [show o + (i - o) = i by omega] at this
    rw [this]
    subst hv
    simp [show i - o < m by omega, show o + (i - o) = i by omega]
  · rw [setCells_other (by omega), ho i hi (by omega)]; exact h.byte i hi
/-- the eight letters -/
def mrkL : List (BitVec 8) := [122#8, 117#8, 103#8, 122#8, 119#8, 97#8, 110#8, 103#8]
def mrk (i : Nat) : BitVec 8 := mrkL.getD i 0#8
/-- the tag of n -/
def numT (n i : Nat) : BitVec 8 := if i < 8 then mrk i else if i < 16 then oct n (i - 8) else 0#8
def mrkT (i : Nat) : BitVec 8 := if i < 8 then mrk i else 0#8
def mrkS : ByteArray := { data := #[122, 117, 103, 122, 119, 97, 110, 103] }
theorem mrkS_cells : (mrkS.data.toList.map fun x => Value.int .u8 (x.toNat : Int)) = (List.range 8).map fun i => .int .u8 (ub (mrkT (0 + i))) := by kernel_rfl
set_option maxHeartbeats 1000000 in
set_option maxRecDepth 100000 in
theorem numbered_any (n : Nat) (w : World) :
    Calls Tryz.prog 50 #[.int .u64 (n : Int)] w fun e w' => e = .returned (tagV (numT n)) ∧ Below w.heap.size w w' := by
  go_enter Tryz.func50, Tryz.ntmps50
  go_upto_region 2 with (fail)
  refine forget_code (fun W => Below w.heap.size w W ∧ BT W w.heap.size 32 (fun _ => 0#8) ∧ BT W (w.heap.size + 1) 32 (fun _ => 0#8))
    ⟨((Below.refl _ _).alloc (Nat.le_refl _) _).alloc (by simp) _, BT.of_cells (laid_old (laid_at rfl)) (fun i hi => zero_atL 32 i hi), BT.of_cells (laid_at (by simp)) (fun i hi => zero_atL 32 i hi)⟩ ?_
  rintro W ⟨hb0, h1, h2⟩
  have hcp1 : ∀ ty, (Builtin.copy_ #[22, 9] ty #[.slice (some ⟨w.heap.size + 1, 0, none⟩) 32 32, .string mrkS]).run Tryz.prog W = .ok (goInt 8) (W.setCells (w.heap.size + 1) 0 (mrkS.data.toList.map fun x => Value.int .u8 (x.toNat : Int))) := fun ty =>
    run_copy_string (P := Tryz.prog) W 22 9 ty 5 (w.heap.size + 1) 0 32 32 mrkS Tryz.underlying22 sizeU8 (by decide) (fun j hj => by have hj : j < 8 := hj; exact (h2.there 32 (by omega) j (by omega)).1) (fun j hj => by have hj : j < 8 := hj; exact (h2.there 32 (by omega) j (by omega)).2)
  have c2 := h2.setMid (f' := mrkT) 0 8 (by omega) _ mrkS_cells (fun j hj h => by unfold mrkT; rw [if_neg (by omega)])
  have c1 := h1.gr (gr_setCells (hb := w.heap.size + 1) (mrkS.data.toList.map fun x => Value.int .u8 (x.toNat : Int)) 0 W) (by omega)
  have c0 := hb0.grown (gr_setCells (hb := w.heap.size + 1) (mrkS.data.toList.map fun x => Value.int .u8 (x.toNat : Int)) 0 W) hb0.size (by rintro q ⟨⟩; omega)
  generalize W.setCells (w.heap.size + 1) 0 (mrkS.data.toList.map fun x => Value.int .u8 (x.toNat : Int)) = W2 at hcp1 c0 c1 c2
  have H0 := Lib.hid c0
  have H1 := Lib.hid c1
  have H2 := Lib.hid c2
  clear c0 c1 c2 h1 h2 hb0
  unfold mrkS at hcp1
  go_upto_region 3 with (fail)
  refine wp_region_noPanic ?_
  refine wp_region_start (n := 4) (l := #[false, false, false, false]) (S := (fun _ => True)) (by kernel_rfl) rfl (by kernel_rfl) (by trivial) (fun hHeld => ?_)
  refine take_to (i := 0) (d := some 6) (v := ?_) (l' := #[true, false, false, false]) rfl rfl (by kernel_rfl) (by kernel_rfl) (by kernel_rfl) (by kernel_rfl) (fun _ _ _ h => h) (Or.inl ⟨by rfl, ?_⟩) (by assumption) ?_; rotate_left; · (intro w' hSw; (try dsimp only at hSw); go_simp; (try with_reducible rfl))
  try simp only [Act.put, List.setIfInBounds_toArray, List.set_cons_zero, List.set_cons_succ]
  refine take_to (i := 1) (d := some 7) (v := ?_) (l' := #[true, true, false, false]) rfl rfl (by kernel_rfl) (by kernel_rfl) (by kernel_rfl) (by kernel_rfl) (fun _ _ _ h => h) (Or.inl ⟨by rfl, ?_⟩) (by assumption) ?_; rotate_left; · (intro w' hSw; (try dsimp only at hSw); go_simp; (try with_reducible rfl))
  try simp only [Act.put, List.setIfInBounds_toArray, List.set_cons_zero, List.set_cons_succ]
  refine one_to (i := 2) (l' := #[true, true, true, false]) rfl (by kernel_rfl) (by kernel_rfl) (fun K hK => ?_)
  go_simp
  refine (octets_any n _).mono ?_
  rintro e w3 ⟨H, rfl, hH, hb3, ho3⟩
  have d0 := H0.out.drew.trans (hb3.mono H0.out.drew.size)
  have d1 := H1.out.drew.below' hb3
  have d2 := H2.out.drew.below' hb3
  have hcp2 : ∀ ty, (Builtin.copy_ #[22, 22] ty #[.slice (some ⟨w.heap.size + 1, 8, none⟩) 24 24, .slice (some ⟨H, 0, none⟩) 8 8]).run Tryz.prog w3 = .ok (goInt 8) (w3.setCells (w.heap.size + 1) 8 ((List.range 8).map fun i => .int .u8 (ub (oct n i)))) := fun ty => by
    have := run_copy_cells (P := Tryz.prog) w3 22 22 ty 5 (w.heap.size + 1) 8 24 24 ⟨H, 0, none⟩ 8 8 ((List.range 8).map fun i => .int .u8 (ub (oct n i))) Tryz.underlying22 (by kernel_rfl) (by rw [List.length_map, List.length_range]; rfl) (fun j v hv => by
      rw [Addr.add_mid]; exact ho3.bt.range j v hv) (fun j hj => by
      have hj : j < 8 := by simpa using hj
      rw [d2.byte (8 + j) (by omega)]; rfl) (fun j hj => d2.free _) (fun v hv => by
      obtain ⟨i, _, rfl⟩ := List.mem_map.1 hv
      rfl)
    rw [List.length_map, List.length_range] at this
    exact this
  have c2 := d2.setMid (f' := numT n) 8 8 (by omega) ((List.range 8).map fun i => .int .u8 (ub (oct n i))) (List.map_congr_left fun i hi => by have hi := List.mem_range.1 hi; unfold numT; rw [if_neg (by omega), if_pos (by omega), show 8 + i - 8 = i by omega]) (fun j hj h => by
    unfold numT mrkT
    by_cases h8 : j < 8
    · rw [if_pos h8, if_pos h8]
    · rw [if_neg h8, if_neg h8, if_neg (by omega)])
  have c1 := d1.gr (gr_setCells (hb := w.heap.size + 1) ((List.range 8).map fun i => .int .u8 (ub (oct n i))) 8 w3) (by omega)
  have c0 := d0.grown (gr_setCells (hb := w.heap.size + 1) ((List.range 8).map fun i => .int .u8 (ub (oct n i))) 8 w3) d0.size (by rintro q ⟨⟩; omega)
  generalize w3.setCells (w.heap.size + 1) 8 ((List.range 8).map fun i => .int .u8 (ub (oct n i))) = W6 at hcp2 c0 c1 c2
  have F0 := Lib.hid c0
  have F1 := Lib.hid c1
  have F2 := Lib.hid c2
  clear c0 c1 c2 d0 d1 d2 ho3 hb3 hH
  dsimp only
  refine hK.out _ _ (by trivial) (fun hHeld => ?_)
  clear hK K
  try simp only [Act.put, List.setIfInBounds_toArray, List.set_cons_zero, List.set_cons_succ]
  refine one_to (i := 3) (l' := #[true, true, true, true]) rfl (by kernel_rfl) (by kernel_rfl) (fun K hK => ?_)
  go_simp
  refine hK.out _ _ (by trivial) (fun hHeld => ?_)
  clear hK K
  try simp only [Act.put, List.setIfInBounds_toArray, List.set_cons_zero, List.set_cons_succ]
  refine wpAnyH_done (by kernel_rfl) ?_ _
  refine NoPanic.normal ?_
  clear hcp2 hHeld
  go_upto_region 4 with (fail)
  refine wp_region_lit ?_
  refine wpList_load_mid rfl 25 _ rfl (w.heap.size + 1) 0 rfl (tagC (numT n)) _ F2.out.range Tryz.underlying25 rfl (by simp [infoTag, tagC_len]) ?_
  refine wpList_store_mid rfl 25 _ _ rfl w.heap.size 0 (tagC (numT n)).toArray rfl rfl (by simpa [tagC_len] using F1.out.there 32 (Nat.le_refl _)) (by simp [infoTag, tagC_len]) (tagC_one _) ?_
  rw [List.toList_toArray]
  have HR5 := Lib.hid (World.rangeAt_setCells_same W6 w.heap.size 0 (tagC (numT n)) (by rw [tagC_len]; exact F1.out.there 32 (Nat.le_refl _)))
  have HB5 := Lib.hid (F0.out.grown (gr_setCells (hb := w.heap.size) (tagC (numT n)) 0 W6) F0.out.size (by rintro q ⟨⟩; omega))
  generalize W6.setCells w.heap.size 0 (tagC (numT n)) = W7 at HR5 HB5 ⊢
  show Exit.then _ _ Exit.normal _ _
  go_wp2
  refine bodyPost_ret (v := tagV (numT n)) ?_ rfl ⟨rfl, HB5.out⟩
  exact results_cell_mid (p := 2) (ty := 25) rfl _ W7 w.heap.size _ _ rfl HR5.out Tryz.underlying25 rfl (by simp [infoTag, tagC_len])
set_option maxHeartbeats 1000000 in
set_option maxRecDepth 100000 in
theorem eight_any (n : Int) (N : Nat) (h : IntKind.u64.wrap n = (N : Int)) (w : World) :
    Calls Tryz.prog 36 #[.int .i64 n] w fun e w' => ∃ v, e = .returned v ∧ Below w.heap.size w w' ∧ w'.ownsRow w.heap.size 5 1 v 8 (cellsOf (oct N) 8) := by
  go_enter Tryz.func36, Tryz.ntmps36
  go_wp2
  go_loopw [3, 4] (fun v kv wr => ((∃ m : Nat, m < 8 ∧ kv = .int .i64 (m : Int) ∧ wr.ownsRow w.heap.size 5 1 v (7 - m) (cellsOf (oct N) (7 - m))) ∨ (kv = .int .i64 (-1) ∧ wr.ownsRow w.heap.size 5 1 v 8 (cellsOf (oct N) 8))) ∧ Below w.heap.size w wr) (fun _ kv _ => (intOf kv + 1).toNat)
  case atStart => exact ⟨.inl ⟨7, by omega, rfl, World.ownsRow_nil _ _ _ _⟩, Below.refl _ _⟩
  case round =>
    obtain ⟨hc, hb⟩ := hrel
    rcases hc with ⟨m, hm, rfl, hown⟩ | ⟨rfl, hown⟩
    · have hsz := hb.size
      have hv := oct_val N m hm
      have hap := append_byte wr w.heap.size 22 _ (7 - m) (oct N) hown (.int .u8 (ub (oct N (7 - m)))) rfl (by omega) hsz
      have HAP := Lib.hid hap
      have HO := Lib.hid hown
      have HB := Lib.hid hb
      clear hap hown hb
      go_wp2_with (at_builtin; (obtain ⟨v', w1, hrun, hown1, hgr1⟩ := HAP.out; refine Lib.wpList_append_run _ rfl _ _ _ _ rfl _ _ rfl rfl v' w1 hrun ?_))
      have H2 := Lib.hid (HB.out.grown hgr1 hsz (fun q e => (HO.out.lt q e).1))
      have H3 := Lib.hid hown1
      clear hrun hown1 hgr1
      go_wp2
      go_roundw
      case rel =>
        refine ⟨?_, H2.out⟩
        by_cases h0 : m = 0
        · subst h0
          exact .inr ⟨rfl, H3.out⟩
        · refine .inl ⟨m - 1, by omega, ?_, ?_⟩
          · rw [show ((m - 1 : Nat) : Int) = (m : Int) - 1 by omega]
          have := H3.out
          rwa [show 7 - m + 1 = 7 - (m - 1) by omega] at this
      case measure => (simp [intOf]; try omega)
    · have HB := Lib.hid hb
      have HO := Lib.hid hown
      clear hb hown
      go_wp2
      go_ret
      exact ⟨_, rfl, HB.out, HO.out⟩
set_option maxHeartbeats 1000000 in
set_option maxRecDepth 100000 in
theorem number_any (n : Int) (N : Nat) (h : IntKind.u64.wrap n = (N : Int)) (w : World) :
    Calls Tryz.prog 19 #[.int .i64 n] w fun e w' => e = .returned (tagV (numT N)) ∧ Below w.heap.size w w' := by
  have HH := Lib.hid h
  clear h
  go_enter Tryz.func19, Tryz.ntmps19
  go_upto_region 2 with (fail)
  refine forget_code (fun W => Below w.heap.size w W ∧ BT W w.heap.size 32 (fun _ => 0#8) ∧ BT W (w.heap.size + 1) 32 (fun _ => 0#8))
    ⟨((Below.refl _ _).alloc (Nat.le_refl _) _).alloc (by simp) _, BT.of_cells (laid_old (laid_at rfl)) (fun i hi => zero_atL 32 i hi), BT.of_cells (laid_at (by simp)) (fun i hi => zero_atL 32 i hi)⟩ ?_
  rintro W ⟨hb0, h1, h2⟩
  have H0 := Lib.hid hb0
  have H1 := Lib.hid h1
  have H2 := Lib.hid h2
  clear hb0 h1 h2
  have kc := fun (W : World) => Lib.run_convert_bytes_const (P := Tryz.prog) W 22 5 #[.int .u8 122, .int .u8 117, .int .u8 103, .int .u8 122, .int .u8 119, .int .u8 97, .int .u8 110, .int .u8 103] 8 8 Tryz.underlying22 Tryz.underlying5
  simp only [List.size_toArray, List.length_cons, List.length_nil, World.size_alloc, Nat.zero_add, Nat.reduceAdd] at kc
  go_wp2_with fail
  refine (eight_any n N HH.out _).mono ?_
  rintro e w9 ⟨v9, rfl, hb9, ho9⟩
  obtain ⟨p9, c9, rfl, hr9, hc9, _⟩ := owns_reads ho9
  have q9 := hb9.size
  have qW := H0.out.size
  have hT := H2.out.lt
  simp only [World.size_alloc] at q9
  obtain ⟨i0, hi, hz0, hz1, hz2⟩ := info_parts Tryz.infoB
  have hlaid : w9.heap[W.heap.size]? = some (.cells #[.int .u8 122, .int .u8 117, .int .u8 103, .int .u8 122, .int .u8 119, .int .u8 97, .int .u8 110, .int .u8 103] 5 (8, 9)) := laid_go (laid_at rfl) hb9
  obtain ⟨b9, o9, rfl, hb9', hc9'⟩ : ∃ b o, p9 = some ⟨b, o, none⟩ ∧ b < w9.heap.size ∧ ∀ i, i < 8 → w9.cell? ⟨b, o + i, none⟩ = some (.int .u8 (ub (oct N i))) := by
    rcases hr9 with h | ⟨b, o, h1, h2, h3⟩
    · omega
    · exact ⟨b, o, h1, h2, h3⟩
  have hap : ∃ v' w', (Builtin.append_ #[22, 22] 22 #[.slice (some ⟨W.heap.size, 0, none⟩) 8 8, .slice (some ⟨b9, o9, none⟩) 8 c9]).run Tryz.prog w9 = .ok v' w' ∧ w'.ownsRow w9.heap.size 5 1 v' 16 (cellsOf (numT N) 16) ∧ w9.grownBy w' none := by
    obtain ⟨v', w', h1, h2, h3⟩ := run_append_arg_grows (P := Tryz.prog) (w := w9) 22 22 5 i0 (.int .u8 0) 1 1 Tryz.underlying22 hi hz0 hz1 hz2 rfl (by decide) ⟨W.heap.size, 0, none⟩ 8 8 ((List.range 8).map fun i => .int .u8 (ub (mrk i))) (by simp) (fun j u hj => by
      have hj8 : j < 8 := by have := (List.getElem?_eq_some_iff.1 hj).1; simpa using this
      rw [Go.WideShapes.add_plain, Nat.zero_add, cell_of_row w9 W.heap.size j _ 5 (8, 9) hlaid, ← hj]
      match j, hj8 with
      | 0, _ | 1, _ | 2, _ | 3, _ | 4, _ | 5, _ | 6, _ | 7, _ => rfl) ⟨b9, o9, none⟩ 8 c9 ((List.range 8).map fun i => .int .u8 (ub (oct N i))) (by simp) (fun j u hj => by
      have hj8 : j < 8 := by have := (List.getElem?_eq_some_iff.1 hj).1; simpa using this
      rw [Go.WideShapes.add_plain, hc9' j hj8, ← hj]
      simp [hj8]) (by omega) (by unfold maxLen; omega) (by omega)
    refine ⟨v', w', h1, ?_, h3⟩
    have e : (List.range 8).map (fun i => Value.int .u8 (ub (mrk i))) ++ (List.range 8).map (fun i => Value.int .u8 (ub (oct N i))) = cellsOf (numT N) 16 := by
      rw [show (16 : Nat) = 8 + 8 from rfl, ← cellsOf_add]
      congr 1
    rw [← e]
    exact h2
  have HAP := Lib.hid hap
  have hb9w : Below W.heap.size W w9 := ((Below.refl _ _).alloc (Nat.le_refl _) _).trans (hb9.mono (by simp))
  have F0 := Lib.hid (H0.out.trans (hb9w.mono qW))
  have F1 := Lib.hid (H1.out.below' hb9w)
  have F2 := Lib.hid (H2.out.below' hb9w)
  clear hap hb9 ho9 hr9 hlaid hc9' hb9w kc H0 H1 H2
  go_wp2_with (at_builtin; (obtain ⟨v', w10, hrun, hown, hgr⟩ := HAP.out; refine Lib.wpList_append_run _ rfl _ _ _ _ rfl _ _ rfl rfl v' w10 hrun ?_))
  have hb10 : Below w9.heap.size w9 w10 := ⟨hgr.os, hgr.tape, hgr.output, hgr.size, fun k hk => hgr.block k hk (by simp)⟩
  obtain ⟨p10, c10, rfl, hr10, hc10, _⟩ := owns_reads hown
  obtain ⟨b10, o10, rfl, hbb10, hcc10⟩ : ∃ b o, p10 = some ⟨b, o, none⟩ ∧ w9.heap.size ≤ b ∧ ∀ i, i < 16 → w10.cell? ⟨b, o + i, none⟩ = some (.int .u8 (ub (numT N i))) := by
    rcases hr10 with h | ⟨b, o, h1, h2, h3⟩
    · omega
    · subst h1
      have hoff := hown.2
      rcases hoff with ⟨h, _⟩ | ⟨g, cap, cur, h, hg, _⟩
      · cases h
      · cases h
        exact ⟨_, _, rfl, hg, h3⟩
  have hbl10 : b10 < w10.heap.size := by
    rcases hr10 with h | ⟨b, o, h1, h2, h3⟩
    · omega
    · cases h1; exact h2
  have G0 := Lib.hid (F0.out.trans (hb10.mono (by omega)))
  have G1 := Lib.hid (F1.out.below' hb10)
  have G2 := Lib.hid (F2.out.below' hb10)
  have GC := Lib.hid hcc10
  clear hrun hown hgr hb10 hr10 hcc10 HAP F0 F1 F2
  go_wp2
  go_loopw [5] (fun iv wr => ∃ j : Nat, j ≤ 16 ∧ iv = .int .i64 j ∧ w10.grownBy wr (some (w.heap.size + 1)) ∧ BT wr (w.heap.size + 1) 32 (fun i => if i < j then numT N i else 0#8)) (fun iv _ => 16 - (intOf iv).toNat)
  case atStart => exact ⟨0, Nat.zero_le _, rfl, World.grownBy.refl _ _, G2.out.congr fun i hi => by rw [if_neg (by omega)]⟩
  case round =>
    obtain ⟨j, hj, rfl, hg, hbt⟩ := hrel
    by_cases hlt : j < 16
    · have c1 : wr.cell? ⟨b10, o10 + j, none⟩ = some (.int .u8 (ub (numT N j))) := (World.cell?_of_block (a := ⟨b10, o10 + j, none⟩) (hg.block b10 hbl10 (by simp; omega))).trans (GC.out j hlt)
      have f1 := hbt.free j
      have c2 := hbt.byte j (by omega)
      rw [if_neg (by omega)] at c2
      have H3 := Lib.hid (hg.trans (gr_setCell (hb := w.heap.size + 1) (i := j) (.int .u8 (ub (numT N j)))))
      have H4 := Lib.hid (hbt.set (f' := fun i => if i < j + 1 then numT N i else 0#8) j (by omega) (numT N j) (by rw [if_pos (by omega)]) (fun i h1 h2 => by
        by_cases h3 : i < j
        · rw [if_pos h3, if_pos (by omega)]
        · rw [if_neg h3, if_neg (by omega)]))
      have hj32 : (j : Int) < 32 := by omega
      clear hg hbt
      go_wp2
      go_roundw
      case rel => exact ⟨j + 1, by omega, by go_num, H3.out, H4.out⟩
      case measure => simp [intOf]; omega
    · obtain rfl : j = 16 := by omega
      have K0 := Lib.hid (G0.out.grown hg G0.out.size (by rintro q ⟨⟩; omega))
      have K1 := Lib.hid (G1.out.gr hg (by omega))
      have K2 := Lib.hid (hbt.congr (f' := numT N) fun i hi => by
        by_cases h3 : i < 16
        · rw [if_pos h3]
        · rw [if_neg h3]; unfold numT; rw [if_neg (by omega), if_neg h3])
      clear hg hbt
      go_upto_region 7 with (fail)
      refine wp_region_lit ?_
      refine wpList_load_mid rfl 25 _ rfl (w.heap.size + 1) 0 rfl (tagC (numT N)) _ K2.out.range Tryz.underlying25 rfl (by simp [infoTag, tagC_len]) ?_
      refine wpList_store_mid rfl 25 _ _ rfl w.heap.size 0 (tagC (numT N)).toArray rfl rfl (by simpa [tagC_len] using K1.out.there 32 (Nat.le_refl _)) (by simp [infoTag, tagC_len]) (tagC_one _) ?_
      rw [List.toList_toArray]
      have HR5 := Lib.hid (World.rangeAt_setCells_same wr w.heap.size 0 (tagC (numT N)) (by rw [tagC_len]; exact K1.out.there 32 (Nat.le_refl _)))
      have HB5 := Lib.hid (K0.out.grown (gr_setCells (hb := w.heap.size) (tagC (numT N)) 0 wr) K0.out.size (by rintro q ⟨⟩; omega))
      generalize wr.setCells w.heap.size 0 (tagC (numT N)) = W7 at HR5 HB5 ⊢
      show Exit.then _ _ Exit.normal _ _
      go_wp2
      refine bodyPost_ret (v := tagV (numT N)) ?_ rfl ⟨rfl, HB5.out⟩
      exact results_cell_mid (p := 2) (ty := 25) rfl _ W7 w.heap.size _ _ rfl HR5.out Tryz.underlying25 rfl (by simp [infoTag, tagC_len])
end Go.Proofs.YtejknkgbkkdaiaaGreatDoor
