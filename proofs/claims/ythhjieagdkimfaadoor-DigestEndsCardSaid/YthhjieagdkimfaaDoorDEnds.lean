/-
  The walk of DigestEnds: all lengths to 130, a hasher that is full, no hasher.
-/
import Derived.Test.YthhjieagdkimfaaDoorDTells
namespace Go.Proofs.YthhjieagdkimfaaDoor
open Go.RowKit
set_option linter.unusedVariables false
set_option linter.unusedSimpArgs false

theorem neq_nil_own (w : World) (a : Addr) : (binOp .neq 25 (.pointer none) (.pointer (some a))).run Tryd.prog w = .ok (.bool true) w := by
  have h : ∀ d : Nat, (Op.equalIn (d + 1) 25 (.pointer none) (.pointer (some a))).run Tryd.prog w = .ok false w := fun d => by
    simp [Op.equalIn, run_underlying Tryd.underlying25]
  simp only [binOp]
  simp [Op.equal, Op.maxDepth, h 9999]
/-- x is no hasher: nil, or one that New did not make -/
def NoH (w : World) (x : Option Addr) : Prop := ∀ a, x = some a → ∃ hb, a = ⟨hb, 0, none⟩ ∧ hb < w.heap.size ∧ w.cell? ⟨hb, 73, none⟩ = some (.pointer none)
theorem NoH.below {w w' : World} {x : Option Addr} (h : NoH w x) (b : Below w.heap.size w w') : NoH w' x := fun a e => by
  obtain ⟨hb, h1, h2, h3⟩ := h a e
  exact ⟨hb, h1, Nat.lt_of_lt_of_le h2 b.size, by rw [b.cell (p := ⟨hb, 73, none⟩) h2]; exact h3⟩
set_option maxHeartbeats 400000 in
theorem none_no (w : World) (x : Option Addr) (h : NoH w x) :
    Calls Tryd.prog 40 #[.pointer x] w fun e w' => e = .returned (.bool true) ∧ w = w' := by
  cases x with
  | none =>
    clear h
    go_enter Tryd.func40, Tryd.ntmps40
    go_wp2
    go_ret
    exact ⟨rfl, rfl⟩
  | some a =>
    obtain ⟨hb, rfl, _, h1⟩ := h a rfl
    have h2 := neq_nil_own w ⟨hb, 0, none⟩
    clear h
    go_enter Tryd.func40, Tryd.ntmps40
    go_wp2
    go_ret
    exact ⟨rfl, rfl⟩
set_option maxHeartbeats 400000 in
theorem len_no (w : World) (x : Option Addr) (h : NoH w x) :
    Calls Tryd.prog 16 #[.pointer x] w fun e w' => e = .returned (.int .i64 0) ∧ w = w' := by
  have H := Lib.hid h
  clear h
  go_enter Tryd.func16, Tryd.ntmps16
  go_wp2_with fail
  refine (none_no w x H.out).mono ?_
  rintro e w' ⟨rfl, rfl⟩
  go_wp2
  go_ret
  exact ⟨rfl, rfl⟩
set_option maxHeartbeats 400000 in
theorem write_no (w : World) (x : Option Addr) (h : NoH w x) (v : Value) :
    Calls Tryd.prog 12 #[.pointer x, v] w fun e w' => e = .returned (.int .i64 1) ∧ w = w' := by
  have H := Lib.hid h
  clear h
  go_enter Tryd.func12, Tryd.ntmps12
  go_wp2_with fail
  refine (none_no w x H.out).mono ?_
  rintro e w' ⟨rfl, rfl⟩
  go_wp2
  go_ret
  exact ⟨rfl, rfl⟩
theorem zeroTag : (Value.agg #[Value.int .u8 0, Value.int .u8 0, Value.int .u8 0, Value.int .u8 0, Value.int .u8 0, Value.int .u8 0, Value.int .u8 0, Value.int .u8 0, Value.int .u8 0, Value.int .u8 0, Value.int .u8 0, Value.int .u8 0, Value.int .u8 0, Value.int .u8 0, Value.int .u8 0, Value.int .u8 0, Value.int .u8 0, Value.int .u8 0, Value.int .u8 0, Value.int .u8 0, Value.int .u8 0, Value.int .u8 0, Value.int .u8 0, Value.int .u8 0, Value.int .u8 0, Value.int .u8 0, Value.int .u8 0, Value.int .u8 0, Value.int .u8 0, Value.int .u8 0, Value.int .u8 0, Value.int .u8 0]) = tagV (fun _ => 0#8) := by kernel_rfl
theorem zeroTagA : #[Value.int .u8 0, Value.int .u8 0, Value.int .u8 0, Value.int .u8 0, Value.int .u8 0, Value.int .u8 0, Value.int .u8 0, Value.int .u8 0, Value.int .u8 0, Value.int .u8 0, Value.int .u8 0, Value.int .u8 0, Value.int .u8 0, Value.int .u8 0, Value.int .u8 0, Value.int .u8 0, Value.int .u8 0, Value.int .u8 0, Value.int .u8 0, Value.int .u8 0, Value.int .u8 0, Value.int .u8 0, Value.int .u8 0, Value.int .u8 0, Value.int .u8 0, Value.int .u8 0, Value.int .u8 0, Value.int .u8 0, Value.int .u8 0, Value.int .u8 0, Value.int .u8 0, Value.int .u8 0] = (tagC fun _ => 0#8).toArray := by kernel_rfl
set_option maxHeartbeats 400000 in
theorem tag_no (w : World) (x : Option Addr) (h : NoH w x) :
    Calls Tryd.prog 13 #[.pointer x] w fun e w' => e = .returned (tagV fun _ => 0#8) ∧ Below w.heap.size w w' := by
  have H := Lib.hid h
  clear h
  go_enter Tryd.func13, Tryd.ntmps13
  go_wp2_with fail
  refine (none_no _ x (H.out.below ((Below.refl _ _).alloc (Nat.le_refl _) _))).mono ?_
  rintro e w' ⟨rfl, rfl⟩
  go_upto_region 2 with (fail)
  refine forget_code (fun W => Below w.heap.size w W ∧ W.there w.heap.size 0 32 ∧ w.heap.size < W.heap.size)
    ⟨(Below.refl _ _).alloc (Nat.le_refl _) _, there_block (laid_at rfl) (by simp), by simp⟩ ?_
  rintro W ⟨hbel, ht, hsz⟩
  refine wp_region_lit ?_
  refine wpList_plain rfl (fun K hK => ?_)
  go_simp
  refine hK _ _ ?_
  clear hK K
  refine wpList_store_mid rfl 32 _ _ rfl w.heap.size 0 (tagC fun _ => 0#8).toArray rfl zeroTag (by simpa [tagC_len] using ht) (by simp [infoTag, tagC_len]) (tagC_one _) ?_
  rw [List.toList_toArray]
  have hr5 := World.rangeAt_setCells_same W w.heap.size 0 (tagC fun _ => 0#8) (by rw [tagC_len]; exact ht)
  have hb5 : Below w.heap.size w (W.setCells w.heap.size 0 (tagC fun _ => 0#8)) := hbel.grown (gr_setCells (hb := w.heap.size) (tagC fun _ => 0#8) 0 W) hbel.size (by rintro k ⟨⟩; exact Nat.le_refl _)
  generalize W.setCells w.heap.size 0 (tagC fun _ => 0#8) = W5 at hr5 hb5 ⊢
  have HR5 := Lib.hid hr5
  have HB5 := Lib.hid hb5
  clear hr5 hb5 ht hbel
  show Exit.then _ _ Exit.normal _ W5
  go_wp2
  refine bodyPost_ret (v := tagV fun _ => 0#8) ?_ rfl ⟨rfl, HB5.out⟩
  exact results_cell_mid (p := 2) (ty := 32) rfl _ W5 w.heap.size _ _ rfl HR5.out Tryd.underlying32 rfl (by simp [infoTag, tagC_len])
/-- the two hashers that are none -/
structure NW (w W : World) : Prop where
  bel : Below w.heap.size w W
  row : W.heap[w.heap.size + 1]? = some (.cells #[.pointer none, .pointer (some ⟨w.heap.size, 0, none⟩)] 25 (0, 0))
  own : W.cell? ⟨w.heap.size, 73, none⟩ = some (.pointer none)
  lt : w.heap.size < W.heap.size
theorem NW.go {w W W' : World} (h : NW w W) (g : Below W.heap.size W W') : NW w W' :=
  ⟨h.bel.trans (g.mono h.bel.size), (g.block _ (Array.getElem?_eq_some_iff.1 h.row).1).trans h.row, by rw [g.cell (p := ⟨w.heap.size, 73, none⟩) h.lt]; exact h.own, Nat.lt_of_lt_of_le h.lt g.size⟩
def nth2 (w : World) (k : Nat) : Option Addr := if k = 0 then none else some ⟨w.heap.size, 0, none⟩
theorem NW.no {w W : World} (h : NW w W) (k : Nat) : NoH W (nth2 w k) := fun a e => by
  unfold nth2 at e
  by_cases hk : k = 0
  · rw [if_pos hk] at e; cases e
  · rw [if_neg hk] at e; cases e; exact ⟨_, rfl, h.lt, h.own⟩
theorem NW.at {w W : World} (h : NW w W) (k : Nat) (hk : k < 2) : W.cell? ⟨w.heap.size + 1, k, none⟩ = some (.pointer (nth2 w k)) := by
  rw [cell_of_row W _ k _ _ (0, 0) h.row]
  match k, hk with
  | 0, _ => rfl
  | 1, _ => rfl
set_option maxHeartbeats 1000000 in
theorem none02_any (w : World) :
    Calls Tryd.prog 20 #[] w fun e w' => e = .returned (.bool true) ∧ Below w.heap.size w w' := by
  obtain ⟨T, hT⟩ : ∃ T, T = tagV (fun _ => 0#8) := ⟨_, rfl⟩
  have hneq : ∀ w, (binOp .neq 32 T (Value.agg #[Value.int .u8 0, Value.int .u8 0, Value.int .u8 0, Value.int .u8 0, Value.int .u8 0, Value.int .u8 0, Value.int .u8 0, Value.int .u8 0, Value.int .u8 0, Value.int .u8 0, Value.int .u8 0, Value.int .u8 0, Value.int .u8 0, Value.int .u8 0, Value.int .u8 0, Value.int .u8 0, Value.int .u8 0, Value.int .u8 0, Value.int .u8 0, Value.int .u8 0, Value.int .u8 0, Value.int .u8 0, Value.int .u8 0, Value.int .u8 0, Value.int .u8 0, Value.int .u8 0, Value.int .u8 0, Value.int .u8 0, Value.int .u8 0, Value.int .u8 0, Value.int .u8 0, Value.int .u8 0])).run Tryd.prog w = .ok (.bool false) w := by rw [zeroTag, hT]; exact neq_tag _
  have hgd : ∀ op x y w, (eqGuard op 32 x y T (Value.agg #[Value.int .u8 0, Value.int .u8 0, Value.int .u8 0, Value.int .u8 0, Value.int .u8 0, Value.int .u8 0, Value.int .u8 0, Value.int .u8 0, Value.int .u8 0, Value.int .u8 0, Value.int .u8 0, Value.int .u8 0, Value.int .u8 0, Value.int .u8 0, Value.int .u8 0, Value.int .u8 0, Value.int .u8 0, Value.int .u8 0, Value.int .u8 0, Value.int .u8 0, Value.int .u8 0, Value.int .u8 0, Value.int .u8 0, Value.int .u8 0, Value.int .u8 0, Value.int .u8 0, Value.int .u8 0, Value.int .u8 0, Value.int .u8 0, Value.int .u8 0, Value.int .u8 0, Value.int .u8 0])).run Tryd.prog w = .ok () w := by rw [zeroTag, hT]; exact guard_tag _ _
  have HTN := Lib.hid (show ∀ (W : World) x, NoH W x → Calls Tryd.prog 13 #[.pointer x] W fun e w' => e = .returned T ∧ Below W.heap.size W w' by rw [hT]; exact tag_no)
  clear hT
  go_enter Tryd.func20, Tryd.ntmps20
  go_upto_region 2 with (fail)
  refine forget_code (NW w) ⟨((Below.refl _ _).alloc (Nat.le_refl _) _).alloc (by simp) _, by have h := heap_alloc_new (w.alloc (.cells Tryd.zeroCells66 66)) (.cells #[.pointer none, .pointer (some ⟨w.heap.size, 0, none⟩)] 25); simpa using h,
      by rw [cell_of_row _ w.heap.size 73 Tryd.zeroCells66 66 (0, 0) (laid_old (laid_at rfl))]; kernel_rfl, by simp; omega⟩ ?_
  intro W hW
  have HW := Lib.hid hW
  clear hW
  go_wp2
  go_loopw [2] (fun i wr => ∃ k : Nat, k ≤ 2 ∧ i = .int .i64 k ∧ NW w wr) (fun i _ => 2 - (intOf i).toNat)
  case atStart => exact ⟨0, Nat.zero_le _, rfl, HW.out⟩
  case round =>
    clear HW
    obtain ⟨k, hk, rfl, hnw⟩ := hrel
    by_cases hlt : k < 2
    · have hc1 := hnw.at k hlt
      have HN := Lib.hid hnw
      obtain ⟨x, hx⟩ : ∃ x, x = nth2 w k := ⟨_, rfl⟩
      rw [← hx] at hc1
      have HX := Lib.hid (show ∀ W, NW w W → NoH W x by rw [hx]; exact fun W h => h.no k)
      clear hx hnw
      go_wp2_with fail
      refine (write_no wr x (HX.out _ HN.out) _).mono ?_
      rintro e w' ⟨rfl, rfl⟩
      go_wp2_with fail
      refine (HTN.out wr x (HX.out _ HN.out)).mono ?_
      rintro e w2 ⟨rfl, hb2⟩
      have H2 := Lib.hid (HN.out.go hb2)
      have hc2 : w2.cell? ⟨w.heap.size + 1, k, none⟩ = some (.pointer x) := by rw [hb2.cell (p := ⟨w.heap.size + 1, k, none⟩) (Array.getElem?_eq_some_iff.1 HN.out.row).1]; exact hc1
      clear hb2 hc1
      go_wp2_with fail
      refine (len_no w2 x (HX.out _ H2.out)).mono ?_
      rintro e w' ⟨rfl, rfl⟩
      go_wp2
      go_roundw
      case rel => exact ⟨k + 1, by omega, by go_num, H2.out⟩
      case measure => simp [intOf]; omega
    · obtain rfl : k = 2 := by omega
      have HB := Lib.hid hnw.bel
      clear hnw
      go_wp2
      go_ret
      exact ⟨rfl, HB.out⟩
theorem owns_slice0 {w : World} {base : Nat} {e : TypeId} {size : Nat} {v : Value} {n : Nat} {xs : List Value} (h : w.ownsRow base e size v n xs) : ∃ p c, v = .slice p n c ∧ n ≤ c ∧ c ≤ maxLen ∧ (p = none → c = 0) := by
  rcases h.2 with ⟨rfl, rfl⟩ | ⟨g, cap, cur, rfl, h1, h2, h3, h4, _⟩
  · exact ⟨none, 0, rfl, Nat.le_refl _, by unfold maxLen; omega, fun _ => rfl⟩
  · exact ⟨_, cap, rfl, h3, h4, fun e => by cases e⟩
/-- s[:q], s[q:], at an address if s is -/
theorem slice_to0 (p : Option Addr) (n c q : Nat) (hq : q ≤ n) (hc : n ≤ c) :
    ∃ p1, (p1 = none → p = none) ∧ (∀ W, (Instr.slice 27 (.slice p n c) none (some (.int .i64 (q : Int))) none).run Tryd.prog W = .ok (.slice p1 q c) W) ∧ ∀ B W f, Reads B W p n f → Reads B W p1 q f := by
  refine ⟨if c = 0 then p else p.map (·.add (0 * 1)), fun h => by split at h <;> simp_all, fun W => ?_, fun B W f hr => ?_⟩
  · rw [run_slice_h W 27 p n c sliceElem .i64 q (by omega) (by omega), sliceSize, sizeU8]
    simp [sliced]
  · have := piece_addr (q := 0) hc q (by omega) c (Nat.le_refl _) (by omega) hr
    simpa using this
theorem slice_from0 (p : Option Addr) (n c q : Nat) (hq : q ≤ n) (hc : n ≤ c) :
    ∃ p1, (p1 = none → p = none) ∧ (∀ W, (Instr.slice 27 (.slice p n c) (some (.int .i64 (q : Int))) none none).run Tryd.prog W = .ok (.slice p1 (n - q) (c - q)) W) ∧ ∀ B W f, Reads B W p n f → Reads B W p1 (n - q) (fun i => f (q + i)) := by
  refine ⟨if c = q then p else p.map (·.add (q * 1)), fun h => by split at h <;> simp_all, fun W => ?_, fun B W f hr => piece_addr hc (n - q) (by omega) c (Nat.le_refl _) (by omega) hr⟩
  rw [run_slice_l W 27 p n c sliceElem .i64 q (by omega) (by omega), sliceSize, sizeU8]
  simp [sliced]
/-- the law at one row -/
theorem tells_one {W : World} {H n c : Nat} {p : Option Addr} {t : TypeId} {f : Nat → BitVec 8} (hk : Kc W.heap.size W) (hW : W.heap[H]? = some (.cells #[.slice p n c] t (0, 0))) (hc : n ≤ c) (hm : c ≤ maxLen) (hn : n ≤ 131) (hp : p = none → c = 0)
    (hr : Reads W.heap.size W p n (fun j => .int .u8 (ub (f j)))) :
    Calls Tryd.prog 3 #[.slice (some ⟨H, 0, none⟩) 1 1] W fun e w' => e = .returned (.bool true) ∧ Below W.heap.size W w' :=
  digestTells_walk _ 1 1 _ _ _ _ W hk (RI.one hW hc hm hr) (Nat.le_refl _) (by omega) (fun e => by cases e) (fun _ _ => hp) (fun _ _ => by show n ≤ _; omega)
theorem RI.three {W : World} {H n c n3 c3 : Nat} {p p3 : Option Addr} {t : TypeId} {f f3 : Nat → BitVec 8} (hW : W.heap[H]? = some (.cells #[.slice p n c, .slice none 0 0, .slice p3 n3 c3] t (0, 0))) (hc : n ≤ c) (hm : c ≤ maxLen) (hc3 : n3 ≤ c3) (hm3 : c3 ≤ maxLen)
    (hr : Reads W.heap.size W p n (fun j => .int .u8 (ub (f j)))) (hr3 : Reads W.heap.size W p3 n3 (fun j => .int .u8 (ub (f3 j)))) : RI W (some ⟨H, 0, none⟩) 3 (fst3 p none p3) (fst3 n 0 n3) (fst3 c 0 c3) (fst3 f f f3) :=
  ⟨reads_at hW (fun i hi => by
    match i, hi with
    | 0, _ => rfl
    | 1, _ => rfl
    | 2, _ => rfl), fun i hi => by
    match i, hi with
    | 0, _ => exact ⟨hc, hm⟩
    | 1, _ => exact ⟨Nat.le_refl _, Nat.zero_le _⟩
    | 2, _ => exact ⟨hc3, hm3⟩, fun i hi => by
    match i, hi with
    | 0, _ => exact hr
    | 1, _ => exact .inl rfl
    | 2, _ => exact hr3⟩
theorem tells_three {W : World} {H n c n3 c3 : Nat} {p p3 : Option Addr} {t : TypeId} {f f3 : Nat → BitVec 8} (hk : Kc W.heap.size W) (hW : W.heap[H]? = some (.cells #[.slice p n c, .slice none 0 0, .slice p3 n3 c3] t (0, 0))) (hc : n ≤ c) (hm : c ≤ maxLen) (hn : n ≤ 131) (hp : p = none → c = 0)
    (hc3 : n3 ≤ c3) (hm3 : c3 ≤ maxLen) (hn3 : n3 ≤ 131) (hp3 : p3 = none → c3 = 0)
    (hr : Reads W.heap.size W p n (fun j => .int .u8 (ub (f j)))) (hr3 : Reads W.heap.size W p3 n3 (fun j => .int .u8 (ub (f3 j)))) :
    Calls Tryd.prog 3 #[.slice (some ⟨H, 0, none⟩) 3 3] W fun e w' => e = .returned (.bool true) ∧ Below W.heap.size W w' :=
  digestTells_walk _ 3 3 _ _ _ _ W hk (RI.three hW hc hm hc3 hm3 hr hr3) (Nat.le_refl _) (by omega) (fun e => by cases e) (fun i hi => by
    match i, hi with
    | 0, _ => exact hp
    | 1, _ => exact fun _ => rfl
    | 2, _ => exact hp3) (fun i hi => by
    match i, hi with
    | 0, _ => show n ≤ _; omega
    | 1, _ => show 0 ≤ _; omega
    | 2, _ => show n3 ≤ _; omega)
/-- rising bytes -/
def bf7 (i : Nat) : BitVec 8 := BitVec.ofNat 8 (i * 7)
structure DE (w : World) (v : Value) (n : Nat) (W : World) : Prop where
  own : W.ownsRow w.heap.size 5 1 v n (cellsOf bf7 n)
  bel : Below w.heap.size w W
  kc : Kc w.heap.size W
theorem DE.go {w W W' : World} {v : Value} {n : Nat} (h : DE w v n W) (g : Below W.heap.size W W') : DE w v n W' := ⟨owns_below h.own g, h.bel.trans (g.mono h.bel.size), h.kc.below (g.mono h.bel.size)⟩
theorem DE.drew {w W : World} {v : Value} {n : Nat} (h : DE w v n W) : DE w v n W.drew := h.go (Below.refl _ _).drew
theorem DE.alloc {w W : World} {v : Value} {n : Nat} (h : DE w v n W) (o : Obj) : DE w v n (W.alloc o) := h.go ((Below.refl _ _).alloc (Nat.le_refl _) o)
def kk7 (n : Nat) : Nat := [0, 1, 63, 64, 65, 55, 56].getD (n % 7) 0
theorem kk7_le (n : Nat) : kk7 n ≤ 65 := by
  unfold kk7
  have h := Nat.mod_lt n (show 0 < 7 by omega)
  generalize n % 7 = m at h
  match m, h with
  | 0, _ | 1, _ | 2, _ | 3, _ | 4, _ | 5, _ | 6, _ => decide
theorem kk7_cell (W : World) (n : Nat) : (W.alloc (.cells #[.int .i64 0, .int .i64 1, .int .i64 63, .int .i64 64, .int .i64 65, .int .i64 55, .int .i64 56] 3)).cell? ⟨W.heap.size, n % 7, none⟩ = some (.int .i64 (kk7 n : Int)) := by
  rw [cell_of_row _ _ _ _ _ (0, 0) (laid_at rfl)]
  unfold kk7
  have h := Nat.mod_lt n (show 0 < 7 by omega)
  generalize n % 7 = m at h
  match m, h with
  | 0, _ | 1, _ | 2, _ | 3, _ | 4, _ | 5, _ | 6, _ => rfl
set_option maxHeartbeats 2000000 in
set_option maxRecDepth 100000 in
theorem digestEnds_walk (w : World) (hk : Kc w.heap.size w) :
    Calls Tryd.prog 4 #[] w fun e w' => e = .returned (.bool true) ∧ Below w.heap.size w w' := by
  have HK := Lib.hid hk
  clear hk
  go_enter Tryd.func4, Tryd.ntmps4
  go_wp2
  go_loopw [1, 2] (fun v i wr => ∃ n : Nat, n ≤ 131 ∧ i = .int .i64 n ∧ DE w v n wr) (fun _ i _ => 131 - (intOf i).toNat)
  case atStart => exact ⟨0, Nat.zero_le _, rfl, World.ownsRow_nil _ _ _ _, Below.refl _ _, HK.out⟩
  case round =>
    obtain ⟨n, hn, rfl, hde⟩ := hrel
    by_cases hlt : n < 131
    · have HDE := Lib.hid hde
      clear hde
      obtain ⟨kk, hkk⟩ : ∃ kk, kk = kk7 n := ⟨_, rfl⟩
      have hk65 : kk ≤ 65 := by rw [hkk]; exact kk7_le n
      have hcell : (wr.alloc (.cells #[.int .i64 0, .int .i64 1, .int .i64 63, .int .i64 64, .int .i64 65, .int .i64 55, .int .i64 56] 3)).cell? ⟨wr.heap.size, n % 7, none⟩ = some (.int .i64 (kk : Int)) := by rw [hkk]; exact kk7_cell wr n
      clear hkk
      obtain ⟨p, c, rfl, hnc, hcm, hp0⟩ := owns_slice0 HDE.out.own
      obtain ⟨C0, hC0, hmk⟩ := made_row n
      simp only [show n ≤ 281474976710656 by omega, if_true] at hmk
      have HT1 := Lib.hid (show ∀ (W : World) (H : Nat), W.heap[H]? = some (.cells #[.slice p n c] 27 (0, 0)) → DE w (.slice p n c) n W → Calls Tryd.prog 3 #[.slice (some ⟨H, 0, none⟩) 1 1] W fun e w' => e = .returned (.bool true) ∧ Below W.heap.size W w' from
        fun W H hW hV => tells_one (hV.kc.mono hV.bel.size) hW hnc hcm (by omega) hp0 (owns_reads' hV.own))
      have HT2 := Lib.hid (show ∀ (W : World) (H C : Nat), W.heap[H]? = some (.cells #[.slice (some ⟨C, 0, none⟩) n n] 27 (0, 0)) → W.heap[C]? = some (.cells C0 5 (0, 0)) → DE w (.slice p n c) n W → Calls Tryd.prog 3 #[.slice (some ⟨H, 0, none⟩) 1 1] W fun e w' => e = .returned (.bool true) ∧ Below W.heap.size W w' from
        fun W H C hW hC hV => tells_one (f := fun _ => 0#8) (hV.kc.mono hV.bel.size) hW (Nat.le_refl _) (by omega) (by omega) (fun e => by cases e) (reads_at hC hC0))
      have HDX := Lib.hid (show ∀ (W : World), DE w (.slice p n c) n W → ∃ v' w', (Builtin.append_ #[27, 27] 27 #[.slice p n c, .slice (some ⟨W.heap.size, 0, none⟩) 1 1]).run Tryd.prog (W.alloc (.cells #[.int .u8 (ub (bf7 n))] 5)) = .ok v' w' ∧ DE w v' (n + 1) w' from fun W hV => by
        obtain ⟨v', w', h1, h2, h3⟩ := append_byte W w.heap.size 27 _ n bf7 hV.own _ rfl (by omega) hV.bel.size
        have hb : Below w.heap.size w w' := hV.bel.grown h3 hV.bel.size (fun q e => (hV.own.lt q e).1)
        exact ⟨v', w', h1, h2, hb, HK.out.below hb⟩)
      have h7 : IntKind.u8.wrap ((n : Int) * 7) = ub (bf7 n) := by unfold bf7 ub; rw [IntKind.wrap_u8]; simp only [BitVec.toNat_ofNat]; omega
      go_upto_region 6 with (fail)
      by_cases hkn : (kk : Int) ≤ (n : Int)
      · obtain ⟨p1, hz1, hs1, hr1⟩ := slice_to0 p n c kk (by omega) hnc
        obtain ⟨p2, hz2, hs2, hr2⟩ := slice_from0 p n c kk (by omega) hnc
        have HT3 := Lib.hid (show ∀ (W : World) (H : Nat), W.heap[H]? = some (.cells #[.slice p1 kk c, .slice none 0 0, .slice p2 (n - kk) (c - kk)] 27 (0, 0)) → DE w (.slice p n c) n W → Calls Tryd.prog 3 #[.slice (some ⟨H, 0, none⟩) 3 3] W fun e w' => e = .returned (.bool true) ∧ Below W.heap.size W w' from
          fun W H hW hV => tells_three (f := bf7) (f3 := fun i => bf7 (kk + i)) (hV.kc.mono hV.bel.size) hW (by omega) hcm (by omega) (fun e => hp0 (hz1 e)) (by omega) (by omega) (by omega) (fun e => by have := hp0 (hz2 e); omega) (hr1 _ _ _ (owns_reads' hV.own)) (hr2 _ _ _ (owns_reads' hV.own)))
        clear hr1 hr2 hz1 hz2 hp0 hC0
        refine wp_region_noPanic ?_
        refine wp_region_start (n := 27) (l := #[false, false, false, false, false, false, false, false, false, false, false, false, false, false, false, false, false, false, false, false, false, false, false, false, false, false, false]) (S := (fun W => DE w (.slice p n c) n W)) (by kernel_rfl) rfl (by kernel_rfl) (by (repeat (first | exact HDE.out | apply DE.drew | apply DE.alloc | (refine DE.go ?_ (by assumption))))) (fun hHeld => ?_)
        refine take_to (i := 0) (d := some 14) (v := ?_) (l' := #[true, false, false, false, false, false, false, false, false, false, false, false, false, false, false, false, false, false, false, false, false, false, false, false, false, false, false]) rfl rfl (by kernel_rfl) (by kernel_rfl) (by kernel_rfl) (by kernel_rfl) (fun _ _ _ h => h) (Or.inl ⟨by rfl, ?_⟩) (by assumption) ?_; rotate_left; · (intro w' hSw; (try dsimp only at hSw); go_simp; (try with_reducible rfl))
        try simp only [Act.put, List.setIfInBounds_toArray, List.set_cons_zero, List.set_cons_succ]
        refine one_to (i := 1) (l' := #[true, true, false, false, false, false, false, false, false, false, false, false, false, false, false, false, false, false, false, false, false, false, false, false, false, false, false]) rfl (by kernel_rfl) (by kernel_rfl) (fun K hK => ?_)
        go_simp
        refine hK.out _ _ (by (repeat (first | exact HDE.out | apply DE.drew | apply DE.alloc | (refine DE.go ?_ (by assumption))))) (fun hHeld => ?_)
        clear hK K
        try simp only [Act.put, List.setIfInBounds_toArray, List.set_cons_zero, List.set_cons_succ]
        refine one_to (i := 2) (l' := #[true, true, true, false, false, false, false, false, false, false, false, false, false, false, false, false, false, false, false, false, false, false, false, false, false, false, false]) rfl (by kernel_rfl) (by kernel_rfl) (fun K hK => ?_)
        go_simp
        refine (HT1.out _ _ (by (try simp only [heap_drew]); repeat (first | (apply laid_at; simp; done) | apply laid_old | (refine laid_go ?_ (by assumption); try simp only [heap_drew]))) (by (repeat (first | exact HDE.out | apply DE.drew | apply DE.alloc | (refine DE.go ?_ (by assumption)))))).mono ?_
        rintro e w5 ⟨rfl, hb5⟩
        dsimp only
        refine hK.out _ _ (by (repeat (first | exact HDE.out | apply DE.drew | apply DE.alloc | (refine DE.go ?_ (by assumption))))) (fun hHeld => ?_)
        clear hK K
        try simp only [Act.put, List.setIfInBounds_toArray, List.set_cons_zero, List.set_cons_succ]
        refine take_to (i := 3) (d := some 17) (v := ?_) (l' := #[true, true, true, true, false, false, false, false, false, false, false, false, false, false, false, false, false, false, false, false, false, false, false, false, false, false, false]) rfl rfl (by kernel_rfl) (by kernel_rfl) (by kernel_rfl) (by kernel_rfl) (fun _ _ _ h => h) (Or.inl ⟨by rfl, ?_⟩) (by assumption) ?_; rotate_left; · (intro w' hSw; (try dsimp only at hSw); go_simp; (try with_reducible rfl))
        try simp only [Act.put, List.setIfInBounds_toArray, List.set_cons_zero, List.set_cons_succ]
        refine take_to (i := 4) (d := some 18) (v := ?_) (l' := #[true, true, true, true, true, false, false, false, false, false, false, false, false, false, false, false, false, false, false, false, false, false, false, false, false, false, false]) rfl rfl (by kernel_rfl) (by kernel_rfl) (by kernel_rfl) (by kernel_rfl) (fun _ _ _ h => h) (Or.inl ⟨by rfl, ?_⟩) (by assumption) ?_; rotate_left; · (intro w' hSw; (try dsimp only at hSw); go_simp; (try with_reducible rfl))
        try simp only [Act.put, List.setIfInBounds_toArray, List.set_cons_zero, List.set_cons_succ]
        refine take_to (i := 5) (d := some 19) (v := ?_) (l' := #[true, true, true, true, true, true, false, false, false, false, false, false, false, false, false, false, false, false, false, false, false, false, false, false, false, false, false]) rfl rfl (by kernel_rfl) (by kernel_rfl) (by kernel_rfl) (by kernel_rfl) (fun _ _ _ h => h) (Or.inl ⟨by rfl, ?_⟩) (by assumption) ?_; rotate_left; · (intro w' hSw; (try dsimp only at hSw); go_simp; (try with_reducible rfl))
        try simp only [Act.put, List.setIfInBounds_toArray, List.set_cons_zero, List.set_cons_succ]
        refine one_to (i := 6) (l' := #[true, true, true, true, true, true, true, false, false, false, false, false, false, false, false, false, false, false, false, false, false, false, false, false, false, false, false]) rfl (by kernel_rfl) (by kernel_rfl) (fun K hK => ?_)
        go_simp
        refine hK.out _ _ (by (repeat (first | exact HDE.out | apply DE.drew | apply DE.alloc | (refine DE.go ?_ (by assumption))))) (fun hHeld => ?_)
        clear hK K
        try simp only [Act.put, List.setIfInBounds_toArray, List.set_cons_zero, List.set_cons_succ]
        refine one_to (i := 7) (l' := #[true, true, true, true, true, true, true, true, false, false, false, false, false, false, false, false, false, false, false, false, false, false, false, false, false, false, false]) rfl (by kernel_rfl) (by kernel_rfl) (fun K hK => ?_)
        go_simp
        refine hK.out _ _ (by (repeat (first | exact HDE.out | apply DE.drew | apply DE.alloc | (refine DE.go ?_ (by assumption))))) (fun hHeld => ?_)
        clear hK K
        try simp only [Act.put, List.setIfInBounds_toArray, List.set_cons_zero, List.set_cons_succ]
        refine one_to (i := 8) (l' := #[true, true, true, true, true, true, true, true, true, false, false, false, false, false, false, false, false, false, false, false, false, false, false, false, false, false, false]) rfl (by kernel_rfl) (by kernel_rfl) (fun K hK => ?_)
        go_simp
        refine (HT2.out _ _ _ (by (try simp only [heap_drew]); repeat (first | (apply laid_at; simp; done) | apply laid_old | (refine laid_go ?_ (by assumption); try simp only [heap_drew]))) (by (try simp only [heap_drew]); repeat (first | (apply laid_at; simp; done) | apply laid_old | (refine laid_go ?_ (by assumption); try simp only [heap_drew]))) (by (repeat (first | exact HDE.out | apply DE.drew | apply DE.alloc | (refine DE.go ?_ (by assumption)))))).mono ?_
        rintro e w6 ⟨rfl, hb6⟩
        dsimp only
        refine hK.out _ _ (by (repeat (first | exact HDE.out | apply DE.drew | apply DE.alloc | (refine DE.go ?_ (by assumption))))) (fun hHeld => ?_)
        clear hK K
        try simp only [Act.put, List.setIfInBounds_toArray, List.set_cons_zero, List.set_cons_succ]
        refine take_to (i := 9) (d := some 23) (v := ?_) (l' := #[true, true, true, true, true, true, true, true, true, true, false, false, false, false, false, false, false, false, false, false, false, false, false, false, false, false, false]) rfl rfl (by kernel_rfl) (by kernel_rfl) (by kernel_rfl) (by kernel_rfl) (fun _ _ _ h => h) (Or.inl ⟨by rfl, ?_⟩) (by assumption) ?_; rotate_left; · (intro w' hSw; (try dsimp only at hSw); go_simp; (try with_reducible rfl))
        try simp only [Act.put, List.setIfInBounds_toArray, List.set_cons_zero, List.set_cons_succ]
        refine take_to (i := 10) (d := some 24) (v := ?_) (l' := #[true, true, true, true, true, true, true, true, true, true, true, false, false, false, false, false, false, false, false, false, false, false, false, false, false, false, false]) rfl rfl (by kernel_rfl) (by kernel_rfl) (by kernel_rfl) (by kernel_rfl) (fun _ _ _ h => h) (Or.inl ⟨by rfl, ?_⟩) (by assumption) ?_; rotate_left; · (intro w' hSw; (try dsimp only at hSw); go_simp; (try with_reducible rfl))
        try simp only [Act.put, List.setIfInBounds_toArray, List.set_cons_zero, List.set_cons_succ]
        refine take_to (i := 11) (d := some 25) (v := ?_) (l' := #[true, true, true, true, true, true, true, true, true, true, true, true, false, false, false, false, false, false, false, false, false, false, false, false, false, false, false]) rfl rfl (by kernel_rfl) (by kernel_rfl) (by kernel_rfl) (by kernel_rfl) (fun _ _ _ h => h) (Or.inl ⟨by rfl, ?_⟩) (by assumption) ?_; rotate_left; · (intro w' hSw; (try dsimp only at hSw); go_simp; (try with_reducible rfl))
        try simp only [Act.put, List.setIfInBounds_toArray, List.set_cons_zero, List.set_cons_succ]
        refine take_to (i := 12) (d := some 26) (v := ?_) (l' := #[true, true, true, true, true, true, true, true, true, true, true, true, true, false, false, false, false, false, false, false, false, false, false, false, false, false, false]) rfl rfl (by kernel_rfl) (by kernel_rfl) (by kernel_rfl) (by kernel_rfl) (fun _ _ _ h => h) (Or.inl ⟨by rfl, ?_⟩) (by assumption) ?_; rotate_left; · (intro w' hSw; (try dsimp only at hSw); go_simp; (try with_reducible rfl))
        try simp only [Act.put, List.setIfInBounds_toArray, List.set_cons_zero, List.set_cons_succ]
        refine take_to (i := 13) (d := some 27) (v := ?_) (l' := #[true, true, true, true, true, true, true, true, true, true, true, true, true, true, false, false, false, false, false, false, false, false, false, false, false, false, false]) rfl rfl (by kernel_rfl) (by kernel_rfl) (by kernel_rfl) (by kernel_rfl) (fun _ _ _ h => h) (Or.inl ⟨by rfl, ?_⟩) (by assumption) ?_; rotate_left; · (intro w' hSw; (try dsimp only at hSw); go_simp; (try with_reducible rfl))
        try simp only [Act.put, List.setIfInBounds_toArray, List.set_cons_zero, List.set_cons_succ]
        refine take_to (i := 14) (d := some 28) (v := ?_) (l' := #[true, true, true, true, true, true, true, true, true, true, true, true, true, true, true, false, false, false, false, false, false, false, false, false, false, false, false]) rfl rfl (by kernel_rfl) (by kernel_rfl) (by kernel_rfl) (by kernel_rfl) (fun _ _ _ h => h) (Or.inl ⟨by rfl, ?_⟩) (by assumption) ?_; rotate_left; · (intro w' hSw; (try dsimp only at hSw); go_simp; (try with_reducible rfl))
        try simp only [Act.put, List.setIfInBounds_toArray, List.set_cons_zero, List.set_cons_succ]
        refine take_to (i := 15) (d := some 29) (v := ?_) (l' := #[true, true, true, true, true, true, true, true, true, true, true, true, true, true, true, true, false, false, false, false, false, false, false, false, false, false, false]) rfl rfl (by kernel_rfl) (by kernel_rfl) (by kernel_rfl) (by kernel_rfl) (fun _ _ _ h => h) (Or.inl ⟨by rfl, ?_⟩) (by assumption) ?_; rotate_left; · (intro w' hSw; (try dsimp only at hSw); go_simp; (try with_reducible rfl))
        try simp only [Act.put, List.setIfInBounds_toArray, List.set_cons_zero, List.set_cons_succ]
        refine take_to (i := 16) (d := some 30) (v := ?_) (l' := #[true, true, true, true, true, true, true, true, true, true, true, true, true, true, true, true, true, false, false, false, false, false, false, false, false, false, false]) rfl rfl (by kernel_rfl) (by kernel_rfl) (by kernel_rfl) (by kernel_rfl) (fun _ _ _ h => h) (Or.inl ⟨by rfl, ?_⟩) (by assumption) ?_; rotate_left; · (intro w' hSw; (try dsimp only at hSw); go_simp; (try with_reducible rfl))
        try simp only [Act.put, List.setIfInBounds_toArray, List.set_cons_zero, List.set_cons_succ]
        refine take_to (i := 17) (d := some 31) (v := ?_) (l' := #[true, true, true, true, true, true, true, true, true, true, true, true, true, true, true, true, true, true, false, false, false, false, false, false, false, false, false]) rfl rfl (by kernel_rfl) (by kernel_rfl) (by kernel_rfl) (by kernel_rfl) (fun _ _ _ h => h) (Or.inl ⟨by rfl, ?_⟩) (by assumption) ?_; rotate_left; · (intro w' hSw; (try dsimp only at hSw); go_simp; (try with_reducible rfl))
        try simp only [Act.put, List.setIfInBounds_toArray, List.set_cons_zero, List.set_cons_succ]
        refine take_to (i := 18) (d := some 32) (v := ?_) (l' := #[true, true, true, true, true, true, true, true, true, true, true, true, true, true, true, true, true, true, true, false, false, false, false, false, false, false, false]) rfl rfl (by kernel_rfl) (by kernel_rfl) (by kernel_rfl) (by kernel_rfl) (fun _ _ _ h => h) (Or.inl ⟨by rfl, ?_⟩) (by assumption) ?_; rotate_left; · (intro w' hSw; (try dsimp only at hSw); go_simp; (try with_reducible rfl))
        try simp only [Act.put, List.setIfInBounds_toArray, List.set_cons_zero, List.set_cons_succ]
        refine take_to (i := 19) (d := some 33) (v := ?_) (l' := #[true, true, true, true, true, true, true, true, true, true, true, true, true, true, true, true, true, true, true, true, false, false, false, false, false, false, false]) rfl rfl (by kernel_rfl) (by kernel_rfl) (by kernel_rfl) (by kernel_rfl) (fun _ _ _ h => h) (Or.inl ⟨by rfl, ?_⟩) (by assumption) ?_; rotate_left; · (intro w' hSw; (try dsimp only at hSw); go_simp; (try with_reducible rfl))
        try simp only [Act.put, List.setIfInBounds_toArray, List.set_cons_zero, List.set_cons_succ]
        refine take_to (i := 20) (d := some 34) (v := ?_) (l' := #[true, true, true, true, true, true, true, true, true, true, true, true, true, true, true, true, true, true, true, true, true, false, false, false, false, false, false]) rfl rfl (by kernel_rfl) (by kernel_rfl) (by kernel_rfl) (by kernel_rfl) (fun _ _ _ h => h) (Or.inl ⟨by rfl, ?_⟩) (by assumption) ?_; rotate_left; · (intro w' hSw; (try dsimp only at hSw); go_simp; (try with_reducible rfl))
        try simp only [Act.put, List.setIfInBounds_toArray, List.set_cons_zero, List.set_cons_succ]
        refine take_to (i := 21) (d := some 35) (v := ?_) (l' := #[true, true, true, true, true, true, true, true, true, true, true, true, true, true, true, true, true, true, true, true, true, true, false, false, false, false, false]) rfl rfl (by kernel_rfl) (by kernel_rfl) (by kernel_rfl) (by kernel_rfl) (fun _ _ _ h => h) (Or.inl ⟨by rfl, ?_⟩) (by assumption) ?_; rotate_left; · (intro w' hSw; (try dsimp only at hSw); go_simp; (try with_reducible rfl))
        try simp only [Act.put, List.setIfInBounds_toArray, List.set_cons_zero, List.set_cons_succ]
        refine one_to (i := 22) (l' := #[true, true, true, true, true, true, true, true, true, true, true, true, true, true, true, true, true, true, true, true, true, true, true, false, false, false, false]) rfl (by kernel_rfl) (by kernel_rfl) (fun K hK => ?_)
        go_simp
        refine hK.out _ _ (by (repeat (first | exact HDE.out | apply DE.drew | apply DE.alloc | (refine DE.go ?_ (by assumption))))) (fun hHeld => ?_)
        clear hK K
        try simp only [Act.put, List.setIfInBounds_toArray, List.set_cons_zero, List.set_cons_succ]
        refine one_to (i := 23) (l' := #[true, true, true, true, true, true, true, true, true, true, true, true, true, true, true, true, true, true, true, true, true, true, true, true, false, false, false]) rfl (by kernel_rfl) (by kernel_rfl) (fun K hK => ?_)
        go_simp
        refine (HT3.out _ _ (by (try simp only [heap_drew]); repeat (first | (apply laid_at; simp; done) | apply laid_old | (refine laid_go ?_ (by assumption); try simp only [heap_drew]))) (by (repeat (first | exact HDE.out | apply DE.drew | apply DE.alloc | (refine DE.go ?_ (by assumption)))))).mono ?_
        rintro e w7 ⟨rfl, hb7⟩
        dsimp only
        refine hK.out _ _ (by (repeat (first | exact HDE.out | apply DE.drew | apply DE.alloc | (refine DE.go ?_ (by assumption))))) (fun hHeld => ?_)
        clear hK K
        try simp only [Act.put, List.setIfInBounds_toArray, List.set_cons_zero, List.set_cons_succ]
        refine take_to (i := 24) (d := some 38) (v := ?_) (l' := #[true, true, true, true, true, true, true, true, true, true, true, true, true, true, true, true, true, true, true, true, true, true, true, true, true, false, false]) rfl rfl (by kernel_rfl) (by kernel_rfl) (by kernel_rfl) (by kernel_rfl) (fun _ _ _ h => h) (Or.inl ⟨by rfl, ?_⟩) (by assumption) ?_; rotate_left; · (intro w' hSw; (try dsimp only at hSw); go_simp; (try with_reducible rfl))
        try simp only [Act.put, List.setIfInBounds_toArray, List.set_cons_zero, List.set_cons_succ]
        refine take_to (i := 25) (d := some 39) (v := ?_) (l' := #[true, true, true, true, true, true, true, true, true, true, true, true, true, true, true, true, true, true, true, true, true, true, true, true, true, true, false]) rfl rfl (by kernel_rfl) (by kernel_rfl) (by kernel_rfl) (by kernel_rfl) (fun _ _ _ h => h) (Or.inl ⟨by rfl, ?_⟩) (by assumption) ?_; rotate_left; · (intro w' hSw; (try dsimp only at hSw); go_simp; (try with_reducible rfl))
        try simp only [Act.put, List.setIfInBounds_toArray, List.set_cons_zero, List.set_cons_succ]
        refine take_to (i := 26) (d := some 40) (v := ?_) (l' := #[true, true, true, true, true, true, true, true, true, true, true, true, true, true, true, true, true, true, true, true, true, true, true, true, true, true, true]) rfl rfl (by kernel_rfl) (by kernel_rfl) (by kernel_rfl) (by kernel_rfl) (fun _ _ _ h => h) (Or.inl ⟨by rfl, ?_⟩) (by assumption) ?_; rotate_left; · (intro w' hSw; (try dsimp only at hSw); go_simp; (try with_reducible rfl))
        try simp only [Act.put, List.setIfInBounds_toArray, List.set_cons_zero, List.set_cons_succ]
        refine wpAnyH_done (by kernel_rfl) ?_ _
        refine NoPanic.normal ?_
        have HX := Lib.hid (HDX.out _ hHeld)
        clear hHeld HT1 HT2 hmk hcell HDX HDE HT3 hs1 hs2
        go_wp2_with (at_builtin; (obtain ⟨v', w9, hrun, hde9⟩ := HX.out; refine Lib.wpList_append_run _ rfl _ _ _ _ rfl _ _ rfl rfl v' w9 hrun ?_))
        have H9 := Lib.hid hde9
        clear hrun hde9 HX
        go_wp2
        go_roundw
        case rel => exact ⟨n + 1, by omega, by go_num, H9.out⟩
        case measure => simp [intOf]; omega
      · have hkd : decide ((kk : Int) ≤ (n : Int)) = false := by simpa using hkn
        clear hp0 hC0
        refine wp_region_noPanic ?_
        refine wp_region_start (n := 27) (l := #[false, false, false, false, false, false, false, false, false, false, false, false, false, false, false, false, false, false, false, false, false, false, false, false, false, false, false]) (S := (fun W => DE w (.slice p n c) n W)) (by kernel_rfl) rfl (by kernel_rfl) (by (repeat (first | exact HDE.out | apply DE.drew | apply DE.alloc | (refine DE.go ?_ (by assumption))))) (fun hHeld => ?_)
        refine take_to (i := 0) (d := some 14) (v := ?_) (l' := #[true, false, false, false, false, false, false, false, false, false, false, false, false, false, false, false, false, false, false, false, false, false, false, false, false, false, false]) rfl rfl (by kernel_rfl) (by kernel_rfl) (by kernel_rfl) (by kernel_rfl) (fun _ _ _ h => h) (Or.inl ⟨by rfl, ?_⟩) (by assumption) ?_; rotate_left; · (intro w' hSw; (try dsimp only at hSw); go_simp; (try with_reducible rfl))
        try simp only [Act.put, List.setIfInBounds_toArray, List.set_cons_zero, List.set_cons_succ]
        refine one_to (i := 1) (l' := #[true, true, false, false, false, false, false, false, false, false, false, false, false, false, false, false, false, false, false, false, false, false, false, false, false, false, false]) rfl (by kernel_rfl) (by kernel_rfl) (fun K hK => ?_)
        go_simp
        refine hK.out _ _ (by (repeat (first | exact HDE.out | apply DE.drew | apply DE.alloc | (refine DE.go ?_ (by assumption))))) (fun hHeld => ?_)
        clear hK K
        try simp only [Act.put, List.setIfInBounds_toArray, List.set_cons_zero, List.set_cons_succ]
        refine one_to (i := 2) (l' := #[true, true, true, false, false, false, false, false, false, false, false, false, false, false, false, false, false, false, false, false, false, false, false, false, false, false, false]) rfl (by kernel_rfl) (by kernel_rfl) (fun K hK => ?_)
        go_simp
        refine (HT1.out _ _ (by (try simp only [heap_drew]); repeat (first | (apply laid_at; simp; done) | apply laid_old | (refine laid_go ?_ (by assumption); try simp only [heap_drew]))) (by (repeat (first | exact HDE.out | apply DE.drew | apply DE.alloc | (refine DE.go ?_ (by assumption)))))).mono ?_
        rintro e w5 ⟨rfl, hb5⟩
        dsimp only
        refine hK.out _ _ (by (repeat (first | exact HDE.out | apply DE.drew | apply DE.alloc | (refine DE.go ?_ (by assumption))))) (fun hHeld => ?_)
        clear hK K
        try simp only [Act.put, List.setIfInBounds_toArray, List.set_cons_zero, List.set_cons_succ]
        refine take_to (i := 3) (d := some 17) (v := ?_) (l' := #[true, true, true, true, false, false, false, false, false, false, false, false, false, false, false, false, false, false, false, false, false, false, false, false, false, false, false]) rfl rfl (by kernel_rfl) (by kernel_rfl) (by kernel_rfl) (by kernel_rfl) (fun _ _ _ h => h) (Or.inl ⟨by rfl, ?_⟩) (by assumption) ?_; rotate_left; · (intro w' hSw; (try dsimp only at hSw); go_simp; (try with_reducible rfl))
        try simp only [Act.put, List.setIfInBounds_toArray, List.set_cons_zero, List.set_cons_succ]
        refine take_to (i := 4) (d := some 18) (v := ?_) (l' := #[true, true, true, true, true, false, false, false, false, false, false, false, false, false, false, false, false, false, false, false, false, false, false, false, false, false, false]) rfl rfl (by kernel_rfl) (by kernel_rfl) (by kernel_rfl) (by kernel_rfl) (fun _ _ _ h => h) (Or.inl ⟨by rfl, ?_⟩) (by assumption) ?_; rotate_left; · (intro w' hSw; (try dsimp only at hSw); go_simp; (try with_reducible rfl))
        try simp only [Act.put, List.setIfInBounds_toArray, List.set_cons_zero, List.set_cons_succ]
        refine take_to (i := 5) (d := some 19) (v := ?_) (l' := #[true, true, true, true, true, true, false, false, false, false, false, false, false, false, false, false, false, false, false, false, false, false, false, false, false, false, false]) rfl rfl (by kernel_rfl) (by kernel_rfl) (by kernel_rfl) (by kernel_rfl) (fun _ _ _ h => h) (Or.inl ⟨by rfl, ?_⟩) (by assumption) ?_; rotate_left; · (intro w' hSw; (try dsimp only at hSw); go_simp; (try with_reducible rfl))
        try simp only [Act.put, List.setIfInBounds_toArray, List.set_cons_zero, List.set_cons_succ]
        refine one_to (i := 6) (l' := #[true, true, true, true, true, true, true, false, false, false, false, false, false, false, false, false, false, false, false, false, false, false, false, false, false, false, false]) rfl (by kernel_rfl) (by kernel_rfl) (fun K hK => ?_)
        go_simp
        refine hK.out _ _ (by (repeat (first | exact HDE.out | apply DE.drew | apply DE.alloc | (refine DE.go ?_ (by assumption))))) (fun hHeld => ?_)
        clear hK K
        try simp only [Act.put, List.setIfInBounds_toArray, List.set_cons_zero, List.set_cons_succ]
        refine one_to (i := 7) (l' := #[true, true, true, true, true, true, true, true, false, false, false, false, false, false, false, false, false, false, false, false, false, false, false, false, false, false, false]) rfl (by kernel_rfl) (by kernel_rfl) (fun K hK => ?_)
        go_simp
        refine hK.out _ _ (by (repeat (first | exact HDE.out | apply DE.drew | apply DE.alloc | (refine DE.go ?_ (by assumption))))) (fun hHeld => ?_)
        clear hK K
        try simp only [Act.put, List.setIfInBounds_toArray, List.set_cons_zero, List.set_cons_succ]
        refine one_to (i := 8) (l' := #[true, true, true, true, true, true, true, true, true, false, false, false, false, false, false, false, false, false, false, false, false, false, false, false, false, false, false]) rfl (by kernel_rfl) (by kernel_rfl) (fun K hK => ?_)
        go_simp
        refine (HT2.out _ _ _ (by (try simp only [heap_drew]); repeat (first | (apply laid_at; simp; done) | apply laid_old | (refine laid_go ?_ (by assumption); try simp only [heap_drew]))) (by (try simp only [heap_drew]); repeat (first | (apply laid_at; simp; done) | apply laid_old | (refine laid_go ?_ (by assumption); try simp only [heap_drew]))) (by (repeat (first | exact HDE.out | apply DE.drew | apply DE.alloc | (refine DE.go ?_ (by assumption)))))).mono ?_
        rintro e w6 ⟨rfl, hb6⟩
        dsimp only
        refine hK.out _ _ (by (repeat (first | exact HDE.out | apply DE.drew | apply DE.alloc | (refine DE.go ?_ (by assumption))))) (fun hHeld => ?_)
        clear hK K
        try simp only [Act.put, List.setIfInBounds_toArray, List.set_cons_zero, List.set_cons_succ]
        refine take_to (i := 9) (d := some 23) (v := ?_) (l' := #[true, true, true, true, true, true, true, true, true, true, false, false, false, false, false, false, false, false, false, false, false, false, false, false, false, false, false]) rfl rfl (by kernel_rfl) (by kernel_rfl) (by kernel_rfl) (by kernel_rfl) (fun _ _ _ h => h) (Or.inl ⟨by rfl, ?_⟩) (by assumption) ?_; rotate_left; · (intro w' hSw; (try dsimp only at hSw); go_simp; (try with_reducible rfl))
        try simp only [Act.put, List.setIfInBounds_toArray, List.set_cons_zero, List.set_cons_succ]
        refine take_to (i := 10) (d := some 24) (v := ?_) (l' := #[true, true, true, true, true, true, true, true, true, true, true, false, false, false, false, false, false, false, false, false, false, false, false, false, false, false, false]) rfl rfl (by kernel_rfl) (by kernel_rfl) (by kernel_rfl) (by kernel_rfl) (fun _ _ _ h => h) (Or.inl ⟨by rfl, ?_⟩) (by assumption) ?_; rotate_left; · (intro w' hSw; (try dsimp only at hSw); go_simp; (try with_reducible rfl))
        try simp only [Act.put, List.setIfInBounds_toArray, List.set_cons_zero, List.set_cons_succ]
        refine take_to (i := 11) (d := some 25) (v := ?_) (l' := #[true, true, true, true, true, true, true, true, true, true, true, true, false, false, false, false, false, false, false, false, false, false, false, false, false, false, false]) rfl rfl (by kernel_rfl) (by kernel_rfl) (by kernel_rfl) (by kernel_rfl) (fun _ _ _ h => h) (Or.inl ⟨by rfl, ?_⟩) (by assumption) ?_; rotate_left; · (intro w' hSw; (try dsimp only at hSw); go_simp; (try with_reducible rfl))
        try simp only [Act.put, List.setIfInBounds_toArray, List.set_cons_zero, List.set_cons_succ]
        refine take_to (i := 12) (d := some 26) (v := ?_) (l' := #[true, true, true, true, true, true, true, true, true, true, true, true, true, false, false, false, false, false, false, false, false, false, false, false, false, false, false]) rfl rfl (by kernel_rfl) (by kernel_rfl) (by kernel_rfl) (by kernel_rfl) (fun _ _ _ h => h) (Or.inl ⟨by rfl, ?_⟩) (by assumption) ?_; rotate_left; · (intro w' hSw; (try dsimp only at hSw); go_simp; (try with_reducible rfl))
        try simp only [Act.put, List.setIfInBounds_toArray, List.set_cons_zero, List.set_cons_succ]
        refine take_to (i := 13) (d := some 27) (v := ?_) (l' := #[true, true, true, true, true, true, true, true, true, true, true, true, true, true, false, false, false, false, false, false, false, false, false, false, false, false, false]) rfl rfl (by kernel_rfl) (by kernel_rfl) (by kernel_rfl) (by kernel_rfl) (fun _ _ _ h => h) (Or.inl ⟨by rfl, ?_⟩) (by assumption) ?_; rotate_left; · (intro w' hSw; (try dsimp only at hSw); go_simp; (try with_reducible rfl))
        try simp only [Act.put, List.setIfInBounds_toArray, List.set_cons_zero, List.set_cons_succ]
        refine take_to (i := 14) (d := some 28) (v := ?_) (l' := #[true, true, true, true, true, true, true, true, true, true, true, true, true, true, true, false, false, false, false, false, false, false, false, false, false, false, false]) rfl rfl (by kernel_rfl) (by kernel_rfl) (by kernel_rfl) (by kernel_rfl) (fun _ _ _ h => h) (Or.inl ⟨by rfl, ?_⟩) (by assumption) ?_; rotate_left; · (intro w' hSw; (try dsimp only at hSw); go_simp; (try with_reducible rfl))
        try simp only [Act.put, List.setIfInBounds_toArray, List.set_cons_zero, List.set_cons_succ]
        refine take_to (i := 15) (d := some 29) (v := ?_) (l' := #[true, true, true, true, true, true, true, true, true, true, true, true, true, true, true, true, false, false, false, false, false, false, false, false, false, false, false]) rfl rfl (by kernel_rfl) (by kernel_rfl) (by kernel_rfl) (by kernel_rfl) (fun _ _ _ h => h) (Or.inl ⟨by rfl, ?_⟩) (by assumption) ?_; rotate_left; · (intro w' hSw; (try dsimp only at hSw); go_simp; (try with_reducible rfl))
        try simp only [Act.put, List.setIfInBounds_toArray, List.set_cons_zero, List.set_cons_succ]
        refine take_to (i := 16) (d := some 30) (v := undef) (l' := #[true, true, true, true, true, true, true, true, true, true, true, true, true, true, true, true, true, false, false, false, false, false, false, false, false, false, false]) rfl rfl (by kernel_rfl) (by kernel_rfl) (by kernel_rfl) (by kernel_rfl) (fun _ _ _ h => h) (Or.inr ⟨by rfl, rfl⟩) (by assumption) ?_
        try simp only [Act.put, List.setIfInBounds_toArray, List.set_cons_zero, List.set_cons_succ]
        refine take_to (i := 17) (d := some 31) (v := undef) (l' := #[true, true, true, true, true, true, true, true, true, true, true, true, true, true, true, true, true, true, false, false, false, false, false, false, false, false, false]) rfl rfl (by kernel_rfl) (by kernel_rfl) (by kernel_rfl) (by kernel_rfl) (fun _ _ _ h => h) (Or.inr ⟨by rfl, rfl⟩) (by assumption) ?_
        try simp only [Act.put, List.setIfInBounds_toArray, List.set_cons_zero, List.set_cons_succ]
        refine take_to (i := 18) (d := some 32) (v := undef) (l' := #[true, true, true, true, true, true, true, true, true, true, true, true, true, true, true, true, true, true, true, false, false, false, false, false, false, false, false]) rfl rfl (by kernel_rfl) (by kernel_rfl) (by kernel_rfl) (by kernel_rfl) (fun _ _ _ h => h) (Or.inr ⟨by rfl, rfl⟩) (by assumption) ?_
        try simp only [Act.put, List.setIfInBounds_toArray, List.set_cons_zero, List.set_cons_succ]
        refine take_to (i := 19) (d := some 33) (v := undef) (l' := #[true, true, true, true, true, true, true, true, true, true, true, true, true, true, true, true, true, true, true, true, false, false, false, false, false, false, false]) rfl rfl (by kernel_rfl) (by kernel_rfl) (by kernel_rfl) (by kernel_rfl) (fun _ _ _ h => h) (Or.inr ⟨by rfl, rfl⟩) (by assumption) ?_
        try simp only [Act.put, List.setIfInBounds_toArray, List.set_cons_zero, List.set_cons_succ]
        refine take_to (i := 20) (d := some 34) (v := undef) (l' := #[true, true, true, true, true, true, true, true, true, true, true, true, true, true, true, true, true, true, true, true, true, false, false, false, false, false, false]) rfl rfl (by kernel_rfl) (by kernel_rfl) (by kernel_rfl) (by kernel_rfl) (fun _ _ _ h => h) (Or.inr ⟨by rfl, rfl⟩) (by assumption) ?_
        try simp only [Act.put, List.setIfInBounds_toArray, List.set_cons_zero, List.set_cons_succ]
        refine take_to (i := 21) (d := some 35) (v := undef) (l' := #[true, true, true, true, true, true, true, true, true, true, true, true, true, true, true, true, true, true, true, true, true, true, false, false, false, false, false]) rfl rfl (by kernel_rfl) (by kernel_rfl) (by kernel_rfl) (by kernel_rfl) (fun _ _ _ h => h) (Or.inr ⟨by rfl, rfl⟩) (by assumption) ?_
        try simp only [Act.put, List.setIfInBounds_toArray, List.set_cons_zero, List.set_cons_succ]
        refine one_to (i := 22) (l' := #[true, true, true, true, true, true, true, true, true, true, true, true, true, true, true, true, true, true, true, true, true, true, true, false, false, false, false]) rfl (by kernel_rfl) (by kernel_rfl) (fun K hK => ?_)
        go_simp
        refine hK.out _ _ (by (repeat (first | exact HDE.out | apply DE.drew | apply DE.alloc | (refine DE.go ?_ (by assumption))))) (fun hHeld => ?_)
        clear hK K
        try simp only [Act.put, List.setIfInBounds_toArray, List.set_cons_zero, List.set_cons_succ]
        refine one_to (i := 23) (l' := #[true, true, true, true, true, true, true, true, true, true, true, true, true, true, true, true, true, true, true, true, true, true, true, true, false, false, false]) rfl (by kernel_rfl) (by kernel_rfl) (fun K hK => ?_)
        go_simp
        refine hK.out _ _ (by (repeat (first | exact HDE.out | apply DE.drew | apply DE.alloc | (refine DE.go ?_ (by assumption))))) (fun hHeld => ?_)
        clear hK K
        try simp only [Act.put, List.setIfInBounds_toArray, List.set_cons_zero, List.set_cons_succ]
        refine take_to (i := 24) (d := some 38) (v := undef) (l' := #[true, true, true, true, true, true, true, true, true, true, true, true, true, true, true, true, true, true, true, true, true, true, true, true, true, false, false]) rfl rfl (by kernel_rfl) (by kernel_rfl) (by kernel_rfl) (by kernel_rfl) (fun _ _ _ h => h) (Or.inr ⟨by rfl, rfl⟩) (by assumption) ?_
        try simp only [Act.put, List.setIfInBounds_toArray, List.set_cons_zero, List.set_cons_succ]
        refine take_to (i := 25) (d := some 39) (v := ?_) (l' := #[true, true, true, true, true, true, true, true, true, true, true, true, true, true, true, true, true, true, true, true, true, true, true, true, true, true, false]) rfl rfl (by kernel_rfl) (by kernel_rfl) (by kernel_rfl) (by kernel_rfl) (fun _ _ _ h => h) (Or.inl ⟨by rfl, ?_⟩) (by assumption) ?_; rotate_left; · (intro w' hSw; (try dsimp only at hSw); go_simp; (try with_reducible rfl))
        try simp only [Act.put, List.setIfInBounds_toArray, List.set_cons_zero, List.set_cons_succ]
        refine take_to (i := 26) (d := some 40) (v := ?_) (l' := #[true, true, true, true, true, true, true, true, true, true, true, true, true, true, true, true, true, true, true, true, true, true, true, true, true, true, true]) rfl rfl (by kernel_rfl) (by kernel_rfl) (by kernel_rfl) (by kernel_rfl) (fun _ _ _ h => h) (Or.inl ⟨by rfl, ?_⟩) (by assumption) ?_; rotate_left; · (intro w' hSw; (try dsimp only at hSw); go_simp; (try with_reducible rfl))
        try simp only [Act.put, List.setIfInBounds_toArray, List.set_cons_zero, List.set_cons_succ]
        refine wpAnyH_done (by kernel_rfl) ?_ _
        refine NoPanic.normal ?_
        have HX := Lib.hid (HDX.out _ hHeld)
        clear hHeld HT1 HT2 hmk hcell HDX HDE hkd
        go_wp2_with (at_builtin; (obtain ⟨v', w9, hrun, hde9⟩ := HX.out; refine Lib.wpList_append_run _ rfl _ _ _ _ rfl _ _ rfl rfl v' w9 hrun ?_))
        have H9 := Lib.hid hde9
        clear hrun hde9 HX
        go_wp2
        go_roundw
        case rel => exact ⟨n + 1, by omega, by go_num, H9.out⟩
        case measure => simp [intOf]; omega
    · obtain rfl : n = 131 := by omega
      have HDE := Lib.hid hde
      clear hde
      go_wp2_with fail
      refine (new_any wr).mono ?_
      rintro e W2 ⟨hb, rfl, hbW, hb2, hh2⟩
      have q1 := HDE.out.bel.size
      have q2 := hb2.size
      have HV := Lib.hid (show RV w.heap.size wr hb (fun _ => 0#8) 0 W2 from ⟨hh2 _, HK.out.below (HDE.out.bel.trans (hb2.mono q1)), hb2, q2, q1, hbW⟩)
      clear hb2 hh2
      have hlt2 := HV.out.hh.lt
      obtain ⟨C1, hC1, hmk⟩ := made_row 1048576
      simp only [show (1048576 : Nat) ≤ 281474976710656 by omega, if_true] at hmk
      have hmk : ∀ W : World, (Instr.makeSlice 27 (.int .i64 1048576) (.int .i64 1048576)).run Tryd.prog W = .ok (.slice (some ⟨W.heap.size, 0, none⟩) 1048576 1048576) (W.alloc (.cells C1 5)) := hmk
      have HC1 := Lib.hid hC1
      clear hC1
      have M48 := Lib.hid (show (140737488351232 : Nat) ≤ maxLen by decide)
      have hm1 : True := trivial
      obtain ⟨T0, hT0⟩ : ∃ T, T = tagV (sha (fun _ => 0#8) 0) := ⟨_, rfl⟩
      have hn0 : ∀ w, (binOp .neq 32 T0 T0).run Tryd.prog w = .ok (.bool false) w := by rw [hT0]; exact neq_tag _
      have hg0 : ∀ op x y w, (eqGuard op 32 x y T0 T0).run Tryd.prog w = .ok () w := by rw [hT0]; exact guard_tag _ _
      obtain ⟨T1, hT1⟩ : ∃ T, T = tagV (sha (fun _ => 0#8) 1048576) := ⟨_, rfl⟩
      have hn1 : ∀ w, (binOp .neq 32 T1 T1).run Tryd.prog w = .ok (.bool false) w := by rw [hT1]; exact neq_tag _
      have hg1 : ∀ op x y w, (eqGuard op 32 x y T1 T1).run Tryd.prog w = .ok () w := by rw [hT1]; exact guard_tag _ _
      have HW1 := Lib.hid (show ∀ (W : World) (H A B : Nat), W.heap[H]? = some (.cells #[.slice (some ⟨A, 0, none⟩) 1048576 1048576, .slice (some ⟨B, 0, none⟩) 1 1] 27 (0, 0)) → W.heap[A]? = some (.cells C1 5 (0, 0)) → W.heap[B]? = some (.cells #[.int .u8 1] 5 (0, 0)) → hb < H → hb < A → hb < B → RV w.heap.size wr hb (fun _ => 0#8) 0 W →
          Calls Tryd.prog 12 #[.pointer (some ⟨hb, 0, none⟩), .slice (some ⟨H, 0, none⟩) 2 2] W fun e w' => e = .returned (.int .i64 3) ∧ W = w' from fun W H A B hW hA hB h1 h2 h3 hV =>
        long2 (f := fun _ => 0#8) (f2 := fun _ => 1#8) hV hW (by omega) (Nat.le_refl _) (Nat.le_trans (by omega) M48.out) (Nat.le_refl _) (Nat.le_trans (by omega) M48.out) (rx_laid hA (by omega) HC1.out) (rx_laid hB (by omega) (fun i hi => by rw [show i = 0 by omega]; rfl)) (by omega) (by omega))
      have HW2 := Lib.hid (show ∀ (W : World) (H A : Nat), W.heap[H]? = some (.cells #[.slice (some ⟨A, 0, none⟩) 1048576 1048576] 27 (0, 0)) → W.heap[A]? = some (.cells C1 5 (0, 0)) → hb < H → hb < A → RV w.heap.size wr hb (fun _ => 0#8) 0 W →
          Calls Tryd.prog 12 #[.pointer (some ⟨hb, 0, none⟩), .slice (some ⟨H, 0, none⟩) 1 1] W fun e w' => e = .returned (.int .i64 0) ∧ RV w.heap.size wr hb (fun _ => 0#8) 1048576 w' from fun W H A hW hA h1 h2 hV =>
        (write1 w.heap.size W hb H 0 1048576 1048576 _ _ (fun _ => 0#8) hV.kc (Nat.le_trans hV.lo hV.hi) hV.hh hW (by omega) (Nat.le_refl _) (Nat.le_trans (by omega) M48.out) (rx_laid hA (by omega) HC1.out) (by omega)).mono fun e w' h => ⟨h.1, hV.wrote h.2.1 h.2.2⟩)
      have HW3 := Lib.hid (show ∀ (W : World) (H B : Nat), W.heap[H]? = some (.cells #[.slice (some ⟨B, 0, none⟩) 1 1] 27 (0, 0)) → W.heap[B]? = some (.cells #[.int .u8 1] 5 (0, 0)) → hb < H → hb < B → RV w.heap.size wr hb (fun _ => 0#8) 1048576 W →
          Calls Tryd.prog 12 #[.pointer (some ⟨hb, 0, none⟩), .slice (some ⟨H, 0, none⟩) 1 1] W fun e w' => e = .returned (.int .i64 3) ∧ W = w' from fun W H B hW hB h1 h3 hV =>
        long1 (f := fun _ => 1#8) hV hW (by omega) (Nat.le_refl _) (Nat.le_trans (by omega) M48.out) (rx_laid hB (by omega) (fun i hi => by rw [show i = 0 by omega]; rfl)) (by omega) (by omega))
      have HW4 := Lib.hid (show ∀ (W : World), RV w.heap.size wr hb (fun _ => 0#8) 1048576 W →
          Calls Tryd.prog 12 #[.pointer (some ⟨hb, 0, none⟩), .slice none 0 0] W fun e w' => e = .returned (.int .i64 0) ∧ RV w.heap.size wr hb (fun _ => 0#8) 1048576 w' from fun W hV =>
        (write_ok w.heap.size W hb (fun _ => 0#8) 1048576 none 0 0 (fun _ => none) (fun _ => 0) (fun _ => 0) (fun _ _ => 0#8) hV.kc (Nat.le_trans hV.lo hV.hi) hV.hh ⟨.inl rfl, fun i hi => by omega, fun i hi => by omega⟩ (by omega) (by simp [pos]) (fun i hi => by omega)).mono fun e w' h => ⟨h.1, hV.wrote h.2.1 h.2.2⟩)
      have HTG := Lib.hid (show ∀ (W : World), RV w.heap.size wr hb (fun _ => 0#8) 0 W → Calls Tryd.prog 13 #[.pointer (some ⟨hb, 0, none⟩)] W fun e w' => e = .returned T0 ∧ Below W.heap.size W w' from fun W hV => by rw [hT0]; exact hV.asks (by omega))
      have HTG2 := Lib.hid (show ∀ (W : World), RV w.heap.size wr hb (fun _ => 0#8) 1048576 W → Calls Tryd.prog 13 #[.pointer (some ⟨hb, 0, none⟩)] W fun e w' => e = .returned T1 ∧ Below W.heap.size W w' from fun W hV => by rw [hT1]; exact hV.asks (by omega))
      have HRF := Lib.hid (show ∀ (W : World), Calls Tryd.prog 14 #[.slice none 0 0] W fun e w' => e = .returned T0 ∧ Below W.heap.size W w' from fun W => by rw [hT0]; exact refOf_any W.heap.size W none 0 0 (fun _ => 0#8) (Nat.le_refl _) (by omega) (.inl rfl))
      have HOF := Lib.hid (show ∀ (W : World) (H A : Nat), W.heap[H]? = some (.cells #[.slice (some ⟨A, 0, none⟩) 1048576 1048576] 27 (0, 0)) → W.heap[A]? = some (.cells C1 5 (0, 0)) → RV w.heap.size wr hb (fun _ => 0#8) 1048576 W →
          Calls Tryd.prog 17 #[.slice (some ⟨H, 0, none⟩) 1 1] W fun e w' => e = .returned T1 ∧ Below W.heap.size W w' from fun W H A hW hA hV => by
        rw [hT1]; exact of1 w.heap.size W H 1048576 1048576 _ _ (fun _ => 0#8) hV.kc (Nat.le_trans hV.lo hV.sz) hW (Nat.le_refl _) (Nat.le_trans (by omega) M48.out) (reads_at hA HC1.out) (by omega))
      clear hT0 hT1
      go_upto_region 10 with (fail)
      refine wp_region_noPanic ?_
      refine wp_region_start (n := 49) (l := #[false, false, false, false, false, false, false, false, false, false, false, false, false, false, false, false, false, false, false, false, false, false, false, false, false, false, false, false, false, false, false, false, false, false, false, false, false, false, false, false, false, false, false, false, false, false, false, false, false]) (S := (fun _ => True)) (by kernel_rfl) rfl (by kernel_rfl) (by trivial) (fun hHeld => ?_)
      refine take_to (i := 0) (d := some 48) (v := ?_) (l' := #[true, false, false, false, false, false, false, false, false, false, false, false, false, false, false, false, false, false, false, false, false, false, false, false, false, false, false, false, false, false, false, false, false, false, false, false, false, false, false, false, false, false, false, false, false, false, false, false, false]) rfl rfl (by kernel_rfl) (by kernel_rfl) (by kernel_rfl) (by kernel_rfl) (fun _ _ _ h => h) (Or.inl ⟨by rfl, ?_⟩) (by assumption) ?_; rotate_left; · (intro w' hSw; (try dsimp only at hSw); go_simp; (try with_reducible rfl))
      try simp only [Act.put, List.setIfInBounds_toArray, List.set_cons_zero, List.set_cons_succ]
      refine two_to (i := 1) (j := 2) (l1 := #[true, true, false, false, false, false, false, false, false, false, false, false, false, false, false, false, false, false, false, false, false, false, false, false, false, false, false, false, false, false, false, false, false, false, false, false, false, false, false, false, false, false, false, false, false, false, false, false, false]) (l2 := #[true, false, true, false, false, false, false, false, false, false, false, false, false, false, false, false, false, false, false, false, false, false, false, false, false, false, false, false, false, false, false, false, false, false, false, false, false, false, false, false, false, false, false, false, false, false, false, false, false]) rfl rfl (by kernel_rfl) (by kernel_rfl) (by kernel_rfl) (fun K hK => ?_) (fun K hK => ?_)
      · skip
        go_simp
        refine hK.out _ _ (by trivial) (fun hHeld => ?_)
        clear hK K
        try simp only [Act.put, List.setIfInBounds_toArray, List.set_cons_zero, List.set_cons_succ]
        refine one_to (i := 2) (l' := #[true, true, true, false, false, false, false, false, false, false, false, false, false, false, false, false, false, false, false, false, false, false, false, false, false, false, false, false, false, false, false, false, false, false, false, false, false, false, false, false, false, false, false, false, false, false, false, false, false]) rfl (by kernel_rfl) (by kernel_rfl) (fun K hK => ?_)
        go_simp
        refine hK.out _ _ (by trivial) (fun hHeld => ?_)
        clear hK K
        try simp only [Act.put, List.setIfInBounds_toArray, List.set_cons_zero, List.set_cons_succ]
        refine one_to (i := 3) (l' := #[true, true, true, true, false, false, false, false, false, false, false, false, false, false, false, false, false, false, false, false, false, false, false, false, false, false, false, false, false, false, false, false, false, false, false, false, false, false, false, false, false, false, false, false, false, false, false, false, false]) rfl (by kernel_rfl) (by kernel_rfl) (fun K hK => ?_)
        go_simp
        refine hK.out _ _ (by trivial) (fun hHeld => ?_)
        clear hK K
        try simp only [Act.put, List.setIfInBounds_toArray, List.set_cons_zero, List.set_cons_succ]
        refine one_to (i := 4) (l' := #[true, true, true, true, true, false, false, false, false, false, false, false, false, false, false, false, false, false, false, false, false, false, false, false, false, false, false, false, false, false, false, false, false, false, false, false, false, false, false, false, false, false, false, false, false, false, false, false, false]) rfl (by kernel_rfl) (by kernel_rfl) (fun K hK => ?_)
        go_simp
        refine (HW1.out _ _ _ _ (by (try simp only [heap_drew]); repeat (first | (apply laid_at; simp; done) | apply laid_old | (refine laid_go ?_ (by assumption); try simp only [heap_drew]))) (by (try simp only [heap_drew]); repeat (first | (apply laid_at; simp; done) | apply laid_old | (refine laid_go ?_ (by assumption); try simp only [heap_drew]))) (by (try simp only [heap_drew]); repeat (first | (apply laid_at; simp; done) | apply laid_old | (refine laid_go ?_ (by assumption); try simp only [heap_drew]))) (by (try simp only [heap_drew]); (try simp); omega) (by (try simp only [heap_drew]); (try simp); omega) (by (try simp only [heap_drew]); (try simp); omega) (by repeat (first | exact HV.out | apply RV.drew | apply RV.alloc | (refine RV.go ?_ (by assumption))))).mono ?_
        rintro e w' ⟨rfl, rfl⟩
        dsimp only
        refine hK.out _ _ (by trivial) (fun hHeld => ?_)
        clear hK K
        try simp only [Act.put, List.setIfInBounds_toArray, List.set_cons_zero, List.set_cons_succ]
        refine take_to (i := 5) (d := some 53) (v := ?_) (l' := #[true, true, true, true, true, true, false, false, false, false, false, false, false, false, false, false, false, false, false, false, false, false, false, false, false, false, false, false, false, false, false, false, false, false, false, false, false, false, false, false, false, false, false, false, false, false, false, false, false]) rfl rfl (by kernel_rfl) (by kernel_rfl) (by kernel_rfl) (by kernel_rfl) (fun _ _ _ h => h) (Or.inl ⟨by rfl, ?_⟩) (by assumption) ?_; rotate_left; · (intro w' hSw; (try dsimp only at hSw); go_simp; (try with_reducible rfl))
        try simp only [Act.put, List.setIfInBounds_toArray, List.set_cons_zero, List.set_cons_succ]
        refine take_to (i := 6) (d := some 54) (v := ?_) (l' := #[true, true, true, true, true, true, true, false, false, false, false, false, false, false, false, false, false, false, false, false, false, false, false, false, false, false, false, false, false, false, false, false, false, false, false, false, false, false, false, false, false, false, false, false, false, false, false, false, false]) rfl rfl (by kernel_rfl) (by kernel_rfl) (by kernel_rfl) (by kernel_rfl) (fun _ _ _ h => h) (Or.inl ⟨by rfl, ?_⟩) (by assumption) ?_; rotate_left; · (intro w' hSw; (try dsimp only at hSw); go_simp; (try with_reducible rfl))
        try simp only [Act.put, List.setIfInBounds_toArray, List.set_cons_zero, List.set_cons_succ]
        refine take_to (i := 7) (d := some 55) (v := ?_) (l' := #[true, true, true, true, true, true, true, true, false, false, false, false, false, false, false, false, false, false, false, false, false, false, false, false, false, false, false, false, false, false, false, false, false, false, false, false, false, false, false, false, false, false, false, false, false, false, false, false, false]) rfl rfl (by kernel_rfl) (by kernel_rfl) (by kernel_rfl) (by kernel_rfl) (fun _ _ _ h => h) (Or.inl ⟨by rfl, ?_⟩) (by assumption) ?_; rotate_left; · (intro w' hSw; (try dsimp only at hSw); go_simp; (try with_reducible rfl))
        try simp only [Act.put, List.setIfInBounds_toArray, List.set_cons_zero, List.set_cons_succ]
        refine one_to (i := 8) (l' := #[true, true, true, true, true, true, true, true, true, false, false, false, false, false, false, false, false, false, false, false, false, false, false, false, false, false, false, false, false, false, false, false, false, false, false, false, false, false, false, false, false, false, false, false, false, false, false, false, false]) rfl (by kernel_rfl) (by kernel_rfl) (fun K hK => ?_)
        go_simp
        refine (RV.len (by repeat (first | exact HV.out | apply RV.drew | apply RV.alloc | (refine RV.go ?_ (by assumption))))).mono ?_
        rintro e w' ⟨rfl, rfl⟩
        dsimp only
        refine hK.out _ _ (by trivial) (fun hHeld => ?_)
        clear hK K
        try simp only [Act.put, List.setIfInBounds_toArray, List.set_cons_zero, List.set_cons_succ]
        refine take_to (i := 9) (d := some 57) (v := ?_) (l' := #[true, true, true, true, true, true, true, true, true, true, false, false, false, false, false, false, false, false, false, false, false, false, false, false, false, false, false, false, false, false, false, false, false, false, false, false, false, false, false, false, false, false, false, false, false, false, false, false, false]) rfl rfl (by kernel_rfl) (by kernel_rfl) (by kernel_rfl) (by kernel_rfl) (fun _ _ _ h => h) (Or.inl ⟨by rfl, ?_⟩) (by assumption) ?_; rotate_left; · (intro w' hSw; (try dsimp only at hSw); go_simp; (try with_reducible rfl))
        try simp only [Act.put, List.setIfInBounds_toArray, List.set_cons_zero, List.set_cons_succ]
        refine take_to (i := 10) (d := some 58) (v := ?_) (l' := #[true, true, true, true, true, true, true, true, true, true, true, false, false, false, false, false, false, false, false, false, false, false, false, false, false, false, false, false, false, false, false, false, false, false, false, false, false, false, false, false, false, false, false, false, false, false, false, false, false]) rfl rfl (by kernel_rfl) (by kernel_rfl) (by kernel_rfl) (by kernel_rfl) (fun _ _ _ h => h) (Or.inl ⟨by rfl, ?_⟩) (by assumption) ?_; rotate_left; · (intro w' hSw; (try dsimp only at hSw); go_simp; (try with_reducible rfl))
        try simp only [Act.put, List.setIfInBounds_toArray, List.set_cons_zero, List.set_cons_succ]
        refine take_to (i := 11) (d := some 59) (v := ?_) (l' := #[true, true, true, true, true, true, true, true, true, true, true, true, false, false, false, false, false, false, false, false, false, false, false, false, false, false, false, false, false, false, false, false, false, false, false, false, false, false, false, false, false, false, false, false, false, false, false, false, false]) rfl rfl (by kernel_rfl) (by kernel_rfl) (by kernel_rfl) (by kernel_rfl) (fun _ _ _ h => h) (Or.inl ⟨by rfl, ?_⟩) (by assumption) ?_; rotate_left; · (intro w' hSw; (try dsimp only at hSw); go_simp; (try with_reducible rfl))
        try simp only [Act.put, List.setIfInBounds_toArray, List.set_cons_zero, List.set_cons_succ]
        refine take_to (i := 12) (d := some 60) (v := ?_) (l' := #[true, true, true, true, true, true, true, true, true, true, true, true, true, false, false, false, false, false, false, false, false, false, false, false, false, false, false, false, false, false, false, false, false, false, false, false, false, false, false, false, false, false, false, false, false, false, false, false, false]) rfl rfl (by kernel_rfl) (by kernel_rfl) (by kernel_rfl) (by kernel_rfl) (fun _ _ _ h => h) (Or.inl ⟨by rfl, ?_⟩) (by assumption) ?_; rotate_left; · (intro w' hSw; (try dsimp only at hSw); go_simp; (try with_reducible rfl))
        try simp only [Act.put, List.setIfInBounds_toArray, List.set_cons_zero, List.set_cons_succ]
        refine one_to (i := 13) (l' := #[true, true, true, true, true, true, true, true, true, true, true, true, true, true, false, false, false, false, false, false, false, false, false, false, false, false, false, false, false, false, false, false, false, false, false, false, false, false, false, false, false, false, false, false, false, false, false, false, false]) rfl (by kernel_rfl) (by kernel_rfl) (fun K hK => ?_)
        go_simp
        refine (HTG.out _ (by repeat (first | exact HV.out | apply RV.drew | apply RV.alloc | (refine RV.go ?_ (by assumption))))).mono ?_
        rintro e w6 ⟨rfl, hb6⟩
        dsimp only
        refine hK.out _ _ (by trivial) (fun hHeld => ?_)
        clear hK K
        try simp only [Act.put, List.setIfInBounds_toArray, List.set_cons_zero, List.set_cons_succ]
        refine one_to (i := 14) (l' := #[true, true, true, true, true, true, true, true, true, true, true, true, true, true, true, false, false, false, false, false, false, false, false, false, false, false, false, false, false, false, false, false, false, false, false, false, false, false, false, false, false, false, false, false, false, false, false, false, false]) rfl (by kernel_rfl) (by kernel_rfl) (fun K hK => ?_)
        go_simp
        refine (HRF.out _).mono ?_
        rintro e w7 ⟨rfl, hb7⟩
        dsimp only
        refine hK.out _ _ (by trivial) (fun hHeld => ?_)
        clear hK K
        try simp only [Act.put, List.setIfInBounds_toArray, List.set_cons_zero, List.set_cons_succ]
        refine take_to (i := 15) (d := some 63) (v := ?_) (l' := #[true, true, true, true, true, true, true, true, true, true, true, true, true, true, true, true, false, false, false, false, false, false, false, false, false, false, false, false, false, false, false, false, false, false, false, false, false, false, false, false, false, false, false, false, false, false, false, false, false]) rfl rfl (by kernel_rfl) (by kernel_rfl) (by kernel_rfl) (by kernel_rfl) (fun _ _ _ h => h) (Or.inl ⟨by rfl, ?_⟩) (by assumption) ?_; rotate_left; · (intro w' hSw; (try dsimp only at hSw); go_simp; (try with_reducible rfl))
        try simp only [Act.put, List.setIfInBounds_toArray, List.set_cons_zero, List.set_cons_succ]
        refine take_to (i := 16) (d := some 64) (v := ?_) (l' := #[true, true, true, true, true, true, true, true, true, true, true, true, true, true, true, true, true, false, false, false, false, false, false, false, false, false, false, false, false, false, false, false, false, false, false, false, false, false, false, false, false, false, false, false, false, false, false, false, false]) rfl rfl (by kernel_rfl) (by kernel_rfl) (by kernel_rfl) (by kernel_rfl) (fun _ _ _ h => h) (Or.inl ⟨by rfl, ?_⟩) (by assumption) ?_; rotate_left; · (intro w' hSw; (try dsimp only at hSw); go_simp; (try with_reducible rfl))
        try simp only [Act.put, List.setIfInBounds_toArray, List.set_cons_zero, List.set_cons_succ]
        refine take_to (i := 17) (d := some 65) (v := ?_) (l' := #[true, true, true, true, true, true, true, true, true, true, true, true, true, true, true, true, true, true, false, false, false, false, false, false, false, false, false, false, false, false, false, false, false, false, false, false, false, false, false, false, false, false, false, false, false, false, false, false, false]) rfl rfl (by kernel_rfl) (by kernel_rfl) (by kernel_rfl) (by kernel_rfl) (fun _ _ _ h => h) (Or.inl ⟨by rfl, ?_⟩) (by assumption) ?_; rotate_left; · (intro w' hSw; (try dsimp only at hSw); go_simp; (try with_reducible rfl))
        try simp only [Act.put, List.setIfInBounds_toArray, List.set_cons_zero, List.set_cons_succ]
        refine take_to (i := 18) (d := some 66) (v := ?_) (l' := #[true, true, true, true, true, true, true, true, true, true, true, true, true, true, true, true, true, true, true, false, false, false, false, false, false, false, false, false, false, false, false, false, false, false, false, false, false, false, false, false, false, false, false, false, false, false, false, false, false]) rfl rfl (by kernel_rfl) (by kernel_rfl) (by kernel_rfl) (by kernel_rfl) (fun _ _ _ h => h) (Or.inl ⟨by rfl, ?_⟩) (by assumption) ?_; rotate_left; · (intro w' hSw; (try dsimp only at hSw); go_simp; (try with_reducible rfl))
        try simp only [Act.put, List.setIfInBounds_toArray, List.set_cons_zero, List.set_cons_succ]
        refine one_to (i := 19) (l' := #[true, true, true, true, true, true, true, true, true, true, true, true, true, true, true, true, true, true, true, true, false, false, false, false, false, false, false, false, false, false, false, false, false, false, false, false, false, false, false, false, false, false, false, false, false, false, false, false, false]) rfl (by kernel_rfl) (by kernel_rfl) (fun K hK => ?_)
        go_simp
        refine hK.out _ _ (by trivial) (fun hHeld => ?_)
        clear hK K
        try simp only [Act.put, List.setIfInBounds_toArray, List.set_cons_zero, List.set_cons_succ]
        refine one_to (i := 20) (l' := #[true, true, true, true, true, true, true, true, true, true, true, true, true, true, true, true, true, true, true, true, true, false, false, false, false, false, false, false, false, false, false, false, false, false, false, false, false, false, false, false, false, false, false, false, false, false, false, false, false]) rfl (by kernel_rfl) (by kernel_rfl) (fun K hK => ?_)
        go_simp
        refine hK.out _ _ (by trivial) (fun hHeld => ?_)
        clear hK K
        try simp only [Act.put, List.setIfInBounds_toArray, List.set_cons_zero, List.set_cons_succ]
        refine one_to (i := 21) (l' := #[true, true, true, true, true, true, true, true, true, true, true, true, true, true, true, true, true, true, true, true, true, true, false, false, false, false, false, false, false, false, false, false, false, false, false, false, false, false, false, false, false, false, false, false, false, false, false, false, false]) rfl (by kernel_rfl) (by kernel_rfl) (fun K hK => ?_)
        go_simp
        refine (HW2.out _ _ _ (by (try simp only [heap_drew]); repeat (first | (apply laid_at; simp; done) | apply laid_old | (refine laid_go ?_ (by assumption); try simp only [heap_drew]))) (by (try simp only [heap_drew]); repeat (first | (apply laid_at; simp; done) | apply laid_old | (refine laid_go ?_ (by assumption); try simp only [heap_drew]))) (by first | ((try simp only [heap_drew]); (try simp); omega) | (have hz := (show RV w.heap.size wr hb (fun _ => 0#8) 0 w7 from (by repeat (first | exact HV.out | apply RV.drew | apply RV.alloc | (refine RV.go ?_ (by assumption))))).hh.lt; (try simp only [heap_drew]); (try simp); omega) | (have hz := (show RV w.heap.size wr hb (fun _ => 0#8) 0 w6 from (by repeat (first | exact HV.out | apply RV.drew | apply RV.alloc | (refine RV.go ?_ (by assumption))))).hh.lt; (try simp only [heap_drew]); (try simp); omega)) (by first | ((try simp only [heap_drew]); (try simp); omega) | (have hz := (show RV w.heap.size wr hb (fun _ => 0#8) 0 w7 from (by repeat (first | exact HV.out | apply RV.drew | apply RV.alloc | (refine RV.go ?_ (by assumption))))).hh.lt; (try simp only [heap_drew]); (try simp); omega) | (have hz := (show RV w.heap.size wr hb (fun _ => 0#8) 0 w6 from (by repeat (first | exact HV.out | apply RV.drew | apply RV.alloc | (refine RV.go ?_ (by assumption))))).hh.lt; (try simp only [heap_drew]); (try simp); omega)) (by repeat (first | exact HV.out | apply RV.drew | apply RV.alloc | (refine RV.go ?_ (by assumption))))).mono ?_
        rintro e w8 ⟨rfl, hv8⟩; have HV8 := Lib.hid hv8; have hlt8 := hv8.hh.lt; clear hv8
        dsimp only
        refine hK.out _ _ (by trivial) (fun hHeld => ?_)
        clear hK K
        try simp only [Act.put, List.setIfInBounds_toArray, List.set_cons_zero, List.set_cons_succ]
        refine take_to (i := 22) (d := some 70) (v := ?_) (l' := #[true, true, true, true, true, true, true, true, true, true, true, true, true, true, true, true, true, true, true, true, true, true, true, false, false, false, false, false, false, false, false, false, false, false, false, false, false, false, false, false, false, false, false, false, false, false, false, false, false]) rfl rfl (by kernel_rfl) (by kernel_rfl) (by kernel_rfl) (by kernel_rfl) (fun _ _ _ h => h) (Or.inl ⟨by rfl, ?_⟩) (by assumption) ?_; rotate_left; · (intro w' hSw; (try dsimp only at hSw); go_simp; (try with_reducible rfl))
        try simp only [Act.put, List.setIfInBounds_toArray, List.set_cons_zero, List.set_cons_succ]
        refine take_to (i := 23) (d := some 71) (v := ?_) (l' := #[true, true, true, true, true, true, true, true, true, true, true, true, true, true, true, true, true, true, true, true, true, true, true, true, false, false, false, false, false, false, false, false, false, false, false, false, false, false, false, false, false, false, false, false, false, false, false, false, false]) rfl rfl (by kernel_rfl) (by kernel_rfl) (by kernel_rfl) (by kernel_rfl) (fun _ _ _ h => h) (Or.inl ⟨by rfl, ?_⟩) (by assumption) ?_; rotate_left; · (intro w' hSw; (try dsimp only at hSw); go_simp; (try with_reducible rfl))
        try simp only [Act.put, List.setIfInBounds_toArray, List.set_cons_zero, List.set_cons_succ]
        refine take_to (i := 24) (d := some 72) (v := ?_) (l' := #[true, true, true, true, true, true, true, true, true, true, true, true, true, true, true, true, true, true, true, true, true, true, true, true, true, false, false, false, false, false, false, false, false, false, false, false, false, false, false, false, false, false, false, false, false, false, false, false, false]) rfl rfl (by kernel_rfl) (by kernel_rfl) (by kernel_rfl) (by kernel_rfl) (fun _ _ _ h => h) (Or.inl ⟨by rfl, ?_⟩) (by assumption) ?_; rotate_left; · (intro w' hSw; (try dsimp only at hSw); go_simp; (try with_reducible rfl))
        try simp only [Act.put, List.setIfInBounds_toArray, List.set_cons_zero, List.set_cons_succ]
        refine take_to (i := 25) (d := some 73) (v := ?_) (l' := #[true, true, true, true, true, true, true, true, true, true, true, true, true, true, true, true, true, true, true, true, true, true, true, true, true, true, false, false, false, false, false, false, false, false, false, false, false, false, false, false, false, false, false, false, false, false, false, false, false]) rfl rfl (by kernel_rfl) (by kernel_rfl) (by kernel_rfl) (by kernel_rfl) (fun _ _ _ h => h) (Or.inl ⟨by rfl, ?_⟩) (by assumption) ?_; rotate_left; · (intro w' hSw; (try dsimp only at hSw); go_simp; (try with_reducible rfl))
        try simp only [Act.put, List.setIfInBounds_toArray, List.set_cons_zero, List.set_cons_succ]
        refine one_to (i := 26) (l' := #[true, true, true, true, true, true, true, true, true, true, true, true, true, true, true, true, true, true, true, true, true, true, true, true, true, true, true, false, false, false, false, false, false, false, false, false, false, false, false, false, false, false, false, false, false, false, false, false, false]) rfl (by kernel_rfl) (by kernel_rfl) (fun K hK => ?_)
        go_simp
        refine hK.out _ _ (by trivial) (fun hHeld => ?_)
        clear hK K
        try simp only [Act.put, List.setIfInBounds_toArray, List.set_cons_zero, List.set_cons_succ]
        refine one_to (i := 27) (l' := #[true, true, true, true, true, true, true, true, true, true, true, true, true, true, true, true, true, true, true, true, true, true, true, true, true, true, true, true, false, false, false, false, false, false, false, false, false, false, false, false, false, false, false, false, false, false, false, false, false]) rfl (by kernel_rfl) (by kernel_rfl) (fun K hK => ?_)
        go_simp
        refine hK.out _ _ (by trivial) (fun hHeld => ?_)
        clear hK K
        try simp only [Act.put, List.setIfInBounds_toArray, List.set_cons_zero, List.set_cons_succ]
        refine one_to (i := 28) (l' := #[true, true, true, true, true, true, true, true, true, true, true, true, true, true, true, true, true, true, true, true, true, true, true, true, true, true, true, true, true, false, false, false, false, false, false, false, false, false, false, false, false, false, false, false, false, false, false, false, false]) rfl (by kernel_rfl) (by kernel_rfl) (fun K hK => ?_)
        go_simp
        refine (HW3.out _ _ _ (by (try simp only [heap_drew]); repeat (first | (apply laid_at; simp; done) | apply laid_old | (refine laid_go ?_ (by assumption); try simp only [heap_drew]))) (by (try simp only [heap_drew]); repeat (first | (apply laid_at; simp; done) | apply laid_old | (refine laid_go ?_ (by assumption); try simp only [heap_drew]))) (by (try simp only [heap_drew]); (try simp); omega) (by (try simp only [heap_drew]); (try simp); omega) (by repeat (first | exact HV8.out | apply RV.drew | apply RV.alloc | (refine RV.go ?_ (by assumption))))).mono ?_
        rintro e w' ⟨rfl, rfl⟩
        dsimp only
        refine hK.out _ _ (by trivial) (fun hHeld => ?_)
        clear hK K
        try simp only [Act.put, List.setIfInBounds_toArray, List.set_cons_zero, List.set_cons_succ]
        refine take_to (i := 29) (d := some 77) (v := ?_) (l' := #[true, true, true, true, true, true, true, true, true, true, true, true, true, true, true, true, true, true, true, true, true, true, true, true, true, true, true, true, true, true, false, false, false, false, false, false, false, false, false, false, false, false, false, false, false, false, false, false, false]) rfl rfl (by kernel_rfl) (by kernel_rfl) (by kernel_rfl) (by kernel_rfl) (fun _ _ _ h => h) (Or.inl ⟨by rfl, ?_⟩) (by assumption) ?_; rotate_left; · (intro w' hSw; (try dsimp only at hSw); go_simp; (try with_reducible rfl))
        try simp only [Act.put, List.setIfInBounds_toArray, List.set_cons_zero, List.set_cons_succ]
        refine take_to (i := 30) (d := some 78) (v := ?_) (l' := #[true, true, true, true, true, true, true, true, true, true, true, true, true, true, true, true, true, true, true, true, true, true, true, true, true, true, true, true, true, true, true, false, false, false, false, false, false, false, false, false, false, false, false, false, false, false, false, false, false]) rfl rfl (by kernel_rfl) (by kernel_rfl) (by kernel_rfl) (by kernel_rfl) (fun _ _ _ h => h) (Or.inl ⟨by rfl, ?_⟩) (by assumption) ?_; rotate_left; · (intro w' hSw; (try dsimp only at hSw); go_simp; (try with_reducible rfl))
        try simp only [Act.put, List.setIfInBounds_toArray, List.set_cons_zero, List.set_cons_succ]
        refine take_to (i := 31) (d := some 79) (v := ?_) (l' := #[true, true, true, true, true, true, true, true, true, true, true, true, true, true, true, true, true, true, true, true, true, true, true, true, true, true, true, true, true, true, true, true, false, false, false, false, false, false, false, false, false, false, false, false, false, false, false, false, false]) rfl rfl (by kernel_rfl) (by kernel_rfl) (by kernel_rfl) (by kernel_rfl) (fun _ _ _ h => h) (Or.inl ⟨by rfl, ?_⟩) (by assumption) ?_; rotate_left; · (intro w' hSw; (try dsimp only at hSw); go_simp; (try with_reducible rfl))
        try simp only [Act.put, List.setIfInBounds_toArray, List.set_cons_zero, List.set_cons_succ]
        refine take_to (i := 32) (d := some 80) (v := ?_) (l' := #[true, true, true, true, true, true, true, true, true, true, true, true, true, true, true, true, true, true, true, true, true, true, true, true, true, true, true, true, true, true, true, true, true, false, false, false, false, false, false, false, false, false, false, false, false, false, false, false, false]) rfl rfl (by kernel_rfl) (by kernel_rfl) (by kernel_rfl) (by kernel_rfl) (fun _ _ _ h => h) (Or.inl ⟨by rfl, ?_⟩) (by assumption) ?_; rotate_left; · (intro w' hSw; (try dsimp only at hSw); go_simp; (try with_reducible rfl))
        try simp only [Act.put, List.setIfInBounds_toArray, List.set_cons_zero, List.set_cons_succ]
        refine one_to (i := 33) (l' := #[true, true, true, true, true, true, true, true, true, true, true, true, true, true, true, true, true, true, true, true, true, true, true, true, true, true, true, true, true, true, true, true, true, true, false, false, false, false, false, false, false, false, false, false, false, false, false, false, false]) rfl (by kernel_rfl) (by kernel_rfl) (fun K hK => ?_)
        go_simp
        refine (HW4.out _ (by repeat (first | exact HV8.out | apply RV.drew | apply RV.alloc | (refine RV.go ?_ (by assumption))))).mono ?_
        rintro e w9 ⟨rfl, hv9⟩; have HV9 := Lib.hid hv9; clear hv9
        dsimp only
        refine hK.out _ _ (by trivial) (fun hHeld => ?_)
        clear hK K
        try simp only [Act.put, List.setIfInBounds_toArray, List.set_cons_zero, List.set_cons_succ]
        refine take_to (i := 34) (d := some 82) (v := ?_) (l' := #[true, true, true, true, true, true, true, true, true, true, true, true, true, true, true, true, true, true, true, true, true, true, true, true, true, true, true, true, true, true, true, true, true, true, true, false, false, false, false, false, false, false, false, false, false, false, false, false, false]) rfl rfl (by kernel_rfl) (by kernel_rfl) (by kernel_rfl) (by kernel_rfl) (fun _ _ _ h => h) (Or.inl ⟨by rfl, ?_⟩) (by assumption) ?_; rotate_left; · (intro w' hSw; (try dsimp only at hSw); go_simp; (try with_reducible rfl))
        try simp only [Act.put, List.setIfInBounds_toArray, List.set_cons_zero, List.set_cons_succ]
        refine take_to (i := 35) (d := some 83) (v := ?_) (l' := #[true, true, true, true, true, true, true, true, true, true, true, true, true, true, true, true, true, true, true, true, true, true, true, true, true, true, true, true, true, true, true, true, true, true, true, true, false, false, false, false, false, false, false, false, false, false, false, false, false]) rfl rfl (by kernel_rfl) (by kernel_rfl) (by kernel_rfl) (by kernel_rfl) (fun _ _ _ h => h) (Or.inl ⟨by rfl, ?_⟩) (by assumption) ?_; rotate_left; · (intro w' hSw; (try dsimp only at hSw); go_simp; (try with_reducible rfl))
        try simp only [Act.put, List.setIfInBounds_toArray, List.set_cons_zero, List.set_cons_succ]
        refine take_to (i := 36) (d := some 84) (v := ?_) (l' := #[true, true, true, true, true, true, true, true, true, true, true, true, true, true, true, true, true, true, true, true, true, true, true, true, true, true, true, true, true, true, true, true, true, true, true, true, true, false, false, false, false, false, false, false, false, false, false, false, false]) rfl rfl (by kernel_rfl) (by kernel_rfl) (by kernel_rfl) (by kernel_rfl) (fun _ _ _ h => h) (Or.inl ⟨by rfl, ?_⟩) (by assumption) ?_; rotate_left; · (intro w' hSw; (try dsimp only at hSw); go_simp; (try with_reducible rfl))
        try simp only [Act.put, List.setIfInBounds_toArray, List.set_cons_zero, List.set_cons_succ]
        refine take_to (i := 37) (d := some 85) (v := ?_) (l' := #[true, true, true, true, true, true, true, true, true, true, true, true, true, true, true, true, true, true, true, true, true, true, true, true, true, true, true, true, true, true, true, true, true, true, true, true, true, true, false, false, false, false, false, false, false, false, false, false, false]) rfl rfl (by kernel_rfl) (by kernel_rfl) (by kernel_rfl) (by kernel_rfl) (fun _ _ _ h => h) (Or.inl ⟨by rfl, ?_⟩) (by assumption) ?_; rotate_left; · (intro w' hSw; (try dsimp only at hSw); go_simp; (try with_reducible rfl))
        try simp only [Act.put, List.setIfInBounds_toArray, List.set_cons_zero, List.set_cons_succ]
        refine one_to (i := 38) (l' := #[true, true, true, true, true, true, true, true, true, true, true, true, true, true, true, true, true, true, true, true, true, true, true, true, true, true, true, true, true, true, true, true, true, true, true, true, true, true, true, false, false, false, false, false, false, false, false, false, false]) rfl (by kernel_rfl) (by kernel_rfl) (fun K hK => ?_)
        go_simp
        refine (RV.len (by repeat (first | exact HV9.out | apply RV.drew | apply RV.alloc | (refine RV.go ?_ (by assumption))))).mono ?_
        rintro e w' ⟨rfl, rfl⟩
        dsimp only
        refine hK.out _ _ (by trivial) (fun hHeld => ?_)
        clear hK K
        try simp only [Act.put, List.setIfInBounds_toArray, List.set_cons_zero, List.set_cons_succ]
        refine take_to (i := 39) (d := some 87) (v := ?_) (l' := #[true, true, true, true, true, true, true, true, true, true, true, true, true, true, true, true, true, true, true, true, true, true, true, true, true, true, true, true, true, true, true, true, true, true, true, true, true, true, true, true, false, false, false, false, false, false, false, false, false]) rfl rfl (by kernel_rfl) (by kernel_rfl) (by kernel_rfl) (by kernel_rfl) (fun _ _ _ h => h) (Or.inl ⟨by rfl, ?_⟩) (by assumption) ?_; rotate_left; · (intro w' hSw; (try dsimp only at hSw); go_simp; (try with_reducible rfl))
        try simp only [Act.put, List.setIfInBounds_toArray, List.set_cons_zero, List.set_cons_succ]
        refine take_to (i := 40) (d := some 88) (v := ?_) (l' := #[true, true, true, true, true, true, true, true, true, true, true, true, true, true, true, true, true, true, true, true, true, true, true, true, true, true, true, true, true, true, true, true, true, true, true, true, true, true, true, true, true, false, false, false, false, false, false, false, false]) rfl rfl (by kernel_rfl) (by kernel_rfl) (by kernel_rfl) (by kernel_rfl) (fun _ _ _ h => h) (Or.inl ⟨by rfl, ?_⟩) (by assumption) ?_; rotate_left; · (intro w' hSw; (try dsimp only at hSw); go_simp; (try with_reducible rfl))
        try simp only [Act.put, List.setIfInBounds_toArray, List.set_cons_zero, List.set_cons_succ]
        refine take_to (i := 41) (d := some 89) (v := ?_) (l' := #[true, true, true, true, true, true, true, true, true, true, true, true, true, true, true, true, true, true, true, true, true, true, true, true, true, true, true, true, true, true, true, true, true, true, true, true, true, true, true, true, true, true, false, false, false, false, false, false, false]) rfl rfl (by kernel_rfl) (by kernel_rfl) (by kernel_rfl) (by kernel_rfl) (fun _ _ _ h => h) (Or.inl ⟨by rfl, ?_⟩) (by assumption) ?_; rotate_left; · (intro w' hSw; (try dsimp only at hSw); go_simp; (try with_reducible rfl))
        try simp only [Act.put, List.setIfInBounds_toArray, List.set_cons_zero, List.set_cons_succ]
        refine take_to (i := 42) (d := some 90) (v := ?_) (l' := #[true, true, true, true, true, true, true, true, true, true, true, true, true, true, true, true, true, true, true, true, true, true, true, true, true, true, true, true, true, true, true, true, true, true, true, true, true, true, true, true, true, true, true, false, false, false, false, false, false]) rfl rfl (by kernel_rfl) (by kernel_rfl) (by kernel_rfl) (by kernel_rfl) (fun _ _ _ h => h) (Or.inl ⟨by rfl, ?_⟩) (by assumption) ?_; rotate_left; · (intro w' hSw; (try dsimp only at hSw); go_simp; (try with_reducible rfl))
        try simp only [Act.put, List.setIfInBounds_toArray, List.set_cons_zero, List.set_cons_succ]
        refine two_to (i := 43) (j := 44) (l1 := #[true, true, true, true, true, true, true, true, true, true, true, true, true, true, true, true, true, true, true, true, true, true, true, true, true, true, true, true, true, true, true, true, true, true, true, true, true, true, true, true, true, true, true, true, false, false, false, false, false]) (l2 := #[true, true, true, true, true, true, true, true, true, true, true, true, true, true, true, true, true, true, true, true, true, true, true, true, true, true, true, true, true, true, true, true, true, true, true, true, true, true, true, true, true, true, true, false, true, false, false, false, false]) rfl rfl (by kernel_rfl) (by kernel_rfl) (by kernel_rfl) (fun K hK => ?_) (fun K hK => ?_)
        · skip
          go_simp
          refine (HTG2.out _ (by repeat (first | exact HV9.out | apply RV.drew | apply RV.alloc | (refine RV.go ?_ (by assumption))))).mono ?_
          rintro e w10 ⟨rfl, hb10⟩
          dsimp only
          refine hK.out _ _ (by trivial) (fun hHeld => ?_)
          clear hK K
          try simp only [Act.put, List.setIfInBounds_toArray, List.set_cons_zero, List.set_cons_succ]
          refine one_to (i := 44) (l' := #[true, true, true, true, true, true, true, true, true, true, true, true, true, true, true, true, true, true, true, true, true, true, true, true, true, true, true, true, true, true, true, true, true, true, true, true, true, true, true, true, true, true, true, true, true, false, false, false, false]) rfl (by kernel_rfl) (by kernel_rfl) (fun K hK => ?_)
          go_simp
          refine hK.out _ _ (by trivial) (fun hHeld => ?_)
          clear hK K
          try simp only [Act.put, List.setIfInBounds_toArray, List.set_cons_zero, List.set_cons_succ]
          refine one_to (i := 45) (l' := #[true, true, true, true, true, true, true, true, true, true, true, true, true, true, true, true, true, true, true, true, true, true, true, true, true, true, true, true, true, true, true, true, true, true, true, true, true, true, true, true, true, true, true, true, true, true, false, false, false]) rfl (by kernel_rfl) (by kernel_rfl) (fun K hK => ?_)
          go_simp
          refine hK.out _ _ (by trivial) (fun hHeld => ?_)
          clear hK K
          try simp only [Act.put, List.setIfInBounds_toArray, List.set_cons_zero, List.set_cons_succ]
          refine one_to (i := 46) (l' := #[true, true, true, true, true, true, true, true, true, true, true, true, true, true, true, true, true, true, true, true, true, true, true, true, true, true, true, true, true, true, true, true, true, true, true, true, true, true, true, true, true, true, true, true, true, true, true, false, false]) rfl (by kernel_rfl) (by kernel_rfl) (fun K hK => ?_)
          go_simp
          refine (HOF.out _ _ _ (by (try simp only [heap_drew]); repeat (first | (apply laid_at; simp; done) | apply laid_old | (refine laid_go ?_ (by assumption); try simp only [heap_drew]))) (by (try simp only [heap_drew]); repeat (first | (apply laid_at; simp; done) | apply laid_old | (refine laid_go ?_ (by assumption); try simp only [heap_drew]))) (by repeat (first | exact HV9.out | apply RV.drew | apply RV.alloc | (refine RV.go ?_ (by assumption))))).mono ?_
          rintro e w11 ⟨rfl, hb11⟩
          dsimp only
          refine hK.out _ _ (by trivial) (fun hHeld => ?_)
          clear hK K
          try simp only [Act.put, List.setIfInBounds_toArray, List.set_cons_zero, List.set_cons_succ]
          refine take_to (i := 47) (d := some 95) (v := ?_) (l' := #[true, true, true, true, true, true, true, true, true, true, true, true, true, true, true, true, true, true, true, true, true, true, true, true, true, true, true, true, true, true, true, true, true, true, true, true, true, true, true, true, true, true, true, true, true, true, true, true, false]) rfl rfl (by kernel_rfl) (by kernel_rfl) (by kernel_rfl) (by kernel_rfl) (fun _ _ _ h => h) (Or.inl ⟨by rfl, ?_⟩) (by assumption) ?_; rotate_left; · (intro w' hSw; (try dsimp only at hSw); go_simp; (try with_reducible rfl))
          try simp only [Act.put, List.setIfInBounds_toArray, List.set_cons_zero, List.set_cons_succ]
          refine take_to (i := 48) (d := some 96) (v := ?_) (l' := #[true, true, true, true, true, true, true, true, true, true, true, true, true, true, true, true, true, true, true, true, true, true, true, true, true, true, true, true, true, true, true, true, true, true, true, true, true, true, true, true, true, true, true, true, true, true, true, true, true]) rfl rfl (by kernel_rfl) (by kernel_rfl) (by kernel_rfl) (by kernel_rfl) (fun _ _ _ h => h) (Or.inl ⟨by rfl, ?_⟩) (by assumption) ?_; rotate_left; · (intro w' hSw; (try dsimp only at hSw); go_simp; (try with_reducible rfl))
          try simp only [Act.put, List.setIfInBounds_toArray, List.set_cons_zero, List.set_cons_succ]
          refine wpAnyH_done (by kernel_rfl) ?_ _
          refine NoPanic.normal ?_
          clear hHeld hmk hm1 hn0 hg0 hn1 hg1 HW1 HW2 HW3 HW4 HTG HTG2 HRF HOF
          go_wp2_with fail
          refine (none02_any _).mono ?_
          rintro e w20 ⟨rfl, hb20⟩
          have H20 := Lib.hid (show RV w.heap.size wr hb (fun _ => 0#8) 1048576 w20 from (by refine RV.go ?_ hb20; repeat (first | exact HV9.out | apply RV.drew | apply RV.alloc | (refine RV.go ?_ (by assumption)))))
          clear hb20
          go_wp2_with fail
          refine (awake2 w.heap.size w20 H20.out.kc (Nat.le_trans H20.out.lo H20.out.sz)).mono ?_
          rintro e w21 ⟨rfl, hb21⟩
          have HF := Lib.hid (HDE.out.bel.trans ((H20.out.go hb21).bel.mono q1))
          clear hb21 H20
          go_wp2
          go_ret
          exact ⟨rfl, HF.out⟩
        · skip
          go_simp
          refine hK.out _ _ (by trivial) (fun hHeld => ?_)
          clear hK K
          try simp only [Act.put, List.setIfInBounds_toArray, List.set_cons_zero, List.set_cons_succ]
          refine two_to (i := 43) (j := 45) (l1 := #[true, true, true, true, true, true, true, true, true, true, true, true, true, true, true, true, true, true, true, true, true, true, true, true, true, true, true, true, true, true, true, true, true, true, true, true, true, true, true, true, true, true, true, true, true, false, false, false, false]) (l2 := #[true, true, true, true, true, true, true, true, true, true, true, true, true, true, true, true, true, true, true, true, true, true, true, true, true, true, true, true, true, true, true, true, true, true, true, true, true, true, true, true, true, true, true, false, true, true, false, false, false]) rfl rfl (by kernel_rfl) (by kernel_rfl) (by kernel_rfl) (fun K hK => ?_) (fun K hK => ?_)
          · skip
            go_simp
            refine (HTG2.out _ (by repeat (first | exact HV9.out | apply RV.drew | apply RV.alloc | (refine RV.go ?_ (by assumption))))).mono ?_
            rintro e w10 ⟨rfl, hb10⟩
            dsimp only
            refine hK.out _ _ (by trivial) (fun hHeld => ?_)
            clear hK K
            try simp only [Act.put, List.setIfInBounds_toArray, List.set_cons_zero, List.set_cons_succ]
            refine one_to (i := 45) (l' := #[true, true, true, true, true, true, true, true, true, true, true, true, true, true, true, true, true, true, true, true, true, true, true, true, true, true, true, true, true, true, true, true, true, true, true, true, true, true, true, true, true, true, true, true, true, true, false, false, false]) rfl (by kernel_rfl) (by kernel_rfl) (fun K hK => ?_)
            go_simp
            refine hK.out _ _ (by trivial) (fun hHeld => ?_)
            clear hK K
            try simp only [Act.put, List.setIfInBounds_toArray, List.set_cons_zero, List.set_cons_succ]
            refine one_to (i := 46) (l' := #[true, true, true, true, true, true, true, true, true, true, true, true, true, true, true, true, true, true, true, true, true, true, true, true, true, true, true, true, true, true, true, true, true, true, true, true, true, true, true, true, true, true, true, true, true, true, true, false, false]) rfl (by kernel_rfl) (by kernel_rfl) (fun K hK => ?_)
            go_simp
            refine (HOF.out _ _ _ (by (try simp only [heap_drew]); repeat (first | (apply laid_at; simp; done) | apply laid_old | (refine laid_go ?_ (by assumption); try simp only [heap_drew]))) (by (try simp only [heap_drew]); repeat (first | (apply laid_at; simp; done) | apply laid_old | (refine laid_go ?_ (by assumption); try simp only [heap_drew]))) (by repeat (first | exact HV9.out | apply RV.drew | apply RV.alloc | (refine RV.go ?_ (by assumption))))).mono ?_
            rintro e w11 ⟨rfl, hb11⟩
            dsimp only
            refine hK.out _ _ (by trivial) (fun hHeld => ?_)
            clear hK K
            try simp only [Act.put, List.setIfInBounds_toArray, List.set_cons_zero, List.set_cons_succ]
            refine take_to (i := 47) (d := some 95) (v := ?_) (l' := #[true, true, true, true, true, true, true, true, true, true, true, true, true, true, true, true, true, true, true, true, true, true, true, true, true, true, true, true, true, true, true, true, true, true, true, true, true, true, true, true, true, true, true, true, true, true, true, true, false]) rfl rfl (by kernel_rfl) (by kernel_rfl) (by kernel_rfl) (by kernel_rfl) (fun _ _ _ h => h) (Or.inl ⟨by rfl, ?_⟩) (by assumption) ?_; rotate_left; · (intro w' hSw; (try dsimp only at hSw); go_simp; (try with_reducible rfl))
            try simp only [Act.put, List.setIfInBounds_toArray, List.set_cons_zero, List.set_cons_succ]
            refine take_to (i := 48) (d := some 96) (v := ?_) (l' := #[true, true, true, true, true, true, true, true, true, true, true, true, true, true, true, true, true, true, true, true, true, true, true, true, true, true, true, true, true, true, true, true, true, true, true, true, true, true, true, true, true, true, true, true, true, true, true, true, true]) rfl rfl (by kernel_rfl) (by kernel_rfl) (by kernel_rfl) (by kernel_rfl) (fun _ _ _ h => h) (Or.inl ⟨by rfl, ?_⟩) (by assumption) ?_; rotate_left; · (intro w' hSw; (try dsimp only at hSw); go_simp; (try with_reducible rfl))
            try simp only [Act.put, List.setIfInBounds_toArray, List.set_cons_zero, List.set_cons_succ]
            refine wpAnyH_done (by kernel_rfl) ?_ _
            refine NoPanic.normal ?_
            clear hHeld hmk hm1 hn0 hg0 hn1 hg1 HW1 HW2 HW3 HW4 HTG HTG2 HRF HOF
            go_wp2_with fail
            refine (none02_any _).mono ?_
            rintro e w20 ⟨rfl, hb20⟩
            have H20 := Lib.hid (show RV w.heap.size wr hb (fun _ => 0#8) 1048576 w20 from (by refine RV.go ?_ hb20; repeat (first | exact HV9.out | apply RV.drew | apply RV.alloc | (refine RV.go ?_ (by assumption)))))
            clear hb20
            go_wp2_with fail
            refine (awake2 w.heap.size w20 H20.out.kc (Nat.le_trans H20.out.lo H20.out.sz)).mono ?_
            rintro e w21 ⟨rfl, hb21⟩
            have HF := Lib.hid (HDE.out.bel.trans ((H20.out.go hb21).bel.mono q1))
            clear hb21 H20
            go_wp2
            go_ret
            exact ⟨rfl, HF.out⟩
          · skip
            go_simp
            refine hK.out _ _ (by trivial) (fun hHeld => ?_)
            clear hK K
            try simp only [Act.put, List.setIfInBounds_toArray, List.set_cons_zero, List.set_cons_succ]
            refine one_to (i := 43) (l' := #[true, true, true, true, true, true, true, true, true, true, true, true, true, true, true, true, true, true, true, true, true, true, true, true, true, true, true, true, true, true, true, true, true, true, true, true, true, true, true, true, true, true, true, true, true, true, false, false, false]) rfl (by kernel_rfl) (by kernel_rfl) (fun K hK => ?_)
            go_simp
            refine (HTG2.out _ (by repeat (first | exact HV9.out | apply RV.drew | apply RV.alloc | (refine RV.go ?_ (by assumption))))).mono ?_
            rintro e w10 ⟨rfl, hb10⟩
            dsimp only
            refine hK.out _ _ (by trivial) (fun hHeld => ?_)
            clear hK K
            try simp only [Act.put, List.setIfInBounds_toArray, List.set_cons_zero, List.set_cons_succ]
            refine one_to (i := 46) (l' := #[true, true, true, true, true, true, true, true, true, true, true, true, true, true, true, true, true, true, true, true, true, true, true, true, true, true, true, true, true, true, true, true, true, true, true, true, true, true, true, true, true, true, true, true, true, true, true, false, false]) rfl (by kernel_rfl) (by kernel_rfl) (fun K hK => ?_)
            go_simp
            refine (HOF.out _ _ _ (by (try simp only [heap_drew]); repeat (first | (apply laid_at; simp; done) | apply laid_old | (refine laid_go ?_ (by assumption); try simp only [heap_drew]))) (by (try simp only [heap_drew]); repeat (first | (apply laid_at; simp; done) | apply laid_old | (refine laid_go ?_ (by assumption); try simp only [heap_drew]))) (by repeat (first | exact HV9.out | apply RV.drew | apply RV.alloc | (refine RV.go ?_ (by assumption))))).mono ?_
            rintro e w11 ⟨rfl, hb11⟩
            dsimp only
            refine hK.out _ _ (by trivial) (fun hHeld => ?_)
            clear hK K
            try simp only [Act.put, List.setIfInBounds_toArray, List.set_cons_zero, List.set_cons_succ]
            refine take_to (i := 47) (d := some 95) (v := ?_) (l' := #[true, true, true, true, true, true, true, true, true, true, true, true, true, true, true, true, true, true, true, true, true, true, true, true, true, true, true, true, true, true, true, true, true, true, true, true, true, true, true, true, true, true, true, true, true, true, true, true, false]) rfl rfl (by kernel_rfl) (by kernel_rfl) (by kernel_rfl) (by kernel_rfl) (fun _ _ _ h => h) (Or.inl ⟨by rfl, ?_⟩) (by assumption) ?_; rotate_left; · (intro w' hSw; (try dsimp only at hSw); go_simp; (try with_reducible rfl))
            try simp only [Act.put, List.setIfInBounds_toArray, List.set_cons_zero, List.set_cons_succ]
            refine take_to (i := 48) (d := some 96) (v := ?_) (l' := #[true, true, true, true, true, true, true, true, true, true, true, true, true, true, true, true, true, true, true, true, true, true, true, true, true, true, true, true, true, true, true, true, true, true, true, true, true, true, true, true, true, true, true, true, true, true, true, true, true]) rfl rfl (by kernel_rfl) (by kernel_rfl) (by kernel_rfl) (by kernel_rfl) (fun _ _ _ h => h) (Or.inl ⟨by rfl, ?_⟩) (by assumption) ?_; rotate_left; · (intro w' hSw; (try dsimp only at hSw); go_simp; (try with_reducible rfl))
            try simp only [Act.put, List.setIfInBounds_toArray, List.set_cons_zero, List.set_cons_succ]
            refine wpAnyH_done (by kernel_rfl) ?_ _
            refine NoPanic.normal ?_
            clear hHeld hmk hm1 hn0 hg0 hn1 hg1 HW1 HW2 HW3 HW4 HTG HTG2 HRF HOF
            go_wp2_with fail
            refine (none02_any _).mono ?_
            rintro e w20 ⟨rfl, hb20⟩
            have H20 := Lib.hid (show RV w.heap.size wr hb (fun _ => 0#8) 1048576 w20 from (by refine RV.go ?_ hb20; repeat (first | exact HV9.out | apply RV.drew | apply RV.alloc | (refine RV.go ?_ (by assumption)))))
            clear hb20
            go_wp2_with fail
            refine (awake2 w.heap.size w20 H20.out.kc (Nat.le_trans H20.out.lo H20.out.sz)).mono ?_
            rintro e w21 ⟨rfl, hb21⟩
            have HF := Lib.hid (HDE.out.bel.trans ((H20.out.go hb21).bel.mono q1))
            clear hb21 H20
            go_wp2
            go_ret
            exact ⟨rfl, HF.out⟩
      · skip
        go_simp
        refine hK.out _ _ (by trivial) (fun hHeld => ?_)
        clear hK K
        try simp only [Act.put, List.setIfInBounds_toArray, List.set_cons_zero, List.set_cons_succ]
        refine one_to (i := 1) (l' := #[true, true, true, false, false, false, false, false, false, false, false, false, false, false, false, false, false, false, false, false, false, false, false, false, false, false, false, false, false, false, false, false, false, false, false, false, false, false, false, false, false, false, false, false, false, false, false, false, false]) rfl (by kernel_rfl) (by kernel_rfl) (fun K hK => ?_)
        go_simp
        refine hK.out _ _ (by trivial) (fun hHeld => ?_)
        clear hK K
        try simp only [Act.put, List.setIfInBounds_toArray, List.set_cons_zero, List.set_cons_succ]
        refine one_to (i := 3) (l' := #[true, true, true, true, false, false, false, false, false, false, false, false, false, false, false, false, false, false, false, false, false, false, false, false, false, false, false, false, false, false, false, false, false, false, false, false, false, false, false, false, false, false, false, false, false, false, false, false, false]) rfl (by kernel_rfl) (by kernel_rfl) (fun K hK => ?_)
        go_simp
        refine hK.out _ _ (by trivial) (fun hHeld => ?_)
        clear hK K
        try simp only [Act.put, List.setIfInBounds_toArray, List.set_cons_zero, List.set_cons_succ]
        refine one_to (i := 4) (l' := #[true, true, true, true, true, false, false, false, false, false, false, false, false, false, false, false, false, false, false, false, false, false, false, false, false, false, false, false, false, false, false, false, false, false, false, false, false, false, false, false, false, false, false, false, false, false, false, false, false]) rfl (by kernel_rfl) (by kernel_rfl) (fun K hK => ?_)
        go_simp
        refine (HW1.out _ _ _ _ (by (try simp only [heap_drew]); repeat (first | (apply laid_at; simp; done) | apply laid_old | (refine laid_go ?_ (by assumption); try simp only [heap_drew]))) (by (try simp only [heap_drew]); repeat (first | (apply laid_at; simp; done) | apply laid_old | (refine laid_go ?_ (by assumption); try simp only [heap_drew]))) (by (try simp only [heap_drew]); repeat (first | (apply laid_at; simp; done) | apply laid_old | (refine laid_go ?_ (by assumption); try simp only [heap_drew]))) (by (try simp only [heap_drew]); (try simp); omega) (by (try simp only [heap_drew]); (try simp); omega) (by (try simp only [heap_drew]); (try simp); omega) (by repeat (first | exact HV.out | apply RV.drew | apply RV.alloc | (refine RV.go ?_ (by assumption))))).mono ?_
        rintro e w' ⟨rfl, rfl⟩
        dsimp only
        refine hK.out _ _ (by trivial) (fun hHeld => ?_)
        clear hK K
        try simp only [Act.put, List.setIfInBounds_toArray, List.set_cons_zero, List.set_cons_succ]
        refine take_to (i := 5) (d := some 53) (v := ?_) (l' := #[true, true, true, true, true, true, false, false, false, false, false, false, false, false, false, false, false, false, false, false, false, false, false, false, false, false, false, false, false, false, false, false, false, false, false, false, false, false, false, false, false, false, false, false, false, false, false, false, false]) rfl rfl (by kernel_rfl) (by kernel_rfl) (by kernel_rfl) (by kernel_rfl) (fun _ _ _ h => h) (Or.inl ⟨by rfl, ?_⟩) (by assumption) ?_; rotate_left; · (intro w' hSw; (try dsimp only at hSw); go_simp; (try with_reducible rfl))
        try simp only [Act.put, List.setIfInBounds_toArray, List.set_cons_zero, List.set_cons_succ]
        refine take_to (i := 6) (d := some 54) (v := ?_) (l' := #[true, true, true, true, true, true, true, false, false, false, false, false, false, false, false, false, false, false, false, false, false, false, false, false, false, false, false, false, false, false, false, false, false, false, false, false, false, false, false, false, false, false, false, false, false, false, false, false, false]) rfl rfl (by kernel_rfl) (by kernel_rfl) (by kernel_rfl) (by kernel_rfl) (fun _ _ _ h => h) (Or.inl ⟨by rfl, ?_⟩) (by assumption) ?_; rotate_left; · (intro w' hSw; (try dsimp only at hSw); go_simp; (try with_reducible rfl))
        try simp only [Act.put, List.setIfInBounds_toArray, List.set_cons_zero, List.set_cons_succ]
        refine take_to (i := 7) (d := some 55) (v := ?_) (l' := #[true, true, true, true, true, true, true, true, false, false, false, false, false, false, false, false, false, false, false, false, false, false, false, false, false, false, false, false, false, false, false, false, false, false, false, false, false, false, false, false, false, false, false, false, false, false, false, false, false]) rfl rfl (by kernel_rfl) (by kernel_rfl) (by kernel_rfl) (by kernel_rfl) (fun _ _ _ h => h) (Or.inl ⟨by rfl, ?_⟩) (by assumption) ?_; rotate_left; · (intro w' hSw; (try dsimp only at hSw); go_simp; (try with_reducible rfl))
        try simp only [Act.put, List.setIfInBounds_toArray, List.set_cons_zero, List.set_cons_succ]
        refine one_to (i := 8) (l' := #[true, true, true, true, true, true, true, true, true, false, false, false, false, false, false, false, false, false, false, false, false, false, false, false, false, false, false, false, false, false, false, false, false, false, false, false, false, false, false, false, false, false, false, false, false, false, false, false, false]) rfl (by kernel_rfl) (by kernel_rfl) (fun K hK => ?_)
        go_simp
        refine (RV.len (by repeat (first | exact HV.out | apply RV.drew | apply RV.alloc | (refine RV.go ?_ (by assumption))))).mono ?_
        rintro e w' ⟨rfl, rfl⟩
        dsimp only
        refine hK.out _ _ (by trivial) (fun hHeld => ?_)
        clear hK K
        try simp only [Act.put, List.setIfInBounds_toArray, List.set_cons_zero, List.set_cons_succ]
        refine take_to (i := 9) (d := some 57) (v := ?_) (l' := #[true, true, true, true, true, true, true, true, true, true, false, false, false, false, false, false, false, false, false, false, false, false, false, false, false, false, false, false, false, false, false, false, false, false, false, false, false, false, false, false, false, false, false, false, false, false, false, false, false]) rfl rfl (by kernel_rfl) (by kernel_rfl) (by kernel_rfl) (by kernel_rfl) (fun _ _ _ h => h) (Or.inl ⟨by rfl, ?_⟩) (by assumption) ?_; rotate_left; · (intro w' hSw; (try dsimp only at hSw); go_simp; (try with_reducible rfl))
        try simp only [Act.put, List.setIfInBounds_toArray, List.set_cons_zero, List.set_cons_succ]
        refine take_to (i := 10) (d := some 58) (v := ?_) (l' := #[true, true, true, true, true, true, true, true, true, true, true, false, false, false, false, false, false, false, false, false, false, false, false, false, false, false, false, false, false, false, false, false, false, false, false, false, false, false, false, false, false, false, false, false, false, false, false, false, false]) rfl rfl (by kernel_rfl) (by kernel_rfl) (by kernel_rfl) (by kernel_rfl) (fun _ _ _ h => h) (Or.inl ⟨by rfl, ?_⟩) (by assumption) ?_; rotate_left; · (intro w' hSw; (try dsimp only at hSw); go_simp; (try with_reducible rfl))
        try simp only [Act.put, List.setIfInBounds_toArray, List.set_cons_zero, List.set_cons_succ]
        refine take_to (i := 11) (d := some 59) (v := ?_) (l' := #[true, true, true, true, true, true, true, true, true, true, true, true, false, false, false, false, false, false, false, false, false, false, false, false, false, false, false, false, false, false, false, false, false, false, false, false, false, false, false, false, false, false, false, false, false, false, false, false, false]) rfl rfl (by kernel_rfl) (by kernel_rfl) (by kernel_rfl) (by kernel_rfl) (fun _ _ _ h => h) (Or.inl ⟨by rfl, ?_⟩) (by assumption) ?_; rotate_left; · (intro w' hSw; (try dsimp only at hSw); go_simp; (try with_reducible rfl))
        try simp only [Act.put, List.setIfInBounds_toArray, List.set_cons_zero, List.set_cons_succ]
        refine take_to (i := 12) (d := some 60) (v := ?_) (l' := #[true, true, true, true, true, true, true, true, true, true, true, true, true, false, false, false, false, false, false, false, false, false, false, false, false, false, false, false, false, false, false, false, false, false, false, false, false, false, false, false, false, false, false, false, false, false, false, false, false]) rfl rfl (by kernel_rfl) (by kernel_rfl) (by kernel_rfl) (by kernel_rfl) (fun _ _ _ h => h) (Or.inl ⟨by rfl, ?_⟩) (by assumption) ?_; rotate_left; · (intro w' hSw; (try dsimp only at hSw); go_simp; (try with_reducible rfl))
        try simp only [Act.put, List.setIfInBounds_toArray, List.set_cons_zero, List.set_cons_succ]
        refine one_to (i := 13) (l' := #[true, true, true, true, true, true, true, true, true, true, true, true, true, true, false, false, false, false, false, false, false, false, false, false, false, false, false, false, false, false, false, false, false, false, false, false, false, false, false, false, false, false, false, false, false, false, false, false, false]) rfl (by kernel_rfl) (by kernel_rfl) (fun K hK => ?_)
        go_simp
        refine (HTG.out _ (by repeat (first | exact HV.out | apply RV.drew | apply RV.alloc | (refine RV.go ?_ (by assumption))))).mono ?_
        rintro e w6 ⟨rfl, hb6⟩
        dsimp only
        refine hK.out _ _ (by trivial) (fun hHeld => ?_)
        clear hK K
        try simp only [Act.put, List.setIfInBounds_toArray, List.set_cons_zero, List.set_cons_succ]
        refine one_to (i := 14) (l' := #[true, true, true, true, true, true, true, true, true, true, true, true, true, true, true, false, false, false, false, false, false, false, false, false, false, false, false, false, false, false, false, false, false, false, false, false, false, false, false, false, false, false, false, false, false, false, false, false, false]) rfl (by kernel_rfl) (by kernel_rfl) (fun K hK => ?_)
        go_simp
        refine (HRF.out _).mono ?_
        rintro e w7 ⟨rfl, hb7⟩
        dsimp only
        refine hK.out _ _ (by trivial) (fun hHeld => ?_)
        clear hK K
        try simp only [Act.put, List.setIfInBounds_toArray, List.set_cons_zero, List.set_cons_succ]
        refine take_to (i := 15) (d := some 63) (v := ?_) (l' := #[true, true, true, true, true, true, true, true, true, true, true, true, true, true, true, true, false, false, false, false, false, false, false, false, false, false, false, false, false, false, false, false, false, false, false, false, false, false, false, false, false, false, false, false, false, false, false, false, false]) rfl rfl (by kernel_rfl) (by kernel_rfl) (by kernel_rfl) (by kernel_rfl) (fun _ _ _ h => h) (Or.inl ⟨by rfl, ?_⟩) (by assumption) ?_; rotate_left; · (intro w' hSw; (try dsimp only at hSw); go_simp; (try with_reducible rfl))
        try simp only [Act.put, List.setIfInBounds_toArray, List.set_cons_zero, List.set_cons_succ]
        refine take_to (i := 16) (d := some 64) (v := ?_) (l' := #[true, true, true, true, true, true, true, true, true, true, true, true, true, true, true, true, true, false, false, false, false, false, false, false, false, false, false, false, false, false, false, false, false, false, false, false, false, false, false, false, false, false, false, false, false, false, false, false, false]) rfl rfl (by kernel_rfl) (by kernel_rfl) (by kernel_rfl) (by kernel_rfl) (fun _ _ _ h => h) (Or.inl ⟨by rfl, ?_⟩) (by assumption) ?_; rotate_left; · (intro w' hSw; (try dsimp only at hSw); go_simp; (try with_reducible rfl))
        try simp only [Act.put, List.setIfInBounds_toArray, List.set_cons_zero, List.set_cons_succ]
        refine take_to (i := 17) (d := some 65) (v := ?_) (l' := #[true, true, true, true, true, true, true, true, true, true, true, true, true, true, true, true, true, true, false, false, false, false, false, false, false, false, false, false, false, false, false, false, false, false, false, false, false, false, false, false, false, false, false, false, false, false, false, false, false]) rfl rfl (by kernel_rfl) (by kernel_rfl) (by kernel_rfl) (by kernel_rfl) (fun _ _ _ h => h) (Or.inl ⟨by rfl, ?_⟩) (by assumption) ?_; rotate_left; · (intro w' hSw; (try dsimp only at hSw); go_simp; (try with_reducible rfl))
        try simp only [Act.put, List.setIfInBounds_toArray, List.set_cons_zero, List.set_cons_succ]
        refine take_to (i := 18) (d := some 66) (v := ?_) (l' := #[true, true, true, true, true, true, true, true, true, true, true, true, true, true, true, true, true, true, true, false, false, false, false, false, false, false, false, false, false, false, false, false, false, false, false, false, false, false, false, false, false, false, false, false, false, false, false, false, false]) rfl rfl (by kernel_rfl) (by kernel_rfl) (by kernel_rfl) (by kernel_rfl) (fun _ _ _ h => h) (Or.inl ⟨by rfl, ?_⟩) (by assumption) ?_; rotate_left; · (intro w' hSw; (try dsimp only at hSw); go_simp; (try with_reducible rfl))
        try simp only [Act.put, List.setIfInBounds_toArray, List.set_cons_zero, List.set_cons_succ]
        refine one_to (i := 19) (l' := #[true, true, true, true, true, true, true, true, true, true, true, true, true, true, true, true, true, true, true, true, false, false, false, false, false, false, false, false, false, false, false, false, false, false, false, false, false, false, false, false, false, false, false, false, false, false, false, false, false]) rfl (by kernel_rfl) (by kernel_rfl) (fun K hK => ?_)
        go_simp
        refine hK.out _ _ (by trivial) (fun hHeld => ?_)
        clear hK K
        try simp only [Act.put, List.setIfInBounds_toArray, List.set_cons_zero, List.set_cons_succ]
        refine one_to (i := 20) (l' := #[true, true, true, true, true, true, true, true, true, true, true, true, true, true, true, true, true, true, true, true, true, false, false, false, false, false, false, false, false, false, false, false, false, false, false, false, false, false, false, false, false, false, false, false, false, false, false, false, false]) rfl (by kernel_rfl) (by kernel_rfl) (fun K hK => ?_)
        go_simp
        refine hK.out _ _ (by trivial) (fun hHeld => ?_)
        clear hK K
        try simp only [Act.put, List.setIfInBounds_toArray, List.set_cons_zero, List.set_cons_succ]
        refine one_to (i := 21) (l' := #[true, true, true, true, true, true, true, true, true, true, true, true, true, true, true, true, true, true, true, true, true, true, false, false, false, false, false, false, false, false, false, false, false, false, false, false, false, false, false, false, false, false, false, false, false, false, false, false, false]) rfl (by kernel_rfl) (by kernel_rfl) (fun K hK => ?_)
        go_simp
        refine (HW2.out _ _ _ (by (try simp only [heap_drew]); repeat (first | (apply laid_at; simp; done) | apply laid_old | (refine laid_go ?_ (by assumption); try simp only [heap_drew]))) (by (try simp only [heap_drew]); repeat (first | (apply laid_at; simp; done) | apply laid_old | (refine laid_go ?_ (by assumption); try simp only [heap_drew]))) (by first | ((try simp only [heap_drew]); (try simp); omega) | (have hz := (show RV w.heap.size wr hb (fun _ => 0#8) 0 w7 from (by repeat (first | exact HV.out | apply RV.drew | apply RV.alloc | (refine RV.go ?_ (by assumption))))).hh.lt; (try simp only [heap_drew]); (try simp); omega) | (have hz := (show RV w.heap.size wr hb (fun _ => 0#8) 0 w6 from (by repeat (first | exact HV.out | apply RV.drew | apply RV.alloc | (refine RV.go ?_ (by assumption))))).hh.lt; (try simp only [heap_drew]); (try simp); omega)) (by first | ((try simp only [heap_drew]); (try simp); omega) | (have hz := (show RV w.heap.size wr hb (fun _ => 0#8) 0 w7 from (by repeat (first | exact HV.out | apply RV.drew | apply RV.alloc | (refine RV.go ?_ (by assumption))))).hh.lt; (try simp only [heap_drew]); (try simp); omega) | (have hz := (show RV w.heap.size wr hb (fun _ => 0#8) 0 w6 from (by repeat (first | exact HV.out | apply RV.drew | apply RV.alloc | (refine RV.go ?_ (by assumption))))).hh.lt; (try simp only [heap_drew]); (try simp); omega)) (by repeat (first | exact HV.out | apply RV.drew | apply RV.alloc | (refine RV.go ?_ (by assumption))))).mono ?_
        rintro e w8 ⟨rfl, hv8⟩; have HV8 := Lib.hid hv8; have hlt8 := hv8.hh.lt; clear hv8
        dsimp only
        refine hK.out _ _ (by trivial) (fun hHeld => ?_)
        clear hK K
        try simp only [Act.put, List.setIfInBounds_toArray, List.set_cons_zero, List.set_cons_succ]
        refine take_to (i := 22) (d := some 70) (v := ?_) (l' := #[true, true, true, true, true, true, true, true, true, true, true, true, true, true, true, true, true, true, true, true, true, true, true, false, false, false, false, false, false, false, false, false, false, false, false, false, false, false, false, false, false, false, false, false, false, false, false, false, false]) rfl rfl (by kernel_rfl) (by kernel_rfl) (by kernel_rfl) (by kernel_rfl) (fun _ _ _ h => h) (Or.inl ⟨by rfl, ?_⟩) (by assumption) ?_; rotate_left; · (intro w' hSw; (try dsimp only at hSw); go_simp; (try with_reducible rfl))
        try simp only [Act.put, List.setIfInBounds_toArray, List.set_cons_zero, List.set_cons_succ]
        refine take_to (i := 23) (d := some 71) (v := ?_) (l' := #[true, true, true, true, true, true, true, true, true, true, true, true, true, true, true, true, true, true, true, true, true, true, true, true, false, false, false, false, false, false, false, false, false, false, false, false, false, false, false, false, false, false, false, false, false, false, false, false, false]) rfl rfl (by kernel_rfl) (by kernel_rfl) (by kernel_rfl) (by kernel_rfl) (fun _ _ _ h => h) (Or.inl ⟨by rfl, ?_⟩) (by assumption) ?_; rotate_left; · (intro w' hSw; (try dsimp only at hSw); go_simp; (try with_reducible rfl))
        try simp only [Act.put, List.setIfInBounds_toArray, List.set_cons_zero, List.set_cons_succ]
        refine take_to (i := 24) (d := some 72) (v := ?_) (l' := #[true, true, true, true, true, true, true, true, true, true, true, true, true, true, true, true, true, true, true, true, true, true, true, true, true, false, false, false, false, false, false, false, false, false, false, false, false, false, false, false, false, false, false, false, false, false, false, false, false]) rfl rfl (by kernel_rfl) (by kernel_rfl) (by kernel_rfl) (by kernel_rfl) (fun _ _ _ h => h) (Or.inl ⟨by rfl, ?_⟩) (by assumption) ?_; rotate_left; · (intro w' hSw; (try dsimp only at hSw); go_simp; (try with_reducible rfl))
        try simp only [Act.put, List.setIfInBounds_toArray, List.set_cons_zero, List.set_cons_succ]
        refine take_to (i := 25) (d := some 73) (v := ?_) (l' := #[true, true, true, true, true, true, true, true, true, true, true, true, true, true, true, true, true, true, true, true, true, true, true, true, true, true, false, false, false, false, false, false, false, false, false, false, false, false, false, false, false, false, false, false, false, false, false, false, false]) rfl rfl (by kernel_rfl) (by kernel_rfl) (by kernel_rfl) (by kernel_rfl) (fun _ _ _ h => h) (Or.inl ⟨by rfl, ?_⟩) (by assumption) ?_; rotate_left; · (intro w' hSw; (try dsimp only at hSw); go_simp; (try with_reducible rfl))
        try simp only [Act.put, List.setIfInBounds_toArray, List.set_cons_zero, List.set_cons_succ]
        refine one_to (i := 26) (l' := #[true, true, true, true, true, true, true, true, true, true, true, true, true, true, true, true, true, true, true, true, true, true, true, true, true, true, true, false, false, false, false, false, false, false, false, false, false, false, false, false, false, false, false, false, false, false, false, false, false]) rfl (by kernel_rfl) (by kernel_rfl) (fun K hK => ?_)
        go_simp
        refine hK.out _ _ (by trivial) (fun hHeld => ?_)
        clear hK K
        try simp only [Act.put, List.setIfInBounds_toArray, List.set_cons_zero, List.set_cons_succ]
        refine one_to (i := 27) (l' := #[true, true, true, true, true, true, true, true, true, true, true, true, true, true, true, true, true, true, true, true, true, true, true, true, true, true, true, true, false, false, false, false, false, false, false, false, false, false, false, false, false, false, false, false, false, false, false, false, false]) rfl (by kernel_rfl) (by kernel_rfl) (fun K hK => ?_)
        go_simp
        refine hK.out _ _ (by trivial) (fun hHeld => ?_)
        clear hK K
        try simp only [Act.put, List.setIfInBounds_toArray, List.set_cons_zero, List.set_cons_succ]
        refine one_to (i := 28) (l' := #[true, true, true, true, true, true, true, true, true, true, true, true, true, true, true, true, true, true, true, true, true, true, true, true, true, true, true, true, true, false, false, false, false, false, false, false, false, false, false, false, false, false, false, false, false, false, false, false, false]) rfl (by kernel_rfl) (by kernel_rfl) (fun K hK => ?_)
        go_simp
        refine (HW3.out _ _ _ (by (try simp only [heap_drew]); repeat (first | (apply laid_at; simp; done) | apply laid_old | (refine laid_go ?_ (by assumption); try simp only [heap_drew]))) (by (try simp only [heap_drew]); repeat (first | (apply laid_at; simp; done) | apply laid_old | (refine laid_go ?_ (by assumption); try simp only [heap_drew]))) (by (try simp only [heap_drew]); (try simp); omega) (by (try simp only [heap_drew]); (try simp); omega) (by repeat (first | exact HV8.out | apply RV.drew | apply RV.alloc | (refine RV.go ?_ (by assumption))))).mono ?_
        rintro e w' ⟨rfl, rfl⟩
        dsimp only
        refine hK.out _ _ (by trivial) (fun hHeld => ?_)
        clear hK K
        try simp only [Act.put, List.setIfInBounds_toArray, List.set_cons_zero, List.set_cons_succ]
        refine take_to (i := 29) (d := some 77) (v := ?_) (l' := #[true, true, true, true, true, true, true, true, true, true, true, true, true, true, true, true, true, true, true, true, true, true, true, true, true, true, true, true, true, true, false, false, false, false, false, false, false, false, false, false, false, false, false, false, false, false, false, false, false]) rfl rfl (by kernel_rfl) (by kernel_rfl) (by kernel_rfl) (by kernel_rfl) (fun _ _ _ h => h) (Or.inl ⟨by rfl, ?_⟩) (by assumption) ?_; rotate_left; · (intro w' hSw; (try dsimp only at hSw); go_simp; (try with_reducible rfl))
        try simp only [Act.put, List.setIfInBounds_toArray, List.set_cons_zero, List.set_cons_succ]
        refine take_to (i := 30) (d := some 78) (v := ?_) (l' := #[true, true, true, true, true, true, true, true, true, true, true, true, true, true, true, true, true, true, true, true, true, true, true, true, true, true, true, true, true, true, true, false, false, false, false, false, false, false, false, false, false, false, false, false, false, false, false, false, false]) rfl rfl (by kernel_rfl) (by kernel_rfl) (by kernel_rfl) (by kernel_rfl) (fun _ _ _ h => h) (Or.inl ⟨by rfl, ?_⟩) (by assumption) ?_; rotate_left; · (intro w' hSw; (try dsimp only at hSw); go_simp; (try with_reducible rfl))
        try simp only [Act.put, List.setIfInBounds_toArray, List.set_cons_zero, List.set_cons_succ]
        refine take_to (i := 31) (d := some 79) (v := ?_) (l' := #[true, true, true, true, true, true, true, true, true, true, true, true, true, true, true, true, true, true, true, true, true, true, true, true, true, true, true, true, true, true, true, true, false, false, false, false, false, false, false, false, false, false, false, false, false, false, false, false, false]) rfl rfl (by kernel_rfl) (by kernel_rfl) (by kernel_rfl) (by kernel_rfl) (fun _ _ _ h => h) (Or.inl ⟨by rfl, ?_⟩) (by assumption) ?_; rotate_left; · (intro w' hSw; (try dsimp only at hSw); go_simp; (try with_reducible rfl))
        try simp only [Act.put, List.setIfInBounds_toArray, List.set_cons_zero, List.set_cons_succ]
        refine take_to (i := 32) (d := some 80) (v := ?_) (l' := #[true, true, true, true, true, true, true, true, true, true, true, true, true, true, true, true, true, true, true, true, true, true, true, true, true, true, true, true, true, true, true, true, true, false, false, false, false, false, false, false, false, false, false, false, false, false, false, false, false]) rfl rfl (by kernel_rfl) (by kernel_rfl) (by kernel_rfl) (by kernel_rfl) (fun _ _ _ h => h) (Or.inl ⟨by rfl, ?_⟩) (by assumption) ?_; rotate_left; · (intro w' hSw; (try dsimp only at hSw); go_simp; (try with_reducible rfl))
        try simp only [Act.put, List.setIfInBounds_toArray, List.set_cons_zero, List.set_cons_succ]
        refine one_to (i := 33) (l' := #[true, true, true, true, true, true, true, true, true, true, true, true, true, true, true, true, true, true, true, true, true, true, true, true, true, true, true, true, true, true, true, true, true, true, false, false, false, false, false, false, false, false, false, false, false, false, false, false, false]) rfl (by kernel_rfl) (by kernel_rfl) (fun K hK => ?_)
        go_simp
        refine (HW4.out _ (by repeat (first | exact HV8.out | apply RV.drew | apply RV.alloc | (refine RV.go ?_ (by assumption))))).mono ?_
        rintro e w9 ⟨rfl, hv9⟩; have HV9 := Lib.hid hv9; clear hv9
        dsimp only
        refine hK.out _ _ (by trivial) (fun hHeld => ?_)
        clear hK K
        try simp only [Act.put, List.setIfInBounds_toArray, List.set_cons_zero, List.set_cons_succ]
        refine take_to (i := 34) (d := some 82) (v := ?_) (l' := #[true, true, true, true, true, true, true, true, true, true, true, true, true, true, true, true, true, true, true, true, true, true, true, true, true, true, true, true, true, true, true, true, true, true, true, false, false, false, false, false, false, false, false, false, false, false, false, false, false]) rfl rfl (by kernel_rfl) (by kernel_rfl) (by kernel_rfl) (by kernel_rfl) (fun _ _ _ h => h) (Or.inl ⟨by rfl, ?_⟩) (by assumption) ?_; rotate_left; · (intro w' hSw; (try dsimp only at hSw); go_simp; (try with_reducible rfl))
        try simp only [Act.put, List.setIfInBounds_toArray, List.set_cons_zero, List.set_cons_succ]
        refine take_to (i := 35) (d := some 83) (v := ?_) (l' := #[true, true, true, true, true, true, true, true, true, true, true, true, true, true, true, true, true, true, true, true, true, true, true, true, true, true, true, true, true, true, true, true, true, true, true, true, false, false, false, false, false, false, false, false, false, false, false, false, false]) rfl rfl (by kernel_rfl) (by kernel_rfl) (by kernel_rfl) (by kernel_rfl) (fun _ _ _ h => h) (Or.inl ⟨by rfl, ?_⟩) (by assumption) ?_; rotate_left; · (intro w' hSw; (try dsimp only at hSw); go_simp; (try with_reducible rfl))
        try simp only [Act.put, List.setIfInBounds_toArray, List.set_cons_zero, List.set_cons_succ]
        refine take_to (i := 36) (d := some 84) (v := ?_) (l' := #[true, true, true, true, true, true, true, true, true, true, true, true, true, true, true, true, true, true, true, true, true, true, true, true, true, true, true, true, true, true, true, true, true, true, true, true, true, false, false, false, false, false, false, false, false, false, false, false, false]) rfl rfl (by kernel_rfl) (by kernel_rfl) (by kernel_rfl) (by kernel_rfl) (fun _ _ _ h => h) (Or.inl ⟨by rfl, ?_⟩) (by assumption) ?_; rotate_left; · (intro w' hSw; (try dsimp only at hSw); go_simp; (try with_reducible rfl))
        try simp only [Act.put, List.setIfInBounds_toArray, List.set_cons_zero, List.set_cons_succ]
        refine take_to (i := 37) (d := some 85) (v := ?_) (l' := #[true, true, true, true, true, true, true, true, true, true, true, true, true, true, true, true, true, true, true, true, true, true, true, true, true, true, true, true, true, true, true, true, true, true, true, true, true, true, false, false, false, false, false, false, false, false, false, false, false]) rfl rfl (by kernel_rfl) (by kernel_rfl) (by kernel_rfl) (by kernel_rfl) (fun _ _ _ h => h) (Or.inl ⟨by rfl, ?_⟩) (by assumption) ?_; rotate_left; · (intro w' hSw; (try dsimp only at hSw); go_simp; (try with_reducible rfl))
        try simp only [Act.put, List.setIfInBounds_toArray, List.set_cons_zero, List.set_cons_succ]
        refine one_to (i := 38) (l' := #[true, true, true, true, true, true, true, true, true, true, true, true, true, true, true, true, true, true, true, true, true, true, true, true, true, true, true, true, true, true, true, true, true, true, true, true, true, true, true, false, false, false, false, false, false, false, false, false, false]) rfl (by kernel_rfl) (by kernel_rfl) (fun K hK => ?_)
        go_simp
        refine (RV.len (by repeat (first | exact HV9.out | apply RV.drew | apply RV.alloc | (refine RV.go ?_ (by assumption))))).mono ?_
        rintro e w' ⟨rfl, rfl⟩
        dsimp only
        refine hK.out _ _ (by trivial) (fun hHeld => ?_)
        clear hK K
        try simp only [Act.put, List.setIfInBounds_toArray, List.set_cons_zero, List.set_cons_succ]
        refine take_to (i := 39) (d := some 87) (v := ?_) (l' := #[true, true, true, true, true, true, true, true, true, true, true, true, true, true, true, true, true, true, true, true, true, true, true, true, true, true, true, true, true, true, true, true, true, true, true, true, true, true, true, true, false, false, false, false, false, false, false, false, false]) rfl rfl (by kernel_rfl) (by kernel_rfl) (by kernel_rfl) (by kernel_rfl) (fun _ _ _ h => h) (Or.inl ⟨by rfl, ?_⟩) (by assumption) ?_; rotate_left; · (intro w' hSw; (try dsimp only at hSw); go_simp; (try with_reducible rfl))
        try simp only [Act.put, List.setIfInBounds_toArray, List.set_cons_zero, List.set_cons_succ]
        refine take_to (i := 40) (d := some 88) (v := ?_) (l' := #[true, true, true, true, true, true, true, true, true, true, true, true, true, true, true, true, true, true, true, true, true, true, true, true, true, true, true, true, true, true, true, true, true, true, true, true, true, true, true, true, true, false, false, false, false, false, false, false, false]) rfl rfl (by kernel_rfl) (by kernel_rfl) (by kernel_rfl) (by kernel_rfl) (fun _ _ _ h => h) (Or.inl ⟨by rfl, ?_⟩) (by assumption) ?_; rotate_left; · (intro w' hSw; (try dsimp only at hSw); go_simp; (try with_reducible rfl))
        try simp only [Act.put, List.setIfInBounds_toArray, List.set_cons_zero, List.set_cons_succ]
        refine take_to (i := 41) (d := some 89) (v := ?_) (l' := #[true, true, true, true, true, true, true, true, true, true, true, true, true, true, true, true, true, true, true, true, true, true, true, true, true, true, true, true, true, true, true, true, true, true, true, true, true, true, true, true, true, true, false, false, false, false, false, false, false]) rfl rfl (by kernel_rfl) (by kernel_rfl) (by kernel_rfl) (by kernel_rfl) (fun _ _ _ h => h) (Or.inl ⟨by rfl, ?_⟩) (by assumption) ?_; rotate_left; · (intro w' hSw; (try dsimp only at hSw); go_simp; (try with_reducible rfl))
        try simp only [Act.put, List.setIfInBounds_toArray, List.set_cons_zero, List.set_cons_succ]
        refine take_to (i := 42) (d := some 90) (v := ?_) (l' := #[true, true, true, true, true, true, true, true, true, true, true, true, true, true, true, true, true, true, true, true, true, true, true, true, true, true, true, true, true, true, true, true, true, true, true, true, true, true, true, true, true, true, true, false, false, false, false, false, false]) rfl rfl (by kernel_rfl) (by kernel_rfl) (by kernel_rfl) (by kernel_rfl) (fun _ _ _ h => h) (Or.inl ⟨by rfl, ?_⟩) (by assumption) ?_; rotate_left; · (intro w' hSw; (try dsimp only at hSw); go_simp; (try with_reducible rfl))
        try simp only [Act.put, List.setIfInBounds_toArray, List.set_cons_zero, List.set_cons_succ]
        refine two_to (i := 43) (j := 44) (l1 := #[true, true, true, true, true, true, true, true, true, true, true, true, true, true, true, true, true, true, true, true, true, true, true, true, true, true, true, true, true, true, true, true, true, true, true, true, true, true, true, true, true, true, true, true, false, false, false, false, false]) (l2 := #[true, true, true, true, true, true, true, true, true, true, true, true, true, true, true, true, true, true, true, true, true, true, true, true, true, true, true, true, true, true, true, true, true, true, true, true, true, true, true, true, true, true, true, false, true, false, false, false, false]) rfl rfl (by kernel_rfl) (by kernel_rfl) (by kernel_rfl) (fun K hK => ?_) (fun K hK => ?_)
        · skip
          go_simp
          refine (HTG2.out _ (by repeat (first | exact HV9.out | apply RV.drew | apply RV.alloc | (refine RV.go ?_ (by assumption))))).mono ?_
          rintro e w10 ⟨rfl, hb10⟩
          dsimp only
          refine hK.out _ _ (by trivial) (fun hHeld => ?_)
          clear hK K
          try simp only [Act.put, List.setIfInBounds_toArray, List.set_cons_zero, List.set_cons_succ]
          refine one_to (i := 44) (l' := #[true, true, true, true, true, true, true, true, true, true, true, true, true, true, true, true, true, true, true, true, true, true, true, true, true, true, true, true, true, true, true, true, true, true, true, true, true, true, true, true, true, true, true, true, true, false, false, false, false]) rfl (by kernel_rfl) (by kernel_rfl) (fun K hK => ?_)
          go_simp
          refine hK.out _ _ (by trivial) (fun hHeld => ?_)
          clear hK K
          try simp only [Act.put, List.setIfInBounds_toArray, List.set_cons_zero, List.set_cons_succ]
          refine one_to (i := 45) (l' := #[true, true, true, true, true, true, true, true, true, true, true, true, true, true, true, true, true, true, true, true, true, true, true, true, true, true, true, true, true, true, true, true, true, true, true, true, true, true, true, true, true, true, true, true, true, true, false, false, false]) rfl (by kernel_rfl) (by kernel_rfl) (fun K hK => ?_)
          go_simp
          refine hK.out _ _ (by trivial) (fun hHeld => ?_)
          clear hK K
          try simp only [Act.put, List.setIfInBounds_toArray, List.set_cons_zero, List.set_cons_succ]
          refine one_to (i := 46) (l' := #[true, true, true, true, true, true, true, true, true, true, true, true, true, true, true, true, true, true, true, true, true, true, true, true, true, true, true, true, true, true, true, true, true, true, true, true, true, true, true, true, true, true, true, true, true, true, true, false, false]) rfl (by kernel_rfl) (by kernel_rfl) (fun K hK => ?_)
          go_simp
          refine (HOF.out _ _ _ (by (try simp only [heap_drew]); repeat (first | (apply laid_at; simp; done) | apply laid_old | (refine laid_go ?_ (by assumption); try simp only [heap_drew]))) (by (try simp only [heap_drew]); repeat (first | (apply laid_at; simp; done) | apply laid_old | (refine laid_go ?_ (by assumption); try simp only [heap_drew]))) (by repeat (first | exact HV9.out | apply RV.drew | apply RV.alloc | (refine RV.go ?_ (by assumption))))).mono ?_
          rintro e w11 ⟨rfl, hb11⟩
          dsimp only
          refine hK.out _ _ (by trivial) (fun hHeld => ?_)
          clear hK K
          try simp only [Act.put, List.setIfInBounds_toArray, List.set_cons_zero, List.set_cons_succ]
          refine take_to (i := 47) (d := some 95) (v := ?_) (l' := #[true, true, true, true, true, true, true, true, true, true, true, true, true, true, true, true, true, true, true, true, true, true, true, true, true, true, true, true, true, true, true, true, true, true, true, true, true, true, true, true, true, true, true, true, true, true, true, true, false]) rfl rfl (by kernel_rfl) (by kernel_rfl) (by kernel_rfl) (by kernel_rfl) (fun _ _ _ h => h) (Or.inl ⟨by rfl, ?_⟩) (by assumption) ?_; rotate_left; · (intro w' hSw; (try dsimp only at hSw); go_simp; (try with_reducible rfl))
          try simp only [Act.put, List.setIfInBounds_toArray, List.set_cons_zero, List.set_cons_succ]
          refine take_to (i := 48) (d := some 96) (v := ?_) (l' := #[true, true, true, true, true, true, true, true, true, true, true, true, true, true, true, true, true, true, true, true, true, true, true, true, true, true, true, true, true, true, true, true, true, true, true, true, true, true, true, true, true, true, true, true, true, true, true, true, true]) rfl rfl (by kernel_rfl) (by kernel_rfl) (by kernel_rfl) (by kernel_rfl) (fun _ _ _ h => h) (Or.inl ⟨by rfl, ?_⟩) (by assumption) ?_; rotate_left; · (intro w' hSw; (try dsimp only at hSw); go_simp; (try with_reducible rfl))
          try simp only [Act.put, List.setIfInBounds_toArray, List.set_cons_zero, List.set_cons_succ]
          refine wpAnyH_done (by kernel_rfl) ?_ _
          refine NoPanic.normal ?_
          clear hHeld hmk hm1 hn0 hg0 hn1 hg1 HW1 HW2 HW3 HW4 HTG HTG2 HRF HOF
          go_wp2_with fail
          refine (none02_any _).mono ?_
          rintro e w20 ⟨rfl, hb20⟩
          have H20 := Lib.hid (show RV w.heap.size wr hb (fun _ => 0#8) 1048576 w20 from (by refine RV.go ?_ hb20; repeat (first | exact HV9.out | apply RV.drew | apply RV.alloc | (refine RV.go ?_ (by assumption)))))
          clear hb20
          go_wp2_with fail
          refine (awake2 w.heap.size w20 H20.out.kc (Nat.le_trans H20.out.lo H20.out.sz)).mono ?_
          rintro e w21 ⟨rfl, hb21⟩
          have HF := Lib.hid (HDE.out.bel.trans ((H20.out.go hb21).bel.mono q1))
          clear hb21 H20
          go_wp2
          go_ret
          exact ⟨rfl, HF.out⟩
        · skip
          go_simp
          refine hK.out _ _ (by trivial) (fun hHeld => ?_)
          clear hK K
          try simp only [Act.put, List.setIfInBounds_toArray, List.set_cons_zero, List.set_cons_succ]
          refine two_to (i := 43) (j := 45) (l1 := #[true, true, true, true, true, true, true, true, true, true, true, true, true, true, true, true, true, true, true, true, true, true, true, true, true, true, true, true, true, true, true, true, true, true, true, true, true, true, true, true, true, true, true, true, true, false, false, false, false]) (l2 := #[true, true, true, true, true, true, true, true, true, true, true, true, true, true, true, true, true, true, true, true, true, true, true, true, true, true, true, true, true, true, true, true, true, true, true, true, true, true, true, true, true, true, true, false, true, true, false, false, false]) rfl rfl (by kernel_rfl) (by kernel_rfl) (by kernel_rfl) (fun K hK => ?_) (fun K hK => ?_)
          · skip
            go_simp
            refine (HTG2.out _ (by repeat (first | exact HV9.out | apply RV.drew | apply RV.alloc | (refine RV.go ?_ (by assumption))))).mono ?_
            rintro e w10 ⟨rfl, hb10⟩
            dsimp only
            refine hK.out _ _ (by trivial) (fun hHeld => ?_)
            clear hK K
            try simp only [Act.put, List.setIfInBounds_toArray, List.set_cons_zero, List.set_cons_succ]
            refine one_to (i := 45) (l' := #[true, true, true, true, true, true, true, true, true, true, true, true, true, true, true, true, true, true, true, true, true, true, true, true, true, true, true, true, true, true, true, true, true, true, true, true, true, true, true, true, true, true, true, true, true, true, false, false, false]) rfl (by kernel_rfl) (by kernel_rfl) (fun K hK => ?_)
            go_simp
            refine hK.out _ _ (by trivial) (fun hHeld => ?_)
            clear hK K
            try simp only [Act.put, List.setIfInBounds_toArray, List.set_cons_zero, List.set_cons_succ]
            refine one_to (i := 46) (l' := #[true, true, true, true, true, true, true, true, true, true, true, true, true, true, true, true, true, true, true, true, true, true, true, true, true, true, true, true, true, true, true, true, true, true, true, true, true, true, true, true, true, true, true, true, true, true, true, false, false]) rfl (by kernel_rfl) (by kernel_rfl) (fun K hK => ?_)
            go_simp
            refine (HOF.out _ _ _ (by (try simp only [heap_drew]); repeat (first | (apply laid_at; simp; done) | apply laid_old | (refine laid_go ?_ (by assumption); try simp only [heap_drew]))) (by (try simp only [heap_drew]); repeat (first | (apply laid_at; simp; done) | apply laid_old | (refine laid_go ?_ (by assumption); try simp only [heap_drew]))) (by repeat (first | exact HV9.out | apply RV.drew | apply RV.alloc | (refine RV.go ?_ (by assumption))))).mono ?_
            rintro e w11 ⟨rfl, hb11⟩
            dsimp only
            refine hK.out _ _ (by trivial) (fun hHeld => ?_)
            clear hK K
            try simp only [Act.put, List.setIfInBounds_toArray, List.set_cons_zero, List.set_cons_succ]
            refine take_to (i := 47) (d := some 95) (v := ?_) (l' := #[true, true, true, true, true, true, true, true, true, true, true, true, true, true, true, true, true, true, true, true, true, true, true, true, true, true, true, true, true, true, true, true, true, true, true, true, true, true, true, true, true, true, true, true, true, true, true, true, false]) rfl rfl (by kernel_rfl) (by kernel_rfl) (by kernel_rfl) (by kernel_rfl) (fun _ _ _ h => h) (Or.inl ⟨by rfl, ?_⟩) (by assumption) ?_; rotate_left; · (intro w' hSw; (try dsimp only at hSw); go_simp; (try with_reducible rfl))
            try simp only [Act.put, List.setIfInBounds_toArray, List.set_cons_zero, List.set_cons_succ]
            refine take_to (i := 48) (d := some 96) (v := ?_) (l' := #[true, true, true, true, true, true, true, true, true, true, true, true, true, true, true, true, true, true, true, true, true, true, true, true, true, true, true, true, true, true, true, true, true, true, true, true, true, true, true, true, true, true, true, true, true, true, true, true, true]) rfl rfl (by kernel_rfl) (by kernel_rfl) (by kernel_rfl) (by kernel_rfl) (fun _ _ _ h => h) (Or.inl ⟨by rfl, ?_⟩) (by assumption) ?_; rotate_left; · (intro w' hSw; (try dsimp only at hSw); go_simp; (try with_reducible rfl))
            try simp only [Act.put, List.setIfInBounds_toArray, List.set_cons_zero, List.set_cons_succ]
            refine wpAnyH_done (by kernel_rfl) ?_ _
            refine NoPanic.normal ?_
            clear hHeld hmk hm1 hn0 hg0 hn1 hg1 HW1 HW2 HW3 HW4 HTG HTG2 HRF HOF
            go_wp2_with fail
            refine (none02_any _).mono ?_
            rintro e w20 ⟨rfl, hb20⟩
            have H20 := Lib.hid (show RV w.heap.size wr hb (fun _ => 0#8) 1048576 w20 from (by refine RV.go ?_ hb20; repeat (first | exact HV9.out | apply RV.drew | apply RV.alloc | (refine RV.go ?_ (by assumption)))))
            clear hb20
            go_wp2_with fail
            refine (awake2 w.heap.size w20 H20.out.kc (Nat.le_trans H20.out.lo H20.out.sz)).mono ?_
            rintro e w21 ⟨rfl, hb21⟩
            have HF := Lib.hid (HDE.out.bel.trans ((H20.out.go hb21).bel.mono q1))
            clear hb21 H20
            go_wp2
            go_ret
            exact ⟨rfl, HF.out⟩
          · skip
            go_simp
            refine hK.out _ _ (by trivial) (fun hHeld => ?_)
            clear hK K
            try simp only [Act.put, List.setIfInBounds_toArray, List.set_cons_zero, List.set_cons_succ]
            refine one_to (i := 43) (l' := #[true, true, true, true, true, true, true, true, true, true, true, true, true, true, true, true, true, true, true, true, true, true, true, true, true, true, true, true, true, true, true, true, true, true, true, true, true, true, true, true, true, true, true, true, true, true, false, false, false]) rfl (by kernel_rfl) (by kernel_rfl) (fun K hK => ?_)
            go_simp
            refine (HTG2.out _ (by repeat (first | exact HV9.out | apply RV.drew | apply RV.alloc | (refine RV.go ?_ (by assumption))))).mono ?_
            rintro e w10 ⟨rfl, hb10⟩
            dsimp only
            refine hK.out _ _ (by trivial) (fun hHeld => ?_)
            clear hK K
            try simp only [Act.put, List.setIfInBounds_toArray, List.set_cons_zero, List.set_cons_succ]
            refine one_to (i := 46) (l' := #[true, true, true, true, true, true, true, true, true, true, true, true, true, true, true, true, true, true, true, true, true, true, true, true, true, true, true, true, true, true, true, true, true, true, true, true, true, true, true, true, true, true, true, true, true, true, true, false, false]) rfl (by kernel_rfl) (by kernel_rfl) (fun K hK => ?_)
            go_simp
            refine (HOF.out _ _ _ (by (try simp only [heap_drew]); repeat (first | (apply laid_at; simp; done) | apply laid_old | (refine laid_go ?_ (by assumption); try simp only [heap_drew]))) (by (try simp only [heap_drew]); repeat (first | (apply laid_at; simp; done) | apply laid_old | (refine laid_go ?_ (by assumption); try simp only [heap_drew]))) (by repeat (first | exact HV9.out | apply RV.drew | apply RV.alloc | (refine RV.go ?_ (by assumption))))).mono ?_
            rintro e w11 ⟨rfl, hb11⟩
            dsimp only
            refine hK.out _ _ (by trivial) (fun hHeld => ?_)
            clear hK K
            try simp only [Act.put, List.setIfInBounds_toArray, List.set_cons_zero, List.set_cons_succ]
            refine take_to (i := 47) (d := some 95) (v := ?_) (l' := #[true, true, true, true, true, true, true, true, true, true, true, true, true, true, true, true, true, true, true, true, true, true, true, true, true, true, true, true, true, true, true, true, true, true, true, true, true, true, true, true, true, true, true, true, true, true, true, true, false]) rfl rfl (by kernel_rfl) (by kernel_rfl) (by kernel_rfl) (by kernel_rfl) (fun _ _ _ h => h) (Or.inl ⟨by rfl, ?_⟩) (by assumption) ?_; rotate_left; · (intro w' hSw; (try dsimp only at hSw); go_simp; (try with_reducible rfl))
            try simp only [Act.put, List.setIfInBounds_toArray, List.set_cons_zero, List.set_cons_succ]
            refine take_to (i := 48) (d := some 96) (v := ?_) (l' := #[true, true, true, true, true, true, true, true, true, true, true, true, true, true, true, true, true, true, true, true, true, true, true, true, true, true, true, true, true, true, true, true, true, true, true, true, true, true, true, true, true, true, true, true, true, true, true, true, true]) rfl rfl (by kernel_rfl) (by kernel_rfl) (by kernel_rfl) (by kernel_rfl) (fun _ _ _ h => h) (Or.inl ⟨by rfl, ?_⟩) (by assumption) ?_; rotate_left; · (intro w' hSw; (try dsimp only at hSw); go_simp; (try with_reducible rfl))
            try simp only [Act.put, List.setIfInBounds_toArray, List.set_cons_zero, List.set_cons_succ]
            refine wpAnyH_done (by kernel_rfl) ?_ _
            refine NoPanic.normal ?_
            clear hHeld hmk hm1 hn0 hg0 hn1 hg1 HW1 HW2 HW3 HW4 HTG HTG2 HRF HOF
            go_wp2_with fail
            refine (none02_any _).mono ?_
            rintro e w20 ⟨rfl, hb20⟩
            have H20 := Lib.hid (show RV w.heap.size wr hb (fun _ => 0#8) 1048576 w20 from (by refine RV.go ?_ hb20; repeat (first | exact HV9.out | apply RV.drew | apply RV.alloc | (refine RV.go ?_ (by assumption)))))
            clear hb20
            go_wp2_with fail
            refine (awake2 w.heap.size w20 H20.out.kc (Nat.le_trans H20.out.lo H20.out.sz)).mono ?_
            rintro e w21 ⟨rfl, hb21⟩
            have HF := Lib.hid (HDE.out.bel.trans ((H20.out.go hb21).bel.mono q1))
            clear hb21 H20
            go_wp2
            go_ret
            exact ⟨rfl, HF.out⟩
end Go.Proofs.YthhjieagdkimfaaDoor
