/-
  Rows and bytes that are lent; how many rows and bytes there are; a tag that is stored.
-/
import Derived.Test.YthhjieagdkimfaaDoorLentBytes
import Derived.Test.YthhjieagdkimfaaDoorConcat
namespace Go.Proofs.YthhjieagdkimfaaDoor.LentBytes
open Go.RowKit
set_option linter.unusedSimpArgs false
set_option linter.unusedVariables false

set_option maxHeartbeats 1000000 in
set_option maxRecDepth 100000 in
theorem lent2 (B : Nat) (p : Option Addr) (n cap : Nat) (h : Nat → Int) (w : World) (hn : n ≤ 4294967295) (hp : p = none → n = 0 ∧ cap = 0) (hr : Reads B w p n (fun i => .int .u8 (h i))) (hB : B ≤ w.heap.size) :
    Calls Tryd.prog 11 #[.slice p n cap] w fun e w' => ∃ g, e = .returned (.slice (some ⟨g, 0, none⟩) n (n + 12)) ∧ w.heap.size ≤ g ∧ Below w.heap.size w w' ∧ w'.ownsRow w.heap.size 5 1 (.slice (some ⟨g, 0, none⟩) (n + 12) (n + 12)) (n + 12) ((List.range (n + 12)).map (ext n h)) := by
  obtain ⟨i0, hi, hz0, hz1, hz2⟩ := info_parts info
  have hmk := run_make (P := Tryd.prog) w 27 5 i0 (.int .u8 0) Tryd.underlying27 hi hz0 .i64 .i64 0 (n + 12) (by omega) (by omega) (by rw [hz2]; omega) (by omega)
  have hsC : (madeCells (Value.int .u8 0).cells (((n : Int) + 12).toNat * i0.size)).size = n + 12 := by rw [size_madeCells, hz1]; omega
  rw [show ((n : Int) + 12).toNat = n + 12 by omega, Int.toNat_zero] at hmk
  rw [show ((n : Int) + 12).toNat = n + 12 by omega] at hsC
  generalize madeCells (Value.int .u8 0).cells ((n + 12) * i0.size) = C at hmk hsC
  have hown := World.ownsRow_made (e := 5) (size := 1) w C (n + 12) (Nat.le_refl _) (by unfold maxLen; omega) (by omega)
  have hb0 : Below w.heap.size w (w.alloc (.cells C 5)) := (Below.refl _ _).alloc (Nat.le_refl _) _
  have hr0 := hr.below (hb0.mono hB)
  have HC := Lib.hid hsC
  clear hsC hr
  obtain ⟨xs, hxs⟩ : ∃ xs, xs = (List.range n).map (fun i => Value.int .u8 (h i)) := ⟨_, rfl⟩
  have hxl : xs.length = n * 1 := by rw [hxs]; simp
  have hxc : ∀ ad, p = some ad → ∀ j x, xs[j]? = some x → (w.alloc (.cells C 5)).cell? (ad.add j) = some x := by
    rintro ad rfl j x hj
    rw [hxs] at hj
    obtain ⟨hj2, rfl⟩ := row_at hj
    clear hj
    rcases hr0 with h0 | ⟨b, off, he, hb, hc⟩
    · omega
    · cases he
      rw [← hc j hj2, Go.WideShapes.add_plain]
  have hx1 : ∀ x ∈ xs, x.oneCell' = true := by
    intro x hx; rw [hxs] at hx; simp at hx; obtain ⟨i, _, rfl⟩ := hx; rfl
  have HX := Lib.hid hxs
  clear hxs hr0
  have HXC := Lib.hid hxc
  clear hxc
  go_enter Tryd.func11, Tryd.ntmps11
  go_wp2_with (at_builtin; refine wpList_append_fits_any _ rfl (.tmp 9) (.tmp 10) 27 rfl w.heap.size 5 i0 1 Tryd.underlying27 hi hz1 w.heap.size 0 (n + 12) [] rfl hown p n cap xs rfl hxl hp HXC.out hx1 (by omega) ?_)
  intro w1 hown1 hgrow1
  have hb1 : Below w.heap.size w w1 := hb0.grown hgrow1 (by simp) (fun k e => by cases e; exact Nat.le_refl _)
  have hown1' : w1.ownsRow w.heap.size 5 1 (.slice (some ⟨w.heap.size, 0, none⟩) (n + 0) (n + 12)) (n + 0) ((List.range (n + 0)).map (ext n h)) := by
    rw [Nat.add_zero, ← ext_row n h, ← HX.out]
    simpa using hown1
  clear hown1 hgrow1 hown HXC HC hb0 hmk
  go_wp2
  go_loopw [3, 4] (fun v i wr => ∃ k : Nat, k ≤ 12 ∧ i = .int .i64 k ∧ v = .slice (some ⟨w.heap.size, 0, none⟩) (n + k) (n + 12) ∧ wr.ownsRow w.heap.size 5 1 (.slice (some ⟨w.heap.size, 0, none⟩) (n + k) (n + 12)) (n + k) ((List.range (n + k)).map (ext n h)) ∧ Below w.heap.size w wr) (fun _ i _ => 12 - (intOf i).toNat)
  case atStart => exact ⟨0, Nat.zero_le _, rfl, rfl, hown1', hb1⟩
  case round =>
    obtain ⟨k, hk, rfl, rfl, hown, hbel⟩ := hrel
    clear hown1' hb1
    have hsz := hbel.size
    by_cases hlt : k < 12
    · go_wp2_with (first | (go_at_call 39; refine (markB_any 1 _ _ (by omega) (by omega) (by omega) (by omega)).mono ?_; rintro e w' ⟨rfl, rfl⟩) | (at_builtin; refine wpList_append_fits _ rfl (.tmp 16) (.tmp 19) 27 rfl w.heap.size 5 i0 1 Tryd.underlying27 hi hz1 w.heap.size (n + k) (n + 12) ((List.range (n + k)).map (ext n h)) rfl (hown.alloc _) ⟨wr.heap.size, 0, none⟩ 1 1 [.int .u8 (mk k)] rfl rfl ?c1 ?c2 (by omega) ?next))
      case c1 => exact World.news_of_block (heap_alloc_new _ _)
      case c2 => intro y hy; simp at hy; subst hy; rfl
      case next =>
        intro w2 hown2 hgrow2
        rw [ext_step] at hown2
        have hb2 : Below w.heap.size w w2 := (hbel.alloc hsz _).grown hgrow2 (by simp; omega) (fun k e => by cases e; exact Nat.le_refl _)
        clear hgrow2 hown hbel
        go_wp2
        go_roundw
        case rel => exact ⟨k + 1, by omega, by go_num, rfl, hown2, hb2⟩
        case measure => simp [intOf]; omega
    · obtain rfl : k = 12 := by omega
      go_wp2
      go_ret
      exact ⟨w.heap.size, rfl, Nat.le_refl _, hbel, hown⟩

end Go.Proofs.YthhjieagdkimfaaDoor.LentBytes
namespace Go.Proofs.YthhjieagdkimfaaDoor
open Go.RowKit
set_option linter.unusedSimpArgs false
set_option linter.unusedVariables false
/-- what size answers: how many rows and bytes there are, or more than are gone through -/
def SizeIs (w w' : World) (m s : Nat) (e : Ending) : Prop := ∃ x : Nat, e = .returned (.int .i64 (x : Int)) ∧ ((s ≤ 700 ∧ x = s) ∨ (700 < s ∧ 700 < x)) ∧ w = w' ∧ x ≤ 281474976710656
set_option maxHeartbeats 1000000 in
theorem size02_any (B : Nat) (w : World) (p : Option Addr) (m c : Nat) (P : Nat → Option Addr) (ln C : Nat → Nat) (hm : m ≤ 5864062014634) (hl : ∀ i, i < m → ln i ≤ 140737488351232) (hp : Reads B w p m (fun i => .slice (P i) (ln i) (C i))) :
    Calls Tryd.prog 8 #[.slice p m c] w (fun e w' => SizeIs w w' m (m + pos ln m) e) := by
  have HP := Lib.hid hp
  have HL := Lib.hid hl
  clear hp hl
  go_enter Tryd.func8, Tryd.ntmps8
  go_wp2
  go_loop [3, 4] (fun sv i => ∃ k x : Nat, k ≤ m ∧ i = .int .i64 (k : Int) ∧ sv = .int .i64 (x : Int) ∧ x = m + pos ln k ∧ x ≤ 281474976710656) (fun _ i => (m - intOf i).toNat)
  case atStart => exact ⟨0, m, Nat.zero_le _, rfl, rfl, by simp [pos], by omega⟩
  case round =>
    obtain ⟨k, x, hk, rfl, rfl, hx, hxb⟩ := hrel
    by_cases hlt : k < m
    · by_cases h700 : (x : Int) ≤ 700
      · rcases HP.out with h0 | ⟨b, off, rfl, hbb, hcc⟩
        · omega
        have hcell := hcc k hlt
        have hl1 := HL.out k hlt
        have HX := Lib.hid hx
        clear hcc hx
        go_wp2
        go_round
        case rel => exact ⟨k + 1, x + ln k, by omega, by go_num, by go_num, by simp only [pos]; have := HX.out; omega, by omega⟩
        case measure => simp [intOf]; omega
      · have hmo := pos_mono ln (show k ≤ m by omega)
        have hfin : 700 < m + pos ln m ∧ 700 < x := by omega
        have HF := Lib.hid hfin
        clear hx hmo hfin
        go_wp2
        go_ret
        exact ⟨x, rfl, .inr HF.out, rfl, hxb⟩
    · obtain rfl : k = m := by omega
      have hfin : (k + pos ln k ≤ 700 ∧ x = k + pos ln k) ∨ (700 < k + pos ln k ∧ 700 < x) := by omega
      have HF := Lib.hid hfin
      clear hx hfin
      by_cases h700 : (x : Int) ≤ 700
      all_goals
        go_wp2
        go_ret
        exact ⟨x, rfl, HF.out, rfl, hxb⟩
set_option maxHeartbeats 1000000 in
theorem size03_any (B : Nat) (w : World) (p : Option Addr) (m c : Nat) (P : Nat → Option Addr) (ln C : Nat → Nat) (hm : m ≤ 5864062014634) (hl : ∀ i, i < m → ln i ≤ 140737488351232) (hp : Reads B w p m (fun i => .slice (P i) (ln i) (C i))) :
    Calls Tryd.prog 54 #[.slice p m c] w (fun e w' => SizeIs w w' m (m + pos ln m) e) := by
  have HP := Lib.hid hp
  have HL := Lib.hid hl
  clear hp hl
  go_enter Tryd.func54, Tryd.ntmps54
  go_wp2
  go_loop [3, 4] (fun sv i => ∃ k x : Nat, k ≤ m ∧ i = .int .i64 (k : Int) ∧ sv = .int .i64 (x : Int) ∧ x = m + pos ln k ∧ x ≤ 281474976710656) (fun _ i => (m - intOf i).toNat)
  case atStart => exact ⟨0, m, Nat.zero_le _, rfl, rfl, by simp [pos], by omega⟩
  case round =>
    obtain ⟨k, x, hk, rfl, rfl, hx, hxb⟩ := hrel
    by_cases hlt : k < m
    · by_cases h700 : (x : Int) ≤ 700
      · rcases HP.out with h0 | ⟨b, off, rfl, hbb, hcc⟩
        · omega
        have hcell := hcc k hlt
        have hl1 := HL.out k hlt
        have HX := Lib.hid hx
        clear hcc hx
        go_wp2
        go_round
        case rel => exact ⟨k + 1, x + ln k, by omega, by go_num, by go_num, by simp only [pos]; have := HX.out; omega, by omega⟩
        case measure => simp [intOf]; omega
      · have hmo := pos_mono ln (show k ≤ m by omega)
        have hfin : 700 < m + pos ln m ∧ 700 < x := by omega
        have HF := Lib.hid hfin
        clear hx hmo hfin
        go_wp2
        go_ret
        exact ⟨x, rfl, .inr HF.out, rfl, hxb⟩
    · obtain rfl : k = m := by omega
      have hfin : (k + pos ln k ≤ 700 ∧ x = k + pos ln k) ∨ (700 < k + pos ln k ∧ 700 < x) := by omega
      have HF := Lib.hid hfin
      clear hx hfin
      by_cases h700 : (x : Int) ≤ 700
      all_goals
        go_wp2
        go_ret
        exact ⟨x, rfl, HF.out, rfl, hxb⟩
end Go.Proofs.YthhjieagdkimfaaDoor
namespace Go.Proofs.YthhjieagdkimfaaDoor
open Go.RowKit
set_option linter.unusedVariables false
set_option linter.unusedSimpArgs false

theorem owns_below {w w' : World} {base : Nat} {e : TypeId} {k : Nat} {v : Value} {n : Nat} {xs : List Value} (h : w.ownsRow base e k v n xs) (hb : Below w.heap.size w w') : w'.ownsRow base e k v n xs := by
  refine ⟨h.1, ?_⟩
  rcases h.2 with h2 | ⟨g, cap, cur, h1, h2, h3, h4⟩
  · exact .inl h2
  · exact .inr ⟨g, cap, cur, h1, h2, (hb.block g (Array.getElem?_eq_some_iff.1 h3).1).trans h3, h4⟩
/-- a row that is lent -/
def srow (G ln : Nat → Nat) (i : Nat) : Value := .slice (some ⟨G i, 0, none⟩) (ln i) (ln i + 12)
theorem owns_gr {w w' : World} {base : Nat} {e : TypeId} {k : Nat} {v : Value} {n : Nat} {xs : List Value} {row : Option Nat} (h : w.ownsRow base e k v n xs) (hg : w.grownBy w' row) (hne : ∀ q, row = some q → v.ownBlock ≠ some q) : w'.ownsRow base e k v n xs := by
  refine ⟨h.1, ?_⟩
  rcases h.2 with h2 | ⟨g, cap, cur, rfl, h2, h3, h4⟩
  · exact .inl h2
  · refine .inr ⟨g, cap, cur, rfl, h2, (hg.block g (Array.getElem?_eq_some_iff.1 h3).1 ?_).trans h3, h4⟩
    intro e
    exact hne g e.symm rfl
/-- two owned rows of unlike types lie apart -/
theorem owns_apart {w : World} {base base' : Nat} {e e' : TypeId} {k k' n n' : Nat} {v v' : Value} {xs xs' : List Value} (h : w.ownsRow base e k v n xs) (h' : w.ownsRow base' e' k' v' n' xs') (he : e ≠ e') (q : Nat) (hq : v'.ownBlock = some q) : v.ownBlock ≠ some q := by
  intro hv
  rcases h.2 with ⟨rfl, _⟩ | ⟨g, cap, cur, rfl, _, h3, _⟩
  · cases hv
  rcases h'.2 with ⟨rfl, _⟩ | ⟨g', cap', cur', rfl, _, h3', _⟩
  · cases hq
  have e1 : g = q := by simpa [Value.ownBlock] using hv
  have e2 : g' = q := by simpa [Value.ownBlock] using hq
  subst e1
  subst e2
  rw [h3] at h3'
  injection h3' with h4
  injection h4 with _ h5
  exact he h5
/-- v holds the first j rows, each lent -/
structure LR (w0 w : World) (v : Value) (j : Nat) (G ln : Nat → Nat) (h : Nat → Nat → Int) : Prop where
  bel : Below w0.heap.size w0 w
  own : w.ownsRow w0.heap.size 27 1 v j ((List.range j).map (srow G ln))
  row : ∀ i, i < j → w.ownsRow w0.heap.size 5 1 (.slice (some ⟨G i, 0, none⟩) (ln i + 12) (ln i + 12)) (ln i + 12) ((List.range (ln i + 12)).map (LentBytes.ext (ln i) (h i)))
section
variable {w0 w w' : World} {v : Value} {j : Nat} {G ln : Nat → Nat} {h : Nat → Nat → Int}
theorem LR.nil (w : World) (G ln : Nat → Nat) (h : Nat → Nat → Int) : LR w w (.slice none 0 0) 0 G ln h := ⟨Below.refl _ _, World.ownsRow_nil _ _ _ _, fun i hi => by omega⟩
theorem LR.go (H : LR w0 w v j G ln h) (g : Below w.heap.size w w') : LR w0 w' v j G ln h := ⟨H.bel.trans (g.mono H.bel.size), owns_below H.own g, fun i hi => owns_below (H.row i hi) g⟩
theorem LR.alloc (H : LR w0 w v j G ln h) (o : Obj) : LR w0 (w.alloc o) v j G ln h := H.go ((Below.refl _ _).alloc (Nat.le_refl _) _)
theorem LR.drew (H : LR w0 w v j G ln h) : LR w0 w.drew v j G ln h := ⟨H.bel.drew, H.own, H.row⟩
theorem LR.reads (H : LR w0 w v j G ln h) (i : Nat) (hi : i < j) : Reads w.heap.size w (some ⟨G i, 0, none⟩) (ln i + 12) (LentBytes.ext (ln i) (h i)) := by
  obtain ⟨p, c, he, hr, _⟩ := owns_reads (H.row i hi)
  cases he
  exact hr
theorem LR.congr {G' : Nat → Nat} (H : LR w0 w v j G ln h) (e : ∀ i, i < j → G i = G' i) : LR w0 w v j G' ln h :=
  ⟨H.bel, by rw [List.map_congr_left (g := srow G ln) fun i hi => by unfold srow; rw [e i (List.mem_range.1 hi)]]; exact H.own, fun i hi => by rw [← e i hi]; exact H.row i hi⟩
/-- one more -/
theorem LR.append (H : LR w0 w v j G ln h) (g : Nat) (hg : G j = g) (ty : TypeId) (hr : w.ownsRow w0.heap.size 5 1 (.slice (some ⟨g, 0, none⟩) (ln j + 12) (ln j + 12)) (ln j + 12) ((List.range (ln j + 12)).map (LentBytes.ext (ln j) (h j)))) (hj : j + 1 ≤ 4294967296) :
    ∃ v' w', (Builtin.append_ #[22, 22] ty #[v, .slice (some ⟨w.heap.size, 0, none⟩) 1 1]).run Tryd.prog (w.alloc (.cells #[.slice (some ⟨g, 0, none⟩) (ln j) (ln j + 12)] 27)) = .ok v' w' ∧ LR w0 w' v' (j + 1) G ln h := by
  obtain ⟨i0, hi, hz0, hz1, hz2⟩ := info_parts infoBs
  have hsz := H.bel.size
  have Ha := H.alloc (.cells #[.slice (some ⟨g, 0, none⟩) (ln j) (ln j + 12)] 27)
  have hra := owns_below hr ((Below.refl _ _).alloc (Nat.le_refl _) (.cells #[.slice (some ⟨g, 0, none⟩) (ln j) (ln j + 12)] 27))
  obtain ⟨v', w', h1, h2, h3⟩ := append_reads (P := Tryd.prog) (w.alloc (.cells #[.slice (some ⟨g, 0, none⟩) (ln j) (ln j + 12)] 27)) w0.heap.size _ 22 ty 27 i0 (.slice none 0 0) 24 Tryd.underlying22 hi hz0 hz1 hz2 rfl _ _ _ Ha.own (some ⟨w.heap.size, 0, none⟩) 1 1 (fun _ => .slice (some ⟨g, 0, none⟩) (ln j) (ln j + 12))
    (reads_laid (laid_at rfl) (fun i hi => by rw [show i = 0 by omega]; rfl)) (fun _ _ => rfl) (by unfold maxLen; omega) (by omega) (by simp; omega)
  refine ⟨v', w', h1, Ha.bel.grown h3 Ha.bel.size (fun q e => (Ha.own.lt q e).1), ?_, fun i hi => ?_⟩
  · rw [List.range_succ, List.map_append, List.map_singleton, show srow G ln j = .slice (some ⟨g, 0, none⟩) (ln j) (ln j + 12) by unfold srow; rw [hg]]
    simpa using h2
  · by_cases e : i = j
    · subst e
      rw [hg]
      exact owns_gr hra h3 fun q e => owns_apart hra Ha.own (by decide) q e
    · have hro := Ha.row i (by omega)
      exact owns_gr hro h3 fun q e => owns_apart hro Ha.own (by decide) q e
end
end Go.Proofs.YthhjieagdkimfaaDoor
namespace Go.Proofs.YthhjieagdkimfaaDoor
def upd' {α : Type} (f : Nat → α) (k : Nat) (x : α) : Nat → α := fun i => if i = k then x else f i
theorem upd_at' {α : Type} (f : Nat → α) (k : Nat) (x : α) : upd' f k x k = x := by unfold upd'; rw [if_pos rfl]
theorem upd_lt' {α : Type} (f : Nat → α) (k i : Nat) (x : α) (h : i < k) : upd' f k x i = f i := by unfold upd'; rw [if_neg (by omega)]
end Go.Proofs.YthhjieagdkimfaaDoor
namespace Go.Proofs.YthhjieagdkimfaaDoor
open Go.RowKit
set_option linter.unusedVariables false
set_option linter.unusedSimpArgs false

theorem owns_base {w : World} {base base' : Nat} {e : TypeId} {k : Nat} {v : Value} {n : Nat} {xs : List Value} (h : w.ownsRow base e k v n xs) (hb : base' ≤ base) : w.ownsRow base' e k v n xs := by
  refine ⟨h.1, ?_⟩
  rcases h.2 with h2 | ⟨g, cap, cur, h1, h2, h3⟩
  · exact .inl h2
  · exact .inr ⟨g, cap, cur, h1, Nat.le_trans hb h2, h3⟩
/-- all rows' bytes, one behind the other -/
theorem joined_ex (ln : Nat → Nat) (f : Nat → Nat → BitVec 8) (m : Nat) : ∃ g : Nat → BitVec 8, ∀ i, i < m → ∀ q, q < ln i → f i q = g (pos ln i + q) := by
  induction m with
  | zero => exact ⟨fun _ => 0#8, fun i hi => by omega⟩
  | succ m ih =>
    obtain ⟨g, hg⟩ := ih
    refine ⟨fun x => if x < pos ln m then g x else f m (x - pos ln m), fun i hi q hq => ?_⟩
    by_cases e : i = m
    · subst e
      simp only [show ¬ (pos ln i + q < pos ln i) by omega, if_false]
      rw [show pos ln i + q - pos ln i = q by omega]
    · have h1 := pos_mono ln (show i + 1 ≤ m by omega)
      have h2 : pos ln (i + 1) = pos ln i + ln i := rfl
      simp only [show pos ln i + q < pos ln m by omega, if_true]
      exact hg i (by omega) q hq
theorem pos_ge (ln : Nat → Nat) (m j : Nat) (h : j < m) : ln j ≤ pos ln m := by
  induction m with
  | zero => omega
  | succ m ih =>
    have e : pos ln (m + 1) = pos ln m + ln m := rfl
    by_cases hj : j = m
    · subst hj; omega
    · have := ih (by omega); omega
theorem zero_atL (n i : Nat) (hi : i < n) : (List.replicate n (Value.int .u8 0)).toArray[i]? = some (.int .u8 (ub 0#8)) := by
  rw [List.getElem?_toArray, List.getElem?_replicate, if_pos hi]; rfl
theorem tag_there (w3 : World) : (w3.alloc (.cells (List.replicate 32 (Value.int .u8 0)).toArray 32)).there w3.heap.size 0 32 := there_block (laid_at rfl) (by simp)
theorem tag_store (w3 : World) (s : Nat → BitVec 8) : BT ((w3.alloc (.cells (List.replicate 32 (Value.int .u8 0)).toArray 32)).setCells w3.heap.size 0 (tagC s)) w3.heap.size 32 s ∧ Below w3.heap.size w3 ((w3.alloc (.cells (List.replicate 32 (Value.int .u8 0)).toArray 32)).setCells w3.heap.size 0 (tagC s)) := by
  have ht0 : BT (w3.alloc (.cells (List.replicate 32 (Value.int .u8 0)).toArray 32)) w3.heap.size 32 (fun _ => 0#8) := BT.of_cells (laid_at rfl) (fun i hi => zero_atL 32 i hi)
  exact ⟨ht0.setFirst 32 (Nat.le_refl _) _ rfl fun j h1 h2 => by omega, ((Below.refl _ _).alloc (Nat.le_refl _) _).grown (gr_setCells (hb := w3.heap.size) (tagC s) 0 _) (by simp) (by rintro q ⟨⟩; exact Nat.le_refl _)⟩
end Go.Proofs.YthhjieagdkimfaaDoor
