/-
  Contracts: a list that is lent (a copy with marks behind it), and whether it was kept: elements of one kind of number.
-/
import Derived.Test.YtbnpphecknhpeaaDoorMarks
namespace Go.Proofs.YtbnpphecknhpeaaDoor.LentInts
open Go.RowKit
set_option linter.unusedSimpArgs false
set_option linter.unusedVariables false

theorem info : (Tryd.prog.info? 3).map (fun i => (i.zero, i.size, i.bytes)) = some (some (.int .i64 0), 1, 8) := by kernel_rfl
/-- what stands behind the list's own elements -/
def mk (i : Nat) : Int := 8000024 + (i : Int)
/-- what the mark's own call answers -/
def mk' (i : Nat) : Int := 8000024 + (i : Int)
/-- the list, and the marks behind it -/
def ext (n : Nat) (h : Nat → Int) (i : Nat) : Value := .int .i64 (if i < n then h i else mk (i - n))
theorem ext_lt {n : Nat} {h : Nat → Int} {i : Nat} (hi : i < n) : ext n h i = .int .i64 (h i) := by unfold ext; rw [if_pos hi]
theorem ext_ge {n : Nat} {h : Nat → Int} {i : Nat} (hi : n ≤ i) : ext n h i = .int .i64 (mk (i - n)) := by unfold ext; rw [if_neg (by omega)]
theorem ext_row (n : Nat) (h : Nat → Int) : (List.range n).map (fun i => Value.int .i64 (h i)) = (List.range n).map (ext n h) :=
  List.map_congr_left fun i hi => (ext_lt (List.mem_range.1 hi)).symm
theorem ext_step (n k : Nat) (h : Nat → Int) : (List.range (n + k)).map (ext n h) ++ [.int .i64 (mk k)] = (List.range (n + (k + 1))).map (ext n h) := by
  rw [show n + (k + 1) = n + k + 1 by omega, List.range_succ, List.map_append, List.map_singleton, ext_ge (by omega), show n + k - n = k by omega]
theorem row_at {f : Nat → Value} {n : Nat} {j : Nat} {x : Value} (h : ((List.range n).map f)[j]? = some x) : j < n ∧ x = f j := by
  have hj : j < n := by
    have := (List.getElem?_eq_some_iff.1 h).1; simpa using this
  refine ⟨hj, ?_⟩
  rw [List.getElem?_map, List.getElem?_range hj] at h
  simpa using h.symm

set_option maxHeartbeats 1000000 in
set_option maxRecDepth 100000 in
theorem lent (B : Nat) (p : Option Addr) (n cap : Nat) (h : Nat → Int) (w : World) (hn : n ≤ 4294967295) (hp : p = none → n = 0 ∧ cap = 0) (hr : Reads B w p n (fun i => .int .i64 (h i))) (hB : B ≤ w.heap.size) :
    Calls Tryd.prog 8 #[.slice p n cap] w fun e w' => ∃ g, e = .returned (.slice (some ⟨g, 0, none⟩) n (n + 12)) ∧ Below w.heap.size w w' ∧ Reads w'.heap.size w' (some ⟨g, 0, none⟩) (n + 12) (ext n h) := by
  obtain ⟨i0, hi, hz0, hz1, hz2⟩ := info_parts info
  have hmk := run_make (P := Tryd.prog) w 30 3 i0 (.int .i64 0) Tryd.underlying30 hi hz0 .i64 .i64 0 (n + 12) (by omega) (by omega) (by rw [hz2]; omega) (by omega)
  have hsC : (madeCells (Value.int .i64 0).cells (((n : Int) + 12).toNat * i0.size)).size = n + 12 := by rw [size_madeCells, hz1]; omega
  rw [show ((n : Int) + 12).toNat = n + 12 by omega, Int.toNat_zero] at hmk
  rw [show ((n : Int) + 12).toNat = n + 12 by omega] at hsC
  generalize madeCells (Value.int .i64 0).cells ((n + 12) * i0.size) = C at hmk hsC
  have hown := World.ownsRow_made (e := 3) (size := 1) w C (n + 12) (Nat.le_refl _) (by unfold maxLen; omega) (by omega)
  have hb0 : Below w.heap.size w (w.alloc (.cells C 3)) := (Below.refl _ _).alloc (Nat.le_refl _) _
  have hr0 := hr.below (hb0.mono hB)
  have HC := Lib.hid hsC
  clear hsC hr
  obtain ⟨xs, hxs⟩ : ∃ xs, xs = (List.range n).map (fun i => Value.int .i64 (h i)) := ⟨_, rfl⟩
  have hxl : xs.length = n * 1 := by rw [hxs]; simp
  have hxc : ∀ ad, p = some ad → ∀ j x, xs[j]? = some x → (w.alloc (.cells C 3)).cell? (ad.add j) = some x := by
    rintro ad rfl j x hj
    rw [hxs] at hj
    obtain ⟨hj2, rfl⟩ := row_at hj
    clear hj
    rcases hr0 with h0 | ⟨b, off, he, hb, hc⟩
    · omega
    · cases he
      rw [← hc j hj2, Go.WideShapes.add_plain]
  have hx1 : ∀ x ∈ xs, x.oneCell' = true := by
    intro x hx; rw [hxs] at hx; simp at hx; obtain ⟨i, _, rfl⟩ := hx; rfl
  have HX := Lib.hid hxs
  clear hxs hr0
  have HXC := Lib.hid hxc
  clear hxc
  go_enter Tryd.func8, Tryd.ntmps8
  go_wp2_with (at_builtin; refine wpList_append_fits_any _ rfl (.tmp 9) (.tmp 10) 30 rfl w.heap.size 3 i0 1 Tryd.underlying30 hi hz1 w.heap.size 0 (n + 12) [] rfl hown p n cap xs rfl hxl hp HXC.out hx1 (by omega) ?_)
  intro w1 hown1 hgrow1
  have hb1 : Below w.heap.size w w1 := hb0.grown hgrow1 (by simp) (fun k e => by cases e; exact Nat.le_refl _)
  have hown1' : w1.ownsRow w.heap.size 3 1 (.slice (some ⟨w.heap.size, 0, none⟩) (n + 0) (n + 12)) (n + 0) ((List.range (n + 0)).map (ext n h)) := by
    rw [Nat.add_zero, ← ext_row n h, ← HX.out]
    simpa using hown1
  clear hown1 hgrow1 hown HXC HC hb0 hmk
  go_wp2
  go_loopw [3, 4] (fun v i wr => ∃ k : Nat, k ≤ 12 ∧ i = .int .i64 k ∧ v = .slice (some ⟨w.heap.size, 0, none⟩) (n + k) (n + 12) ∧ wr.ownsRow w.heap.size 3 1 (.slice (some ⟨w.heap.size, 0, none⟩) (n + k) (n + 12)) (n + k) ((List.range (n + k)).map (ext n h)) ∧ Below w.heap.size w wr) (fun _ i _ => 12 - (intOf i).toNat)
  case atStart => exact ⟨0, Nat.zero_le _, rfl, rfl, hown1', hb1⟩
  case round =>
    obtain ⟨k, hk, rfl, rfl, hown, hbel⟩ := hrel
    clear hown1' hb1
    have hsz := hbel.size
    by_cases hlt : k < 12
    · go_wp2_with (first | (go_at_call 25; refine (mark_any 1 _ _ (by omega) (by omega) (by omega) (by omega)).mono ?_; rintro e w' ⟨rfl, rfl⟩) | (at_builtin; refine wpList_append_fits _ rfl (.tmp 16) (.tmp 19) 30 rfl w.heap.size 3 i0 1 Tryd.underlying30 hi hz1 w.heap.size (n + k) (n + 12) ((List.range (n + k)).map (ext n h)) rfl (hown.alloc _) ⟨wr.heap.size, 0, none⟩ 1 1 [.int .i64 (mk k)] rfl rfl ?c1 ?c2 (by omega) ?next))
      case c1 => exact World.news_of_block (heap_alloc_new _ _)
      case c2 => intro y hy; simp at hy; subst hy; rfl
      case next =>
        intro w2 hown2 hgrow2
        rw [ext_step] at hown2
        have hb2 : Below w.heap.size w w2 := (hbel.alloc hsz _).grown hgrow2 (by simp; omega) (fun k e => by cases e; exact Nat.le_refl _)
        clear hgrow2 hown hbel
        go_wp2
        go_roundw
        case rel => exact ⟨k + 1, by omega, by go_num, rfl, hown2, hb2⟩
        case measure => simp [intOf]; omega
    · obtain rfl : k = 12 := by omega
      go_wp2
      go_ret
      exact ⟨w.heap.size, rfl, hbel, owns_reads' hown⟩

set_option maxHeartbeats 1000000 in
set_option maxRecDepth 100000 in
theorem kept (B : Nat) (p q : Option Addr) (n cap c : Nat) (h : Nat → Int) (w : World) (hn : n ≤ 4294967295) (hc : n + 12 ≤ cap) (hq : Reads B w q n (fun i => .int .i64 (h i))) (hp : Reads B w p (n + 12) (ext n h)) :
    Calls Tryd.prog 18 #[.slice p n cap, .slice q n c] w fun e w' => e = .returned (.bool true) ∧ Below w.heap.size w w' := by
  have hp0 : p ≠ none := by
    rcases hp with h0 | ⟨b, off, rfl, hb, hcp⟩
    · omega
    · simp
  obtain ⟨ad, rfl⟩ := Option.ne_none_iff_exists'.1 hp0
  have HP := Lib.hid hp
  have HQ := Lib.hid hq
  clear hp hq hp0
  go_enter Tryd.func18, Tryd.ntmps18
  go_wp2
  go_loopw [6] (fun i wr => ∃ k : Nat, k ≤ n + 12 ∧ i = .int .i64 k ∧ Below w.heap.size w wr ∧ Below B w wr) (fun i _ => n + 12 - (intOf i).toNat)
  case atStart => exact ⟨0, Nat.zero_le _, rfl, Below.refl _ _, Below.refl _ _⟩
  case round =>
    obtain ⟨k, hk, rfl, hb1, hb2⟩ := hrel
    by_cases hlt : k < n + 12
    · rcases HP.out.below hb2 with h0 | ⟨b, off, he, hb, hcp⟩
      · omega
      cases he
      have hcell := hcp k hlt
      clear hcp
      by_cases hkn : k < n
      · rcases HQ.out.below hb2 with h0 | ⟨b2, off2, rfl, hb2', hcq⟩
        · omega
        have hcell2 := hcq k hkn
        clear hcq
        rw [ext_lt hkn] at hcell
        have d1 : decide ((k : Int) < (n : Int)) = true := by simp; omega
        have d2 : decide (n ≤ k) = false := by simp; omega
        have d3 : decide (k < n) = true := by simp; omega
        go_wp2
        go_quiet (fail)
        go_wp2
        go_roundw
        case rel => exact ⟨k + 1, by omega, by go_num, below_drewN hb1 _, below_drewN hb2 _⟩
        case measure => simp [intOf]; omega
      · rw [ext_ge (by omega)] at hcell
        have d1 : decide (k < n) = false := by simp; omega
        have d2 : decide (n ≤ k) = true := by simp; omega
        have s1 : IntKind.i64.wrap ((k : Int) - (n : Int)) = (k : Int) - (n : Int) := IntWalk.i64_in _ (by omega)
        have hM : ∀ W, Calls Tryd.prog 25 #[.int .i64 1, .int .i64 ((k : Int) - (n : Int))] W fun e w' => e = .returned (.int .i64 (mk' (k - n))) ∧ w' = W := fun W => by
          rw [show (k : Int) - (n : Int) = ((k - n : Nat) : Int) by omega]
          exact mark_j (k - n) W (by omega)
        have hmm : mk (k - n) = mk' (k - n) := rfl
        rw [hmm] at hcell
        generalize mk' (k - n) = M at hM hcell
        have HM := Lib.hid hM
        clear hM hmm
        go_wp2
        go_quiet ((go_at_call 25; exact Calls.quiet_of_same (HM.out _)))
        go_wp2
        go_roundw
        case rel => exact ⟨k + 1, by omega, by go_num, below_drewN hb1 _, below_drewN hb2 _⟩
        case measure => simp [intOf]; omega
    · obtain rfl : k = n + 12 := by omega
      go_wp2
      go_ret
      exact ⟨rfl, hb1⟩

set_option maxHeartbeats 400000 in
theorem same (B : Nat) (p q : Option Addr) (n m c d : Nat) (f g : Nat → Int) (w : World) (hn : n ≤ 9223372036854775807) (hm : m ≤ 9223372036854775807)
    (hp : Reads B w p n (fun i => .int .i64 (f i))) (hq : Reads B w q m (fun i => .int .i64 (g i))) (he : n = m) (hs : ∀ i, i < n → f i = g i) :
    Calls Tryd.prog 9 #[.slice p n c, .slice q m d] w fun e w' => e = .returned (.bool true) ∧ Below w.heap.size w w' := by
  subst he
  have HP := Lib.hid hp
  have HQ := Lib.hid hq
  have HS := Lib.hid hs
  clear hp hq hs
  go_enter Tryd.func9, Tryd.ntmps9
  go_wp2
  go_loopw [5] (fun i wr => ∃ k : Nat, k ≤ n ∧ i = .int .i64 k ∧ Below w.heap.size w wr ∧ Below B w wr) (fun i _ => n - (intOf i).toNat)
  case atStart => exact ⟨0, Nat.zero_le _, rfl, Below.refl _ _, Below.refl _ _⟩
  case round =>
    obtain ⟨k, hk, rfl, hb, hb2⟩ := hrel
    by_cases hlt : k < n
    · rcases HP.out.below hb2 with h0 | ⟨b, off, rfl, hb', hc⟩
      · omega
      rcases HQ.out.below hb2 with h0 | ⟨b2, off2, rfl, hb2', hc2⟩
      · omega
      have hcell : wr.cell? ⟨b, off + k, none⟩ = some (.int .i64 (f k)) := hc k hlt
      have hcell2 : wr.cell? ⟨b2, off2 + k, none⟩ = some (.int .i64 (f k)) := by rw [HS.out k hlt]; exact hc2 k hlt
      clear hc hc2
      go_wp2
      go_region
      go_wp2
      go_roundw
      case rel => exact ⟨k + 1, by omega, by go_num, hb.drew, hb2.drew⟩
      case measure => simp [intOf]; omega
    · obtain rfl : k = n := by omega
      go_wp2
      go_ret
      exact ⟨rfl, hb⟩

end Go.Proofs.YtbnpphecknhpeaaDoor.LentInts
