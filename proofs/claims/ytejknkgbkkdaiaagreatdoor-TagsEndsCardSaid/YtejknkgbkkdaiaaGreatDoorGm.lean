/-
  TagsTell: the begin of the law, the begin of a round.
-/
import Derived.Test.YtejknkgbkkdaiaaGreatDoorGl
import Derived.Test.YtejknkgbkkdaiaaGreatDoorAwakeT
namespace Go.Proofs.YtejknkgbkkdaiaaGreatDoor
open Go.RowKit
set_option linter.unusedVariables false
set_option linter.unusedSimpArgs false

section
variable {P : Program} {md : Region.Mode} {ops : Array Oper} {Q : Exit → Act → World → Prop}
theorem three_to {S : World → Prop} {i j k : Nat} {o o2 o3 : Oper} {fuel : Nat} {listed l1 l2 l3 : Array Bool} {a : Act} {w : World} (ho : ops[i]? = some o) (ho2 : ops[j]? = some o2) (ho3 : ops[k]? = some o3) (hr : Region.ready md ops listed = [i, j, k]) (hl : listed.setIfInBounds i true = l1) (hl2 : listed.setIfInBounds j true = l2) (hl3 : listed.setIfInBounds k true = l3)
    (h : ∀ K' : Act → World → Prop, Shut (∀ a w, S w → (S w → wpAnyH P md ops Q S fuel l1 a w) → K' a w) → if Region.wanted o (yielded ops a.tmps) = true then Oper.wp P o a w K' Q else K' (a.put o.dst undef) w)
    (h2 : ∀ K' : Act → World → Prop, Shut (∀ a w, S w → (S w → wpAnyH P md ops Q S fuel l2 a w) → K' a w) → if Region.wanted o2 (yielded ops a.tmps) = true then Oper.wp P o2 a w K' Q else K' (a.put o2.dst undef) w)
    (h3 : ∀ K' : Act → World → Prop, Shut (∀ a w, S w → (S w → wpAnyH P md ops Q S fuel l3 a w) → K' a w) → if Region.wanted o3 (yielded ops a.tmps) = true then Oper.wp P o3 a w K' Q else K' (a.put o3.dst undef) w) : wpAnyH P md ops Q S (fuel + 1) listed a w := by
  subst hl hl2 hl3
  exact wpAnyH_ready hr (by simp) (AllReadyH.cons ho h (AllReadyH.cons ho2 h2 (AllReadyH.cons ho3 h3 AllReadyH.nil)))
end
/-- a new maker, of either kind -/
theorem newA_any (real : Bool) (g sm c : Nat) (sd : Nat → BitVec 8) (w : World) (hsm : sm ≤ 400) (hr : Reads w.heap.size w (some ⟨g, 0, none⟩) sm (fun j => .int .u8 (ub (sd j)))) :
    Calls Tryz.prog 8 #[.bool real, .slice (some ⟨g, 0, none⟩) sm c] w fun e w' => ∃ mb B sv, e = .returned (.pointer (some ⟨mb, 0, none⟩)) ∧ w.heap.size ≤ mb ∧ w.heap.size ≤ B ∧ Below w.heap.size w w' ∧ MB w' mb B real sv ∧ BK w' B [] ∧
      (real = true → w'.ownsRow w.heap.size 5 1 sv sm ((List.range sm).map (fun j => .int .u8 (ub (sd j))))) ∧ (real = false → sv = .slice none 0 0) := by
  cases real with
  | false =>
    refine (newT_any w _).mono ?_
    rintro e w' ⟨mb, B, rfl, h1, h2, h3, h4, h5⟩
    exact ⟨mb, B, _, rfl, h1, h2, h3, h4, h5, fun e => (by cases e), fun _ => rfl⟩
  | true =>
    refine (newR_any w (some ⟨g, 0, none⟩) sm c sd (fun e => (by cases e)) (by omega) hr).mono ?_
    rintro e w' ⟨mb, B, v, b0, rfl, h1, h2, h3, h4, h5, h6, h7⟩
    exact ⟨mb, B, v, rfl, h1, h2, h4, h5, h6, fun _ => owns_base h7 h3, fun e => (by cases e)⟩
theorem own_no_map {W : World} {base k n B : Nat} {e : TypeId} {v : Value} {xs : List Value} {L : List Thing} (h : W.ownsRow base e k v n xs) (hb : BK W B L) : v.ownBlock ≠ some B := fun hv => by
  obtain ⟨D, ⟨es, clock, hm, _⟩, _⟩ := hb
  rcases h.2 with ⟨h1, _⟩ | ⟨g, cap, cur, h1, _, hg, _⟩
  · rw [h1] at hv; cases hv
  · rw [h1] at hv
    cases hv
    rw [hg] at hm
    cases hm
/-- both makers are new -/
theorem TW4.new {w W3 W4 W6 : World} {real : Bool} {sp : Option Addr} {sm sc : Nat} {sd t : Nat → BitVec 8} {mb B g : Nat} {sv : Value} (hb3 : Below w.heap.size w W3) (hbx : BT W3 w.heap.size 32 t) (hg : w.heap.size < g) (hg3 : g < W3.heap.size)
    (h1 : W3.heap.size ≤ mb) (h2 : W3.heap.size ≤ B) (h3 : Below W3.heap.size W3 W4) (h4 : MB W4 mb B real sv) (h5 : BK W4 B []) (h6 : real = true → W4.ownsRow W3.heap.size 5 1 sv sm ((List.range sm).map (fun j => .int .u8 (ub (sd j))))) (h7 : real = false → sv = .slice none 0 0)
    (h8 : (W4.alloc (.cells #[.bool real, .slice sp sm sc, .slice none 0 0] 34)).grownBy W6 (some g)) : TW4 ⟨real, sp, sm, sc, sd, mb, B, W4.heap.size, sv, W6.heap.size, t⟩ w (.slice none 0 0) [] [] W6 := by
  have c := Ch.gr h8
  have hl := hbx.lt
  have z4 := h3.size
  have zm := h4.lt
  have zB := h5.lt
  have z6 := h8.size
  simp only [World.size_alloc] at z6
  have hal : Below W4.heap.size W4 (W4.alloc (.cells #[.bool real, .slice sp sm sc, .slice none 0 0] 34)) := below_al _ _
  have hb5 : Below w.heap.size w (W4.alloc (.cells #[.bool real, .slice sp sm sc, .slice none 0 0] 34)) := hb3.trans ((h3.trans (hal.mono h3.size)).mono hb3.size)
  refine ⟨c.below hb5 hb5.size (fun k hk => by omega), c.bt ((hbx.below' h3).below' hal) (by show w.heap.size ≠ g; omega), c.mb (h4.below hal) (by show mb ≠ g; omega), c.bk (h5.below hal) (by show B ≠ g; omega), fun e => ?_, h7, ⟨c.at (laid_at rfl) (by show W4.heap.size ≠ g; omega), World.ownsRow_nil _ _ _ _, by show W4.heap.size < W6.heap.size; omega⟩, by show W4.heap.size ≠ B; omega, by show mb ≠ W4.heap.size; omega, ?_, ⟨by show _ < mb; omega, by show _ < B; omega, by show _ < W4.heap.size; omega⟩, ⟨by show mb < W6.heap.size; omega, by show B < W6.heap.size; omega, by show W4.heap.size < W6.heap.size; omega⟩, Nat.le_refl _, fun _ => rfl⟩
  · have ho := owns_below (h6 e) hal
    exact owns_base (c.own ho (fun q hq e2 => by have := (ho.lt q hq).1; omega)) (by omega)
  · intro q hq
    cases real with
    | false => rw [show sv = .slice none 0 0 from h7 rfl] at hq; cases hq
    | true =>
      have ho := h6 rfl
      have hz := (ho.lt q hq).2
      exact ⟨by show q < W6.heap.size; omega, by show q ≠ W4.heap.size; omega, fun e => own_no_map ho h5 (by rw [show B = q from e.symm]; exact hq)⟩
/-- a round begins -/
theorem TA4.start {d : TD} {w wr w2 : World} {av : Value} {L : List Thing} {y : Ask} {gk : Nat} {v1 v2 : Value} (h : TW4 d w av L L wr) (hgk : (wr.alloc (.cells #[.int .i64 y.what, v1, v2, .int .i64 y.k] 38)).heap.size ≤ gk)
    (hb : Below (wr.alloc (.cells #[.int .i64 y.what, v1, v2, .int .i64 y.k] 38)).heap.size (wr.alloc (.cells #[.int .i64 y.what, v1, v2, .int .i64 y.k] 38)) w2)
    (ho : w2.ownsRow (wr.alloc (.cells #[.int .i64 y.what, v1, v2, .int .i64 y.k] 38)).heap.size 5 1 (.slice (some ⟨gk, 0, none⟩) (y.kn + 12) (y.kn + 12)) (y.kn + 12) ((List.range (y.kn + 12)).map (LentBytes.ext y.kn (fun q => ub (y.key q))))) :
    TA4 d w av L wr.heap.size w2.heap.size wr.heap.size gk y (.slice none 0 0) 0 (fun _ => 0) ((w2.setCell ⟨wr.heap.size, 1, none⟩ (.slice (some ⟨gk, 0, none⟩) y.kn (y.kn + 12))).setCell ⟨wr.heap.size, 2, none⟩ (.slice none 0 0)) := by
  have hal : Below wr.heap.size wr (wr.alloc (.cells #[.int .i64 y.what, v1, v2, .int .i64 y.k] 38)) := below_al _ _
  have hb2 := hal.trans (hb.mono hal.size)
  have hgk2 := (ho.lt gk rfl).2
  simp only [World.size_alloc] at hgk
  have hyx := laid_go (laid_at (W := wr) (o := .cells #[.int .i64 y.what, v1, v2, .int .i64 y.k] 38) rfl) hb
  have hy1 := Go.heap_setCell_same w2 wr.heap.size 1 _ _ (.slice (some ⟨gk, 0, none⟩) y.kn (y.kn + 12)) hyx
  have hy2 := Go.heap_setCell_same _ wr.heap.size 2 _ _ (.slice none 0 0) hy1
  have gs : w2.grownBy ((w2.setCell ⟨wr.heap.size, 1, none⟩ (.slice (some ⟨gk, 0, none⟩) y.kn (y.kn + 12))).setCell ⟨wr.heap.size, 2, none⟩ (.slice none 0 0)) (some wr.heap.size) := (gr_setCell _).trans (gr_setCell _)
  have c := Ch.gr gs
  have hb0 := h.h0
  refine ⟨(h.go hb2).ch c (fun k hk e => by omega) (fun q hq e => by have := (h.r.own.lt q hq).2; omega), ⟨hy2, World.ownsRow_nil _ _ _ _, fun i _ hi => absurd hi (Nat.not_lt_zero _), fun i hi => absurd hi (Nat.not_lt_zero _), Nat.le_refl _, by omega, hgk2, gs.size⟩, ?_, fun q hq => (h.r.own.lt q hq).2, hb0⟩
  exact Ch.own c (owns_base ho (by simp)) (fun q hq e => by
    have hq2 : gk = q := by simpa [Value.ownBlock] using hq
    omega)
end Go.Proofs.YtejknkgbkkdaiaaGreatDoor
