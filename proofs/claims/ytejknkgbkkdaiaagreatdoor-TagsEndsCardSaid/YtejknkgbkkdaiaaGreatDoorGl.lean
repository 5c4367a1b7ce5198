/-
  TagsTell: what is lent in a round.
-/
import Derived.Test.YtejknkgbkkdaiaaGreatDoorGk
namespace Go.Proofs.YtejknkgbkkdaiaaGreatDoor
open Go.RowKit
set_option linter.unusedVariables false
set_option linter.unusedSimpArgs false
set_option maxRecDepth 20000

/-- an ask whose bytes are lent -/
def Ask.lent (y : Ask) (gk : Nat) (p : Option Addr) (c : Nat) (G : Nat → Nat) : Ask :=
  ⟨y.what, some ⟨gk, 0, none⟩, y.kn, y.kn + 12, y.key, p, y.m, c, fun i => some ⟨G i, 0, none⟩, y.ln, fun i => y.ln i + 12, y.f, y.k⟩
theorem Ask.lent_thing (y : Ask) (gk : Nat) (p : Option Addr) (c : Nat) (G : Nat → Nat) : (y.lent gk p c G).thing = y.thing := rfl
theorem Ask.lent_real (y : Ask) (gk : Nat) (p : Option Addr) (c : Nat) (G : Nat → Nat) (sd : Nat → BitVec 8) (sm : Nat) : (y.lent gk p c G).real sd sm = y.real sd sm := rfl
/-- the row of a key that is lent -/
def KY4 (b1 gk : Nat) (y : Ask) (W : World) : Prop :=
  W.ownsRow b1 5 1 (.slice (some ⟨gk, 0, none⟩) (y.kn + 12) (y.kn + 12)) (y.kn + 12) ((List.range (y.kn + 12)).map (LentBytes.ext y.kn (fun q => ub (y.key q))))
/-- the ask that is made, its rows lent from lo on -/
structure TR4 (b1 b2 yb gk : Nat) (y : Ask) (v : Value) (j lo : Nat) (G : Nat → Nat) (W : World) : Prop where
  yx : W.heap[yb]? = some (.cells #[.int .i64 y.what, .slice (some ⟨gk, 0, none⟩) y.kn (y.kn + 12), v, .int .i64 y.k] 38 (0, 0))
  own : W.ownsRow b2 22 1 v j ((List.range j).map (srow G y.ln))
  row : ∀ i, lo ≤ i → i < j → W.ownsRow b2 5 1 (.slice (some ⟨G i, 0, none⟩) (y.ln i + 12) (y.ln i + 12)) (y.ln i + 12) ((List.range (y.ln i + 12)).map (LentBytes.ext (y.ln i) (fun q => ub (y.f i q))))
  inj : ∀ i, i < j → ∀ k, k < i → G k ≠ G i
  ap : b1 ≤ yb ∧ yb < gk ∧ gk < b2 ∧ b2 ≤ W.heap.size
section
variable {b1 b2 yb gk j lo : Nat} {y : Ask} {v : Value} {G : Nat → Nat} {W W' : World} {X : Nat → Prop}
theorem TR4.ch (h : TR4 b1 b2 yb gk y v j lo G W) (g : Ch X W W') (hx : ∀ k, b1 ≤ k → ¬ X k) : TR4 b1 b2 yb gk y v j lo G W' := by
  have ha := h.ap
  exact ⟨g.at h.yx (hx _ ha.1), g.own h.own (fun q hq => hx q (by have := (h.own.lt q hq).1; omega)), fun i h1 h2 => g.own (h.row i h1 h2) (fun q hq => hx q (by have := ((h.row i h1 h2).lt q hq).1; omega)), h.inj, ha.1, ha.2.1, ha.2.2.1, Nat.le_trans ha.2.2.2 g.size⟩
theorem TR4.go (h : TR4 b1 b2 yb gk y v j lo G W) (g : Below W.heap.size W W') : TR4 b1 b2 yb gk y v j lo G W' := h.ch (X := fun _ => False) (Ch.bel g) (fun _ _ e => e)
/-- the key is written over -/
theorem TR4.key (h : TR4 b1 b2 yb gk y v j lo G W) (g : W.grownBy W' (some gk)) : TR4 b1 b2 yb gk y v j lo G W' := by
  have ha := h.ap
  have c := Ch.gr g
  exact ⟨c.at h.yx (by omega), c.own h.own (fun q hq => by have := (h.own.lt q hq).1; omega), fun i h1 h2 => c.own (h.row i h1 h2) (fun q hq => by have := ((h.row i h1 h2).lt q hq).1; omega), h.inj, ha.1, ha.2.1, ha.2.2.1, Nat.le_trans ha.2.2.2 g.size⟩
/-- a row is written over -/
theorem TR4.over (h : TR4 b1 b2 yb gk y v j lo G W) (hlo : lo < j) (g : W.grownBy W' (some (G lo))) : TR4 b1 b2 yb gk y v j (lo + 1) G W' := by
  have ha := h.ap
  have c := Ch.gr g
  have hr := h.row lo (Nat.le_refl _) hlo
  have hob : (Value.slice (some ⟨G lo, 0, none⟩) (y.ln lo + 12) (y.ln lo + 12)).ownBlock = some (G lo) := rfl
  have hge := (hr.lt _ hob).1
  exact ⟨c.at h.yx (by omega), c.own h.own (fun q hq e => owns_apart h.own hr (by decide) _ hob (by rw [hq, e])), fun i h1 h2 => c.own (h.row i (by omega) h2) (fun q hq e => by
    have hq2 : G i = q := by simpa [Value.ownBlock] using hq
    exact h.inj i h2 lo (by omega) (by rw [hq2, e])), h.inj, ha.1, ha.2.1, ha.2.2.1, Nat.le_trans ha.2.2.2 g.size⟩
theorem TR4.reads (h : TR4 b1 b2 yb gk y v j lo G W) (i : Nat) (h1 : lo ≤ i) (hi : i < j) : Reads W.heap.size W (some ⟨G i, 0, none⟩) (y.ln i + 12) (LentBytes.ext (y.ln i) (fun q => ub (y.f i q))) := by
  obtain ⟨p, c, he, hr, _⟩ := owns_reads (h.row i h1 hi)
  cases he
  exact hr
theorem first_reads {W : World} {g n : Nat} {f : Nat → BitVec 8} (h : Reads W.heap.size W (some ⟨g, 0, none⟩) (n + 12) (LentBytes.ext n (fun q => ub (f q)))) : Reads W.heap.size W (some ⟨g, 0, none⟩) n (fun q => .int .u8 (ub (f q))) := by
  rcases h with h0 | ⟨b, off, he, hb, hc⟩
  · omega
  · exact .inr ⟨b, off, he, hb, fun q hq => by rw [hc q (by omega), LentBytes.ext_lt hq]⟩
theorem KY4.reads (h : KY4 b1 gk y W) : Reads W.heap.size W (some ⟨gk, 0, none⟩) (y.kn + 12) (LentBytes.ext y.kn (fun q => ub (y.key q))) := by
  obtain ⟨p, c, he, hr, _⟩ := owns_reads h
  cases he
  exact hr
theorem KY4.ch (h : KY4 b1 gk y W) (g : Ch X W W') (hx : ∀ k, b1 ≤ k → ¬ X k) : KY4 b1 gk y W' := Ch.own g h (fun q hq => hx q (World.ownsRow.lt h q hq).1)
theorem KY4.go (h : KY4 b1 gk y W) (g : Below W.heap.size W W') : KY4 b1 gk y W' := KY4.ch (X := fun _ => False) h (Ch.bel g) (fun _ _ e => e)
/-- all that is lent lies below -/
def Up4 (b3 yb gk : Nat) (v : Value) (j : Nat) (G : Nat → Nat) : Prop := yb < b3 ∧ gk < b3 ∧ (∀ q, v.ownBlock = some q → q < b3) ∧ ∀ i, i < j → G i < b3
theorem TR4.up (h : TR4 b1 b2 yb gk y v j 0 G W) : Up4 W.heap.size yb gk v j G :=
  ⟨(Array.getElem?_eq_some_iff.1 h.yx).1, by have := h.ap; omega, fun q hq => (h.own.lt q hq).2, fun i hi => ((h.row i (Nat.zero_le _) hi).lt (G i) rfl).2⟩
theorem TR4.tag {b3 ta : Nat} (h : TR4 b1 b2 yb gk y v j 0 G W) (hu : Up4 b3 yb gk v j G) (ht : b3 ≤ ta) (g : W.grownBy W' (some ta)) : TR4 b1 b2 yb gk y v j 0 G W' := by
  have ha := h.ap
  have c := Ch.gr g
  exact ⟨c.at h.yx (by have := hu.1; omega), c.own h.own (fun q hq => by have := hu.2.2.1 q hq; omega), fun i h1 h2 => c.own (h.row i h1 h2) (fun q hq => by
    have hq2 : G i = q := by simpa [Value.ownBlock] using hq
    have := hu.2.2.2 i h2
    omega), h.inj, ha.1, ha.2.1, ha.2.2.1, Nat.le_trans ha.2.2.2 g.size⟩
theorem KY4.tag {b3 ta : Nat} (h : KY4 b1 gk y W) (hu : gk < b3) (ht : b3 ≤ ta) (g : W.grownBy W' (some ta)) : KY4 b1 gk y W' := Ch.own (Ch.gr g) h (fun q hq => by
  have hq2 : gk = q := by simpa [Value.ownBlock] using hq
  omega)
/-- what is lent lies there -/
theorem TR4.lies {p : Option Addr} {c : Nat} (h : TR4 b1 b2 yb gk y (.slice p y.m c) y.m 0 G W) (hk : KY4 b1 gk y W) (ht : y.tot ≤ 400) (hkw : (Lit.int .i64 y.k).wf = true) : (y.lent gk p c G).lies W ∧ (y.lent gk p c G).small := by
  have hln : ∀ i, i < y.m → y.ln i ≤ 400 := fun i hi => by have := pos_ge y.ln y.m i hi; unfold Ask.tot at ht; omega
  obtain ⟨p', c', he, hr, hc1, hc2⟩ := owns_reads h.own
  cases he
  unfold Ask.tot at ht
  refine ⟨⟨first_reads hk.reads, fun e => (by cases e), by show y.kn ≤ _; omega, ⟨hr, fun i hi => ⟨by show y.ln i ≤ y.ln i + 12; omega, by have := hln i hi; unfold maxLen; show y.ln i + 12 ≤ _; omega⟩, fun i hi => first_reads (h.reads i (Nat.zero_le _) hi)⟩, hc1, by show y.m ≤ _; omega, by show pos y.ln y.m ≤ _; omega, hkw⟩, ⟨⟨by show y.kn ≤ y.kn + 12; omega, by unfold maxLen; show y.kn + 12 ≤ _; omega⟩, by show y.kn ≤ _; omega, hc2, by show pos y.ln y.m ≤ _; omega⟩⟩
end
/-- a round: the makers, the ask that is made, its key -/
structure TA4 (d : TD) (w : World) (av : Value) (L : List Thing) (b1 b2 yb gk : Nat) (y : Ask) (v : Value) (j : Nat) (G : Nat → Nat) (W : World) : Prop where
  tw : TW4 d w av L L W
  tr : TR4 b1 b2 yb gk y v j 0 G W
  ky : KY4 b1 gk y W
  av1 : ∀ q, av.ownBlock = some q → q < b1
  hb : d.b0 ≤ b1
section
variable {d : TD} {w W W' : World} {av v : Value} {L : List Thing} {b1 b2 yb gk j : Nat} {y : Ask} {G : Nat → Nat}
theorem TA4.go (h : TA4 d w av L b1 b2 yb gk y v j G W) (g : Below W.heap.size W W') : TA4 d w av L b1 b2 yb gk y v j G W' := ⟨h.tw.go g, h.tr.go g, h.ky.go g, h.av1, h.hb⟩
/-- a block behind all turns but the ask's and its rows' -/
theorem TA4.bx (h : TA4 d w av L b1 b2 yb gk y v j G W) : W.cell? ⟨yb, 0, none⟩ = some (.int .i64 y.what) ∧ W.cell? ⟨yb, 1, none⟩ = some (.slice (some ⟨gk, 0, none⟩) y.kn (y.kn + 12)) ∧ W.cell? ⟨yb, 2, none⟩ = some v ∧ W.cell? ⟨yb, 3, none⟩ = some (.int .i64 y.k) := row4 h.tr.yx
theorem TA4.append (h : TA4 d w av L b1 b2 yb gk y v j G W) (x : Nat) (hn : ∀ i, i < j → G i ≠ x) (ty : TypeId) (hr : W.ownsRow b2 5 1 (.slice (some ⟨x, 0, none⟩) (y.ln j + 12) (y.ln j + 12)) (y.ln j + 12) ((List.range (y.ln j + 12)).map (LentBytes.ext (y.ln j) (fun q => ub (y.f j q))))) (hj : j + 1 ≤ 4294967296) :
    ∃ v' w', (Builtin.append_ #[36, 36] ty #[v, .slice (some ⟨W.heap.size, 0, none⟩) 1 1]).run Tryz.prog (W.alloc (.cells #[.slice (some ⟨x, 0, none⟩) (y.ln j) (y.ln j + 12)] 22)) = .ok v' w' ∧ TW4 d w av L L w' ∧
      w'.heap[yb]? = some (.cells #[.int .i64 y.what, .slice (some ⟨gk, 0, none⟩) y.kn (y.kn + 12), v, .int .i64 y.k] 38 (0, 0)) ∧ TA4 d w av L b1 b2 yb gk y v' (j + 1) (upd' G j x) (w'.setCell ⟨yb, 2, none⟩ v') := by
  obtain ⟨i0, hi, hz0, hz1, hz2⟩ := info_parts infoBs
  have ha := h.tr.ap
  have hb0 := h.hb
  have hal : Below W.heap.size W (W.alloc (.cells #[.slice (some ⟨x, 0, none⟩) (y.ln j) (y.ln j + 12)] 22)) := below_al _ _
  have H1 := h.go hal
  have hra := owns_below hr hal
  obtain ⟨v', w', h1, h2, h3⟩ := append_reads (P := Tryz.prog) (W.alloc (.cells #[.slice (some ⟨x, 0, none⟩) (y.ln j) (y.ln j + 12)] 22)) b2 _ 36 ty 22 i0 (.slice none 0 0) 24 Tryz.underlying36 hi hz0 hz1 hz2 rfl _ _ _ H1.tr.own (some ⟨W.heap.size, 0, none⟩) 1 1 (fun _ => .slice (some ⟨x, 0, none⟩) (y.ln j) (y.ln j + 12))
    (reads_laid (laid_at rfl) (fun i hi => by rw [show i = 0 by omega]; rfl)) (fun _ _ => rfl) (by unfold maxLen; omega) (by omega) (by simp; omega)
  have hv2 : ∀ q, v.ownBlock = some q → b2 ≤ q := fun q hq => (h.tr.own.lt q hq).1
  have c : Ch (fun k => v.ownBlock = some k) (W.alloc (.cells #[.slice (some ⟨x, 0, none⟩) (y.ln j) (y.ln j + 12)] 22)) w' := ⟨h3.os, h3.tape, h3.output, h3.size, fun k hk hx => h3.block k hk (fun e => hx e.symm)⟩
  have hown : w'.ownsRow b2 22 1 v' (j + 1) ((List.range (j + 1)).map (srow (upd' G j x) y.ln)) := by
    have e : (List.range j).map (srow G y.ln) ++ (List.range 1).map (fun _ : Nat => Value.slice (some ⟨x, 0, none⟩) (y.ln j) (y.ln j + 12)) = (List.range (j + 1)).map (srow (upd' G j x) y.ln) := by
      rw [List.range_succ (n := j), List.map_append, List.map_singleton, show List.range 1 = [0] from rfl, List.map_singleton]
      congr 1
      · exact List.map_congr_left fun i hi => by unfold srow; rw [upd_lt' G j i x (List.mem_range.1 hi)]
      · simp [srow, upd_at']
    rw [← e]; exact h2
  have hrow : ∀ i, i < j + 1 → w'.ownsRow b2 5 1 (.slice (some ⟨upd' G j x i, 0, none⟩) (y.ln i + 12) (y.ln i + 12)) (y.ln i + 12) ((List.range (y.ln i + 12)).map (LentBytes.ext (y.ln i) (fun q => ub (y.f i q)))) := fun i hi => by
    by_cases e : i = j
    · subst e
      rw [upd_at']
      exact owns_gr hra h3 fun q e => owns_apart hra H1.tr.own (by decide) q e
    · rw [upd_lt' G j i x (by omega)]
      have hro := H1.tr.row i (Nat.zero_le _) (by omega)
      exact owns_gr hro h3 fun q e => owns_apart hro H1.tr.own (by decide) q e
  have htw : TW4 d w av L L w' := H1.tw.ch c (fun k hk e => by have := hv2 k e; omega) (fun q hq e => by have := hv2 q e; have := h.av1 q hq; omega)
  have hyx := c.at H1.tr.yx (fun e => by have := hv2 yb e; omega)
  have hky : KY4 b1 gk y w' := Ch.own c H1.ky (fun q hq e => by
    have hq2 : gk = q := by simpa [Value.ownBlock] using hq
    have := hv2 q e
    omega)
  have gs := gr_setCell (w := w') (hb := yb) (i := 2) v'
  have cs := Ch.gr gs
  have hsz : b2 ≤ w'.heap.size := by have := h3.size; simp only [World.size_alloc] at this; omega
  refine ⟨v', w', h1, htw, hyx, ⟨htw.ch cs (fun k hk e => by omega) (fun q hq e => by have := h.av1 q hq; omega), ⟨Go.heap_setCell_same w' yb 2 _ _ v' hyx, cs.own hown (fun q hq e => by have := (hown.lt q hq).1; omega), fun i _ hi => cs.own (hrow i hi) (fun q hq e => by have := ((hrow i hi).lt q hq).1; omega), ?_, ha.1, ha.2.1, ha.2.2.1, Nat.le_trans hsz gs.size⟩, Ch.own cs hky (fun q hq e => by
    have hq2 : gk = q := by simpa [Value.ownBlock] using hq
    omega), h.av1, h.hb⟩⟩
  intro i hi k hk
  by_cases e : i = j
  · subst e
    rw [upd_at', upd_lt' G i k x hk]
    exact hn k hk
  · rw [upd_lt' G j i x (by omega), upd_lt' G j k x (by omega)]
    exact h.tr.inj i (by omega) k hk
end
end Go.Proofs.YtejknkgbkkdaiaaGreatDoor
