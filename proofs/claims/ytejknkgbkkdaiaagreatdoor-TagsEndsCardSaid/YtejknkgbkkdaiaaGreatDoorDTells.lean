/-
  The walk of DigestTells: the tag of any rows, at once and by a hasher, row by row, is what the document tells; rows stay.
-/
import Derived.Test.YtejknkgbkkdaiaaGreatDoorG10
import Derived.Test.YtejknkgbkkdaiaaGreatDoorRefTag
namespace Go.Proofs.YtejknkgbkkdaiaaGreatDoor
open Go.RowKit
set_option linter.unusedVariables false
set_option linter.unusedSimpArgs false

theorem sliceElemR : Tryz.prog.underlying 36 = some (.slice (Tryz.prog.elem 36)) := by kernel_rfl
theorem sliceSizeR : Tryz.prog.elem 36 = 22 := by kernel_rfl
theorem sizeR (w : World) : (sizeOf 22).run Tryz.prog w = .ok 1 w := by
  obtain ⟨i0, hi, _, hz1, _⟩ := info_parts infoBs
  simp [sizeOf, typeInfo, hi, hz1]
/-- rows[:q] -/
theorem rows_to (p : Option Addr) (n c q : Nat) (hq : q ≤ n) (hc : n ≤ c) :
    ∃ p1, (∀ W, (Instr.slice 36 (.slice p n c) none (some (.int .i64 (q : Int))) none).run Tryz.prog W = .ok (.slice p1 q c) W) ∧ ∀ B W f, Reads B W p n f → Reads B W p1 q f := by
  refine ⟨if c = 0 then p else p.map (·.add (0 * 1)), fun W => ?_, fun B W f hr => ?_⟩
  · rw [run_slice_h W 36 p n c sliceElemR .i64 q (by omega) (by omega), sliceSizeR, sizeR]
    simp [sliced]
  · have := piece_addr (q := 0) hc q (by omega) c (Nat.le_refl _) (by omega) hr
    simpa using this

/-- the first bytes of an owned row -/
theorem owns_first {w : World} {base : Nat} {e : TypeId} {g N c : Nat} {f : Nat → Value} (h : w.ownsRow base e 1 (.slice (some ⟨g, 0, none⟩) N c) N ((List.range N).map f)) {n : Nat} (hn : n ≤ N) : w.ownsRow base e 1 (.slice (some ⟨g, 0, none⟩) n c) n ((List.range n).map f) := by
  refine ⟨by simp, ?_⟩
  rcases h.2 with ⟨h0, _⟩ | ⟨g', cap, cur, he, h1, h2, h3, h4, h5, h6⟩
  · cases h0
  · cases he
    refine .inr ⟨_, _, cur, rfl, h1, h2, by omega, h4, h5, ?_⟩
    have e1 : cur.toList.take (n * 1) = (cur.toList.take (N * 1)).take (n * 1) := by rw [List.take_take, Nat.min_eq_left (by omega)]
    rw [e1, h6, ← List.map_take, List.take_range, Nat.mul_one, Nat.min_eq_left hn]

/-- what stays through the law: hb the hasher, v the row of lent rows, from lo on still as they were lent -/
structure DT (w : World) (b0 hb : Nat) (g : Nat → BitVec 8) (v : Value) (j a : Nat) (G ln : Nat → Nat) (f : Nat → Nat → BitVec 8) (lo : Nat) (W : World) : Prop where
  hh : HH W hb g a (some ⟨hb, 0, none⟩)
  kc : Kc w.heap.size W
  bel : Below w.heap.size w W
  ap : w.heap.size ≤ hb ∧ hb < b0 ∧ b0 ≤ W.heap.size
  own : W.ownsRow b0 22 1 v j ((List.range j).map (srow G ln))
  row : ∀ i, lo ≤ i → i < j → W.ownsRow b0 5 1 (.slice (some ⟨G i, 0, none⟩) (ln i + 12) (ln i + 12)) (ln i + 12) ((List.range (ln i + 12)).map (LentBytes.ext (ln i) (fun q => ub (f i q))))
  inj : ∀ i, i < j → ∀ k, k < i → G k ≠ G i
section
variable {w W W' : World} {b0 hb j a a' lo : Nat} {g : Nat → BitVec 8} {v : Value} {G ln : Nat → Nat} {f : Nat → Nat → BitVec 8}
theorem DT.go (h : DT w b0 hb g v j a G ln f lo W) (b : Below W.heap.size W W') : DT w b0 hb g v j a G ln f lo W' :=
  ⟨h.hh.below' b, h.kc.below (b.mono h.bel.size), h.bel.trans (b.mono h.bel.size), ⟨h.ap.1, h.ap.2.1, Nat.le_trans h.ap.2.2 b.size⟩, owns_below h.own b, fun i h1 hi => owns_below (h.row i h1 hi) b, h.inj⟩
theorem DT.drew (h : DT w b0 hb g v j a G ln f lo W) : DT w b0 hb g v j a G ln f lo W.drew := h.go (Below.refl _ _).drew
theorem DT.alloc (h : DT w b0 hb g v j a G ln f lo W) (o : Obj) : DT w b0 hb g v j a G ln f lo (W.alloc o) := h.go ((Below.refl _ _).alloc (Nat.le_refl _) o)
theorem DT.wrote (h : DT w b0 hb g v j a G ln f lo W) (b : W.grownBy W' (some hb)) (hh : HH W' hb g a' (some ⟨hb, 0, none⟩)) : DT w b0 hb g v j a' G ln f lo W' :=
  ⟨hh, h.kc.below (gr_below b h.ap.1 h.bel.size), h.bel.grown b h.bel.size (by rintro k ⟨⟩; exact h.ap.1), ⟨h.ap.1, h.ap.2.1, Nat.le_trans h.ap.2.2 b.size⟩,
    owns_gr h.own b (fun q e hv => by cases e; have := (h.own.lt _ hv).1; have := h.ap; omega),
    fun i h1 hi => owns_gr (h.row i h1 hi) b (fun q e hv => by cases e; have := ((h.row i h1 hi).lt _ hv).1; have := h.ap; omega), h.inj⟩
/-- a lent row is written over -/
theorem DT.over (h : DT w b0 hb g v j a G ln f lo W) (hlo : lo < j) (b : W.grownBy W' (some (G lo))) : DT w b0 hb g v j a G ln f (lo + 1) W' := by
  have hob : (Value.slice (some ⟨G lo, 0, none⟩) (ln lo + 12) (ln lo + 12)).ownBlock = some (G lo) := rfl
  have hr := h.row lo (Nat.le_refl _) hlo
  have hge := (hr.lt _ hob).1
  have hap := h.ap
  refine ⟨h.hh.other b (by omega), h.kc.below (gr_below b (by omega) h.bel.size), h.bel.grown b h.bel.size (by rintro k ⟨⟩; omega), ⟨h.ap.1, h.ap.2.1, Nat.le_trans h.ap.2.2 b.size⟩,
    owns_gr h.own b (fun q e => by cases e; exact owns_apart h.own hr (by decide) _ hob), fun i h1 hi => owns_gr (h.row i (by omega) hi) b (fun q e hv => by cases e; exact h.inj i hi lo (by omega) (by simpa [Value.ownBlock] using hv.symm)), h.inj⟩
theorem DT.reads (h : DT w b0 hb g v j a G ln f lo W) (i : Nat) (h1 : lo ≤ i) (hi : i < j) : Reads W.heap.size W (some ⟨G i, 0, none⟩) (ln i + 12) (LentBytes.ext (ln i) (fun q => ub (f i q))) := by
  obtain ⟨p, c, he, hr, _⟩ := owns_reads (h.row i h1 hi)
  cases he
  exact hr
theorem DT.row' (h : DT w b0 hb g v j a G ln f lo W) (i : Nat) (h1 : lo ≤ i) (hi : i < j) : Reads W.heap.size W (some ⟨G i, 0, none⟩) (ln i) (fun q => .int .u8 (ub (f i q))) := by
  rcases h.reads i h1 hi with h0 | ⟨b, off, he, hb, hc⟩
  · omega
  · exact .inr ⟨b, off, he, hb, fun q hq => by rw [hc q (by omega), LentBytes.ext_lt hq]⟩
theorem DT.ri {p : Option Addr} {c : Nat} (h : DT w b0 hb g (.slice p j c) j a G ln f 0 W) (hl : ∀ i, i < j → ln i ≤ 700) : RI W p j (fun i => some ⟨G i, 0, none⟩) ln (fun i => ln i + 12) f :=
  ⟨owns_reads' h.own, fun i hi => ⟨by omega, by have := hl i hi; unfold maxLen; omega⟩, fun i hi => h.row' i (Nat.zero_le _) hi⟩
theorem DT.congr {G' : Nat → Nat} (h : DT w b0 hb g v j a G ln f lo W) (e : ∀ i, i < j → G i = G' i) : DT w b0 hb g v j a G' ln f lo W :=
  ⟨h.hh, h.kc, h.bel, h.ap, by rw [List.map_congr_left (g := srow G ln) fun i hi => by unfold srow; rw [e i (List.mem_range.1 hi)]]; exact h.own, fun i h1 hi => by rw [← e i hi]; exact h.row i h1 hi, fun i hi k hk => by rw [← e i hi, ← e k (by omega)]; exact h.inj i hi k hk⟩
/-- one more -/
theorem DT.append (H : DT w b0 hb g v j a G ln f 0 W) (x : Nat) (hx : G j = x) (hn : ∀ i, i < j → G i ≠ x) (ty : TypeId) (hr : W.ownsRow b0 5 1 (.slice (some ⟨x, 0, none⟩) (ln j + 12) (ln j + 12)) (ln j + 12) ((List.range (ln j + 12)).map (LentBytes.ext (ln j) (fun q => ub (f j q))))) (hj : j + 1 ≤ 4294967296) :
    ∃ v' w', (Builtin.append_ #[36, 36] ty #[v, .slice (some ⟨W.heap.size, 0, none⟩) 1 1]).run Tryz.prog (W.alloc (.cells #[.slice (some ⟨x, 0, none⟩) (ln j) (ln j + 12)] 22)) = .ok v' w' ∧ DT w b0 hb g v' (j + 1) a G ln f 0 w' := by
  obtain ⟨i0, hi, hz0, hz1, hz2⟩ := info_parts infoBs
  have hap := H.ap
  have Ha := H.alloc (.cells #[.slice (some ⟨x, 0, none⟩) (ln j) (ln j + 12)] 22)
  have hra := owns_below hr ((Below.refl _ _).alloc (Nat.le_refl _) (.cells #[.slice (some ⟨x, 0, none⟩) (ln j) (ln j + 12)] 22))
  obtain ⟨v', w', h1, h2, h3⟩ := append_reads (P := Tryz.prog) (W.alloc (.cells #[.slice (some ⟨x, 0, none⟩) (ln j) (ln j + 12)] 22)) b0 _ 36 ty 22 i0 (.slice none 0 0) 24 Tryz.underlying36 hi hz0 hz1 hz2 rfl _ _ _ Ha.own (some ⟨W.heap.size, 0, none⟩) 1 1 (fun _ => .slice (some ⟨x, 0, none⟩) (ln j) (ln j + 12))
    (reads_laid (laid_at rfl) (fun i hi => by rw [show i = 0 by omega]; rfl)) (fun _ _ => rfl) (by unfold maxLen; omega) (by omega) (by simp; omega)
  have hown : w'.ownsRow b0 22 1 v' (j + 1) ((List.range (j + 1)).map (srow G ln)) := by
    rw [List.range_succ, List.map_append, List.map_singleton, show srow G ln j = .slice (some ⟨x, 0, none⟩) (ln j) (ln j + 12) by unfold srow; rw [hx]]
    simpa using h2
  have hlt : ∀ q, v.ownBlock = some q → b0 ≤ q := fun q e => (Ha.own.lt q e).1
  obtain ⟨row, hrow⟩ : ∃ row, row = v.ownBlock := ⟨_, rfl⟩
  have h3' : (W.alloc (.cells #[.slice (some ⟨x, 0, none⟩) (ln j) (ln j + 12)] 22)).grownBy w' row := by rw [hrow]; exact h3
  refine ⟨v', w', h1, ?_, ?_, Ha.bel.grown h3 Ha.bel.size (fun q e => by have := hlt q e; omega), ⟨hap.1, hap.2.1, Nat.le_trans Ha.ap.2.2 h3.size⟩, hown, fun i _ hi => ?_, fun i hi k hk => ?_⟩
  · obtain ⟨op, hs, ho⟩ := Ha.hh
    exact ⟨op, hs.gr h3' (by rw [hrow]; intro e; have := hlt hb e.symm; omega), ho⟩
  · exact Ha.kc.below ((Below.refl _ _).grown h3 (Nat.le_trans H.bel.size (by simp)) (fun q e => by have := hlt q e; omega))
  · by_cases e : i = j
    · subst e
      rw [hx]
      exact owns_gr hra h3 fun q e => owns_apart hra Ha.own (by decide) q e
    · have hro := Ha.row i (Nat.zero_le _) (by omega)
      exact owns_gr hro h3 fun q e => owns_apart hro Ha.own (by decide) q e
  · by_cases e : i = j
    · subst e
      rw [hx]
      exact hn k hk
    · exact H.inj i (by omega) k hk
theorem DT.asks (h : DT w b0 hb g v j a G ln f lo W) (hn : a ≤ 2147483648) :
    Calls Tryz.prog 55 #[.pointer (some ⟨hb, 0, none⟩)] W fun e w' => e = .returned (tagV (sha g a)) ∧ Below W.heap.size W w' := tagOf_any w.heap.size W hb g a h.kc h.ap.1 h.hh hn
end
end Go.Proofs.YtejknkgbkkdaiaaGreatDoor
