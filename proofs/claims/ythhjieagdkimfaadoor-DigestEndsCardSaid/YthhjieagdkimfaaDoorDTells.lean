/-
  The walk of DigestTells: the tag of any rows, at once and by a hasher, row by row, is what the document tells; rows stay.
-/
import Derived.Test.YthhjieagdkimfaaDoorLent
import Derived.Test.YthhjieagdkimfaaDoorRefTag
namespace Go.Proofs.YthhjieagdkimfaaDoor
open Go.RowKit
set_option linter.unusedVariables false
set_option linter.unusedSimpArgs false

theorem sliceElemR : Tryd.prog.underlying 22 = some (.slice (Tryd.prog.elem 22)) := by kernel_rfl
theorem sliceSizeR : Tryd.prog.elem 22 = 27 := by kernel_rfl
theorem sizeR (w : World) : (sizeOf 27).run Tryd.prog w = .ok 1 w := by
  obtain ⟨i0, hi, _, hz1, _⟩ := info_parts infoBs
  simp [sizeOf, typeInfo, hi, hz1]
/-- rows[:q] -/
theorem rows_to (p : Option Addr) (n c q : Nat) (hq : q ≤ n) (hc : n ≤ c) :
    ∃ p1, (∀ W, (Instr.slice 22 (.slice p n c) none (some (.int .i64 (q : Int))) none).run Tryd.prog W = .ok (.slice p1 q c) W) ∧ ∀ B W f, Reads B W p n f → Reads B W p1 q f := by
  refine ⟨if c = 0 then p else p.map (·.add (0 * 1)), fun W => ?_, fun B W f hr => ?_⟩
  · rw [run_slice_h W 22 p n c sliceElemR .i64 q (by omega) (by omega), sliceSizeR, sizeR]
    simp [sliced]
  · have := piece_addr (q := 0) hc q (by omega) c (Nat.le_refl _) (by omega) hr
    simpa using this

/-- the first bytes of an owned row -/
theorem owns_first {w : World} {base : Nat} {e : TypeId} {g N c : Nat} {f : Nat → Value} (h : w.ownsRow base e 1 (.slice (some ⟨g, 0, none⟩) N c) N ((List.range N).map f)) {n : Nat} (hn : n ≤ N) : w.ownsRow base e 1 (.slice (some ⟨g, 0, none⟩) n c) n ((List.range n).map f) := by
  refine ⟨by simp, ?_⟩
  rcases h.2 with ⟨h0, _⟩ | ⟨g', cap, cur, he, h1, h2, h3, h4, h5, h6⟩
  · cases h0
  · cases he
    refine .inr ⟨_, _, cur, rfl, h1, h2, by omega, h4, h5, ?_⟩
    have e1 : cur.toList.take (n * 1) = (cur.toList.take (N * 1)).take (n * 1) := by rw [List.take_take, Nat.min_eq_left (by omega)]
    rw [e1, h6, ← List.map_take, List.take_range, Nat.mul_one, Nat.min_eq_left hn]

/-- what stays through the law: hb the hasher, v the row of lent rows, from lo on still as they were lent -/
structure DT (w : World) (b0 hb : Nat) (g : Nat → BitVec 8) (v : Value) (j a : Nat) (G ln : Nat → Nat) (f : Nat → Nat → BitVec 8) (lo : Nat) (W : World) : Prop where
  hh : HH W hb g a (some ⟨hb, 0, none⟩)
  kc : Kc w.heap.size W
  bel : Below w.heap.size w W
  ap : w.heap.size ≤ hb ∧ hb < b0 ∧ b0 ≤ W.heap.size
  own : W.ownsRow b0 27 1 v j ((List.range j).map (srow G ln))
  row : ∀ i, lo ≤ i → i < j → W.ownsRow b0 5 1 (.slice (some ⟨G i, 0, none⟩) (ln i + 12) (ln i + 12)) (ln i + 12) ((List.range (ln i + 12)).map (LentBytes.ext (ln i) (fun q => ub (f i q))))
  inj : ∀ i, i < j → ∀ k, k < i → G k ≠ G i
section
variable {w W W' : World} {b0 hb j a a' lo : Nat} {g : Nat → BitVec 8} {v : Value} {G ln : Nat → Nat} {f : Nat → Nat → BitVec 8}
theorem DT.go (h : DT w b0 hb g v j a G ln f lo W) (b : Below W.heap.size W W') : DT w b0 hb g v j a G ln f lo W' :=
  ⟨h.hh.below' b, h.kc.below (b.mono h.bel.size), h.bel.trans (b.mono h.bel.size), ⟨h.ap.1, h.ap.2.1, Nat.le_trans h.ap.2.2 b.size⟩, owns_below h.own b, fun i h1 hi => owns_below (h.row i h1 hi) b, h.inj⟩
theorem DT.drew (h : DT w b0 hb g v j a G ln f lo W) : DT w b0 hb g v j a G ln f lo W.drew := h.go (Below.refl _ _).drew
theorem DT.alloc (h : DT w b0 hb g v j a G ln f lo W) (o : Obj) : DT w b0 hb g v j a G ln f lo (W.alloc o) := h.go ((Below.refl _ _).alloc (Nat.le_refl _) o)
theorem DT.wrote (h : DT w b0 hb g v j a G ln f lo W) (b : W.grownBy W' (some hb)) (hh : HH W' hb g a' (some ⟨hb, 0, none⟩)) : DT w b0 hb g v j a' G ln f lo W' :=
  ⟨hh, h.kc.below (gr_below b h.ap.1 h.bel.size), h.bel.grown b h.bel.size (by rintro k ⟨⟩; exact h.ap.1), ⟨h.ap.1, h.ap.2.1, Nat.le_trans h.ap.2.2 b.size⟩,
    owns_gr h.own b (fun q e hv => by cases e; have := (h.own.lt _ hv).1; have := h.ap; omega),
    fun i h1 hi => owns_gr (h.row i h1 hi) b (fun q e hv => by cases e; have := ((h.row i h1 hi).lt _ hv).1; have := h.ap; omega), h.inj⟩
/-- a lent row is written over -/
theorem DT.over (h : DT w b0 hb g v j a G ln f lo W) (hlo : lo < j) (b : W.grownBy W' (some (G lo))) : DT w b0 hb g v j a G ln f (lo + 1) W' := by
  have hob : (Value.slice (some ⟨G lo, 0, none⟩) (ln lo + 12) (ln lo + 12)).ownBlock = some (G lo) := rfl
  have hr := h.row lo (Nat.le_refl _) hlo
  have hge := (hr.lt _ hob).1
  have hap := h.ap
  refine ⟨h.hh.other b (by omega), h.kc.below (gr_below b (by omega) h.bel.size), h.bel.grown b h.bel.size (by rintro k ⟨⟩; omega), ⟨h.ap.1, h.ap.2.1, Nat.le_trans h.ap.2.2 b.size⟩,
    owns_gr h.own b (fun q e => by cases e; exact owns_apart h.own hr (by decide) _ hob), fun i h1 hi => owns_gr (h.row i (by omega) hi) b (fun q e hv => by cases e; exact h.inj i hi lo (by omega) (by simpa [Value.ownBlock] using hv.symm)), h.inj⟩
theorem DT.reads (h : DT w b0 hb g v j a G ln f lo W) (i : Nat) (h1 : lo ≤ i) (hi : i < j) : Reads W.heap.size W (some ⟨G i, 0, none⟩) (ln i + 12) (LentBytes.ext (ln i) (fun q => ub (f i q))) := by
  obtain ⟨p, c, he, hr, _⟩ := owns_reads (h.row i h1 hi)
  cases he
  exact hr
theorem DT.row' (h : DT w b0 hb g v j a G ln f lo W) (i : Nat) (h1 : lo ≤ i) (hi : i < j) : Reads W.heap.size W (some ⟨G i, 0, none⟩) (ln i) (fun q => .int .u8 (ub (f i q))) := by
  rcases h.reads i h1 hi with h0 | ⟨b, off, he, hb, hc⟩
  · omega
  · exact .inr ⟨b, off, he, hb, fun q hq => by rw [hc q (by omega), LentBytes.ext_lt hq]⟩
theorem DT.ri {p : Option Addr} {c : Nat} (h : DT w b0 hb g (.slice p j c) j a G ln f 0 W) (hl : ∀ i, i < j → ln i ≤ 700) : RI W p j (fun i => some ⟨G i, 0, none⟩) ln (fun i => ln i + 12) f :=
  ⟨owns_reads' h.own, fun i hi => ⟨by omega, by have := hl i hi; unfold maxLen; omega⟩, fun i hi => h.row' i (Nat.zero_le _) hi⟩
theorem DT.congr {G' : Nat → Nat} (h : DT w b0 hb g v j a G ln f lo W) (e : ∀ i, i < j → G i = G' i) : DT w b0 hb g v j a G' ln f lo W :=
  ⟨h.hh, h.kc, h.bel, h.ap, by rw [List.map_congr_left (g := srow G ln) fun i hi => by unfold srow; rw [e i (List.mem_range.1 hi)]]; exact h.own, fun i h1 hi => by rw [← e i hi]; exact h.row i h1 hi, fun i hi k hk => by rw [← e i hi, ← e k (by omega)]; exact h.inj i hi k hk⟩
/-- one more -/
theorem DT.append (H : DT w b0 hb g v j a G ln f 0 W) (x : Nat) (hx : G j = x) (hn : ∀ i, i < j → G i ≠ x) (ty : TypeId) (hr : W.ownsRow b0 5 1 (.slice (some ⟨x, 0, none⟩) (ln j + 12) (ln j + 12)) (ln j + 12) ((List.range (ln j + 12)).map (LentBytes.ext (ln j) (fun q => ub (f j q))))) (hj : j + 1 ≤ 4294967296) :
    ∃ v' w', (Builtin.append_ #[22, 22] ty #[v, .slice (some ⟨W.heap.size, 0, none⟩) 1 1]).run Tryd.prog (W.alloc (.cells #[.slice (some ⟨x, 0, none⟩) (ln j) (ln j + 12)] 27)) = .ok v' w' ∧ DT w b0 hb g v' (j + 1) a G ln f 0 w' := by
  obtain ⟨i0, hi, hz0, hz1, hz2⟩ := info_parts infoBs
  have hap := H.ap
  have Ha := H.alloc (.cells #[.slice (some ⟨x, 0, none⟩) (ln j) (ln j + 12)] 27)
  have hra := owns_below hr ((Below.refl _ _).alloc (Nat.le_refl _) (.cells #[.slice (some ⟨x, 0, none⟩) (ln j) (ln j + 12)] 27))
  obtain ⟨v', w', h1, h2, h3⟩ := append_reads (P := Tryd.prog) (W.alloc (.cells #[.slice (some ⟨x, 0, none⟩) (ln j) (ln j + 12)] 27)) b0 _ 22 ty 27 i0 (.slice none 0 0) 24 Tryd.underlying22 hi hz0 hz1 hz2 rfl _ _ _ Ha.own (some ⟨W.heap.size, 0, none⟩) 1 1 (fun _ => .slice (some ⟨x, 0, none⟩) (ln j) (ln j + 12))
    (reads_laid (laid_at rfl) (fun i hi => by rw [show i = 0 by omega]; rfl)) (fun _ _ => rfl) (by unfold maxLen; omega) (by omega) (by simp; omega)
  have hown : w'.ownsRow b0 27 1 v' (j + 1) ((List.range (j + 1)).map (srow G ln)) := by
    rw [List.range_succ, List.map_append, List.map_singleton, show srow G ln j = .slice (some ⟨x, 0, none⟩) (ln j) (ln j + 12) by unfold srow; rw [hx]]
    simpa using h2
  have hlt : ∀ q, v.ownBlock = some q → b0 ≤ q := fun q e => (Ha.own.lt q e).1
  obtain ⟨row, hrow⟩ : ∃ row, row = v.ownBlock := ⟨_, rfl⟩
  have h3' : (W.alloc (.cells #[.slice (some ⟨x, 0, none⟩) (ln j) (ln j + 12)] 27)).grownBy w' row := by rw [hrow]; exact h3
  refine ⟨v', w', h1, ?_, ?_, Ha.bel.grown h3 Ha.bel.size (fun q e => by have := hlt q e; omega), ⟨hap.1, hap.2.1, Nat.le_trans Ha.ap.2.2 h3.size⟩, hown, fun i _ hi => ?_, fun i hi k hk => ?_⟩
  · obtain ⟨op, hs, ho⟩ := Ha.hh
    exact ⟨op, hs.gr h3' (by rw [hrow]; intro e; have := hlt hb e.symm; omega), ho⟩
  · exact Ha.kc.below ((Below.refl _ _).grown h3 (Nat.le_trans H.bel.size (by simp)) (fun q e => by have := hlt q e; omega))
  · by_cases e : i = j
    · subst e
      rw [hx]
      exact owns_gr hra h3 fun q e => owns_apart hra Ha.own (by decide) q e
    · have hro := Ha.row i (Nat.zero_le _) (by omega)
      exact owns_gr hro h3 fun q e => owns_apart hro Ha.own (by decide) q e
  · by_cases e : i = j
    · subst e
      rw [hx]
      exact hn k hk
    · exact H.inj i (by omega) k hk
theorem DT.write {H : Nat} {t : TypeId} (h : DT w b0 hb g v (j + 1) (pos ln j) G ln f 0 W) (hW : W.heap[H]? = some (.cells #[.slice (some ⟨G j, 0, none⟩) (ln j) (ln j + 12)] t (0, 0))) (hne : H ≠ hb) (hl : ln j ≤ 700) (hg : ∀ q, q < ln j → f j q = g (pos ln j + q)) (hn : pos ln j + ln j ≤ 1048576) :
    Calls Tryd.prog 12 #[.pointer (some ⟨hb, 0, none⟩), .slice (some ⟨H, 0, none⟩) 1 1] W fun e w' => e = .returned (.int .i64 0) ∧ DT w b0 hb g v (j + 1) (pos ln (j + 1)) G ln f 0 w' := by
  have hx := write1 w.heap.size W hb H (pos ln j) (ln j) (ln j + 12) _ t g h.kc h.ap.1 h.hh hW hne (by omega) (by unfold maxLen; omega) (by
    have hlt := ((h.row j (Nat.zero_le _) (by omega)).lt (G j) rfl).1
    have hap := h.ap
    rcases h.row' j (Nat.zero_le _) (by omega) with h0 | ⟨b, off, he, hb', hc⟩
    · exact .inl h0
    · cases he
      exact .inr ⟨_, _, rfl, by omega, hb', fun q hq => by rw [hc q hq]; exact congrArg (fun x => some (Value.int .u8 (ub x))) (hg q hq)⟩) hn
  exact hx.mono fun e w' h' => ⟨h'.1, h.wrote h'.2.1 h'.2.2⟩
theorem DT.asks (h : DT w b0 hb g v j a G ln f lo W) (hn : a ≤ 2147483648) :
    Calls Tryd.prog 13 #[.pointer (some ⟨hb, 0, none⟩)] W fun e w' => e = .returned (tagV (sha g a)) ∧ Below W.heap.size W w' := tagOf_any w.heap.size W hb g a h.kc h.ap.1 h.hh hn
theorem DT.len (h : DT w b0 hb g v j a G ln f lo W) : Calls Tryd.prog 16 #[.pointer (some ⟨hb, 0, none⟩)] W fun e w' => e = .returned (.int .i64 a) ∧ W = w' := lenH W hb a g h.hh
end
set_option maxHeartbeats 1000000 in
set_option maxRecDepth 100000 in
theorem digestTells_walk (p : Option Addr) (m c : Nat) (P : Nat → Option Addr) (ln C : Nat → Nat) (f : Nat → Nat → BitVec 8) (w : World) (hk : Kc w.heap.size w)
    (hri : RI w p m P ln C f) (hmc : m ≤ c) (hcm : c ≤ 5864062014634) (hpz : p = none → c = 0) (hC0 : ∀ i, i < m → P i = none → C i = 0) (hC : ∀ i, i < m → ln i ≤ 140737488351232) :
    Calls Tryd.prog 3 #[.slice p m c] w fun e w' => e = .returned (.bool true) ∧ Below w.heap.size w w' := by
  have HK := Lib.hid hk
  have HRI := Lib.hid hri
  have HCC := Lib.hid hC
  have HC0 := Lib.hid hC0
  clear hk hri hC hC0 hpz
  have hsize : Calls Tryd.prog 8 #[.slice p m c] w (fun e w' => SizeIs w w' m (m + pos ln m) e) :=
    size02_any w.heap.size w p m c P ln C (by omega) HCC.out HRI.out.rows
  have HSZ := Lib.hid hsize
  clear hsize
  by_cases hlen : 700 < m + pos ln m
  · go_enter Tryd.func3, Tryd.ntmps3
    go_wp2_with fail
    refine HSZ.out.mono ?_
    rintro e w1 ⟨x, rfl, hx, rfl, hxb⟩
    have hgt : 700 < (x : Int) := by omega
    go_wp2_with fail
    refine (awake2 w.heap.size w HK.out (Nat.le_refl _)).mono ?_
    rintro e w1 ⟨rfl, hb1⟩
    go_wp2
    go_ret
    exact ⟨rfl, hb1⟩
  · by_cases h12 : 12 < (m : Int)
    · go_enter Tryd.func3, Tryd.ntmps3
      go_wp2_with fail
      refine HSZ.out.mono ?_
      rintro e w1 ⟨x, rfl, hx, rfl, hxb⟩
      have hgt : ¬ 700 < (x : Int) := by omega
      go_wp2_with fail
      refine (awake2 w.heap.size w HK.out (Nat.le_refl _)).mono ?_
      rintro e w1 ⟨rfl, hb1⟩
      go_wp2
      go_ret
      exact ⟨rfl, hb1⟩
    · go_enter Tryd.func3, Tryd.ntmps3
      go_wp2_with fail
      refine HSZ.out.mono ?_
      rintro e w1 ⟨x, rfl, hx, rfl, hxb⟩
      have hgt : ¬ 700 < (x : Int) := by omega
      have hle : m + pos ln m ≤ 700 := by omega
      clear hx
      obtain ⟨g, hg⟩ := joined_ex ln f m
      have HG := Lib.hid hg
      clear hg
      go_wp2_with fail
      refine (new_any w).mono ?_
      rintro e W1 ⟨hb, rfl, hbW, hb1, hh1⟩
      have hh2 := hh1 g
      have hlt1 := hh2.lt
      have H0 : DT w W1.heap.size hb g (.slice none 0 0) 0 0 (fun _ => 0) ln f 0 W1 := ⟨hh2, HK.out.below hb1, hb1, ⟨hbW, hlt1, Nat.le_refl _⟩, World.ownsRow_nil _ _ _ _, fun i _ hi => by omega, fun i hi => by omega⟩
      have HV0 := Lib.hid H0
      clear H0 hh1 hh2 hb1
      have hl7 : ∀ i, i < m → ln i ≤ 700 := fun i hi => by have := pos_ge ln m i hi; omega
      have HL7 := Lib.hid hl7
      have hpm : ∀ i, i ≤ m → pos ln i ≤ 700 := fun i hi => by have := pos_mono ln hi; omega
      have HPM := Lib.hid hpm
      clear hl7 hpm
      have hjoin : ∀ W q (x : Option Addr) (y : Nat), q ≤ m → Below w.heap.size w W → Reads w.heap.size w x q (fun i => .slice (P i) (ln i) (C i)) → Calls Tryd.prog 15 #[.slice x q y] W fun e w' => ∃ v, e = .returned v ∧ Below W.heap.size W w' ∧ w'.ownsRow W.heap.size 5 1 v (pos ln q) (cellsOf g (pos ln q)) := fun W q x y hq hW hx =>
        join_any w.heap.size W x q y P ln C f g hW.size (by omega) (by have := HPM.out q hq; omega) (hx.below hW) (fun i hi => (HRI.out.row i (by omega)).below hW) (fun i hi => HG.out i (by omega))
      have HJ := Lib.hid hjoin
      have hrof : ∀ (W : World) (q : Option Addr) (n cq : Nat), n ≤ 700 → Reads W.heap.size W q n (fun i => .int .u8 (ub (g i))) → Calls Tryd.prog 14 #[.slice q n cq] W fun e w' => e = .returned (tagV (sha g n)) ∧ Below W.heap.size W w' := fun W q n cq hn hq =>
        refOf_any W.heap.size W q n cq g (Nat.le_refl _) (by omega) hq
      have HROF := Lib.hid hrof
      clear hjoin hrof HSZ
      go_wp2
      go_loopw [4, 5] (fun v i wr => ∃ j : Nat, j ≤ m ∧ i = .int .i64 j ∧ ∃ G, DT w W1.heap.size hb g v j (pos ln j) G ln f 0 wr) (fun _ i _ => m - (intOf i).toNat)
      case atStart => exact ⟨0, Nat.zero_le _, rfl, _, HV0.out⟩
      case round =>
        clear HV0
        obtain ⟨j, hj, rfl, G, hdt⟩ := hrel
        by_cases hlt : j < m
        · have HDT := Lib.hid hdt
          clear hdt
          have hp := HRI.out.rows.below HDT.out.bel
          rcases hp with h0 | ⟨pb, off, rfl, hpb, hpc⟩
          · omega
          have hcell := hpc j hlt
          clear hpc
          have hln := HL7.out j hlt
          go_wp2_with fail
          refine (LentBytes.lent2 w.heap.size (P j) (ln j) (C j) (fun q => ub (f j q)) wr (by omega) (fun e => by have := HC0.out j hlt e; have := (HRI.out.cap j hlt).1; omega) ((HRI.out.row j hlt).below HDT.out.bel) HDT.out.bel.size).mono ?_
          rintro e w2 ⟨x, rfl, hx, hb2, ho2⟩
          have hl2 : DT w W1.heap.size hb g _ j (pos ln j) (upd' G j x) ln f 0 w2 := (HDT.out.go hb2).congr fun i hi => (upd_lt' G j i x hi).symm
          have hxo : ∀ i, i < j → upd' G j x i ≠ x := fun i hi e => by
            rw [upd_lt' G j i x hi] at e
            have := ((HDT.out.row i (Nat.zero_le _) hi).lt (G i) rfl).2
            omega
          have hap := hl2.append x (upd_at' G j x) hxo 22 (owns_base ho2 HDT.out.ap.2.2) (by omega)
          have HAP := Lib.hid hap
          clear hl2 hap hb2 ho2 HDT hxo hcell
          go_wp2_with (at_builtin; (obtain ⟨v', w3, hrun, hl3⟩ := HAP.out; refine Lib.wpList_append_run _ rfl _ _ _ _ rfl _ _ rfl rfl v' w3 hrun ?_))
          have hl3' : DT w W1.heap.size hb g v' (j + 1) (pos ln j) (upd' G j x) ln f 0 w3 := hl3
          clear hrun HAP hl3
          obtain ⟨G', hG'⟩ : ∃ G', G' = upd' G j x := ⟨_, rfl⟩
          rw [← hG'] at hl3'
          clear hG' hx
          obtain ⟨pv, cv, rfl, hcv, hmv⟩ := owns_slice hl3'.own
          rcases owns_reads' hl3'.own with h0 | ⟨ob, oo, rfl, hob, hoc⟩
          · omega
          have H3 := Lib.hid hl3'
          clear hl3' hoc
          obtain ⟨j1, hj1⟩ : ∃ j1, j1 = j + 1 := ⟨_, rfl⟩
          obtain ⟨pr, hsl, hrr⟩ := rows_to (some ⟨pb, off, none⟩) m c j1 (by omega) hmc
          have RR1 := Lib.hid (hrr _ _ _ HRI.out.rows)
          clear hrr
          obtain ⟨N1, hN1⟩ : ∃ N1, N1 = pos ln (j + 1) := ⟨_, rfl⟩
          obtain ⟨T, hT⟩ : ∃ T, T = tagV (sha g N1) := ⟨_, rfl⟩
          have hneq : ∀ w, (binOp .neq 32 T T).run Tryd.prog w = .ok (.bool false) w := by rw [hT]; exact neq_tag _
          have hgd : ∀ op x y w, (eqGuard op 32 x y T T).run Tryd.prog w = .ok () w := by rw [hT]; exact guard_tag _ _
          have hN7 : N1 ≤ 700 := by rw [hN1]; exact HPM.out _ (by omega)
          have hs1 : IntKind.i64.wrap ((j : Int) + 1) = (j1 : Int) := by rw [IntWalk.i64_in _ (by omega)]; omega
          have HWR := Lib.hid (show ∀ (W : World) (H : Nat), W.heap[H]? = some (.cells #[.slice (some ⟨G' j, 0, none⟩) (ln j) (ln j + 12)] 27 (0, 0)) → W.heap.size ≤ H + 1 → DT w W1.heap.size hb g (.slice (some ⟨ob, oo, none⟩) (j + 1) cv) (j + 1) (pos ln j) G' ln f 0 W →
              Calls Tryd.prog 12 #[.pointer (some ⟨hb, 0, none⟩), .slice (some ⟨H, 0, none⟩) 1 1] W fun e w' => e = .returned (.int .i64 0) ∧ DT w W1.heap.size hb g (.slice (some ⟨ob, oo, none⟩) (j + 1) cv) (j + 1) N1 G' ln f 0 w' from fun W H hW hz hV => by
            rw [hN1]
            exact hV.write hW (by have h1 := hV.ap; have h2 := (hV.row j (Nat.zero_le _) (by omega)).lt (G' j) rfl; omega) hln (fun q hq => HG.out j hlt q hq) (by have := HPM.out j (by omega); omega))
          have HTG := Lib.hid (show ∀ (W : World), DT w W1.heap.size hb g (.slice (some ⟨ob, oo, none⟩) (j + 1) cv) (j + 1) N1 G' ln f 0 W →
              Calls Tryd.prog 13 #[.pointer (some ⟨hb, 0, none⟩)] W fun e w' => e = .returned T ∧ Below W.heap.size W w' from fun W hV => by rw [hT]; exact hV.asks (by omega))
          have HJ1 := Lib.hid (show ∀ (W : World), Below w.heap.size w W → Calls Tryd.prog 15 #[.slice pr j1 c] W fun e w' => ∃ v, e = .returned v ∧ Below W.heap.size W w' ∧ w'.ownsRow W.heap.size 5 1 v N1 (cellsOf g N1) from fun W hW => by
            rw [hN1, ← hj1]; exact HJ.out W j1 pr c (by omega) hW RR1.out)
          have HRO := Lib.hid (show ∀ (W : World) (q : Option Addr) (cq : Nat), Reads W.heap.size W q N1 (fun i => .int .u8 (ub (g i))) → Calls Tryd.prog 14 #[.slice q N1 cq] W fun e w' => e = .returned T ∧ Below W.heap.size W w' from fun W q cq hq => by
            rw [hT]; exact HROF.out W q N1 cq hN7 hq)
          have HD := Lib.hid (show ∀ (W : World) (a : Nat), DT w W1.heap.size hb g (.slice (some ⟨ob, oo, none⟩) (j + 1) cv) (j + 1) a G' ln f 0 W → W.cell? ⟨ob, oo + j, none⟩ = some (.slice (some ⟨G' j, 0, none⟩) (ln j) (ln j + 12)) from fun W a h => by
            rcases owns_reads' h.own with h0 | ⟨b', o', he, _, hc'⟩
            · omega
            · cases he
              exact hc' j (by omega))
          have HN1 := Lib.hid hN1
          clear hN1 hT RR1 hj1
          have hjj : (j : Int) < (j : Int) + 1 := by omega
          go_upto_region 9 with (fail)
          refine wp_region_noPanic ?_
          refine wp_region_start (n := 30) (l := #[false, false, false, false, false, false, false, false, false, false, false, false, false, false, false, false, false, false, false, false, false, false, false, false, false, false, false, false, false, false]) (S := (fun w' => w'.cell? ⟨ob, oo + j, none⟩ = some (.slice (some ⟨G' j, 0, none⟩) (ln j) (ln j + 12)))) (by kernel_rfl) rfl (by kernel_rfl) (by (refine HD.out _ (pos ln j) ?_; repeat (first | exact H3.out | apply DT.drew | apply DT.alloc | (refine DT.go ?_ (by assumption))))) (fun hHeld => ?_)
          refine take_to (i := 0) (d := some 31) (v := ?_) (l' := #[true, false, false, false, false, false, false, false, false, false, false, false, false, false, false, false, false, false, false, false, false, false, false, false, false, false, false, false, false, false]) rfl rfl (by kernel_rfl) (by kernel_rfl) (by kernel_rfl) (by kernel_rfl) (fun _ _ _ h => h) (Or.inl ⟨by rfl, ?_⟩) (by assumption) ?_; rotate_left; · (intro w' hSw; (try dsimp only at hSw); go_simp; (try with_reducible rfl))
          try simp only [Act.put, List.setIfInBounds_toArray, List.set_cons_zero, List.set_cons_succ]
          refine take_to (i := 1) (d := some 32) (v := ?_) (l' := #[true, true, false, false, false, false, false, false, false, false, false, false, false, false, false, false, false, false, false, false, false, false, false, false, false, false, false, false, false, false]) rfl rfl (by kernel_rfl) (by kernel_rfl) (by kernel_rfl) (by kernel_rfl) (fun _ _ _ h => h) (Or.inl ⟨by rfl, ?_⟩) (by assumption) ?_; rotate_left; · (intro w' hSw; (try dsimp only at hSw); go_simp; (try with_reducible rfl))
          try simp only [Act.put, List.setIfInBounds_toArray, List.set_cons_zero, List.set_cons_succ]
          refine take_to (i := 2) (d := some 33) (v := ?_) (l' := #[true, true, true, false, false, false, false, false, false, false, false, false, false, false, false, false, false, false, false, false, false, false, false, false, false, false, false, false, false, false]) rfl rfl (by kernel_rfl) (by kernel_rfl) (by kernel_rfl) (by kernel_rfl) (fun _ _ _ h => h) (Or.inl ⟨by rfl, ?_⟩) (by assumption) ?_; rotate_left; · (intro w' hSw; (try dsimp only at hSw); go_simp; (try with_reducible rfl))
          try simp only [Act.put, List.setIfInBounds_toArray, List.set_cons_zero, List.set_cons_succ]
          refine take_to (i := 3) (d := some 34) (v := ?_) (l' := #[true, true, true, true, false, false, false, false, false, false, false, false, false, false, false, false, false, false, false, false, false, false, false, false, false, false, false, false, false, false]) rfl rfl (by kernel_rfl) (by kernel_rfl) (by kernel_rfl) (by kernel_rfl) (fun _ _ _ h => h) (Or.inl ⟨by rfl, ?_⟩) (by assumption) ?_; rotate_left; · (intro w' hSw; (try dsimp only at hSw); go_simp; (try with_reducible rfl))
          try simp only [Act.put, List.setIfInBounds_toArray, List.set_cons_zero, List.set_cons_succ]
          refine take_to (i := 4) (d := some 35) (v := ?_) (l' := #[true, true, true, true, true, false, false, false, false, false, false, false, false, false, false, false, false, false, false, false, false, false, false, false, false, false, false, false, false, false]) rfl rfl (by kernel_rfl) (by kernel_rfl) (by kernel_rfl) (by kernel_rfl) (fun _ _ _ h => h) (Or.inl ⟨by rfl, ?_⟩) (by assumption) ?_; rotate_left; · (intro w' hSw; (try dsimp only at hSw); go_simp; (try with_reducible rfl))
          try simp only [Act.put, List.setIfInBounds_toArray, List.set_cons_zero, List.set_cons_succ]
          refine one_to (i := 5) (l' := #[true, true, true, true, true, true, false, false, false, false, false, false, false, false, false, false, false, false, false, false, false, false, false, false, false, false, false, false, false, false]) rfl (by kernel_rfl) (by kernel_rfl) (fun K hK => ?_)
          go_simp
          refine hK.out _ _ (by (refine HD.out _ (pos ln j) ?_; repeat (first | exact H3.out | apply DT.drew | apply DT.alloc | (refine DT.go ?_ (by assumption))))) (fun hHeld => ?_)
          clear hK K
          try simp only [Act.put, List.setIfInBounds_toArray, List.set_cons_zero, List.set_cons_succ]
          refine one_to (i := 6) (l' := #[true, true, true, true, true, true, true, false, false, false, false, false, false, false, false, false, false, false, false, false, false, false, false, false, false, false, false, false, false, false]) rfl (by kernel_rfl) (by kernel_rfl) (fun K hK => ?_)
          go_simp
          refine (HWR.out _ _ (by (try simp only [heap_drew]); repeat (first | (apply laid_at; simp; done) | apply laid_old | (refine laid_go ?_ (by assumption); try simp only [heap_drew]))) (by simp) (by repeat (first | exact H3.out | apply DT.drew | apply DT.alloc | (refine DT.go ?_ (by assumption))))).mono ?_
          rintro e w5 ⟨rfl, hv5⟩; have HV5 := Lib.hid hv5; clear hv5
          dsimp only
          refine hK.out _ _ (by (refine HD.out _ N1 ?_; repeat (first | exact HV5.out | apply DT.drew | apply DT.alloc | (refine DT.go ?_ (by assumption))))) (fun hHeld => ?_)
          clear hK K
          try simp only [Act.put, List.setIfInBounds_toArray, List.set_cons_zero, List.set_cons_succ]
          refine take_to (i := 7) (d := some 38) (v := ?_) (l' := #[true, true, true, true, true, true, true, true, false, false, false, false, false, false, false, false, false, false, false, false, false, false, false, false, false, false, false, false, false, false]) rfl rfl (by kernel_rfl) (by kernel_rfl) (by kernel_rfl) (by kernel_rfl) (fun _ _ _ h => h) (Or.inl ⟨by rfl, ?_⟩) (by assumption) ?_; rotate_left; · (intro w' hSw; (try dsimp only at hSw); go_simp; (try with_reducible rfl))
          try simp only [Act.put, List.setIfInBounds_toArray, List.set_cons_zero, List.set_cons_succ]
          refine take_to (i := 8) (d := some 39) (v := ?_) (l' := #[true, true, true, true, true, true, true, true, true, false, false, false, false, false, false, false, false, false, false, false, false, false, false, false, false, false, false, false, false, false]) rfl rfl (by kernel_rfl) (by kernel_rfl) (by kernel_rfl) (by kernel_rfl) (fun _ _ _ h => h) (Or.inl ⟨by rfl, ?_⟩) (by assumption) ?_; rotate_left; · (intro w' hSw; (try dsimp only at hSw); go_simp; (try with_reducible rfl))
          try simp only [Act.put, List.setIfInBounds_toArray, List.set_cons_zero, List.set_cons_succ]
          refine take_to (i := 9) (d := some 40) (v := ?_) (l' := #[true, true, true, true, true, true, true, true, true, true, false, false, false, false, false, false, false, false, false, false, false, false, false, false, false, false, false, false, false, false]) rfl rfl (by kernel_rfl) (by kernel_rfl) (by kernel_rfl) (by kernel_rfl) (fun _ _ _ h => h) (Or.inl ⟨by rfl, ?_⟩) (by assumption) ?_; rotate_left; · (intro w' hSw; (try dsimp only at hSw); go_simp; (try with_reducible rfl))
          try simp only [Act.put, List.setIfInBounds_toArray, List.set_cons_zero, List.set_cons_succ]
          refine take_to (i := 11) (d := some 42) (v := ?_) (l' := #[true, true, true, true, true, true, true, true, true, true, false, true, false, false, false, false, false, false, false, false, false, false, false, false, false, false, false, false, false, false]) rfl rfl (by kernel_rfl) (by kernel_rfl) (by kernel_rfl) (by kernel_rfl) (fun _ _ _ h => h) (Or.inl ⟨by rfl, ?_⟩) (by assumption) ?_; rotate_left; · (intro w' hSw; (try dsimp only at hSw); go_simp; (try with_reducible rfl))
          try simp only [Act.put, List.setIfInBounds_toArray, List.set_cons_zero, List.set_cons_succ]
          refine take_to (i := 12) (d := some 43) (v := ?_) (l' := #[true, true, true, true, true, true, true, true, true, true, false, true, true, false, false, false, false, false, false, false, false, false, false, false, false, false, false, false, false, false]) rfl rfl (by kernel_rfl) (by kernel_rfl) (by kernel_rfl) (by kernel_rfl) (fun _ _ _ h => h) (Or.inl ⟨by rfl, ?_⟩) (by assumption) ?_; rotate_left; · (intro w' hSw; (try dsimp only at hSw); go_simp; (try with_reducible rfl))
          try simp only [Act.put, List.setIfInBounds_toArray, List.set_cons_zero, List.set_cons_succ]
          refine take_to (i := 13) (d := some 44) (v := ?_) (l' := #[true, true, true, true, true, true, true, true, true, true, false, true, true, true, false, false, false, false, false, false, false, false, false, false, false, false, false, false, false, false]) rfl rfl (by kernel_rfl) (by kernel_rfl) (by kernel_rfl) (by kernel_rfl) (fun _ _ _ h => h) (Or.inl ⟨by rfl, ?_⟩) (by assumption) ?_; rotate_left; · (intro w' hSw; (try dsimp only at hSw); go_simp; (try with_reducible rfl))
          try simp only [Act.put, List.setIfInBounds_toArray, List.set_cons_zero, List.set_cons_succ]
          refine take_to (i := 14) (d := some 45) (v := ?_) (l' := #[true, true, true, true, true, true, true, true, true, true, false, true, true, true, true, false, false, false, false, false, false, false, false, false, false, false, false, false, false, false]) rfl rfl (by kernel_rfl) (by kernel_rfl) (by kernel_rfl) (by kernel_rfl) (fun _ _ _ h => h) (Or.inl ⟨by rfl, ?_⟩) (by assumption) ?_; rotate_left; · (intro w' hSw; (try dsimp only at hSw); go_simp; (try with_reducible rfl))
          try simp only [Act.put, List.setIfInBounds_toArray, List.set_cons_zero, List.set_cons_succ]
          refine one_to (i := 10) (l' := #[true, true, true, true, true, true, true, true, true, true, true, true, true, true, true, false, false, false, false, false, false, false, false, false, false, false, false, false, false, false]) rfl (by kernel_rfl) (by kernel_rfl) (fun K hK => ?_)
          go_simp
          refine (HTG.out _ (by repeat (first | exact HV5.out | apply DT.drew | apply DT.alloc | (refine DT.go ?_ (by assumption))))).mono ?_
          rintro e w6 ⟨rfl, hb6⟩
          dsimp only
          refine hK.out _ _ (by (refine HD.out _ N1 ?_; repeat (first | exact HV5.out | apply DT.drew | apply DT.alloc | (refine DT.go ?_ (by assumption))))) (fun hHeld => ?_)
          clear hK K
          try simp only [Act.put, List.setIfInBounds_toArray, List.set_cons_zero, List.set_cons_succ]
          refine one_to (i := 15) (l' := #[true, true, true, true, true, true, true, true, true, true, true, true, true, true, true, true, false, false, false, false, false, false, false, false, false, false, false, false, false, false]) rfl (by kernel_rfl) (by kernel_rfl) (fun K hK => ?_)
          go_simp
          refine (HJ1.out _ (show DT w W1.heap.size hb g (.slice (some ⟨ob, oo, none⟩) (j + 1) cv) (j + 1) N1 G' ln f 0 _ from (by repeat (first | exact HV5.out | apply DT.drew | apply DT.alloc | (refine DT.go ?_ (by assumption))))).bel).mono ?_
          rintro e w7 ⟨v7, rfl, hb7, ho7⟩; obtain ⟨p7, c7, rfl, hrd7, _, _⟩ := owns_reads ho7
          dsimp only
          refine hK.out _ _ (by (refine HD.out _ N1 ?_; repeat (first | exact HV5.out | apply DT.drew | apply DT.alloc | (refine DT.go ?_ (by assumption))))) (fun hHeld => ?_)
          clear hK K
          try simp only [Act.put, List.setIfInBounds_toArray, List.set_cons_zero, List.set_cons_succ]
          refine one_to (i := 16) (l' := #[true, true, true, true, true, true, true, true, true, true, true, true, true, true, true, true, true, false, false, false, false, false, false, false, false, false, false, false, false, false]) rfl (by kernel_rfl) (by kernel_rfl) (fun K hK => ?_)
          go_simp
          refine (HRO.out _ p7 c7 (by repeat (first | exact hrd7 | (refine Reads.goes ?_ (by assumption)) | (refine Reads.goes ?_ (Below.refl _ _).drew)))).mono ?_
          rintro e w8 ⟨rfl, hb8⟩
          dsimp only
          refine hK.out _ _ (by (refine HD.out _ N1 ?_; repeat (first | exact HV5.out | apply DT.drew | apply DT.alloc | (refine DT.go ?_ (by assumption))))) (fun hHeld => ?_)
          clear hK K
          try simp only [Act.put, List.setIfInBounds_toArray, List.set_cons_zero, List.set_cons_succ]
          refine take_to (i := 17) (d := some 48) (v := ?_) (l' := #[true, true, true, true, true, true, true, true, true, true, true, true, true, true, true, true, true, true, false, false, false, false, false, false, false, false, false, false, false, false]) rfl rfl (by kernel_rfl) (by kernel_rfl) (by kernel_rfl) (by kernel_rfl) (fun _ _ _ h => h) (Or.inl ⟨by rfl, ?_⟩) (by assumption) ?_; rotate_left; · (intro w' hSw; (try dsimp only at hSw); go_simp; (try with_reducible rfl))
          try simp only [Act.put, List.setIfInBounds_toArray, List.set_cons_zero, List.set_cons_succ]
          refine take_to (i := 18) (d := some 49) (v := ?_) (l' := #[true, true, true, true, true, true, true, true, true, true, true, true, true, true, true, true, true, true, true, false, false, false, false, false, false, false, false, false, false, false]) rfl rfl (by kernel_rfl) (by kernel_rfl) (by kernel_rfl) (by kernel_rfl) (fun _ _ _ h => h) (Or.inl ⟨by rfl, ?_⟩) (by assumption) ?_; rotate_left; · (intro w' hSw; (try dsimp only at hSw); go_simp; (try with_reducible rfl))
          try simp only [Act.put, List.setIfInBounds_toArray, List.set_cons_zero, List.set_cons_succ]
          refine take_to (i := 19) (d := some 50) (v := ?_) (l' := #[true, true, true, true, true, true, true, true, true, true, true, true, true, true, true, true, true, true, true, true, false, false, false, false, false, false, false, false, false, false]) rfl rfl (by kernel_rfl) (by kernel_rfl) (by kernel_rfl) (by kernel_rfl) (fun _ _ _ h => h) (Or.inl ⟨by rfl, ?_⟩) (by assumption) ?_; rotate_left; · (intro w' hSw; (try dsimp only at hSw); go_simp; (try with_reducible rfl))
          try simp only [Act.put, List.setIfInBounds_toArray, List.set_cons_zero, List.set_cons_succ]
          refine take_to (i := 20) (d := some 51) (v := ?_) (l' := #[true, true, true, true, true, true, true, true, true, true, true, true, true, true, true, true, true, true, true, true, true, false, false, false, false, false, false, false, false, false]) rfl rfl (by kernel_rfl) (by kernel_rfl) (by kernel_rfl) (by kernel_rfl) (fun _ _ _ h => h) (Or.inl ⟨by rfl, ?_⟩) (by assumption) ?_; rotate_left; · (intro w' hSw; (try dsimp only at hSw); go_simp; (try with_reducible rfl))
          try simp only [Act.put, List.setIfInBounds_toArray, List.set_cons_zero, List.set_cons_succ]
          refine take_to (i := 22) (d := some 53) (v := ?_) (l' := #[true, true, true, true, true, true, true, true, true, true, true, true, true, true, true, true, true, true, true, true, true, false, true, false, false, false, false, false, false, false]) rfl rfl (by kernel_rfl) (by kernel_rfl) (by kernel_rfl) (by kernel_rfl) (fun _ _ _ h => h) (Or.inl ⟨by rfl, ?_⟩) (by assumption) ?_; rotate_left; · (intro w' hSw; (try dsimp only at hSw); go_simp; (try with_reducible rfl))
          try simp only [Act.put, List.setIfInBounds_toArray, List.set_cons_zero, List.set_cons_succ]
          refine take_to (i := 23) (d := some 54) (v := ?_) (l' := #[true, true, true, true, true, true, true, true, true, true, true, true, true, true, true, true, true, true, true, true, true, false, true, true, false, false, false, false, false, false]) rfl rfl (by kernel_rfl) (by kernel_rfl) (by kernel_rfl) (by kernel_rfl) (fun _ _ _ h => h) (Or.inl ⟨by rfl, ?_⟩) (by assumption) ?_; rotate_left; · (intro w' hSw; (try dsimp only at hSw); go_simp; (try with_reducible rfl))
          try simp only [Act.put, List.setIfInBounds_toArray, List.set_cons_zero, List.set_cons_succ]
          refine take_to (i := 24) (d := some 55) (v := ?_) (l' := #[true, true, true, true, true, true, true, true, true, true, true, true, true, true, true, true, true, true, true, true, true, false, true, true, true, false, false, false, false, false]) rfl rfl (by kernel_rfl) (by kernel_rfl) (by kernel_rfl) (by kernel_rfl) (fun _ _ _ h => h) (Or.inl ⟨by rfl, ?_⟩) (by assumption) ?_; rotate_left; · (intro w' hSw; (try dsimp only at hSw); go_simp; (try with_reducible rfl))
          try simp only [Act.put, List.setIfInBounds_toArray, List.set_cons_zero, List.set_cons_succ]
          refine take_to (i := 25) (d := some 56) (v := ?_) (l' := #[true, true, true, true, true, true, true, true, true, true, true, true, true, true, true, true, true, true, true, true, true, false, true, true, true, true, false, false, false, false]) rfl rfl (by kernel_rfl) (by kernel_rfl) (by kernel_rfl) (by kernel_rfl) (fun _ _ _ h => h) (Or.inl ⟨by rfl, ?_⟩) (by assumption) ?_; rotate_left; · (intro w' hSw; (try dsimp only at hSw); go_simp; (try with_reducible rfl))
          try simp only [Act.put, List.setIfInBounds_toArray, List.set_cons_zero, List.set_cons_succ]
          refine one_to (i := 21) (l' := #[true, true, true, true, true, true, true, true, true, true, true, true, true, true, true, true, true, true, true, true, true, true, true, true, true, true, false, false, false, false]) rfl (by kernel_rfl) (by kernel_rfl) (fun K hK => ?_)
          go_simp
          refine ((show DT w W1.heap.size hb g (.slice (some ⟨ob, oo, none⟩) (j + 1) cv) (j + 1) N1 G' ln f 0 _ from (by repeat (first | exact HV5.out | apply DT.drew | apply DT.alloc | (refine DT.go ?_ (by assumption))))).len).mono ?_
          rintro e w' ⟨rfl, rfl⟩
          dsimp only
          refine hK.out _ _ (by (refine HD.out _ N1 ?_; repeat (first | exact HV5.out | apply DT.drew | apply DT.alloc | (refine DT.go ?_ (by assumption))))) (fun hHeld => ?_)
          clear hK K
          try simp only [Act.put, List.setIfInBounds_toArray, List.set_cons_zero, List.set_cons_succ]
          refine one_to (i := 26) (l' := #[true, true, true, true, true, true, true, true, true, true, true, true, true, true, true, true, true, true, true, true, true, true, true, true, true, true, true, false, false, false]) rfl (by kernel_rfl) (by kernel_rfl) (fun K hK => ?_)
          go_simp
          refine (HJ1.out _ (show DT w W1.heap.size hb g (.slice (some ⟨ob, oo, none⟩) (j + 1) cv) (j + 1) N1 G' ln f 0 _ from (by repeat (first | exact HV5.out | apply DT.drew | apply DT.alloc | (refine DT.go ?_ (by assumption))))).bel).mono ?_
          rintro e w9 ⟨v9, rfl, hb9, ho9⟩; obtain ⟨p9, c9, rfl, hrd9, _, _⟩ := owns_reads ho9
          dsimp only
          refine hK.out _ _ (by (refine HD.out _ N1 ?_; repeat (first | exact HV5.out | apply DT.drew | apply DT.alloc | (refine DT.go ?_ (by assumption))))) (fun hHeld => ?_)
          clear hK K
          try simp only [Act.put, List.setIfInBounds_toArray, List.set_cons_zero, List.set_cons_succ]
          refine take_to (i := 27) (d := some 58) (v := ?_) (l' := #[true, true, true, true, true, true, true, true, true, true, true, true, true, true, true, true, true, true, true, true, true, true, true, true, true, true, true, true, false, false]) rfl rfl (by kernel_rfl) (by kernel_rfl) (by kernel_rfl) (by kernel_rfl) (fun _ _ _ h => h) (Or.inl ⟨by rfl, ?_⟩) (by assumption) ?_; rotate_left; · (intro w' hSw; (try dsimp only at hSw); go_simp; (try with_reducible rfl))
          try simp only [Act.put, List.setIfInBounds_toArray, List.set_cons_zero, List.set_cons_succ]
          refine take_to (i := 28) (d := some 59) (v := ?_) (l' := #[true, true, true, true, true, true, true, true, true, true, true, true, true, true, true, true, true, true, true, true, true, true, true, true, true, true, true, true, true, false]) rfl rfl (by kernel_rfl) (by kernel_rfl) (by kernel_rfl) (by kernel_rfl) (fun _ _ _ h => h) (Or.inl ⟨by rfl, ?_⟩) (by assumption) ?_; rotate_left; · (intro w' hSw; (try dsimp only at hSw); go_simp; (try with_reducible rfl))
          try simp only [Act.put, List.setIfInBounds_toArray, List.set_cons_zero, List.set_cons_succ]
          refine take_to (i := 29) (d := some 60) (v := ?_) (l' := #[true, true, true, true, true, true, true, true, true, true, true, true, true, true, true, true, true, true, true, true, true, true, true, true, true, true, true, true, true, true]) rfl rfl (by kernel_rfl) (by kernel_rfl) (by kernel_rfl) (by kernel_rfl) (fun _ _ _ h => h) (Or.inl ⟨by rfl, ?_⟩) (by assumption) ?_; rotate_left; · (intro w' hSw; (try dsimp only at hSw); go_simp; (try with_reducible rfl))
          try simp only [Act.put, List.setIfInBounds_toArray, List.set_cons_zero, List.set_cons_succ]
          refine wpAnyH_done (by kernel_rfl) ?_ _
          refine NoPanic.normal ?_
          clear hHeld hneq hgd HWR HTG HJ1 HRO HD hsl hs1 hjj
          go_wp2
          go_roundw
          case rel => exact ⟨j + 1, by omega, by go_num, G', by (rw [← HN1.out]; repeat (first | exact HV5.out | apply DT.drew | apply DT.alloc | (refine DT.go ?_ (by assumption))))⟩
          case measure => simp [intOf]; omega
        · obtain rfl : j = m := by omega
          obtain ⟨pv, cv, rfl, hcv, hmv⟩ := owns_slice hdt.own
          have HDT := Lib.hid hdt
          clear hdt
          obtain ⟨T, hT⟩ : ∃ T, T = tagV (sha g (pos ln j)) := ⟨_, rfl⟩
          have hneq : ∀ w, (binOp .neq 32 T T).run Tryd.prog w = .ok (.bool false) w := by rw [hT]; exact neq_tag _
          have heql : ∀ w, (binOp .eql 32 T T).run Tryd.prog w = .ok (.bool true) w := by rw [hT]; exact eql_tag _
          have hgd : ∀ op x y w, (eqGuard op 32 x y T T).run Tryd.prog w = .ok () w := by rw [hT]; exact guard_tag _ _
          have hof : Calls Tryd.prog 17 #[.slice pv j cv] wr fun e w' => e = .returned T ∧ Below wr.heap.size wr w' := by
            rw [hT]; exact of_any w.heap.size wr g pv j cv (fun i => some ⟨G i, 0, none⟩) ln (fun i => ln i + 12) f HDT.out.kc HDT.out.bel.size (HDT.out.ri HL7.out) (by omega) (by omega) HG.out
          have HOF := Lib.hid hof
          have HRO := Lib.hid (show ∀ (W : World) (q : Option Addr) (cq : Nat), Reads W.heap.size W q (pos ln j) (fun i => .int .u8 (ub (g i))) → Calls Tryd.prog 14 #[.slice q (pos ln j) cq] W fun e w' => e = .returned T ∧ Below W.heap.size W w' from fun W q cq hq => by
            rw [hT]; exact HROF.out W q _ cq (by omega) hq)
          have HTG := Lib.hid (show ∀ (W : World) (lo : Nat), DT w W1.heap.size hb g (.slice pv j cv) j (pos ln j) G ln f lo W →
              Calls Tryd.prog 13 #[.pointer (some ⟨hb, 0, none⟩)] W fun e w' => e = .returned T ∧ Below W.heap.size W w' from fun W lo hV => by rw [hT]; exact hV.asks (by omega))
          clear hT hof HROF
          go_wp2_with fail
          refine HOF.out.mono ?_
          rintro e w2 ⟨rfl, hb2⟩
          have H2 := Lib.hid (HDT.out.go hb2)
          clear hb2 HOF HDT
          go_wp2_with fail
          refine (HJ.out w2 j p c (Nat.le_refl _) H2.out.bel HRI.out.rows).mono ?_
          rintro e w3 ⟨v3, rfl, hb3, ho3⟩
          obtain ⟨p3, c3, rfl, hrd3, _, _⟩ := owns_reads ho3
          have H3 := Lib.hid (H2.out.go hb3)
          have HR3 := Lib.hid hrd3
          clear hb3 ho3 hrd3 H2
          go_wp2_with fail
          refine (HRO.out w3 p3 c3 HR3.out).mono ?_
          rintro e w4 ⟨rfl, hb4⟩
          have H4 := Lib.hid (H3.out.go hb4)
          clear hb4 H3 HR3
          go_wp2
          go_loopw [6] (fun i wr => ∃ q : Nat, q ≤ j ∧ i = .int .i64 q ∧ DT w W1.heap.size hb g (.slice pv j cv) j (pos ln j) G ln f q wr) (fun i _ => j - (intOf i).toNat)
          case atStart => exact ⟨0, Nat.zero_le _, rfl, H4.out⟩
          case round =>
            clear H4
            obtain ⟨q, hq, rfl, hdt⟩ := hrel
            by_cases hlt : q < j
            · have hKP : ∀ W, DT w W1.heap.size hb g (.slice pv j cv) j (pos ln j) G ln f q W → Calls Tryd.prog 18 #[.slice (some ⟨G q, 0, none⟩) (ln q) (ln q + 12), .slice (P q) (ln q) (C q)] W fun e w' => e = .returned (.bool true) ∧ Below W.heap.size W w' := fun W h =>
                LentBytes.kept W.heap.size (some ⟨G q, 0, none⟩) (P q) (ln q) (ln q + 12) (C q) (fun x => ub (f q x)) W (by have := HL7.out q hlt; omega) (Nat.le_refl _) (((HRI.out.row q hlt).below h.bel).mono h.bel.size) (h.reads q (Nat.le_refl _) hlt)
              have hOV : ∀ W, DT w W1.heap.size hb g (.slice pv j cv) j (pos ln j) G ln f q W → Calls Tryd.prog 19 #[.slice (some ⟨G q, 0, none⟩) (ln q) (ln q + 12)] W fun e w' => e = .returned (.tuple #[]) ∧ DT w W1.heap.size hb g (.slice pv j cv) j (pos ln j) G ln f (q + 1) w' := fun W h =>
                (LentBytes.over W1.heap.size _ (ln q) _ W (owns_first (h.row q (Nat.le_refl _) hlt) (n := ln q) (by omega)) (by have := HL7.out q hlt; omega)).mono fun e w' h' => ⟨h'.1, h.over hlt h'.2⟩
              rcases owns_reads' hdt.own with h0 | ⟨ob, oo, rfl, hob, hoc⟩
              · omega
              rcases HRI.out.rows.below hdt.bel with h0 | ⟨ib, io, rfl, hib, hic⟩
              · omega
              have HD := Lib.hid (show ∀ W, DT w W1.heap.size hb g (.slice (some ⟨ob, oo, none⟩) j cv) j (pos ln j) G ln f q W → DT w W1.heap.size hb g (.slice (some ⟨ob, oo, none⟩) j cv) j (pos ln j) G ln f q W ∧ W.cell? ⟨ob, oo + q, none⟩ = some (.slice (some ⟨G q, 0, none⟩) (ln q) (ln q + 12)) ∧ W.cell? ⟨ib, io + q, none⟩ = some (.slice (P q) (ln q) (C q)) from fun W h => by
                refine ⟨h, ?_, ?_⟩
                · rcases owns_reads' h.own with h0 | ⟨b', o', he, _, hc'⟩
                  · omega
                  · cases he
                    exact hc' q hlt
                · rcases HRI.out.rows.below h.bel with h0 | ⟨b', o', he, _, hc'⟩
                  · omega
                  · cases he
                    exact hc' q hlt)
              have HKP := Lib.hid hKP
              have HOV := Lib.hid hOV
              have HMT := Lib.hid hdt
              clear hKP hOV hdt hoc hic
              go_upto_region 16 with (fail)
              refine wp_region_noPanic ?_
              refine wp_region_start (n := 10) (l := #[false, false, false, false, false, false, false, false, false, false]) (S := (fun w' => DT w W1.heap.size hb g (.slice (some ⟨ob, oo, none⟩) j cv) j (pos ln j) G ln f q w' ∧ w'.cell? ⟨ob, oo + q, none⟩ = some (.slice (some ⟨G q, 0, none⟩) (ln q) (ln q + 12)) ∧ w'.cell? ⟨ib, io + q, none⟩ = some (.slice (P q) (ln q) (C q)))) (by kernel_rfl) rfl (by kernel_rfl) (by (refine HD.out _ ?_; repeat (first | exact HMT.out | apply DT.drew | (refine DT.go ?_ (by assumption))))) (fun hHeld => ?_)
              refine take_to (i := 0) (d := some 73) (v := ?_) (l' := #[true, false, false, false, false, false, false, false, false, false]) rfl rfl (by kernel_rfl) (by kernel_rfl) (by kernel_rfl) (by kernel_rfl) (fun _ _ _ h => h) (Or.inl ⟨by rfl, ?_⟩) (by assumption) ?_; rotate_left; · (intro w' hSw; (try dsimp only at hSw); go_simp; (try with_reducible rfl))
              try simp only [Act.put, List.setIfInBounds_toArray, List.set_cons_zero, List.set_cons_succ]
              refine take_to (i := 1) (d := some 74) (v := ?_) (l' := #[true, true, false, false, false, false, false, false, false, false]) rfl rfl (by kernel_rfl) (by kernel_rfl) (by kernel_rfl) (by kernel_rfl) (fun _ _ _ h => h) (Or.inl ⟨by rfl, ?_⟩) (by assumption) ?_; rotate_left; · (intro w' hSw; (try dsimp only at hSw); go_simp; (try with_reducible rfl))
              try simp only [Act.put, List.setIfInBounds_toArray, List.set_cons_zero, List.set_cons_succ]
              refine take_to (i := 2) (d := some 75) (v := ?_) (l' := #[true, true, true, false, false, false, false, false, false, false]) rfl rfl (by kernel_rfl) (by kernel_rfl) (by kernel_rfl) (by kernel_rfl) (fun _ _ _ h => h) (Or.inl ⟨by rfl, ?_⟩) (by assumption) ?_; rotate_left; · (intro w' hSw; (try dsimp only at hSw); go_simp; (try with_reducible rfl))
              try simp only [Act.put, List.setIfInBounds_toArray, List.set_cons_zero, List.set_cons_succ]
              refine take_to (i := 3) (d := some 76) (v := ?_) (l' := #[true, true, true, true, false, false, false, false, false, false]) rfl rfl (by kernel_rfl) (by kernel_rfl) (by kernel_rfl) (by kernel_rfl) (fun _ _ _ h => h) (Or.inl ⟨by rfl, ?_⟩) (by assumption) ?_; rotate_left; · (intro w' hSw; (try dsimp only at hSw); go_simp; (try with_reducible rfl))
              try simp only [Act.put, List.setIfInBounds_toArray, List.set_cons_zero, List.set_cons_succ]
              refine take_to (i := 4) (d := some 77) (v := ?_) (l' := #[true, true, true, true, true, false, false, false, false, false]) rfl rfl (by kernel_rfl) (by kernel_rfl) (by kernel_rfl) (by kernel_rfl) (fun _ _ _ h => h) (Or.inl ⟨by rfl, ?_⟩) (by assumption) ?_; rotate_left; · (intro w' hSw; (try dsimp only at hSw); go_simp; (try with_reducible rfl))
              try simp only [Act.put, List.setIfInBounds_toArray, List.set_cons_zero, List.set_cons_succ]
              refine take_to (i := 5) (d := some 78) (v := ?_) (l' := #[true, true, true, true, true, true, false, false, false, false]) rfl rfl (by kernel_rfl) (by kernel_rfl) (by kernel_rfl) (by kernel_rfl) (fun _ _ _ h => h) (Or.inl ⟨by rfl, ?_⟩) (by assumption) ?_; rotate_left; · (intro w' hSw; (try dsimp only at hSw); go_simp; (try with_reducible rfl))
              try simp only [Act.put, List.setIfInBounds_toArray, List.set_cons_zero, List.set_cons_succ]
              refine take_to (i := 6) (d := some 79) (v := ?_) (l' := #[true, true, true, true, true, true, true, false, false, false]) rfl rfl (by kernel_rfl) (by kernel_rfl) (by kernel_rfl) (by kernel_rfl) (fun _ _ _ h => h) (Or.inl ⟨by rfl, ?_⟩) (by assumption) ?_; rotate_left; · (intro w' hSw; (try dsimp only at hSw); go_simp; (try with_reducible rfl))
              try simp only [Act.put, List.setIfInBounds_toArray, List.set_cons_zero, List.set_cons_succ]
              refine take_to (i := 7) (d := some 80) (v := ?_) (l' := #[true, true, true, true, true, true, true, true, false, false]) rfl rfl (by kernel_rfl) (by kernel_rfl) (by kernel_rfl) (by kernel_rfl) (fun _ _ _ h => h) (Or.inl ⟨by rfl, ?_⟩) (by assumption) ?_; rotate_left; · (intro w' hSw; (try dsimp only at hSw); go_simp; (try with_reducible rfl))
              try simp only [Act.put, List.setIfInBounds_toArray, List.set_cons_zero, List.set_cons_succ]
              refine one_to (i := 8) (l' := #[true, true, true, true, true, true, true, true, true, false]) rfl (by kernel_rfl) (by kernel_rfl) (fun K hK => ?_)
              go_simp
              refine (HKP.out _ hHeld.1).mono ?_
              rintro e w15 ⟨rfl, hb15⟩
              dsimp only
              refine hK.out _ _ (by (refine HD.out _ ?_; repeat (first | exact HMT.out | apply DT.drew | (refine DT.go ?_ (by assumption))))) (fun hHeld => ?_)
              clear hK K
              try simp only [Act.put, List.setIfInBounds_toArray, List.set_cons_zero, List.set_cons_succ]
              refine take_to (i := 9) (d := some 82) (v := ?_) (l' := #[true, true, true, true, true, true, true, true, true, true]) rfl rfl (by kernel_rfl) (by kernel_rfl) (by kernel_rfl) (by kernel_rfl) (fun _ _ _ h => h) (Or.inl ⟨by rfl, ?_⟩) (by assumption) ?_; rotate_left; · (intro w' hSw; (try dsimp only at hSw); go_simp; (try with_reducible rfl))
              try simp only [Act.put, List.setIfInBounds_toArray, List.set_cons_zero, List.set_cons_succ]
              refine wpAnyH_done (by kernel_rfl) ?_ _
              refine NoPanic.normal ?_
              obtain ⟨hx1, hx2, hx3⟩ := hHeld
              have HX2 := Lib.hid hx1
              clear hx1 hx3 HKP HMT HD
              go_wp2_with fail
              refine (HOV.out _ HX2.out).mono ?_
              rintro e w16 ⟨rfl, hv16⟩
              have HX3 := Lib.hid hv16
              clear hv16 hx2 HX2 HOV
              go_wp2
              go_roundw
              case rel => exact ⟨q + 1, by omega, by go_num, HX3.out⟩
              case measure => simp [intOf]; omega
            · obtain rfl : q = j := by omega
              have H5 := Lib.hid hdt
              clear hdt
              go_wp2_with fail
              refine (HTG.out wr _ H5.out).mono ?_
              rintro e w6 ⟨rfl, hb6⟩
              have H6 := Lib.hid (H5.out.go hb6)
              clear hb6 H5
              go_wp2_with fail
              refine (HJ.out w6 q p c (Nat.le_refl _) H6.out.bel HRI.out.rows).mono ?_
              rintro e w7 ⟨v7, rfl, hb7, ho7⟩
              obtain ⟨p7, c7, rfl, hrd7, _, _⟩ := owns_reads ho7
              have H7 := Lib.hid (H6.out.go hb7)
              have HR7 := Lib.hid hrd7
              clear hb7 ho7 hrd7 H6
              go_wp2_with fail
              refine (HRO.out w7 p7 c7 HR7.out).mono ?_
              rintro e w8 ⟨rfl, hb8⟩
              have H8 := Lib.hid (H7.out.go hb8)
              clear hb8 H7 HR7
              go_wp2_with fail
              refine (awake2 w.heap.size w8 H8.out.kc H8.out.bel.size).mono ?_
              rintro e w9 ⟨rfl, hb9⟩
              have HFIN := Lib.hid (H8.out.go hb9).bel
              clear hb9 H8
              go_wp2
              go_ret
              exact ⟨rfl, HFIN.out⟩
end Go.Proofs.YthhjieagdkimfaaDoor
