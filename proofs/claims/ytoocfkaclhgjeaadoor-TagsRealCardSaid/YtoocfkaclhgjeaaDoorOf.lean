/-
  Contracts: the tag of rows; what awake asks.
-/
import Derived.Test.YtoocfkaclhgjeaaDoorTag
namespace Go.Proofs.YtoocfkaclhgjeaaDoor
open Go.RowKit
set_option linter.unusedSimpArgs false
set_option linter.unusedVariables false

/-- m rows that lie in the world -/
structure RI (w : World) (p : Option Addr) (m : Nat) (P : Nat → Option Addr) (ln C : Nat → Nat) (f : Nat → Nat → BitVec 8) : Prop where
  rows : Reads w.heap.size w p m (fun i => .slice (P i) (ln i) (C i))
  cap : ∀ i, i < m → ln i ≤ C i ∧ C i ≤ maxLen
  row : ∀ i, i < m → Reads w.heap.size w (P i) (ln i) (fun j => .int .u8 (ub (f i j)))
theorem RI.rr {w w' : World} {p : Option Addr} {m hb : Nat} {P : Nat → Option Addr} {ln C : Nat → Nat} {f : Nat → Nat → BitVec 8} (h : RI w p m P ln C f) (g : Below w.heap.size w w') (hB : w.heap.size ≤ hb) (hs : hb < w'.heap.size) : RR hb w' p m P ln C f :=
  ⟨(h.rows.below g).rx hB hs, h.cap, fun i hi => ((h.row i hi).below g).rx hB hs⟩

set_option maxHeartbeats 1000000 in
set_option maxRecDepth 100000 in
theorem of_any (B : Nat) (w : World) (g : Nat → BitVec 8) (p : Option Addr) (m c : Nat) (P : Nat → Option Addr) (ln C : Nat → Nat) (f : Nat → Nat → BitVec 8)
    (hk : Kc B w) (hB : B ≤ w.heap.size) (hr : RI w p m P ln C f) (hm : m ≤ 4294967296) (hn : pos ln m ≤ 2147483648) (hg : ∀ i, i < m → ∀ j, j < ln i → f i j = g (pos ln i + j)) :
    Calls Tryd.prog 29 #[.slice p m c] w fun e w' => e = .returned (tagV (sha g (pos ln m))) ∧ Below w.heap.size w w' := by
  have HK := Lib.hid hk
  have HR := Lib.hid hr
  have HN := Lib.hid hn
  have HGG := Lib.hid hg
  clear hk hr hn hg
  go_enter Tryd.func29, Tryd.ntmps29
  go_upto_region 1 with (fail)
  refine forget_code (fun W => Below w.heap.size w W ∧ W.there w.heap.size 0 32 ∧ w.heap.size < W.heap.size)
    ⟨(Below.refl _ _).alloc (Nat.le_refl _) _, there_block (laid_at rfl) (by simp), by simp⟩ ?_
  rintro W ⟨hbel, ht, hsz⟩
  have HB := Lib.hid hbel
  have HT := Lib.hid ht
  clear hbel ht
  go_wp2_with fail
  refine (new_any W).mono ?_
  rintro e W1 ⟨hb, rfl, hbW, hb1, hh1⟩
  have HH1 := Lib.hid (hh1 g)
  have HB1 := Lib.hid (HB.out.trans (hb1.mono (by omega)))
  have HT1 := Lib.hid (there_below HT.out hb1 hsz)
  have hlt1 : hb < W1.heap.size := by obtain ⟨op, hs, _⟩ := hh1 g; exact hs.lt
  have hs1 : w.heap.size < W1.heap.size := by omega
  clear hb1 hh1
  go_wp2_with fail
  refine (fill_any B W1 hb g 0 _ p m c P ln C f (HK.out.below (HB1.out.mono hB)) (by omega) HH1.out (HR.out.rr HB1.out (by omega) hlt1) hm (by have := HN.out; omega) (fun i hi j hj => by rw [Nat.zero_add]; exact HGG.out i hi j hj)).mono ?_
  rintro e W2 ⟨rfl, hg2, hh2⟩
  rw [Nat.zero_add] at hh2
  have HH2 := Lib.hid hh2
  have HB2 := Lib.hid (HB1.out.grown hg2 HB1.out.size (by rintro k ⟨⟩; omega))
  have HT2 := Lib.hid (there_gr HT1.out hg2 hs1 (by simp; omega))
  have hs2 : w.heap.size < W2.heap.size := by have := hg2.size; omega
  clear hh2 hg2
  go_upto_region 3 with (fail)
  refine wp_region_lit ?_
  refine wpList_plain rfl (fun K hK => ?_)
  go_simp
  refine hK _ _ ?_
  clear hK K
  refine wpList_plain rfl (fun K hK => ?_)
  go_simp
  refine (tagOf_any B W2 hb g (pos ln m) (HK.out.below (HB2.out.mono hB)) (by omega) HH2.out HN.out).mono ?_
  rintro e W4 ⟨rfl, hb4⟩
  dsimp only
  refine hK _ _ ?_
  clear hK K
  have hT4 := there_below HT2.out hb4 hs2
  have hB4 := HB2.out.trans (hb4.mono (by omega))
  obtain ⟨s, hsd⟩ : ∃ s, s = sha g (pos ln m) := ⟨_, rfl⟩
  rw [← hsd]
  refine wpList_store_mid rfl 33 _ _ rfl w.heap.size 0 (tagC s).toArray rfl rfl (by simpa [tagC_len] using hT4) (by simp [infoTag, tagC_len]) (tagC_one _) ?_
  rw [List.toList_toArray]
  have HR5 := Lib.hid (World.rangeAt_setCells_same W4 w.heap.size 0 (tagC s) (by rw [tagC_len]; exact hT4))
  have HB5 := Lib.hid (hB4.grown (gr_setCells (hb := w.heap.size) (tagC s) 0 W4) hB4.size (by rintro k ⟨⟩; omega))
  generalize W4.setCells w.heap.size 0 (tagC s) = W7 at HR5 HB5 ⊢
  have HSD := Lib.hid hsd
  clear hT4 hB4 hb4 hsd
  show Exit.then _ _ Exit.normal _ _
  go_wp2
  refine bodyPost_ret (v := tagV s) ?_ rfl ⟨by rw [HSD.out], HB5.out⟩
  exact results_cell_mid (p := 2) (ty := 33) rfl _ W7 w.heap.size _ _ rfl HR5.out Tryd.underlying33 rfl (by simp [infoTag, tagC_len])

theorem rx_laid {hb : Nat} {W : World} {H : Nat} {cs : Array Value} {t : TypeId} {fr : Nat × Nat} {n : Nat} {f : Nat → Value} (hW : W.heap[H]? = some (.cells cs t fr)) (hne : H ≠ hb) (h : ∀ i, i < n → cs[i]? = some (f i)) : RX hb W (some ⟨H, 0, none⟩) n f :=
  .inr ⟨H, 0, rfl, hne, (Array.getElem?_eq_some_iff.1 hW).1, fun i hi => by rw [Nat.zero_add, cell_of_row W H i cs t fr hW]; exact h i hi⟩
theorem reads_at {W : World} {H : Nat} {cs : Array Value} {t : TypeId} {fr : Nat × Nat} {n : Nat} {f : Nat → Value} (hW : W.heap[H]? = some (.cells cs t fr)) (h : ∀ i, i < n → cs[i]? = some (f i)) : Reads W.heap.size W (some ⟨H, 0, none⟩) n f :=
  .inr ⟨H, 0, rfl, (Array.getElem?_eq_some_iff.1 hW).1, fun i hi => by rw [Nat.zero_add, cell_of_row W H i cs t fr hW]; exact h i hi⟩
/-- one row -/
abbrev one1 {α : Type} (x : α) : Nat → α := fun _ => x
theorem pos_one (n : Nat) : pos (one1 n) 1 = n := by simp [pos]
theorem pos_two (n n2 : Nat) : pos (fst3 n n2 n2) 2 = n + n2 := by simp [pos, fst3]
theorem RR.one {hb : Nat} {W : World} {H n c : Nat} {p : Option Addr} {t : TypeId} {f : Nat → BitVec 8} (hW : W.heap[H]? = some (.cells #[.slice p n c] t (0, 0))) (hne : H ≠ hb) (hc : n ≤ c) (hm : c ≤ maxLen)
    (hr : RX hb W p n (fun j => .int .u8 (ub (f j)))) : RR hb W (some ⟨H, 0, none⟩) 1 (one1 p) (one1 n) (one1 c) (one1 f) :=
  ⟨rx_laid hW hne (fun i hi => by rw [show i = 0 by omega]; rfl), fun _ _ => ⟨hc, hm⟩, fun _ _ => hr⟩
theorem RI.one {W : World} {H n c : Nat} {p : Option Addr} {t : TypeId} {f : Nat → BitVec 8} (hW : W.heap[H]? = some (.cells #[.slice p n c] t (0, 0))) (hc : n ≤ c) (hm : c ≤ maxLen)
    (hr : Reads W.heap.size W p n (fun j => .int .u8 (ub (f j)))) : RI W (some ⟨H, 0, none⟩) 1 (one1 p) (one1 n) (one1 c) (one1 f) :=
  ⟨reads_at hW (fun i hi => by rw [show i = 0 by omega]; rfl), fun _ _ => ⟨hc, hm⟩, fun _ _ => hr⟩
theorem two_cap {n c n2 c2 : Nat} (hc : n ≤ c) (hm : c ≤ maxLen) (hc2 : n2 ≤ c2) (hm2 : c2 ≤ maxLen) (i : Nat) (hi : i < 2) : fst3 n n2 n2 i ≤ fst3 c c2 c2 i ∧ fst3 c c2 c2 i ≤ maxLen := by
  match i, hi with
  | 0, _ => exact ⟨hc, hm⟩
  | 1, _ => exact ⟨hc2, hm2⟩
theorem RR.two {hb : Nat} {W : World} {H n c n2 c2 : Nat} {p p2 : Option Addr} {t : TypeId} {f f2 : Nat → BitVec 8} (hW : W.heap[H]? = some (.cells #[.slice p n c, .slice p2 n2 c2] t (0, 0))) (hne : H ≠ hb) (hc : n ≤ c) (hm : c ≤ maxLen) (hc2 : n2 ≤ c2) (hm2 : c2 ≤ maxLen)
    (hr : RX hb W p n (fun j => .int .u8 (ub (f j)))) (hr2 : RX hb W p2 n2 (fun j => .int .u8 (ub (f2 j)))) : RR hb W (some ⟨H, 0, none⟩) 2 (fst3 p p2 p2) (fst3 n n2 n2) (fst3 c c2 c2) (fst3 f f2 f2) :=
  ⟨rx_laid hW hne (fun i hi => by
    match i, hi with
    | 0, _ => rfl
    | 1, _ => rfl), two_cap hc hm hc2 hm2, fun i hi => by
    match i, hi with
    | 0, _ => exact hr
    | 1, _ => exact hr2⟩
theorem RI.two {W : World} {H n c n2 c2 : Nat} {p p2 : Option Addr} {t : TypeId} {f f2 : Nat → BitVec 8} (hW : W.heap[H]? = some (.cells #[.slice p n c, .slice p2 n2 c2] t (0, 0))) (hc : n ≤ c) (hm : c ≤ maxLen) (hc2 : n2 ≤ c2) (hm2 : c2 ≤ maxLen)
    (hr : Reads W.heap.size W p n (fun j => .int .u8 (ub (f j)))) (hr2 : Reads W.heap.size W p2 n2 (fun j => .int .u8 (ub (f2 j)))) : RI W (some ⟨H, 0, none⟩) 2 (fst3 p p2 p2) (fst3 n n2 n2) (fst3 c c2 c2) (fst3 f f2 f2) :=
  ⟨reads_at hW (fun i hi => by
    match i, hi with
    | 0, _ => rfl
    | 1, _ => rfl), two_cap hc hm hc2 hm2, fun i hi => by
    match i, hi with
    | 0, _ => exact hr
    | 1, _ => exact hr2⟩
theorem of1 (B : Nat) (W : World) (H n c : Nat) (p : Option Addr) (t : TypeId) (g : Nat → BitVec 8) (hk : Kc B W) (hB : B ≤ W.heap.size) (hW : W.heap[H]? = some (.cells #[.slice p n c] t (0, 0))) (hc : n ≤ c) (hm : c ≤ maxLen)
    (hr : Reads W.heap.size W p n (fun j => .int .u8 (ub (g j)))) (hn : n ≤ 2147483648) :
    Calls Tryd.prog 29 #[.slice (some ⟨H, 0, none⟩) 1 1] W fun e w' => e = .returned (tagV (sha g n)) ∧ Below W.heap.size W w' := by
  have hx := of_any B W g _ 1 1 _ _ _ _ hk hB (RI.one (f := g) hW hc hm hr) (by omega) (by rw [pos_one]; exact hn) (fun i hi j hj => by rw [show i = 0 by omega]; simp [pos])
  rw [pos_one] at hx
  exact hx
theorem of2 (B : Nat) (W : World) (H n c n2 c2 : Nat) (p p2 : Option Addr) (t : TypeId) (g : Nat → BitVec 8) (hk : Kc B W) (hB : B ≤ W.heap.size) (hW : W.heap[H]? = some (.cells #[.slice p n c, .slice p2 n2 c2] t (0, 0)))
    (hc : n ≤ c) (hm : c ≤ maxLen) (hc2 : n2 ≤ c2) (hm2 : c2 ≤ maxLen) (hr : Reads W.heap.size W p n (fun j => .int .u8 (ub (g j)))) (hr2 : Reads W.heap.size W p2 n2 (fun j => .int .u8 (ub (g (n + j))))) (hn : n + n2 ≤ 2147483648) :
    Calls Tryd.prog 29 #[.slice (some ⟨H, 0, none⟩) 2 2] W fun e w' => e = .returned (tagV (sha g (n + n2))) ∧ Below W.heap.size W w' := by
  have hx := of_any B W g _ 2 2 _ _ _ _ hk hB (RI.two (f := g) (f2 := fun j => g (n + j)) hW hc hm hc2 hm2 hr hr2) (by omega) (by rw [pos_two]; exact hn) (fun i hi j hj => by
    match i, hi with
    | 0, _ => simp [fst3, pos]
    | 1, _ => simp [fst3, pos])
  rw [pos_two] at hx
  exact hx
theorem HH.alloc {W : World} {hb n : Nat} {g : Nat → BitVec 8} {own : Option Addr} (h : HH W hb g n own) (o : Obj) : HH (W.alloc o) hb g n own := let ⟨op, hs, ho⟩ := h; ⟨op, hs.alloc o, ho⟩
theorem HH.drew {W : World} {hb n : Nat} {g : Nat → BitVec 8} {own : Option Addr} (h : HH W hb g n own) : HH W.drew hb g n own := let ⟨op, hs, ho⟩ := h; ⟨op, hs.drew, ho⟩
theorem HH.below' {W W' : World} {hb n : Nat} {g : Nat → BitVec 8} {own : Option Addr} (h : HH W hb g n own) (b : Below W.heap.size W W') : HH W' hb g n own := let ⟨op, hs, ho⟩ := h; ⟨op, hs.below' b, ho⟩
theorem HH.lt {W : World} {hb n : Nat} {g : Nat → BitVec 8} {own : Option Addr} (h : HH W hb g n own) : hb < W.heap.size := let ⟨_, hs, _⟩ := h; hs.lt
theorem HH.other {W W' : World} {hb hb2 n : Nat} {g : Nat → BitVec 8} {own : Option Addr} (h : HH W hb g n own) (b : W.grownBy W' (some hb2)) (hne : hb ≠ hb2) : HH W' hb g n own := let ⟨op, hs, ho⟩ := h; ⟨op, hs.gr b (by simpa using hne), ho⟩
theorem HH.other' {W W' : World} {hb n : Nat} {g g' : Nat → BitVec 8} {own : Option Addr} (h : HH W hb g n own) (e : ∀ i, i < n → g i = g' i) : HH W hb g' n own := by
  obtain ⟨op, hs, ho⟩ := h
  refine ⟨op, ?_, fun j hj => by rw [ho j hj]; exact e _ (by omega)⟩
  rw [← mid_congr (n / 64) (fun i hi => e i (by omega))]; exact hs
end Go.Proofs.YtoocfkaclhgjeaaDoor
