/-
  Merged: Bj, Bk, Bl, Bm, Bn.
-/
import Derived.Test.YtcdnakbdajbfoaaGreatDoorG4

namespace Go.Proofs.YtcdnakbdajbfoaaGreatDoor
open Go.RowKit Go.Sort
set_option linter.unusedSimpArgs false
set_option linter.unusedVariables false

end Go.Proofs.YtcdnakbdajbfoaaGreatDoor

namespace Go.Proofs.YtcdnakbdajbfoaaGreatDoor
open Go.RowKit Go.Sort
set_option linter.unusedSimpArgs false
set_option linter.unusedVariables false

theorem three_at (w : World) (o1 o2 o3 : Obj) : (((w.alloc o1).alloc o2).alloc o3).heap[w.heap.size]? = some o1 ∧ (((w.alloc o1).alloc o2).alloc o3).heap[w.heap.size + 1]? = some o2 ∧ (((w.alloc o1).alloc o2).alloc o3).heap[w.heap.size + 2]? = some o3 ∧
    Below w.heap.size w (((w.alloc o1).alloc o2).alloc o3) ∧ (((w.alloc o1).alloc o2).alloc o3).heap.size = w.heap.size + 3 :=
  ⟨sl_go (two_at w o1 o2).1 (below_new _), sl_go (two_at w o1 o2).2.1 (below_new _), sl_at (by simp), (two_at w o1 o2).2.2.1.alloc (by simp; omega) _, by simp⟩

structure PT (w W : World) (P : Nat → Int) (k d : Int) : Prop where
  p : PB W w.heap.size P
  x : W.heap[w.heap.size + 1]? = some (.cells #[.int .i64 k, .int .i64 d] 26 (0, 0))
  z : PB W (w.heap.size + 2) (fun _ => 0)
  b : Below w.heap.size w W
  s : w.heap.size + 3 ≤ W.heap.size
theorem PT.go {w W W' : World} {P : Nat → Int} {k d : Int} (h : PT w W P k d) (g : Below W.heap.size W W') : PT w W' P k d :=
  ⟨h.p.go g, sl_go h.x g, h.z.go g, h.b.trans (g.mono h.b.size), Nat.le_trans h.s g.size⟩
theorem PT.set {w W : World} {P : Nat → Int} {k d : Int} (h : PT w W P k d) (i : Nat) (v : Int) (hi : i < 133) : PT w (W.setCell ⟨w.heap.size, i, none⟩ (.int .i64 v)) (setN P i v) k d :=
  ⟨h.p.set i v hi, (Go.heap_setCell_other _ _ _ _ (by simp)).trans h.x, h.z.other (by omega) _ _, h.b.setCell (p := ⟨w.heap.size, i, none⟩) (Nat.le_refl _) _, by rw [World.size_setCell]; exact h.s⟩
theorem PT.begin (w : World) (P : Nat → Int) (k d : Int) (X : Array Value) (hX : X = (pc P).toArray) :
    PT w (((w.alloc (.cells X 30)).alloc (.cells #[.int .i64 k, .int .i64 d] 26)).alloc (.cells Tryz.zeroCells30 30)) P k d := by
  obtain ⟨a1, a2, a3, a4, a5⟩ := three_at w (.cells X 30) (.cells #[.int .i64 k, .int .i64 d] 26) (.cells Tryz.zeroCells30 30)
  rw [zeroPos] at *
  exact ⟨PB.of_block (by rw [hX] at a1 ⊢; exact a1), a2, PB.of_block a3, a4, by rw [a5]; exact Nat.le_refl _⟩

theorem results_mid2 {P : Program} {fn : Func} {p u : Tmp} {ty : TypeId} (h : fn.results = #[.cell p ty, .tmp u]) (tmps : Array Value) (w : World) (g : Nat) (cs : List Value) (d : TypeDesc) (v : Value)
    (hp : tmps.getD p undef = .pointer (some ⟨g, 0, none⟩)) (hv : tmps.getD u undef = v) (hc : w.rangeAt g 0 cs) (hu : P.underlying ty = some d) (hd : d.isRow = true) (hi : (P.info? ty).map (·.size) = some cs.length) :
    (results fn tmps).run P w = .ok (.tuple #[.agg cs.toArray, v]) w := by
  rw [results_cell_tmp h, hp, hv]
  simp [asAddr, run_loadVar_mid w g 0 ty cs d hc hu hd hi]
theorem PT.stored {w W : World} {P Q : Nat → Int} {k d : Int} (h : PT w W P k d) : (W.setCells (w.heap.size + 2) 0 (pc Q)).rangeAt (w.heap.size + 2) 0 (pc Q) ∧ Below w.heap.size w (W.setCells (w.heap.size + 2) 0 (pc Q)) :=
  ⟨(h.z.store (Q := Q)).range, below_store (b := w.heap.size + 2) Q h.b (by omega) h.b.size⟩

end Go.Proofs.YtcdnakbdajbfoaaGreatDoor

namespace Go.Proofs.YtcdnakbdajbfoaaGreatDoor
open Go.RowKit Go.Sort
set_option linter.unusedSimpArgs false
set_option linter.unusedVariables false

end Go.Proofs.YtcdnakbdajbfoaaGreatDoor

namespace Go.Proofs.YtcdnakbdajbfoaaGreatDoor
open Go.RowKit Go.Sort
set_option linter.unusedSimpArgs false
set_option linter.unusedVariables false

def badP (P : Nat → Int) (s : Nat) : Bool := !(pe (P (2 * s)) (P (2 * s + 1)) 0 0) && (!(mayB (P (2 * s)) (P (2 * s + 1))) || (P (2 * s) == 1 && (decide (s < 8) || decide (56 ≤ s))))
def okS (P : Nat → Int) : Nat → Bool
  | 0 => true
  | n + 1 => okS P n && !(badP P n)
def cnt (P : Nat → Int) (d : Int) : Nat → Nat
  | 0 => 0
  | n + 1 => cnt P d n + if pe (P (2 * n)) (P (2 * n + 1)) 6 d then 1 else 0
theorem cnt_le (P : Nat → Int) (d : Int) (n : Nat) : cnt P d n ≤ n := by
  induction n with
  | zero => exact Nat.le_refl _
  | succ n ih => simp only [cnt]; split <;> omega
theorem okS_iff (P : Nat → Int) (n : Nat) : okS P n = true ↔ ∀ s, s < n → badP P s = false := by
  induction n with
  | zero => simp [okS]
  | succ n ih =>
    simp only [okS, Bool.and_eq_true, ih, Bool.not_eq_true']
    constructor
    · rintro ⟨h1, h2⟩ i hi
      rcases Nat.lt_succ_iff_lt_or_eq.1 hi with h | rfl
      · exact h1 i h
      · exact h2
    · intro h; exact ⟨fun i hi => h i (by omega), h n (by omega)⟩
theorem okS_false (P : Nat → Int) {n m : Nat} (h : m < n) (hs : badP P m = true) : okS P n = false := by
  cases e : okS P n
  · rfl
  · rw [(okS_iff P n).1 e m h] at hs; cases hs
def piecesB (P : Nat → Int) : Bool := okS P 64 && (cnt P 0 64 == 1) && (cnt P 1 64 == 1) && sideB (P 128)
def homeB (P : Nat → Int) (d : Int) (k r : Nat) : Bool := pe (P (2 * k)) (P (2 * k + 1)) 6 d && pe (P (2 * r)) (P (2 * r + 1)) 4 d
structure PK (w W : World) (P : Nat → Int) (j : Nat) : Prop where
  p : PB W w.heap.size P
  x : W.heap[w.heap.size + 1]? = some (.cells #[.int .i64 (cnt P 0 j : Nat), .int .i64 (cnt P 1 j : Nat)] 127 (0, 0))
  b : Below w.heap.size w W
  s : w.heap.size + 2 ≤ W.heap.size
theorem PK.go {w W W' : World} {P : Nat → Int} {j : Nat} (h : PK w W P j) (g : Below W.heap.size W W') : PK w W' P j :=
  ⟨h.p.go g, sl_go h.x g, h.b.trans (g.mono h.b.size), Nat.le_trans h.s g.size⟩
theorem PK.alloc {w W : World} {P : Nat → Int} {j : Nat} (h : PK w W P j) (o : Obj) : PK w (W.alloc o) P j := h.go (below_new _)
theorem PK.same {w W : World} {P : Nat → Int} {j : Nat} (h : PK w W P j) (h0 : cnt P 0 (j + 1) = cnt P 0 j) (h1 : cnt P 1 (j + 1) = cnt P 1 j) : PK w W P (j + 1) :=
  ⟨h.p, by rw [h0, h1]; exact h.x, h.b, h.s⟩
theorem PK.up0 {w W : World} {P : Nat → Int} {j : Nat} (h : PK w W P j) (h0 : cnt P 0 (j + 1) = cnt P 0 j + 1) (h1 : cnt P 1 (j + 1) = cnt P 1 j) : PK w (W.setCell ⟨w.heap.size + 1, 0, none⟩ (.int .i64 ((cnt P 0 j : Nat) + 1))) P (j + 1) :=
  ⟨h.p.other (by omega) _ _, by have := Go.heap_setCell_same W (w.heap.size + 1) 0 _ _ (.int .i64 ((cnt P 0 j : Nat) + 1)) h.x; rw [h0, h1]; exact this, h.b.setCell (p := ⟨w.heap.size + 1, 0, none⟩) (by simp) _, by rw [World.size_setCell]; exact h.s⟩
theorem PK.up1 {w W : World} {P : Nat → Int} {j : Nat} (h : PK w W P j) (h0 : cnt P 0 (j + 1) = cnt P 0 j) (h1 : cnt P 1 (j + 1) = cnt P 1 j + 1) : PK w (W.setCell ⟨w.heap.size + 1, 1, none⟩ (.int .i64 ((cnt P 1 j : Nat) + 1))) P (j + 1) :=
  ⟨h.p.other (by omega) _ _, by have := Go.heap_setCell_same W (w.heap.size + 1) 1 _ _ (.int .i64 ((cnt P 1 j : Nat) + 1)) h.x; rw [h0, h1]; exact this, h.b.setCell (p := ⟨w.heap.size + 1, 1, none⟩) (by simp) _, by rw [World.size_setCell]; exact h.s⟩
theorem sq_parts (k d : Int) (j : Nat) : (k = 0 ∧ d = 0) ∨ (pe k d 0 0 = false ∧ mayB k d = false) ∨ (pe k d 0 0 = false ∧ mayB k d = true ∧
    ((k = 1 ∧ (j < 8 ∨ (8 ≤ j ∧ 56 ≤ j) ∨ (8 ≤ j ∧ j < 56))) ∨ (k = 6 ∧ (d = 0 ∨ d = 1)) ∨ ((k == 1) = false ∧ (k == 6) = false))) := by
  by_cases h0 : k = 0 ∧ d = 0
  · exact .inl h0
  · have hp : pe k d 0 0 = false := by cases h : pe k d 0 0 with
      | false => rfl
      | true => exact absurd ((pe_iff _ _ _ _).1 h) h0
    cases hm : mayB k d with
    | false => exact .inr (.inl ⟨hp, rfl⟩)
    | true =>
      refine .inr (.inr ⟨hp, rfl, ?_⟩)
      by_cases h1 : k = 1
      · exact .inl ⟨h1, by omega⟩
      · by_cases h6 : k = 6
        · refine .inr (.inl ⟨h6, ?_⟩)
          unfold mayB sideB at hm
          simp only [Bool.and_eq_true, Bool.or_eq_true, beq_iff_eq] at hm
          exact hm.2
        · exact .inr (.inr ⟨by simp [h1], by simp [h6]⟩)
set_option maxHeartbeats 2000000 in
set_option maxRecDepth 100000 in
theorem rPieces_any (P : Nat → Int) (w : World) :
    Calls Tryz.prog 89 #[.agg (pc P).toArray] w fun e w' => e = .returned (.bool (piecesB P)) ∧ Below w.heap.size w w' := by
  obtain ⟨X, hX⟩ : ∃ X, X = (pc P).toArray := ⟨_, rfl⟩
  rw [← hX]
  have HX := Lib.hid hX
  have hk0 : PK w ((w.alloc (.cells X 30)).alloc (.cells #[.int .i64 0, .int .i64 0] 127)) P 0 := by
    obtain ⟨a1, a2, a3, a4⟩ := two_at w (.cells X 30) (.cells #[.int .i64 0, .int .i64 0] 127)
    exact ⟨PB.of_block (by rw [hX] at a1 ⊢; exact a1), a2, a3, by omega⟩
  have HK0 := Lib.hid hk0
  clear hX hk0
  go_enter Tryz.func89, Tryz.ntmps89
  go_upto_region 2 with (fail)
  refine forget_B (fun W => PK w W P 0) HK0.out ?_
  clear HK0
  intro W h1
  have H1 := Lib.hid h1
  clear h1
  go_wp2
  go_loopw [4] (fun i wr => ∃ j : Nat, j ≤ 64 ∧ i = .int .i64 (j : Int) ∧ PK w wr P j ∧ okS P j = true) (fun i _ => 64 - (intOf i).toNat)
  case atStart => exact ⟨0, Nat.zero_le _, rfl, H1.out, rfl⟩
  case round =>
    clear H1
    obtain ⟨j, hj, rfl, h1, h2⟩ := hrel
    have H1 := Lib.hid h1
    have H2 := Lib.hid h2
    clear h1 h2
    by_cases hlt : j < 64
    · have e1 := H1.out.p.cell (j * 2) (by omega)
      have e2 := H1.out.p.cell (j * 2 + 1) (by omega)
      have hbd : badP P j = (!(pe (P (2 * j)) (P (2 * j + 1)) 0 0) && (!(mayB (P (2 * j)) (P (2 * j + 1))) || (P (2 * j) == 1 && (decide (j < 8) || decide (56 ≤ j))))) := rfl
      have hc0 : cnt P 0 (j + 1) = cnt P 0 j + if pe (P (2 * j)) (P (2 * j + 1)) 6 0 then 1 else 0 := rfl
      have hc1 : cnt P 1 (j + 1) = cnt P 1 j + if pe (P (2 * j)) (P (2 * j + 1)) 6 1 then 1 else 0 := rfl
      obtain ⟨k, hk⟩ : ∃ k, P (j * 2) = k := ⟨_, rfl⟩
      obtain ⟨d, hd⟩ : ∃ d, P (j * 2 + 1) = d := ⟨_, rfl⟩
      rw [Nat.mul_comm 2 j, hk, hd] at hbd hc0 hc1
      rw [hk] at e1
      rw [hd] at e2
      have HB := Lib.hid hbd
      have HC0 := Lib.hid hc0
      have HC1 := Lib.hid hc1
      clear hk hd hbd hc0 hc1
      have hcl0 := cnt_le P 0 j
      have hcl1 := cnt_le P 1 j
      go_upto_region 6 with (fail)
      refine forget_B (fun W => PK w W P j ∧ W.heap[wr.heap.size]? = some (.cells #[.int .i64 k, .int .i64 d] 26 (0, 0)) ∧ w.heap.size + 2 ≤ wr.heap.size) ⟨H1.out.alloc _, sl_at rfl, H1.out.s⟩ ?_
      clear H1 e1 e2
      rintro W3 ⟨h1, h2, h3⟩
      obtain ⟨q1, q2, qf, qz⟩ := row2 h2
      have H1 := Lib.hid h1
      have HQ := Lib.hid h2
      have HZ := Lib.hid h3
      clear h1 h2 h3
      obtain ⟨a, ha⟩ : ∃ a, pe k d 0 0 = a := ⟨_, rfl⟩
      have HA := Lib.hid ha
      obtain ⟨b, hb⟩ : ∃ b, mayB k d = b := ⟨_, rfl⟩
      have HBM := Lib.hid hb
      have hsp := sq_parts k d j
      rw [ha, hb] at hsp
      clear ha hb
      go_wp2_with fail
      refine (rNone_any k d _).mono ?_
      rw [HA.out]
      rintro e w4 ⟨rfl, hb4⟩
      clear q1 q2 qf qz
      have h1 := H1.out.go hb4
      have h2 := sl_go HQ.out hb4
      clear H1 HQ hb4
      obtain ⟨q1, q2, qf, qz⟩ := row2 h2
      have H1 := Lib.hid h1
      have HQ := Lib.hid h2
      clear h1 h2
      rcases hsp with ⟨rfl, rfl⟩ | ⟨rfl, rfl⟩ | ⟨rfl, rfl, hsp⟩
      · have ha : a = true := by rw [← HA.out]; rfl
        subst ha
        have HS := Lib.hid (show okS P (j + 1) = true by show (okS P j && !(badP P j)) = true; rw [H2.out, HB.out]; rfl)
        have hx : PK w w4 P (j + 1) := ⟨H1.out.p, by rw [HC0.out, HC1.out]; exact H1.out.x, H1.out.b, H1.out.s⟩
        have HXX := Lib.hid hx
        clear hx
        go_wp2
        go_roundw
        case rel => exact ⟨j + 1, by omega, by go_num, HXX.out, HS.out⟩
        case measure => simp [intOf]; omega
      · have HBD := Lib.hid (show badP P j = true by rw [HB.out, HA.out, HBM.out]; rfl)
        have HF := Lib.hid (show piecesB P = false by unfold piecesB; rw [okS_false P hlt HBD.out]; rfl)
        go_wp2_with fail
        refine (rMay_any k d _).mono ?_
        rw [HBM.out]
        rintro e w5 ⟨rfl, hb5⟩
        go_wp2
        go_ret
        exact ⟨q_b HF.out.symm, H1.out.b.trans (hb5.mono H1.out.b.size)⟩
      · go_wp2_with fail
        refine (rMay_any k d _).mono ?_
        rw [HBM.out]
        rintro e w5 ⟨rfl, hb5⟩
        clear q1 q2 qf qz
        have h1 := H1.out.go hb5
        have h2 := sl_go HQ.out hb5
        clear H1 HQ hb5
        obtain ⟨q1, q2, qf, qz⟩ := row2 h2
        have H1 := Lib.hid h1
        have HQ := Lib.hid h2
        clear h1 h2
        obtain ⟨x1, x2, xf, xz⟩ := row2 H1.out.x
        rcases hsp with ⟨rfl, hj8 | ⟨hj8, hj56⟩ | ⟨hj8, hj56⟩⟩ | ⟨rfl, rfl | rfl⟩ | ⟨hn1, hn6⟩
        · have HBD := Lib.hid (show badP P j = true by rw [HB.out, HA.out, HBM.out]; simp [hj8])
          have HF := Lib.hid (show piecesB P = false by unfold piecesB; rw [okS_false P hlt HBD.out]; rfl)
          go_wp2
          go_ret
          exact ⟨q_b HF.out.symm, H1.out.b⟩
        · have HBD := Lib.hid (show badP P j = true by rw [HB.out, HA.out, HBM.out]; simp [hj56])
          have HF := Lib.hid (show piecesB P = false by unfold piecesB; rw [okS_false P hlt HBD.out]; rfl)
          go_wp2
          go_ret
          exact ⟨q_b HF.out.symm, H1.out.b⟩
        · have HBD := Lib.hid (show badP P j = false by rw [HB.out, HA.out, HBM.out]; simp; omega)
          have HS := Lib.hid (show okS P (j + 1) = true by show (okS P j && !(badP P j)) = true; rw [H2.out, HBD.out]; rfl)
          have HXX := Lib.hid (H1.out.same HC0.out HC1.out)
          go_wp2
          go_roundw
          case rel => exact ⟨j + 1, by omega, by go_num, HXX.out, HS.out⟩
          case measure => simp [intOf]; omega
        · have HBD := Lib.hid (show badP P j = false by rw [HB.out, HA.out, HBM.out]; rfl)
          have HS := Lib.hid (show okS P (j + 1) = true by show (okS P j && !(badP P j)) = true; rw [H2.out, HBD.out]; rfl)
          have HXX := Lib.hid (H1.out.up0 HC0.out HC1.out)
          generalize cnt P 0 j = n0 at *
          go_wp2
          go_roundw
          case rel => exact ⟨j + 1, by omega, by go_num, HXX.out, HS.out⟩
          case measure => simp [intOf]; omega
        · have HBD := Lib.hid (show badP P j = false by rw [HB.out, HA.out, HBM.out]; rfl)
          have HS := Lib.hid (show okS P (j + 1) = true by show (okS P j && !(badP P j)) = true; rw [H2.out, HBD.out]; rfl)
          have HXX := Lib.hid (H1.out.up1 HC0.out HC1.out)
          generalize cnt P 1 j = n1 at *
          go_wp2
          go_roundw
          case rel => exact ⟨j + 1, by omega, by go_num, HXX.out, HS.out⟩
          case measure => simp [intOf]; omega
        · have HBD := Lib.hid (show badP P j = false by rw [HB.out, HA.out, HBM.out, hn1]; rfl)
          have HS := Lib.hid (show okS P (j + 1) = true by show (okS P j && !(badP P j)) = true; rw [H2.out, HBD.out]; rfl)
          have hk6 : ∀ x, pe k d 6 x = false := fun x => by unfold pe; rw [hn6]; rfl
          have HXX := Lib.hid (H1.out.same (by rw [HC0.out, hk6]; rfl) (by rw [HC1.out, hk6]; rfl))
          clear hk6
          go_wp2
          go_roundw
          case rel => exact ⟨j + 1, by omega, by go_num, HXX.out, HS.out⟩
          case measure => simp [intOf]; omega
    · obtain rfl : j = 64 := by omega
      have hpb : piecesB P = ((cnt P 0 64 == 1) && (cnt P 1 64 == 1) && sideB (P 128)) := by unfold piecesB; rw [H2.out]; simp
      obtain ⟨x1, x2, xf, xz⟩ := row2 H1.out.x
      have e3 := H1.out.p.cell 128 (by omega)
      have c0 := cnt_le P 0 64
      have c1 := cnt_le P 1 64
      generalize cnt P 0 64 = n0 at *
      generalize cnt P 1 64 = n1 at *
      generalize P 128 = sd at *
      have HPB := Lib.hid hpb
      clear hpb
      by_cases h0 : n0 = 1
      · subst h0
        by_cases h1 : n1 = 1
        · subst h1
          rcases side_cases sd with ⟨rfl, hb⟩ | ⟨rfl, hb⟩ | ⟨h3, h4, hb⟩
          all_goals
            have HBV := Lib.hid hb
            clear hb
            go_wp2
            go_ret
            exact ⟨q_b (by rw [HPB.out, HBV.out]; rfl), H1.out.b⟩
        · have h2 : ((n1 : Int) == 1) = false := by simp; omega
          have HF := Lib.hid (show (n1 == 1) = false by simp; omega)
          go_wp2
          go_ret
          exact ⟨q_b (by rw [HPB.out, HF.out]; rfl), H1.out.b⟩
      · have h2 : ((n0 : Int) == 1) = false := by simp; omega
        have HF := Lib.hid (show (n0 == 1) = false by simp; omega)
        go_wp2
        go_ret
        exact ⟨q_b (by rw [HPB.out, HF.out]; rfl), H1.out.b⟩
end Go.Proofs.YtcdnakbdajbfoaaGreatDoor

namespace Go.Proofs.YtcdnakbdajbfoaaGreatDoor
open Go.RowKit Go.Sort
set_option linter.unusedSimpArgs false
set_option linter.unusedVariables false

theorem wpList_pos {ops : Array Oper} {rest : List Oper} {op : Oper} {a : Act} {w : World} {Q : Exit → Act → World → Prop} (hw : Region.wanted op (yielded ops a.tmps) = true) (x : Operand) (ho : op.op = .load 30 x)
    (b : Nat) (P : Nat → Int) (X : Array Value) (hX : X = (pc P).toArray) (hx : a.eval x = .pointer (some ⟨b, 0, none⟩)) (hc : PB w b P) (h : wpList Tryz.prog ops Q rest (a.put op.dst (.agg X)) w) : wpList Tryz.prog ops Q (op :: rest) a w := by
  subst hX
  exact BigFrame.wpList_want hw fun _ hK => wp_load_mid 30 x ho b 0 hx (pc P) _ hc.range Tryz.underlying30 rfl (by rw [infoPos, pc_len]) (hK _ _ h)
set_option maxHeartbeats 1000000 in
set_option maxRecDepth 100000 in
theorem rHome_any (P : Nat → Int) (d : Int) (k r : Nat) (hk : k < 64) (hr : r < 64) (w : World) :
    Calls Tryz.prog 119 #[.agg (pc P).toArray, .int .i64 d, .int .i64 (k : Int), .int .i64 (r : Int)] w fun e w' => e = .returned (.bool (homeB P d k r)) ∧ Below w.heap.size w w' := by
  obtain ⟨X, hX⟩ : ∃ X, X = (pc P).toArray := ⟨_, rfl⟩
  rw [← hX]
  have hp : PB (w.alloc (.cells X 30)) w.heap.size P := by subst hX; exact PB.new rfl
  have HB := Lib.hid (below_new (w := w) (.cells X 30))
  have e1 := hp.cell (k * 2) (by omega)
  have e2 := hp.cell (k * 2 + 1) (by omega)
  have e3 := hp.cell (r * 2) (by omega)
  have e4 := hp.cell (r * 2 + 1) (by omega)
  have k0 : (0 : Int) ≤ k := by omega
  have k1 : (k : Int) < 64 := by omega
  have r0 : (0 : Int) ≤ r := by omega
  have r1 : (r : Int) < 64 := by omega
  clear hX hp
  obtain ⟨a, ha⟩ : ∃ a, pe (P (k * 2)) (P (k * 2 + 1)) 6 d = a := ⟨_, rfl⟩
  obtain ⟨b, hb⟩ : ∃ b, pe (P (r * 2)) (P (r * 2 + 1)) 4 d = b := ⟨_, rfl⟩
  have HV := Lib.hid (show homeB P d k r = (a && b) by unfold homeB; rw [Nat.mul_comm 2 k, Nat.mul_comm 2 r, ha, hb])
  generalize P (k * 2) = x1 at *
  generalize P (k * 2 + 1) = x2 at *
  generalize P (r * 2) = x3 at *
  generalize P (r * 2 + 1) = x4 at *
  cases a
  · go_enter Tryz.func119, Tryz.ntmps119
    go_wp2
    go_ret
    exact ⟨q_b HV.out.symm, HB.out⟩
  · go_enter Tryz.func119, Tryz.ntmps119
    go_wp2
    go_ret
    exact ⟨q_b (by rw [HV.out]; simp), HB.out⟩
def castB (P : Nat → Int) : Bool := casB (P 129) && (P 129 % 2 == 0 || homeB P 0 4 7) && (P 129 / 2 % 2 == 0 || homeB P 0 4 0) && (P 129 / 4 % 2 == 0 || homeB P 1 60 63) && (P 129 / 8 == 0 || homeB P 1 60 56)
theorem tdm (c : Int) (h : 0 ≤ c) : c.tmod 2 = c % 2 ∧ (c.tdiv 2).tmod 2 = c / 2 % 2 ∧ (c.tdiv 4).tmod 2 = c / 4 % 2 ∧ c.tdiv 8 = c / 8 := by
  have h2 : c.tdiv 2 = c / 2 := Int.tdiv_eq_ediv_of_nonneg h
  have h4 : c.tdiv 4 = c / 4 := Int.tdiv_eq_ediv_of_nonneg h
  have h8 : c.tdiv 8 = c / 8 := Int.tdiv_eq_ediv_of_nonneg h
  refine ⟨Int.tmod_eq_emod_of_nonneg h, ?_, ?_, h8⟩
  · rw [h2]; exact Int.tmod_eq_emod_of_nonneg (by omega)
  · rw [h4]; exact Int.tmod_eq_emod_of_nonneg (by omega)
set_option maxHeartbeats 2000000 in
set_option maxRecDepth 100000 in
theorem rCastles_any (P : Nat → Int) (w : World) :
    Calls Tryz.prog 90 #[.agg (pc P).toArray] w fun e w' => e = .returned (.bool (castB P)) ∧ Below w.heap.size w w' := by
  obtain ⟨X, hX⟩ : ∃ X, X = (pc P).toArray := ⟨_, rfl⟩
  rw [← hX]
  have hp : PB (w.alloc (.cells X 30)) w.heap.size P := by subst hX; exact PB.new rfl
  have HB := Lib.hid (below_new (w := w) (.cells X 30))
  have HP := Lib.hid hp
  have HM := Lib.hid (rHome_any P)
  rw [← hX] at HM
  have HX := Lib.hid hX
  have e1 := hp.cell 129 (by omega)
  clear hp hX
  have hv : castB P = (casB (P 129) && (P 129 % 2 == 0 || homeB P 0 4 7) && (P 129 / 2 % 2 == 0 || homeB P 0 4 0) && (P 129 / 4 % 2 == 0 || homeB P 1 60 63) && (P 129 / 8 == 0 || homeB P 1 60 56)) := rfl
  generalize P 129 = c at *
  rcases cas_cases c with ⟨h1, hb⟩ | ⟨h1, hb⟩ | ⟨h1, h2, hb⟩
  case inr.inr =>
    rw [hb] at hv
    obtain ⟨t1, t2, t3, t4⟩ := tdm c h1
    obtain ⟨m1, u1⟩ : ∃ m, c % 2 = m := ⟨_, rfl⟩
    obtain ⟨m2, u2⟩ : ∃ m, c / 2 % 2 = m := ⟨_, rfl⟩
    obtain ⟨m3, u3⟩ : ∃ m, c / 4 % 2 = m := ⟨_, rfl⟩
    obtain ⟨m4, u4⟩ : ∃ m, c / 8 = m := ⟨_, rfl⟩
    rw [u1] at t1 hv
    rw [u2] at t2 hv
    rw [u3] at t3 hv
    rw [u4] at t4 hv
    obtain ⟨b1, hb1⟩ : ∃ b1, (m1 == 0) = b1 := ⟨_, rfl⟩
    obtain ⟨b2, hb2⟩ : ∃ b2, (m2 == 0) = b2 := ⟨_, rfl⟩
    obtain ⟨b3, hb3⟩ : ∃ b3, (m3 == 0) = b3 := ⟨_, rfl⟩
    obtain ⟨b4, hb4⟩ : ∃ b4, (m4 == 0) = b4 := ⟨_, rfl⟩
    obtain ⟨a1, ha1⟩ : ∃ a1, homeB P 0 4 7 = a1 := ⟨_, rfl⟩
    obtain ⟨a2, ha2⟩ : ∃ a2, homeB P 0 4 0 = a2 := ⟨_, rfl⟩
    obtain ⟨a3, ha3⟩ : ∃ a3, homeB P 1 60 63 = a3 := ⟨_, rfl⟩
    obtain ⟨a4, ha4⟩ : ∃ a4, homeB P 1 60 56 = a4 := ⟨_, rfl⟩
    rw [hb1, hb2, hb3, hb4, ha1, ha2, ha3, ha4] at hv
    have HV := Lib.hid hv
    have A1 := Lib.hid ha1
    have A2 := Lib.hid ha2
    have A3 := Lib.hid ha3
    have A4 := Lib.hid ha4
    clear hv ha1 ha2 ha3 ha4 hb
    cases b1 <;> cases b2 <;> cases b3 <;> cases b4
    · go_enter Tryz.func90, Tryz.ntmps90
      go_wp2_with (refine wpList_pos (by rfl) _ (by rfl) w.heap.size P X HX.out (by rfl) HP.out ?_)
      refine (HM.out 0 4 7 (by omega) (by omega) _).mono ?_
      rw [A1.out]
      rintro e w1 ⟨rfl, hb⟩
      replace HP := Lib.hid (HP.out.go hb)
      replace HB := Lib.hid (HB.out.trans (hb.mono HB.out.size))
      clear hb
      cases a1
      · go_wp2
        go_ret
        exact ⟨q_b (by rw [HV.out]; simp), HB.out⟩
      go_wp2_with (refine wpList_pos (by rfl) _ (by rfl) w.heap.size P X HX.out (by rfl) HP.out ?_)
      refine (HM.out 0 4 0 (by omega) (by omega) _).mono ?_
      rw [A2.out]
      rintro e w2 ⟨rfl, hb⟩
      replace HP := Lib.hid (HP.out.go hb)
      replace HB := Lib.hid (HB.out.trans (hb.mono HB.out.size))
      clear hb
      cases a2
      · go_wp2
        go_ret
        exact ⟨q_b (by rw [HV.out]; simp), HB.out⟩
      go_wp2_with (refine wpList_pos (by rfl) _ (by rfl) w.heap.size P X HX.out (by rfl) HP.out ?_)
      refine (HM.out 1 60 63 (by omega) (by omega) _).mono ?_
      rw [A3.out]
      rintro e w3 ⟨rfl, hb⟩
      replace HP := Lib.hid (HP.out.go hb)
      replace HB := Lib.hid (HB.out.trans (hb.mono HB.out.size))
      clear hb
      cases a3
      · go_wp2
        go_ret
        exact ⟨q_b (by rw [HV.out]; simp), HB.out⟩
      go_wp2_with (refine wpList_pos (by rfl) _ (by rfl) w.heap.size P X HX.out (by rfl) HP.out ?_)
      refine (HM.out 1 60 56 (by omega) (by omega) _).mono ?_
      rw [A4.out]
      rintro e w4 ⟨rfl, hb⟩
      replace HP := Lib.hid (HP.out.go hb)
      replace HB := Lib.hid (HB.out.trans (hb.mono HB.out.size))
      clear hb
      cases a4
      · go_wp2
        go_ret
        exact ⟨q_b (by rw [HV.out]; simp), HB.out⟩
      go_wp2
      go_ret
      exact ⟨q_b (by rw [HV.out]; simp), HB.out⟩
    · go_enter Tryz.func90, Tryz.ntmps90
      go_wp2_with (refine wpList_pos (by rfl) _ (by rfl) w.heap.size P X HX.out (by rfl) HP.out ?_)
      refine (HM.out 0 4 7 (by omega) (by omega) _).mono ?_
      rw [A1.out]
      rintro e w1 ⟨rfl, hb⟩
      replace HP := Lib.hid (HP.out.go hb)
      replace HB := Lib.hid (HB.out.trans (hb.mono HB.out.size))
      clear hb
      cases a1
      · go_wp2
        go_ret
        exact ⟨q_b (by rw [HV.out]; simp), HB.out⟩
      go_wp2_with (refine wpList_pos (by rfl) _ (by rfl) w.heap.size P X HX.out (by rfl) HP.out ?_)
      refine (HM.out 0 4 0 (by omega) (by omega) _).mono ?_
      rw [A2.out]
      rintro e w2 ⟨rfl, hb⟩
      replace HP := Lib.hid (HP.out.go hb)
      replace HB := Lib.hid (HB.out.trans (hb.mono HB.out.size))
      clear hb
      cases a2
      · go_wp2
        go_ret
        exact ⟨q_b (by rw [HV.out]; simp), HB.out⟩
      go_wp2_with (refine wpList_pos (by rfl) _ (by rfl) w.heap.size P X HX.out (by rfl) HP.out ?_)
      refine (HM.out 1 60 63 (by omega) (by omega) _).mono ?_
      rw [A3.out]
      rintro e w3 ⟨rfl, hb⟩
      replace HP := Lib.hid (HP.out.go hb)
      replace HB := Lib.hid (HB.out.trans (hb.mono HB.out.size))
      clear hb
      cases a3
      · go_wp2
        go_ret
        exact ⟨q_b (by rw [HV.out]; simp), HB.out⟩
      go_wp2
      go_ret
      exact ⟨q_b (by rw [HV.out]; simp), HB.out⟩
    · go_enter Tryz.func90, Tryz.ntmps90
      go_wp2_with (refine wpList_pos (by rfl) _ (by rfl) w.heap.size P X HX.out (by rfl) HP.out ?_)
      refine (HM.out 0 4 7 (by omega) (by omega) _).mono ?_
      rw [A1.out]
      rintro e w1 ⟨rfl, hb⟩
      replace HP := Lib.hid (HP.out.go hb)
      replace HB := Lib.hid (HB.out.trans (hb.mono HB.out.size))
      clear hb
      cases a1
      · go_wp2
        go_ret
        exact ⟨q_b (by rw [HV.out]; simp), HB.out⟩
      go_wp2_with (refine wpList_pos (by rfl) _ (by rfl) w.heap.size P X HX.out (by rfl) HP.out ?_)
      refine (HM.out 0 4 0 (by omega) (by omega) _).mono ?_
      rw [A2.out]
      rintro e w2 ⟨rfl, hb⟩
      replace HP := Lib.hid (HP.out.go hb)
      replace HB := Lib.hid (HB.out.trans (hb.mono HB.out.size))
      clear hb
      cases a2
      · go_wp2
        go_ret
        exact ⟨q_b (by rw [HV.out]; simp), HB.out⟩
      go_wp2_with (refine wpList_pos (by rfl) _ (by rfl) w.heap.size P X HX.out (by rfl) HP.out ?_)
      refine (HM.out 1 60 56 (by omega) (by omega) _).mono ?_
      rw [A4.out]
      rintro e w4 ⟨rfl, hb⟩
      replace HP := Lib.hid (HP.out.go hb)
      replace HB := Lib.hid (HB.out.trans (hb.mono HB.out.size))
      clear hb
      cases a4
      · go_wp2
        go_ret
        exact ⟨q_b (by rw [HV.out]; simp), HB.out⟩
      go_wp2
      go_ret
      exact ⟨q_b (by rw [HV.out]; simp), HB.out⟩
    · go_enter Tryz.func90, Tryz.ntmps90
      go_wp2_with (refine wpList_pos (by rfl) _ (by rfl) w.heap.size P X HX.out (by rfl) HP.out ?_)
      refine (HM.out 0 4 7 (by omega) (by omega) _).mono ?_
      rw [A1.out]
      rintro e w1 ⟨rfl, hb⟩
      replace HP := Lib.hid (HP.out.go hb)
      replace HB := Lib.hid (HB.out.trans (hb.mono HB.out.size))
      clear hb
      cases a1
      · go_wp2
        go_ret
        exact ⟨q_b (by rw [HV.out]; simp), HB.out⟩
      go_wp2_with (refine wpList_pos (by rfl) _ (by rfl) w.heap.size P X HX.out (by rfl) HP.out ?_)
      refine (HM.out 0 4 0 (by omega) (by omega) _).mono ?_
      rw [A2.out]
      rintro e w2 ⟨rfl, hb⟩
      replace HP := Lib.hid (HP.out.go hb)
      replace HB := Lib.hid (HB.out.trans (hb.mono HB.out.size))
      clear hb
      cases a2
      · go_wp2
        go_ret
        exact ⟨q_b (by rw [HV.out]; simp), HB.out⟩
      go_wp2
      go_ret
      exact ⟨q_b (by rw [HV.out]; simp), HB.out⟩
    · go_enter Tryz.func90, Tryz.ntmps90
      go_wp2_with (refine wpList_pos (by rfl) _ (by rfl) w.heap.size P X HX.out (by rfl) HP.out ?_)
      refine (HM.out 0 4 7 (by omega) (by omega) _).mono ?_
      rw [A1.out]
      rintro e w1 ⟨rfl, hb⟩
      replace HP := Lib.hid (HP.out.go hb)
      replace HB := Lib.hid (HB.out.trans (hb.mono HB.out.size))
      clear hb
      cases a1
      · go_wp2
        go_ret
        exact ⟨q_b (by rw [HV.out]; simp), HB.out⟩
      go_wp2_with (refine wpList_pos (by rfl) _ (by rfl) w.heap.size P X HX.out (by rfl) HP.out ?_)
      refine (HM.out 1 60 63 (by omega) (by omega) _).mono ?_
      rw [A3.out]
      rintro e w3 ⟨rfl, hb⟩
      replace HP := Lib.hid (HP.out.go hb)
      replace HB := Lib.hid (HB.out.trans (hb.mono HB.out.size))
      clear hb
      cases a3
      · go_wp2
        go_ret
        exact ⟨q_b (by rw [HV.out]; simp), HB.out⟩
      go_wp2_with (refine wpList_pos (by rfl) _ (by rfl) w.heap.size P X HX.out (by rfl) HP.out ?_)
      refine (HM.out 1 60 56 (by omega) (by omega) _).mono ?_
      rw [A4.out]
      rintro e w4 ⟨rfl, hb⟩
      replace HP := Lib.hid (HP.out.go hb)
      replace HB := Lib.hid (HB.out.trans (hb.mono HB.out.size))
      clear hb
      cases a4
      · go_wp2
        go_ret
        exact ⟨q_b (by rw [HV.out]; simp), HB.out⟩
      go_wp2
      go_ret
      exact ⟨q_b (by rw [HV.out]; simp), HB.out⟩
    · go_enter Tryz.func90, Tryz.ntmps90
      go_wp2_with (refine wpList_pos (by rfl) _ (by rfl) w.heap.size P X HX.out (by rfl) HP.out ?_)
      refine (HM.out 0 4 7 (by omega) (by omega) _).mono ?_
      rw [A1.out]
      rintro e w1 ⟨rfl, hb⟩
      replace HP := Lib.hid (HP.out.go hb)
      replace HB := Lib.hid (HB.out.trans (hb.mono HB.out.size))
      clear hb
      cases a1
      · go_wp2
        go_ret
        exact ⟨q_b (by rw [HV.out]; simp), HB.out⟩
      go_wp2_with (refine wpList_pos (by rfl) _ (by rfl) w.heap.size P X HX.out (by rfl) HP.out ?_)
      refine (HM.out 1 60 63 (by omega) (by omega) _).mono ?_
      rw [A3.out]
      rintro e w3 ⟨rfl, hb⟩
      replace HP := Lib.hid (HP.out.go hb)
      replace HB := Lib.hid (HB.out.trans (hb.mono HB.out.size))
      clear hb
      cases a3
      · go_wp2
        go_ret
        exact ⟨q_b (by rw [HV.out]; simp), HB.out⟩
      go_wp2
      go_ret
      exact ⟨q_b (by rw [HV.out]; simp), HB.out⟩
    · go_enter Tryz.func90, Tryz.ntmps90
      go_wp2_with (refine wpList_pos (by rfl) _ (by rfl) w.heap.size P X HX.out (by rfl) HP.out ?_)
      refine (HM.out 0 4 7 (by omega) (by omega) _).mono ?_
      rw [A1.out]
      rintro e w1 ⟨rfl, hb⟩
      replace HP := Lib.hid (HP.out.go hb)
      replace HB := Lib.hid (HB.out.trans (hb.mono HB.out.size))
      clear hb
      cases a1
      · go_wp2
        go_ret
        exact ⟨q_b (by rw [HV.out]; simp), HB.out⟩
      go_wp2_with (refine wpList_pos (by rfl) _ (by rfl) w.heap.size P X HX.out (by rfl) HP.out ?_)
      refine (HM.out 1 60 56 (by omega) (by omega) _).mono ?_
      rw [A4.out]
      rintro e w4 ⟨rfl, hb⟩
      replace HP := Lib.hid (HP.out.go hb)
      replace HB := Lib.hid (HB.out.trans (hb.mono HB.out.size))
      clear hb
      cases a4
      · go_wp2
        go_ret
        exact ⟨q_b (by rw [HV.out]; simp), HB.out⟩
      go_wp2
      go_ret
      exact ⟨q_b (by rw [HV.out]; simp), HB.out⟩
    · go_enter Tryz.func90, Tryz.ntmps90
      go_wp2_with (refine wpList_pos (by rfl) _ (by rfl) w.heap.size P X HX.out (by rfl) HP.out ?_)
      refine (HM.out 0 4 7 (by omega) (by omega) _).mono ?_
      rw [A1.out]
      rintro e w1 ⟨rfl, hb⟩
      replace HP := Lib.hid (HP.out.go hb)
      replace HB := Lib.hid (HB.out.trans (hb.mono HB.out.size))
      clear hb
      cases a1
      · go_wp2
        go_ret
        exact ⟨q_b (by rw [HV.out]; simp), HB.out⟩
      go_wp2
      go_ret
      exact ⟨q_b (by rw [HV.out]; simp), HB.out⟩
    · go_enter Tryz.func90, Tryz.ntmps90
      go_wp2_with (refine wpList_pos (by rfl) _ (by rfl) w.heap.size P X HX.out (by rfl) HP.out ?_)
      refine (HM.out 0 4 0 (by omega) (by omega) _).mono ?_
      rw [A2.out]
      rintro e w2 ⟨rfl, hb⟩
      replace HP := Lib.hid (HP.out.go hb)
      replace HB := Lib.hid (HB.out.trans (hb.mono HB.out.size))
      clear hb
      cases a2
      · go_wp2
        go_ret
        exact ⟨q_b (by rw [HV.out]; simp), HB.out⟩
      go_wp2_with (refine wpList_pos (by rfl) _ (by rfl) w.heap.size P X HX.out (by rfl) HP.out ?_)
      refine (HM.out 1 60 63 (by omega) (by omega) _).mono ?_
      rw [A3.out]
      rintro e w3 ⟨rfl, hb⟩
      replace HP := Lib.hid (HP.out.go hb)
      replace HB := Lib.hid (HB.out.trans (hb.mono HB.out.size))
      clear hb
      cases a3
      · go_wp2
        go_ret
        exact ⟨q_b (by rw [HV.out]; simp), HB.out⟩
      go_wp2_with (refine wpList_pos (by rfl) _ (by rfl) w.heap.size P X HX.out (by rfl) HP.out ?_)
      refine (HM.out 1 60 56 (by omega) (by omega) _).mono ?_
      rw [A4.out]
      rintro e w4 ⟨rfl, hb⟩
      replace HP := Lib.hid (HP.out.go hb)
      replace HB := Lib.hid (HB.out.trans (hb.mono HB.out.size))
      clear hb
      cases a4
      · go_wp2
        go_ret
        exact ⟨q_b (by rw [HV.out]; simp), HB.out⟩
      go_wp2
      go_ret
      exact ⟨q_b (by rw [HV.out]; simp), HB.out⟩
    · go_enter Tryz.func90, Tryz.ntmps90
      go_wp2_with (refine wpList_pos (by rfl) _ (by rfl) w.heap.size P X HX.out (by rfl) HP.out ?_)
      refine (HM.out 0 4 0 (by omega) (by omega) _).mono ?_
      rw [A2.out]
      rintro e w2 ⟨rfl, hb⟩
      replace HP := Lib.hid (HP.out.go hb)
      replace HB := Lib.hid (HB.out.trans (hb.mono HB.out.size))
      clear hb
      cases a2
      · go_wp2
        go_ret
        exact ⟨q_b (by rw [HV.out]; simp), HB.out⟩
      go_wp2_with (refine wpList_pos (by rfl) _ (by rfl) w.heap.size P X HX.out (by rfl) HP.out ?_)
      refine (HM.out 1 60 63 (by omega) (by omega) _).mono ?_
      rw [A3.out]
      rintro e w3 ⟨rfl, hb⟩
      replace HP := Lib.hid (HP.out.go hb)
      replace HB := Lib.hid (HB.out.trans (hb.mono HB.out.size))
      clear hb
      cases a3
      · go_wp2
        go_ret
        exact ⟨q_b (by rw [HV.out]; simp), HB.out⟩
      go_wp2
      go_ret
      exact ⟨q_b (by rw [HV.out]; simp), HB.out⟩
    · go_enter Tryz.func90, Tryz.ntmps90
      go_wp2_with (refine wpList_pos (by rfl) _ (by rfl) w.heap.size P X HX.out (by rfl) HP.out ?_)
      refine (HM.out 0 4 0 (by omega) (by omega) _).mono ?_
      rw [A2.out]
      rintro e w2 ⟨rfl, hb⟩
      replace HP := Lib.hid (HP.out.go hb)
      replace HB := Lib.hid (HB.out.trans (hb.mono HB.out.size))
      clear hb
      cases a2
      · go_wp2
        go_ret
        exact ⟨q_b (by rw [HV.out]; simp), HB.out⟩
      go_wp2_with (refine wpList_pos (by rfl) _ (by rfl) w.heap.size P X HX.out (by rfl) HP.out ?_)
      refine (HM.out 1 60 56 (by omega) (by omega) _).mono ?_
      rw [A4.out]
      rintro e w4 ⟨rfl, hb⟩
      replace HP := Lib.hid (HP.out.go hb)
      replace HB := Lib.hid (HB.out.trans (hb.mono HB.out.size))
      clear hb
      cases a4
      · go_wp2
        go_ret
        exact ⟨q_b (by rw [HV.out]; simp), HB.out⟩
      go_wp2
      go_ret
      exact ⟨q_b (by rw [HV.out]; simp), HB.out⟩
    · go_enter Tryz.func90, Tryz.ntmps90
      go_wp2_with (refine wpList_pos (by rfl) _ (by rfl) w.heap.size P X HX.out (by rfl) HP.out ?_)
      refine (HM.out 0 4 0 (by omega) (by omega) _).mono ?_
      rw [A2.out]
      rintro e w2 ⟨rfl, hb⟩
      replace HP := Lib.hid (HP.out.go hb)
      replace HB := Lib.hid (HB.out.trans (hb.mono HB.out.size))
      clear hb
      cases a2
      · go_wp2
        go_ret
        exact ⟨q_b (by rw [HV.out]; simp), HB.out⟩
      go_wp2
      go_ret
      exact ⟨q_b (by rw [HV.out]; simp), HB.out⟩
    · go_enter Tryz.func90, Tryz.ntmps90
      go_wp2_with (refine wpList_pos (by rfl) _ (by rfl) w.heap.size P X HX.out (by rfl) HP.out ?_)
      refine (HM.out 1 60 63 (by omega) (by omega) _).mono ?_
      rw [A3.out]
      rintro e w3 ⟨rfl, hb⟩
      replace HP := Lib.hid (HP.out.go hb)
      replace HB := Lib.hid (HB.out.trans (hb.mono HB.out.size))
      clear hb
      cases a3
      · go_wp2
        go_ret
        exact ⟨q_b (by rw [HV.out]; simp), HB.out⟩
      go_wp2_with (refine wpList_pos (by rfl) _ (by rfl) w.heap.size P X HX.out (by rfl) HP.out ?_)
      refine (HM.out 1 60 56 (by omega) (by omega) _).mono ?_
      rw [A4.out]
      rintro e w4 ⟨rfl, hb⟩
      replace HP := Lib.hid (HP.out.go hb)
      replace HB := Lib.hid (HB.out.trans (hb.mono HB.out.size))
      clear hb
      cases a4
      · go_wp2
        go_ret
        exact ⟨q_b (by rw [HV.out]; simp), HB.out⟩
      go_wp2
      go_ret
      exact ⟨q_b (by rw [HV.out]; simp), HB.out⟩
    · go_enter Tryz.func90, Tryz.ntmps90
      go_wp2_with (refine wpList_pos (by rfl) _ (by rfl) w.heap.size P X HX.out (by rfl) HP.out ?_)
      refine (HM.out 1 60 63 (by omega) (by omega) _).mono ?_
      rw [A3.out]
      rintro e w3 ⟨rfl, hb⟩
      replace HP := Lib.hid (HP.out.go hb)
      replace HB := Lib.hid (HB.out.trans (hb.mono HB.out.size))
      clear hb
      cases a3
      · go_wp2
        go_ret
        exact ⟨q_b (by rw [HV.out]; simp), HB.out⟩
      go_wp2
      go_ret
      exact ⟨q_b (by rw [HV.out]; simp), HB.out⟩
    · go_enter Tryz.func90, Tryz.ntmps90
      go_wp2_with (refine wpList_pos (by rfl) _ (by rfl) w.heap.size P X HX.out (by rfl) HP.out ?_)
      refine (HM.out 1 60 56 (by omega) (by omega) _).mono ?_
      rw [A4.out]
      rintro e w4 ⟨rfl, hb⟩
      replace HP := Lib.hid (HP.out.go hb)
      replace HB := Lib.hid (HB.out.trans (hb.mono HB.out.size))
      clear hb
      cases a4
      · go_wp2
        go_ret
        exact ⟨q_b (by rw [HV.out]; simp), HB.out⟩
      go_wp2
      go_ret
      exact ⟨q_b (by rw [HV.out]; simp), HB.out⟩
    · go_enter Tryz.func90, Tryz.ntmps90
      go_wp2
      go_ret
      exact ⟨q_b (by rw [HV.out]; simp), HB.out⟩
  all_goals
    have HV := Lib.hid (show castB P = false by rw [hv, hb]; rfl)
    clear hb hv
    go_enter Tryz.func90, Tryz.ntmps90
    go_wp2
    go_ret
    exact ⟨q_b HV.out.symm, HB.out⟩
end Go.Proofs.YtcdnakbdajbfoaaGreatDoor
