/-
  Contracts: the document's right positions.
-/
import Derived.Test.YteahikjnlhlmmaaDoorBl
namespace Go.Proofs.YteahikjnlhlmmaaDoor
open Go.RowKit Go.Sort
set_option linter.unusedSimpArgs false
set_option linter.unusedVariables false

/-- a thing on a square that may not be there -/
def badP (P : Nat → Int) (s : Nat) : Bool := !(pe (P (2 * s)) (P (2 * s + 1)) 0 0) && (!(mayB (P (2 * s)) (P (2 * s + 1))) || (P (2 * s) == 1 && (decide (s < 8) || decide (56 ≤ s))))
def okS (P : Nat → Int) : Nat → Bool
  | 0 => true
  | n + 1 => okS P n && !(badP P n)
/-- how many kings of a side stand on the squares below n -/
def cnt (P : Nat → Int) (d : Int) : Nat → Nat
  | 0 => 0
  | n + 1 => cnt P d n + if pe (P (2 * n)) (P (2 * n + 1)) 6 d then 1 else 0
theorem cnt_le (P : Nat → Int) (d : Int) (n : Nat) : cnt P d n ≤ n := by
  induction n with
  | zero => exact Nat.le_refl _
  | succ n ih => simp only [cnt]; split <;> omega
theorem okS_iff (P : Nat → Int) (n : Nat) : okS P n = true ↔ ∀ s, s < n → badP P s = false := by
  induction n with
  | zero => simp [okS]
  | succ n ih =>
    simp only [okS, Bool.and_eq_true, ih, Bool.not_eq_true']
    constructor
    · rintro ⟨h1, h2⟩ i hi
      rcases Nat.lt_succ_iff_lt_or_eq.1 hi with h | rfl
      · exact h1 i h
      · exact h2
    · intro h; exact ⟨fun i hi => h i (by omega), h n (by omega)⟩
theorem okS_false (P : Nat → Int) {n m : Nat} (h : m < n) (hs : badP P m = true) : okS P n = false := by
  cases e : okS P n
  · rfl
  · rw [(okS_iff P n).1 e m h] at hs; cases hs
def piecesB (P : Nat → Int) : Bool := okS P 64 && (cnt P 0 64 == 1) && (cnt P 1 64 == 1) && sideB (P 128)
def homeB (P : Nat → Int) (d : Int) (k r : Nat) : Bool := pe (P (2 * k)) (P (2 * k + 1)) 6 d && pe (P (2 * r)) (P (2 * r + 1)) 4 d
theorem infoTwo : (Tryd.prog.info? 65).map (·.size) = some 2 := by kernel_rfl
/-- what stands in a walk over the squares: the position, the count of kings -/
structure PK (w W : World) (P : Nat → Int) (j : Nat) : Prop where
  p : PB W w.heap.size P
  x : W.heap[w.heap.size + 1]? = some (.cells #[.int .i64 (cnt P 0 j : Nat), .int .i64 (cnt P 1 j : Nat)] 65 (0, 0))
  b : Below w.heap.size w W
  s : w.heap.size + 2 ≤ W.heap.size
theorem PK.go {w W W' : World} {P : Nat → Int} {j : Nat} (h : PK w W P j) (g : Below W.heap.size W W') : PK w W' P j :=
  ⟨h.p.go g, sl_go h.x g, h.b.trans (g.mono h.b.size), Nat.le_trans h.s g.size⟩
theorem PK.alloc {w W : World} {P : Nat → Int} {j : Nat} (h : PK w W P j) (o : Obj) : PK w (W.alloc o) P j := h.go (below_new _)
theorem PK.same {w W : World} {P : Nat → Int} {j : Nat} (h : PK w W P j) (h0 : cnt P 0 (j + 1) = cnt P 0 j) (h1 : cnt P 1 (j + 1) = cnt P 1 j) : PK w W P (j + 1) :=
  ⟨h.p, by rw [h0, h1]; exact h.x, h.b, h.s⟩
theorem PK.up0 {w W : World} {P : Nat → Int} {j : Nat} (h : PK w W P j) (h0 : cnt P 0 (j + 1) = cnt P 0 j + 1) (h1 : cnt P 1 (j + 1) = cnt P 1 j) : PK w (W.setCell ⟨w.heap.size + 1, 0, none⟩ (.int .i64 ((cnt P 0 j : Nat) + 1))) P (j + 1) :=
  ⟨h.p.other (by omega) _ _, by have := Go.heap_setCell_same W (w.heap.size + 1) 0 _ _ (.int .i64 ((cnt P 0 j : Nat) + 1)) h.x; rw [h0, h1]; exact this, h.b.setCell (p := ⟨w.heap.size + 1, 0, none⟩) (by simp) _, by rw [World.size_setCell]; exact h.s⟩
theorem PK.up1 {w W : World} {P : Nat → Int} {j : Nat} (h : PK w W P j) (h0 : cnt P 0 (j + 1) = cnt P 0 j) (h1 : cnt P 1 (j + 1) = cnt P 1 j + 1) : PK w (W.setCell ⟨w.heap.size + 1, 1, none⟩ (.int .i64 ((cnt P 1 j : Nat) + 1))) P (j + 1) :=
  ⟨h.p.other (by omega) _ _, by have := Go.heap_setCell_same W (w.heap.size + 1) 1 _ _ (.int .i64 ((cnt P 1 j : Nat) + 1)) h.x; rw [h0, h1]; exact this, h.b.setCell (p := ⟨w.heap.size + 1, 1, none⟩) (by simp) _, by rw [World.size_setCell]; exact h.s⟩
/-- what a square adds -/
theorem sq_parts (k d : Int) (j : Nat) : (k = 0 ∧ d = 0) ∨ (pe k d 0 0 = false ∧ mayB k d = false) ∨ (pe k d 0 0 = false ∧ mayB k d = true ∧
    ((k = 1 ∧ (j < 8 ∨ (8 ≤ j ∧ 56 ≤ j) ∨ (8 ≤ j ∧ j < 56))) ∨ (k = 6 ∧ (d = 0 ∨ d = 1)) ∨ ((k == 1) = false ∧ (k == 6) = false))) := by
  by_cases h0 : k = 0 ∧ d = 0
  · exact .inl h0
  · have hp : pe k d 0 0 = false := by cases h : pe k d 0 0 with
      | false => rfl
      | true => exact absurd ((pe_iff _ _ _ _).1 h) h0
    cases hm : mayB k d with
    | false => exact .inr (.inl ⟨hp, rfl⟩)
    | true =>
      refine .inr (.inr ⟨hp, rfl, ?_⟩)
      by_cases h1 : k = 1
      · exact .inl ⟨h1, by omega⟩
      · by_cases h6 : k = 6
        · refine .inr (.inl ⟨h6, ?_⟩)
          unfold mayB sideB at hm
          simp only [Bool.and_eq_true, Bool.or_eq_true, beq_iff_eq] at hm
          exact hm.2
        · exact .inr (.inr ⟨by simp [h1], by simp [h6]⟩)
set_option maxHeartbeats 2000000 in
set_option maxRecDepth 100000 in
theorem rPieces_any (P : Nat → Int) (w : World) :
    Calls Tryd.prog 35 #[.agg (pc P).toArray] w fun e w' => e = .returned (.bool (piecesB P)) ∧ Below w.heap.size w w' := by
  obtain ⟨X, hX⟩ : ∃ X, X = (pc P).toArray := ⟨_, rfl⟩
  rw [← hX]
  have HX := Lib.hid hX
  have hk0 : PK w ((w.alloc (.cells X 29)).alloc (.cells #[.int .i64 0, .int .i64 0] 65)) P 0 := by
    obtain ⟨a1, a2, a3, a4⟩ := two_at w (.cells X 29) (.cells #[.int .i64 0, .int .i64 0] 65)
    exact ⟨PB.of_block (by rw [hX] at a1 ⊢; exact a1), a2, a3, by omega⟩
  have HK0 := Lib.hid hk0
  clear hX hk0
  go_enter Tryd.func35, Tryd.ntmps35
  go_upto_region 2 with (fail)
  refine forget_B (fun W => PK w W P 0) HK0.out ?_
  clear HK0
  intro W h1
  have H1 := Lib.hid h1
  clear h1
  go_wp2
  go_loopw [4] (fun i wr => ∃ j : Nat, j ≤ 64 ∧ i = .int .i64 (j : Int) ∧ PK w wr P j ∧ okS P j = true) (fun i _ => 64 - (intOf i).toNat)
  case atStart => exact ⟨0, Nat.zero_le _, rfl, H1.out, rfl⟩
  case round =>
    clear H1
    obtain ⟨j, hj, rfl, h1, h2⟩ := hrel
    have H1 := Lib.hid h1
    have H2 := Lib.hid h2
    clear h1 h2
    by_cases hlt : j < 64
    · have e1 := H1.out.p.cell (j * 2) (by omega)
      have e2 := H1.out.p.cell (j * 2 + 1) (by omega)
      have hbd : badP P j = (!(pe (P (2 * j)) (P (2 * j + 1)) 0 0) && (!(mayB (P (2 * j)) (P (2 * j + 1))) || (P (2 * j) == 1 && (decide (j < 8) || decide (56 ≤ j))))) := rfl
      have hc0 : cnt P 0 (j + 1) = cnt P 0 j + if pe (P (2 * j)) (P (2 * j + 1)) 6 0 then 1 else 0 := rfl
      have hc1 : cnt P 1 (j + 1) = cnt P 1 j + if pe (P (2 * j)) (P (2 * j + 1)) 6 1 then 1 else 0 := rfl
      obtain ⟨k, hk⟩ : ∃ k, P (j * 2) = k := ⟨_, rfl⟩
      obtain ⟨d, hd⟩ : ∃ d, P (j * 2 + 1) = d := ⟨_, rfl⟩
      rw [Nat.mul_comm 2 j, hk, hd] at hbd hc0 hc1
      rw [hk] at e1
      rw [hd] at e2
      have HB := Lib.hid hbd
      have HC0 := Lib.hid hc0
      have HC1 := Lib.hid hc1
      clear hk hd hbd hc0 hc1
      have hcl0 := cnt_le P 0 j
      have hcl1 := cnt_le P 1 j
      go_upto_region 6 with (fail)
      refine forget_B (fun W => PK w W P j ∧ W.heap[wr.heap.size]? = some (.cells #[.int .i64 k, .int .i64 d] 25 (0, 0)) ∧ w.heap.size + 2 ≤ wr.heap.size) ⟨H1.out.alloc _, sl_at rfl, H1.out.s⟩ ?_
      clear H1 e1 e2
      rintro W3 ⟨h1, h2, h3⟩
      obtain ⟨q1, q2, qf, qz⟩ := row2 h2
      have H1 := Lib.hid h1
      have HQ := Lib.hid h2
      have HZ := Lib.hid h3
      clear h1 h2 h3
      obtain ⟨a, ha⟩ : ∃ a, pe k d 0 0 = a := ⟨_, rfl⟩
      have HA := Lib.hid ha
      obtain ⟨b, hb⟩ : ∃ b, mayB k d = b := ⟨_, rfl⟩
      have HBM := Lib.hid hb
      have hsp := sq_parts k d j
      rw [ha, hb] at hsp
      clear ha hb
      go_wp2_with fail
      refine (rNone_any k d _).mono ?_
      rw [HA.out]
      rintro e w4 ⟨rfl, hb4⟩
      clear q1 q2 qf qz
      have h1 := H1.out.go hb4
      have h2 := sl_go HQ.out hb4
      clear H1 HQ hb4
      obtain ⟨q1, q2, qf, qz⟩ := row2 h2
      have H1 := Lib.hid h1
      have HQ := Lib.hid h2
      clear h1 h2
      rcases hsp with ⟨rfl, rfl⟩ | ⟨rfl, rfl⟩ | ⟨rfl, rfl, hsp⟩
      · have ha : a = true := by rw [← HA.out]; rfl
        subst ha
        have HS := Lib.hid (show okS P (j + 1) = true by show (okS P j && !(badP P j)) = true; rw [H2.out, HB.out]; rfl)
        have hx : PK w w4 P (j + 1) := ⟨H1.out.p, by rw [HC0.out, HC1.out]; exact H1.out.x, H1.out.b, H1.out.s⟩
        have HXX := Lib.hid hx
        clear hx
        go_wp2
        go_roundw
        case rel => exact ⟨j + 1, by omega, by go_num, HXX.out, HS.out⟩
        case measure => simp [intOf]; omega
      · have HBD := Lib.hid (show badP P j = true by rw [HB.out, HA.out, HBM.out]; rfl)
        have HF := Lib.hid (show piecesB P = false by unfold piecesB; rw [okS_false P hlt HBD.out]; rfl)
        go_wp2_with fail
        refine (rMay_any k d _).mono ?_
        rw [HBM.out]
        rintro e w5 ⟨rfl, hb5⟩
        go_wp2
        go_ret
        exact ⟨q_b HF.out.symm, H1.out.b.trans (hb5.mono H1.out.b.size)⟩
      · go_wp2_with fail
        refine (rMay_any k d _).mono ?_
        rw [HBM.out]
        rintro e w5 ⟨rfl, hb5⟩
        clear q1 q2 qf qz
        have h1 := H1.out.go hb5
        have h2 := sl_go HQ.out hb5
        clear H1 HQ hb5
        obtain ⟨q1, q2, qf, qz⟩ := row2 h2
        have H1 := Lib.hid h1
        have HQ := Lib.hid h2
        clear h1 h2
        obtain ⟨x1, x2, xf, xz⟩ := row2 H1.out.x
        rcases hsp with ⟨rfl, hj8 | ⟨hj8, hj56⟩ | ⟨hj8, hj56⟩⟩ | ⟨rfl, rfl | rfl⟩ | ⟨hn1, hn6⟩
        · have HBD := Lib.hid (show badP P j = true by rw [HB.out, HA.out, HBM.out]; simp [hj8])
          have HF := Lib.hid (show piecesB P = false by unfold piecesB; rw [okS_false P hlt HBD.out]; rfl)
          go_wp2
          go_ret
          exact ⟨q_b HF.out.symm, H1.out.b⟩
        · have HBD := Lib.hid (show badP P j = true by rw [HB.out, HA.out, HBM.out]; simp [hj56])
          have HF := Lib.hid (show piecesB P = false by unfold piecesB; rw [okS_false P hlt HBD.out]; rfl)
          go_wp2
          go_ret
          exact ⟨q_b HF.out.symm, H1.out.b⟩
        · have HBD := Lib.hid (show badP P j = false by rw [HB.out, HA.out, HBM.out]; simp; omega)
          have HS := Lib.hid (show okS P (j + 1) = true by show (okS P j && !(badP P j)) = true; rw [H2.out, HBD.out]; rfl)
          have HXX := Lib.hid (H1.out.same HC0.out HC1.out)
          go_wp2
          go_roundw
          case rel => exact ⟨j + 1, by omega, by go_num, HXX.out, HS.out⟩
          case measure => simp [intOf]; omega
        · have HBD := Lib.hid (show badP P j = false by rw [HB.out, HA.out, HBM.out]; rfl)
          have HS := Lib.hid (show okS P (j + 1) = true by show (okS P j && !(badP P j)) = true; rw [H2.out, HBD.out]; rfl)
          have HXX := Lib.hid (H1.out.up0 HC0.out HC1.out)
          generalize cnt P 0 j = n0 at *
          go_wp2
          go_roundw
          case rel => exact ⟨j + 1, by omega, by go_num, HXX.out, HS.out⟩
          case measure => simp [intOf]; omega
        · have HBD := Lib.hid (show badP P j = false by rw [HB.out, HA.out, HBM.out]; rfl)
          have HS := Lib.hid (show okS P (j + 1) = true by show (okS P j && !(badP P j)) = true; rw [H2.out, HBD.out]; rfl)
          have HXX := Lib.hid (H1.out.up1 HC0.out HC1.out)
          generalize cnt P 1 j = n1 at *
          go_wp2
          go_roundw
          case rel => exact ⟨j + 1, by omega, by go_num, HXX.out, HS.out⟩
          case measure => simp [intOf]; omega
        · have HBD := Lib.hid (show badP P j = false by rw [HB.out, HA.out, HBM.out, hn1]; rfl)
          have HS := Lib.hid (show okS P (j + 1) = true by show (okS P j && !(badP P j)) = true; rw [H2.out, HBD.out]; rfl)
          have hk6 : ∀ x, pe k d 6 x = false := fun x => by unfold pe; rw [hn6]; rfl
          have HXX := Lib.hid (H1.out.same (by rw [HC0.out, hk6]; rfl) (by rw [HC1.out, hk6]; rfl))
          clear hk6
          go_wp2
          go_roundw
          case rel => exact ⟨j + 1, by omega, by go_num, HXX.out, HS.out⟩
          case measure => simp [intOf]; omega
    · obtain rfl : j = 64 := by omega
      have hpb : piecesB P = ((cnt P 0 64 == 1) && (cnt P 1 64 == 1) && sideB (P 128)) := by unfold piecesB; rw [H2.out]; simp
      obtain ⟨x1, x2, xf, xz⟩ := row2 H1.out.x
      have e3 := H1.out.p.cell 128 (by omega)
      have c0 := cnt_le P 0 64
      have c1 := cnt_le P 1 64
      generalize cnt P 0 64 = n0 at *
      generalize cnt P 1 64 = n1 at *
      generalize P 128 = sd at *
      have HPB := Lib.hid hpb
      clear hpb
      by_cases h0 : n0 = 1
      · subst h0
        by_cases h1 : n1 = 1
        · subst h1
          rcases side_cases sd with ⟨rfl, hb⟩ | ⟨rfl, hb⟩ | ⟨h3, h4, hb⟩
          all_goals
            have HBV := Lib.hid hb
            clear hb
            go_wp2
            go_ret
            exact ⟨q_b (by rw [HPB.out, HBV.out]; rfl), H1.out.b⟩
        · have h2 : ((n1 : Int) == 1) = false := by simp; omega
          have HF := Lib.hid (show (n1 == 1) = false by simp; omega)
          go_wp2
          go_ret
          exact ⟨q_b (by rw [HPB.out, HF.out]; rfl), H1.out.b⟩
      · have h2 : ((n0 : Int) == 1) = false := by simp; omega
        have HF := Lib.hid (show (n0 == 1) = false by simp; omega)
        go_wp2
        go_ret
        exact ⟨q_b (by rw [HPB.out, HF.out]; rfl), H1.out.b⟩
end Go.Proofs.YteahikjnlhlmmaaDoor
