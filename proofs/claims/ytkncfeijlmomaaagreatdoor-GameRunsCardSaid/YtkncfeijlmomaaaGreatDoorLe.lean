/-
  Games: how a game ends by itself.
-/
import Derived.Test.YtkncfeijlmomaaaGreatDoorLd
namespace Go.Proofs.YtkncfeijlmomaaaGreatDoor
open Go.RowKit Go.Sort Go.Maps
set_option linter.unusedSimpArgs false
set_option linter.unusedVariables false
set_option maxRecDepth 20000

/-- what stands while it is asked: the shelf's pointer in a box -/
structure GE (B base bx : Nat) (g : Gm) (w W : World) : Prop where
  x : W.heap[bx]? = some (.cells #[.pointer (some ⟨g.gb, 0, none⟩)] 116 (0, 0))
  m : GW base g W
  bl : Below w.heap.size w W
  e : EN B W
theorem GE.go {B base bx : Nat} {g : Gm} {w W W' : World} (h : GE B base bx g w W) (b : Below W.heap.size W W') : GE B base bx g w W' := ⟨sl_go h.x b, h.m.go b, h.bl.trans (b.mono h.bl.size), h.e.go b⟩
/-- the row of the asks; what each answers -/
def fI (i : Nat) : Nat := if i = 0 then 106 else if i = 1 then 107 else if i = 2 then 109 else 110
def fR (bx : Nat) : Array Value := #[.func (.func 106) #[] #[.pointer (some ⟨bx, 0, none⟩)], .func (.func 107) #[] #[.pointer (some ⟨bx, 0, none⟩)], .func (.func 109) #[] #[.pointer (some ⟨bx, 0, none⟩)], .func (.func 110) #[] #[.pointer (some ⟨bx, 0, none⟩)]]
def akB (g : Gm) (i : Nat) : Bool := if i = 1 then deadB (cntJ g.P 64) else if i = 2 then decide ((5 : Int) ≤ (g.n : Int)) else atB g.P 150
def akR (g : Gm) (i : Nat) : Int := if i = 0 then ofR g.P else if akB g i then 3 else 0
def akY (g : Gm) (i : Nat) : Int := if i = 0 then ofY g.P else if akB g i then (i : Int) + 2 else 0
theorem q_t2 {a b c d : Int} (h : a = b) (h2 : c = d) : Ending.returned (.tuple #[.int .i64 a, .int .i64 c]) = .returned (.tuple #[.int .i64 b, .int .i64 d]) := by rw [h, h2]
theorem ends_by (g : Gm) (i : Nat) (hi : i < 4) (h : ∀ j, j < i → akR g j = 0) (h0 : akR g i ≠ 0) : endR g.P g.n = akR g i ∧ endY g.P g.n = akY g i := by
  have a0 := h 0
  have a1 := h 1
  have a2 := h 2
  unfold akR akY akB at *
  unfold endR endY
  rcases (show i = 0 ∨ i = 1 ∨ i = 2 ∨ i = 3 by omega) with rfl | rfl | rfl | rfl
  · simp only [if_true] at h0 ⊢
    rw [if_neg h0, if_neg h0]; exact ⟨rfl, rfl⟩
  · have a0 := a0 (by omega)
    simp only [if_true] at a0
    rw [if_pos a0, if_pos a0]
    cases e : deadB (cntJ g.P 64) <;> simp [e] at h0 ⊢
  · have a0 := a0 (by omega)
    have a1 := a1 (by omega)
    simp only [if_true] at a0
    rw [if_pos a0, if_pos a0]
    cases e : deadB (cntJ g.P 64) <;> simp [e] at a1 h0 ⊢
    have : 5 ≤ g.n := by omega
    simp [this, h0]
  · have a0 := a0 (by omega)
    have a1 := a1 (by omega)
    have a2 := a2 (by omega)
    simp only [if_true] at a0
    rw [if_pos a0, if_pos a0]
    cases e : deadB (cntJ g.P 64) <;> simp [e] at a1 a2 h0 ⊢
    have : ¬ 5 ≤ g.n := by omega
    simp [this, h0]
theorem ends_not (g : Gm) (h : ∀ j, j < 4 → akR g j = 0) : endR g.P g.n = 0 ∧ endY g.P g.n = 0 := by
  have a0 := h 0 (by omega)
  have a1 := h 1 (by omega)
  have a2 := h 2 (by omega)
  have a3 := h 3 (by omega)
  unfold akR akB at *
  unfold endR endY
  simp only [if_true] at a0
  rw [if_pos a0, if_pos a0]
  cases e : deadB (cntJ g.P 64) <;> simp [e] at a1 a2 a3 ⊢
  have : ¬ 5 ≤ g.n := by omega
  simp [this, a3]
set_option maxHeartbeats 2000000 in
set_option maxRecDepth 100000 in
theorem ask0_any (B base bx : Nat) (g : Gm) (w0 w : World) (h : GE B base bx g w0 w) :
    Calls Tryz.prog 106 #[.pointer (some ⟨bx, 0, none⟩)] w fun e w' => e = .returned (.tuple #[.int .i64 (akR g 0), .int .i64 (akY g 0)]) ∧ Below w.heap.size w w' := by
  obtain ⟨X, hX⟩ : ∃ X, X = (pc g.P).toArray := ⟨_, rfl⟩
  have HX := Lib.hid hX
  have HP := Lib.hid h.m.pb
  have MF := Lib.hid (of_any g.P w B h.e.gb h.e.gs h.e.gm h.e.gp h.e.k)
  have x0 : w.cell? ⟨bx, 0, none⟩ = some (.pointer (some ⟨g.gb, 0, none⟩)) := (cell_of_row w bx 0 _ _ (0, 0) h.x).trans rfl
  have xz := (Array.getElem?_eq_some_iff.1 h.x).1
  have xg := h.m.lt
  rw [← hX] at MF
  have HR := Lib.hid (show akR g 0 = ofR g.P from rfl)
  have HY := Lib.hid (show akY g 0 = ofY g.P from rfl)
  clear h hX
  go_enter Tryz.func106, Tryz.ntmps106
  go_wp2_with (first | refine wpList_pos (by rfl) _ (by rfl) g.gb g.P X HX.out (by rfl) HP.out ?_ | fail)
  refine MF.out.mono ?_
  rintro e w1 ⟨rfl, hb⟩
  dsimp only
  refine list_go (by assumption) ?_
  go_wp2
  go_ret2
  exact ⟨q_t2 HR.out.symm HY.out.symm, hb⟩
set_option maxHeartbeats 2000000 in
set_option maxRecDepth 100000 in
theorem ask1_any (B base bx : Nat) (g : Gm) (w0 w : World) (h : GE B base bx g w0 w) :
    Calls Tryz.prog 107 #[.pointer (some ⟨bx, 0, none⟩)] w fun e w' => e = .returned (.tuple #[.int .i64 (akR g 1), .int .i64 (akY g 1)]) ∧ Below w.heap.size w w' := by
  obtain ⟨X, hX⟩ : ∃ X, X = (pc g.P).toArray := ⟨_, rfl⟩
  have HX := Lib.hid hX
  have HP := Lib.hid h.m.pb
  have MF := Lib.hid (is13_any g.P w)
  have x0 : w.cell? ⟨bx, 0, none⟩ = some (.pointer (some ⟨g.gb, 0, none⟩)) := (cell_of_row w bx 0 _ _ (0, 0) h.x).trans rfl
  have xz := (Array.getElem?_eq_some_iff.1 h.x).1
  have xg := h.m.lt
  rw [← hX] at MF
  have HR := Lib.hid (show akR g 1 = if deadB (cntJ g.P 64) then 3 else 0 from rfl)
  have HY := Lib.hid (show akY g 1 = if deadB (cntJ g.P 64) then 3 else 0 from rfl)
  generalize deadB (cntJ g.P 64) = c at *
  clear h hX
  have MD := Lib.hid (fun w => drawn_any c 3 w)
  obtain ⟨r, hr⟩ : ∃ r, (if c = true then (3 : Int) else 0) = r := ⟨_, rfl⟩
  rw [hr] at HR HY MD
  clear hr
  go_enter Tryz.func107, Tryz.ntmps107
  go_wp2_with (first | refine wpList_pos (by rfl) _ (by rfl) g.gb g.P X HX.out (by rfl) HP.out ?_ | fail)
  refine MF.out.mono ?_
  rintro e w1 ⟨rfl, hb⟩
  dsimp only
  refine list_go (by assumption) ?_
  go_wp2_with fail
  refine (MD.out w1).mono ?_
  rintro e w2 ⟨rfl, rfl⟩
  dsimp only
  refine list_go (by assumption) ?_
  go_wp2
  go_ret2
  exact ⟨q_t2 HR.out.symm HY.out.symm, hb⟩
set_option maxHeartbeats 2000000 in
set_option maxRecDepth 100000 in
theorem ask2_any (B base bx : Nat) (g : Gm) (hn : g.n ≤ 1000000) (w0 w : World) (h : GE B base bx g w0 w) :
    Calls Tryz.prog 109 #[.pointer (some ⟨bx, 0, none⟩)] w fun e w' => e = .returned (.tuple #[.int .i64 (akR g 2), .int .i64 (akY g 2)]) ∧ Below w.heap.size w w' := by
  have x0 : w.cell? ⟨bx, 0, none⟩ = some (.pointer (some ⟨g.gb, 0, none⟩)) := (cell_of_row w bx 0 _ _ (0, 0) h.x).trans rfl
  have xz := (Array.getElem?_eq_some_iff.1 h.x).1
  have xg := h.m.lt
  obtain ⟨_, _, x1, _, _, _, _, _⟩ := h.m.cell
  have HR := Lib.hid (show akR g 2 = if decide ((5 : Int) ≤ (g.n : Int)) then 3 else 0 from rfl)
  have HY := Lib.hid (show akY g 2 = if decide ((5 : Int) ≤ (g.n : Int)) then 4 else 0 from rfl)
  generalize g.n = n at *
  clear h
  have MD := Lib.hid (fun w => drawn_any (decide ((5 : Int) ≤ (n : Int))) 4 w)
  obtain ⟨r, hr⟩ : ∃ r, (if decide ((5 : Int) ≤ (n : Int)) = true then (3 : Int) else 0) = r := ⟨_, rfl⟩
  obtain ⟨y, hy⟩ : ∃ r, (if decide ((5 : Int) ≤ (n : Int)) = true then (4 : Int) else 0) = r := ⟨_, rfl⟩
  rw [hr] at HR MD
  rw [hy] at HY MD
  clear hr hy
  go_enter Tryz.func109, Tryz.ntmps109
  go_wp2_with fail
  refine (MD.out w).mono ?_
  rintro e w2 ⟨rfl, rfl⟩
  dsimp only
  refine list_go (by assumption) ?_
  go_wp2
  go_ret2
  exact ⟨q_t2 HR.out.symm HY.out.symm, Below.refl _ _⟩
set_option maxHeartbeats 2000000 in
set_option maxRecDepth 100000 in
theorem ask3_any (B base bx : Nat) (g : Gm) (w0 w : World) (h : GE B base bx g w0 w) :
    Calls Tryz.prog 110 #[.pointer (some ⟨bx, 0, none⟩)] w fun e w' => e = .returned (.tuple #[.int .i64 (akR g 3), .int .i64 (akY g 3)]) ∧ Below w.heap.size w w' := by
  obtain ⟨X, hX⟩ : ∃ X, X = (pc g.P).toArray := ⟨_, rfl⟩
  have HX := Lib.hid hX
  have HP := Lib.hid h.m.pb
  have MF := Lib.hid (seventy_any g.P w B h.e.gb h.e.gs h.e.gm h.e.gp h.e.k)
  have x0 : w.cell? ⟨bx, 0, none⟩ = some (.pointer (some ⟨g.gb, 0, none⟩)) := (cell_of_row w bx 0 _ _ (0, 0) h.x).trans rfl
  have xz := (Array.getElem?_eq_some_iff.1 h.x).1
  have xg := h.m.lt
  rw [← hX] at MF
  have HR := Lib.hid (show akR g 3 = if atB g.P 150 then 3 else 0 from rfl)
  have HY := Lib.hid (show akY g 3 = if atB g.P 150 then 5 else 0 from rfl)
  generalize atB g.P 150 = c at *
  clear h hX
  have MD := Lib.hid (fun w => drawn_any c 5 w)
  obtain ⟨r, hr⟩ : ∃ r, (if c = true then (3 : Int) else 0) = r := ⟨_, rfl⟩
  obtain ⟨y, hy⟩ : ∃ r, (if c = true then (5 : Int) else 0) = r := ⟨_, rfl⟩
  rw [hr] at HR MD
  rw [hy] at HY MD
  clear hr hy
  go_enter Tryz.func110, Tryz.ntmps110
  go_wp2_with (first | refine wpList_pos (by rfl) _ (by rfl) g.gb g.P X HX.out (by rfl) HP.out ?_ | fail)
  refine MF.out.mono ?_
  rintro e w1 ⟨rfl, hb⟩
  dsimp only
  refine list_go (by assumption) ?_
  go_wp2_with fail
  refine (MD.out w1).mono ?_
  rintro e w2 ⟨rfl, rfl⟩
  dsimp only
  refine list_go (by assumption) ?_
  go_wp2
  go_ret2
  exact ⟨q_t2 HR.out.symm HY.out.symm, hb⟩
theorem ask_any (B base bx : Nat) (g : Gm) (hn : g.n ≤ 1000000) (i : Nat) (hi : i < 4) (w0 w : World) (h : GE B base bx g w0 w) :
    Calls Tryz.prog (fI i) #[.pointer (some ⟨bx, 0, none⟩)] w fun e w' => e = .returned (.tuple #[.int .i64 (akR g i), .int .i64 (akY g i)]) ∧ Below w.heap.size w w' := by
  rcases (show i = 0 ∨ i = 1 ∨ i = 2 ∨ i = 3 by omega) with rfl | rfl | rfl | rfl
  · exact ask0_any B base bx g w0 w h
  · exact ask1_any B base bx g w0 w h
  · exact ask2_any B base bx g hn w0 w h
  · exact ask3_any B base bx g w0 w h
set_option maxHeartbeats 4000000 in
set_option maxRecDepth 100000 in
theorem gending_any (B base : Nat) (g : Gm) (hn : g.n ≤ 1000000) (w : World) (h : GW base g w) (he : EN B w) :
    Calls Tryz.prog 70 #[.pointer (some ⟨g.gb, 0, none⟩)] w fun e w' => e = .returned (.tuple #[.int .i64 (endR g.P g.n), .int .i64 (endY g.P g.n)]) ∧ Below w.heap.size w w' := by
  have HI := Lib.hid (show GE B base w.heap.size g w (w.alloc (.cells #[.pointer (some ⟨g.gb, 0, none⟩)] 116)) from ⟨sl_at rfl, h.go (below_new _), below_new _, he.go (below_new _)⟩)
  have MA := Lib.hid (fun i (hi : i < 4) W (h : GE B base w.heap.size g w W) => ask_any B base w.heap.size g hn i hi w W h)
  have HB := Lib.hid (fun i (hi : i < 4) h h0 => ends_by g i hi h h0)
  have HN := Lib.hid (fun h => ends_not g h)
  clear h he
  go_enter Tryz.func70, Tryz.ntmps70
  go_upto_region 1 with (fail)
  refine forget_B (fun W => GE B base w.heap.size g w W) HI.out ?_
  clear HI
  intro W hi
  have HI := Lib.hid hi
  clear hi
  go_upto_region 2 with (fail)
  have HR := Lib.hid (show (W.alloc (.cells (fR w.heap.size) 62)).heap[W.heap.size]? = some (.cells (fR w.heap.size) 62 (0, 0)) from sl_at rfl)
  refine forget_B (fun V => GE B base w.heap.size g w V ∧ V.heap[W.heap.size]? = some (.cells (fR w.heap.size) 62 (0, 0))) ⟨HI.out.go (below_new _), HR.out⟩ ?_
  clear HI HR
  generalize W.heap.size = rb at *
  rintro V ⟨h1, h2⟩
  have HI := Lib.hid h1
  have HR := Lib.hid h2
  clear h1 h2
  obtain ⟨bx, hbx⟩ : ∃ b, w.heap.size = b := ⟨_, rfl⟩
  rw [hbx] at HI HR MA ⊢
  go_wp2
  go_loopw [14] (fun x wr => ∃ i : Nat, i ≤ 4 ∧ x = .int .i64 (i : Int) ∧ (∀ j, j < i → akR g j = 0) ∧ GE B base bx g w wr ∧ wr.heap[rb]? = some (.cells (fR bx) 62 (0, 0))) (fun x _ => 4 - (intOf x).toNat)
  case atStart => exact ⟨0, by omega, rfl, fun j hj => absurd hj (Nat.not_lt_zero j), HI.out, HR.out⟩
  case round =>
    clear HI HR
    obtain ⟨i, hi, rfl, ha, h1, h2⟩ := hrel
    have HI := Lib.hid h1
    have HR := Lib.hid h2
    have HA := Lib.hid ha
    clear h1 h2 ha
    by_cases hlt : i < 4
    · have HBY := Lib.hid (fun h0 => HB.out i hlt HA.out h0)
      replace MA := Lib.hid (MA.out i hlt)
      obtain ⟨r, hr⟩ : ∃ r, akR g i = r := ⟨_, rfl⟩
      obtain ⟨y, hy⟩ : ∃ r, akY g i = r := ⟨_, rfl⟩
      rw [hr] at HBY MA
      rw [hy] at HBY MA
      have HRR := Lib.hid hr
      clear hr hy HB HN
      rcases (show i = 0 ∨ i = 1 ∨ i = 2 ∨ i = 3 by omega) with rfl | rfl | rfl | rfl
      have x0 : wr.cell? ⟨rb, 0, none⟩ = some (.func (.func 106) #[] #[.pointer (some ⟨bx, 0, none⟩)]) := (cell_of_row wr rb 0 _ _ (0, 0) HR.out).trans rfl
      rotate_left
      have x0 : wr.cell? ⟨rb, 1, none⟩ = some (.func (.func 107) #[] #[.pointer (some ⟨bx, 0, none⟩)]) := (cell_of_row wr rb 1 _ _ (0, 0) HR.out).trans rfl
      rotate_left
      have x0 : wr.cell? ⟨rb, 2, none⟩ = some (.func (.func 109) #[] #[.pointer (some ⟨bx, 0, none⟩)]) := (cell_of_row wr rb 2 _ _ (0, 0) HR.out).trans rfl
      rotate_left
      have x0 : wr.cell? ⟨rb, 3, none⟩ = some (.func (.func 110) #[] #[.pointer (some ⟨bx, 0, none⟩)]) := (cell_of_row wr rb 3 _ _ (0, 0) HR.out).trans rfl
      rotate_left
      all_goals
        go_wp2_with fail
        refine (MA.out _ HI.out).mono ?_
        rintro e w1 ⟨rfl, hb⟩
        replace HI := Lib.hid (HI.out.go hb)
        replace HR := Lib.hid (sl_go HR.out hb)
        clear hb MA x0
        dsimp only
        refine list_go (by assumption) ?_
        by_cases h0 : r = 0
        · have HNX := Lib.hid (show ∀ j, j < _ + 1 → akR g j = 0 from fun j hj => by
            rcases Nat.lt_succ_iff_lt_or_eq.1 hj with e | e
            · exact HA.out j e
            · rw [e, HRR.out, h0])
          subst h0
          go_wp2
          go_roundw
          case rel => exact ⟨_ + 1, by omega, by go_num, HNX.out, HI.out, HR.out⟩
          case measure => simp [intOf]
        · have e0 : (r != 0) = true := bne_iff_ne.2 h0
          obtain ⟨a, b⟩ := HBY.out h0
          have HAA := Lib.hid a
          have HBB := Lib.hid b
          clear a b h0 HBY
          go_wp2
          go_ret2
          exact ⟨q_t2 HAA.out.symm HBB.out.symm, HI.out.bl⟩
    · obtain rfl : i = 4 := by omega
      obtain ⟨a, b⟩ := HN.out HA.out
      have HAA := Lib.hid a
      have HBB := Lib.hid b
      clear a b HN HB
      go_wp2
      go_ret2
      exact ⟨q_t2 HAA.out.symm HBB.out.symm, HI.out.bl⟩
end Go.Proofs.YtkncfeijlmomaaaGreatDoor
