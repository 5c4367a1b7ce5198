/-
  The law MovesCan: its walk.
-/
import Derived.Test.YtjhlombbkodpaaaDoorG20
import Derived.Test.YtjhlombbkodpaaaDoorG10
import Derived.Deep.CutRange
namespace Go.Proofs.YtjhlombbkodpaaaDoor
open Go.RowKit Go.Sort
set_option linter.unusedSimpArgs false
set_option linter.unusedVariables false
set_option maxRecDepth 20000

/-- what stands in MovesCan: the position, the row of all moves -/
structure CN (B b0 : Nat) (P : Nat → Int) (L : List (Int × Int × Int)) (p : Option Addr) (w W : World) : Prop where
  pb : PB W b0 P
  l : Reads3 W.heap.size W p L.length (mF L) (mT L) (mK L)
  gs : GS B W
  gm : GM B W
  gp : GP B W
  b : Below w.heap.size w W
  s : B ≤ W.heap.size
theorem CN.go {B b0 : Nat} {P : Nat → Int} {L : List (Int × Int × Int)} {p : Option Addr} {w W W' : World} (h : CN B b0 P L p w W) (g : Below W.heap.size W W') : CN B b0 P L p w W' :=
  ⟨h.pb.go g, (h.l.below g).mono g.size, h.gs.below (g.mono h.s), h.gm.below (g.mono h.s), h.gp.below (g.mono h.s), h.b.trans (g.mono h.b.size), Nat.le_trans h.s g.size⟩
theorem CN.begin {B : Nat} {w : World} (P : Nat → Int) (X : Array Value) (hX : X = (pc P).toArray) (hs : GS B w) (hm : GM B w) (hp : GP B w) (hB : B ≤ w.heap.size) : CN B w.heap.size P [] none w (w.alloc (.cells X 29)) :=
  { pb := by subst hX; exact PB.new rfl
    l := .inl rfl
    gs := hs.below ((below_new (w := w) _).mono hB)
    gm := hm.below ((below_new (w := w) _).mono hB)
    gp := hp.below ((below_new (w := w) _).mono hB)
    b := below_new _
    s := Nat.le_trans hB (by simp) }
theorem CN.row {B b0 : Nat} {P : Nat → Int} {L L2 : List (Int × Int × Int)} {p p2 : Option Addr} {w W : World} (h : CN B b0 P L p w W) (hl : Reads3 W.heap.size W p2 L2.length (mF L2) (mT L2) (mK L2)) : CN B b0 P L2 p2 w W :=
  ⟨h.pb, hl, h.gs, h.gm, h.gp, h.b, h.s⟩
theorem flatM_len64 (P : Nat → Int) (s : Nat) (h : s ≤ 64) : (flatM P (upList (ownB P) s)).length ≤ 17920 := by
  have h1 := flatM_len P (upList (ownB P) s)
  have h2 := upList_len (ownB P) s
  omega
/-- .. with the move at hand, the pieces on its squares -/
structure CN2 (B b0 : Nat) (P : Nat → Int) (L : List (Int × Int × Int)) (p : Option Addr) (w W : World) (mb xb yb : Nat) (s n k kk dd tk td : Int) : Prop where
  c : CN B b0 P L p w W
  m : W.heap[mb]? = some (.cells #[.int .i64 s, .int .i64 n, .int .i64 k] 31 (0, 0))
  x : W.heap[xb]? = some (.cells #[.int .i64 kk, .int .i64 dd] 25 (0, 0))
  y : W.heap[yb]? = some (.cells #[.int .i64 tk, .int .i64 td] 25 (0, 0))
theorem CN2.go {B b0 : Nat} {P : Nat → Int} {L : List (Int × Int × Int)} {p : Option Addr} {w W W' : World} {mb xb yb : Nat} {s n k kk dd tk td : Int} (h : CN2 B b0 P L p w W mb xb yb s n k kk dd tk td) (g : Below W.heap.size W W') : CN2 B b0 P L p w W' mb xb yb s n k kk dd tk td :=
  ⟨h.c.go g, sl_go h.m g, sl_go h.x g, sl_go h.y g⟩
theorem set2_at {W : World} {b : Nat} {a c x y : Value} {t : TypeId} (h : W.heap[b]? = some (.cells #[a, c] t (0, 0))) : ((W.setCell ⟨b, 0, none⟩ x).setCell ⟨b, 1, none⟩ y).heap[b]? = some (.cells #[x, y] t (0, 0)) := by
  have h1 := Go.heap_setCell_same W b 0 _ _ x h
  have h2 := Go.heap_setCell_same _ b 1 _ _ y h1
  simpa using h2
theorem set2_off {W : World} {b c : Nat} {x y : Value} {o : Obj} (h : W.heap[c]? = some o) (hne : c ≠ b) : ((W.setCell ⟨b, 0, none⟩ x).setCell ⟨b, 1, none⟩ y).heap[c]? = some o := by
  rw [Below.heap_setCell _ _ _ c hne, Below.heap_setCell _ _ _ c hne]; exact h
set_option maxHeartbeats 8000000 in
set_option maxRecDepth 100000 in
theorem can_any (P : Nat → Int) (w : World) (B : Nat) (hs : GS B w) (hm : GM B w) (hp : GP B w) (hB : B ≤ w.heap.size) :
    Calls Tryd.prog 5 #[.agg (pc P).toArray] w fun e w' => e = .returned (.bool true) ∧ Below w.heap.size w w' := by
  obtain ⟨X, hX⟩ : ∃ X, X = (pc P).toArray := ⟨_, rfl⟩
  obtain ⟨L, hL⟩ : ∃ L, allM P = L := ⟨_, rfl⟩
  have HI := Lib.hid (CN.begin P X hX hs hm hp hB)
  have MA := Lib.hid (fun W h1 h2 h3 => all_any P W B h1 h2 h3)
  have MF := Lib.hid (fun (s : Nat) W h1 h2 h3 => mFrom_any P (s : Int) W B h1 h2 h3)
  have HLN := Lib.hid (flatM_len64 P)
  have HAT := Lib.hid (allM_at P)
  have HAS := Lib.hid (ahM_succ P)
  have HAE := Lib.hid (ahM_end P)
  have HLM := Lib.hid (allM_mem P)
  have HLR := Lib.hid (allM_rise P)
  rw [← hX] at MA MF ⊢
  rw [hL] at MA HAT HAE HLM HLR
  have HX := Lib.hid hX
  have HN := Lib.hid (show L.length ≤ 17920 by rw [← hL]; exact flatM_len64 P 64 (Nat.le_refl _))
  have HL := Lib.hid hL
  clear hX hL hs hm hp hB
  go_enter Tryd.func5, Tryd.ntmps5
  go_upto_region 1 with (fail)
  refine forget_B (fun W => CN B w.heap.size P [] none w W) HI.out ?_
  clear HI
  intro W hi
  have HI := Lib.hid hi
  clear hi
  go_wp2_with fail
  refine (awake9_any _ B HI.out.gs HI.out.gm HI.out.s).mono ?_
  rintro e w1 ⟨rfl, hb⟩
  replace HI := Lib.hid (HI.out.go hb)
  clear hb
  go_wp2_with (refine wpList_pos (by rfl) _ (by rfl) w.heap.size P X HX.out (by rfl) HI.out.pb ?_)
  refine (MA.out _ HI.out.gs HI.out.gm HI.out.s).mono ?_
  rintro e w2 ⟨v, rfl, hb, hown⟩
  obtain ⟨p, c, rfl, hr⟩ := reads3_own hown
  replace HI := Lib.hid ((HI.out.go hb).row hr)
  clear hb hr hown MA
  obtain ⟨N, hN⟩ : ∃ N, L.length = N := ⟨_, rfl⟩
  rw [hN] at HAT HAE HN ⊢
  have HLL := Lib.hid hN
  clear hN
  go_wp2
  go_loopw [4, 5] (fun nv sv wr => ∃ s : Nat, s ≤ 64 ∧ nv = .int .i64 ((ahM P s : Nat) : Int) ∧ sv = .int .i64 (s : Int) ∧ CN B w.heap.size P L p w wr) (fun _ sv _ => 64 - (intOf sv).toNat)
  case atStart => exact ⟨0, Nat.zero_le _, rfl, rfl, HI.out⟩
  case round =>
    clear HI
    obtain ⟨s, hs, rfl, rfl, h1⟩ := hrel
    have HI := Lib.hid h1
    clear h1
    by_cases hs64 : s < 64
    · have HS := Lib.hid hs64
      have hsi : (s : Int) < 64 := by omega
      have has := HAS.out s hs64
      have hat := HAT.out s hs64
      have hla := HLN.out s (by omega)
      have hlb := HLN.out (s + 1) (by omega)
      replace MF := Lib.hid (MF.out s)
      obtain ⟨O, hO⟩ : ∃ O, fromM P (s : Int) = O := ⟨_, rfl⟩
      rw [hO] at has hat MF
      obtain ⟨a, ha⟩ : ∃ a, ahM P s = a := ⟨_, rfl⟩
      obtain ⟨n, hn⟩ : ∃ n, O.length = n := ⟨_, rfl⟩
      have ha2 : a + n ≤ 17920 := by
        have h5 : ahM P (s + 1) ≤ 17920 := hlb
        omega
      rw [ha, hn] at has hat
      rw [hn] at MF
      rw [ha]
      have HA := Lib.hid has
      have HT := Lib.hid hat
      have HA2 := Lib.hid ha2
      have HOL := Lib.hid hn
      clear has hat hla hlb hO ha ha2 hn hs
      go_wp2_with (refine wpList_pos (by rfl) _ (by rfl) w.heap.size P X HX.out (by rfl) HI.out.pb ?_)
      refine (MF.out _ HI.out.gs HI.out.gm HI.out.s).mono ?_
      rintro e w5 ⟨v, rfl, hb, hown⟩
      rw [← HOL.out] at hown
      obtain ⟨p2, c2, rfl, hr⟩ := reads3_own hown
      rw [HOL.out] at hr ⊢
      replace HI := Lib.hid (HI.out.go hb)
      have HR := Lib.hid hr
      clear hb hr hown
      go_wp2
      go_loopw [4, 7] (fun nv iv wr => ∃ i : Nat, i ≤ n ∧ nv = .int .i64 ((a + i : Nat) : Int) ∧ iv = .int .i64 (i : Int) ∧ CN B w.heap.size P L p w wr ∧ Reads3 wr.heap.size wr p2 n (mF O) (mT O) (mK O)) (fun _ iv _ => n - (intOf iv).toNat)
      case atStart => exact ⟨0, Nat.zero_le _, rfl, rfl, HI.out, HR.out⟩
      case round =>
        clear HI HR
        obtain ⟨i, hi, rfl, rfl, h1, h2⟩ := hrel
        have HI := Lib.hid h1
        have HR := Lib.hid h2
        clear h1 h2
        by_cases hin : i < n
        · obtain ⟨t1, t2, t3⟩ := HT.out i hin
          obtain ⟨x, hx⟩ : ∃ x, a + i = x := ⟨_, rfl⟩
          rw [hx] at t1 t2 ⊢
          have hl := HI.out.l
          rw [HLL.out] at hl
          obtain ⟨lb, lo, rfl⟩ := hl.addr t1
          obtain ⟨ob, oo, rfl⟩ := HR.out.addr hin
          obtain ⟨x0, x1, x2⟩ := hl.cells t1
          obtain ⟨y0, y1, y2⟩ := HR.out.cells hin
          rw [show mF L x = (s : Int) by unfold mF; rw [t2]; exact t3] at x0
          rw [show mT L x = mT O i by unfold mT; rw [t2]] at x1
          rw [show mK L x = mK O i by unfold mK; rw [t2]] at x2
          rw [t3] at y0
          obtain ⟨mt, hmt⟩ : ∃ z, mT O i = z := ⟨_, rfl⟩
          obtain ⟨mk, hmk⟩ : ∃ z, mK O i = z := ⟨_, rfl⟩
          rw [hmt] at x1 y1
          rw [hmk] at x2 y2
          have NX := Lib.hid (fun W => neq_mv (s : Int) mt mk W)
          have h17 : x + 1 ≤ 17921 := by have := HA2.out; omega
          have hxN : (x : Int) < (N : Int) := by omega
          have hxM : ¬ ((N : Int) ≤ (x : Int)) := by omega
          have hxD : decide ((N : Int) ≤ (x : Int)) = false := by simp; omega
          have HXE := Lib.hid hx
          have HIN := Lib.hid hin
          replace x0 := cell_regrown x0
          replace x1 := cell_regrown x1
          replace x2 := cell_regrown x2
          replace y0 := cell_regrown y0
          replace y1 := cell_regrown y1
          replace y2 := cell_regrown y2
          clear hl hmt hmk t1 t2 t3 hx hi
          go_upto_region 12 with (fail)
          refine wp_region_quiet_below (by kernel_rfl) (by kernel_rfl) ?_
          iterate 5 (go_big_quiet_step (fail))
          iterate 8 (go_big_quiet_step (fail))
          refine wpQuiet_bin (by rfl) _ _ _ _ _ (by rfl) (.agg #[.int .i64 (s : Int), .int .i64 mt, .int .i64 mk]) (.agg #[.int .i64 (s : Int), .int .i64 mt, .int .i64 mk]) (.bool false) (by rfl) (by rfl) (fun W => by go_simp) NX.out ?_
          try simp only [Act.put, List.setIfInBounds_toArray, List.set_cons_zero, List.set_cons_succ]
          repeat (go_big_quiet_step (fail))
          refine wpQuiet_nil ?_
          rintro W9 ⟨pq, rfl⟩
          replace HI := Lib.hid (HI.out.go (below_regrown wr pq.d pq.os))
          replace HR := Lib.hid ((HR.out.below (below_regrown wr pq.d pq.os)).mono (below_regrown wr pq.d pq.os).size)
          clear x0 x1 x2 y0 y1 y2 NX
          generalize grow (redrawn wr pq.d) pq.os = W9 at HI HR ⊢
          have hwi : IntKind.i64.wrap ((i : Int) + 1) = ((i + 1 : Nat) : Int) := by rw [IntWalk.i64_in _ (by have := HA2.out; omega)]; omega
          have hwx : IntKind.i64.wrap ((x : Int) + 1) = ((x + 1 : Nat) : Int) := by rw [IntWalk.i64_in _ (by omega)]; omega
          go_wp2
          go_roundw
          case rel => exact ⟨i + 1, by have := HIN.out; omega, by rw [show a + (i + 1) = x + 1 by have := HXE.out; omega]; rfl, rfl, HI.out, HR.out⟩
          case measure => have := HIN.out; simp [intOf]; omega
        · obtain rfl : i = n := by omega
          have hA := HA.out
          go_wp2
          go_roundw
          case rel => exact ⟨s + 1, by have := HS.out; omega, by rw [hA], by go_num, HI.out⟩
          case measure => have := HS.out; simp [intOf]; omega
    · obtain rfl : s = 64 := by omega
      rw [show ((64 : Nat) : Int) = 64 from rfl]
      rw [HAE.out]
      clear HAT HAS HAE HLN MF
      go_wp2
      go_loopw [8] (fun iv wr => ∃ i : Nat, i ≤ N ∧ iv = .int .i64 (i : Int) ∧ CN B w.heap.size P L p w wr) (fun iv _ => N - (intOf iv).toNat)
      case atStart => exact ⟨0, Nat.zero_le _, rfl, HI.out⟩
      case round =>
        clear HI
        obtain ⟨i, hi, rfl, h1⟩ := hrel
        have HI := Lib.hid h1
        clear h1
        by_cases hin : i < N
        · have hl := HI.out.l
          rw [HLL.out] at hl
          have hmem : L.getD i (0, 0, 0) ∈ L := by
            rw [List.getD_eq_getElem?_getD, List.getElem?_eq_getElem (by rw [HLL.out]; exact hin)]
            exact List.getElem_mem _
          obtain ⟨s, n, hok⟩ := HLM.out _ hmem
          have HOK := Lib.hid hok
          obtain ⟨k, hk⟩ : ∃ z, (L.getD i (0, 0, 0)).2.2 = z := ⟨_, rfl⟩
          have eF : mF L i = (s : Int) := hok.f
          have eT : mT L i = (n : Int) := hok.t
          have eK : mK L i = k := hk
          have HPREV := Lib.hid (show ∀ j, i = j + 1 → ∃ f t g : Int, mF L j = f ∧ mT L j = t ∧ mK L j = g ∧ lessV f t g (s : Int) (n : Int) k = true ∧ lessV (s : Int) (n : Int) k f t g = false from fun j hj => by
            refine ⟨_, _, _, rfl, rfl, rfl, ?_⟩
            have h := List.pairwise_iff_getElem.1 HLR.out j i (by rw [HLL.out]; omega) (by rw [HLL.out]; exact hin) (by omega)
            have e : ∀ q (hq : q < L.length), L.getD q (0, 0, 0) = L[q] := fun q hq => by
              rw [List.getD_eq_getElem?_getD, List.getElem?_eq_getElem hq]; rfl
            have h2 : lessV (mF L j) (mT L j) (mK L j) (mF L i) (mT L i) (mK L i) = true := by
              unfold mF mT mK
              rw [e j (by rw [HLL.out]; omega), e i (by rw [HLL.out]; exact hin)]
              exact h
            rw [eF, eT, eK] at h2
            exact ⟨h2, lessV_not _ _ _ _ _ _ h2⟩)
          have HSB := Lib.hid (show s < 64 ∧ n < 64 from ⟨hok.hs, hok.hn⟩)
          have hmv := mv_ok P _ s n hok
          rw [hk] at hmv
          have HPS := Lib.hid (own_parts P s hok.o)
          have HHIT := Lib.hid (fun h => goB_hit P s n (own_parts P s hok.o).1 hok.g h)
          have HSIDE := Lib.hid (mv_side9 P s n k hok.hs hok.hn hmv)
          have HMV := Lib.hid hmv
          obtain ⟨lb, lo, rfl⟩ := hl.addr hin
          obtain ⟨x0, x1, x2⟩ := hl.cells hin
          rw [eF] at x0
          rw [eT] at x1
          rw [eK] at x2
          have HIN := Lib.hid hin
          clear hl hmem hok hk eF eT eK hmv hi
          go_upto_region 19 with (fail)
          refine forget_B (fun W => CN B w.heap.size P L (some ⟨lb, lo, none⟩) w W ∧ W.heap[wr.heap.size]? = some (.cells #[.int .i64 (s : Int), .int .i64 (n : Int), .int .i64 k] 31 (0, 0))) ⟨HI.out.go (below_new _), sl_at rfl⟩ ?_
          clear HI x0 x1 x2
          rintro W3 ⟨h1, h2⟩
          have HI := Lib.hid h1
          have HM := Lib.hid h2
          clear h1 h2
          generalize wr.heap.size = mb at HM ⊢
          go_cut [100] from 60 to 172 (fun v wx => v = .bool false ∧ CN B w.heap.size P L (some ⟨lb, lo, none⟩) w wx ∧ wx.heap[mb]? = some (.cells #[.int .i64 (s : Int), .int .i64 (n : Int), .int .i64 k] 31 (0, 0)))
          case first =>
            have hl := HI.out.l
            rw [HLL.out] at hl
            obtain ⟨m0, m1, m2, _, _⟩ := row3 HM.out
            replace m0 := cell_regrown m0
            replace m1 := cell_regrown m1
            replace m2 := cell_regrown m2
            have n0 : ¬ ((n : Int) < 0) := by omega
            have n63 : ¬ ((63 : Int) < (n : Int)) := by have := HSB.out; omega
            have d0 : decide ((n : Int) < 0) = false := by simp
            have d63 : decide ((63 : Int) < (n : Int)) = false := by simp; have := HSB.out; omega
            rcases Nat.eq_zero_or_pos i with h0 | h0
            · have hg : ¬ ((0 : Int) < (i : Int)) := by omega
              have hgd : decide ((0 : Int) < (i : Int)) = false := by simp; omega
              have hge : decide (0 < i) = false := by simp; omega
              have hgn : ¬ (0 < i) := by omega
              have H0 := Lib.hid h0
              clear h0 hl
              refine wp_region_quiet_below (by kernel_rfl) (by kernel_rfl) ?_
              repeat (go_big_quiet_step (fail))
              refine wpQuiet_nil ?_
              rintro W9 ⟨pq, rfl⟩
              replace HI := Lib.hid (HI.out.go (below_regrown W3 pq.d pq.os))
              replace HM := Lib.hid (sl_go HM.out (below_regrown W3 pq.d pq.os))
              generalize grow (redrawn W3 pq.d) pq.os = W9 at HI HM ⊢
              try go_wp2_with fail
              go_meet
              exact ⟨rfl, HI.out, HM.out⟩
            · obtain ⟨j, hij⟩ : ∃ j, i = j + 1 := ⟨i - 1, by omega⟩
              have hg : (0 : Int) < (i : Int) := by omega
              have hgd : decide ((0 : Int) < (i : Int)) = true := by simp; omega
              have hge : decide (0 < i) = true := by simp; omega
              have hgn : 0 < i := by omega
              have hw : IntKind.i64.wrap ((i : Int) - 1) = (j : Int) := by rw [IntWalk.i64_in _ (by have := HN.out; have := HIN.out; omega)]; omega
              have hj : j < N := by have := HIN.out; omega
              obtain ⟨f, t, g, e1, e2, e3, l1, l2⟩ := HPREV.out j hij
              have C1 := Lib.hid (fun W => less_any f t g (s : Int) (n : Int) k W)
              have C2 := Lib.hid (fun W => less_any (s : Int) (n : Int) k f t g W)
              rw [l1] at C1
              rw [l2] at C2
              have c1 := regrown_call (w := W3) C1.out
              have c2 := regrown_call (w := W3) C2.out
              obtain ⟨z0, z1, z2⟩ := hl.cells hj
              rw [e1] at z0
              rw [e2] at z1
              rw [e3] at z2
              replace z0 := cell_regrown z0
              replace z1 := cell_regrown z1
              replace z2 := cell_regrown z2
              have H0 := Lib.hid hij
              clear h0 hl hij e1 e2 e3 l1 l2
              refine wp_region_quiet_below (by kernel_rfl) (by kernel_rfl) ?_
              iterate 9 (go_big_quiet_step (fail))
              go_big_quiet_step (exact c1 _ _)
              iterate 8 (go_big_quiet_step (fail))
              go_big_quiet_step (exact c2 _ _)
              repeat (go_big_quiet_step (fail))
              refine wpQuiet_nil ?_
              rintro W9 ⟨pq, rfl⟩
              replace HI := Lib.hid (HI.out.go (below_regrown W3 pq.d pq.os))
              replace HM := Lib.hid (sl_go HM.out (below_regrown W3 pq.d pq.os))
              generalize grow (redrawn W3 pq.d) pq.os = W9 at HI HM ⊢
              try go_wp2_with fail
              go_meet
              exact ⟨rfl, HI.out, HM.out⟩
          case rest =>
          obtain ⟨rfl, h1, h2⟩ := hcut
          replace HI := Lib.hid h1
          replace HM := Lib.hid h2
          clear h1 h2 HPREV
          obtain ⟨kk, hkk⟩ : ∃ x, P (s * 2) = x := ⟨_, rfl⟩
          obtain ⟨dd, hdd⟩ : ∃ x, P (s * 2 + 1) = x := ⟨_, rfl⟩
          obtain ⟨tk, htk⟩ : ∃ x, P (n * 2) = x := ⟨_, rfl⟩
          obtain ⟨td', htd⟩ : ∃ x, P (n * 2 + 1) = x := ⟨_, rfl⟩
          have HKK := Lib.hid (And.intro (And.intro hkk hdd) (And.intro htk htd))
          clear hkk hdd htk htd
          go_upto_region 21 with (fail)
          refine forget_B (fun W => CN B w.heap.size P L (some ⟨lb, lo, none⟩) w W ∧ W.heap[mb]? = some (.cells #[.int .i64 (s : Int), .int .i64 (n : Int), .int .i64 k] 31 (0, 0))) ⟨HI.out, HM.out⟩ ?_
          clear HI HM
          rintro W4 ⟨h1, h2⟩
          have HI := Lib.hid h1
          have HM := Lib.hid h2
          clear h1 h2
          go_cut [10, 11] from 101 to 110 (fun v10 v11 wx => ∃ xb yb, v10 = .pointer (some ⟨xb, 0, none⟩) ∧ v11 = .pointer (some ⟨yb, 0, none⟩) ∧ CN B w.heap.size P L (some ⟨lb, lo, none⟩) w wx ∧ wx.heap[mb]? = some (.cells #[.int .i64 (s : Int), .int .i64 (n : Int), .int .i64 k] 31 (0, 0)) ∧ wx.heap[xb]? = some (.cells #[.int .i64 kk, .int .i64 dd] 25 (0, 0)) ∧ wx.heap[yb]? = some (.cells #[.int .i64 tk, .int .i64 td'] 25 (0, 0)))
          case first =>
            have s0 : (0 : Int) ≤ s := by omega
            have s1 : (s : Int) < 64 := by have := HSB.out; omega
            have n0 : (0 : Int) ≤ n := by omega
            have n1 : (n : Int) < 64 := by have := HSB.out; omega
            refine wp_region_noPanic ?_
            refine wp_region_start (n := 14) (l := #[false, false, false, false, false, false, false, false, false, false, false, false, false, false]) (S := (fun W => Below W4.heap.size W4 W)) (by kernel_rfl) rfl (by kernel_rfl) (by first | exact HBW.out | exact (Below.refl _ _).drew) (fun hHeld => ?_)
            have HBW := Lib.hid (show Below W4.heap.size W4 W4.drew from (Below.refl _ _).drew)
            generalize W4.drew = V at hHeld HBW ⊢
            refine take_to (i := 0) (d := some 101) (v := ?_) (l' := #[true, false, false, false, false, false, false, false, false, false, false, false, false, false]) rfl rfl (by kernel_rfl) (by kernel_rfl) (by kernel_rfl) (by kernel_rfl) (fun _ _ _ h => h) (Or.inl ⟨by rfl, ?_⟩) (by assumption) ?_; rotate_left; · (intro w' hSw; (try dsimp only at hSw); go_simp; (try with_reducible rfl))
            try simp only [Act.put, List.setIfInBounds_toArray, List.set_cons_zero, List.set_cons_succ]
            refine take_to (i := 1) (d := some 102) (v := (.int .i64 (s : Int))) (l' := #[true, true, false, false, false, false, false, false, false, false, false, false, false, false]) rfl rfl (by kernel_rfl) (by kernel_rfl) (by kernel_rfl) (by kernel_rfl) (fun _ _ _ h => h) ?_ (by assumption) ?_
            · refine Or.inl ⟨by rfl, ?_⟩; intro w' hSw; (try dsimp only at hSw); obtain ⟨m0, m1, m2, mf, mz⟩ := row3 ((hSw.block mb (al_lt HM.out)).trans HM.out); go_simp
            try simp only [Act.put, List.setIfInBounds_toArray, List.set_cons_zero, List.set_cons_succ]
            refine take_to (i := 2) (d := some 103) (v := ?_) (l' := #[true, true, true, false, false, false, false, false, false, false, false, false, false, false]) rfl rfl (by kernel_rfl) (by kernel_rfl) (by kernel_rfl) (by kernel_rfl) (fun _ _ _ h => h) (Or.inl ⟨by rfl, ?_⟩) (by assumption) ?_; rotate_left; · (intro w' hSw; (try dsimp only at hSw); go_simp; (try with_reducible rfl))
            try simp only [Act.put, List.setIfInBounds_toArray, List.set_cons_zero, List.set_cons_succ]
            refine take_to (i := 3) (d := some 104) (v := ?_) (l' := #[true, true, true, true, false, false, false, false, false, false, false, false, false, false]) rfl rfl (by kernel_rfl) (by kernel_rfl) (by kernel_rfl) (by kernel_rfl) (fun _ _ _ h => h) (Or.inl ⟨by rfl, ?_⟩) (by assumption) ?_; rotate_left; · (intro w' hSw; (try dsimp only at hSw); go_simp; (try with_reducible rfl))
            try simp only [Act.put, List.setIfInBounds_toArray, List.set_cons_zero, List.set_cons_succ]
            refine take_to (i := 4) (d := some 105) (v := (.agg #[.int .i64 kk, .int .i64 dd])) (l' := #[true, true, true, true, true, false, false, false, false, false, false, false, false, false]) rfl rfl (by kernel_rfl) (by kernel_rfl) (by kernel_rfl) (by kernel_rfl) (fun _ _ _ h => h) ?_ (by assumption) ?_
            · refine Or.inl ⟨by rfl, ?_⟩; intro w' hSw; (try dsimp only at hSw); have e1 := (HI.out.pb.go hSw).cell (s * 2) (by have := HSB.out; omega); have e2 := (HI.out.pb.go hSw).cell (s * 2 + 1) (by have := HSB.out; omega); rw [HKK.out.1.1] at e1; rw [HKK.out.1.2] at e2; go_simp
            try simp only [Act.put, List.setIfInBounds_toArray, List.set_cons_zero, List.set_cons_succ]
            refine take_to (i := 5) (d := some 106) (v := ?_) (l' := #[true, true, true, true, true, true, false, false, false, false, false, false, false, false]) rfl rfl (by kernel_rfl) (by kernel_rfl) (by kernel_rfl) (by kernel_rfl) (fun _ _ _ h => h) (Or.inl ⟨by rfl, ?_⟩) (by assumption) ?_; rotate_left; · (intro w' hSw; (try dsimp only at hSw); go_simp; (try with_reducible rfl))
            try simp only [Act.put, List.setIfInBounds_toArray, List.set_cons_zero, List.set_cons_succ]
            refine take_to (i := 6) (d := some 107) (v := (.int .i64 (n : Int))) (l' := #[true, true, true, true, true, true, true, false, false, false, false, false, false, false]) rfl rfl (by kernel_rfl) (by kernel_rfl) (by kernel_rfl) (by kernel_rfl) (fun _ _ _ h => h) ?_ (by assumption) ?_
            · refine Or.inl ⟨by rfl, ?_⟩; intro w' hSw; (try dsimp only at hSw); obtain ⟨m0, m1, m2, mf, mz⟩ := row3 ((hSw.block mb (al_lt HM.out)).trans HM.out); go_simp
            try simp only [Act.put, List.setIfInBounds_toArray, List.set_cons_zero, List.set_cons_succ]
            refine take_to (i := 7) (d := some 108) (v := ?_) (l' := #[true, true, true, true, true, true, true, true, false, false, false, false, false, false]) rfl rfl (by kernel_rfl) (by kernel_rfl) (by kernel_rfl) (by kernel_rfl) (fun _ _ _ h => h) (Or.inl ⟨by rfl, ?_⟩) (by assumption) ?_; rotate_left; · (intro w' hSw; (try dsimp only at hSw); go_simp; (try with_reducible rfl))
            try simp only [Act.put, List.setIfInBounds_toArray, List.set_cons_zero, List.set_cons_succ]
            refine take_to (i := 8) (d := some 109) (v := ?_) (l' := #[true, true, true, true, true, true, true, true, true, false, false, false, false, false]) rfl rfl (by kernel_rfl) (by kernel_rfl) (by kernel_rfl) (by kernel_rfl) (fun _ _ _ h => h) (Or.inl ⟨by rfl, ?_⟩) (by assumption) ?_; rotate_left; · (intro w' hSw; (try dsimp only at hSw); go_simp; (try with_reducible rfl))
            try simp only [Act.put, List.setIfInBounds_toArray, List.set_cons_zero, List.set_cons_succ]
            refine take_to (i := 9) (d := some 110) (v := (.agg #[.int .i64 tk, .int .i64 td'])) (l' := #[true, true, true, true, true, true, true, true, true, true, false, false, false, false]) rfl rfl (by kernel_rfl) (by kernel_rfl) (by kernel_rfl) (by kernel_rfl) (fun _ _ _ h => h) ?_ (by assumption) ?_
            · refine Or.inl ⟨by rfl, ?_⟩; intro w' hSw; (try dsimp only at hSw); have e1 := (HI.out.pb.go hSw).cell (n * 2) (by have := HSB.out; omega); have e2 := (HI.out.pb.go hSw).cell (n * 2 + 1) (by have := HSB.out; omega); rw [HKK.out.2.1] at e1; rw [HKK.out.2.2] at e2; go_simp
            try simp only [Act.put, List.setIfInBounds_toArray, List.set_cons_zero, List.set_cons_succ]
            refine two_to (i := 10) (j := 11) (l1 := #[true, true, true, true, true, true, true, true, true, true, true, false, false, false]) (l2 := #[true, true, true, true, true, true, true, true, true, true, false, true, false, false]) rfl rfl (by kernel_rfl) (by kernel_rfl) (by kernel_rfl) (fun K hK => ?_) (fun K hK => ?_)
            · skip
              go_simp
              have HX1 := Lib.hid (show (V.alloc (.cells #[.int .i64 0, .int .i64 0] 25)).heap[V.heap.size]? = some (.cells #[.int .i64 0, .int .i64 0] 25 (0, 0)) from sl_at rfl)
              have HXL := Lib.hid (show W4.heap.size ≤ V.heap.size ∧ V.heap.size < (V.alloc (.cells #[.int .i64 0, .int .i64 0] 25)).heap.size from ⟨HBW.out.size, by simp⟩)
              try have HNE := Lib.hid (show V.heap.size ≠ yb from Nat.ne_of_gt HYL.out.2)
              try replace HY1 := Lib.hid (al_old HY1.out (.cells #[.int .i64 0, .int .i64 0] 25))
              replace HBW := Lib.hid (HBW.out.alloc HBW.out.size (.cells #[.int .i64 0, .int .i64 0] 25))
              generalize V.heap.size = xb at *
              generalize V.alloc (.cells #[.int .i64 0, .int .i64 0] 25) = V at *
              refine hK.out _ _ (by first | exact HBW.out | exact (Below.refl _ _).drew) (fun hHeld => ?_)
              clear hK K
              try simp only [Act.put, List.setIfInBounds_toArray, List.set_cons_zero, List.set_cons_succ]
              refine one_to (i := 11) (l' := #[true, true, true, true, true, true, true, true, true, true, true, true, false, false]) rfl (by kernel_rfl) (by kernel_rfl) (fun K hK => ?_)
              go_simp
              have HY1 := Lib.hid (show (V.alloc (.cells #[.int .i64 0, .int .i64 0] 25)).heap[V.heap.size]? = some (.cells #[.int .i64 0, .int .i64 0] 25 (0, 0)) from sl_at rfl)
              have HYL := Lib.hid (show W4.heap.size ≤ V.heap.size ∧ V.heap.size < (V.alloc (.cells #[.int .i64 0, .int .i64 0] 25)).heap.size from ⟨HBW.out.size, by simp⟩)
              try have HNE := Lib.hid (show xb ≠ V.heap.size from Nat.ne_of_lt HXL.out.2)
              try replace HX1 := Lib.hid (al_old HX1.out (.cells #[.int .i64 0, .int .i64 0] 25))
              replace HBW := Lib.hid (HBW.out.alloc HBW.out.size (.cells #[.int .i64 0, .int .i64 0] 25))
              generalize V.heap.size = yb at *
              generalize V.alloc (.cells #[.int .i64 0, .int .i64 0] 25) = V at *
              refine hK.out _ _ (by first | exact HBW.out | exact (Below.refl _ _).drew) (fun hHeld => ?_)
              clear hK K
              try simp only [Act.put, List.setIfInBounds_toArray, List.set_cons_zero, List.set_cons_succ]
              refine one_to (i := 12) (l' := #[true, true, true, true, true, true, true, true, true, true, true, true, true, false]) rfl (by kernel_rfl) (by kernel_rfl) (fun K hK => ?_)
              obtain ⟨u1, u2, uf, uz⟩ := row2 HX1.out
              go_simp
              replace HX1 := Lib.hid (set2_at (x := .int .i64 kk) (y := .int .i64 dd) HX1.out)
              replace HY1 := Lib.hid (set2_off (b := xb) (x := .int .i64 kk) (y := .int .i64 dd) HY1.out HNE.out.symm)
              replace HBW := Lib.hid (show Below W4.heap.size W4 ((V.setCell ⟨xb, 0, none⟩ (.int .i64 kk)).setCell ⟨xb, 1, none⟩ (.int .i64 dd)) from (HBW.out.setCell (p := ⟨xb, 0, none⟩) HXL.out.1 _).setCell (p := ⟨xb, 1, none⟩) HXL.out.1 _)
              clear u1 u2 uf uz
              generalize ((V.setCell ⟨xb, 0, none⟩ (.int .i64 kk)).setCell ⟨xb, 1, none⟩ (.int .i64 dd)) = V at *
              refine hK.out _ _ (by first | exact HBW.out | exact (Below.refl _ _).drew) (fun hHeld => ?_)
              clear hK K
              try simp only [Act.put, List.setIfInBounds_toArray, List.set_cons_zero, List.set_cons_succ]
              refine one_to (i := 13) (l' := #[true, true, true, true, true, true, true, true, true, true, true, true, true, true]) rfl (by kernel_rfl) (by kernel_rfl) (fun K hK => ?_)
              obtain ⟨u1, u2, uf, uz⟩ := row2 HY1.out
              go_simp
              replace HY1 := Lib.hid (set2_at (x := .int .i64 tk) (y := .int .i64 td') HY1.out)
              replace HX1 := Lib.hid (set2_off (b := yb) (x := .int .i64 tk) (y := .int .i64 td') HX1.out HNE.out)
              replace HBW := Lib.hid (show Below W4.heap.size W4 ((V.setCell ⟨yb, 0, none⟩ (.int .i64 tk)).setCell ⟨yb, 1, none⟩ (.int .i64 td')) from (HBW.out.setCell (p := ⟨yb, 0, none⟩) HYL.out.1 _).setCell (p := ⟨yb, 1, none⟩) HYL.out.1 _)
              clear u1 u2 uf uz
              generalize ((V.setCell ⟨yb, 0, none⟩ (.int .i64 tk)).setCell ⟨yb, 1, none⟩ (.int .i64 td')) = V at *
              refine hK.out _ _ (by first | exact HBW.out | exact (Below.refl _ _).drew) (fun hHeld => ?_)
              clear hK K
              try simp only [Act.put, List.setIfInBounds_toArray, List.set_cons_zero, List.set_cons_succ]
              refine wpAnyH_done (by kernel_rfl) ?_ _
              refine NoPanic.normal ?_
              clear hHeld
              go_wp2_with fail
              go_meet
              exact ⟨xb, yb, rfl, rfl, HI.out.go HBW.out, (HBW.out.block mb (al_lt HM.out)).trans HM.out, HX1.out, HY1.out⟩
            · skip
              go_simp
              have HY1 := Lib.hid (show (V.alloc (.cells #[.int .i64 0, .int .i64 0] 25)).heap[V.heap.size]? = some (.cells #[.int .i64 0, .int .i64 0] 25 (0, 0)) from sl_at rfl)
              have HYL := Lib.hid (show W4.heap.size ≤ V.heap.size ∧ V.heap.size < (V.alloc (.cells #[.int .i64 0, .int .i64 0] 25)).heap.size from ⟨HBW.out.size, by simp⟩)
              try have HNE := Lib.hid (show xb ≠ V.heap.size from Nat.ne_of_lt HXL.out.2)
              try replace HX1 := Lib.hid (al_old HX1.out (.cells #[.int .i64 0, .int .i64 0] 25))
              replace HBW := Lib.hid (HBW.out.alloc HBW.out.size (.cells #[.int .i64 0, .int .i64 0] 25))
              generalize V.heap.size = yb at *
              generalize V.alloc (.cells #[.int .i64 0, .int .i64 0] 25) = V at *
              refine hK.out _ _ (by first | exact HBW.out | exact (Below.refl _ _).drew) (fun hHeld => ?_)
              clear hK K
              try simp only [Act.put, List.setIfInBounds_toArray, List.set_cons_zero, List.set_cons_succ]
              refine one_to (i := 10) (l' := #[true, true, true, true, true, true, true, true, true, true, true, true, false, false]) rfl (by kernel_rfl) (by kernel_rfl) (fun K hK => ?_)
              go_simp
              have HX1 := Lib.hid (show (V.alloc (.cells #[.int .i64 0, .int .i64 0] 25)).heap[V.heap.size]? = some (.cells #[.int .i64 0, .int .i64 0] 25 (0, 0)) from sl_at rfl)
              have HXL := Lib.hid (show W4.heap.size ≤ V.heap.size ∧ V.heap.size < (V.alloc (.cells #[.int .i64 0, .int .i64 0] 25)).heap.size from ⟨HBW.out.size, by simp⟩)
              try have HNE := Lib.hid (show V.heap.size ≠ yb from Nat.ne_of_gt HYL.out.2)
              try replace HY1 := Lib.hid (al_old HY1.out (.cells #[.int .i64 0, .int .i64 0] 25))
              replace HBW := Lib.hid (HBW.out.alloc HBW.out.size (.cells #[.int .i64 0, .int .i64 0] 25))
              generalize V.heap.size = xb at *
              generalize V.alloc (.cells #[.int .i64 0, .int .i64 0] 25) = V at *
              refine hK.out _ _ (by first | exact HBW.out | exact (Below.refl _ _).drew) (fun hHeld => ?_)
              clear hK K
              try simp only [Act.put, List.setIfInBounds_toArray, List.set_cons_zero, List.set_cons_succ]
              refine one_to (i := 12) (l' := #[true, true, true, true, true, true, true, true, true, true, true, true, true, false]) rfl (by kernel_rfl) (by kernel_rfl) (fun K hK => ?_)
              obtain ⟨u1, u2, uf, uz⟩ := row2 HX1.out
              go_simp
              replace HX1 := Lib.hid (set2_at (x := .int .i64 kk) (y := .int .i64 dd) HX1.out)
              replace HY1 := Lib.hid (set2_off (b := xb) (x := .int .i64 kk) (y := .int .i64 dd) HY1.out HNE.out.symm)
              replace HBW := Lib.hid (show Below W4.heap.size W4 ((V.setCell ⟨xb, 0, none⟩ (.int .i64 kk)).setCell ⟨xb, 1, none⟩ (.int .i64 dd)) from (HBW.out.setCell (p := ⟨xb, 0, none⟩) HXL.out.1 _).setCell (p := ⟨xb, 1, none⟩) HXL.out.1 _)
              clear u1 u2 uf uz
              generalize ((V.setCell ⟨xb, 0, none⟩ (.int .i64 kk)).setCell ⟨xb, 1, none⟩ (.int .i64 dd)) = V at *
              refine hK.out _ _ (by first | exact HBW.out | exact (Below.refl _ _).drew) (fun hHeld => ?_)
              clear hK K
              try simp only [Act.put, List.setIfInBounds_toArray, List.set_cons_zero, List.set_cons_succ]
              refine one_to (i := 13) (l' := #[true, true, true, true, true, true, true, true, true, true, true, true, true, true]) rfl (by kernel_rfl) (by kernel_rfl) (fun K hK => ?_)
              obtain ⟨u1, u2, uf, uz⟩ := row2 HY1.out
              go_simp
              replace HY1 := Lib.hid (set2_at (x := .int .i64 tk) (y := .int .i64 td') HY1.out)
              replace HX1 := Lib.hid (set2_off (b := yb) (x := .int .i64 tk) (y := .int .i64 td') HX1.out HNE.out)
              replace HBW := Lib.hid (show Below W4.heap.size W4 ((V.setCell ⟨yb, 0, none⟩ (.int .i64 tk)).setCell ⟨yb, 1, none⟩ (.int .i64 td')) from (HBW.out.setCell (p := ⟨yb, 0, none⟩) HYL.out.1 _).setCell (p := ⟨yb, 1, none⟩) HYL.out.1 _)
              clear u1 u2 uf uz
              generalize ((V.setCell ⟨yb, 0, none⟩ (.int .i64 tk)).setCell ⟨yb, 1, none⟩ (.int .i64 td')) = V at *
              refine hK.out _ _ (by first | exact HBW.out | exact (Below.refl _ _).drew) (fun hHeld => ?_)
              clear hK K
              try simp only [Act.put, List.setIfInBounds_toArray, List.set_cons_zero, List.set_cons_succ]
              refine wpAnyH_done (by kernel_rfl) ?_ _
              refine NoPanic.normal ?_
              clear hHeld
              go_wp2_with fail
              go_meet
              exact ⟨xb, yb, rfl, rfl, HI.out.go HBW.out, (HBW.out.block mb (al_lt HM.out)).trans HM.out, HX1.out, HY1.out⟩
          case rest =>
          obtain ⟨xb, yb, rfl, rfl, h1, h2, h3, h4⟩ := hcut
          have HI := Lib.hid h1
          have HM := Lib.hid h2
          have HXB := Lib.hid h3
          have HYB := Lib.hid h4
          clear h1 h2 h3 h4
          have MVC := Lib.hid (fun W h1 h2 => move_any P (s : Int) (n : Int) k W B h1 h2)
          rw [← HX.out, HMV.out] at MVC
          obtain ⟨q, hq⟩ : ∃ q, mvP P (s : Int) (n : Int) k = q := ⟨_, rfl⟩
          rw [hq] at MVC HSIDE
          obtain ⟨Z, hZ⟩ : ∃ Z, Z = (pc q).toArray := ⟨_, rfl⟩
          rw [← hZ] at MVC
          have HZ := Lib.hid hZ
          have MFR := Lib.hid (fun W h1 h2 => from_any P (s : Int) W B h1 h2)
          rw [← HX.out] at MFR
          clear hq hZ
          go_upto_region 22 with (fail)
          refine forget_B (fun W => CN2 B w.heap.size P L (some ⟨lb, lo, none⟩) w W mb xb yb (s : Int) (n : Int) k kk dd tk td') ⟨HI.out, HM.out, HXB.out, HYB.out⟩ ?_
          clear HI HM HXB HYB
          intro W5 hi
          have HI := Lib.hid hi
          clear hi
          obtain ⟨m0, m1, m2, mf, mz⟩ := row3 HI.out.m
          go_wp2_with (refine wpList_pos (by rfl) _ (by rfl) w.heap.size P X HX.out (by rfl) HI.out.c.pb ?_)
          refine (MVC.out _ HI.out.c.gp HI.out.c.s).mono ?_
          rintro e w7 ⟨rfl, hb⟩
          replace HI := Lib.hid (HI.out.go hb)
          clear hb m0 m1 m2 mf mz MVC
          go_wp2_with (refine wpList_new Z q HZ.out (by rfl) (by rfl) ?_)
          intro W8 hp8 hb hz
          replace HI := Lib.hid (HI.out.go hb)
          have HQB := Lib.hid hp8
          clear hb hz hp8
          generalize w7.heap.size = qb at HQB ⊢
          obtain ⟨em, hem⟩ : ∃ b, emB P n = b := ⟨_, rfl⟩
          obtain ⟨av, hav⟩ : ∃ b, attR P s n = b := ⟨_, rfl⟩
          have hem2 : pe tk td' 0 0 = em := by
            rw [← hem, emB_at, HKK.out.2.1, HKK.out.2.2]
          rw [hem, hav] at HHIT
          have HAV := Lib.hid hav
          obtain ⟨sd, hsd⟩ : ∃ x, P 128 = x := ⟨_, rfl⟩
          have hdd : dd = sd := by rw [← HKK.out.1.2, ← hsd, Nat.mul_comm s 2]; exact HPS.out.2
          subst hdd
          have htd : em = false → av = true ∧ (td' == dd) = false := fun h => by
            obtain ⟨h1, h2⟩ := HHIT.out h
            rw [Nat.mul_comm 2 n, HKK.out.2.2, hsd] at h2
            exact ⟨h1, by simpa using h2⟩
          have HTD := Lib.hid htd
          clear htd hem hav HHIT
          go_upto_region 23 with (fail)
          have hsz := HI.out.c.s
          have z1 := cell_regrown (HQB.out.cell 128 (by omega))
          have z2 := cell_regrown (HI.out.c.pb.cell 128 (by omega))
          rw [HSIDE.out, hsd] at z1
          rw [hsd] at z2
          obtain ⟨x0, x1, xf, xz⟩ := row2 HI.out.x
          obtain ⟨y0, y1, yf, yz⟩ := row2 HI.out.y
          replace x1 := cell_regrown x1
          replace y0 := cell_regrown y0
          replace y1 := cell_regrown y1
          have c1 := regrown_same (w := W8) (fun W => other_any dd W)
          obtain ⟨od, hod⟩ : ∃ x, oth dd = x := ⟨_, rfl⟩
          rw [hod] at c1 z1
          clear x0 xf xz yf yz hsz hod hsd
          go_cut [145] from 117 to 145 (fun v wx => v = .bool false ∧ CN2 B w.heap.size P L (some ⟨lb, lo, none⟩) w wx mb xb yb (s : Int) (n : Int) k kk dd tk td')
          case first =>
            cases em
            · have htd2 := (HTD.out rfl).2
              refine wp_region_quiet_below (by kernel_rfl) (by kernel_rfl) ?_
              iterate 7 (go_big_quiet_step (fail))
              go_big_quiet_step (exact c1 _ _)
              repeat (go_big_quiet_step (fail))
              refine wpQuiet_nil ?_
              rintro W9 ⟨pq, rfl⟩
              replace HI := Lib.hid (HI.out.go (below_regrown W8 pq.d pq.os))
              generalize grow (redrawn W8 pq.d) pq.os = W9 at HI ⊢
              try go_wp2_with fail
              go_meet
              exact ⟨rfl, HI.out⟩
            · refine wp_region_quiet_below (by kernel_rfl) (by kernel_rfl) ?_
              iterate 7 (go_big_quiet_step (fail))
              go_big_quiet_step (exact c1 _ _)
              repeat (go_big_quiet_step (fail))
              refine wpQuiet_nil ?_
              rintro W9 ⟨pq, rfl⟩
              replace HI := Lib.hid (HI.out.go (below_regrown W8 pq.d pq.os))
              generalize grow (redrawn W8 pq.d) pq.os = W9 at HI ⊢
              try go_wp2_with fail
              go_meet
              exact ⟨rfl, HI.out⟩
          case rest =>
          obtain ⟨rfl, h1⟩ := hcut
          replace HI := Lib.hid h1
          clear h1 z1 z2 x1 y0 y1 c1 HQB HSIDE
          go_upto_region 26 with (fail)
          refine forget_B (fun W => CN2 B w.heap.size P L (some ⟨lb, lo, none⟩) w W mb xb yb (s : Int) (n : Int) k kk dd tk td') HI.out ?_
          clear HI
          intro W6 hi
          have HI := Lib.hid hi
          clear hi
          obtain ⟨m0, m1, m2, mf, mz⟩ := row3 HI.out.m
          go_wp2_with (refine wpList_pos (by rfl) _ (by rfl) w.heap.size P X HX.out (by rfl) HI.out.c.pb ?_)
          refine (MFR.out _ HI.out.c.gs HI.out.c.s).mono ?_
          have hfl := fromL_len P (s : Int)
          have hfm := fromL_mem P s n HSB.out.1 HSB.out.2
          rw [HAV.out] at hfm
          obtain ⟨A, hA⟩ : ∃ A, fromL P (s : Int) = A := ⟨_, rfl⟩
          rw [hA] at hfl hfm ⊢
          rintro e w10 ⟨v, rfl, hb, hown⟩
          rw [ivals_range] at hown
          obtain ⟨pa, ca, rfl, hra, _⟩ := sq_reads hown
          replace HI := Lib.hid (HI.out.go hb)
          have HRA := Lib.hid hra
          obtain ⟨na, hna⟩ : ∃ n, A.length = n := ⟨_, rfl⟩
          have HFM := Lib.hid (show av = true → ∃ j, j < na ∧ A.getD j 0 = (n : Int) from fun h => by
            obtain ⟨j, hj, e⟩ := List.getElem_of_mem (hfm.2 h)
            exact ⟨j, by omega, by rw [List.getD_eq_getElem?_getD, List.getElem?_eq_getElem hj]; exact e⟩)
          rw [hna] at HRA hfl ⊢
          have HFL := Lib.hid hfl
          clear hb hown hra hfm hfl hA hna m0 m1 m2 mf mz MFR
          go_wp2
          go_loopw [14, 16] (fun hv jv wr => ∃ (j : Nat) (hh : Bool), j ≤ na ∧ hv = .bool hh ∧ jv = .int .i64 (j : Int) ∧ (∀ k, k < j → A.getD k 0 = (n : Int) → hh = true) ∧ CN2 B w.heap.size P L (some ⟨lb, lo, none⟩) w wr mb xb yb (s : Int) (n : Int) k kk dd tk td' ∧ Reads wr.heap.size wr pa na (fun k => .int .i64 (A.getD k 0))) (fun _ jv _ => na - (intOf jv).toNat)
          case atStart => exact ⟨0, false, Nat.zero_le _, rfl, rfl, fun k hk => absurd hk (by omega), HI.out, HRA.out⟩
          case round =>
            clear HI HRA
            obtain ⟨j, hh, hj, rfl, rfl, hall, h1, h2⟩ := hrel
            have HI := Lib.hid h1
            have HRA := Lib.hid h2
            clear h1 h2
            have hfl := HFL.out
            by_cases hjn : j < na
            · have HJ := Lib.hid hjn
              obtain ⟨m0, m1, m2, mf, mz⟩ := row3 HI.out.m
              obtain ⟨ab, ao, rfl⟩ := readsAddr HRA.out hjn
              have e0 := readsAt HRA.out hjn
              obtain ⟨x, hx⟩ : ∃ x, A.getD j 0 = x := ⟨_, rfl⟩
              rw [hx] at e0
              have HALL := Lib.hid (show ∀ b : Bool, (hh = true → b = true) → ((x == (n : Int)) = true → b = true) → ∀ k, k < j + 1 → A.getD k 0 = (n : Int) → b = true from fun b h1 h2 k hk he => by
                by_cases hkj : k = j
                · subst hkj; rw [hx] at he; exact h2 (by simpa using he)
                · exact h1 (hall k (by omega) he))
              have hji : (j : Int) < (na : Int) := by omega
              have hjd : decide ((j : Int) < (na : Int)) = true := by simp; omega
              have hjm : ¬ ((na : Int) ≤ (j : Int)) := by omega
              have hjk : decide ((na : Int) ≤ (j : Int)) = false := by simp; omega
              replace e0 := cell_regrown e0
              replace m1 := cell_regrown m1
              have hwj : IntKind.i64.wrap ((j : Int) + 1) = ((j + 1 : Nat) : Int) := by rw [IntWalk.i64_in _ (by omega)]; omega
              clear hall hx m0 m2 mf mz hj hfl
              cases hh
              · go_upto_region 30 with (fail)
                refine wp_region_quiet_below (by kernel_rfl) (by kernel_rfl) ?_
                repeat (go_big_quiet_step (fail))
                refine wpQuiet_nil ?_
                rintro W9 ⟨pq, rfl⟩
                replace HI := Lib.hid (HI.out.go (below_regrown wr pq.d pq.os))
                replace HRA := Lib.hid ((HRA.out.below (below_regrown wr pq.d pq.os)).mono (below_regrown wr pq.d pq.os).size)
                generalize grow (redrawn wr pq.d) pq.os = W9 at HI HRA ⊢
                clear e0 m1
                go_wp2
                go_roundw
                case rel => exact ⟨j + 1, _, by have := HJ.out; omega, rfl, rfl, HALL.out _ (by simp) (by simp), HI.out, HRA.out⟩
                case measure => have := HJ.out; simp [intOf]; omega
              · go_upto_region 30 with (fail)
                refine wp_region_quiet_below (by kernel_rfl) (by kernel_rfl) ?_
                repeat (go_big_quiet_step (fail))
                refine wpQuiet_nil ?_
                rintro W9 ⟨pq, rfl⟩
                replace HI := Lib.hid (HI.out.go (below_regrown wr pq.d pq.os))
                replace HRA := Lib.hid ((HRA.out.below (below_regrown wr pq.d pq.os)).mono (below_regrown wr pq.d pq.os).size)
                generalize grow (redrawn wr pq.d) pq.os = W9 at HI HRA ⊢
                clear e0 m1
                go_wp2
                go_roundw
                case rel => exact ⟨j + 1, true, by have := HJ.out; omega, rfl, rfl, HALL.out _ (by simp) (by simp), HI.out, HRA.out⟩
                case measure => have := HJ.out; simp [intOf]; omega
            · obtain rfl : j = na := by omega
              have hht : em = false → hh = true := fun h => by
                obtain ⟨k', hk', he⟩ := HFM.out (HTD.out h).1
                exact hall k' hk' he
              obtain ⟨y0, y1, yf, yz⟩ := row2 HI.out.y
              have hin := HIN.out
              have hN := HN.out
              have hwi : IntKind.i64.wrap ((i : Int) + 1) = ((i + 1 : Nat) : Int) := by rw [IntWalk.i64_in _ (by omega)]; omega
              clear hall hjn hj hfl hin hN HFM HTD HRA
              cases em
              · obtain rfl := hht rfl
                go_wp2
                go_roundw
                case rel => exact ⟨i + 1, by have := HIN.out; omega, rfl, HI.out.c⟩
                case measure => have := HIN.out; simp [intOf]; omega
              · clear hht
                go_wp2
                go_roundw
                case rel => exact ⟨i + 1, by have := HIN.out; omega, rfl, HI.out.c⟩
                case measure => have := HIN.out; simp [intOf]; omega
        · obtain rfl : i = N := by omega
          go_wp2
          go_ret
          exact ⟨rfl, HI.out.b⟩
end Go.Proofs.YtjhlombbkodpaaaDoor
