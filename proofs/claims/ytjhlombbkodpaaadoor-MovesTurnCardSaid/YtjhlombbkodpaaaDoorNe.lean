/-
  The law MovesTurn: its walk.
-/
import Derived.Test.YtjhlombbkodpaaaDoorMs
import Derived.Test.YtjhlombbkodpaaaDoorMy
import Derived.Test.YtjhlombbkodpaaaDoorG17
import Derived.Test.YtjhlombbkodpaaaDoorBi
import Derived.Deep.CutRange
namespace Go.Proofs.YtjhlombbkodpaaaDoor
open Go.RowKit Go.Sort
set_option linter.unusedSimpArgs false
set_option linter.unusedVariables false
set_option maxRecDepth 20000

/-- what stands in a law on moves: positions in blocks, other things in blocks, rows of moves, what the packages' variables hold -/
structure LQ (B : Nat) (w W : World) (bs : List (Nat × (Nat → Int))) (os : List (Nat × Obj)) (rs : List (Option Addr × List (Int × Int × Int))) : Prop where
  p : ∀ x ∈ bs, PB W x.1 x.2
  o : ∀ x ∈ os, W.heap[x.1]? = some x.2
  r : ∀ x ∈ rs, Reads3 W.heap.size W x.1 x.2.length (mF x.2) (mT x.2) (mK x.2)
  gb : GB B W
  gs : GS B W
  gm : GM B W
  b : Below w.heap.size w W
  s : B ≤ W.heap.size
theorem LQ.go {B : Nat} {w W W' : World} {bs : List (Nat × (Nat → Int))} {os : List (Nat × Obj)} {rs : List (Option Addr × List (Int × Int × Int))} (h : LQ B w W bs os rs) (g : Below W.heap.size W W') : LQ B w W' bs os rs :=
  ⟨fun x hx => (h.p x hx).go g, fun x hx => sl_go (h.o x hx) g, fun x hx => ((h.r x hx).below g).mono g.size, h.gb.below (g.mono h.s), h.gs.below (g.mono h.s), h.gm.below (g.mono h.s), h.b.trans (g.mono h.b.size), Nat.le_trans h.s g.size⟩
theorem LQ.addP {B : Nat} {w W : World} {bs : List (Nat × (Nat → Int))} {os : List (Nat × Obj)} {rs : List (Option Addr × List (Int × Int × Int))} {H : Nat} {Q : Nat → Int} (h : LQ B w W bs os rs) (hp : PB W H Q) : LQ B w W ((H, Q) :: bs) os rs :=
  ⟨fun x hx => by
    rcases List.mem_cons.1 hx with rfl | hx
    · exact hp
    · exact h.p x hx, h.o, h.r, h.gb, h.gs, h.gm, h.b, h.s⟩
theorem LQ.addO {B : Nat} {w W : World} {bs : List (Nat × (Nat → Int))} {os : List (Nat × Obj)} {rs : List (Option Addr × List (Int × Int × Int))} {H : Nat} {O : Obj} (h : LQ B w W bs os rs) (ho : W.heap[H]? = some O) : LQ B w W bs ((H, O) :: os) rs :=
  ⟨h.p, fun x hx => by
    rcases List.mem_cons.1 hx with rfl | hx
    · exact ho
    · exact h.o x hx, h.r, h.gb, h.gs, h.gm, h.b, h.s⟩
theorem LQ.addR {B : Nat} {w W : World} {bs : List (Nat × (Nat → Int))} {os : List (Nat × Obj)} {rs : List (Option Addr × List (Int × Int × Int))} {p : Option Addr} {L : List (Int × Int × Int)} (h : LQ B w W bs os rs) (hr : Reads3 W.heap.size W p L.length (mF L) (mT L) (mK L)) : LQ B w W bs os ((p, L) :: rs) :=
  ⟨h.p, h.o, fun x hx => by
    rcases List.mem_cons.1 hx with rfl | hx
    · exact hr
    · exact h.r x hx, h.gb, h.gs, h.gm, h.b, h.s⟩
theorem LQ.at0 {B : Nat} {w W : World} {bs : List (Nat × (Nat → Int))} {os : List (Nat × Obj)} {rs : List (Option Addr × List (Int × Int × Int))} {x : Nat × (Nat → Int)} (h : LQ B w W (x :: bs) os rs) : PB W x.1 x.2 := h.p x (List.mem_cons_self ..)
theorem LQ.at1 {B : Nat} {w W : World} {bs : List (Nat × (Nat → Int))} {os : List (Nat × Obj)} {rs : List (Option Addr × List (Int × Int × Int))} {x y : Nat × (Nat → Int)} (h : LQ B w W (x :: y :: bs) os rs) : PB W y.1 y.2 := h.p y (by simp)
theorem LQ.ob0 {B : Nat} {w W : World} {bs : List (Nat × (Nat → Int))} {os : List (Nat × Obj)} {rs : List (Option Addr × List (Int × Int × Int))} {x : Nat × Obj} (h : LQ B w W bs (x :: os) rs) : W.heap[x.1]? = some x.2 := h.o x (List.mem_cons_self ..)
theorem LQ.rw0 {B : Nat} {w W : World} {bs : List (Nat × (Nat → Int))} {os : List (Nat × Obj)} {rs : List (Option Addr × List (Int × Int × Int))} {x : Option Addr × List (Int × Int × Int)} (h : LQ B w W bs os (x :: rs)) : Reads3 W.heap.size W x.1 x.2.length (mF x.2) (mT x.2) (mK x.2) := h.r x (List.mem_cons_self ..)
theorem LQ.rw1 {B : Nat} {w W : World} {bs : List (Nat × (Nat → Int))} {os : List (Nat × Obj)} {rs : List (Option Addr × List (Int × Int × Int))} {x y : Option Addr × List (Int × Int × Int)} (h : LQ B w W bs os (x :: y :: rs)) : Reads3 W.heap.size W y.1 y.2.length (mF y.2) (mT y.2) (mK y.2) := h.r y (by simp)
theorem LQ.offO {B : Nat} {w W : World} {bs : List (Nat × (Nat → Int))} {os : List (Nat × Obj)} {rs : List (Option Addr × List (Int × Int × Int))} {x : Nat × Obj} (h : LQ B w W bs (x :: os) rs) : LQ B w W bs os rs := ⟨h.p, fun y hy => h.o y (by simp [hy]), h.r, h.gb, h.gs, h.gm, h.b, h.s⟩
/-- a block that is not among those that stand is turned -/
theorem LQ.below {B H : Nat} {w W W' : World} {bs : List (Nat × (Nat → Int))} {os : List (Nat × Obj)} {rs : List (Option Addr × List (Int × Int × Int))} (h : LQ B w W bs os rs) (h0 : Below H W W') (h1 : ∀ x ∈ bs, x.1 < H) (h2 : ∀ x ∈ os, x.1 < H) (h3 : ∀ x ∈ rs, Reads3 H W x.1 x.2.length (mF x.2) (mT x.2) (mK x.2)) (h4 : B ≤ H) (h5 : w.heap.size ≤ H) (h6 : H ≤ W'.heap.size) : LQ B w W' bs os rs :=
  ⟨fun x hx => (h.p x hx).below h0 (h1 x hx), fun x hx => (h0.block x.1 (h2 x hx)).trans (h.o x hx), fun x hx => ((h3 x hx).below h0).mono h6, h.gb.below (h0.mono h4), h.gs.below (h0.mono h4), h.gm.below (h0.mono h4), h.b.trans (h0.mono h5), Nat.le_trans h4 h6⟩
theorem LQ.begin {B : Nat} {w : World} (P : Nat → Int) (X : Array Value) (hX : X = (pc P).toArray) (hb : GB B w) (hs : GS B w) (hm : GM B w) (hB : B ≤ w.heap.size) : LQ B w (w.alloc (.cells X 29)) [(w.heap.size, P)] [] [] :=
  { p := fun x hx => by
      rcases List.mem_cons.1 hx with rfl | hx
      · subst hX; exact PB.new rfl
      · cases hx
    o := fun x hx => by cases hx
    r := fun x hx => by cases hx
    gb := hb.below ((below_new (w := w) _).mono hB)
    gs := hs.below ((below_new (w := w) _).mono hB)
    gm := hm.below ((below_new (w := w) _).mono hB)
    b := below_new _
    s := Nat.le_trans hB (by simp) }
/-- a move, changed in its own block, that is the last one -/
structure LMv (B : Nat) (w W0 W : World) (mb : Nat) (f t k : Int) : Prop where
  b : Below W0.heap.size W0 W
  m : W.heap[mb]? = some (.cells #[.int .i64 f, .int .i64 t, .int .i64 k] 31 (0, 0))
  l : W0.heap.size ≤ mb
theorem LMv.set0 {B : Nat} {w W0 W : World} {mb : Nat} {f t k : Int} (h : LMv B w W0 W mb f t k) (x : Int) : LMv B w W0 (W.setCell ⟨mb, 0, none⟩ (.int .i64 x)) mb x t k :=
  ⟨h.b.setCell (p := ⟨mb, 0, none⟩) h.l _, by
    have := Go.heap_setCell_same W mb 0 _ _ (.int .i64 x) h.m
    simpa using this, h.l⟩
theorem LMv.set1 {B : Nat} {w W0 W : World} {mb : Nat} {f t k : Int} (h : LMv B w W0 W mb f t k) (x : Int) : LMv B w W0 (W.setCell ⟨mb, 1, none⟩ (.int .i64 x)) mb f x k :=
  ⟨h.b.setCell (p := ⟨mb, 1, none⟩) h.l _, by
    have := Go.heap_setCell_same W mb 1 _ _ (.int .i64 x) h.m
    simpa using this, h.l⟩
theorem getD_mem9 (L : List (Int × Int × Int)) (i : Nat) (h : i < L.length) : L.getD i (0, 0, 0) ∈ L := by
  rw [List.getD_eq_getElem?_getD, List.getElem?_eq_getElem h]; exact List.getElem_mem _
theorem mem_getD9 (L : List (Int × Int × Int)) (m : Int × Int × Int) (h : m ∈ L) : ∃ j, j < L.length ∧ L.getD j (0, 0, 0) = m := by
  obtain ⟨j, hj, e⟩ := List.getElem_of_mem h
  exact ⟨j, hj, by rw [List.getD_eq_getElem?_getD, List.getElem?_eq_getElem hj]; exact e⟩
theorem turn_at (P : Nat → Int) (h : rightB P = true) (i : Nat) (hi : i < (allM P).length) : (0 ≤ mF (allM P) i ∧ mF (allM P) i < 64) ∧ (0 ≤ mT (allM P) i ∧ mT (allM P) i < 64) ∧ ∃ j, j < (allM (turnN P)).length ∧ mF (allM (turnN P)) j = mI (mF (allM P) i) ∧ mT (allM (turnN P)) j = mI (mT (allM P) i) ∧ mK (allM (turnN P)) j = mK (allM P) i := by
  have hm := getD_mem9 _ i hi
  obtain ⟨s, n, hk⟩ := allM_mem P _ hm
  have h1 := hk.hs
  have h2 := hk.hn
  have e1 : mF (allM P) i = s := hk.f
  have e2 : mT (allM P) i = n := hk.t
  obtain ⟨j, hj, e⟩ := mem_getD9 _ _ (turn_mem P h _ hm)
  refine ⟨by omega, by omega, j, hj, ?_, ?_, ?_⟩
  · unfold mF; rw [e]; rfl
  · unfold mT; rw [e]; rfl
  · unfold mK; rw [e]; rfl
theorem other_at (P : Nat → Int) (hd : P 128 = 0 ∨ P 128 = 1) (i : Nat) (hi : i < (allM (setN P 128 (oth (P 128)))).length) : ∃ s : Nat, s < 64 ∧ mF (allM (setN P 128 (oth (P 128)))) i = (s : Int) ∧ (P (s * 2 + 1) == P 128) = false := by
  obtain ⟨s, h1, h2, h3⟩ := other_moves P hd _ (getD_mem9 _ i hi)
  exact ⟨s, h1, h2, by rw [Nat.mul_comm s 2]; simpa using h3⟩
theorem eql_mv9 (f t k f' t' k' : Int) (w : World) : (binOp .eql 31 (.agg #[.int .i64 f, .int .i64 t, .int .i64 k]) (.agg #[.int .i64 f', .int .i64 t', .int .i64 k'])).run Tryd.prog w = .ok (.bool (f == f' && t == t' && k == k')) w := by
  have e := equal_mv f t k f' t' k' 9998 w
  unfold mvV at e
  rw [run_eql_struct, e]; simp
set_option maxHeartbeats 8000000 in
set_option maxRecDepth 100000 in
theorem turn9_any (P : Nat → Int) (w : World) (B : Nat) (hb : GB B w) (hs : GS B w) (hm : GM B w) (hB : B ≤ w.heap.size) :
    Calls Tryd.prog 6 #[.agg (pc P).toArray] w fun e w' => e = .returned (.bool true) ∧ Below w.heap.size w w' := by
  obtain ⟨X, hX⟩ : ∃ X, X = (pc P).toArray := ⟨_, rfl⟩
  obtain ⟨T, hT⟩ : ∃ T, T = (pc (turnN P)).toArray := ⟨_, rfl⟩
  obtain ⟨Q, hQ⟩ : ∃ Q, Q = setN P 128 (oth (P 128)) := ⟨_, rfl⟩
  obtain ⟨Z, hZ⟩ : ∃ Z, Z = (pc Q).toArray := ⟨_, rfl⟩
  have HI := Lib.hid (LQ.begin P X hX hb hs hm hB)
  have MR := Lib.hid (fun W h1 h2 => right_any P W B h1 h2)
  have MT := Lib.hid (fun W => turn_any P W)
  have MA := Lib.hid (fun W h1 h2 h3 => all_any P W B h1 h2 h3)
  have MB := Lib.hid (fun W h1 h2 h3 => all_any (turnN P) W B h1 h2 h3)
  have MC := Lib.hid (fun W h1 h2 h3 => all_any Q W B h1 h2 h3)
  have AW := Lib.hid (fun W h1 h2 h3 => awake9_any W B h1 h2 h3)
  rw [← hX] at MR MT MA ⊢
  rw [← hT] at MT MB
  rw [← hZ] at MC
  have HLEN := Lib.hid (turn_len P)
  have HAT := Lib.hid (turn_at P)
  have HOT := Lib.hid (other_at P)
  have HSD := Lib.hid (right_side P)
  rw [← hQ] at HOT
  have hla := allM_len P
  have hlb := allM_len (turnN P)
  have hlc := allM_len Q
  obtain ⟨L, hL⟩ : ∃ L, allM P = L := ⟨_, rfl⟩
  obtain ⟨R, hR⟩ : ∃ R, allM (turnN P) = R := ⟨_, rfl⟩
  obtain ⟨C, hC⟩ : ∃ C, allM Q = C := ⟨_, rfl⟩
  rw [hL] at MA HLEN HAT hla
  rw [hR] at MB HLEN HAT hlb
  rw [hC] at MC HOT hlc
  have HL := Lib.hid (And.intro hla hlc)
  have HX := Lib.hid hX
  have HT := Lib.hid hT
  have HZ := Lib.hid hZ
  have HQ := Lib.hid hQ
  clear hX hT hZ hL hR hC hla hlb hlc hb hs hm hB hQ
  go_enter Tryd.func6, Tryd.ntmps6
  go_upto_region 1 with (fail)
  refine forget_B (fun W => LQ B w W [(w.heap.size, P)] [] []) HI.out ?_
  clear HI
  intro W hi
  have HI := Lib.hid hi
  clear hi
  go_wp2_with fail
  refine (AW.out _ HI.out.gs HI.out.gm HI.out.s).mono ?_
  rintro e w1 ⟨rfl, hb⟩
  replace HI := Lib.hid (HI.out.go hb)
  clear hb AW
  go_wp2_with (refine wpList_pos (by rfl) _ (by rfl) w.heap.size P X HX.out (by rfl) HI.out.at0 ?_)
  refine (MR.out _ HI.out.gb HI.out.s).mono ?_
  obtain ⟨rb, hrb⟩ : ∃ b, rightB P = b := ⟨_, rfl⟩
  rw [hrb]
  rintro e w3 ⟨rfl, hb⟩
  replace HI := Lib.hid (HI.out.go hb)
  clear hb MR
  cases rb
  · go_wp2
    go_ret
    exact ⟨rfl, HI.out.b⟩
  replace HLEN := Lib.hid (HLEN.out hrb)
  replace HAT := Lib.hid (HAT.out hrb)
  replace HSD := Lib.hid (HSD.out hrb)
  replace HOT := Lib.hid (HOT.out HSD.out)
  clear hrb
  go_upto_region 5 with (fail)
  refine wp_region_noPanic ?_
  refine wp_region_start (n := 7) (l := #[false, false, false, false, false, false, false]) (S := (fun W => LQ B w W [(w.heap.size, P)] [] [] )) (by kernel_rfl) rfl (by kernel_rfl) (by first | exact HI.out | exact HI.out.go (Below.refl _ _).drew) (fun hHeld => ?_)
  replace HI := Lib.hid (HI.out.go (Below.refl w3.heap.size w3).drew)
  generalize w3.drew = V0 at hHeld HI ⊢
  refine take_to (i := 0) (d := some 17) (v := (.agg X)) (l' := #[true, false, false, false, false, false, false]) rfl rfl (by kernel_rfl) (by kernel_rfl) (by kernel_rfl) (by kernel_rfl) (fun _ _ _ h => h) ?_ (by assumption) ?_
  · exact yields_posC (by rfl) _ (by rfl) w.heap.size P X HX.out (by rfl) (fun W h => h.at0)
  try simp only [Act.put, List.setIfInBounds_toArray, List.set_cons_zero, List.set_cons_succ]
  refine take_to (i := 2) (d := some 19) (v := (.agg X)) (l' := #[true, false, true, false, false, false, false]) rfl rfl (by kernel_rfl) (by kernel_rfl) (by kernel_rfl) (by kernel_rfl) (fun _ _ _ h => h) ?_ (by assumption) ?_
  · exact yields_posC (by rfl) _ (by rfl) w.heap.size P X HX.out (by rfl) (fun W h => h.at0)
  try simp only [Act.put, List.setIfInBounds_toArray, List.set_cons_zero, List.set_cons_succ]
  refine one_to (i := 1) (l' := #[true, true, true, false, false, false, false]) rfl (by kernel_rfl) (by kernel_rfl) (fun K hK => ?_)
  go_simp
  refine (MA.out _ HI.out.gs HI.out.gm HI.out.s).mono ?_
  rintro e V ⟨v, rfl, hb, hown⟩
  obtain ⟨p1, c1, rfl, hr1⟩ := reads3_own hown
  replace HI := Lib.hid (HI.out.go hb)
  have HR1 := Lib.hid hr1
  clear hb hown hr1
  dsimp only
  refine hK.out _ _ (by first | exact HI.out | exact HI.out.go (Below.refl _ _).drew) (fun hHeld => ?_)
  clear hK K
  try simp only [Act.put, List.setIfInBounds_toArray, List.set_cons_zero, List.set_cons_succ]
  refine one_to (i := 3) (l' := #[true, true, true, true, false, false, false]) rfl (by kernel_rfl) (by kernel_rfl) (fun K hK => ?_)
  go_simp
  refine (MT.out _).mono ?_
  rintro e V ⟨rfl, hb⟩
  replace HI := Lib.hid (HI.out.go hb)
  replace HR1 := Lib.hid ((HR1.out.below hb).mono hb.size)
  clear hb
  dsimp only
  refine hK.out _ _ (by first | exact HI.out | exact HI.out.go (Below.refl _ _).drew) (fun hHeld => ?_)
  clear hK K
  try simp only [Act.put, List.setIfInBounds_toArray, List.set_cons_zero, List.set_cons_succ]
  refine one_to (i := 4) (l' := #[true, true, true, true, true, false, false]) rfl (by kernel_rfl) (by kernel_rfl) (fun K hK => ?_)
  go_simp
  refine (MB.out _ HI.out.gs HI.out.gm HI.out.s).mono ?_
  rintro e V ⟨v, rfl, hb, hown⟩
  obtain ⟨p2, c2, rfl, hr2⟩ := reads3_own hown
  replace HI := Lib.hid (HI.out.go hb)
  replace HR1 := Lib.hid ((HR1.out.below hb).mono hb.size)
  have HR2 := Lib.hid hr2
  clear hb hown hr2
  dsimp only
  refine hK.out _ _ (by first | exact HI.out | exact HI.out.go (Below.refl _ _).drew) (fun hHeld => ?_)
  clear hK K
  try simp only [Act.put, List.setIfInBounds_toArray, List.set_cons_zero, List.set_cons_succ]
  refine take_to (i := 5) (d := some 3) (v := ?_) (l' := #[true, true, true, true, true, true, false]) rfl rfl (by kernel_rfl) (by kernel_rfl) (by kernel_rfl) (by kernel_rfl) (fun _ _ _ h => h) (Or.inl ⟨by rfl, ?_⟩) (by assumption) ?_; rotate_left; · (intro w' hSw; (try dsimp only at hSw); go_simp; (try with_reducible rfl))
  try simp only [Act.put, List.setIfInBounds_toArray, List.set_cons_zero, List.set_cons_succ]
  refine take_to (i := 6) (d := some 4) (v := ?_) (l' := #[true, true, true, true, true, true, true]) rfl rfl (by kernel_rfl) (by kernel_rfl) (by kernel_rfl) (by kernel_rfl) (fun _ _ _ h => h) (Or.inl ⟨by rfl, ?_⟩) (by assumption) ?_; rotate_left; · (intro w' hSw; (try dsimp only at hSw); go_simp; (try with_reducible rfl))
  try simp only [Act.put, List.setIfInBounds_toArray, List.set_cons_zero, List.set_cons_succ]
  refine wpAnyH_done (by kernel_rfl) ?_ _
  refine NoPanic.normal ?_
  clear hHeld
  replace HI := Lib.hid ((HI.out.addR HR1.out).addR HR2.out)
  clear HR1 HR2 MA MB MT
  obtain ⟨N, hN⟩ : ∃ N, L.length = N := ⟨_, rfl⟩
  have hRN : R.length = N := by rw [HLEN.out, hN]
  rw [hRN, hN]
  rw [hN] at HAT HL
  rw [hRN] at HAT
  have HRN := Lib.hid (And.intro hN hRN)
  have hN17 : N ≤ 100000 := HL.out.1
  clear hN hRN HLEN
  go_wp2
  go_loopw [5] (fun iv wr => ∃ i : Nat, i ≤ N ∧ iv = .int .i64 (i : Int) ∧ LQ B w wr [(w.heap.size, P)] [] [(p2, R), (p1, L)]) (fun iv _ => N - (intOf iv).toNat)
  case atStart => exact ⟨0, Nat.zero_le _, rfl, HI.out⟩
  case round =>
    clear HI
    obtain ⟨W0, rfl⟩ : ∃ x, x = wr := ⟨_, rfl⟩
    obtain ⟨i, hi, rfl, h1⟩ := hrel
    have HI := Lib.hid h1
    clear h1
    by_cases hin : i < N
    · have hl : Reads3 W0.heap.size W0 p1 L.length (mF L) (mT L) (mK L) := HI.out.rw1
      have hr : Reads3 W0.heap.size W0 p2 R.length (mF R) (mT R) (mK R) := HI.out.rw0
      rw [HRN.out.1] at hl
      rw [HRN.out.2] at hr
      obtain ⟨⟨f0, f1⟩, ⟨t0, t1⟩, ix, hix, g1, g2, g3⟩ := HAT.out i hin
      obtain ⟨lb, lo, rfl⟩ := hl.addr hin
      obtain ⟨rb, ro, rfl⟩ := hr.addr hix
      obtain ⟨x0, x1, x2⟩ := hl.cells hin
      obtain ⟨f, hf⟩ : ∃ z, mF L i = z := ⟨_, rfl⟩
      obtain ⟨t, ht⟩ : ∃ z, mT L i = z := ⟨_, rfl⟩
      obtain ⟨k, hk⟩ : ∃ z, mK L i = z := ⟨_, rfl⟩
      rw [hf] at x0 f0 f1 g1
      rw [ht] at x1 t0 t1 g2
      rw [hk] at x2 g3
      obtain ⟨q1, hq1⟩ : ∃ z, f / 8 = z := ⟨_, rfl⟩
      obtain ⟨r1, hr1⟩ : ∃ z, f % 8 = z := ⟨_, rfl⟩
      obtain ⟨q2, hq2⟩ : ∃ z, t / 8 = z := ⟨_, rfl⟩
      obtain ⟨r2, hr2⟩ : ∃ z, t % 8 = z := ⟨_, rfl⟩
      obtain ⟨g, hg⟩ : ∃ z, mI f = z := ⟨_, rfl⟩
      obtain ⟨h, hh⟩ : ∃ z, mI t = z := ⟨_, rfl⟩
      rw [hg] at g1
      rw [hh] at g2
      have u1 : f.tdiv 8 = q1 := by rw [Int.tdiv_eq_ediv_of_nonneg f0]; exact hq1
      have u2 : f.tmod 8 = r1 := by rw [Int.tmod_eq_emod_of_nonneg f0]; exact hr1
      have u3 : wrap64 q1 = q1 := by unfold wrap64; omega
      have u4 : wrap64 (7 - q1) = 7 - q1 := by unfold wrap64; omega
      have u5' : wrap64 (8 * (7 - q1)) = 8 * (7 - q1) := by unfold wrap64; omega
      have u6' : wrap64 (8 * (7 - q1) + r1) = g := by rw [← hg]; unfold wrap64 mI; omega
      have v1 : t.tdiv 8 = q2 := by rw [Int.tdiv_eq_ediv_of_nonneg t0]; exact hq2
      have v2 : t.tmod 8 = r2 := by rw [Int.tmod_eq_emod_of_nonneg t0]; exact hr2
      have v3 : wrap64 q2 = q2 := by unfold wrap64; omega
      have v4 : wrap64 (7 - q2) = 7 - q2 := by unfold wrap64; omega
      have v5 : wrap64 (8 * (7 - q2)) = 8 * (7 - q2) := by unfold wrap64; omega
      have v6 : wrap64 (8 * (7 - q2) + r2) = h := by rw [← hh]; unfold wrap64 mI; omega
      have HIX := Lib.hid (And.intro hix (And.intro g1 (And.intro g2 g3)))
      have HIN := Lib.hid hin
      have HR := Lib.hid hr
      have hxM : (i : Int) < (N : Int) := by omega
      clear hl hr hf ht hk hq1 hr1 hq2 hr2 hg hh hix g1 g2 g3 f0 f1 t0 t1 hi
      go_upto_region 12 with (fail)
      refine forget_B (fun W => LMv B w W0 W W0.heap.size f t k) ⟨below_new _, sl_at rfl, Nat.le_refl _⟩ ?_
      clear x0 x1 x2
      intro W2 h2
      have HM := Lib.hid h2
      clear h2
      generalize W0.heap.size = mb at HM ⊢
      obtain ⟨m0, m1, m2, mf, mz⟩ := row3 HM.out.m
      go_upto_region 13 with (fail)
      refine forget_B (fun W => LMv B w W0 W mb g t k) (HM.out.set0 g) ?_
      clear HM m0 m1 m2 mf mz u1 u2 u3 u4 u5' u6'
      intro W3 h2
      have HM := Lib.hid h2
      clear h2
      obtain ⟨m0, m1, m2, mf, mz⟩ := row3 HM.out.m
      go_upto_region 14 with (fail)
      refine forget_B (fun W => LMv B w W0 W mb g h k) (HM.out.set1 h) ?_
      clear HM m0 m1 m2 mf mz v1 v2 v3 v4 v5 v6
      intro W4 h2
      have HM := Lib.hid h2
      clear h2
      go_wp2
      go_loopw [7, 8] (fun fv kv wq => ∃ (j : Nat) (fb : Bool), j ≤ N ∧ fv = .bool fb ∧ kv = .int .i64 (j : Int) ∧ (ix < j → fb = true) ∧ LMv B w W0 wq mb g h k) (fun _ kv _ => N - (intOf kv).toNat)
      case atStart => exact ⟨0, false, Nat.zero_le _, rfl, rfl, fun hx => absurd hx (by omega), HM.out⟩
      case round =>
        clear HM
        obtain ⟨j, fb, hj, rfl, rfl, hfb, h1⟩ := hrel
        have HM := Lib.hid h1
        clear h1
        by_cases hjn : j < N
        · have HJ := Lib.hid hjn
          have hr := HR.out.below HM.out.b
          obtain ⟨y0, y1, y2⟩ := hr.cells hjn
          obtain ⟨m0, m1, m2, mf, mz⟩ := row3 HM.out.m
          obtain ⟨yf, hyf⟩ : ∃ z, mF R j = z := ⟨_, rfl⟩
          obtain ⟨yt, hyt⟩ : ∃ z, mT R j = z := ⟨_, rfl⟩
          obtain ⟨yk, hyk⟩ : ∃ z, mK R j = z := ⟨_, rfl⟩
          rw [hyf] at y0
          rw [hyt] at y1
          rw [hyk] at y2
          have HEQ := Lib.hid (show j = ix → (yf == g && yt == h && yk == k) = true from fun e => by
            subst e
            rw [← hyf, ← hyt, ← hyk, HIX.out.2.1, HIX.out.2.2.1, HIX.out.2.2.2]; simp)
          have NX := Lib.hid (fun W => eql_mv9 yf yt yk g h k W)
          replace y0 := cell_regrown y0
          replace y1 := cell_regrown y1
          replace y2 := cell_regrown y2
          replace m0 := cell_regrown m0
          replace m1 := cell_regrown m1
          replace m2 := cell_regrown m2
          have hji : (j : Int) < (N : Int) := by omega
          have hjd : decide ((j : Int) < (N : Int)) = true := by simp; omega
          have hjm : ¬ ((N : Int) ≤ (j : Int)) := by omega
          have hjk : decide ((N : Int) ≤ (j : Int)) = false := by simp; omega
          have hwj : IntKind.i64.wrap ((j : Int) + 1) = ((j + 1 : Nat) : Int) := by rw [IntWalk.i64_in _ (by omega)]; omega
          have HFB := Lib.hid hfb
          clear hr hyf hyt hyk mf mz hj hfb
          cases fb
          · go_upto_region 18 with (fail)
            refine wp_region_quiet_below (by kernel_rfl) (by kernel_rfl) ?_
            iterate 7 (go_big_quiet_step (fail))
            refine wpQuiet_bin (by rfl) _ _ _ _ _ (by rfl) (.agg #[.int .i64 yf, .int .i64 yt, .int .i64 yk]) (.agg #[.int .i64 g, .int .i64 h, .int .i64 k]) (.bool (yf == g && yt == h && yk == k)) (by rfl) (by rfl) (fun W => by go_simp) NX.out ?_
            try simp only [Act.put, List.setIfInBounds_toArray, List.set_cons_zero, List.set_cons_succ]
            obtain ⟨bb, hbb⟩ : ∃ b, (yf == g && yt == h && yk == k) = b := ⟨_, rfl⟩
            rw [hbb] at HEQ ⊢
            clear hbb
            repeat (go_big_quiet_step (fail))
            refine wpQuiet_nil ?_
            rintro W9 ⟨pq, rfl⟩
            replace HM := Lib.hid (show LMv B w W0 (grow (redrawn wr pq.d) pq.os) mb g h k from ⟨HM.out.b.trans ((below_regrown wr pq.d pq.os).mono HM.out.b.size), sl_go HM.out.m (below_regrown wr pq.d pq.os), HM.out.l⟩)
            generalize grow (redrawn wr pq.d) pq.os = W9 at HM ⊢
            clear y0 y1 y2 m0 m1 m2 NX
            go_wp2
            go_roundw
            case rel => exact ⟨j + 1, bb, by have := HJ.out; omega, rfl, rfl, fun hx => by
              by_cases e : j = ix
              · exact HEQ.out e
              · exact absurd (HFB.out (by omega)) (by simp), HM.out⟩
            case measure => have := HJ.out; simp [intOf]; omega
          · go_upto_region 18 with (fail)
            refine wp_region_quiet_below (by kernel_rfl) (by kernel_rfl) ?_
            repeat (go_big_quiet_step (fail))
            refine wpQuiet_nil ?_
            rintro W9 ⟨pq, rfl⟩
            replace HM := Lib.hid (show LMv B w W0 (grow (redrawn wr pq.d) pq.os) mb g h k from ⟨HM.out.b.trans ((below_regrown wr pq.d pq.os).mono HM.out.b.size), sl_go HM.out.m (below_regrown wr pq.d pq.os), HM.out.l⟩)
            generalize grow (redrawn wr pq.d) pq.os = W9 at HM ⊢
            clear y0 y1 y2 m0 m1 m2 NX
            go_wp2
            go_roundw
            case rel => exact ⟨j + 1, true, by have := HJ.out; omega, rfl, rfl, fun _ => rfl, HM.out⟩
            case measure => have := HJ.out; simp [intOf]; omega
        · obtain rfl : j = N := by omega
          obtain rfl := hfb HIX.out.1
          have hwi : IntKind.i64.wrap ((i : Int) + 1) = ((i + 1 : Nat) : Int) := by rw [IntWalk.i64_in _ (by omega)]; omega
          have HI2 := Lib.hid (HI.out.go HM.out.b)
          clear HM HI hfb hjn hj
          go_wp2
          go_roundw
          case rel => exact ⟨i + 1, by have := HIN.out; omega, rfl, HI2.out⟩
          case measure => have := HIN.out; simp [intOf]; omega
    · obtain rfl : i = N := by omega
      clear HAT hin hi
      go_wp2_with (first | refine wpList_new X P HX.out (by rfl) (by rfl) ?_ | refine wpList_pos (by rfl) _ (by rfl) w.heap.size P X HX.out (by rfl) HI.out.at0 ?_)
      intro W1 hq hb hz
      try simp only [Act.put, List.setIfInBounds_toArray, List.set_cons_zero, List.set_cons_succ]
      have HQB := Lib.hid hq
      have HB1 := Lib.hid hb
      obtain ⟨sd, hsd⟩ : ∃ x, P 128 = x := ⟨_, rfl⟩
      have e1 : W1.cell? ⟨w.heap.size, 128, none⟩ = some (.int .i64 (P 128)) := (HI.out.at0.go hb).cell 128 (by omega)
      have hfr := hq.fr 128
      have e2 := hq.cell 128 (by omega)
      rw [hsd] at e1 e2
      rw [hsd] at HQ
      clear hq hb hz
      go_wp2_with fail
      refine (other_any sd _).mono ?_
      rintro e w5 ⟨rfl, rfl⟩
      go_upto_region 23 with (fail)
      refine forget_B (fun W => LQ B w W [(w.heap.size, P)] [] [(p2, R), (p1, L)] ∧ PB W W0.heap.size Q) ⟨HI.out.go (HB1.out.setCell (p := ⟨W0.heap.size, 128, none⟩) (Nat.le_refl _) _), by rw [HQ.out]; exact HQB.out.set 128 _ (by omega)⟩ ?_
      clear HI HQB HB1 e1 e2 hfr
      rintro W6 ⟨h1, h2⟩
      have HI := Lib.hid h1
      have HQB := Lib.hid h2
      clear h1 h2
      generalize W0.heap.size = qb at HQB ⊢
      go_wp2_with (refine wpList_pos (by rfl) _ (by rfl) qb Q Z HZ.out (by rfl) HQB.out ?_)
      refine (MC.out _ HI.out.gs HI.out.gm HI.out.s).mono ?_
      rintro e w8 ⟨v, rfl, hb, hown⟩
      obtain ⟨p3, c3, rfl, hr3⟩ := reads3_own hown
      replace HI := Lib.hid ((HI.out.go hb).addR hr3)
      obtain ⟨NC, hNC⟩ : ∃ n, C.length = n := ⟨_, rfl⟩
      rw [hNC] at HL HOT ⊢
      have HNC := Lib.hid hNC
      clear hb hown hr3 hNC HQB MC HRN
      go_wp2
      go_loopw [11] (fun iv W0 => ∃ i : Nat, i ≤ NC ∧ iv = .int .i64 (i : Int) ∧ LQ B w W0 [(w.heap.size, P)] [] [(p3, C), (p2, R), (p1, L)]) (fun iv _ => NC - (intOf iv).toNat)
      case atStart => exact ⟨0, Nat.zero_le _, rfl, HI.out⟩
      case round =>
        clear HI
        obtain ⟨i, hi, rfl, h1⟩ := hrel
        have HI := Lib.hid h1
        clear h1
        have hNC17 : NC ≤ 100000 := HL.out.2
        by_cases hin : i < NC
        · have hl : Reads3 wr.heap.size wr p3 C.length (mF C) (mT C) (mK C) := HI.out.rw0
          rw [HNC.out] at hl
          obtain ⟨s, hs64, hsf, hsn⟩ := HOT.out i hin
          obtain ⟨lb, lo, rfl⟩ := hl.addr hin
          obtain ⟨x0, x1, x2⟩ := hl.cells hin
          rw [hsf] at x0
          rw [hsd] at hsn
          obtain ⟨dd, hdd⟩ : ∃ x, P (s * 2 + 1) = x := ⟨_, rfl⟩
          rw [hdd] at hsn
          have hp0 : PB wr w.heap.size P := HI.out.at0
          have z1 := hp0.cell (s * 2 + 1) (by omega)
          have z2 := hp0.cell 128 (by omega)
          rw [hdd] at z1
          rw [hsd] at z2
          replace x0 := cell_regrown x0
          replace z1 := cell_regrown z1
          replace z2 := cell_regrown z2
          have s0 : (0 : Int) ≤ s := by omega
          have s1 : (s : Int) < 64 := by omega
          have hji : (i : Int) < (NC : Int) := by omega
          have hjd : decide ((i : Int) < (NC : Int)) = true := by simp; omega
          have hjm : ¬ ((NC : Int) ≤ (i : Int)) := by omega
          have hjk : decide ((NC : Int) ≤ (i : Int)) = false := by simp; omega
          have hwi : IntKind.i64.wrap ((i : Int) + 1) = ((i + 1 : Nat) : Int) := by rw [IntWalk.i64_in _ (by omega)]; omega
          have HIN := Lib.hid hin
          clear hl hsf hs64 hdd x1 x2 hi hp0
          go_upto_region 27 with (fail)
          refine wp_region_quiet_below (by kernel_rfl) (by kernel_rfl) ?_
          repeat (go_big_quiet_step (fail))
          refine wpQuiet_nil ?_
          rintro W9 ⟨pq, rfl⟩
          replace HI := Lib.hid (HI.out.go (below_regrown wr pq.d pq.os))
          generalize grow (redrawn wr pq.d) pq.os = W9 at HI ⊢
          clear x0 z1 z2
          go_wp2
          go_roundw
          case rel => exact ⟨i + 1, by have := HIN.out; omega, rfl, HI.out⟩
          case measure => have := HIN.out; simp [intOf]; omega
        · obtain rfl : i = NC := by omega
          go_wp2
          go_ret
          exact ⟨rfl, HI.out.b⟩
end Go.Proofs.YtjhlombbkodpaaaDoor
