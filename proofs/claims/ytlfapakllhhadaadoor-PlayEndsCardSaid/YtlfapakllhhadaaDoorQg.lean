/-
  The law PlayTurns: what its end needs; its walk.
-/
import Derived.Test.YtlfapakllhhadaaDoorG14
import Derived.Test.YtlfapakllhhadaaDoorPy
import Derived.Test.YtlfapakllhhadaaDoorG9
import Derived.Test.YtlfapakllhhadaaDoorBi
import Derived.Test.YtlfapakllhhadaaDoorG19
import Derived.Test.YtlfapakllhhadaaDoorG13
import Derived.Test.YtlfapakllhhadaaDoorPi
import Derived.Deep.CutRange
namespace Go.Proofs.YtlfapakllhhadaaDoor
open Go.RowKit Go.Sort
set_option linter.unusedSimpArgs false
set_option linter.unusedVariables false
set_option maxRecDepth 20000

theorem mdF_sq (P : Nat → Int) (a : Int) : ∃ n : Nat, n < 64 ∧ mdF P a = (n : Int) := by
  unfold mdF
  split
  · exact ⟨0, by omega, rfl⟩
  · rename_i h
    have hp : 0 < (ownL P 64).length := Nat.pos_of_ne_zero h
    have h1 : 0 ≤ a % ((ownL P 64).length : Int) := Int.emod_nonneg _ (by omega)
    have h2 : a % ((ownL P 64).length : Int) < (ownL P 64).length := Int.emod_lt_of_pos _ (by omega)
    have h3 : (a % ((ownL P 64).length : Int)).toNat < (ownL P 64).length := by omega
    have hg : (ownL P 64).getD (a % ((ownL P 64).length : Int)).toNat 0 = (ownL P 64)[(a % ((ownL P 64).length : Int)).toNat] := by simp [List.getD, h3]
    obtain ⟨j, hj, e, _⟩ := ownL_mem P 64 _ (List.getElem_mem h3)
    exact ⟨j, hj, by rw [hg, e]⟩
theorem mdT_sq (P : Nat → Int) (a : Int) : ∃ n : Nat, n < 64 ∧ mdT P a = (n : Int) := by
  unfold mdT
  split
  · exact ⟨0, by omega, rfl⟩
  · exact ⟨(a % 64).toNat, by omega, by omega⟩
theorem flt_hturn (P : Nat → Int) (h : rightB P = true) (f t : Nat) (k : Int) (hf : f < 64) (ht : t < 64) : fltN (handP (turnN P)) (mir f : Nat) (mir t : Nat) k = fltN (handP P) f t k := by
  rw [right_hand P h, right_hand_turn P h, fltN_turn P (right_fit P h) (right_side P h) f t hf ht]
theorem tkP_turn (P : Nat → Int) (h : rightB P = true) (f t : Nat) (k : Int) (hf : f < 64) (ht : t < 64) :
    (tkP P f t k = -1 ∧ tkP (turnN P) (mir f : Nat) (mir t : Nat) k = -1) ∨ ∃ n : Nat, n < 64 ∧ tkP P f t k = (n : Int) ∧ tkP (turnN P) (mir f : Nat) (mir t : Nat) k = ((mir n : Nat) : Int) := by
  unfold tkP
  rw [flt_hturn P h f t k hf ht, right_hand P h, right_hand_turn P h]
  by_cases h0 : fltN P f t k = 0
  · rw [if_pos h0, if_pos h0]
    simp only [Int.toNat_natCast]
    rw [tksN_turn P (right_fit P h) f t hf ht]
    rcases tks_cases P f t hf ht with e | ⟨n, e, hn⟩
    · rw [e]; exact .inl ⟨rfl, rfl⟩
    · rw [e, if_neg (by omega)]; exact .inr ⟨n, hn, rfl, by simp⟩
  · rw [if_neg h0, if_neg h0]; exact .inl ⟨rfl, rfl⟩
theorem mv_side (P : Nat → Int) (h : rightB P = true) (f t : Nat) (k : Int) (hf : f < 64) (ht : t < 64) (h0 : fltN (handP P) f t k = 0) : mvP P f t k 128 = oth (P 128) := by
  unfold mvP
  rw [if_pos h0, right_hand P h]
  simp only [Int.toNat_natCast]
  unfold cmN
  rw [lst_side, pcs_end _ _ _ _ hf ht _ (by omega), cnt_off _ _ _ (by omega) (by omega)]
theorem mv_back (P : Nat → Int) (h : rightB P = true) (f t : Nat) (k : Int) (hf : f < 64) (ht : t < 64) (h0 : fltN (handP P) f t k = 0) :
    posEq (setN (turnN (mvP P f t k)) 132 (mvP (turnN P) (mir f : Nat) (mir t : Nat) k 132)) (mvP (turnN P) (mir f : Nat) (mir t : Nat) k) = true := by
  rw [right_hand P h] at h0
  refine (posEq_iff _ _).2 fun i hi => ?_
  by_cases e : i = 132
  · subst e; rw [setN_at]
  · rw [setN_off _ _ _ _ e, mv_turn P h f t k hf ht h0 i hi e]
/-- what stands in a law: positions in blocks, other things in blocks, what the package's variables hold -/
structure TQ (B : Nat) (w W : World) (bs : List (Nat × (Nat → Int))) (os : List (Nat × Obj)) : Prop where
  p : ∀ x ∈ bs, PB W x.1 x.2
  o : ∀ x ∈ os, W.heap[x.1]? = some x.2
  g : GB B W
  c : GP B W
  b : Below w.heap.size w W
  s : B ≤ W.heap.size
theorem TQ.go {B : Nat} {w W W' : World} {bs : List (Nat × (Nat → Int))} {os : List (Nat × Obj)} (h : TQ B w W bs os) (g : Below W.heap.size W W') : TQ B w W' bs os :=
  ⟨fun x hx => (h.p x hx).go g, fun x hx => sl_go (h.o x hx) g, h.g.below (g.mono h.s), h.c.below (g.mono h.s), h.b.trans (g.mono h.b.size), Nat.le_trans h.s g.size⟩
theorem TQ.addP {B : Nat} {w W : World} {bs : List (Nat × (Nat → Int))} {os : List (Nat × Obj)} {H : Nat} {Q : Nat → Int} (h : TQ B w W bs os) (hp : PB W H Q) : TQ B w W ((H, Q) :: bs) os :=
  ⟨fun x hx => by
    rcases List.mem_cons.1 hx with rfl | hx
    · exact hp
    · exact h.p x hx, h.o, h.g, h.c, h.b, h.s⟩
theorem TQ.addO {B : Nat} {w W : World} {bs : List (Nat × (Nat → Int))} {os : List (Nat × Obj)} {H : Nat} {O : Obj} (h : TQ B w W bs os) (ho : W.heap[H]? = some O) : TQ B w W bs ((H, O) :: os) :=
  ⟨h.p, fun x hx => by
    rcases List.mem_cons.1 hx with rfl | hx
    · exact ho
    · exact h.o x hx, h.g, h.c, h.b, h.s⟩
theorem TQ.at0 {B : Nat} {w W : World} {bs : List (Nat × (Nat → Int))} {os : List (Nat × Obj)} {x : Nat × (Nat → Int)} (h : TQ B w W (x :: bs) os) : PB W x.1 x.2 := h.p x (List.mem_cons_self ..)
theorem TQ.at1 {B : Nat} {w W : World} {bs : List (Nat × (Nat → Int))} {os : List (Nat × Obj)} {x y : Nat × (Nat → Int)} (h : TQ B w W (x :: y :: bs) os) : PB W y.1 y.2 := h.p y (by simp)
theorem TQ.at2 {B : Nat} {w W : World} {bs : List (Nat × (Nat → Int))} {os : List (Nat × Obj)} {x y z : Nat × (Nat → Int)} (h : TQ B w W (x :: y :: z :: bs) os) : PB W z.1 z.2 := h.p z (by simp)
theorem TQ.at3 {B : Nat} {w W : World} {bs : List (Nat × (Nat → Int))} {os : List (Nat × Obj)} {x y z u : Nat × (Nat → Int)} (h : TQ B w W (x :: y :: z :: u :: bs) os) : PB W u.1 u.2 := h.p u (by simp)
theorem TQ.ob0 {B : Nat} {w W : World} {bs : List (Nat × (Nat → Int))} {os : List (Nat × Obj)} {x : Nat × Obj} (h : TQ B w W bs (x :: os)) : W.heap[x.1]? = some x.2 := h.o x (List.mem_cons_self ..)
theorem TQ.ob1 {B : Nat} {w W : World} {bs : List (Nat × (Nat → Int))} {os : List (Nat × Obj)} {x y : Nat × Obj} (h : TQ B w W bs (x :: y :: os)) : W.heap[y.1]? = some y.2 := h.o y (by simp)
theorem TQ.low {B : Nat} {w W : World} {bs : List (Nat × (Nat → Int))} {os : List (Nat × Obj)} (h : TQ B w W bs os) : (∀ x ∈ bs, x.1 < W.heap.size) ∧ (∀ x ∈ os, x.1 < W.heap.size) ∧ w.heap.size ≤ W.heap.size ∧ B ≤ W.heap.size :=
  ⟨fun x hx => (h.p x hx).lt, fun x hx => al_lt (h.o x hx), h.b.size, h.s⟩
theorem TQ.below {B H : Nat} {w W W' : World} {bs : List (Nat × (Nat → Int))} {os : List (Nat × Obj)} (h : TQ B w W bs os) (l : (∀ x ∈ bs, x.1 < H) ∧ (∀ x ∈ os, x.1 < H) ∧ w.heap.size ≤ H ∧ B ≤ H) (g : Below H W W') : TQ B w W' bs os :=
  ⟨fun x hx => (h.p x hx).below g (l.1 x hx), fun x hx => (g.block x.1 (l.2.1 x hx)).trans (h.o x hx), h.g.below (g.mono l.2.2.2), h.c.below (g.mono l.2.2.2), h.b.trans (g.mono l.2.2.1), Nat.le_trans h.s g.size⟩
/-- the position that the law is handed -/
theorem TQ.begin {B : Nat} {w : World} (P : Nat → Int) (X : Array Value) (hX : X = (pc P).toArray) (hg : GB B w) (hc : GP B w) (hB : B ≤ w.heap.size) : TQ B w (w.alloc (.cells X 29)) [(w.heap.size, P)] [] :=
  { p := fun x hx => by
      rcases List.mem_cons.1 hx with rfl | hx
      · subst hX; exact PB.new rfl
      · cases hx
    o := fun x hx => by cases hx
    g := hg.below ((below_new (w := w) _).mono hB)
    c := hc.below ((below_new (w := w) _).mono hB)
    b := below_new _
    s := Nat.le_trans hB (by simp) }
set_option maxHeartbeats 8000000 in
set_option maxRecDepth 100000 in
theorem turns_play (P : Nat → Int) (a1 a2 a3 : Int) (w : World) (B : Nat) (hg : GB B w) (hc : GP B w) (hB : B ≤ w.heap.size) :
    Calls Tryd.prog 4 #[.agg (pc P).toArray, .int .i64 a1, .int .i64 a2, .int .i64 a3] w fun e w' => e = .returned (.bool true) ∧ Below w.heap.size w w' := by
  obtain ⟨X, hX⟩ : ∃ X, X = (pc P).toArray := ⟨_, rfl⟩
  obtain ⟨T, hT⟩ : ∃ T, T = (pc (turnN P)).toArray := ⟨_, rfl⟩
  have HI := Lib.hid (TQ.begin P X hX hg hc hB)
  have MR := Lib.hid (fun W h1 h2 => right_any P W B h1 h2)
  have MT := Lib.hid (turn_any P)
  have MM := Lib.hid (made_any P a1 a2 a3)
  rw [← hX] at MR MT MM ⊢
  rw [← hT] at MT
  obtain ⟨fn, hf, ef⟩ := mdF_sq P a1
  obtain ⟨tn, ht, et⟩ := mdT_sq P a2
  obtain ⟨kb, hkb⟩ : ∃ k, mdB P (mdF P a1) (mdT P a2) a3 = k := ⟨_, rfl⟩
  rw [hkb, ef, et] at MM
  have MV := Lib.hid (fun W h1 h2 => move_any P (fn : Int) (tn : Int) kb W B h1 h2)
  have MW := Lib.hid (fun W h1 h2 => move_any (turnN P) ((mir fn : Nat) : Int) ((mir tn : Nat) : Int) kb W B h1 h2)
  have MK := Lib.hid (takesP_any P (fn : Int) (tn : Int) kb)
  have ML := Lib.hid (takesP_any (turnN P) ((mir fn : Nat) : Int) ((mir tn : Nat) : Int) kb)
  obtain ⟨q, hq⟩ : ∃ q, mvP P (fn : Int) (tn : Int) kb = q := ⟨_, rfl⟩
  obtain ⟨r, hr⟩ : ∃ r, mvP (turnN P) ((mir fn : Nat) : Int) ((mir tn : Nat) : Int) kb = r := ⟨_, rfl⟩
  obtain ⟨er, her⟩ : ∃ e, fltN (handP P) (fn : Int) (tn : Int) kb = e := ⟨_, rfl⟩
  obtain ⟨Z, hZ⟩ : ∃ Z, Z = (pc q).toArray := ⟨_, rfl⟩
  obtain ⟨V, hV⟩ : ∃ V, V = (pc r).toArray := ⟨_, rfl⟩
  rw [← hX] at MV MK
  rw [← hT] at MW ML
  rw [hq, ← hZ, her] at MV
  rw [hr, ← hV] at MW
  have MU := Lib.hid (turn_any q)
  rw [← hZ] at MU
  have HRR := Lib.hid (show rightB P = true → fltN (handP (turnN P)) ((mir fn : Nat) : Int) ((mir tn : Nat) : Int) kb = er from fun h => by rw [flt_hturn P h fn tn kb hf ht, her])
  have HZE := Lib.hid (show er ≠ 0 → q = fun _ => 0 from fun h => by rw [← hq]; unfold mvP; rw [if_neg (by rw [her]; exact h)])
  have HTK := Lib.hid (fun h => tkP_turn P h fn tn kb hf ht)
  have HSD := Lib.hid (show rightB P = true → er = 0 → q 128 = oth (P 128) from fun h h0 => by rw [← hq]; exact mv_side P h fn tn kb hf ht (by rw [her]; exact h0))
  have HBK := Lib.hid (show rightB P = true → er = 0 → posEq (setN (turnN q) 132 (r 132)) r = true from fun h h0 => by rw [← hq, ← hr]; exact mv_back P h fn tn kb hf ht (by rw [her]; exact h0))
  have HX := Lib.hid hX
  have HT := Lib.hid hT
  have HZ := Lib.hid hZ
  have HV := Lib.hid hV
  have HF := Lib.hid hf
  have HTN := Lib.hid ht
  clear hX hT hZ hV hq hr her hf ht ef et hkb hg hc hB
  go_enter Tryd.func4, Tryd.ntmps4
  go_upto_region 1 with (fail)
  refine forget_B (fun W => TQ B w W [(w.heap.size, P)] []) HI.out ?_
  clear HI
  intro W hi
  have HI := Lib.hid hi
  clear hi
  go_wp2_with fail
  refine (awakeP_any _ B HI.out.c HI.out.s).mono ?_
  rintro e w1 ⟨rfl, hb⟩
  replace HI := Lib.hid (HI.out.go hb)
  clear hb
  go_wp2_with (refine wpList_pos (by rfl) _ (by rfl) w.heap.size P X HX.out (by rfl) HI.out.at0 ?_)
  refine (MR.out _ HI.out.g HI.out.s).mono ?_
  obtain ⟨rb, hrb⟩ : ∃ b, rightB P = b := ⟨_, rfl⟩
  rw [hrb]
  rintro e w3 ⟨rfl, hb⟩
  replace HI := Lib.hid (HI.out.go hb)
  clear hb
  cases rb
  · go_wp2
    go_ret
    exact ⟨rfl, HI.out.b⟩
  have HTR := Lib.hid (HRR.out hrb)
  rw [HTR.out] at MW
  replace HTK := Lib.hid (HTK.out hrb)
  replace HSD := Lib.hid (HSD.out hrb)
  replace HBK := Lib.hid (HBK.out hrb)
  clear HRR HTR hrb
  go_wp2_with (refine wpList_pos (by rfl) _ (by rfl) w.heap.size P X HX.out (by rfl) HI.out.at0 ?_)
  refine (MM.out _).mono ?_
  unfold mvV
  rintro e w5 ⟨rfl, hb⟩
  replace HI := Lib.hid (HI.out.go hb)
  clear hb
  go_upto_region 6 with (fail)
  replace HI := Lib.hid ((HI.out.go (below_new (w := w5) (.cells #[.int .i64 (fn : Int), .int .i64 (tn : Int), .int .i64 kb] 34))).addO (H := w5.heap.size) (O := .cells #[.int .i64 (fn : Int), .int .i64 (tn : Int), .int .i64 kb] 34 (0, 0)) (sl_at rfl))
  generalize w5.heap.size = mb at HI ⊢
  generalize w5.alloc (.cells #[.int .i64 (fn : Int), .int .i64 (tn : Int), .int .i64 kb] 34) = w6 at HI ⊢
  obtain ⟨m0, m1, m2, mf, _⟩ := row3 HI.out.ob0
  go_wp2_with (refine wpList_pos (by rfl) _ (by rfl) w.heap.size P X HX.out (by rfl) HI.out.at0 ?_)
  refine (MV.out _ HI.out.c HI.out.s).mono ?_
  rintro e w7 ⟨rfl, hb⟩
  replace HI := Lib.hid (HI.out.go hb)
  clear hb m0 m1 m2 mf
  go_wp2_with (refine wpList_new Z q HZ.out (by rfl) (by rfl) ?_)
  intro W8 hp8 hb hz
  replace HI := Lib.hid ((HI.out.go hb).addP hp8)
  clear hb hz hp8
  generalize w7.heap.size = qb at HI ⊢
  obtain ⟨m0, m1, m2, mf, _⟩ := row3 HI.out.ob0
  go_upto_region 8 with (fail)
  have HS8 := Lib.hid HI.out.low
  have HN := Lib.hid (show (W8.alloc (.cells #[.int .i64 (fn : Int), .int .i64 (tn : Int), .int .i64 kb] 34)).heap[W8.heap.size]? = some (.cells #[.int .i64 (fn : Int), .int .i64 (tn : Int), .int .i64 kb] 34 (0, 0)) from sl_at rfl)
  have HB9 := Lib.hid (below_new (w := W8) (.cells #[.int .i64 (fn : Int), .int .i64 (tn : Int), .int .i64 kb] 34))
  generalize W8.alloc (.cells #[.int .i64 (fn : Int), .int .i64 (tn : Int), .int .i64 kb] 34) = W9 at HN HB9 ⊢
  generalize W8.heap.size = nb at HS8 HN HB9 ⊢
  clear m0 m1 m2 mf
  obtain ⟨m0, m1, m2, mf, _⟩ := row3 (HI.out.below HS8.out HB9.out).ob0
  obtain ⟨n0, n1, n2, nf, _⟩ := row3 HN.out
  go_wp2_with fail
  refine (across_any fn HF.out _).mono ?_
  rintro e w10 ⟨rfl, rfl⟩
  go_upto_region 9 with (fail)
  replace HN := Lib.hid (show (W9.setCell ⟨nb, 0, none⟩ (.int .i64 ((mir fn : Nat) : Int))).heap[nb]? = some (.cells #[.int .i64 ((mir fn : Nat) : Int), .int .i64 (tn : Int), .int .i64 kb] 34 (0, 0)) from Go.heap_setCell_same W9 nb 0 _ _ (.int .i64 ((mir fn : Nat) : Int)) HN.out)
  replace HB9 := Lib.hid (HB9.out.setCell (p := ⟨nb, 0, none⟩) (Nat.le_refl _) (.int .i64 ((mir fn : Nat) : Int)))
  clear m0 m1 m2 mf n0 n1 n2 nf
  generalize W9.setCell ⟨nb, 0, none⟩ (.int .i64 ((mir fn : Nat) : Int)) = W10 at HN HB9 ⊢
  obtain ⟨m0, m1, m2, mf, _⟩ := row3 (HI.out.below HS8.out HB9.out).ob0
  obtain ⟨n0, n1, n2, nf, _⟩ := row3 HN.out
  go_wp2_with fail
  refine (across_any tn HTN.out _).mono ?_
  rintro e w11 ⟨rfl, rfl⟩
  go_upto_region 10 with (fail)
  replace HN := Lib.hid (show (W10.setCell ⟨nb, 1, none⟩ (.int .i64 ((mir tn : Nat) : Int))).heap[nb]? = some (.cells #[.int .i64 ((mir fn : Nat) : Int), .int .i64 ((mir tn : Nat) : Int), .int .i64 kb] 34 (0, 0)) from Go.heap_setCell_same W10 nb 1 _ _ (.int .i64 ((mir tn : Nat) : Int)) HN.out)
  replace HB9 := Lib.hid (HB9.out.setCell (p := ⟨nb, 1, none⟩) (Nat.le_refl _) (.int .i64 ((mir tn : Nat) : Int)))
  clear m0 m1 m2 mf n0 n1 n2 nf
  generalize W10.setCell ⟨nb, 1, none⟩ (.int .i64 ((mir tn : Nat) : Int)) = W11 at HN HB9 ⊢
  replace HI := Lib.hid ((HI.out.below HS8.out HB9.out).addO HN.out)
  clear HN HB9 HS8
  have HVL := Lib.hid (show V.toList = pc r by rw [HV.out])
  go_cut [13, 14] from 43 to 98 (fun v ev wx => ∃ H : Nat, v = .pointer (some ⟨H, 0, none⟩) ∧ ev = .int .i64 er ∧ TQ B w wx [(H, r), (qb, q), (w.heap.size, P)] [(nb, .cells #[.int .i64 ((mir fn : Nat) : Int), .int .i64 ((mir tn : Nat) : Int), .int .i64 kb] 34 (0, 0)), (mb, .cells #[.int .i64 (fn : Int), .int .i64 (tn : Int), .int .i64 kb] 34 (0, 0))])
  case first =>
    refine wp_region_noPanic ?_
    refine wp_region_start (n := 10) (l := #[false, false, false, false, false, false, false, false, false, false]) (S := (fun W => TQ B w W [(qb, q), (w.heap.size, P)] [(nb, .cells #[.int .i64 ((mir fn : Nat) : Int), .int .i64 ((mir tn : Nat) : Int), .int .i64 kb] 34 (0, 0)), (mb, .cells #[.int .i64 (fn : Int), .int .i64 (tn : Int), .int .i64 kb] 34 (0, 0))])) (by kernel_rfl) rfl (by kernel_rfl) (by first | exact HI.out | exact HI.out.go (Below.refl _ _).drew) (fun hHeld => ?_)
    replace HI := Lib.hid (HI.out.go (Below.refl W11.heap.size W11).drew)
    generalize W11.drew = V0 at hHeld HI ⊢
    refine take_to (i := 0) (d := some 44) (v := (.agg X)) (l' := #[true, false, false, false, false, false, false, false, false, false]) rfl rfl (by kernel_rfl) (by kernel_rfl) (by kernel_rfl) (by kernel_rfl) (fun _ _ _ h => h) ?_ (by assumption) ?_
    · exact yields_posC (by rfl) _ (by rfl) w.heap.size P X HX.out (by rfl) (fun W h => h.at1)
    try simp only [Act.put, List.setIfInBounds_toArray, List.set_cons_zero, List.set_cons_succ]
    refine take_to (i := 2) (d := some 46) (v := (.agg #[.int .i64 ((mir fn : Nat) : Int), .int .i64 ((mir tn : Nat) : Int), .int .i64 kb])) (l' := #[true, false, true, false, false, false, false, false, false, false]) rfl rfl (by kernel_rfl) (by kernel_rfl) (by kernel_rfl) (by kernel_rfl) (fun _ _ _ h => h) ?_ (by assumption) ?_
    · refine Or.inl ⟨by rfl, ?_⟩; intro w' hSw; obtain ⟨c0, c1, c2, _, _⟩ := row3 hSw.ob0; go_simp
    try simp only [Act.put, List.setIfInBounds_toArray, List.set_cons_zero, List.set_cons_succ]
    refine two_to (i := 1) (j := 7) (l1 := #[true, true, true, false, false, false, false, false, false, false]) (l2 := #[true, false, true, false, false, false, false, true, false, false]) rfl rfl (by kernel_rfl) (by kernel_rfl) (by kernel_rfl) (fun K hK => ?_) (fun K hK => ?_)
    · skip
      go_simp
      refine (MT.out _).mono ?_
      rintro e V0 ⟨rfl, hb⟩
      replace HI := Lib.hid (HI.out.go hb)
      try replace HZB := Lib.hid (HZB.out.go hb)
      clear hb
      dsimp only
      refine hK.out _ _ (by first | exact HI.out | exact HI.out.go (Below.refl _ _).drew) (fun hHeld => ?_)
      clear hK K
      try simp only [Act.put, List.setIfInBounds_toArray, List.set_cons_zero, List.set_cons_succ]
      refine two_to (i := 3) (j := 7) (l1 := #[true, true, true, true, false, false, false, false, false, false]) (l2 := #[true, true, true, false, false, false, false, true, false, false]) rfl rfl (by kernel_rfl) (by kernel_rfl) (by kernel_rfl) (fun K hK => ?_) (fun K hK => ?_)
      · skip
        go_simp
        refine (MW.out _ HI.out.c HI.out.s).mono ?_
        rintro e V0 ⟨rfl, hb⟩
        replace HI := Lib.hid (HI.out.go hb)
        try replace HZB := Lib.hid (HZB.out.go hb)
        clear hb
        dsimp only
        refine hK.out _ _ (by first | exact HI.out | exact HI.out.go (Below.refl _ _).drew) (fun hHeld => ?_)
        clear hK K
        try simp only [Act.put, List.setIfInBounds_toArray, List.set_cons_zero, List.set_cons_succ]
        refine take_to (i := 4) (d := some 43) (v := ?_) (l' := #[true, true, true, true, true, false, false, false, false, false]) rfl rfl (by kernel_rfl) (by kernel_rfl) (by kernel_rfl) (by kernel_rfl) (fun _ _ _ h => h) (Or.inl ⟨by rfl, ?_⟩) (by assumption) ?_; rotate_left; · (intro w' hSw; (try dsimp only at hSw); go_simp; (try with_reducible rfl))
        try simp only [Act.put, List.setIfInBounds_toArray, List.set_cons_zero, List.set_cons_succ]
        refine take_to (i := 5) (d := some 48) (v := ?_) (l' := #[true, true, true, true, true, true, false, false, false, false]) rfl rfl (by kernel_rfl) (by kernel_rfl) (by kernel_rfl) (by kernel_rfl) (fun _ _ _ h => h) (Or.inl ⟨by rfl, ?_⟩) (by assumption) ?_; rotate_left; · (intro w' hSw; (try dsimp only at hSw); go_simp; (try with_reducible rfl))
        try simp only [Act.put, List.setIfInBounds_toArray, List.set_cons_zero, List.set_cons_succ]
        refine take_to (i := 6) (d := some 49) (v := ?_) (l' := #[true, true, true, true, true, true, true, false, false, false]) rfl rfl (by kernel_rfl) (by kernel_rfl) (by kernel_rfl) (by kernel_rfl) (fun _ _ _ h => h) (Or.inl ⟨by rfl, ?_⟩) (by assumption) ?_; rotate_left; · (intro w' hSw; (try dsimp only at hSw); go_simp; (try with_reducible rfl))
        try simp only [Act.put, List.setIfInBounds_toArray, List.set_cons_zero, List.set_cons_succ]
        refine one_to (i := 7) (l' := #[true, true, true, true, true, true, true, true, false, false]) rfl (by kernel_rfl) (by kernel_rfl) (fun K hK => ?_)
        go_simp
        have HZB := Lib.hid (show PB (V0.alloc (.cells Tryd.zeroCells29 29)) V0.heap.size (fun _ => 0) by rw [zeroPos]; exact PB.new rfl)
        have HHL := Lib.hid HI.out.low
        replace HI := Lib.hid (HI.out.go (below_new (.cells Tryd.zeroCells29 29)))
        generalize V0.heap.size = H at HZB HHL ⊢
        generalize V0.alloc (.cells Tryd.zeroCells29 29) = V0 at HZB HI ⊢
        refine hK.out _ _ (by first | exact HI.out | exact HI.out.go (Below.refl _ _).drew) (fun hHeld => ?_)
        clear hK K
        try simp only [Act.put, List.setIfInBounds_toArray, List.set_cons_zero, List.set_cons_succ]
        refine one_to (i := 8) (l' := #[true, true, true, true, true, true, true, true, true, false]) rfl (by kernel_rfl) (by kernel_rfl) (fun K hK => ?_)
        rw [if_pos (by rfl)]
        refine wp_store_mid 29 _ _ rfl H 0 V rfl rfl (by rw [HV.out, pc_size]; exact HZB.out.there) (by rw [infoPos, HV.out, pc_size]) (by rw [HV.out]; exact pc_one _) ?_
        rw [HVL.out]
        have HNB := Lib.hid (HZB.out.store (Q := r))
        replace HI := Lib.hid (HI.out.below HHL.out (below_store (b := H) r (Below.refl H V0) (Nat.le_refl _) (Nat.le_of_lt HZB.out.lt)))
        generalize V0.setCells H 0 (pc r) = V0 at HNB HI ⊢
        refine hK.out _ _ (by first | exact HI.out | exact HI.out.go (Below.refl _ _).drew) (fun hHeld => ?_)
        clear hK K
        try simp only [Act.put, List.setIfInBounds_toArray, List.set_cons_zero, List.set_cons_succ]
        refine take_to (i := 9) (d := some 14) (v := ?_) (l' := #[true, true, true, true, true, true, true, true, true, true]) rfl rfl (by kernel_rfl) (by kernel_rfl) (by kernel_rfl) (by kernel_rfl) (fun _ _ _ h => h) (Or.inl ⟨by rfl, ?_⟩) (by assumption) ?_; rotate_left; · (intro w' hSw; (try dsimp only at hSw); go_simp; (try with_reducible rfl))
        try simp only [Act.put, List.setIfInBounds_toArray, List.set_cons_zero, List.set_cons_succ]
        refine wpAnyH_done (by kernel_rfl) ?_ _
        refine NoPanic.normal ?_
        clear hHeld
        go_wp2_with fail
        go_meet
        exact ⟨H, rfl, rfl, HI.out.addP HNB.out⟩
      · skip
        go_simp
        have HZB := Lib.hid (show PB (V0.alloc (.cells Tryd.zeroCells29 29)) V0.heap.size (fun _ => 0) by rw [zeroPos]; exact PB.new rfl)
        have HHL := Lib.hid HI.out.low
        replace HI := Lib.hid (HI.out.go (below_new (.cells Tryd.zeroCells29 29)))
        generalize V0.heap.size = H at HZB HHL ⊢
        generalize V0.alloc (.cells Tryd.zeroCells29 29) = V0 at HZB HI ⊢
        refine hK.out _ _ (by first | exact HI.out | exact HI.out.go (Below.refl _ _).drew) (fun hHeld => ?_)
        clear hK K
        try simp only [Act.put, List.setIfInBounds_toArray, List.set_cons_zero, List.set_cons_succ]
        refine one_to (i := 3) (l' := #[true, true, true, true, false, false, false, true, false, false]) rfl (by kernel_rfl) (by kernel_rfl) (fun K hK => ?_)
        go_simp
        refine (MW.out _ HI.out.c HI.out.s).mono ?_
        rintro e V0 ⟨rfl, hb⟩
        replace HI := Lib.hid (HI.out.go hb)
        try replace HZB := Lib.hid (HZB.out.go hb)
        clear hb
        dsimp only
        refine hK.out _ _ (by first | exact HI.out | exact HI.out.go (Below.refl _ _).drew) (fun hHeld => ?_)
        clear hK K
        try simp only [Act.put, List.setIfInBounds_toArray, List.set_cons_zero, List.set_cons_succ]
        refine take_to (i := 4) (d := some 43) (v := ?_) (l' := #[true, true, true, true, true, false, false, true, false, false]) rfl rfl (by kernel_rfl) (by kernel_rfl) (by kernel_rfl) (by kernel_rfl) (fun _ _ _ h => h) (Or.inl ⟨by rfl, ?_⟩) (by assumption) ?_; rotate_left; · (intro w' hSw; (try dsimp only at hSw); go_simp; (try with_reducible rfl))
        try simp only [Act.put, List.setIfInBounds_toArray, List.set_cons_zero, List.set_cons_succ]
        refine take_to (i := 5) (d := some 48) (v := ?_) (l' := #[true, true, true, true, true, true, false, true, false, false]) rfl rfl (by kernel_rfl) (by kernel_rfl) (by kernel_rfl) (by kernel_rfl) (fun _ _ _ h => h) (Or.inl ⟨by rfl, ?_⟩) (by assumption) ?_; rotate_left; · (intro w' hSw; (try dsimp only at hSw); go_simp; (try with_reducible rfl))
        try simp only [Act.put, List.setIfInBounds_toArray, List.set_cons_zero, List.set_cons_succ]
        refine take_to (i := 6) (d := some 49) (v := ?_) (l' := #[true, true, true, true, true, true, true, true, false, false]) rfl rfl (by kernel_rfl) (by kernel_rfl) (by kernel_rfl) (by kernel_rfl) (fun _ _ _ h => h) (Or.inl ⟨by rfl, ?_⟩) (by assumption) ?_; rotate_left; · (intro w' hSw; (try dsimp only at hSw); go_simp; (try with_reducible rfl))
        try simp only [Act.put, List.setIfInBounds_toArray, List.set_cons_zero, List.set_cons_succ]
        refine one_to (i := 8) (l' := #[true, true, true, true, true, true, true, true, true, false]) rfl (by kernel_rfl) (by kernel_rfl) (fun K hK => ?_)
        rw [if_pos (by rfl)]
        refine wp_store_mid 29 _ _ rfl H 0 V rfl rfl (by rw [HV.out, pc_size]; exact HZB.out.there) (by rw [infoPos, HV.out, pc_size]) (by rw [HV.out]; exact pc_one _) ?_
        rw [HVL.out]
        have HNB := Lib.hid (HZB.out.store (Q := r))
        replace HI := Lib.hid (HI.out.below HHL.out (below_store (b := H) r (Below.refl H V0) (Nat.le_refl _) (Nat.le_of_lt HZB.out.lt)))
        generalize V0.setCells H 0 (pc r) = V0 at HNB HI ⊢
        refine hK.out _ _ (by first | exact HI.out | exact HI.out.go (Below.refl _ _).drew) (fun hHeld => ?_)
        clear hK K
        try simp only [Act.put, List.setIfInBounds_toArray, List.set_cons_zero, List.set_cons_succ]
        refine take_to (i := 9) (d := some 14) (v := ?_) (l' := #[true, true, true, true, true, true, true, true, true, true]) rfl rfl (by kernel_rfl) (by kernel_rfl) (by kernel_rfl) (by kernel_rfl) (fun _ _ _ h => h) (Or.inl ⟨by rfl, ?_⟩) (by assumption) ?_; rotate_left; · (intro w' hSw; (try dsimp only at hSw); go_simp; (try with_reducible rfl))
        try simp only [Act.put, List.setIfInBounds_toArray, List.set_cons_zero, List.set_cons_succ]
        refine wpAnyH_done (by kernel_rfl) ?_ _
        refine NoPanic.normal ?_
        clear hHeld
        go_wp2_with fail
        go_meet
        exact ⟨H, rfl, rfl, HI.out.addP HNB.out⟩
    · skip
      go_simp
      have HZB := Lib.hid (show PB (V0.alloc (.cells Tryd.zeroCells29 29)) V0.heap.size (fun _ => 0) by rw [zeroPos]; exact PB.new rfl)
      have HHL := Lib.hid HI.out.low
      replace HI := Lib.hid (HI.out.go (below_new (.cells Tryd.zeroCells29 29)))
      generalize V0.heap.size = H at HZB HHL ⊢
      generalize V0.alloc (.cells Tryd.zeroCells29 29) = V0 at HZB HI ⊢
      refine hK.out _ _ (by first | exact HI.out | exact HI.out.go (Below.refl _ _).drew) (fun hHeld => ?_)
      clear hK K
      try simp only [Act.put, List.setIfInBounds_toArray, List.set_cons_zero, List.set_cons_succ]
      refine one_to (i := 1) (l' := #[true, true, true, false, false, false, false, true, false, false]) rfl (by kernel_rfl) (by kernel_rfl) (fun K hK => ?_)
      go_simp
      refine (MT.out _).mono ?_
      rintro e V0 ⟨rfl, hb⟩
      replace HI := Lib.hid (HI.out.go hb)
      try replace HZB := Lib.hid (HZB.out.go hb)
      clear hb
      dsimp only
      refine hK.out _ _ (by first | exact HI.out | exact HI.out.go (Below.refl _ _).drew) (fun hHeld => ?_)
      clear hK K
      try simp only [Act.put, List.setIfInBounds_toArray, List.set_cons_zero, List.set_cons_succ]
      refine one_to (i := 3) (l' := #[true, true, true, true, false, false, false, true, false, false]) rfl (by kernel_rfl) (by kernel_rfl) (fun K hK => ?_)
      go_simp
      refine (MW.out _ HI.out.c HI.out.s).mono ?_
      rintro e V0 ⟨rfl, hb⟩
      replace HI := Lib.hid (HI.out.go hb)
      try replace HZB := Lib.hid (HZB.out.go hb)
      clear hb
      dsimp only
      refine hK.out _ _ (by first | exact HI.out | exact HI.out.go (Below.refl _ _).drew) (fun hHeld => ?_)
      clear hK K
      try simp only [Act.put, List.setIfInBounds_toArray, List.set_cons_zero, List.set_cons_succ]
      refine take_to (i := 4) (d := some 43) (v := ?_) (l' := #[true, true, true, true, true, false, false, true, false, false]) rfl rfl (by kernel_rfl) (by kernel_rfl) (by kernel_rfl) (by kernel_rfl) (fun _ _ _ h => h) (Or.inl ⟨by rfl, ?_⟩) (by assumption) ?_; rotate_left; · (intro w' hSw; (try dsimp only at hSw); go_simp; (try with_reducible rfl))
      try simp only [Act.put, List.setIfInBounds_toArray, List.set_cons_zero, List.set_cons_succ]
      refine take_to (i := 5) (d := some 48) (v := ?_) (l' := #[true, true, true, true, true, true, false, true, false, false]) rfl rfl (by kernel_rfl) (by kernel_rfl) (by kernel_rfl) (by kernel_rfl) (fun _ _ _ h => h) (Or.inl ⟨by rfl, ?_⟩) (by assumption) ?_; rotate_left; · (intro w' hSw; (try dsimp only at hSw); go_simp; (try with_reducible rfl))
      try simp only [Act.put, List.setIfInBounds_toArray, List.set_cons_zero, List.set_cons_succ]
      refine take_to (i := 6) (d := some 49) (v := ?_) (l' := #[true, true, true, true, true, true, true, true, false, false]) rfl rfl (by kernel_rfl) (by kernel_rfl) (by kernel_rfl) (by kernel_rfl) (fun _ _ _ h => h) (Or.inl ⟨by rfl, ?_⟩) (by assumption) ?_; rotate_left; · (intro w' hSw; (try dsimp only at hSw); go_simp; (try with_reducible rfl))
      try simp only [Act.put, List.setIfInBounds_toArray, List.set_cons_zero, List.set_cons_succ]
      refine one_to (i := 8) (l' := #[true, true, true, true, true, true, true, true, true, false]) rfl (by kernel_rfl) (by kernel_rfl) (fun K hK => ?_)
      rw [if_pos (by rfl)]
      refine wp_store_mid 29 _ _ rfl H 0 V rfl rfl (by rw [HV.out, pc_size]; exact HZB.out.there) (by rw [infoPos, HV.out, pc_size]) (by rw [HV.out]; exact pc_one _) ?_
      rw [HVL.out]
      have HNB := Lib.hid (HZB.out.store (Q := r))
      replace HI := Lib.hid (HI.out.below HHL.out (below_store (b := H) r (Below.refl H V0) (Nat.le_refl _) (Nat.le_of_lt HZB.out.lt)))
      generalize V0.setCells H 0 (pc r) = V0 at HNB HI ⊢
      refine hK.out _ _ (by first | exact HI.out | exact HI.out.go (Below.refl _ _).drew) (fun hHeld => ?_)
      clear hK K
      try simp only [Act.put, List.setIfInBounds_toArray, List.set_cons_zero, List.set_cons_succ]
      refine take_to (i := 9) (d := some 14) (v := ?_) (l' := #[true, true, true, true, true, true, true, true, true, true]) rfl rfl (by kernel_rfl) (by kernel_rfl) (by kernel_rfl) (by kernel_rfl) (fun _ _ _ h => h) (Or.inl ⟨by rfl, ?_⟩) (by assumption) ?_; rotate_left; · (intro w' hSw; (try dsimp only at hSw); go_simp; (try with_reducible rfl))
      try simp only [Act.put, List.setIfInBounds_toArray, List.set_cons_zero, List.set_cons_succ]
      refine wpAnyH_done (by kernel_rfl) ?_ _
      refine NoPanic.normal ?_
      clear hHeld
      go_wp2_with fail
      go_meet
      exact ⟨H, rfl, rfl, HI.out.addP HNB.out⟩
  case rest =>
  obtain ⟨rb, rfl, rfl, hi⟩ := hcut
  have HI := Lib.hid hi
  clear hi
  by_cases h0 : er = 0
  · subst h0
    obtain ⟨SS, hSS⟩ : ∃ S, S = (pc (turnN q)).toArray := ⟨_, rfl⟩
    obtain ⟨SV, hSV⟩ : ∃ S, S = (pc (setN (turnN q) 132 (r 132))).toArray := ⟨_, rfl⟩
    rw [← hSS] at MU
    have HSS := Lib.hid hSS
    have HSV := Lib.hid hSV
    have HEQ := Lib.hid (show ∀ W, (binOp .eql 29 (.agg SV) (.agg V)).run Tryd.prog W = .ok (.bool true) W from fun W => by rw [hSV, HV.out, eql_pos, HBK.out rfl])
    replace HSD := Lib.hid (HSD.out rfl)
    clear hSS hSV HBK HZE
    go_wp2_with (refine wpList_pos (by rfl) _ (by rfl) qb q Z HZ.out (by rfl) HI.out.at1 ?_)
    refine (MU.out _).mono ?_
    rintro e w15 ⟨rfl, hb⟩
    replace HI := Lib.hid (HI.out.go hb)
    clear hb
    go_wp2_with (refine wpList_new SS (turnN q) HSS.out (by rfl) (by rfl) ?_)
    intro W hp hb hz
    have HSL := Lib.hid HI.out.low
    have HP := Lib.hid hp
    have HB := Lib.hid hb
    clear hp hb hz
    generalize w15.heap.size = sb at HSL HP HB ⊢
    have r5 := (HI.out.below HSL.out HB.out).at0.cell 132 (by omega)
    have s5 := HP.out.cell 132 (by omega)
    have fz := HP.out.fr
    dsimp only at r5
    go_upto_region 17 with (fail)
    replace HI := Lib.hid ((HI.out.below HSL.out (HB.out.setCell (p := ⟨sb, 132, none⟩) (Nat.le_refl _) (.int .i64 (r 132)))).addP (HP.out.set 132 (r 132) (by omega)))
    clear r5 s5 fz HSL HP HB
    generalize W.setCell ⟨sb, 132, none⟩ (.int .i64 (r 132)) = W17 at HI ⊢
    obtain ⟨sd, hsd⟩ : ∃ s, P 128 = s := ⟨_, rfl⟩
    have HQ128 := Lib.hid (show q 128 = oth sd by rw [HSD.out, hsd])
    have HP128 := Lib.hid hsd
    clear hsd HSD
    rcases HTK.out with ⟨ha, hb⟩ | ⟨nn, hn, ha, hb⟩
    · rw [ha] at MK
      rw [hb] at ML
      clear ha hb
      have c1 := regrown_call (w := W17) MK.out
      have c2 := regrown_call (w := W17) MT.out
      have c3 := regrown_call (w := W17) ML.out
      obtain ⟨m0, m1, m2, _, _⟩ := row3 HI.out.ob1
      obtain ⟨n0, n1, n2, _, _⟩ := row3 HI.out.ob0
      replace m0 := cell_regrown m0
      replace m1 := cell_regrown m1
      replace m2 := cell_regrown m2
      replace n0 := cell_regrown n0
      replace n1 := cell_regrown n1
      replace n2 := cell_regrown n2
      have HCP := Lib.hid HI.out.at3.regrown
      refine wp_region_quiet_below (by kernel_rfl) (by kernel_rfl) ?_
      refine wpQuiet_pos (by rfl) _ (by rfl) w.heap.size P X HX.out (by rfl) HCP.out ?_
      try simp only [Act.put, List.setIfInBounds_toArray, List.set_cons_zero, List.set_cons_succ]
      go_big_quiet_step (fail)
      go_big_quiet_step (exact c1 _ _)
      refine wpQuiet_pos (by rfl) _ (by rfl) w.heap.size P X HX.out (by rfl) HCP.out ?_
      try simp only [Act.put, List.setIfInBounds_toArray, List.set_cons_zero, List.set_cons_succ]
      go_big_quiet_step (exact c2 _ _)
      go_big_quiet_step (fail)
      go_big_quiet_step (exact c3 _ _)
      repeat (go_big_quiet_step (fail))
      refine wpQuiet_nil ?_
      rintro W18 ⟨p, rfl⟩
      replace HI := Lib.hid (HI.out.go (below_regrown W17 p.d p.os))
      clear c1 c2 c3 m0 m1 m2 n0 n1 n2 HCP
      generalize grow (redrawn W17 p.d) p.os = W18 at HI ⊢
      have e1 := cell_regrown (HI.out.at2.cell 128 (by omega))
      have e2 := cell_regrown (HI.out.at3.cell 128 (by omega))
      dsimp only at e1 e2
      rw [HQ128.out] at e1
      rw [HP128.out] at e2
      have c4 := regrown_same (w := W18) (other_any sd)
      have HCS := Lib.hid HI.out.at0.regrown
      have HCR := Lib.hid HI.out.at1.regrown
      go_upto_region 18 with (fail)
      refine wp_region_quiet_below (by kernel_rfl) (by kernel_rfl) ?_
      refine wpQuiet_pos (by rfl) _ (by rfl) sb (setN (turnN q) 132 (r 132)) SV HSV.out (by rfl) HCS.out ?_
      try simp only [Act.put, List.setIfInBounds_toArray, List.set_cons_zero, List.set_cons_succ]
      refine wpQuiet_pos (by rfl) _ (by rfl) rb r V HV.out (by rfl) HCR.out ?_
      try simp only [Act.put, List.setIfInBounds_toArray, List.set_cons_zero, List.set_cons_succ]
      refine wpQuiet_bin (by rfl) _ _ _ _ _ (by rfl) (.agg SV) (.agg V) (.bool true) (by rfl) (by rfl) (fun W => by go_simp) HEQ.out ?_
      try simp only [Act.put, List.setIfInBounds_toArray, List.set_cons_zero, List.set_cons_succ]
      repeat (first | go_big_quiet_step (exact c4 _ _) | quiet_step (fail))
      refine wpQuiet_nil ?_
      rintro W19 ⟨p, rfl⟩
      replace HI := Lib.hid (HI.out.go (below_regrown W18 p.d p.os))
      clear c4 e1 e2 HCS HCR
      go_wp2
      go_ret
      exact ⟨q_b (by simp), HI.out.b⟩
    · rw [ha] at MK
      rw [hb] at ML
      have HNN := Lib.hid hn
      clear ha hb hn
      have c1 := regrown_call (w := W17) MK.out
      have c2 := regrown_call (w := W17) MT.out
      have c3 := regrown_call (w := W17) ML.out
      obtain ⟨m0, m1, m2, _, _⟩ := row3 HI.out.ob1
      obtain ⟨n0, n1, n2, _, _⟩ := row3 HI.out.ob0
      replace m0 := cell_regrown m0
      replace m1 := cell_regrown m1
      replace m2 := cell_regrown m2
      replace n0 := cell_regrown n0
      replace n1 := cell_regrown n1
      replace n2 := cell_regrown n2
      have HCP := Lib.hid HI.out.at3.regrown
      refine wp_region_quiet_below (by kernel_rfl) (by kernel_rfl) ?_
      refine wpQuiet_pos (by rfl) _ (by rfl) w.heap.size P X HX.out (by rfl) HCP.out ?_
      try simp only [Act.put, List.setIfInBounds_toArray, List.set_cons_zero, List.set_cons_succ]
      go_big_quiet_step (fail)
      go_big_quiet_step (exact c1 _ _)
      refine wpQuiet_pos (by rfl) _ (by rfl) w.heap.size P X HX.out (by rfl) HCP.out ?_
      try simp only [Act.put, List.setIfInBounds_toArray, List.set_cons_zero, List.set_cons_succ]
      go_big_quiet_step (exact c2 _ _)
      go_big_quiet_step (fail)
      go_big_quiet_step (exact c3 _ _)
      repeat (go_big_quiet_step (fail))
      refine wpQuiet_nil ?_
      rintro W18 ⟨p, rfl⟩
      replace HI := Lib.hid (HI.out.go (below_regrown W17 p.d p.os))
      clear c1 c2 c3 m0 m1 m2 n0 n1 n2 HCP
      generalize grow (redrawn W17 p.d) p.os = W18 at HI ⊢
      have e1 := cell_regrown (HI.out.at2.cell 128 (by omega))
      have e2 := cell_regrown (HI.out.at3.cell 128 (by omega))
      dsimp only at e1 e2
      rw [HQ128.out] at e1
      rw [HP128.out] at e2
      have c4 := regrown_same (w := W18) (other_any sd)
      have c5 := regrown_same (w := W18) (across_any nn HNN.out)
      have nn0 : (0 : Int) ≤ (nn : Int) := by omega
      have HCS := Lib.hid HI.out.at0.regrown
      have HCR := Lib.hid HI.out.at1.regrown
      go_upto_region 18 with (fail)
      refine wp_region_quiet_below (by kernel_rfl) (by kernel_rfl) ?_
      refine wpQuiet_pos (by rfl) _ (by rfl) sb (setN (turnN q) 132 (r 132)) SV HSV.out (by rfl) HCS.out ?_
      try simp only [Act.put, List.setIfInBounds_toArray, List.set_cons_zero, List.set_cons_succ]
      refine wpQuiet_pos (by rfl) _ (by rfl) rb r V HV.out (by rfl) HCR.out ?_
      try simp only [Act.put, List.setIfInBounds_toArray, List.set_cons_zero, List.set_cons_succ]
      refine wpQuiet_bin (by rfl) _ _ _ _ _ (by rfl) (.agg SV) (.agg V) (.bool true) (by rfl) (by rfl) (fun W => by go_simp) HEQ.out ?_
      try simp only [Act.put, List.setIfInBounds_toArray, List.set_cons_zero, List.set_cons_succ]
      repeat (first | go_big_quiet_step (exact c4 _ _) | go_big_quiet_step (exact c5 _ _) | quiet_step (fail))
      refine wpQuiet_nil ?_
      rintro W19 ⟨p, rfl⟩
      replace HI := Lib.hid (HI.out.go (below_regrown W18 p.d p.os))
      clear c4 e1 e2 HCS HCR
      go_wp2
      go_ret
      exact ⟨q_b (by simp), HI.out.b⟩
  · have h1 : (er == 0) = false := by simp [h0]
    have HEQ := Lib.hid (show ∀ W, (binOp .eql 29 (.agg Z) (.agg Tryd.zeroCells29)).run Tryd.prog W = .ok (.bool true) W from fun W => by rw [HZ.out, HZE.out h0, zeroPos, eql_pos, posEq_self])
    clear h0
    go_upto_region 14 with (fail)
    refine wp_region_lit ?_
    refine wpList_pos (by rfl) _ (by rfl) qb q Z HZ.out (by rfl) HI.out.at1 ?_
    refine wpList_plain rfl (fun K hK => ?_)
    go_simp
    refine hK _ _ ?_
    clear hK K
    refine wpList_bin (by rfl) _ _ _ _ _ (by rfl) (.agg Z) (.agg Tryd.zeroCells29) (.bool true) (by rfl) (by rfl) (fun W => by go_simp) HEQ.out ?_
    go_wp2
    go_ret
    exact ⟨rfl, HI.out.b⟩
end Go.Proofs.YtlfapakllhhadaaDoor
