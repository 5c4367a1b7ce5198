/-
  Merged: Yd, Ye, Yf.
-/
import Derived.Maps.OwnSet
import Derived.Maps.OwnOps
import Derived.Shelf.SlMaps.Clone
import Derived.Lib.Builder
import Derived.Lib.MinMax
import Derived.StringKeys
import Derived.Test.YtcdnakbdajbfoaaGreatDoorYc
import Derived.Test.YtcdnakbdajbfoaaGreatDoorG15

namespace Go.Proofs.YtcdnakbdajbfoaaGreatDoor
open Go.RowKit Go.Sort Go.Maps
set_option linter.unusedSimpArgs false
set_option linter.unusedVariables false
set_option maxRecDepth 20000

theorem zeroIntW (w : World) : (zeroValue 3).run Tryz.prog w = .ok (.int .i64 0) w := by kernel_rfl
theorem lawStr : Keyed Tryz.prog 9 := string_keyed Tryz.underlying9
theorem key_str (k : List UInt8) (h : k.length ≤ maxLen) : keyOf Tryz.prog 9 (.string ⟨k.toArray⟩) = some (.string k) :=
  WideMaps.keyOf_string_mk Tryz.underlying9 (by simpa [ByteArray.size] using h)
def cntT (T : List (List UInt8)) (k : List UInt8) : Nat := T.count k
def mostT : List (List UInt8) → Nat
  | [] => 0
  | k :: T => max (mostT T) (cntT (k :: T) k)
def bookD : List (List UInt8) → DataW Unit
  | [] => .map []
  | k :: T => (bookD T).put (.string k) (.lit (.int .i64 (cntT (k :: T) k : Nat)))
theorem bookD_map : ∀ T, IsMap (bookD T)
  | [] => ⟨[], rfl⟩
  | _ :: T => (bookD_map T).put _ _
theorem cntT_same (T : List (List UInt8)) (k : List UInt8) : cntT (k :: T) k = cntT T k + 1 := by unfold cntT; exact List.count_cons_self
theorem cntT_other (T : List (List UInt8)) {k k' : List UInt8} (h : k' ≠ k) : cntT (k :: T) k' = cntT T k' := by unfold cntT; exact List.count_cons_of_ne (Ne.symm h)
theorem cntT_le (T : List (List UInt8)) (k : List UInt8) : cntT T k ≤ T.length := List.count_le_length
theorem mostT_le : ∀ T, mostT T ≤ T.length
  | [] => Nat.le_refl _
  | k :: T => by
    unfold mostT
    have h1 := mostT_le T
    have h2 := cntT_le (k :: T) k
    rw [List.length_cons] at h2 ⊢
    omega
theorem bookD_at : ∀ (T : List (List UInt8)), (∀ x ∈ T, x.length ≤ maxLen) → ∀ k : List UInt8, (bookD T).atKey (.string k) (.lit (.int .i64 0)) = .lit (.int .i64 (cntT T k : Nat))
  | [], _, k => rfl
  | x :: T, h, k => by
    unfold bookD
    by_cases e : k = x
    · subst e
      exact atKey_put_same (bookD_map T) (lawStr.key (key_str k (h k (List.mem_cons_self ..)))) _ _
    · rw [atKey_put_other (fun e2 => e (Lit.string.inj e2)), cntT_other T e]
      exact bookD_at T (fun y hy => h y (List.mem_cons_of_mem _ hy)) k
structure BW (W : World) (b mb : Nat) (T : List (List UInt8)) : Prop where
  c : W.heap[b]? = some (.cells #[.map (some mb), .int .i64 (mostT T : Nat), .pointer (some ⟨b, 0, none⟩)] 62 (0, 0))
  m : W.ownsMap Tryz.prog 9 (plainElem Tryz.prog 3) mb T.length (bookD T)
  s : ∀ x ∈ T, x.length ≤ 3000
theorem BW.go {W W' : World} {b mb : Nat} {T : List (List UInt8)} (h : BW W b mb T) (g : Below W.heap.size W W') : BW W' b mb T :=
  ⟨sl_go h.c g, h.m.kept (gr_of_below none g) (by simp), h.s⟩
theorem BW.ltb {W : World} {b mb : Nat} {T : List (List UInt8)} (h : BW W b mb T) : b < W.heap.size := (Array.getElem?_eq_some_iff.1 h.c).1
theorem BW.long {W : World} {b mb : Nat} {T : List (List UInt8)} (h : BW W b mb T) : ∀ x ∈ T, x.length ≤ maxLen := fun x hx => Nat.le_trans (h.s x hx) (by unfold maxLen; omega)
theorem BW.look {W : World} {b mb : Nat} {T : List (List UInt8)} (h : BW W b mb T) (k : List UInt8) (hk : k.length ≤ 3000) : (Instr.lookup 57 (.map (some mb)) (.string ⟨k.toArray⟩) false).run Tryz.prog W = .ok (.int .i64 (cntT T k : Nat)) W := by
  obtain ⟨c, hrun, hat, hwc⟩ := h.m.lookup_int lawStr Tryz.underlying57 Tryz.underlying3 (zeroIntW W) (key_str k (Nat.le_trans hk (by unfold maxLen; omega)))
  rw [bookD_at T h.long k] at hat
  have : c = ((cntT T k : Nat) : Int) := by simpa using hat.symm
  rw [hrun, this]
theorem BW.ne {W : World} {b mb : Nat} {T : List (List UInt8)} (h : BW W b mb T) : b ≠ mb := fun e => by
  have h1 := h.c
  obtain ⟨es, ep, h2, _⟩ := h.m
  rw [e, h2] at h1
  cases h1
structure Two (b mb : Nat) (w w' : World) : Prop where
  os : w'.os = w.os
  tape : w'.tape = w.tape
  output : w'.output = w.output
  size : w.heap.size ≤ w'.heap.size
  block : ∀ k, k < w.heap.size → k ≠ b → k ≠ mb → w'.heap[k]? = w.heap[k]?
theorem Two.of {b mb : Nat} {w w' : World} (g : Below w.heap.size w w') : Two b mb w w' := ⟨g.os, g.tape, g.output, g.size, fun k hk _ _ => g.block k hk⟩
theorem Two.trans {b mb : Nat} {w w' w'' : World} (h : Two b mb w w') (k : Two b mb w' w'') : Two b mb w w'' :=
  ⟨k.os.trans h.os, k.tape.trans h.tape, k.output.trans h.output, Nat.le_trans h.size k.size, fun i hi h1 h2 => (k.block i (Nat.lt_of_lt_of_le hi h.size) h1 h2).trans (h.block i hi h1 h2)⟩
theorem Two.grown {b mb x : Nat} {w w' : World} (g : w.grownBy w' (some x)) (hx : x = b ∨ x = mb) : Two b mb w w' :=
  ⟨g.os, g.tape, g.output, g.size, fun k hk h1 h2 => g.block k hk (by rintro e; cases e; rcases hx with e | e; exact h1 e; exact h2 e)⟩
theorem Two.below {B b mb : Nat} {w0 w w' : World} (h : Two b mb w w') (h0 : Below B w0 w) (hb : B ≤ b) (hm : B ≤ mb) (hs : B ≤ w.heap.size) : Below B w0 w' :=
  h0.trans ⟨h.os, h.tape, h.output, h.size, fun k hk => h.block k (Nat.lt_of_lt_of_le hk hs) (by omega) (by omega)⟩
theorem Two.at {b mb k : Nat} {w w' : World} {o : Obj} (h : Two b mb w w') (hk : w.heap[k]? = some o) (h1 : k ≠ b) (h2 : k ≠ mb) : w'.heap[k]? = some o :=
  (h.block k (Array.getElem?_eq_some_iff.1 hk).1 h1 h2).trans hk
theorem Two.pb {b mb k : Nat} {w w' : World} {P : Nat → Int} (h : Two b mb w w') (hp : PB w k P) (h1 : k ≠ b) (h2 : k ≠ mb) : PB w' k P := by
  have e := h.block k hp.lt h1 h2
  exact ⟨Nat.lt_of_lt_of_le hp.lt h.size, fun i hi => by rw [World.cell?_of_block (a := ⟨k, i, none⟩) e]; exact hp.cell i hi, fun i => by rw [← hp.fr i]; simp only [World.frozen?, e]⟩
theorem infoBk : (Tryz.prog.info? 62).map (·.size) = some 3 := by kernel_rfl
set_option maxHeartbeats 1000000 in
set_option maxRecDepth 100000 in
theorem bnone_any (b mb : Nat) (T : List (List UInt8)) (w : World) (h : BW w b mb T) :
    Calls Tryz.prog 34 #[.pointer (some ⟨b, 0, none⟩)] w fun e w' => e = .returned (.bool false) ∧ w' = w := by
  obtain ⟨x0, x1, x2, xf, xz⟩ := row3 h.c
  obtain ⟨j, hj⟩ : ∃ j, Tryz.prog.info? 62 = some j := by
    cases e : Tryz.prog.info? 62 with
    | none => have := infoBk; rw [e] at this; cases this
    | some j => exact ⟨j, rfl⟩
  have en := fun W => Lib.run_neq_ptr_same (P := Tryz.prog) W (tp := 32) (te := 62) ⟨b, 0, none⟩ Tryz.underlying32 hj
  clear h hj
  go_enter Tryz.func34, Tryz.ntmps34
  go_wp2
  go_ret
  exact ⟨rfl, rfl⟩
set_option maxHeartbeats 1000000 in
set_option maxRecDepth 100000 in
theorem ofC_any (b mb : Nat) (T : List (List UInt8)) (k : List UInt8) (hk : k.length ≤ 3000) (w : World) (h : BW w b mb T) :
    Calls Tryz.prog 37 #[.pointer (some ⟨b, 0, none⟩), .string ⟨k.toArray⟩] w fun e w' => e = .returned (.int .i64 (cntT T k : Nat)) ∧ w' = w := by
  obtain ⟨x0, x1, x2, xf, xz⟩ := row3 h.c
  have hl := h.look k hk
  generalize (⟨k.toArray⟩ : ByteArray) = K at hl ⊢
  clear h
  go_enter Tryz.func37, Tryz.ntmps37
  go_wp2
  go_ret
  exact ⟨rfl, rfl⟩
set_option maxHeartbeats 1000000 in
set_option maxRecDepth 100000 in
theorem greatest_any (b mb : Nat) (T : List (List UInt8)) (w : World) (h : BW w b mb T) :
    Calls Tryz.prog 36 #[.pointer (some ⟨b, 0, none⟩)] w fun e w' => e = .returned (.int .i64 (mostT T : Nat)) ∧ w' = w := by
  obtain ⟨x0, x1, x2, xf, xz⟩ := row3 h.c
  clear h
  go_enter Tryz.func36, Tryz.ntmps36
  go_wp2
  go_ret
  exact ⟨rfl, rfl⟩
set_option maxHeartbeats 2000000 in
set_option maxRecDepth 100000 in
theorem oneMC_any (b mb : Nat) (T : List (List UInt8)) (k : List UInt8) (hk : k.length ≤ 3000) (hT : T.length ≤ 1000000) (w : World) (h : BW w b mb T) :
    Calls Tryz.prog 35 #[.pointer (some ⟨b, 0, none⟩), .string ⟨k.toArray⟩] w fun e w' => e = .returned (.int .i64 (cntT (k :: T) k : Nat)) ∧ BW w' b mb (k :: T) ∧ Two b mb w w' := by
  obtain ⟨x0, x1, x2, xf, xz⟩ := row3 h.c
  have hl := h.look k hk
  have hcl := cntT_le T k
  have hwf : (Lit.int .i64 ((cntT (k :: T) k : Nat) : Int)).wf = true := WalkArith.wf_i64 ⟨by omega, by rw [cntT_same]; omega⟩
  obtain ⟨w1, hrun, hown, hgrow⟩ := h.m.update lawStr Tryz.underlying57 (by unfold maxLen; omega) (key_str k (Nat.le_trans hk (by unfold maxLen; omega))) (plainElem_int Tryz.underlying3 hwf)
  have hrow1 := (hgrow.block b h.ltb (by intro e; exact h.ne (Option.some.inj e))).trans h.c
  obtain ⟨y0, y1, y2, yf, yz⟩ := row3 hrow1
  have HROW := Lib.hid hrow1
  have HOWN := Lib.hid hown
  have HG := Lib.hid hgrow
  have HS := Lib.hid (show ∀ x ∈ k :: T, x.length ≤ 3000 from fun x hx => by
    rcases List.mem_cons.1 hx with e | e
    · rw [e]; exact hk
    · exact h.s x e)
  have HM := Lib.hid (show mostT (k :: T) = max (mostT T) (cntT (k :: T) k) from rfl)
  have HML := Lib.hid (mostT_le T)
  have HCS := Lib.hid (cntT_same T k)
  have HNE := Lib.hid h.ne
  have c2 : ((cntT (k :: T) k : Nat) : Int) = (cntT T k : Nat) + 1 := by rw [cntT_same]; omega
  rw [c2] at hrun
  generalize (⟨k.toArray⟩ : ByteArray) = K at hl hrun ⊢
  obtain ⟨c, hc⟩ : ∃ c, cntT T k = c := ⟨_, rfl⟩
  rw [hc] at hl hcl hrun
  obtain ⟨q, hq⟩ : ∃ q, cntT (k :: T) k = q := ⟨_, rfl⟩
  rw [hc, hq] at HCS
  obtain ⟨m, hm⟩ : ∃ m, mostT T = m := ⟨_, rfl⟩
  rw [hm] at x1 y1 HML HROW
  rw [hq, hm] at HM
  rw [hq]
  clear h hgrow hown hwf hrow1 c2 hc hk hm hq
  have c0 : (0 : Int) ≤ (c : Int) := by omega
  have c1 : (c : Int) ≤ 1000000 := by omega
  go_enter Tryz.func35, Tryz.ntmps35
  go_wp2
  go_ret
  have hmx : max (m : Int) ((c : Int) + 1) = ((mostT (k :: T) : Nat) : Int) := by rw [HM.out, HCS.out]; omega
  have hs := Go.heap_setCell_same w1 b 1 _ _ (.int .i64 (max (m : Int) ((c : Int) + 1))) HROW.out
  have gs := gr1_B (hb := b) (i := 1) (w := w1) (.int .i64 (max (m : Int) ((c : Int) + 1)))
  rw [hmx] at hs gs ⊢
  exact ⟨q_i (by rw [HCS.out]; omega), ⟨hs, HOWN.out.kept gs (by intro e; exact HNE.out (Option.some.inj e).symm), HS.out⟩, (Two.grown HG.out (.inr rfl)).trans (Two.grown gs (.inl rfl))⟩
end Go.Proofs.YtcdnakbdajbfoaaGreatDoor

namespace Go.Proofs.YtcdnakbdajbfoaaGreatDoor
open Go.RowKit Go.Sort Go.Maps
set_option linter.unusedSimpArgs false
set_option linter.unusedVariables false
set_option maxRecDepth 20000

structure EN (B : Nat) (w : World) : Prop where
  gb : GB B w
  gs : GS B w
  gm : GM B w
  gp : GP B w
  tp : TP B w
  k : B ≤ w.heap.size
theorem EN.on {B : Nat} {w w' : World} (h : EN B w) (g : Below B w w') : EN B w' :=
  ⟨h.gb.below g, h.gs.below g, h.gm.below g, h.gp.below g, h.tp.on g, Nat.le_trans h.k g.size⟩
theorem EN.go {B : Nat} {w w' : World} (h : EN B w) (g : Below w.heap.size w w') : EN B w' := h.on (g.mono h.k)
theorem TP.up {B C : Nat} {w : World} (h : TP B w) (hB : B ≤ C) : TP C w := fun w' g => h w' (g.mono hB)
def InW (P : Nat → Int) : Prop := ∀ i, i < 133 → -9223372036854775808 ≤ P i ∧ P i ≤ 9223372036854775807
theorem right_in {P : Nat → Int} (h : rightB P = true) : InW P := fun i hi => by
  have hf := right_fit P h
  have hs := right_side P h
  have hc := right_cas P h
  obtain ⟨_, _, _, _, ho, ⟨h1, h2⟩, h3, h4⟩ := right_parts9 P h
  rcases (show i < 128 ∨ i = 128 ∨ i = 129 ∨ i = 130 ∨ i = 131 ∨ i = 132 by omega) with e | rfl | rfl | rfl | rfl | rfl
  · rcases hf (i / 2) (by omega) with e2 | e2
    · obtain ⟨a, b⟩ := (pe_iff _ _ _ _).1 e2
      rcases (show i = 2 * (i / 2) ∨ i = 2 * (i / 2) + 1 by omega) with e3 | e3
      · rw [e3, a]; omega
      · rw [e3, b]; omega
    · obtain ⟨a, b, c⟩ := may_parts _ _ e2
      rcases (show i = 2 * (i / 2) ∨ i = 2 * (i / 2) + 1 by omega) with e3 | e3
      · rw [e3]; omega
      · rw [e3]; omega
  · omega
  · unfold casB at hc; simp only [Bool.and_eq_true, decide_eq_true_eq] at hc; omega
  · unfold overB at ho
    simp only [Bool.or_eq_true, Bool.and_eq_true, beq_iff_eq] at ho
    rcases ho with e | ⟨⟨e, _⟩, _⟩
    · omega
    · unfold sq at e; simp only [Bool.and_eq_true, decide_eq_true_eq] at e; omega
  · omega
  · omega
theorem kyB_len {P : Nat → Int} (h : InW P) : (kyB P).length ≤ 3000 := by
  unfold kyB
  have h1 := kyT_len (kyL P) fun n hn => by
    unfold kyL at hn
    rcases List.mem_append.1 hn with e | e
    · obtain ⟨j, hj, rfl⟩ := List.mem_map.1 e
      exact h j (by have := List.mem_range.1 hj; omega)
    · rw [List.mem_singleton.1 e]; exact inWf h
  rw [kyL_len] at h1
  omega
theorem keyE_any (P : Nat → Int) (hP : InW P) (B : Nat) (w : World) (h : EN B w) :
    Calls Tryz.prog 13 #[.agg (pc P).toArray] w fun e w' => e = .returned (.string ⟨(kyB P).toArray⟩) ∧ Below w.heap.size w w' :=
  key_any P hP w B h.gb h.gs h.gm h.gp (h.tp.up h.k) h.k
structure BQ (B b mb : Nat) (T : List (List UInt8)) (P : Nat → Int) (w W : World) : Prop where
  p : PB W w.heap.size P
  bl : Below w.heap.size w W
  k : BW W b mb T
  e : EN B W
theorem BQ.go {B b mb : Nat} {T : List (List UInt8)} {P : Nat → Int} {w W W' : World} (h : BQ B b mb T P w W) (g : Below W.heap.size W W') : BQ B b mb T P w W' :=
  ⟨h.p.go g, h.bl.trans (g.mono h.bl.size), h.k.go g, h.e.go g⟩
theorem BQ.begin {B b mb : Nat} {T : List (List UInt8)} {P : Nat → Int} {w : World} (X : Array Value) (hX : X = (pc P).toArray) (h : BW w b mb T) (he : EN B w) : BQ B b mb T P w (w.alloc (.cells X 30)) :=
  ⟨by rw [hX]; exact PB.new rfl, below_new _, h.go (below_new _), he.go (below_new _)⟩
set_option maxHeartbeats 4000000 in
set_option maxRecDepth 100000 in
theorem many_any (B b mb : Nat) (T : List (List UInt8)) (P : Nat → Int) (hP : InW P) (w : World) (h : BW w b mb T) (he : EN B w) :
    Calls Tryz.prog 18 #[.pointer (some ⟨b, 0, none⟩), .agg (pc P).toArray] w fun e w' => e = .returned (.int .i64 (cntT T (kyB P) : Nat)) ∧ Below w.heap.size w w' := by
  obtain ⟨X, hX⟩ : ∃ X, X = (pc P).toArray := ⟨_, rfl⟩
  have HI := Lib.hid (BQ.begin X hX h he)
  have MN := Lib.hid (fun W (h : BQ B b mb T P w W) => bnone_any b mb T W h.k)
  have MK := Lib.hid (fun W (h : BQ B b mb T P w W) => keyE_any P hP B W h.e)
  have MO := Lib.hid (fun W (h : BQ B b mb T P w W) => ofC_any b mb T (kyB P) (kyB_len hP) W h.k)
  rw [← hX] at MK ⊢
  generalize (⟨(kyB P).toArray⟩ : ByteArray) = K at MK MO
  have HX := Lib.hid hX
  clear hX h he hP
  go_enter Tryz.func18, Tryz.ntmps18
  go_upto_region 1 with (fail)
  refine forget_B (fun W => BQ B b mb T P w W) HI.out ?_
  clear HI
  intro W hi
  have HI := Lib.hid hi
  clear hi
  go_wp2_with fail
  refine (MN.out _ HI.out).mono ?_
  rintro e w1 ⟨rfl, rfl⟩
  clear MN
  go_upto_region 3 with (fail)
  refine wp_region_noPanic ?_
  refine wp_region_start (n := 7) (l := #[ff, ff, ff, ff, ff, ff, ff]) (S := (fun W => BQ B b mb T P w W)) (by kernel_rfl) rfl (by kernel_rfl) (by first | exact HI.out | exact HI.out.go (Below.refl _ _).drew) (fun hHeld => ?_)
  replace HI := Lib.hid (HI.out.go (Below.refl w1.heap.size w1).drew)
  generalize w1.drew = V at *
  refine tq (i := 0) (d := some 7) rfl rfl ?_
  try simp only [aP, sA, sZ, sS]
  refine tq (i := 1) (d := some 8) rfl rfl ?_
  try simp only [aP, sA, sZ, sS]
  refine tq (i := 2) (d := some 9) rfl rfl ?_
  try simp only [aP, sA, sZ, sS]
  refine tg (i := 3) (d := some 10) (v := (.agg X)) rfl rfl ?_ ?_
  · exact yields_posC (by rfl) _ (by rfl) w.heap.size P X HX.out (by rfl) (fun W h => h.p)
  try simp only [aP, sA, sZ, sS]
  refine og (i := 4) rfl (by kernel_rfl) (fun K hK => ?_)
  go_simp
  refine (MK.out _ HI.out).mono ?_
  rintro e V ⟨rfl, hb⟩
  replace HI := Lib.hid (HI.out.go hb)
  clear hb
  dsimp only
  refine hK.out _ _ (by first | exact HI.out | exact HI.out.go (Below.refl _ _).drew) (fun hHeld => ?_)
  clear hK K
  try simp only [aP, sA, sZ, sS]
  refine og (i := 5) rfl (by kernel_rfl) (fun K hK => ?_)
  go_simp
  refine (MO.out _ HI.out).mono ?_
  rintro e V ⟨rfl, rfl⟩
  dsimp only
  refine hK.out _ _ (by first | exact HI.out | exact HI.out.go (Below.refl _ _).drew) (fun hHeld => ?_)
  clear hK K
  try simp only [aP, sA, sZ, sS]
  refine tq (i := 6) (d := some 4) rfl rfl ?_
  try simp only [aP, sA, sZ, sS]
  refine wpAnyH_done (by kernel_rfl) ?_ _
  refine NoPanic.normal ?_
  clear hHeld
  clear MK MO
  go_wp2
  go_ret
  exact ⟨rfl, HI.out.bl⟩
set_option maxHeartbeats 4000000 in
set_option maxRecDepth 100000 in
theorem put_any12 (B b mb : Nat) (T : List (List UInt8)) (P : Nat → Int) (hP : InW P) (hT : T.length ≤ 1000000) (w : World) (h : BW w b mb T) (he : EN B w) :
    Calls Tryz.prog 14 #[.pointer (some ⟨b, 0, none⟩), .agg (pc P).toArray] w fun e w' => e = .returned (.int .i64 (cntT (kyB P :: T) (kyB P) : Nat)) ∧ BW w' b mb (kyB P :: T) ∧ Two b mb w w' := by
  obtain ⟨X, hX⟩ : ∃ X, X = (pc P).toArray := ⟨_, rfl⟩
  have HI := Lib.hid (BQ.begin X hX h he)
  have HNB := Lib.hid (show w.heap.size ≠ b by have := h.ltb; omega)
  have HNM := Lib.hid (show w.heap.size ≠ mb by have := h.m.lt; omega)
  have MN := Lib.hid (fun W (h : BQ B b mb T P w W) => bnone_any b mb T W h.k)
  have MK := Lib.hid (fun W (h : BQ B b mb T P w W) => keyE_any P hP B W h.e)
  have MO := Lib.hid (fun W (h : BQ B b mb T P w W) => oneMC_any b mb T (kyB P) (kyB_len hP) hT W h.k)
  rw [← hX] at MK ⊢
  generalize (⟨(kyB P).toArray⟩ : ByteArray) = K at MK MO
  have HX := Lib.hid hX
  clear hX h he hP
  go_enter Tryz.func14, Tryz.ntmps14
  go_upto_region 1 with (fail)
  refine forget_B (fun W => BQ B b mb T P w W) HI.out ?_
  clear HI
  intro W hi
  have HI := Lib.hid hi
  clear hi
  go_wp2_with fail
  refine (MN.out _ HI.out).mono ?_
  rintro e w1 ⟨rfl, rfl⟩
  clear MN
  go_upto_region 3 with (fail)
  refine wp_region_noPanic ?_
  refine wp_region_start (n := 7) (l := #[ff, ff, ff, ff, ff, ff, ff]) (S := (fun W => PB W w.heap.size P)) (by kernel_rfl) rfl (by kernel_rfl) (by first | exact HI.out.p | exact (HI.out.go (Below.refl _ _).drew).p) (fun hHeld => ?_)
  replace HI := Lib.hid (HI.out.go (Below.refl w1.heap.size w1).drew)
  generalize w1.drew = V at *
  refine tq (i := 0) (d := some 7) rfl rfl ?_
  try simp only [aP, sA, sZ, sS]
  refine tq (i := 1) (d := some 8) rfl rfl ?_
  try simp only [aP, sA, sZ, sS]
  refine tq (i := 2) (d := some 9) rfl rfl ?_
  try simp only [aP, sA, sZ, sS]
  refine tg (i := 3) (d := some 10) (v := (.agg X)) rfl rfl ?_ ?_
  · exact yields_posC (by rfl) _ (by rfl) w.heap.size P X HX.out (by rfl) (fun W h => h)
  try simp only [aP, sA, sZ, sS]
  refine og (i := 4) rfl (by kernel_rfl) (fun K hK => ?_)
  go_simp
  refine (MK.out _ HI.out).mono ?_
  rintro e V ⟨rfl, hb⟩
  replace HI := Lib.hid (HI.out.go hb)
  clear hb
  dsimp only
  refine hK.out _ _ (by first | exact HI.out.p | exact (HI.out.go (Below.refl _ _).drew).p) (fun hHeld => ?_)
  clear hK K
  try simp only [aP, sA, sZ, sS]
  refine og (i := 5) rfl (by kernel_rfl) (fun K hK => ?_)
  go_simp
  refine (MO.out _ HI.out).mono ?_
  rintro e V2 ⟨rfl, hk2, h2⟩
  have HP := Lib.hid (h2.pb HI.out.p HNB.out HNM.out)
  have HK := Lib.hid hk2
  have HT2 := Lib.hid h2
  clear hk2 h2
  dsimp only
  refine hK.out _ _ (by exact HP.out) (fun hHeld => ?_)
  clear hK K
  try simp only [aP, sA, sZ, sS]
  refine tq (i := 6) (d := some 4) rfl rfl ?_
  try simp only [aP, sA, sZ, sS]
  refine wpAnyH_done (by kernel_rfl) ?_ _
  refine NoPanic.normal ?_
  clear hHeld
  clear MK MO
  go_wp2
  go_ret
  exact ⟨rfl, HK.out, (Two.of HI.out.bl).trans HT2.out⟩
set_option maxHeartbeats 1000000 in
set_option maxRecDepth 100000 in
theorem most_any12 (b mb : Nat) (T : List (List UInt8)) (w : World) (h : BW w b mb T) :
    Calls Tryz.prog 16 #[.pointer (some ⟨b, 0, none⟩)] w fun e w' => e = .returned (.int .i64 (mostT T : Nat)) ∧ w' = w := by
  have MN := Lib.hid (bnone_any b mb T w h)
  have MG := Lib.hid (greatest_any b mb T w h)
  clear h
  go_enter Tryz.func16, Tryz.ntmps16
  go_wp2_with fail
  refine MN.out.mono ?_
  rintro e w1 ⟨rfl, rfl⟩
  dsimp only
  refine list_go (by assumption) ?_
  go_wp2_with fail
  refine MG.out.mono ?_
  rintro e w1 ⟨rfl, rfl⟩
  dsimp only
  refine list_go (by assumption) ?_
  go_wp2
  go_ret
  exact ⟨rfl, rfl⟩
theorem zeroPosY : Tryz.zeroCells30 = (pc fun _ => 0).toArray := by kernel_rfl
theorem wpList_newP {ops : Array Oper} {rest : List Oper} {d : Tmp} {y : Operand} {t1 t2 : TypeId} {p1 p2 : String} {e1 e2 : Array Edge} {a : Act} {w : World} {Q : Exit → Act → World → Prop}
    (E : Array Value) (P : Nat → Int) (hE : E = (pc P).toArray) (hx : (a.put (some d) (.pointer (some ⟨w.heap.size, 0, none⟩))).eval (.tmp d) = .pointer (some ⟨w.heap.size, 0, none⟩)) (hy : (a.put (some d) (.pointer (some ⟨w.heap.size, 0, none⟩))).eval y = .agg E)
    (k : ∀ W, PB W w.heap.size P → Below w.heap.size w W → W.heap.size = w.heap.size + 1 → wpList Tryz.prog ops Q rest (a.put (some d) (.pointer (some ⟨w.heap.size, 0, none⟩))) W) :
    wpList Tryz.prog ops Q ({ dst := some d, op := .alloc 30, type := t1, pos := p1, after := e1, guard := none } :: { dst := none, op := .store 30 (.tmp d) y, type := t2, pos := p2, after := e2, guard := none } :: rest) a w := by
  subst hE
  refine wpList_plain rfl (fun K hK => ?_)
  go_simp
  refine hK _ _ ?_
  clear hK K
  have hpn : PB (w.alloc (.cells Tryz.zeroCells30 30)) w.heap.size (fun _ => 0) := by rw [zeroPosY]; exact PB.new rfl
  refine wpList_store_mid rfl 30 _ _ rfl w.heap.size 0 (pc P).toArray hx hy (by rw [pc_size]; exact hpn.there) (by rw [infoPos, pc_size]) (pc_one P) ?_
  rw [List.toList_toArray]
  exact k _ (hpn.store (Q := P)) (below_store (b := w.heap.size) P (below_new _) (Nat.le_refl _) (by simp)) (by rw [sizes_B]; simp)
def ReadsP (B : Nat) (w : World) (p : Option Addr) (m : Nat) (Ps : Nat → Nat → Int) : Prop :=
  m = 0 ∨ ∃ rb off, p = some ⟨rb, off, none⟩ ∧ rb < B ∧ ∀ i, i < m → w.rangeAt rb (off + i * 133) (pc (Ps i))
theorem ReadsP.below {B : Nat} {w w' : World} {p : Option Addr} {m : Nat} {Ps : Nat → Nat → Int} (h : ReadsP B w p m Ps) (g : Below B w w') : ReadsP B w' p m Ps := by
  rcases h with h | ⟨rb, off, h1, h2, h3⟩
  · exact .inl h
  · exact .inr ⟨rb, off, h1, h2, fun i hi j v hv => by
      have := h3 i hi j v hv
      rw [← this]
      exact g.cell (p := ⟨rb, off + i * 133 + j, none⟩) h2⟩
theorem wpList_posAt {ops : Array Oper} {rest : List Oper} {op : Oper} {a : Act} {w : World} {Q : Exit → Act → World → Prop} (hw : Region.wanted op (yielded ops a.tmps) = true) (x : Operand) (ho : op.op = .load 30 x)
    (b o : Nat) (P : Nat → Int) (X : Array Value) (hX : X = (pc P).toArray) (hx : a.eval x = .pointer (some ⟨b, o, none⟩)) (hc : w.rangeAt b o (pc P)) (h : wpList Tryz.prog ops Q rest (a.put op.dst (.agg X)) w) : wpList Tryz.prog ops Q (op :: rest) a w := by
  subst hX
  exact BigFrame.wpList_want hw fun _ hK => wp_load_mid 30 x ho b o hx (pc P) _ hc Tryz.underlying30 rfl (by rw [infoPos, pc_len]) (hK _ _ h)
theorem infoCts : (Tryz.prog.info? 59).map (·.size) = some 2 := by kernel_rfl
set_option maxHeartbeats 1000000 in
set_option maxRecDepth 100000 in
theorem noCounts_any (w : World) :
    Calls Tryz.prog 29 #[] w fun e w' => ∃ mb, e = .returned (.agg #[.map (some mb), .int .i64 0]) ∧ w.heap.size ≤ mb ∧ w'.ownsMap Tryz.prog 9 (plainElem Tryz.prog 3) mb 0 (bookD []) ∧ Below w.heap.size w w' := by
  have hmm := @run_makeMap Tryz.prog
  go_enter Tryz.func29, Tryz.ntmps29
  have HL := Lib.hid (show ((w.alloc (.cells #[.map (some (w.heap.size + 1)), .int .i64 0] 59)).alloc (.map #[] 0)).heap[w.heap.size]? = some (.cells #[.map (some (w.heap.size + 1)), .int .i64 0] 59 (0, 0)) from al_old (sl_at rfl) _)
  have HM := Lib.hid (show ((w.alloc (.cells #[.map (some (w.heap.size + 1)), .int .i64 0] 59)).alloc (.map #[] 0)).ownsMap Tryz.prog 9 (plainElem Tryz.prog 3) (w.heap.size + 1) 0 (bookD []) from by
    have := World.ownsMap_made (H := Unit) (w.alloc (.cells #[.map (some (w.heap.size + 1)), .int .i64 0] 59)) Tryz.prog 9 (plainElem Tryz.prog 3)
    simpa [bookD] using this)
  go_wp2
  refine bodyPost_ret (v := .agg #[.map (some (w.heap.size + 1)), .int .i64 0]) ?_ rfl ⟨w.heap.size + 1, rfl, by omega, HM.out, (below_new _).alloc (by simp) _⟩
  exact results_cell_row (p := 0) (ty := 59) rfl _ _ w.heap.size 59 _ (0, 0) _ rfl HL.out Tryz.underlying59 rfl infoCts
end Go.Proofs.YtcdnakbdajbfoaaGreatDoor

namespace Go.Proofs.YtcdnakbdajbfoaaGreatDoor
open Go.RowKit Go.Sort Go.Maps
set_option linter.unusedSimpArgs false
set_option linter.unusedVariables false
set_option maxRecDepth 20000

def txN (Ps : Nat → Nat → Int) : Nat → List (List UInt8)
  | 0 => []
  | i + 1 => kyB (Ps i) :: txN Ps i
theorem txN_len (Ps : Nat → Nat → Int) : ∀ n, (txN Ps n).length = n
  | 0 => rfl
  | n + 1 => by unfold txN; rw [List.length_cons, txN_len Ps n]
structure NB (B b mb : Nat) (T : List (List UInt8)) (w W : World) (p : Option Addr) (m : Nat) (Ps : Nat → Nat → Int) : Prop where
  k : BW W b mb T
  bl : Below w.heap.size w W
  e : EN B W
  r : ReadsP w.heap.size W p m Ps
  hb : w.heap.size ≤ b
  hm : w.heap.size ≤ mb
theorem NB.go {B b mb : Nat} {T : List (List UInt8)} {w W W' : World} {p : Option Addr} {m : Nat} {Ps : Nat → Nat → Int} (h : NB B b mb T w W p m Ps) (g : Below W.heap.size W W') : NB B b mb T w W' p m Ps :=
  ⟨h.k.go g, h.bl.trans (g.mono h.bl.size), h.e.go g, h.r.below (g.mono h.bl.size), h.hb, h.hm⟩
theorem NB.two {B b mb : Nat} {T T' : List (List UInt8)} {w W W' : World} {p : Option Addr} {m : Nat} {Ps : Nat → Nat → Int} (h : NB B b mb T w W p m Ps) (hk : BW W' b mb T') (g : Two b mb W W') (hB : B ≤ w.heap.size) : NB B b mb T' w W' p m Ps := by
  have h1 := g.below (Below.refl w.heap.size W) h.hb h.hm h.bl.size
  exact ⟨hk, h.bl.trans h1, h.e.on (h1.mono hB), h.r.below h1, h.hb, h.hm⟩
set_option maxHeartbeats 4000000 in
set_option maxRecDepth 100000 in
theorem new_any12 (B : Nat) (p : Option Addr) (m c : Nat) (Ps : Nat → Nat → Int) (hP : ∀ i, i < m → InW (Ps i)) (hm : m ≤ 1000) (w : World) (he : EN B w) (hr : ReadsP w.heap.size w p m Ps) :
    Calls Tryz.prog 8 #[.slice p m c] w fun e w' => ∃ b mb, e = .returned (.pointer (some ⟨b, 0, none⟩)) ∧ NB B b mb (txN Ps m) w w' p m Ps := by
  have HE := Lib.hid he
  have HR := Lib.hid hr
  have MN := Lib.hid (noCounts_any w)
  have MP := Lib.hid (fun i (hi : i < m) b mb W (h : NB B b mb (txN Ps i) w W p m Ps) => put_any12 B b mb (txN Ps i) (Ps i) (hP i hi) (by rw [txN_len]; omega) W h.k h.e)
  have HBW := Lib.hid he.k
  clear he hr hP
  go_enter Tryz.func8, Tryz.ntmps8
  go_wp2_with fail
  refine MN.out.mono ?_
  rintro e w1 ⟨mb, rfl, hmb, hown, hb⟩
  dsimp only
  refine list_go (by assumption) ?_
  go_upto_region 2 with (fail)
  refine forget_B (fun W => W.heap[w1.heap.size]? = some (.cells #[.map (some mb), .int .i64 0, .pointer none] 62 (0, 0)) ∧ W.ownsMap Tryz.prog 9 (plainElem Tryz.prog 3) mb 0 (bookD []) ∧ Below w.heap.size w W) ⟨sl_at rfl, hown.kept (gr_of_below none (below_new _)) (by simp), hb.alloc hb.size _⟩ ?_
  have HSZ := Lib.hid (show w.heap.size ≤ w1.heap.size from hb.size)
  have HMB := Lib.hid hmb
  clear hown hb MN hmb
  generalize w1.heap.size = b at *
  rintro W ⟨h1, h2, h3⟩
  obtain ⟨x0, x1, x2, xf, xz⟩ := row3 h1
  have hs := Go.heap_setCell_same W b 2 _ _ (.pointer (some ⟨b, 0, none⟩)) h1
  have gs := gr1_B (hb := b) (i := 2) (w := W) (.pointer (some ⟨b, 0, none⟩))
  have hne : mb ≠ b := fun e => by
    obtain ⟨es, ep, q, _⟩ := h2
    rw [e, h1] at q
    cases q
  have HN := Lib.hid (show NB B b mb (txN Ps 0) w (W.setCell ⟨b, 2, none⟩ (.pointer (some ⟨b, 0, none⟩))) p m Ps from
    ⟨⟨hs, h2.kept gs (by intro e; exact hne (Option.some.inj e)), fun x hx => by cases hx⟩, h3.setCell (p := ⟨b, 2, none⟩) HSZ.out _, HE.out.go (h3.setCell (p := ⟨b, 2, none⟩) HSZ.out _), HR.out.below (h3.setCell (p := ⟨b, 2, none⟩) HSZ.out _), HSZ.out, HMB.out⟩)
  clear hs gs hne h1 h2 h3 x1
  go_upto_region 3 with (fail)
  clear x0 x2 xf xz
  generalize W.setCell ⟨b, 2, none⟩ (.pointer (some ⟨b, 0, none⟩)) = W2 at *
  go_wp2
  go_loopw [15] (fun x wr => ∃ i : Nat, i ≤ m ∧ x = .int .i64 (i : Int) ∧ NB B b mb (txN Ps i) w wr p m Ps) (fun x _ => m - (intOf x).toNat)
  case atStart => exact ⟨0, Nat.zero_le _, rfl, HN.out⟩
  case round =>
    clear HN
    obtain ⟨i, hi, rfl, hn⟩ := hrel
    have HN := Lib.hid hn
    clear hn
    by_cases hlt : i < m
    · have M1 := Lib.hid (fun W h => MP.out i hlt b mb W h)
      have i0 : (0 : Int) ≤ (i : Int) := by omega
      rcases HN.out.r with h | ⟨rb, off, rfl, hrb, hcs⟩
      · omega
      have hc := hcs i hlt
      obtain ⟨X, hX⟩ : ∃ X, X = (pc (Ps i)).toArray := ⟨_, rfl⟩
      have HC := Lib.hid hc
      have HX := Lib.hid hX
      rw [← hX] at M1
      have HT := Lib.hid (show txN Ps (i + 1) = kyB (Ps i) :: txN Ps i from rfl)
      clear hcs hc hX hrb
      go_upto_region 5 with (fail)
      refine wp_region_lit ?_
      refine wpList_plain rfl (fun K hK => ?_)
      go_simp
      refine hK _ _ ?_
      clear hK K
      refine wpList_posAt (by rfl) _ (by rfl) rb (off + i * 133) (Ps i) X HX.out (by rfl) HC.out ?_
      refine wpList_newP X (Ps i) HX.out (by rfl) (by rfl) (fun W3 hp hb hsz => ?_)
      have HN3 := Lib.hid (HN.out.go hb)
      have HP3 := Lib.hid hp
      clear hp hb hsz HN HC
      generalize wr.heap.size = pb at *
      show Exit.then _ _ Exit.normal _ _
      go_wp2_with (first | refine wpList_pos (by rfl) _ (by rfl) pb (Ps i) X HX.out (by rfl) HP3.out ?_ | fail)
      refine (M1.out _ HN3.out).mono ?_
      rintro e w4 ⟨rfl, hk, h2⟩
      have HN4 := Lib.hid (HN3.out.two hk h2 HBW.out)
      rw [← HT.out] at HN4
      clear hk h2 HN3 HP3 M1
      dsimp only
      refine list_go (by assumption) ?_
      go_wp2
      go_roundw
      case rel => exact ⟨i + 1, by omega, by go_num, HN4.out⟩
      case measure => simp [intOf]; omega
    · obtain rfl : i = m := by omega
      go_wp2
      go_ret
      exact ⟨b, mb, rfl, HN.out⟩
theorem BW.gr {W W' : World} {b mb x : Nat} {T : List (List UInt8)} (h : BW W b mb T) (g : W.grownBy W' (some x)) (h1 : x ≠ b) (h2 : x ≠ mb) : BW W' b mb T :=
  ⟨(g.block b h.ltb (by intro e; exact h1 (Option.some.inj e).symm)).trans h.c, h.m.kept g (by intro e; exact h2 (Option.some.inj e).symm), h.s⟩
end Go.Proofs.YtcdnakbdajbfoaaGreatDoor
