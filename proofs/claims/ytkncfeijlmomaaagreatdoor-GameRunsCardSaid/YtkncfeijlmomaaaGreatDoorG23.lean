/-
  Merged: Yd, Ye, Yf, Ja, Jb, Jc.
-/
import Derived.Maps.OwnSet
import Derived.Maps.OwnOps
import Derived.Shelf.SlMaps.Clone
import Derived.Lib.Builder
import Derived.Lib.MinMax
import Derived.StringKeys
import Derived.Test.YtkncfeijlmomaaaGreatDoorG22
import Derived.Test.YtkncfeijlmomaaaGreatDoorG14
import Derived.Test.YtkncfeijlmomaaaGreatDoorG3
import Derived.Test.YtkncfeijlmomaaaGreatDoorG12

namespace Go.Proofs.YtkncfeijlmomaaaGreatDoor
open Go.RowKit Go.Sort Go.Maps
set_option linter.unusedSimpArgs false
set_option linter.unusedVariables false
set_option maxRecDepth 20000

theorem zeroIntW (w : World) : (zeroValue 3).run Tryz.prog w = .ok (.int .i64 0) w := by kernel_rfl
theorem lawStr : Keyed Tryz.prog 9 := string_keyed Tryz.underlying9
theorem key_str (k : List UInt8) (h : k.length ≤ maxLen) : keyOf Tryz.prog 9 (.string ⟨k.toArray⟩) = some (.string k) :=
  WideMaps.keyOf_string_mk Tryz.underlying9 (by simpa [ByteArray.size] using h)
/-- how often a text is in a row -/
def cntT (T : List (List UInt8)) (k : List UInt8) : Nat := T.count k
def mostT : List (List UInt8) → Nat
  | [] => 0
  | k :: T => max (mostT T) (cntT (k :: T) k)
/-- the map of a row of texts, the last ahead -/
def bookD : List (List UInt8) → DataW Unit
  | [] => .map []
  | k :: T => (bookD T).put (.string k) (.lit (.int .i64 (cntT (k :: T) k : Nat)))
theorem bookD_map : ∀ T, IsMap (bookD T)
  | [] => ⟨[], rfl⟩
  | _ :: T => (bookD_map T).put _ _
theorem cntT_same (T : List (List UInt8)) (k : List UInt8) : cntT (k :: T) k = cntT T k + 1 := by unfold cntT; exact List.count_cons_self
theorem cntT_other (T : List (List UInt8)) {k k' : List UInt8} (h : k' ≠ k) : cntT (k :: T) k' = cntT T k' := by unfold cntT; exact List.count_cons_of_ne (Ne.symm h)
theorem cntT_le (T : List (List UInt8)) (k : List UInt8) : cntT T k ≤ T.length := List.count_le_length
theorem mostT_le : ∀ T, mostT T ≤ T.length
  | [] => Nat.le_refl _
  | k :: T => by
    unfold mostT
    have h1 := mostT_le T
    have h2 := cntT_le (k :: T) k
    rw [List.length_cons] at h2 ⊢
    omega
theorem bookD_at : ∀ (T : List (List UInt8)), (∀ x ∈ T, x.length ≤ maxLen) → ∀ k : List UInt8, (bookD T).atKey (.string k) (.lit (.int .i64 0)) = .lit (.int .i64 (cntT T k : Nat))
  | [], _, k => rfl
  | x :: T, h, k => by
    unfold bookD
    by_cases e : k = x
    · subst e
      exact atKey_put_same (bookD_map T) (lawStr.key (key_str k (h k (List.mem_cons_self ..)))) _ _
    · rw [atKey_put_other (fun e2 => e (Lit.string.inj e2)), cntT_other T e]
      exact bookD_at T (fun y hy => h y (List.mem_cons_of_mem _ hy)) k
/-- a book in block b, its map in block mb: the texts that were put, the last ahead -/
structure BW (W : World) (b mb : Nat) (T : List (List UInt8)) : Prop where
  c : W.heap[b]? = some (.cells #[.map (some mb), .int .i64 (mostT T : Nat), .pointer (some ⟨b, 0, none⟩)] 96 (0, 0))
  m : W.ownsMap Tryz.prog 9 (plainElem Tryz.prog 3) mb T.length (bookD T)
  s : ∀ x ∈ T, x.length ≤ 3000
theorem BW.go {W W' : World} {b mb : Nat} {T : List (List UInt8)} (h : BW W b mb T) (g : Below W.heap.size W W') : BW W' b mb T :=
  ⟨sl_go h.c g, h.m.kept (gr_of_below none g) (by simp), h.s⟩
theorem BW.ltb {W : World} {b mb : Nat} {T : List (List UInt8)} (h : BW W b mb T) : b < W.heap.size := (Array.getElem?_eq_some_iff.1 h.c).1
theorem BW.long {W : World} {b mb : Nat} {T : List (List UInt8)} (h : BW W b mb T) : ∀ x ∈ T, x.length ≤ maxLen := fun x hx => Nat.le_trans (h.s x hx) (by unfold maxLen; omega)
theorem BW.look {W : World} {b mb : Nat} {T : List (List UInt8)} (h : BW W b mb T) (k : List UInt8) (hk : k.length ≤ 3000) : (Instr.lookup 91 (.map (some mb)) (.string ⟨k.toArray⟩) false).run Tryz.prog W = .ok (.int .i64 (cntT T k : Nat)) W := by
  obtain ⟨c, hrun, hat, hwc⟩ := h.m.lookup_int lawStr Tryz.underlying91 Tryz.underlying3 (zeroIntW W) (key_str k (Nat.le_trans hk (by unfold maxLen; omega)))
  rw [bookD_at T h.long k] at hat
  have : c = ((cntT T k : Nat) : Int) := by simpa using hat.symm
  rw [hrun, this]
theorem BW.ne {W : World} {b mb : Nat} {T : List (List UInt8)} (h : BW W b mb T) : b ≠ mb := fun e => by
  have h1 := h.c
  obtain ⟨es, ep, h2, _⟩ := h.m
  rw [e, h2] at h1
  cases h1
/-- what stands of a world in which a book's two blocks turn -/
structure Two (b mb : Nat) (w w' : World) : Prop where
  os : w'.os = w.os
  tape : w'.tape = w.tape
  output : w'.output = w.output
  size : w.heap.size ≤ w'.heap.size
  block : ∀ k, k < w.heap.size → k ≠ b → k ≠ mb → w'.heap[k]? = w.heap[k]?
theorem Two.of {b mb : Nat} {w w' : World} (g : Below w.heap.size w w') : Two b mb w w' := ⟨g.os, g.tape, g.output, g.size, fun k hk _ _ => g.block k hk⟩
theorem Two.trans {b mb : Nat} {w w' w'' : World} (h : Two b mb w w') (k : Two b mb w' w'') : Two b mb w w'' :=
  ⟨k.os.trans h.os, k.tape.trans h.tape, k.output.trans h.output, Nat.le_trans h.size k.size, fun i hi h1 h2 => (k.block i (Nat.lt_of_lt_of_le hi h.size) h1 h2).trans (h.block i hi h1 h2)⟩
theorem Two.grown {b mb x : Nat} {w w' : World} (g : w.grownBy w' (some x)) (hx : x = b ∨ x = mb) : Two b mb w w' :=
  ⟨g.os, g.tape, g.output, g.size, fun k hk h1 h2 => g.block k hk (by rintro e; cases e; rcases hx with e | e; exact h1 e; exact h2 e)⟩
theorem Two.below {B b mb : Nat} {w0 w w' : World} (h : Two b mb w w') (h0 : Below B w0 w) (hb : B ≤ b) (hm : B ≤ mb) (hs : B ≤ w.heap.size) : Below B w0 w' :=
  h0.trans ⟨h.os, h.tape, h.output, h.size, fun k hk => h.block k (Nat.lt_of_lt_of_le hk hs) (by omega) (by omega)⟩
theorem Two.at {b mb k : Nat} {w w' : World} {o : Obj} (h : Two b mb w w') (hk : w.heap[k]? = some o) (h1 : k ≠ b) (h2 : k ≠ mb) : w'.heap[k]? = some o :=
  (h.block k (Array.getElem?_eq_some_iff.1 hk).1 h1 h2).trans hk
theorem Two.pb {b mb k : Nat} {w w' : World} {P : Nat → Int} (h : Two b mb w w') (hp : PB w k P) (h1 : k ≠ b) (h2 : k ≠ mb) : PB w' k P := by
  have e := h.block k hp.lt h1 h2
  exact ⟨Nat.lt_of_lt_of_le hp.lt h.size, fun i hi => by rw [World.cell?_of_block (a := ⟨k, i, none⟩) e]; exact hp.cell i hi, fun i => by rw [← hp.fr i]; simp only [World.frozen?, e]⟩
theorem infoBk : (Tryz.prog.info? 96).map (·.size) = some 3 := by kernel_rfl
set_option maxHeartbeats 1000000 in
set_option maxRecDepth 100000 in
theorem bnone_any (b mb : Nat) (T : List (List UInt8)) (w : World) (h : BW w b mb T) :
    Calls Tryz.prog 55 #[.pointer (some ⟨b, 0, none⟩)] w fun e w' => e = .returned (.bool false) ∧ w' = w := by
  obtain ⟨x0, x1, x2, xf, xz⟩ := row3 h.c
  obtain ⟨j, hj⟩ : ∃ j, Tryz.prog.info? 96 = some j := by
    cases e : Tryz.prog.info? 96 with
    | none => have := infoBk; rw [e] at this; cases this
    | some j => exact ⟨j, rfl⟩
  have en := fun W => Lib.run_neq_ptr_same (P := Tryz.prog) W (tp := 65) (te := 96) ⟨b, 0, none⟩ Tryz.underlying65 hj
  clear h hj
  go_enter Tryz.func55, Tryz.ntmps55
  go_wp2
  go_ret
  exact ⟨rfl, rfl⟩
set_option maxHeartbeats 1000000 in
set_option maxRecDepth 100000 in
theorem ofC_any (b mb : Nat) (T : List (List UInt8)) (k : List UInt8) (hk : k.length ≤ 3000) (w : World) (h : BW w b mb T) :
    Calls Tryz.prog 68 #[.pointer (some ⟨b, 0, none⟩), .string ⟨k.toArray⟩] w fun e w' => e = .returned (.int .i64 (cntT T k : Nat)) ∧ w' = w := by
  obtain ⟨x0, x1, x2, xf, xz⟩ := row3 h.c
  have hl := h.look k hk
  generalize (⟨k.toArray⟩ : ByteArray) = K at hl ⊢
  clear h
  go_enter Tryz.func68, Tryz.ntmps68
  go_wp2
  go_ret
  exact ⟨rfl, rfl⟩
set_option maxHeartbeats 2000000 in
set_option maxRecDepth 100000 in
theorem oneMC_any (b mb : Nat) (T : List (List UInt8)) (k : List UInt8) (hk : k.length ≤ 3000) (hT : T.length ≤ 1000000) (w : World) (h : BW w b mb T) :
    Calls Tryz.prog 56 #[.pointer (some ⟨b, 0, none⟩), .string ⟨k.toArray⟩] w fun e w' => e = .returned (.int .i64 (cntT (k :: T) k : Nat)) ∧ BW w' b mb (k :: T) ∧ Two b mb w w' := by
  obtain ⟨x0, x1, x2, xf, xz⟩ := row3 h.c
  have hl := h.look k hk
  have hcl := cntT_le T k
  have hwf : (Lit.int .i64 ((cntT (k :: T) k : Nat) : Int)).wf = true := WalkArith.wf_i64 ⟨by omega, by rw [cntT_same]; omega⟩
  obtain ⟨w1, hrun, hown, hgrow⟩ := h.m.update lawStr Tryz.underlying91 (by unfold maxLen; omega) (key_str k (Nat.le_trans hk (by unfold maxLen; omega))) (plainElem_int Tryz.underlying3 hwf)
  have hrow1 := (hgrow.block b h.ltb (by intro e; exact h.ne (Option.some.inj e))).trans h.c
  obtain ⟨y0, y1, y2, yf, yz⟩ := row3 hrow1
  have HROW := Lib.hid hrow1
  have HOWN := Lib.hid hown
  have HG := Lib.hid hgrow
  have HS := Lib.hid (show ∀ x ∈ k :: T, x.length ≤ 3000 from fun x hx => by
    rcases List.mem_cons.1 hx with e | e
    · rw [e]; exact hk
    · exact h.s x e)
  have HM := Lib.hid (show mostT (k :: T) = max (mostT T) (cntT (k :: T) k) from rfl)
  have HML := Lib.hid (mostT_le T)
  have HCS := Lib.hid (cntT_same T k)
  have HNE := Lib.hid h.ne
  have c2 : ((cntT (k :: T) k : Nat) : Int) = (cntT T k : Nat) + 1 := by rw [cntT_same]; omega
  rw [c2] at hrun
  generalize (⟨k.toArray⟩ : ByteArray) = K at hl hrun ⊢
  obtain ⟨c, hc⟩ : ∃ c, cntT T k = c := ⟨_, rfl⟩
  rw [hc] at hl hcl hrun
  obtain ⟨q, hq⟩ : ∃ q, cntT (k :: T) k = q := ⟨_, rfl⟩
  rw [hc, hq] at HCS
  obtain ⟨m, hm⟩ : ∃ m, mostT T = m := ⟨_, rfl⟩
  rw [hm] at x1 y1 HML HROW
  rw [hq, hm] at HM
  rw [hq]
  clear h hgrow hown hwf hrow1 c2 hc hk hm hq
  have c0 : (0 : Int) ≤ (c : Int) := by omega
  have c1 : (c : Int) ≤ 1000000 := by omega
  go_enter Tryz.func56, Tryz.ntmps56
  go_wp2
  go_ret
  have hmx : max (m : Int) ((c : Int) + 1) = ((mostT (k :: T) : Nat) : Int) := by rw [HM.out, HCS.out]; omega
  have hs := Go.heap_setCell_same w1 b 1 _ _ (.int .i64 (max (m : Int) ((c : Int) + 1))) HROW.out
  have gs := gr1_B (hb := b) (i := 1) (w := w1) (.int .i64 (max (m : Int) ((c : Int) + 1)))
  rw [hmx] at hs gs ⊢
  exact ⟨q_i (by rw [HCS.out]; omega), ⟨hs, HOWN.out.kept gs (by intro e; exact HNE.out (Option.some.inj e).symm), HS.out⟩, (Two.grown HG.out (.inr rfl)).trans (Two.grown gs (.inl rfl))⟩
end Go.Proofs.YtkncfeijlmomaaaGreatDoor

namespace Go.Proofs.YtkncfeijlmomaaaGreatDoor
open Go.RowKit Go.Sort Go.Maps
set_option linter.unusedSimpArgs false
set_option linter.unusedVariables false
set_option maxRecDepth 20000

/-- what lies below a block: the package's variables -/
structure EN (B : Nat) (w : World) : Prop where
  gb : GB B w
  gs : GS B w
  gm : GM B w
  gp : GP B w
  tp : TP B w
  k : B ≤ w.heap.size
theorem EN.on {B : Nat} {w w' : World} (h : EN B w) (g : Below B w w') : EN B w' :=
  ⟨h.gb.below g, h.gs.below g, h.gm.below g, h.gp.below g, h.tp.on g, Nat.le_trans h.k g.size⟩
theorem EN.go {B : Nat} {w w' : World} (h : EN B w) (g : Below w.heap.size w w') : EN B w' := h.on (g.mono h.k)
theorem TP.up {B C : Nat} {w : World} (h : TP B w) (hB : B ≤ C) : TP C w := fun w' g => h w' (g.mono hB)
/-- numbers that Go's int can bear -/
def InW (P : Nat → Int) : Prop := ∀ i, i < 133 → -9223372036854775808 ≤ P i ∧ P i ≤ 9223372036854775807
theorem right_in {P : Nat → Int} (h : rightB P = true) : InW P := fun i hi => by
  have hf := right_fit P h
  have hs := right_side P h
  have hc := right_cas P h
  obtain ⟨_, _, _, _, ho, ⟨h1, h2⟩, h3, h4⟩ := right_parts9 P h
  rcases (show i < 128 ∨ i = 128 ∨ i = 129 ∨ i = 130 ∨ i = 131 ∨ i = 132 by omega) with e | rfl | rfl | rfl | rfl | rfl
  · rcases hf (i / 2) (by omega) with e2 | e2
    · obtain ⟨a, b⟩ := (pe_iff _ _ _ _).1 e2
      rcases (show i = 2 * (i / 2) ∨ i = 2 * (i / 2) + 1 by omega) with e3 | e3
      · rw [e3, a]; omega
      · rw [e3, b]; omega
    · obtain ⟨a, b, c⟩ := may_parts _ _ e2
      rcases (show i = 2 * (i / 2) ∨ i = 2 * (i / 2) + 1 by omega) with e3 | e3
      · rw [e3]; omega
      · rw [e3]; omega
  · omega
  · unfold casB at hc; simp only [Bool.and_eq_true, decide_eq_true_eq] at hc; omega
  · unfold overB at ho
    simp only [Bool.or_eq_true, Bool.and_eq_true, beq_iff_eq] at ho
    rcases ho with e | ⟨⟨e, _⟩, _⟩
    · omega
    · unfold sq at e; simp only [Bool.and_eq_true, decide_eq_true_eq] at e; omega
  · omega
  · omega
theorem kyB_len {P : Nat → Int} (h : InW P) : (kyB P).length ≤ 3000 := by
  unfold kyB
  have h1 := kyT_len (kyL P) fun n hn => by
    unfold kyL at hn
    rcases List.mem_append.1 hn with e | e
    · obtain ⟨j, hj, rfl⟩ := List.mem_map.1 e
      exact h j (by have := List.mem_range.1 hj; omega)
    · rw [List.mem_singleton.1 e]; exact inWf h
  rw [kyL_len] at h1
  omega
theorem keyE_any (P : Nat → Int) (hP : InW P) (B : Nat) (w : World) (h : EN B w) :
    Calls Tryz.prog 57 #[.agg (pc P).toArray] w fun e w' => e = .returned (.string ⟨(kyB P).toArray⟩) ∧ Below w.heap.size w w' :=
  key_any P hP w B h.gb h.gs h.gm h.gp (h.tp.up h.k) h.k
/-- what stands while a book is asked -/
structure BQ (B b mb : Nat) (T : List (List UInt8)) (P : Nat → Int) (w W : World) : Prop where
  p : PB W w.heap.size P
  bl : Below w.heap.size w W
  k : BW W b mb T
  e : EN B W
theorem BQ.go {B b mb : Nat} {T : List (List UInt8)} {P : Nat → Int} {w W W' : World} (h : BQ B b mb T P w W) (g : Below W.heap.size W W') : BQ B b mb T P w W' :=
  ⟨h.p.go g, h.bl.trans (g.mono h.bl.size), h.k.go g, h.e.go g⟩
theorem BQ.begin {B b mb : Nat} {T : List (List UInt8)} {P : Nat → Int} {w : World} (X : Array Value) (hX : X = (pc P).toArray) (h : BW w b mb T) (he : EN B w) : BQ B b mb T P w (w.alloc (.cells X 29)) :=
  ⟨by rw [hX]; exact PB.new rfl, below_new _, h.go (below_new _), he.go (below_new _)⟩
set_option maxHeartbeats 4000000 in
set_option maxRecDepth 100000 in
theorem many_any (B b mb : Nat) (T : List (List UInt8)) (P : Nat → Int) (hP : InW P) (w : World) (h : BW w b mb T) (he : EN B w) :
    Calls Tryz.prog 36 #[.pointer (some ⟨b, 0, none⟩), .agg (pc P).toArray] w fun e w' => e = .returned (.int .i64 (cntT T (kyB P) : Nat)) ∧ Below w.heap.size w w' := by
  obtain ⟨X, hX⟩ : ∃ X, X = (pc P).toArray := ⟨_, rfl⟩
  have HI := Lib.hid (BQ.begin X hX h he)
  have MN := Lib.hid (fun W (h : BQ B b mb T P w W) => bnone_any b mb T W h.k)
  have MK := Lib.hid (fun W (h : BQ B b mb T P w W) => keyE_any P hP B W h.e)
  have MO := Lib.hid (fun W (h : BQ B b mb T P w W) => ofC_any b mb T (kyB P) (kyB_len hP) W h.k)
  rw [← hX] at MK ⊢
  generalize (⟨(kyB P).toArray⟩ : ByteArray) = K at MK MO
  have HX := Lib.hid hX
  clear hX h he hP
  go_enter Tryz.func36, Tryz.ntmps36
  go_upto_region 1 with (fail)
  refine forget_B (fun W => BQ B b mb T P w W) HI.out ?_
  clear HI
  intro W hi
  have HI := Lib.hid hi
  clear hi
  go_wp2_with fail
  refine (MN.out _ HI.out).mono ?_
  rintro e w1 ⟨rfl, rfl⟩
  clear MN
  go_upto_region 3 with (fail)
  refine wp_region_noPanic ?_
  refine wp_region_start (n := 7) (l := #[ff, ff, ff, ff, ff, ff, ff]) (S := (fun W => BQ B b mb T P w W)) (by kernel_rfl) rfl (by kernel_rfl) (by first | exact HI.out | exact HI.out.go (Below.refl _ _).drew) (fun hHeld => ?_)
  replace HI := Lib.hid (HI.out.go (Below.refl w1.heap.size w1).drew)
  generalize w1.drew = V at *
  refine tq (i := 0) (d := some 7) rfl rfl ?_
  try simp only [aP, sA, sZ, sS]
  refine tq (i := 1) (d := some 8) rfl rfl ?_
  try simp only [aP, sA, sZ, sS]
  refine tq (i := 2) (d := some 9) rfl rfl ?_
  try simp only [aP, sA, sZ, sS]
  refine tg (i := 3) (d := some 10) (v := (.agg X)) rfl rfl ?_ ?_
  · exact yields_posC (by rfl) _ (by rfl) w.heap.size P X HX.out (by rfl) (fun W h => h.p)
  try simp only [aP, sA, sZ, sS]
  refine og (i := 4) rfl (by kernel_rfl) (fun K hK => ?_)
  go_simp
  refine (MK.out _ HI.out).mono ?_
  rintro e V ⟨rfl, hb⟩
  replace HI := Lib.hid (HI.out.go hb)
  clear hb
  dsimp only
  refine hK.out _ _ (by first | exact HI.out | exact HI.out.go (Below.refl _ _).drew) (fun hHeld => ?_)
  clear hK K
  try simp only [aP, sA, sZ, sS]
  refine og (i := 5) rfl (by kernel_rfl) (fun K hK => ?_)
  go_simp
  refine (MO.out _ HI.out).mono ?_
  rintro e V ⟨rfl, rfl⟩
  dsimp only
  refine hK.out _ _ (by first | exact HI.out | exact HI.out.go (Below.refl _ _).drew) (fun hHeld => ?_)
  clear hK K
  try simp only [aP, sA, sZ, sS]
  refine tq (i := 6) (d := some 4) rfl rfl ?_
  try simp only [aP, sA, sZ, sS]
  refine wpAnyH_done (by kernel_rfl) ?_ _
  refine NoPanic.normal ?_
  clear hHeld
  clear MK MO
  go_wp2
  go_ret
  exact ⟨rfl, HI.out.bl⟩
set_option maxHeartbeats 4000000 in
set_option maxRecDepth 100000 in
theorem put_any12 (B b mb : Nat) (T : List (List UInt8)) (P : Nat → Int) (hP : InW P) (hT : T.length ≤ 1000000) (w : World) (h : BW w b mb T) (he : EN B w) :
    Calls Tryz.prog 27 #[.pointer (some ⟨b, 0, none⟩), .agg (pc P).toArray] w fun e w' => e = .returned (.int .i64 (cntT (kyB P :: T) (kyB P) : Nat)) ∧ BW w' b mb (kyB P :: T) ∧ Two b mb w w' := by
  obtain ⟨X, hX⟩ : ∃ X, X = (pc P).toArray := ⟨_, rfl⟩
  have HI := Lib.hid (BQ.begin X hX h he)
  have HNB := Lib.hid (show w.heap.size ≠ b by have := h.ltb; omega)
  have HNM := Lib.hid (show w.heap.size ≠ mb by have := h.m.lt; omega)
  have MN := Lib.hid (fun W (h : BQ B b mb T P w W) => bnone_any b mb T W h.k)
  have MK := Lib.hid (fun W (h : BQ B b mb T P w W) => keyE_any P hP B W h.e)
  have MO := Lib.hid (fun W (h : BQ B b mb T P w W) => oneMC_any b mb T (kyB P) (kyB_len hP) hT W h.k)
  rw [← hX] at MK ⊢
  generalize (⟨(kyB P).toArray⟩ : ByteArray) = K at MK MO
  have HX := Lib.hid hX
  clear hX h he hP
  go_enter Tryz.func27, Tryz.ntmps27
  go_upto_region 1 with (fail)
  refine forget_B (fun W => BQ B b mb T P w W) HI.out ?_
  clear HI
  intro W hi
  have HI := Lib.hid hi
  clear hi
  go_wp2_with fail
  refine (MN.out _ HI.out).mono ?_
  rintro e w1 ⟨rfl, rfl⟩
  clear MN
  go_upto_region 3 with (fail)
  refine wp_region_noPanic ?_
  refine wp_region_start (n := 7) (l := #[ff, ff, ff, ff, ff, ff, ff]) (S := (fun W => PB W w.heap.size P)) (by kernel_rfl) rfl (by kernel_rfl) (by first | exact HI.out.p | exact (HI.out.go (Below.refl _ _).drew).p) (fun hHeld => ?_)
  replace HI := Lib.hid (HI.out.go (Below.refl w1.heap.size w1).drew)
  generalize w1.drew = V at *
  refine tq (i := 0) (d := some 7) rfl rfl ?_
  try simp only [aP, sA, sZ, sS]
  refine tq (i := 1) (d := some 8) rfl rfl ?_
  try simp only [aP, sA, sZ, sS]
  refine tq (i := 2) (d := some 9) rfl rfl ?_
  try simp only [aP, sA, sZ, sS]
  refine tg (i := 3) (d := some 10) (v := (.agg X)) rfl rfl ?_ ?_
  · exact yields_posC (by rfl) _ (by rfl) w.heap.size P X HX.out (by rfl) (fun W h => h)
  try simp only [aP, sA, sZ, sS]
  refine og (i := 4) rfl (by kernel_rfl) (fun K hK => ?_)
  go_simp
  refine (MK.out _ HI.out).mono ?_
  rintro e V ⟨rfl, hb⟩
  replace HI := Lib.hid (HI.out.go hb)
  clear hb
  dsimp only
  refine hK.out _ _ (by first | exact HI.out.p | exact (HI.out.go (Below.refl _ _).drew).p) (fun hHeld => ?_)
  clear hK K
  try simp only [aP, sA, sZ, sS]
  refine og (i := 5) rfl (by kernel_rfl) (fun K hK => ?_)
  go_simp
  refine (MO.out _ HI.out).mono ?_
  rintro e V2 ⟨rfl, hk2, h2⟩
  have HP := Lib.hid (h2.pb HI.out.p HNB.out HNM.out)
  have HK := Lib.hid hk2
  have HT2 := Lib.hid h2
  clear hk2 h2
  dsimp only
  refine hK.out _ _ (by exact HP.out) (fun hHeld => ?_)
  clear hK K
  try simp only [aP, sA, sZ, sS]
  refine tq (i := 6) (d := some 4) rfl rfl ?_
  try simp only [aP, sA, sZ, sS]
  refine wpAnyH_done (by kernel_rfl) ?_ _
  refine NoPanic.normal ?_
  clear hHeld
  clear MK MO
  go_wp2
  go_ret
  exact ⟨rfl, HK.out, (Two.of HI.out.bl).trans HT2.out⟩
theorem zeroPosY : Tryz.zeroCells29 = (pc fun _ => 0).toArray := by kernel_rfl
/-- a position is laid into a block of its own -/
theorem wpList_newP {ops : Array Oper} {rest : List Oper} {d : Tmp} {y : Operand} {t1 t2 : TypeId} {p1 p2 : String} {e1 e2 : Array Edge} {a : Act} {w : World} {Q : Exit → Act → World → Prop}
    (E : Array Value) (P : Nat → Int) (hE : E = (pc P).toArray) (hx : (a.put (some d) (.pointer (some ⟨w.heap.size, 0, none⟩))).eval (.tmp d) = .pointer (some ⟨w.heap.size, 0, none⟩)) (hy : (a.put (some d) (.pointer (some ⟨w.heap.size, 0, none⟩))).eval y = .agg E)
    (k : ∀ W, PB W w.heap.size P → Below w.heap.size w W → W.heap.size = w.heap.size + 1 → wpList Tryz.prog ops Q rest (a.put (some d) (.pointer (some ⟨w.heap.size, 0, none⟩))) W) :
    wpList Tryz.prog ops Q ({ dst := some d, op := .alloc 29, type := t1, pos := p1, after := e1, guard := none } :: { dst := none, op := .store 29 (.tmp d) y, type := t2, pos := p2, after := e2, guard := none } :: rest) a w := by
  subst hE
  refine wpList_plain rfl (fun K hK => ?_)
  go_simp
  refine hK _ _ ?_
  clear hK K
  have hpn : PB (w.alloc (.cells Tryz.zeroCells29 29)) w.heap.size (fun _ => 0) := by rw [zeroPosY]; exact PB.new rfl
  refine wpList_store_mid rfl 29 _ _ rfl w.heap.size 0 (pc P).toArray hx hy (by rw [pc_size]; exact hpn.there) (by rw [infoPos, pc_size]) (pc_one P) ?_
  rw [List.toList_toArray]
  exact k _ (hpn.store (Q := P)) (below_store (b := w.heap.size) P (below_new _) (Nat.le_refl _) (by simp)) (by rw [sizes_B]; simp)
/-- a row of positions -/
def ReadsP (B : Nat) (w : World) (p : Option Addr) (m : Nat) (Ps : Nat → Nat → Int) : Prop :=
  m = 0 ∨ ∃ rb off, p = some ⟨rb, off, none⟩ ∧ rb < B ∧ ∀ i, i < m → w.rangeAt rb (off + i * 133) (pc (Ps i))
theorem ReadsP.below {B : Nat} {w w' : World} {p : Option Addr} {m : Nat} {Ps : Nat → Nat → Int} (h : ReadsP B w p m Ps) (g : Below B w w') : ReadsP B w' p m Ps := by
  rcases h with h | ⟨rb, off, h1, h2, h3⟩
  · exact .inl h
  · exact .inr ⟨rb, off, h1, h2, fun i hi j v hv => by
      have := h3 i hi j v hv
      rw [← this]
      exact g.cell (p := ⟨rb, off + i * 133 + j, none⟩) h2⟩
theorem wpList_posAt {ops : Array Oper} {rest : List Oper} {op : Oper} {a : Act} {w : World} {Q : Exit → Act → World → Prop} (hw : Region.wanted op (yielded ops a.tmps) = true) (x : Operand) (ho : op.op = .load 29 x)
    (b o : Nat) (P : Nat → Int) (X : Array Value) (hX : X = (pc P).toArray) (hx : a.eval x = .pointer (some ⟨b, o, none⟩)) (hc : w.rangeAt b o (pc P)) (h : wpList Tryz.prog ops Q rest (a.put op.dst (.agg X)) w) : wpList Tryz.prog ops Q (op :: rest) a w := by
  subst hX
  exact BigFrame.wpList_want hw fun _ hK => wp_load_mid 29 x ho b o hx (pc P) _ hc Tryz.underlying29 rfl (by rw [infoPos, pc_len]) (hK _ _ h)
theorem infoCts : (Tryz.prog.info? 93).map (·.size) = some 2 := by kernel_rfl
set_option maxHeartbeats 1000000 in
set_option maxRecDepth 100000 in
theorem noCounts_any (w : World) :
    Calls Tryz.prog 54 #[] w fun e w' => ∃ mb, e = .returned (.agg #[.map (some mb), .int .i64 0]) ∧ w.heap.size ≤ mb ∧ w'.ownsMap Tryz.prog 9 (plainElem Tryz.prog 3) mb 0 (bookD []) ∧ Below w.heap.size w w' := by
  have hmm := @run_makeMap Tryz.prog
  go_enter Tryz.func54, Tryz.ntmps54
  have HL := Lib.hid (show ((w.alloc (.cells #[.map (some (w.heap.size + 1)), .int .i64 0] 93)).alloc (.map #[] 0)).heap[w.heap.size]? = some (.cells #[.map (some (w.heap.size + 1)), .int .i64 0] 93 (0, 0)) from al_old (sl_at rfl) _)
  have HM := Lib.hid (show ((w.alloc (.cells #[.map (some (w.heap.size + 1)), .int .i64 0] 93)).alloc (.map #[] 0)).ownsMap Tryz.prog 9 (plainElem Tryz.prog 3) (w.heap.size + 1) 0 (bookD []) from by
    have := World.ownsMap_made (H := Unit) (w.alloc (.cells #[.map (some (w.heap.size + 1)), .int .i64 0] 93)) Tryz.prog 9 (plainElem Tryz.prog 3)
    simpa [bookD] using this)
  go_wp2
  refine bodyPost_ret (v := .agg #[.map (some (w.heap.size + 1)), .int .i64 0]) ?_ rfl ⟨w.heap.size + 1, rfl, by omega, HM.out, (below_new _).alloc (by simp) _⟩
  exact results_cell_row (p := 0) (ty := 93) rfl _ _ w.heap.size 93 _ (0, 0) _ rfl HL.out Tryz.underlying93 rfl infoCts
end Go.Proofs.YtkncfeijlmomaaaGreatDoor

namespace Go.Proofs.YtkncfeijlmomaaaGreatDoor
open Go.RowKit Go.Sort Go.Maps
set_option linter.unusedSimpArgs false
set_option linter.unusedVariables false
set_option maxRecDepth 20000

/-- the texts of the first positions of a row, the last ahead -/
def txN (Ps : Nat → Nat → Int) : Nat → List (List UInt8)
  | 0 => []
  | i + 1 => kyB (Ps i) :: txN Ps i
theorem txN_len (Ps : Nat → Nat → Int) : ∀ n, (txN Ps n).length = n
  | 0 => rfl
  | n + 1 => by unfold txN; rw [List.length_cons, txN_len Ps n]
/-- what stands while positions are put into a new book -/
structure NB (B b mb : Nat) (T : List (List UInt8)) (w W : World) (p : Option Addr) (m : Nat) (Ps : Nat → Nat → Int) : Prop where
  k : BW W b mb T
  bl : Below w.heap.size w W
  e : EN B W
  r : ReadsP w.heap.size W p m Ps
  hb : w.heap.size ≤ b
  hm : w.heap.size ≤ mb
theorem NB.go {B b mb : Nat} {T : List (List UInt8)} {w W W' : World} {p : Option Addr} {m : Nat} {Ps : Nat → Nat → Int} (h : NB B b mb T w W p m Ps) (g : Below W.heap.size W W') : NB B b mb T w W' p m Ps :=
  ⟨h.k.go g, h.bl.trans (g.mono h.bl.size), h.e.go g, h.r.below (g.mono h.bl.size), h.hb, h.hm⟩
theorem NB.two {B b mb : Nat} {T T' : List (List UInt8)} {w W W' : World} {p : Option Addr} {m : Nat} {Ps : Nat → Nat → Int} (h : NB B b mb T w W p m Ps) (hk : BW W' b mb T') (g : Two b mb W W') (hB : B ≤ w.heap.size) : NB B b mb T' w W' p m Ps := by
  have h1 := g.below (Below.refl w.heap.size W) h.hb h.hm h.bl.size
  exact ⟨hk, h.bl.trans h1, h.e.on (h1.mono hB), h.r.below h1, h.hb, h.hm⟩
set_option maxHeartbeats 4000000 in
set_option maxRecDepth 100000 in
theorem new_any12 (B : Nat) (p : Option Addr) (m c : Nat) (Ps : Nat → Nat → Int) (hP : ∀ i, i < m → InW (Ps i)) (hm : m ≤ 1000) (w : World) (he : EN B w) (hr : ReadsP w.heap.size w p m Ps) :
    Calls Tryz.prog 26 #[.slice p m c] w fun e w' => ∃ b mb, e = .returned (.pointer (some ⟨b, 0, none⟩)) ∧ NB B b mb (txN Ps m) w w' p m Ps := by
  have HE := Lib.hid he
  have HR := Lib.hid hr
  have MN := Lib.hid (noCounts_any w)
  have MP := Lib.hid (fun i (hi : i < m) b mb W (h : NB B b mb (txN Ps i) w W p m Ps) => put_any12 B b mb (txN Ps i) (Ps i) (hP i hi) (by rw [txN_len]; omega) W h.k h.e)
  have HBW := Lib.hid he.k
  clear he hr hP
  go_enter Tryz.func26, Tryz.ntmps26
  go_wp2_with fail
  refine MN.out.mono ?_
  rintro e w1 ⟨mb, rfl, hmb, hown, hb⟩
  dsimp only
  refine list_go (by assumption) ?_
  go_upto_region 2 with (fail)
  refine forget_B (fun W => W.heap[w1.heap.size]? = some (.cells #[.map (some mb), .int .i64 0, .pointer none] 96 (0, 0)) ∧ W.ownsMap Tryz.prog 9 (plainElem Tryz.prog 3) mb 0 (bookD []) ∧ Below w.heap.size w W) ⟨sl_at rfl, hown.kept (gr_of_below none (below_new _)) (by simp), hb.alloc hb.size _⟩ ?_
  have HSZ := Lib.hid (show w.heap.size ≤ w1.heap.size from hb.size)
  have HMB := Lib.hid hmb
  clear hown hb MN hmb
  generalize w1.heap.size = b at *
  rintro W ⟨h1, h2, h3⟩
  obtain ⟨x0, x1, x2, xf, xz⟩ := row3 h1
  have hs := Go.heap_setCell_same W b 2 _ _ (.pointer (some ⟨b, 0, none⟩)) h1
  have gs := gr1_B (hb := b) (i := 2) (w := W) (.pointer (some ⟨b, 0, none⟩))
  have hne : mb ≠ b := fun e => by
    obtain ⟨es, ep, q, _⟩ := h2
    rw [e, h1] at q
    cases q
  have HN := Lib.hid (show NB B b mb (txN Ps 0) w (W.setCell ⟨b, 2, none⟩ (.pointer (some ⟨b, 0, none⟩))) p m Ps from
    ⟨⟨hs, h2.kept gs (by intro e; exact hne (Option.some.inj e)), fun x hx => by cases hx⟩, h3.setCell (p := ⟨b, 2, none⟩) HSZ.out _, HE.out.go (h3.setCell (p := ⟨b, 2, none⟩) HSZ.out _), HR.out.below (h3.setCell (p := ⟨b, 2, none⟩) HSZ.out _), HSZ.out, HMB.out⟩)
  clear hs gs hne h1 h2 h3 x1
  go_upto_region 3 with (fail)
  clear x0 x2 xf xz
  generalize W.setCell ⟨b, 2, none⟩ (.pointer (some ⟨b, 0, none⟩)) = W2 at *
  go_wp2
  go_loopw [15] (fun x wr => ∃ i : Nat, i ≤ m ∧ x = .int .i64 (i : Int) ∧ NB B b mb (txN Ps i) w wr p m Ps) (fun x _ => m - (intOf x).toNat)
  case atStart => exact ⟨0, Nat.zero_le _, rfl, HN.out⟩
  case round =>
    clear HN
    obtain ⟨i, hi, rfl, hn⟩ := hrel
    have HN := Lib.hid hn
    clear hn
    by_cases hlt : i < m
    · have M1 := Lib.hid (fun W h => MP.out i hlt b mb W h)
      have i0 : (0 : Int) ≤ (i : Int) := by omega
      rcases HN.out.r with h | ⟨rb, off, rfl, hrb, hcs⟩
      · omega
      have hc := hcs i hlt
      obtain ⟨X, hX⟩ : ∃ X, X = (pc (Ps i)).toArray := ⟨_, rfl⟩
      have HC := Lib.hid hc
      have HX := Lib.hid hX
      rw [← hX] at M1
      have HT := Lib.hid (show txN Ps (i + 1) = kyB (Ps i) :: txN Ps i from rfl)
      clear hcs hc hX hrb
      go_upto_region 5 with (fail)
      refine wp_region_lit ?_
      refine wpList_plain rfl (fun K hK => ?_)
      go_simp
      refine hK _ _ ?_
      clear hK K
      refine wpList_posAt (by rfl) _ (by rfl) rb (off + i * 133) (Ps i) X HX.out (by rfl) HC.out ?_
      refine wpList_newP X (Ps i) HX.out (by rfl) (by rfl) (fun W3 hp hb hsz => ?_)
      have HN3 := Lib.hid (HN.out.go hb)
      have HP3 := Lib.hid hp
      clear hp hb hsz HN HC
      generalize wr.heap.size = pb at *
      show Exit.then _ _ Exit.normal _ _
      go_wp2_with (first | refine wpList_pos (by rfl) _ (by rfl) pb (Ps i) X HX.out (by rfl) HP3.out ?_ | fail)
      refine (M1.out _ HN3.out).mono ?_
      rintro e w4 ⟨rfl, hk, h2⟩
      have HN4 := Lib.hid (HN3.out.two hk h2 HBW.out)
      rw [← HT.out] at HN4
      clear hk h2 HN3 HP3 M1
      dsimp only
      refine list_go (by assumption) ?_
      go_wp2
      go_roundw
      case rel => exact ⟨i + 1, by omega, by go_num, HN4.out⟩
      case measure => simp [intOf]; omega
    · obtain rfl : i = m := by omega
      go_wp2
      go_ret
      exact ⟨b, mb, rfl, HN.out⟩
theorem BW.gr {W W' : World} {b mb x : Nat} {T : List (List UInt8)} (h : BW W b mb T) (g : W.grownBy W' (some x)) (h1 : x ≠ b) (h2 : x ≠ mb) : BW W' b mb T :=
  ⟨(g.block b h.ltb (by intro e; exact h1 (Option.some.inj e).symm)).trans h.c, h.m.kept g (by intro e; exact h2 (Option.some.inj e).symm), h.s⟩
def clone12_ren : Go.Shelf.Ren := ⟨fun | 5 => 145 | 7 => 165 | n => n, fun | 4 => 4 | 20 => 20 | 23 => 91 | 25 => 9 | 3 => 3 | n => n, fun | n => n⟩
theorem clone12_lays : Go.Proofs.SlLaysW.n5 Tryz.prog clone12_ren := {
  mixed := by kernel_rfl
  f5 := ⟨"maps.Clone[map[string]int,string,int]", by decide, Tryz.func145.trans (congrArg some (by kernel_rfl))⟩
  f7 := Tryz.func165.trans (congrArg some (by kernel_rfl))
  t4 := Tryz.underlying4
  a4 := Tryz.isAgg4
  z4 := Tryz.sizeOf4
  v4 := Tryz.zeroValue4
  t20 := Tryz.underlying20
  a20 := Tryz.isAgg20
  z20 := Tryz.sizeOf20
  v20 := Tryz.zeroValue20
  t23 := Tryz.underlying91
  a23 := Tryz.isAgg91
  z23 := Tryz.sizeOf91
  v23 := Tryz.zeroValue91 }
set_option maxHeartbeats 1000000 in
set_option maxRecDepth 100000 in
theorem copiedC_any (b mb : Nat) (T : List (List UInt8)) (w : World) (h : BW w b mb T) :
    Calls Tryz.prog 117 #[.pointer (some ⟨b, 0, none⟩)] w fun e w' => ∃ c, e = .returned (.agg #[.map (some c), .int .i64 (mostT T : Nat)]) ∧ w.heap.size ≤ c ∧ w'.ownsMap Tryz.prog 9 (plainElem Tryz.prog 3) c T.length (bookD T) ∧ Below w.heap.size w w' := by
  have MC := Lib.hid (fun W (h : BW W b mb T) => show Calls Tryz.prog 145 #[.map (some mb)] W fun e w' => ∃ c, e = .returned (.map (some c)) ∧ W.heap.size ≤ c ∧ w'.ownsMap Tryz.prog 9 (plainElem Tryz.prog 3) c T.length (bookD T) ∧ Below W.heap.size W w' from by
    refine (AnyW.maps_Clone_owns clone12_lays _ _ mb _ (bookD T) W h.m).mono ?_
    rintro e w' ⟨rfl, h3, _, hb⟩
    exact ⟨_, rfl, Nat.le_refl _, h3, hb⟩)
  have HNB := Lib.hid (show w.heap.size ≠ b by have := h.ltb; omega)
  have HNM := Lib.hid (show w.heap.size ≠ mb by have := h.m.lt; omega)
  have HZ := Lib.hid (show BW (w.alloc (.cells #[.map none, .int .i64 0] 93)) b mb T ∧ (w.alloc (.cells #[.map none, .int .i64 0] 93)).heap[w.heap.size]? = some (.cells #[.map none, .int .i64 0] 93 (0, 0)) ∧ Below w.heap.size w (w.alloc (.cells #[.map none, .int .i64 0] 93)) from ⟨h.go (below_new _), sl_at rfl, below_new _⟩)
  clear h
  go_enter Tryz.func117, Tryz.ntmps117
  go_upto_region 1 with (fail)
  refine forget_B (fun W => BW W b mb T ∧ W.heap[w.heap.size]? = some (.cells #[.map none, .int .i64 0] 93 (0, 0)) ∧ Below w.heap.size w W) HZ.out ?_
  clear HZ
  intro W1 hz
  have HZ := Lib.hid hz
  clear hz
  refine wp_region_noPanic ?_
  refine wp_region_start (n := 11) (l := #[ff, ff, ff, ff, ff, ff, ff, ff, ff, ff, ff]) (S := (fun W => BW W b mb T)) (by kernel_rfl) rfl (by kernel_rfl) (by first | exact HZ.out.1 | exact HZ.out.1.go (Below.refl _ _).drew) (fun hHeld => ?_)
  replace HZ := Lib.hid (And.intro (HZ.out.1.go (Below.refl W1.heap.size W1).drew) (And.intro (sl_go HZ.out.2.1 (Below.refl W1.heap.size W1).drew) (HZ.out.2.2.trans ((Below.refl W1.heap.size W1).drew.mono HZ.out.2.2.size))))
  generalize W1.drew = V at *
  refine tq (i := 0) (d := some 3) rfl rfl ?_
  try simp only [aP, sA, sZ, sS]
  refine tq (i := 1) (d := some 4) rfl rfl ?_
  try simp only [aP, sA, sZ, sS]
  refine tq (i := 2) (d := some 5) rfl rfl ?_
  try simp only [aP, sA, sZ, sS]
  refine tg (i := 3) (d := some 6) (v := (.map (some mb))) rfl rfl ?_ ?_
  · refine Or.inl ⟨by rfl, ?_⟩; intro w' hSw; (try dsimp only at hSw); obtain ⟨x0, x1, x2, xf, xz⟩ := row3 hSw.c; go_simp
  try simp only [aP, sA, sZ, sS]
  refine tq (i := 5) (d := some 8) rfl rfl ?_
  try simp only [aP, sA, sZ, sS]
  refine tq (i := 6) (d := some 9) rfl rfl ?_
  try simp only [aP, sA, sZ, sS]
  refine tq (i := 7) (d := some 10) rfl rfl ?_
  try simp only [aP, sA, sZ, sS]
  refine tg (i := 8) (d := some 11) (v := (.int .i64 (mostT T : Nat))) rfl rfl ?_ ?_
  · refine Or.inl ⟨by rfl, ?_⟩; intro w' hSw; (try dsimp only at hSw); obtain ⟨x0, x1, x2, xf, xz⟩ := row3 hSw.c; go_simp
  try simp only [aP, sA, sZ, sS]
  refine og (i := 4) rfl (by kernel_rfl) (fun K hK => ?_)
  go_simp
  refine (MC.out _ HZ.out.1).mono ?_
  rintro e V2 ⟨c, rfl, hc, hown, hb⟩
  have HCC := Lib.hid (show w.heap.size ≤ c from Nat.le_trans HZ.out.2.2.size hc)
  have HOW := Lib.hid hown
  have HNE := Lib.hid (show c ≠ w.heap.size by have := (Array.getElem?_eq_some_iff.1 HZ.out.2.1).1; omega)
  replace HZ := Lib.hid (And.intro (HZ.out.1.go hb) (And.intro (sl_go HZ.out.2.1 hb) (HZ.out.2.2.trans (hb.mono HZ.out.2.2.size))))
  clear hc hown hb
  dsimp only
  refine hK.out _ _ (by first | exact HZ.out.1 | exact HZ.out.1.go (Below.refl _ _).drew) (fun hHeld => ?_)
  clear hK K
  try simp only [aP, sA, sZ, sS]
  refine tq (i := 9) (d := some 12) rfl rfl ?_
  try simp only [aP, sA, sZ, sS]
  refine og (i := 10) rfl (by kernel_rfl) (fun K hK => ?_)
  obtain ⟨y0, y1, yf, yz⟩ := row2 HZ.out.2.1
  go_simp
  clear y0 y1 yf yz
  have hs := Go.heap_setCell_same _ w.heap.size 1 _ _ (.int .i64 (mostT T : Nat)) (Go.heap_setCell_same V2 w.heap.size 0 _ _ (.map (some c)) HZ.out.2.1)
  have gs := (gr1_B (hb := w.heap.size) (i := 0) (w := V2) (.map (some c))).trans (gr1_B (hb := w.heap.size) (i := 1) (.int .i64 (mostT T : Nat)))
  have HL := Lib.hid hs
  have HBW := Lib.hid (HZ.out.1.gr gs HNB.out HNM.out)
  have HBL := Lib.hid (HZ.out.2.2.grown gs HZ.out.2.2.size (by rintro k ⟨⟩; exact Nat.le_refl _))
  replace HOW := Lib.hid (HOW.out.kept gs (by intro e; exact HNE.out (Option.some.inj e)))
  clear hs gs HZ
  refine hK.out _ _ (by exact HBW.out) (fun hHeld => ?_)
  clear hK K
  try simp only [aP, sA, sZ, sS]
  refine wpAnyH_done (by kernel_rfl) ?_ _
  refine NoPanic.normal ?_
  clear hHeld
  go_wp2
  refine bodyPost_ret (v := .agg #[.map (some c), .int .i64 (mostT T : Nat)]) ?_ rfl ⟨c, rfl, HCC.out, HOW.out, HBL.out⟩
  exact results_cell_row (p := 2) (ty := 93) rfl _ _ w.heap.size 93 _ (0, 0) _ rfl HL.out Tryz.underlying93 rfl infoCts
set_option maxHeartbeats 1000000 in
set_option maxRecDepth 100000 in
theorem copy_any12 (B b mb : Nat) (T : List (List UInt8)) (w : World) (h : BW w b mb T) (he : EN B w) :
    Calls Tryz.prog 81 #[.pointer (some ⟨b, 0, none⟩)] w fun e w' => ∃ b2 c2, e = .returned (.pointer (some ⟨b2, 0, none⟩)) ∧ w.heap.size ≤ b2 ∧ w.heap.size ≤ c2 ∧ BW w' b2 c2 T ∧ Below w.heap.size w w' := by
  have MN := Lib.hid (bnone_any b mb T w h)
  have MW := Lib.hid (new_any12 B none 0 0 (fun _ _ => 0) (fun i hi => absurd hi (Nat.not_lt_zero _)) (by omega) w he (.inl rfl))
  have MC := Lib.hid (fun W (h : BW W b mb T) => copiedC_any b mb T W h)
  have HH := Lib.hid h
  clear h he
  go_enter Tryz.func81, Tryz.ntmps81
  go_wp2_with fail
  refine MN.out.mono ?_
  rintro e w1 ⟨rfl, rfl⟩
  dsimp only
  refine list_go (by assumption) ?_
  go_wp2_with fail
  refine MW.out.mono ?_
  rintro e w2 ⟨b2, mb2, rfl, hn⟩
  have HN := Lib.hid hn
  have HH2 := Lib.hid (HH.out.go hn.bl)
  clear hn
  dsimp only
  refine list_go (by assumption) ?_
  go_wp2_with fail
  refine (MC.out _ HH2.out).mono ?_
  rintro e w3 ⟨c, rfl, hc, hown, hb⟩
  dsimp only
  refine list_go (by assumption) ?_
  have hrow := sl_go HN.out.k.c hb
  obtain ⟨y0, y1, y2, yf, yz⟩ := row3 hrow
  have hs := Go.heap_setCell_same _ b2 1 _ _ (.int .i64 (mostT T : Nat)) (Go.heap_setCell_same w3 b2 0 _ _ (.map (some c)) hrow)
  have gs := (gr1_B (hb := b2) (i := 0) (w := w3) (.map (some c))).trans (gr1_B (hb := b2) (i := 1) (.int .i64 (mostT T : Nat)))
  have hlt := HN.out.k.ltb
  have HF := Lib.hid (show BW ((w3.setCell ⟨b2, 0, none⟩ (.map (some c))).setCell ⟨b2, 1, none⟩ (.int .i64 (mostT T : Nat))) b2 c T from ⟨hs, hown.kept gs (by intro e; have := Option.some.inj e; omega), HH.out.s⟩)
  have HBF := Lib.hid (show Below w1.heap.size w1 ((w3.setCell ⟨b2, 0, none⟩ (.map (some c))).setCell ⟨b2, 1, none⟩ (.int .i64 (mostT T : Nat))) from
    (HN.out.bl.trans (hb.mono HN.out.bl.size)).grown gs (Nat.le_trans HN.out.bl.size hb.size) (by rintro k ⟨⟩; exact HN.out.hb))
  have HC1 := Lib.hid (show w1.heap.size ≤ c from Nat.le_trans HN.out.bl.size hc)
  have HC2 := Lib.hid HN.out.hb
  clear hs gs hlt hrow hown hb hc HN HH HH2 MC MW MN
  go_wp2
  go_ret
  exact ⟨b2, c, rfl, HC2.out, HC1.out, HF.out, HBF.out⟩
end Go.Proofs.YtkncfeijlmomaaaGreatDoor

namespace Go.Proofs.YtkncfeijlmomaaaGreatDoor
open Go.RowKit Go.Sort
set_option linter.unusedSimpArgs false
set_option linter.unusedVariables false
set_option maxRecDepth 20000

theorem list_goJ {P : Program} {ops : Array Oper} {Q : Exit → Act → World → Prop} {rest : List Oper} {K : Act → World → Prop} {a : Act} {w : World} (h : ∀ a w, wpList P ops Q rest a w → K a w) (hq : wpList P ops Q rest a w) : K a w := h _ _ hq
theorem pos_boxJ (P : Nat → Int) (w : World) (X : Array Value) (hX : X = (pc P).toArray) (t : TypeId) : PB (w.alloc (.cells X t)) w.heap.size P := by subst hX; exact PB.new rfl
theorem row4c {W : World} {H : Nat} {a b c d : Value} {t : TypeId} (h : W.heap[H]? = some (.cells #[a, b, c, d] t (0, 0))) :
    W.cell? ⟨H, 0, none⟩ = some a ∧ W.cell? ⟨H, 1, none⟩ = some b ∧ W.cell? ⟨H, 2, none⟩ = some c ∧ W.cell? ⟨H, 3, none⟩ = some d ∧ (∀ o, W.frozen? ⟨H, o, none⟩ = false) ∧ H < W.heap.size :=
  ⟨by rw [cell_of_row W H 0 _ _ (0, 0) h]; rfl, by rw [cell_of_row W H 1 _ _ (0, 0) h]; rfl, by rw [cell_of_row W H 2 _ _ (0, 0) h]; rfl, by rw [cell_of_row W H 3 _ _ (0, 0) h]; rfl, fun o => frozen_of_row W H o _ _ h, (Array.getElem?_eq_some_iff.1 h).1⟩

/-- what is left -/
structure LF where
  h : Int
  k : Int
  d : Int
  l : Int
/-- one piece more -/
def addK (kind : Int) (dk : Bool) (x : LF) : LF :=
  if kind = 0 ∨ kind = 6 then x else if kind = 2 then ⟨x.h, x.k + 1, x.d, x.l⟩ else if kind = 3 then (if dk then ⟨x.h, x.k, x.d + 1, x.l⟩ else ⟨x.h, x.k, x.d, x.l + 1⟩) else ⟨x.h + 1, x.k, x.d, x.l⟩
/-- its cells -/
def lfA (x : LF) : Array Value := #[.int .i64 x.h, .int .i64 x.k, .int .i64 x.d, .int .i64 x.l]
/-- all between two numbers -/
def LB (x : LF) (m : Int) : Prop := (-m ≤ x.h ∧ x.h ≤ m) ∧ (-m ≤ x.k ∧ x.k ≤ m) ∧ (-m ≤ x.d ∧ x.d ≤ m) ∧ -m ≤ x.l ∧ x.l ≤ m
theorem LB.add {x : LF} {m : Int} (h : LB x m) (kind : Int) (dk : Bool) : LB (addK kind dk x) (m + 1) := by
  unfold LB at h ⊢
  unfold addK
  by_cases h0 : kind = 0 ∨ kind = 6
  · rw [if_pos h0]; omega
  · rw [if_neg h0]
    by_cases h2 : kind = 2
    · rw [if_pos h2]; dsimp only; omega
    · rw [if_neg h2]
      by_cases h3 : kind = 3
      · rw [if_pos h3]; cases dk <;> simp only [Bool.false_eq_true, if_true, if_false] <;> omega
      · rw [if_neg h3]; dsimp only; omega
theorem LB.mono {x : LF} {m n : Int} (h : LB x m) (hm : m ≤ n) : LB x n := by unfold LB at h ⊢; omega

/-- the counter's block -/
def CB (W : World) (b : Nat) (x : LF) : Prop := W.heap[b]? = some (.cells (lfA x) 104 (0, 0))
theorem CB.go {W W' : World} {b : Nat} {x : LF} (h : CB W b x) (g : Below W.heap.size W W') : CB W' b x := sl_go h g
theorem CB.set {W : World} {b : Nat} {x : LF} (h : CB W b x) (i : Nat) (z : Int) (y : LF) (hy : (lfA x).setIfInBounds i (.int .i64 z) = lfA y) : CB (W.setCell ⟨b, i, none⟩ (.int .i64 z)) b y := by
  unfold CB
  rw [← hy]
  exact Go.heap_setCell_same W b i _ _ _ h

set_option maxHeartbeats 1000000 in
theorem bishop_any (b : Nat) (x : LF) (dk : Bool) (w : World) (hc : CB w b x) (hx : LB x 4611686018427387904) :
    Calls Tryz.prog 129 #[.pointer (some ⟨b, 0, none⟩), .bool dk] w fun e w' => e = .returned (.tuple #[]) ∧ CB w' b (addK 3 dk x) ∧ w.grownBy w' (some b) := by
  obtain ⟨e0, e1, e2, e3, ef, _⟩ := row4c hc
  have f2 := ef 2
  have f3 := ef 3
  obtain ⟨h, k, d, l⟩ := x
  obtain ⟨_, _, ⟨b1, b2⟩, b3, b4⟩ := hx
  dsimp only at e0 e1 e2 e3 b1 b2 b3 b4
  have HC := Lib.hid hc
  clear hc e0 e1
  cases dk
  · clear e2 f2 b1 b2
    go_enter Tryz.func129, Tryz.ntmps129
    go_wp2
    go_end0
    exact ⟨rfl, HC.out.set 3 _ _ rfl, gr1_B _⟩
  · clear e3 f3 b3 b4
    go_enter Tryz.func129, Tryz.ntmps129
    go_wp2
    go_end0
    exact ⟨rfl, HC.out.set 2 _ _ rfl, gr1_B _⟩
set_option maxHeartbeats 1000000 in
theorem one_any (b : Nat) (x : LF) (kind : Int) (dk : Bool) (w : World) (hc : CB w b x) (hx : LB x 4611686018427387904) :
    Calls Tryz.prog 99 #[.pointer (some ⟨b, 0, none⟩), .int .i64 kind, .bool dk] w fun e w' => e = .returned (.tuple #[]) ∧ CB w' b (addK kind dk x) ∧ w.grownBy w' (some b) := by
  have HBI := Lib.hid (bishop_any b x dk w hc hx)
  by_cases h0 : kind = 0
  · subst h0
    have HC := Lib.hid (show CB w b (addK 0 dk x) from hc)
    clear hc hx HBI
    go_enter Tryz.func99, Tryz.ntmps99
    go_wp2
    go_end0
    exact ⟨rfl, HC.out, World.grownBy.refl _ _⟩
  by_cases h6 : kind = 6
  · subst h6
    have HC := Lib.hid (show CB w b (addK 6 dk x) from hc)
    clear hc hx HBI
    go_enter Tryz.func99, Tryz.ntmps99
    go_wp2
    go_end0
    exact ⟨rfl, HC.out, World.grownBy.refl _ _⟩
  by_cases h3 : kind = 3
  · subst h3
    clear hc hx h0 h6
    go_enter Tryz.func99, Tryz.ntmps99
    go_wp2_with fail
    refine HBI.out.mono ?_
    rintro e w1 ⟨rfl, h1, h2⟩
    have H1 := Lib.hid h1
    have H2 := Lib.hid h2
    clear h1 h2
    go_wp2
    go_end0
    exact ⟨rfl, H1.out, H2.out⟩
  clear HBI
  obtain ⟨e0, e1, e2, e3, ef, _⟩ := row4c hc
  have f0 := ef 0
  have f1 := ef 1
  obtain ⟨h, k, d, l⟩ := x
  obtain ⟨⟨b1, b2⟩, ⟨b3, b4⟩, _⟩ := hx
  dsimp only at e0 e1 e2 e3 b1 b2 b3 b4
  have HC := Lib.hid hc
  clear hc e2 e3
  by_cases h2 : kind = 2
  · subst h2
    clear h0 h6 h3 e0 f0 b1 b2
    go_enter Tryz.func99, Tryz.ntmps99
    go_wp2
    go_end0
    exact ⟨rfl, HC.out.set 1 _ _ rfl, gr1_B _⟩
  · clear e1 f1 b3 b4
    have HA := Lib.hid (show addK kind dk ⟨h, k, d, l⟩ = ⟨h + 1, k, d, l⟩ by unfold addK; rw [if_neg (by omega), if_neg h2, if_neg h3])
    go_enter Tryz.func99, Tryz.ntmps99
    go_wp2
    go_end0
    exact ⟨rfl, by rw [HA.out]; exact HC.out.set 0 _ _ rfl, gr1_B _⟩
end Go.Proofs.YtkncfeijlmomaaaGreatDoor

namespace Go.Proofs.YtkncfeijlmomaaaGreatDoor
open Go.RowKit Go.Sort
set_option linter.unusedSimpArgs false
set_option linter.unusedVariables false
set_option maxRecDepth 20000

/-- what is left on the squares below n -/
def cntJ (P : Nat → Int) : Nat → LF
  | 0 => ⟨0, 0, 0, 0⟩
  | n + 1 => addK (P (n * 2)) (dark (n : Int)) (cntJ P n)
/-- can nobody mate with it? -/
def deadB (x : LF) : Bool :=
  if 0 < x.h ∨ 1 < x.k then false else if x.k = 1 then !decide (0 < x.d) && !decide (0 < x.l) else !decide (0 < x.d) || !decide (0 < x.l)
theorem cntD_LB (P : Nat → Int) : ∀ n : Nat, LB (cntJ P n) n
  | 0 => by unfold LB cntJ; simp
  | n + 1 => by
    have := (cntD_LB P n).add (P (n * 2)) (dark (n : Int))
    exact this.mono (by omega)

/-- what stands while a position's pieces are counted: the answer's block r, the counter's block c -/
structure CS (w W : World) (c : Nat) (x : LF) : Prop where
  ans : CB W (w.heap.size + 1) ⟨0, 0, 0, 0⟩
  cnt : CB W c x
  bel : Below w.heap.size w W
  nth : w.heap.size + 1 < c
theorem CS.go {w W W' : World} {c : Nat} {x : LF} (h : CS w W c x) (g : Below W.heap.size W W') : CS w W' c x := ⟨h.ans.go g, h.cnt.go g, h.bel.trans (g.mono h.bel.size), h.nth⟩
theorem CS.turn {w W W' : World} {c : Nat} {x y : LF} (h : CS w W c x) (g : W.grownBy W' (some c)) (hy : CB W' c y) : CS w W' c y :=
  ⟨by obtain ⟨_, _, _, _, g5⟩ := g; unfold CB; rw [g5 _ (row4c h.ans).2.2.2.2.2 (by intro e; injection e with e; have := h.nth; omega)]; exact h.ans, hy, h.bel.grown g (by have := (row4c h.ans).2.2.2.2.2; omega) (by rintro k ⟨⟩; have := h.nth; omega), h.nth⟩
theorem put4c {W : World} {H : Nat} {a b c d : Value} {t : TypeId} (x y z u : Value) (h : W.heap[H]? = some (.cells #[a, b, c, d] t (0, 0))) :
    ((((W.setCell ⟨H, 0, none⟩ x).setCell ⟨H, 1, none⟩ y).setCell ⟨H, 2, none⟩ z).setCell ⟨H, 3, none⟩ u).heap[H]? = some (.cells #[x, y, z, u] t (0, 0)) :=
  Go.heap_setCell_same _ H 3 _ _ u (Go.heap_setCell_same _ H 2 _ _ z (Go.heap_setCell_same _ H 1 _ _ y (Go.heap_setCell_same W H 0 _ _ x h)))
theorem below_put4 {B H : Nat} {w0 W : World} (x y z u : Value) (h : Below B w0 W) (hB : B ≤ H) :
    Below B w0 ((((W.setCell ⟨H, 0, none⟩ x).setCell ⟨H, 1, none⟩ y).setCell ⟨H, 2, none⟩ z).setCell ⟨H, 3, none⟩ u) :=
  (((h.setCell (p := ⟨H, 0, none⟩) hB x).setCell (p := ⟨H, 1, none⟩) hB y).setCell (p := ⟨H, 2, none⟩) hB z).setCell (p := ⟨H, 3, none⟩) hB u
theorem infoCtr : (Tryz.prog.info? 104).map (·.size) = some 4 := by kernel_rfl
theorem field_left (x : LF) (w : World) : (Instr.field 104 (.agg (lfA x)) 0).run Tryz.prog w = .ok (.agg (lfA x)) w := by
  have hz : (sizeOf 102).run Tryz.prog w = .ok 4 w := size_of_info (by kernel_rfl) w
  obtain ⟨h, k, d, l⟩ := x
  unfold lfA
  simp [Instr.field, asAgg, part, isAgg, run_underlying Tryz.underlying104, run_underlying Tryz.underlying102, hz]
set_option maxHeartbeats 2000000 in
set_option maxRecDepth 100000 in
theorem counted_any (P : Nat → Int) (w : World) :
    Calls Tryz.prog 61 #[.agg (pc P).toArray] w fun e w' => e = .returned (.agg (lfA (cntJ P 64))) ∧ Below w.heap.size w w' := by
  obtain ⟨X, hX⟩ : ∃ X, X = (pc P).toArray := ⟨_, rfl⟩
  rw [← hX]
  have HX := Lib.hid hX
  have hp0 := pos_boxJ P w X hX 29
  have hw1 : Below w.heap.size w (w.alloc (.cells X 29)) := below_new _
  have hs0 : PB (((w.alloc (.cells X 29)).alloc (.cells (lfA ⟨0, 0, 0, 0⟩) 104)).alloc (.cells (lfA ⟨0, 0, 0, 0⟩) 104)) w.heap.size P ∧ CS w (((w.alloc (.cells X 29)).alloc (.cells (lfA ⟨0, 0, 0, 0⟩) 104)).alloc (.cells (lfA ⟨0, 0, 0, 0⟩) 104)) (w.heap.size + 2) ⟨0, 0, 0, 0⟩ :=
    ⟨(hp0.alloc _).alloc _, sl_go (sl_at (by simp)) (below_new _), sl_at (by simp), (hw1.alloc (by simp) _).alloc (by simp; omega) _, by omega⟩
  have H0 := Lib.hid hs0
  clear hX hp0 hw1 hs0
  go_enter Tryz.func61, Tryz.ntmps61
  go_upto_region 2 with (fail)
  refine forget_B (fun W => PB W w.heap.size P ∧ CS w W (w.heap.size + 2) ⟨0, 0, 0, 0⟩) H0.out ?_
  clear H0
  rintro W ⟨h1, h2⟩
  have HSQ := Lib.hid h1.squares
  have H0 := Lib.hid h2
  clear h1 h2
  have hix : ∀ (j : Nat) (hj : j < 64) (W : World), (Instr.index 26 (.agg (nums P 0 128).toArray) (.int .i64 (j : Int))).run Tryz.prog W = .ok (.agg #[.int .i64 (P (j * 2)), .int .i64 (P (j * 2 + 1))]) W := fun j hj W => by
    rw [Nat.mul_comm]; exact index_sqs P j hj W
  refine wp_region_lit ?_
  refine wpList_plain rfl (fun K hK => ?_)
  go_simp
  refine hK _ _ ?_
  clear hK K
  refine wpList_load_mid rfl 26 _ rfl w.heap.size 0 rfl (nums P 0 128) _ HSQ.out Tryz.underlying26 rfl (by rw [infoSqs, nums_len]) ?_
  generalize (nums P 0 128).toArray = Z at hix ⊢
  have HIX := Lib.hid hix
  clear hix HSQ
  go_wp2
  go_loopw [8] (fun i wr => ∃ j : Nat, j ≤ 64 ∧ i = .int .i64 (j : Int) ∧ CS w wr (w.heap.size + 2) (cntJ P j)) (fun i _ => 64 - (intOf i).toNat)
  case atStart => exact ⟨0, Nat.zero_le _, rfl, H0.out⟩
  case round =>
    clear H0
    obtain ⟨j, hj, rfl, h1⟩ := hrel
    have H1 := Lib.hid h1
    clear h1
    by_cases hlt : j < 64
    · have hix := HIX.out j hlt
      have HY := Lib.hid (show cntJ P (j + 1) = addK (P (j * 2)) (dark (j : Int)) (cntJ P j) from rfl)
      have HL := Lib.hid ((cntD_LB P j).mono (show (j : Int) ≤ 4611686018427387904 by omega))
      obtain ⟨x, hx⟩ : ∃ x, cntJ P j = x := ⟨_, rfl⟩
      obtain ⟨k, hk⟩ : ∃ k, P (j * 2) = k := ⟨_, rfl⟩
      obtain ⟨d, hd⟩ : ∃ d, P (j * 2 + 1) = d := ⟨_, rfl⟩
      obtain ⟨dk, hdk⟩ : ∃ d, dark (j : Int) = d := ⟨_, rfl⟩
      have HDK := Lib.hid (fun W => darkSq_any (j : Int) W)
      rw [hk, hd] at hix
      rw [hx] at H1 HY HL
      rw [hk, hdk] at HY
      rw [hdk] at HDK
      clear hx hk hd hdk
      go_upto_region 5 with (fail)
      refine forget_B (fun W => CS w W (w.heap.size + 2) x ∧ W.heap[wr.heap.size]? = some (.cells #[.int .i64 k, .int .i64 d] 25 (0, 0))) ⟨H1.out.go (below_new _), sl_at rfl⟩ ?_
      clear H1 hix
      rintro W3 ⟨h1, h2⟩
      have H1 := Lib.hid h1
      obtain ⟨q1, q2, qf, qz⟩ := row2 h2
      have k1 := cell_regrown q1
      clear h1 h2 q1 q2 qf qz
      have c15 := regrown_call (w := W3) HDK.out
      refine wp_region_quiet_store 4 (by kernel_rfl) rfl rfl (by kernel_rfl) (by kernel_rfl) (C := fun W' => ∃ p : Regrown, W' = grow (redrawn W3 p.d) p.os) (regrown_self _) ?_
      simp only [List.take_succ_cons, List.take_zero]
      repeat (quiet_step (first | exact c15 _ _))
      refine wpQuiet_nil ?_
      rintro W4 ⟨q, rfl⟩
      refine ⟨by rfl, ?_⟩
      replace H1 := Lib.hid (H1.out.go (below_regrown W3 q.d q.os))
      clear k1 c15 HDK
      generalize grow (redrawn W3 q.d) q.os = W4 at *
      go_simp
      refine (one_any (w.heap.size + 2) x k dk _ H1.out.cnt HL.out).mono ?_
      rintro e w5 ⟨rfl, h1, h2⟩
      replace H1 := Lib.hid (H1.out.turn h2 (show CB w5 (w.heap.size + 2) (cntJ P (j + 1)) by rw [HY.out]; exact h1))
      clear h1 h2 HY HL
      go_wp2
      go_roundw
      case rel => exact ⟨j + 1, by omega, by go_num, H1.out⟩
      case measure => simp [intOf]; omega
    · obtain rfl : j = 64 := by omega
      obtain ⟨y, hy⟩ : ∃ y, cntJ P 64 = y := ⟨_, rfl⟩
      rw [hy] at H1
      have HY := Lib.hid hy
      clear hy HIX
      obtain ⟨e0, e1, e2, e3, ef, ez⟩ := row4c H1.out.cnt
      obtain ⟨r0, r1, r2, r3, rf, rz⟩ := row4c H1.out.ans
      have f0 := rf 0
      have f1 := rf 1
      have f2 := rf 2
      have f3 := rf 3
      clear ef rf ez rz
      go_wp2
      refine bodyPost_ret (v := .agg (lfA y)) ?_ rfl ⟨by rw [HY.out], below_put4 _ _ _ _ H1.out.bel (by omega)⟩
      exact results_cell_row (p := 2) (ty := 104) rfl _ _ (w.heap.size + 1) 104 _ (0, 0) _ rfl (put4c _ _ _ _ H1.out.ans) Tryz.underlying104 rfl infoCtr
attribute [go_sem] field_left
set_option maxHeartbeats 2000000 in
theorem deadL_any (x : LF) (w : World) :
    Calls Tryz.prog 62 #[.agg (lfA x)] w fun e w' => e = .returned (.bool (deadB x)) ∧ Below w.heap.size w w' := by
  have HD := Lib.hid (show deadB x = if 0 < x.h ∨ 1 < x.k then false else if x.k = 1 then !decide (0 < x.d) && !decide (0 < x.l) else !decide (0 < x.d) || !decide (0 < x.l) from rfl)
  obtain ⟨b, hb⟩ : ∃ b, deadB x = b := ⟨_, rfl⟩
  rw [hb] at HD ⊢
  clear hb
  have h0 := sl_at (W := w) (o := .cells (lfA x) 102 (0, 0)) rfl
  have HB := Lib.hid (below_new (w := w) (.cells (lfA x) 102 (0, 0)))
  obtain ⟨h, k, d, l⟩ := x
  dsimp only at HD
  have H0 := Lib.hid h0
  clear h0
  unfold lfA at *
  dsimp only at *
  go_enter Tryz.func62, Tryz.ntmps62
  go_upto_region 1 with (fail)
  obtain ⟨e0, e1, e2, e3, ef, ez⟩ := row4c H0.out
  replace e0 := cell_regrown e0
  replace e1 := cell_regrown e1
  replace e2 := cell_regrown e2
  replace e3 := cell_regrown e3
  clear ef ez H0
  generalize w.alloc (.cells #[.int .i64 h, .int .i64 k, .int .i64 d, .int .i64 l] 102) = W at *
  refine wp_region_quiet_below (by kernel_rfl) (by kernel_rfl) ?_
  repeat (go_big_quiet_step (fail))
  refine wpQuiet_nil ?_
  rintro W9 ⟨pq, rfl⟩
  replace HB := Lib.hid (HB.out.trans ((below_regrown W pq.d pq.os).mono HB.out.size))
  replace e0 := e0 pq.d pq.os
  replace e1 := e1 pq.d pq.os
  replace e2 := e2 pq.d pq.os
  replace e3 := e3 pq.d pq.os
  generalize grow (redrawn W pq.d) pq.os = W9 at *
  clear e2 e3
  by_cases c1 : 0 < h
  · have HE := Lib.hid (HD.out.trans (by simp [c1]) : b = false)
    go_wp2
    go_ret
    exact ⟨by rw [HE.out]; rfl, HB.out⟩
  by_cases c2 : 1 < k
  · have HE := Lib.hid (HD.out.trans (by simp [c1, c2]) : b = false)
    go_wp2
    go_ret
    exact ⟨by rw [HE.out]; rfl, HB.out⟩
  by_cases c3 : k = 1
  · subst c3
    by_cases c4 : 0 < d <;> by_cases c5 : 0 < l
    all_goals
      have HE := Lib.hid HD.out
      simp only [c1, c4, c5, show ¬ (1 : Int) < 1 by omega, or_self, if_true, if_false, decide_true, decide_false, Bool.not_true, Bool.not_false, Bool.and_true, Bool.and_false, Bool.or_true, Bool.or_false] at HE
      go_wp2
      go_ret
      exact ⟨by rw [HE.out]; rfl, HB.out⟩
  · by_cases c4 : 0 < d <;> by_cases c5 : 0 < l
    all_goals
      have HE := Lib.hid HD.out
      simp only [c1, c2, c3, c4, c5, or_self, if_true, if_false, decide_true, decide_false, Bool.not_true, Bool.not_false, Bool.and_true, Bool.and_false, Bool.or_true, Bool.or_false] at HE
      go_wp2
      go_ret
      exact ⟨by rw [HE.out]; rfl, HB.out⟩
end Go.Proofs.YtkncfeijlmomaaaGreatDoor

namespace Go.Proofs.YtkncfeijlmomaaaGreatDoor
open Go.RowKit Go.Sort
set_option linter.unusedSimpArgs false
set_option linter.unusedVariables false
set_option maxRecDepth 20000

/-- numbers that are left, in a block of a type t -/
def TBj (t : TypeId) (W : World) (b : Nat) (x : LF) : Prop := W.heap[b]? = some (.cells (lfA x) t (0, 0))
theorem TBj.go {t : TypeId} {W W' : World} {b : Nat} {x : LF} (h : TBj t W b x) (g : Below W.heap.size W W') : TBj t W' b x := sl_go h g
theorem TBj.set {t : TypeId} {W : World} {b : Nat} {x : LF} (h : TBj t W b x) (i : Nat) (z : Int) (y : LF) (hy : (lfA x).setIfInBounds i (.int .i64 z) = lfA y) : TBj t (W.setCell ⟨b, i, none⟩ (.int .i64 z)) b y := by
  unfold TBj
  rw [← hy]
  exact Go.heap_setCell_same W b i _ _ _ h
theorem TBj.other {t : TypeId} {W W' : World} {b c : Nat} {x : LF} (h : TBj t W b x) (g : W.grownBy W' (some c)) (hne : b ≠ c) : TBj t W' b x := by
  obtain ⟨_, _, _, _, g5⟩ := g
  unfold TBj
  rw [g5 _ (row4c h).2.2.2.2.2 (by intro e; injection e with e; exact hne e)]; exact h
theorem TBj.lt {t : TypeId} {W : World} {b : Nat} {x : LF} (h : TBj t W b x) : b < W.heap.size := (row4c h).2.2.2.2.2

set_option maxHeartbeats 1000000 in
theorem is13_any (P : Nat → Int) (w : World) :
    Calls Tryz.prog 29 #[.agg (pc P).toArray] w fun e w' => e = .returned (.bool (deadB (cntJ P 64))) ∧ Below w.heap.size w w' := by
  obtain ⟨X, hX⟩ : ∃ X, X = (pc P).toArray := ⟨_, rfl⟩
  obtain ⟨y, hy⟩ : ∃ y, cntJ P 64 = y := ⟨_, rfl⟩
  have HC := Lib.hid (fun W => counted_any P W)
  rw [← hX, hy] at HC
  rw [← hX, hy]
  have HD := Lib.hid (fun W => deadL_any y W)
  obtain ⟨bo, hbo⟩ : ∃ b, deadB y = b := ⟨_, rfl⟩
  rw [hbo] at HD ⊢
  have H1 := Lib.hid (pos_boxJ P w X hX 29)
  have H3 := Lib.hid (below_new (w := w) (.cells X 29))
  have HX := Lib.hid hX
  clear hX hy hbo
  go_enter Tryz.func29, Tryz.ntmps29
  go_upto_region 1 with (fail)
  generalize w.alloc (.cells X 29) = W at *
  go_wp2_with (refine wpList_pos (by rfl) _ (by rfl) w.heap.size P X HX.out (by rfl) H1.out ?_)
  refine (HC.out _).mono ?_
  rintro e w1 ⟨rfl, hb⟩
  replace H3 := Lib.hid (H3.out.trans (hb.mono H3.out.size))
  clear hb HC H1
  dsimp only
  refine list_goJ (by assumption) ?_
  have hf := field_left y
  unfold lfA at hf HD
  show wpList _ _ _ _ { tmps := #[_, _, _, _, .agg #[.int .i64 y.h, .int .i64 y.k, .int .i64 y.d, .int .i64 y.l], _, _], defers := _ } _
  go_wp2_with fail
  refine (HD.out _).mono ?_
  rintro e w2 ⟨rfl, hb⟩
  replace H3 := Lib.hid (H3.out.trans (hb.mono H3.out.size))
  clear hb HD hf
  go_wp2
  go_ret
  exact ⟨rfl, H3.out⟩
/-! the document's -/
end Go.Proofs.YtkncfeijlmomaaaGreatDoor
