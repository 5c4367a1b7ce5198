/-
  Games: a row of moves; From, New.
-/
import Derived.Test.YtkncfeijlmomaaaGreatDoorLg
import Derived.Test.YtkncfeijlmomaaaGreatDoorLm
namespace Go.Proofs.YtkncfeijlmomaaaGreatDoor
open Go.RowKit Go.Sort Go.Maps
set_option linter.unusedSimpArgs false
set_option linter.unusedVariables false
set_option maxRecDepth 20000

/-- what a deed done to a game leaves -/
structure Gstep (base : Nat) (g g' : Gm) (w w' : World) : Prop where
  m : GW base g' w'
  c : Ch g.X w w'
  o : g'.mv.ownBlock = g.mv.ownBlock ∨ ∀ q, g'.mv.ownBlock = some q → w.heap.size ≤ q
  s : g'.gb = g.gb ∧ g'.b = g.b ∧ g'.mb = g.mb
section
variable {base : Nat} {g g' g'' : Gm} {w w' w'' : World}
theorem Gstep.x (h : Gstep base g g' w w') {k : Nat} (hk : k < w.heap.size) (hx : g'.X k) : g.X k := by
  obtain ⟨e1, e2, e3⟩ := h.s
  rcases hx with e | e | e | e
  · exact .inl (e.trans e1)
  · exact .inr (.inl (e.trans e2))
  · exact .inr (.inr (.inl (e.trans e3)))
  · rcases h.o with q | q
    · exact .inr (.inr (.inr (q ▸ e)))
    · have := q _ e; omega
theorem Gstep.refl (h : GW base g w) : Gstep base g g w w := ⟨h, Ch.bel (Below.refl _ _), .inl rfl, rfl, rfl, rfl⟩
theorem Gstep.trans (h : Gstep base g g' w w') (k : Gstep base g' g'' w' w'') : Gstep base g g'' w w'' :=
  ⟨k.m, h.c.trans k.c fun q hq hx => h.x hq hx, by
    rcases k.o with e | e
    · rw [e]; exact h.o
    · exact .inr fun q hq => Nat.le_trans h.c.size (e q hq), k.s.1.trans h.s.1, k.s.2.1.trans h.s.2.1, k.s.2.2.trans h.s.2.2⟩
theorem Gstep.go (h : Gstep base g g' w w') (b : Below w'.heap.size w' w'') : Gstep base g g' w w'' := ⟨h.m.go b, h.c.then b, h.o, h.s⟩
theorem Gstep.bel (h : GW base g w) (b : Below w.heap.size w w') : Gstep base g g w w' := ⟨h.go b, Ch.bel b, .inl rfl, rfl, rfl, rfl⟩
theorem Gstep.en {B : Nat} (h : Gstep base g g' w w') (h0 : GW base g w) (he : EN B w) (hB : B ≤ base) : EN B w' :=
  he.on (h.c.below (Below.refl B w) he.k fun k hk hx => by have := (h0.ltX k hx).1; omega)
theorem Gstep.of_moved {m : Int × Int × Int} {v : Value} (h : Gmoved base g (g.mvd m v) w w') : Gstep base g (g.mvd m v) w w' :=
  ⟨h.m, h.c, h.o, by unfold Gm.mvd; split <;> exact ⟨rfl, rfl, rfl⟩⟩
theorem Gstep.of_did (h : Gdid base g g' w w') (e : g'.gb = g.gb ∧ g'.b = g.b ∧ g'.mb = g.mb) (ev : g'.mv = g.mv) : Gstep base g g' w w' :=
  ⟨h.m, h.c.mono fun k _ hk => .inl hk, .inl (by rw [ev]), e⟩
end
theorem Ch.reads3 {X : Nat → Prop} {w w' : World} (c : Ch X w w') {p : Option Addr} {n : Nat} {F T K : Nat → Int} (h : Reads3 w.heap.size w p n F T K) (hx : ∀ b o, p = some ⟨b, o, none⟩ → ¬ X b) : Reads3 w'.heap.size w' p n F T K := by
  rcases h with h | ⟨b, o, e, hb, hc⟩
  · exact .inl h
  · refine .inr ⟨b, o, e, Nat.lt_of_lt_of_le hb c.size, fun i hi => ?_⟩
    have eb := c.block b hb (hx b o e)
    obtain ⟨a1, a2, a3⟩ := hc i hi
    exact ⟨by rw [World.cell?_of_block (a := ⟨b, _, none⟩) eb]; exact a1, by rw [World.cell?_of_block (a := ⟨b, _, none⟩) eb]; exact a2, by rw [World.cell?_of_block (a := ⟨b, _, none⟩) eb]; exact a3⟩
/-- a row of moves played: what the game is then, and the error -/
def coE (A : GCore) (l : Nat) (m : Int × Int × Int) : Int := if A.2.2.2.1 = 0 then (if 8192 ≤ l then 3 else if legB A.1 m.1 m.2.1 m.2.2 then 0 else 8) else 9
def pyS (A : GCore) (L : List (Int × Int × Int)) (F T K : Nat → Int) : Nat → GCore × List (Int × Int × Int) × Int
  | 0 => (A, L, 0)
  | i + 1 =>
    let s := pyS A L F T K i
    if s.2.2 = 0 then (if coE s.1 s.2.1.length (F i, T i, K i) = 0 then (coN s.1 (F i, T i, K i), s.2.1 ++ [(F i, T i, K i)], 0) else (s.1, s.2.1, coE s.1 s.2.1.length (F i, T i, K i))) else s
theorem pyS_go {A A' : GCore} {L L' : List (Int × Int × Int)} {F T K : Nat → Int} {i : Nat} (h : pyS A L F T K i = (A', L', 0)) (he : coE A' L'.length (F i, T i, K i) = 0) : pyS A L F T K (i + 1) = (coN A' (F i, T i, K i), L' ++ [(F i, T i, K i)], 0) := by
  show (if (pyS A L F T K i).2.2 = 0 then _ else _) = _
  rw [h, if_pos rfl, if_pos he]
theorem pyS_no {A A' : GCore} {L L' : List (Int × Int × Int)} {F T K : Nat → Int} {i : Nat} (h : pyS A L F T K i = (A', L', 0)) (he : coE A' L'.length (F i, T i, K i) ≠ 0) : ∀ n, i < n → pyS A L F T K n = (A', L', coE A' L'.length (F i, T i, K i))
  | 0, hn => absurd hn (Nat.not_lt_zero i)
  | n + 1, hn => by
    by_cases e : i = n
    · subst e
      show (if (pyS A L F T K i).2.2 = 0 then _ else _) = _
      rw [h, if_pos rfl, if_neg he]
    · have ih := pyS_no h he n (by omega)
      show (if (pyS A L F T K n).2.2 = 0 then _ else _) = _
      rw [ih, if_neg he]
theorem coE_leg {A : GCore} {l : Nat} {m : Int × Int × Int} (h : coE A l m = 0) : A.2.2.2.1 = 0 ∧ l < 8192 ∧ legB A.1 m.1 m.2.1 m.2.2 = true := by
  unfold coE at h
  split at h
  · split at h
    · cases h
    · split at h
      · exact ⟨by assumption, by omega, by assumption⟩
      · cases h
  · cases h
theorem co_pos {A : GCore} {m : Int × Int × Int} (hp : posB A.1 = true) (h : legB A.1 m.1 m.2.1 m.2.2 = true) : posB (coN A m).1 = true := by
  obtain ⟨s, t, e1, e2, hg⟩ := leg_nx A.1 hp m.1 m.2.1 m.2.2 h
  show posB (nxP A.1 m.1.toNat m.2.1.toNat m.2.2) = true
  have h1 := hg.nx
  have h2 := hg.pos
  simp only at h1 h2
  rw [e1, e2, Int.toNat_natCast, Int.toNat_natCast, h1]
  exact h2
/-- what a game of a row of moves is -/
structure Gis (g : Gm) (A : GCore) (L : List (Int × Int × Int)) : Prop where
  a : g.core = A
  l : g.L = L
  p : posB g.P = true
  t : g.T.length ≤ L.length + 1
theorem Gis.err {g : Gm} {A : GCore} {L : List (Int × Int × Int)} (h : Gis g A L) (m : Int × Int × Int) : g.err m = coE A L.length m := by
  rw [← h.a, ← h.l]; rfl
theorem Gis.next {g : Gm} {A : GCore} {L : List (Int × Int × Int)} (h : Gis g A L) {m : Int × Int × Int} (he : coE A L.length m = 0) (v : Value) : Gis (g.mvd m v) (coN A m) (L ++ [m]) := by
  have e : g.mvd m v = g.next m v := by unfold Gm.mvd; rw [if_pos (by rw [h.err]; exact he)]
  rw [e]
  have hl := (coE_leg he).2.2
  rw [← h.a] at hl
  refine ⟨by rw [next_core, h.a], by show g.L ++ [m] = _; rw [h.l], ?_, ?_⟩
  · exact co_pos (A := g.core) h.p hl
  · show (kyB _ :: g.T).length ≤ _
    have := h.t
    rw [List.length_cons, List.length_append, List.length_cons, List.length_nil]
    omega
theorem Gis.stay {g : Gm} {A : GCore} {L : List (Int × Int × Int)} (h : Gis g A L) {m : Int × Int × Int} (he : coE A L.length m ≠ 0) (v : Value) : g.mvd m v = g := by
  unfold Gm.mvd; rw [if_neg (by rw [h.err]; exact he)]
set_option maxHeartbeats 4000000 in
set_option maxRecDepth 100000 in
theorem gplay_any (B base : Nat) (g : Gm) (A : GCore) (L : List (Int × Int × Int)) (F T K : Nat → Int) (p : Option Addr) (n c : Nat) (hn : n ≤ 1000) (hl : L.length ≤ 1000) (hg : Gis g A L) (w : World) (h : GW base g w) (he : EN B w) (hB : base ≤ w.heap.size) (hbb : B ≤ base)
    (hr : Reads3 w.heap.size w p n F T K) (hx : ∀ b o, p = some ⟨b, o, none⟩ → ¬ g.X b) :
    Calls Tryz.prog 16 #[.pointer (some ⟨g.gb, 0, none⟩), .slice p n c] w fun e w' => ∃ g', e = .returned (.int .i64 (pyS A L F T K n).2.2) ∧ Gstep base g g' w w' ∧ Gis g' (pyS A L F T K n).1 (pyS A L F T K n).2.1 := by
  have HI := Lib.hid (show Gstep base g g w w ∧ Gis g A L from ⟨Gstep.refl h, hg⟩)
  have MN := Lib.hid (gnone_any base g w h)
  have HS0 := Lib.hid (show pyS A L F T K 0 = (A, L, 0) from rfl)
  have HEN := Lib.hid (fun g' w' (s : Gstep base g g' w w') => s.en h he hbb)
  have HRR := Lib.hid (fun g' w' (s : Gstep base g g' w w') => s.c.reads3 hr hx)
  have MM := Lib.hid (fun g' (A' : GCore) (L' : List (Int × Int × Int)) (hi : Gis g' A' L') (hl : L'.length ≤ 2000) f t k W (s : Gstep base g g' w W) (e : EN B W) => gmove_any B base g' f t k hi.p (by rw [hi.l]; omega) (by have := hi.t; omega) W s.m e (Nat.le_trans hB s.c.size) hbb)
  have HGO := Lib.hid (fun i A' L' h he => pyS_go (A := A) (L := L) (F := F) (T := T) (K := K) (i := i) (A' := A') (L' := L') h he)
  have HNO := Lib.hid (fun i A' L' h he => pyS_no (A := A) (L := L) (F := F) (T := T) (K := K) (i := i) (A' := A') (L' := L') h he n)
  have HLN := Lib.hid (show n ≤ 1000 ∧ L.length ≤ 1000 from ⟨hn, hl⟩)
  obtain ⟨fin, hfin⟩ : ∃ s, pyS A L F T K n = s := ⟨_, rfl⟩
  have HFI := Lib.hid hfin
  rw [hfin] at HNO ⊢
  clear h he hg hr hx hfin hn hl
  go_enter Tryz.func16, Tryz.ntmps16
  go_wp2_with fail
  refine MN.out.mono ?_
  rintro e w1 ⟨rfl, rfl⟩
  dsimp only
  refine list_go (by assumption) ?_
  go_wp2
  go_loopw [12] (fun v wr => ∃ (i : Nat) (g' : Gm) (A' : GCore) (L' : List (Int × Int × Int)), i ≤ n ∧ v = .int .i64 (i : Int) ∧ pyS A L F T K i = (A', L', 0) ∧ L'.length = L.length + i ∧ g'.gb = g.gb ∧ Gstep base g g' w1 wr ∧ Gis g' A' L') (fun v _ => n - (intOf v).toNat)
  case atStart => exact ⟨0, g, A, L, Nat.zero_le _, rfl, HS0.out, rfl, rfl, HI.out.1, HI.out.2⟩
  case round =>
    clear HI HS0
    obtain ⟨i, g', A', L', hi, rfl, hs, hln, hgb, h1, h2⟩ := hrel
    have HI := Lib.hid (And.intro h1 h2)
    have HS := Lib.hid hs
    have HLL := Lib.hid hln
    clear h1 h2 hs hln
    by_cases hlt : i < n
    · have hrd := HRR.out _ _ HI.out.1
      obtain ⟨pb, po, rfl⟩ := hrd.addr hlt
      obtain ⟨e0, e1, e2⟩ := hrd.cells hlt
      have HYES := Lib.hid (fun he => HGO.out i A' L' HS.out he)
      have HNON := Lib.hid (fun he => HNO.out i A' L' HS.out he hlt)
      have HLI := Lib.hid hlt
      clear hrd HGO HNO
      have i0 : (0 : Int) ≤ (i : Int) := by omega
      have i1 : (i : Int) < (n : Int) := by omega
      have i2 : (i : Int) ≤ 1000 := by have := HLN.out.1; omega
      have MV := Lib.hid (MM.out g' A' L' HI.out.2 (by have := HLL.out; have := HLN.out; omega) (F i) (T i) (K i))
      generalize F i = f at *
      generalize T i = t at *
      generalize K i = k at *
      rw [hgb] at MV
      go_upto_region 6 with (fail)
      clear e0 e1 e2
      refine forget_B (fun W => Gstep base g g' w1 W ∧ W.heap[wr.heap.size]? = some (.cells #[.int .i64 f, .int .i64 t, .int .i64 k] 46 (0, 0))) ⟨HI.out.1.go (below_new _), sl_at rfl⟩ ?_
      rintro W2 ⟨h1, h2⟩
      replace HI := Lib.hid (And.intro h1 HI.out.2)
      obtain ⟨q0, q1, q2, qf, qz⟩ := row3 h2
      clear h1 h2
      generalize wr.heap.size = mb at *
      go_wp2_with fail
      refine (MV.out _ HI.out.1 (HEN.out _ _ HI.out.1)).mono ?_
      rintro e w4 ⟨v, rfl, hm⟩
      have HST := Lib.hid (HI.out.1.trans (Gstep.of_moved hm))
      obtain ⟨er, her⟩ : ∃ e, g'.err (f, t, k) = e := ⟨_, rfl⟩
      have HER := Lib.hid ((HI.out.2.err (f, t, k)).symm.trans her)
      rw [her]
      clear hm MV q0 q1 q2 qf qz her
      dsimp only
      refine list_go (by assumption) ?_
      by_cases h0 : er = 0
      · subst h0
        have HNX := Lib.hid (HI.out.2.next HER.out v)
        have HPY := Lib.hid (HYES.out HER.out)
        have HGB := Lib.hid (HST.out.s.1)
        clear HI HYES HNON
        go_wp2
        go_roundw
        case rel => exact ⟨i + 1, _, _, _, by omega, by go_num, HPY.out, by have := HLL.out; rw [List.length_append, List.length_cons, List.length_nil]; omega, HGB.out, HST.out, HNX.out⟩
        case measure => simp [intOf]; omega
      · have e0 : (er != 0) = true := bne_iff_ne.2 h0
        have HF := Lib.hid (HNON.out (by rw [HER.out]; exact h0))
        have HSTY := Lib.hid (HI.out.2.stay (by rw [HER.out]; exact h0) v)
        have HE2 := Lib.hid (show er = fin.2.2 from by rw [HF.out]; exact HER.out.symm)
        have HFF := Lib.hid (show Gstep base g g' w1 w4 ∧ Gis g' fin.1 fin.2.1 from ⟨by have := HST.out; rw [HSTY.out] at this; exact this, by rw [HF.out]; exact HI.out.2⟩)
        clear HI HYES HNON h0 HST
        go_wp2
        go_ret
        exact ⟨g', q_i HE2.out, HFF.out.1, HFF.out.2⟩
    · obtain rfl : i = n := by omega
      have HE2 := Lib.hid (show (0 : Int) = fin.2.2 ∧ Gis g' fin.1 fin.2.1 from by
        rw [← HFI.out, HS.out]
        exact ⟨rfl, HI.out.2⟩)
      go_wp2
      go_ret
      exact ⟨g', q_i HE2.out.1, HI.out.1, HE2.out.2⟩
end Go.Proofs.YtkncfeijlmomaaaGreatDoor
