/-
  GameRuns: what stands.
-/
import Derived.Test.YtkncfeijlmomaaaGreatDoorLp
namespace Go.Proofs.YtkncfeijlmomaaaGreatDoor
open Go.RowKit Go.Sort Go.Maps
set_option linter.unusedSimpArgs false
set_option linter.unusedVariables false
set_option maxRecDepth 20000

/-- what stands along the law: the game, the law's own book, the position at hand, the row of the moves -/
structure GU (B base bb mbb ab pb : Nat) (T : List (List UInt8)) (rv : Value) (P : Nat → Int) (g : Gm) (w W : World) : Prop where
  m : GW base g W
  k : BW W bb mbb T
  a : PB W ab g.P
  p : PB W pb P
  own : W.ownsRow base 46 3 rv g.L.length (mvals g.L)
  bl : Below base w W
  e : EN B W
  sz : base ≤ W.heap.size
  d1 : ∀ q, g.X q → q ≠ bb ∧ q ≠ mbb ∧ q ≠ ab ∧ rv.ownBlock ≠ some q
  d2 : bb ≠ ab ∧ mbb ≠ ab
  d3 : ∀ q, rv.ownBlock = some q → q ≠ bb ∧ q ≠ mbb ∧ q ≠ ab
  lo : base ≤ bb ∧ base ≤ mbb ∧ base ≤ ab ∧ pb < base ∧ B ≤ base
section
variable {B base bb mbb ab pb : Nat} {T T' : List (List UInt8)} {rv rv' : Value} {P : Nat → Int} {g g' : Gm} {w W W' : World}
theorem GU.go (h : GU B base bb mbb ab pb T rv P g w W) (b : Below W.heap.size W W') : GU B base bb mbb ab pb T rv P g w W' :=
  ⟨h.m.go b, h.k.go b, h.a.go b, h.p.go b, owns_below_ h.own b, h.bl.trans (b.mono h.sz), h.e.go b, Nat.le_trans h.sz b.size, h.d1, h.d2, h.d3, h.lo⟩
/-- the law's book has a text more -/
theorem GU.put (h : GU B base bb mbb ab pb T rv P g w W) (hk : BW W' bb mbb T') (t : Two bb mbb W W') : GU B base bb mbb ab pb T' rv P g w W' := by
  have hc : Ch (fun k => k = bb ∨ k = mbb) W W' := Ch.two t (.inl rfl) (.inr rfl)
  have hl := h.lo
  exact ⟨h.m.ch hc fun k hx e => e.elim (h.d1 k hx).1 (h.d1 k hx).2.1, hk, hc.pb h.a (fun e => e.elim (fun e => h.d2.1 e.symm) (fun e => h.d2.2 e.symm)), hc.pb h.p (fun e => by omega), hc.own h.own fun q hq e => e.elim (h.d3 q hq).1 (h.d3 q hq).2.1,
    hc.below h.bl h.sz fun k hk e => by omega, h.e.on (hc.below (Below.refl B W) h.e.k fun k hk e => by omega), Nat.le_trans h.sz hc.size, h.d1, h.d2, h.d3, h.lo⟩
/-- the game made a move: its position and the row of moves are not yet the others' -/
structure GV2 (B base bb mbb ab pb : Nat) (T : List (List UInt8)) (rv : Value) (P Q : Nat → Int) (L : List (Int × Int × Int)) (g : Gm) (w W : World) : Prop where
  m : GW base g W
  k : BW W bb mbb T
  a : PB W ab Q
  p : PB W pb P
  own : W.ownsRow base 46 3 rv L.length (mvals L)
  bl : Below base w W
  e : EN B W
  sz : base ≤ W.heap.size
  d1 : ∀ q, g.X q → q ≠ bb ∧ q ≠ mbb ∧ q ≠ ab ∧ rv.ownBlock ≠ some q
  d2 : bb ≠ ab ∧ mbb ≠ ab
  d3 : ∀ q, rv.ownBlock = some q → q ≠ bb ∧ q ≠ mbb ∧ q ≠ ab
  lo : base ≤ bb ∧ base ≤ mbb ∧ base ≤ ab ∧ pb < base ∧ B ≤ base
theorem GV2.go {Q : Nat → Int} {L : List (Int × Int × Int)} (h : GV2 B base bb mbb ab pb T rv P Q L g w W) (b : Below W.heap.size W W') : GV2 B base bb mbb ab pb T rv P Q L g w W' :=
  ⟨h.m.go b, h.k.go b, h.a.go b, h.p.go b, owns_below_ h.own b, h.bl.trans (b.mono h.sz), h.e.go b, Nat.le_trans h.sz b.size, h.d1, h.d2, h.d3, h.lo⟩
theorem GU.step (h : GU B base bb mbb ab pb T rv P g w W) (s : Gstep base g g' W W') : GV2 B base bb mbb ab pb T rv P g.P g.L g' w W' := by
  have hl := h.lo
  have hk := h.k.ltb
  have hm := h.k.m.lt
  have ha := h.a.lt
  have hx := fun k (hk : g.X k) => (h.m.ltX k hk).1
  refine ⟨s.m, s.c.bw h.k (fun hx => (h.d1 _ hx).1 rfl) (fun hx => (h.d1 _ hx).2.1 rfl), s.c.pb h.a (fun hx => (h.d1 _ hx).2.2.1 rfl), s.c.pb h.p (fun hq => by have := hx _ hq; omega), s.c.own h.own fun q hq hx => (h.d1 q hx).2.2.2 hq,
    s.c.below h.bl h.sz fun k hk hq => by have := hx _ hq; omega, s.en h.m h.e hl.2.2.2.2, Nat.le_trans h.sz s.c.size, fun q hq => ?_, h.d2, h.d3, hl⟩
  by_cases e : q < W.heap.size
  · exact h.d1 q (s.x e hq)
  · exact ⟨by omega, by omega, by omega, fun hv => by have := (h.own.lt q hv).2; omega⟩
/-- the row of moves has one more -/
theorem GV2.app {Q : Nat → Int} {L L' : List (Int × Int × Int)} (h : GV2 B base bb mbb ab pb T rv P Q L g w W) (ho : W'.ownsRow base 46 3 rv' L'.length (mvals L')) (gr : W.grownBy W' rv.ownBlock) (hat : rv'.ownBlock = rv.ownBlock ∨ rv'.ownBlock = some W.heap.size) : GV2 B base bb mbb ab pb T rv' P Q L' g w W' := by
  have hl := h.lo
  have hc : Ch (fun k => rv.ownBlock = some k) W W' := Ch.gro gr fun x e => e
  have hrl := fun q (hq : rv.ownBlock = some q) => (h.own.lt q hq).1
  refine ⟨h.m.ch hc fun k hx e => (h.d1 k hx).2.2.2 e, hc.bw h.k (fun e => (h.d3 _ e).1 rfl) (fun e => (h.d3 _ e).2.1 rfl), hc.pb h.a (fun e => (h.d3 _ e).2.2 rfl), hc.pb h.p (fun e => by have := hrl _ e; omega), ho,
    hc.below h.bl h.sz fun k hk e => by have := hrl _ e; omega, h.e.on (hc.below (Below.refl B W) h.e.k fun k hk e => by have := hrl _ e; omega), Nat.le_trans h.sz hc.size, fun q hq => ⟨(h.d1 q hq).1, (h.d1 q hq).2.1, (h.d1 q hq).2.2.1, fun e => ?_⟩, h.d2, fun q hq => ?_, hl⟩
  · rcases hat with e2 | e2
    · exact (h.d1 q hq).2.2.2 (e2 ▸ e)
    · rw [e2] at e; have := Option.some.inj e; have := (h.m.ltX q hq).2; omega
  · rcases hat with e2 | e2
    · exact h.d3 q (e2 ▸ hq)
    · rw [e2] at hq
      have := Option.some.inj hq
      have h1 := h.k.ltb
      have h2 := h.k.m.lt
      have h3 := h.a.lt
      omega
/-- the position at hand is the game's -/
theorem GV2.at' {Q : Nat → Int} (h : GV2 B base bb mbb ab pb T rv P Q g.L g w W) : GU B base bb mbb ab pb T rv P g w (W.setCells ab 0 (pc g.P)) := by
  have hl := h.lo
  have hc : Ch (fun k => k = ab) W (W.setCells ab 0 (pc g.P)) := Ch.gr (grs_B (hb := ab) (pc g.P) 0 W) rfl
  exact ⟨h.m.ch hc fun k hx e => (h.d1 k hx).2.2.1 e, hc.bw h.k h.d2.1 h.d2.2, h.a.store, hc.pb h.p (fun e => by omega), hc.own h.own fun q hq e => (h.d3 q hq).2.2 e,
    hc.below h.bl h.sz fun k hk e => by omega, h.e.on (hc.below (Below.refl B W) h.e.k fun k hk e => by omega), Nat.le_trans h.sz hc.size, h.d1, h.d2, h.d3, h.lo⟩
end
theorem posEq_me (P : Nat → Int) : posEq P P = true := by
  unfold posEq sqEq
  simp only [beq_self_eq_true, Bool.and_true]
  exact List.all_eq_true.2 fun i _ => (pe_iff _ _ _ _).2 ⟨rfl, rfl⟩
/-- a row of moves that was played move by move is played at once -/
theorem py_ok {P : Nat → Int} {L : List (Int × Int × Int)} (h : okP P L) (hl : L.length ≤ 8192) : ∀ i, i ≤ L.length → pyS (coB P) [] (mF L) (mT L) (mK L) i = (coL P (L.take i), L.take i, 0)
  | 0, _ => rfl
  | i + 1, hi => by
    have ih := py_ok h hl i (by omega)
    obtain ⟨h0, h1⟩ := h i (by omega)
    have e := pyS_go (F := mF L) (T := mT L) (K := mK L) (i := i) ih (co_ok (m := (mF L i, mT L i, mK L i)) h0 (by rw [List.length_take]; omega) h1)
    rw [e, ok_step (by omega), take_more L i (by omega)]
    rfl
theorem py_all {P : Nat → Int} {L : List (Int × Int × Int)} (h : okP P L) (hl : L.length ≤ 8192) : pyS (coB P) [] (mF L) (mT L) (mK L) L.length = (coL P L, L, 0) := by
  have := py_ok h hl L.length (Nat.le_refl _)
  rwa [List.take_length] at this
/-- behind the end: nothing moves it any more -/
structure GN (B base ab : Nat) (g g' : Gm) (w W : World) : Prop where
  gb : g'.gb = g.gb
  r : g'.r = g.r
  P : g'.P = g.P
  n : g'.n = g.n
  bl : Below base w W
  pa : PB W ab g.P
  m : GW base g' W
  e : EN B W
  sz : base ≤ W.heap.size
  x : ∀ q, g'.X q → q ≠ ab
  lo : base ≤ ab ∧ B ≤ base
section
variable {B base ab : Nat} {g g' : Gm} {w W W' : World}
theorem GN.go (h : GN B base ab g g' w W) (b : Below W.heap.size W W') : GN B base ab g g' w W' := ⟨h.gb, h.r, h.P, h.n, h.bl.trans (b.mono h.sz), h.pa.go b, h.m.go b, h.e.go b, Nat.le_trans h.sz b.size, h.x, h.lo⟩
theorem GN.did (h : GN B base ab g g' w W) (d : Gdid base g' g' W W') : GN B base ab g g' w W' := by
  have hg := h.m.hg
  have hl := h.lo
  exact ⟨h.gb, h.r, h.P, h.n, d.c.below h.bl h.sz fun k hk e => by omega, d.c.pb h.pa fun e => h.x _ (.inl rfl) e.symm, d.m, h.e.on (d.c.below (Below.refl B W) h.e.k fun k hk e => by omega), Nat.le_trans h.sz d.c.size, h.x, h.lo⟩
theorem GN.claim9 (h : GN B base ab g g' w W) (hr : g.r ≠ 0) (hn : g.n ≤ 1000000) : Calls Tryz.prog 20 #[.pointer (some ⟨g.gb, 0, none⟩), .int .i64 7] W fun e W' => e = .returned (.int .i64 9) ∧ GN B base ab g g' w W' := by
  have h9 : g'.clE 7 = 9 := by rw [clE_yes g' 7 (.inr rfl), if_neg (by rw [h.r]; exact hr)]
  have hG : g'.clG 7 = g' := by unfold Gm.clG; rw [h9]; rfl
  rw [← h.gb]
  refine (gclaim_any B base g' 7 (by rw [h.n]; exact hn) W h.m h.e).mono ?_
  rintro e W' ⟨rfl, hd⟩
  rw [hG] at hd
  exact ⟨by rw [h9], h.did hd⟩
theorem GN.stop9 (h : GN B base ab g g' w W) (hr : g.r ≠ 0) : Calls Tryz.prog 34 #[.pointer (some ⟨g.gb, 0, none⟩), .int .i64 8] W fun e W' => e = .returned (.int .i64 9) ∧ GN B base ab g g' w W' := by
  have h9 : g'.stE 8 = 9 := by rw [stE_yes g' 8 (.inl rfl), if_neg (by rw [h.r]; exact hr)]
  have hG : g'.stG 8 = g' := by unfold Gm.stG; rw [h9]; rfl
  rw [← h.gb]
  refine (gstop_any base g' 8 W h.m).mono ?_
  rintro e W' ⟨rfl, hd⟩
  rw [hG] at hd
  exact ⟨by rw [h9], h.did hd⟩
theorem GN.now9 (h : GN B base ab g g' w W) : Calls Tryz.prog 13 #[.pointer (some ⟨g.gb, 0, none⟩)] W fun e W' => e = .returned (.agg (pc g.P).toArray) ∧ GN B base ab g g' w W' := by
  rw [← h.gb]
  refine (gnow_any base g' W h.m).mono ?_
  rintro e W' ⟨rfl, hb⟩
  exact ⟨by rw [h.P], h.go hb⟩
theorem GN.play9 {A : GCore} {L : List (Int × Int × Int)} (h : GN B base ab g g w W) (hr : g.r ≠ 0) (hg : Gis g A L) (hl : L.length ≤ 1000) (R : Nat) (hR : W.heap[R]? = some (.cells #[.int .i64 0, .int .i64 0, .int .i64 0] 46 (0, 0))) (hx : ¬ g.X R) :
    Calls Tryz.prog 16 #[.pointer (some ⟨g.gb, 0, none⟩), .slice (some ⟨R, 0, none⟩) 1 1] W fun e W' => ∃ g', e = .returned (.int .i64 9) ∧ GN B base ab g g' w W' := by
  have h9 : coE A L.length (0, 0, 0) = 9 := by
    unfold coE
    rw [if_neg (by rw [← hg.a]; exact hr)]
  refine (gplay_any B base g A L (fun _ => 0) (fun _ => 0) (fun _ => 0) (some ⟨R, 0, none⟩) 1 1 (by omega) hl hg W h.m h.e h.sz h.lo.2 (one_row14 hR) (fun b o e => by cases e; exact hx)).mono ?_
  rintro e W' ⟨g', rfl, hs, hi⟩
  rw [(py1 A L 0 0 0).2 (by rw [h9]; decide)] at hi ⊢
  have hi : Gis g' A L := hi
  have hc : g'.core = g.core := hi.a.trans hg.a.symm
  have hal := h.pa.lt
  refine ⟨g', by rw [show ((A, L, coE A L.length (0, 0, 0)) : GCore × List (Int × Int × Int) × Int).2.2 = coE A L.length (0, 0, 0) from rfl, h9], hs.s.1, congrArg (fun A : GCore => A.2.2.2.1) hc, congrArg (fun A : GCore => A.1) hc, congrArg (fun A : GCore => A.2.2.1) hc, hs.c.below h.bl h.sz fun k hk hx => by have := (h.m.ltX k hx).1; omega,
    hs.c.pb h.pa fun hx => h.x _ hx rfl, hs.m, hs.en h.m h.e h.lo.2, Nat.le_trans h.sz hs.c.size, fun q hq e => ?_, h.lo⟩
  by_cases hlt : q < W.heap.size
  · exact h.x q (hs.x hlt hq) e
  · omega
end
end Go.Proofs.YtkncfeijlmomaaaGreatDoor
