/-
  Merged: Ru, Rv, Ry, Yg, Yh, Yb, Yi, Ul, Va.
-/
import Derived.Test.YtkncfeijlmomaaaGreatDoorG27
import Derived.Test.YtkncfeijlmomaaaGreatDoorG24
import Derived.Test.YtkncfeijlmomaaaGreatDoorG19
import Derived.Test.YtkncfeijlmomaaaGreatDoorG23
import Derived.Test.YtkncfeijlmomaaaGreatDoorG25
import Derived.Great.BuildSlice
import Derived.Test.YtkncfeijlmomaaaGreatDoorG22
import Derived.Test.YtkncfeijlmomaaaGreatDoorG16
import Derived.Test.YtkncfeijlmomaaaGreatDoorG21

namespace Go.Proofs.YtkncfeijlmomaaaGreatDoor
open Go.RowKit Go.Sort
set_option linter.unusedSimpArgs false
set_option linter.unusedVariables false
set_option maxRecDepth 20000

end Go.Proofs.YtkncfeijlmomaaaGreatDoor

namespace Go.Proofs.YtkncfeijlmomaaaGreatDoor
open Go.RowKit Go.Sort
set_option linter.unusedSimpArgs false
set_option linter.unusedVariables false
set_option maxRecDepth 20000

theorem lm_len (P : Nat → Int) : (lmM P).length ≤ 17920 := by
  unfold lmM; split
  · exact legM_len P
  · simp
end Go.Proofs.YtkncfeijlmomaaaGreatDoor

namespace Go.Proofs.YtkncfeijlmomaaaGreatDoor
open Go.RowKit Go.Sort
set_option linter.unusedSimpArgs false
set_option linter.unusedVariables false
set_option maxRecDepth 20000

theorem HO.at {w W : World} {P : Nat → Int} (h : HO w W P) (Q : Nat → Int) : HO w (W.setCells w.heap.size 0 (pc Q)) Q :=
  ⟨h.p.store, h.z.gr (grs_B (hb := w.heap.size) (pc Q) 0 W) (by intro e; have := Option.some.inj e; omega), below_store (b := w.heap.size) Q h.b (Nat.le_refl _) h.b.size⟩
end Go.Proofs.YtkncfeijlmomaaaGreatDoor

namespace Go.Proofs.YtkncfeijlmomaaaGreatDoor
open Go.RowKit Go.Sort Go.Maps
set_option linter.unusedSimpArgs false
set_option linter.unusedVariables false
set_option maxRecDepth 20000

def knF (i : Nat) : Int := if i = 0 then 6 else if i = 1 then 62 else if i = 2 then 21 else 45
def knT (i : Nat) : Int := if i = 0 then 21 else if i = 1 then 45 else if i = 2 then 6 else 62
/-- the begin, and the positions behind the knights' moves -/
def knP : Nat → Nat → Int
  | 0 => startN
  | i + 1 => nxP (knP i) (knF i).toNat (knT i).toNat 0
def txK : Nat → List (List UInt8)
  | 0 => [kyB (knP 0)]
  | i + 1 => kyB (knP (i + 1)) :: txK i
end Go.Proofs.YtkncfeijlmomaaaGreatDoor

namespace Go.Proofs.YtkncfeijlmomaaaGreatDoor
open Go.RowKit Go.Sort Go.Maps
set_option linter.unusedSimpArgs false
set_option linter.unusedVariables false
set_option maxRecDepth 20000

theorem infoPosZ : ((Tryz.prog.info? 29).bind (·.zero)).isSome = true := by kernel_rfl
/-- a row of positions is laid -/
theorem wp_sliceP {o : Oper} {a : Act} {w : World} {K : Act → World → Prop} {Q : Exit → Act → World → Prop} (len : Nat) (parts : Array (Nat × Operand)) (ho : o.op = .buildSlice 54 len parts)
    (Xs : List (Array Value)) (hX : ∀ X ∈ Xs, X.size = 133) (hlen : len = Xs.length) (hpos : 0 < len) (hle : len ≤ 1000)
    (hparts : (parts.toList.map fun x => (x.1, a.eval x.2)) = ((Xs.map Value.agg).zipIdx 0).map fun x => (x.2, x.1))
    (h : K (a.put o.dst (.slice (some ⟨w.heap.size, 0, none⟩) len len)) (w.alloc (.cells (Xs.flatMap fun X => X.toList).toArray 29))) : o.wp Tryz.prog a w K Q := by
  cases hie : Tryz.prog.info? 29 with
  | none => have := infoPos; rw [hie] at this; cases this
  | some ie =>
    have hsz := infoPos
    have hz := infoPosZ
    simp only [hie, Option.map_some, Option.some.injEq, Option.bind_some] at hsz hz
    obtain ⟨z, hzz⟩ := Option.isSome_iff_exists.1 hz
    refine wp_buildSlice 54 29 len parts ho _ ie z Tryz.underlying54 hie hzz (by rw [hsz]; omega) (by rw [hsz]; omega) ?_ h
    rw [Array.toList_map, show (parts.toList.map fun (x : Nat × Operand) => match x with | (i, x) => (i, a.eval x)) = parts.toList.map fun x => (x.1, a.eval x.2) from rfl, hparts, hsz]
    have hf := Great.fill_whole (s := 133) (by omega) (Xs.map Value.agg) ((Array.range (len * 133)).map (z.cells[· % z.cells.size]!)) (fun v hv => by obtain ⟨X, hx, rfl⟩ := List.mem_map.1 hv; exact hX X hx) (by simp [hlen])
    rw [hf]
    congr 2
    rw [List.flatMap_map]
    rfl
/-- what stands in the example -/
structure AK (B b mb q : Nat) (i : Nat) (w W : World) : Prop where
  k : BW W b mb (txK i)
  p : PB W q (knP i)
  bl : Below w.heap.size w W
  e : EN B W
  hq : w.heap.size ≤ q
  hb : w.heap.size ≤ b
  hm : w.heap.size ≤ mb
  nb : q ≠ b
  nm : q ≠ mb
theorem AK.go {B b mb q i : Nat} {w W W' : World} (h : AK B b mb q i w W) (g : Below W.heap.size W W') : AK B b mb q i w W' :=
  ⟨h.k.go g, h.p.go g, h.bl.trans (g.mono h.bl.size), h.e.go g, h.hq, h.hb, h.hm, h.nb, h.nm⟩
/-- the position turns -/
structure AKn (B b mb q : Nat) (i : Nat) (w W : World) : Prop where
  k : BW W b mb (txK i)
  p : PB W q (knP (i + 1))
  bl : Below w.heap.size w W
  e : EN B W
  hq : w.heap.size ≤ q
  hb : w.heap.size ≤ b
  hm : w.heap.size ≤ mb
  nb : q ≠ b
  nm : q ≠ mb
theorem AKn.go {B b mb q i : Nat} {w W W' : World} (h : AKn B b mb q i w W) (g : Below W.heap.size W W') : AKn B b mb q i w W' :=
  ⟨h.k.go g, h.p.go g, h.bl.trans (g.mono h.bl.size), h.e.go g, h.hq, h.hb, h.hm, h.nb, h.nm⟩
theorem AK.turn {B b mb q i : Nat} {w W : World} (h : AK B b mb q i w W) (hB : B ≤ w.heap.size) : AKn B b mb q i w (W.setCells q 0 (pc (knP (i + 1)))) := by
  have hb : Below w.heap.size w (W.setCells q 0 (pc (knP (i + 1)))) := below_store (b := q) _ h.bl h.hq h.bl.size
  have h2 : Below w.heap.size W (W.setCells q 0 (pc (knP (i + 1)))) := below_store (b := q) _ (Below.refl _ _) h.hq h.bl.size
  exact ⟨h.k.gr (grs_B _ 0 W) h.nb h.nm, h.p.store, hb, h.e.on (h2.mono hB), h.hq, h.hb, h.hm, h.nb, h.nm⟩
theorem AKn.put {B b mb q i : Nat} {w W W' : World} (h : AKn B b mb q i w W) (hk : BW W' b mb (txK (i + 1))) (g : Two b mb W W') (hB : B ≤ w.heap.size) : AK B b mb q (i + 1) w W' := by
  have h1 := g.below (Below.refl w.heap.size W) h.hb h.hm h.bl.size
  exact ⟨hk, g.pb h.p h.nb h.nm, h.bl.trans h1, h.e.on (h1.mono hB), h.hq, h.hb, h.hm, h.nb, h.nm⟩
end Go.Proofs.YtkncfeijlmomaaaGreatDoor

namespace Go.Proofs.YtkncfeijlmomaaaGreatDoor
open Go.RowKit Go.Sort
set_option linter.unusedSimpArgs false
set_option linter.unusedVariables false
set_option maxRecDepth 20000

/-- what stands in Same -/
structure SV (w W : World) (P Q : Nat → Int) : Prop where
  p : PB W w.heap.size P
  q : PB W (w.heap.size + 1) Q
  b : Below w.heap.size w W
theorem SV.go {w W W' : World} {P Q : Nat → Int} (h : SV w W P Q) (g : Below W.heap.size W W') : SV w W' P Q := ⟨h.p.go g, h.q.go g, h.b.trans (g.mono h.b.size)⟩
theorem SV.begin (w : World) (P Q : Nat → Int) (X Y : Array Value) (hX : X = (pc P).toArray) (hY : Y = (pc Q).toArray) : SV w ((w.alloc (.cells X 29)).alloc (.cells Y 29)) P Q := by
  obtain ⟨a1, a2, a3⟩ := two_at w (.cells X 29) (.cells Y 29)
  exact ⟨PB.of_block (by rw [hX] at a1 ⊢; exact a1), PB.of_block (by rw [hY] at a2 ⊢; exact a2), a3.1⟩
end Go.Proofs.YtkncfeijlmomaaaGreatDoor

namespace Go.Proofs.YtkncfeijlmomaaaGreatDoor
open Go.RowKit Go.Sort Go.Maps
set_option linter.unusedSimpArgs false
set_option linter.unusedVariables false
set_option maxRecDepth 20000

theorem tmod_pos12 (n : Int) (h : 0 < n) (a : Int) : a % n = if a.tmod n < 0 then a.tmod n + n else a.tmod n := by
  rcases Int.lt_or_le a 0 with hn | hn
  · have e : a.tmod n = -((-a) % n) := by
      rw [← Int.tmod_eq_emod_of_nonneg (show 0 ≤ -a by omega), Int.neg_tmod, Int.neg_neg]
    have h1 := Int.emod_nonneg (-a) (show n ≠ 0 by omega)
    have h2 := Int.emod_lt_of_pos (-a) h
    have h3 := Int.emod_add_mul_ediv (-a) n
    rw [e]
    split
    · have : a = (-((-a) % n) + n) + n * (-((-a) / n) - 1) := by
        rw [Int.mul_sub, Int.mul_neg]; omega
      rw [this, Int.add_mul_emod_self_left]
      have e2 : (-((-a) % n) + n + n * (-(-a / n) - 1)) = a := this.symm
      rw [e2]
      exact Int.emod_eq_of_lt (by omega) (by omega)
    · have h0 : (-a) % n = 0 := by omega
      rw [h0]
      have : n ∣ -a := Int.dvd_of_emod_eq_zero h0
      have : n ∣ a := by simpa using this
      rw [Int.emod_eq_zero_of_dvd this]; rfl
  · rw [Int.tmod_eq_emod_of_nonneg hn, if_neg (by have := Int.emod_nonneg a (show n ≠ 0 by omega); omega)]
set_option maxHeartbeats 1000000 in
theorem pick12_any (a n : Int) (h0 : 0 < n) (h1 : n ≤ 100000) (w : World) :
    Calls Tryz.prog 32 #[.int .i64 a, .int .i64 n] w fun e w' => e = .returned (.int .i64 (a % n)) ∧ w = w' := by
  have g1 := Int.tmod_lt_of_pos a h0
  have g2 := Int.lt_tmod_of_pos a h0
  have hm := tmod_pos12 n h0 a
  have hz : ¬ n < 1 := by omega
  have hnz : (n == 0) = false := beq_eq_false_iff_ne.2 (by omega)
  have hnz2 : ¬ n = 0 := by omega
  by_cases hneg : a.tmod n < 0
  · rw [if_pos hneg] at hm
    rw [hm]
    clear hm
    have s1 : IntKind.i64.wrap (a.tmod n + n) = a.tmod n + n := IntWalk.i64_in _ (by omega)
    have s2 : IntKind.i64.wrap (a.tmod n) = a.tmod n := IntWalk.i64_in _ (by omega)
    go_enter Tryz.func32, Tryz.ntmps32
    go_wp2
    go_ret
    exact ⟨rfl, rfl⟩
  · rw [if_neg hneg] at hm
    rw [hm]
    clear hm
    go_enter Tryz.func32, Tryz.ntmps32
    go_wp2
    go_ret
    exact ⟨rfl, rfl⟩
theorem pl_one12 (P : Nat → Int) (hp : posB P = true) (f t k : Int) (h : legB P f t k = true) : plP P (fun _ => f) (fun _ => t) (fun _ => k) 1 = nxP P f.toNat t.toNat k ∧ plE P (fun _ => f) (fun _ => t) (fun _ => k) 1 = 0 := by
  have ha : advN P (fun _ => f) (fun _ => t) (fun _ => k) 1 = some (nxP P f.toNat t.toNat k) := adv_go (i := 0) (Q := P) rfl h
  unfold plP plE
  rw [hp, ha]
  exact ⟨rfl, rfl⟩
theorem leg_at12 (P : Nat → Int) (hp : posB P = true) (m : Nat) (h : m < (legM P).length) : ∃ (s t : Nat) (k : Int), mF (legM P) m = (s : Int) ∧ mT (legM P) m = (t : Int) ∧ mK (legM P) m = k ∧ LgOk P ((s : Int), (t : Int), k) s t ∧ (legM P)[m] = ((s : Int), (t : Int), k) := by
  obtain ⟨s, t, hg⟩ := leg_ok P hp _ (List.getElem_mem h)
  have e : (legM P).getD m (0, 0, 0) = (legM P)[m] := by rw [List.getD_eq_getElem?_getD, List.getElem?_eq_getElem h]; rfl
  have h1 := hg.x.mv.f
  have h2 := hg.x.mv.t
  obtain ⟨a, b, c, ec⟩ : ∃ a b c, (legM P)[m] = (a, b, c) := ⟨_, _, _, rfl⟩
  rw [ec] at h1 h2 hg e
  simp only at h1 h2
  subst h1; subst h2
  exact ⟨s, t, c, by unfold mF; rw [e], by unfold mT; rw [e], by unfold mK; rw [e], hg, ec⟩
theorem PB.gr12 {W W' : World} {b x : Nat} {P : Nat → Int} (h : PB W b P) (g : W.grownBy W' (some x)) (hx : x ≠ b) : PB W' b P := by
  have e := g.block b h.lt (by intro e; exact hx (Option.some.inj e).symm)
  exact ⟨Nat.lt_of_lt_of_le h.lt g.size, fun i hi => by rw [World.cell?_of_block (a := ⟨b, i, none⟩) e]; exact h.cell i hi, fun i => by rw [← h.fr i]; simp only [World.frozen?, e]⟩
theorem ReadsP.mono {B C : Nat} {w : World} {p : Option Addr} {m : Nat} {Ps : Nat → Nat → Int} (h : ReadsP B w p m Ps) (hB : B ≤ C) : ReadsP C w p m Ps := by
  rcases h with h | ⟨rb, off, h1, h2, h3⟩
  · exact .inl h
  · exact .inr ⟨rb, off, h1, by omega, h3⟩
theorem ReadsP.go {w w' : World} {p : Option Addr} {m : Nat} {Ps : Nat → Nat → Int} (h : ReadsP w.heap.size w p m Ps) (g : Below w.heap.size w w') : ReadsP w'.heap.size w' p m Ps := (h.below g).mono g.size
theorem ReadsP.at {B : Nat} {w : World} {lb o m : Nat} {Ps : Nat → Nat → Int} (h : ReadsP B w (some ⟨lb, o, none⟩) m Ps) {i : Nat} (hi : i < m) : w.rangeAt lb (o + i * 133) (pc (Ps i)) := by
  rcases h with h | ⟨rb, off, h1, h2, h3⟩
  · omega
  · cases h1; exact h3 i hi
theorem yields_posAt {ops : Array Oper} {S : World → Prop} {op : Oper} {a : Act} (hw : Region.wanted op (yielded ops a.tmps) = true) (x : Operand) (ho : op.op = .load 29 x)
    (b o : Nat) (P : Nat → Int) (X : Array Value) (hX : X = (pc P).toArray) (hx : a.eval x = .pointer (some ⟨b, o, none⟩)) (hS : ∀ w, S w → w.rangeAt b o (pc P)) : YieldsIf Tryz.prog ops S op (.agg X) a := by
  subst hX
  exact yieldsIf_load_mid hw 29 x ho b o hx (pc P) _ hS Tryz.underlying29 rfl (by rw [infoPos, pc_len])
/-- what stands in AgainLegal ahead of its loop -/
structure LG (B rb : Nat) (w W : World) (P Q R : Nat → Int) : Prop where
  p : PB W w.heap.size P
  q : PB W (w.heap.size + 1) Q
  r : PB W rb R
  bl : Below w.heap.size w W
  e : EN B W
  hr : w.heap.size + 2 ≤ rb
  hB : B ≤ w.heap.size
theorem LG.go {B rb : Nat} {w W W' : World} {P Q R : Nat → Int} (h : LG B rb w W P Q R) (g : Below W.heap.size W W') : LG B rb w W' P Q R :=
  ⟨h.p.go g, h.q.go g, h.r.go g, h.bl.trans (g.mono h.bl.size), h.e.go g, h.hr, h.hB⟩
theorem LG.set {B rb : Nat} {w W : World} {P Q R : Nat → Int} (h : LG B rb w W P Q R) (i : Nat) (x : Int) (hi : i < 133) : LG B rb w (W.setCell ⟨rb, i, none⟩ (.int .i64 x)) P Q (setN R i x) := by
  have hr := h.hr
  have g := gr1_B (hb := rb) (i := i) (w := W) (.int .i64 x)
  have hb : Below w.heap.size W (W.setCell ⟨rb, i, none⟩ (.int .i64 x)) := (Below.refl _ _).setCell (p := ⟨rb, i, none⟩) (by show w.heap.size ≤ rb; omega) _
  exact ⟨h.p.gr12 g (by omega), h.q.gr12 g (by omega), h.r.set i x hi, h.bl.trans hb, h.e.on (hb.mono h.hB), h.hr, h.hB⟩
/-- what stands in its loop -/
structure AL (B lb : Nat) (P : Nat → Int) (Ls : Nat → Nat → Int) (w W : World) : Prop where
  p : PB W w.heap.size P
  l : ReadsP W.heap.size W (some ⟨lb, 0, none⟩) 2 Ls
  bl : Below w.heap.size w W
  e : EN B W
theorem AL.go {B lb : Nat} {P : Nat → Int} {Ls : Nat → Nat → Int} {w W W' : World} (h : AL B lb P Ls w W) (g : Below W.heap.size W W') : AL B lb P Ls w W' :=
  ⟨h.p.go g, h.l.go g, h.bl.trans (g.mono h.bl.size), h.e.go g⟩
/-- what stands in its inner loop -/
structure IL (B lb : Nat) (P : Nat → Int) (Ls : Nat → Nat → Int) (ap bp : Option Addr) (n : Nat) (F T K : Nat → Int) (w W : World) : Prop where
  a : AL B lb P Ls w W
  r1 : Reads3 W.heap.size W ap n F T K
  r2 : Reads3 W.heap.size W bp n F T K
theorem IL.go {B lb : Nat} {P : Nat → Int} {Ls : Nat → Nat → Int} {ap bp : Option Addr} {n : Nat} {F T K : Nat → Int} {w W W' : World} (h : IL B lb P Ls ap bp n F T K w W) (g : Below W.heap.size W W') : IL B lb P Ls ap bp n F T K w W' :=
  ⟨h.a.go g, (h.r1.below g).mono g.size, (h.r2.below g).mono g.size⟩
end Go.Proofs.YtkncfeijlmomaaaGreatDoor

namespace Go.Proofs.YtkncfeijlmomaaaGreatDoor
open Go.RowKit Go.Sort
set_option linter.unusedSimpArgs false
set_option linter.unusedVariables false
set_option maxRecDepth 20000

/-! ### what a move of all is -/
theorem HG.low {w w6 W : World} {bA : Nat} {Q : Nat → Int} (h : HG w6 W bA Q) (hb : Below w.heap.size w w6) (hA : w.heap.size ≤ bA) : Below w.heap.size w W := hb.grown h.g hb.size (fun b e => by cases e; exact hA)
theorem HG.put {w6 W : World} {bA : Nat} {Q : Nat → Int} (h : HG w6 W bA Q) (N : Nat → Int) : HG w6 (W.setCells bA 0 (pc N)) bA N := ⟨h.q.store, h.g.trans (grs_B _ 0 W)⟩
end Go.Proofs.YtkncfeijlmomaaaGreatDoor

namespace Go.Proofs.YtkncfeijlmomaaaGreatDoor
open Go.RowKit Go.Sort
set_option linter.unusedSimpArgs false
set_option linter.unusedVariables false
set_option maxRecDepth 20000

/-! ### where a piece could go on a board without others -/
def geoM (k : Int) (s t : Nat) : Bool :=
  if k = 1 then decide (absI (fD s t) ≤ 1) && decide (absI (rD s t) ≤ 2)
  else if k = 2 then absI (fD s t) * absI (rD s t) == 2
  else if k = 6 then decide (absI (fD s t) ≤ 2) && decide (absI (rD s t) ≤ 1)
  else if k = 4 then fD s t == 0 || rD s t == 0
  else if k = 3 then absI (fD s t) == absI (rD s t)
  else fD s t == 0 || rD s t == 0 || absI (fD s t) == absI (rD s t)
def cand (k : Int) (s : Nat) : List Nat :=
  if k = 1 then (List.range 64).filter (geoM 1 s)
  else if k = 2 then (List.range 64).filter (geoM 2 s)
  else if k = 6 then (List.range 64).filter (geoM 6 s)
  else if k = 4 then (List.range 64).filter (geoM 4 s)
  else if k = 3 then (List.range 64).filter (geoM 3 s)
  else (List.range 64).filter (geoM 5 s)
theorem cand_is (k : Int) (s : Nat) : cand k s = (List.range 64).filter (geoM k s) := by
  unfold cand
  split
  · rename_i h; subst h; rfl
  · split
    · rename_i h; subst h; rfl
    · split
      · rename_i h; subst h; rfl
      · split
        · rename_i h; subst h; rfl
        · split
          · rename_i h; subst h; rfl
          · rename_i h1 h2 h6 h4 h3
            refine congrArg (fun q => (List.range 64).filter q) (funext fun t => ?_)
            unfold geoM
            rw [if_neg h1, if_neg h2, if_neg h6, if_neg h4, if_neg h3]
            rfl
theorem att_geo (P : Nat → Int) (s t : Nat) (h : attR P s t = true) : geoM (P (2 * s)) s t = true := by
  unfold attR attK kindB at h
  rw [Bool.and_eq_true] at h
  have h2 := h.2
  unfold geoM
  split at h2
  · rename_i hk
    rw [if_pos hk]
    simp only [Bool.and_eq_true, Bool.or_eq_true, beq_iff_eq, decide_eq_true_eq] at h2 ⊢
    refine ⟨by omega, ?_⟩
    unfold absI
    split <;> omega
  · rename_i hk
    rw [if_neg hk]
    split at h2
    · rename_i hk2
      rw [if_pos hk2]; exact h2
    · rename_i hk2
      rw [if_neg hk2]
      split at h2
      · rename_i hk6
        rw [if_pos hk6]
        simp only [Bool.and_eq_true, decide_eq_true_eq] at h2 ⊢
        exact ⟨by omega, h2.2⟩
      · rename_i hk6
        rw [if_neg hk6]
        split at h2
        · rename_i hk4
          rw [if_pos hk4]
          exact (Bool.and_eq_true _ _ ▸ h2).1
        · rename_i hk4
          rw [if_neg hk4]
          split at h2
          · rename_i hk3
            rw [if_pos hk3]
            exact (Bool.and_eq_true _ _ ▸ h2).1
          · rename_i hk3
            rw [if_neg hk3]
            exact (Bool.and_eq_true _ _ ▸ h2).1
theorem castles_geo (P : Nat → Int) (s n : Nat) (h : (n : Int) ∈ castlesL P (s : Int) 4) : geoM 6 s n = true := by
  obtain ⟨j, hj, hc, hx⟩ := castlesL_mem P _ _ _ h
  obtain ⟨h1, _, _⟩ := cst_j P _ _ hc
  rcases (show j = 0 ∨ j = 1 ∨ j = 2 ∨ j = 3 by omega) with rfl | rfl | rfl | rfl
  · obtain rfl : s = 4 := by simp [mcsN] at h1; omega
    obtain rfl : n = 6 := by rw [show stp ((4 : Nat) : Int) (2 * mcsN (0 * 4 + 3)) 0 = 6 by decide] at hx; omega
    decide
  · obtain rfl : s = 4 := by simp [mcsN] at h1; omega
    obtain rfl : n = 2 := by rw [show stp ((4 : Nat) : Int) (2 * mcsN (1 * 4 + 3)) 0 = 2 by decide] at hx; omega
    decide
  · obtain rfl : s = 60 := by simp [mcsN] at h1; omega
    obtain rfl : n = 62 := by rw [show stp ((60 : Nat) : Int) (2 * mcsN (2 * 4 + 3)) 0 = 62 by decide] at hx; omega
    decide
  · obtain rfl : s = 60 := by simp [mcsN] at h1; omega
    obtain rfl : n = 58 := by rw [show stp ((60 : Nat) : Int) (2 * mcsN (3 * 4 + 3)) 0 = 58 by decide] at hx; omega
    decide
theorem go_geo (P : Nat → Int) (s t : Nat) (hs : s < 64) (ht : t < 64) (h : goB P s t = true) : geoM (P (2 * s)) s t = true := by
  unfold goB at h
  split at h
  · rename_i hk
    rw [Bool.or_eq_true] at h
    rcases h with h | h
    · have h2 := (aheadL_mem P s _ (List.contains_iff_mem.1 h)).2
      have h3 := onN_or P
      unfold geoM
      rw [if_pos hk]
      simp only [Bool.and_eq_true, decide_eq_true_eq]
      unfold absI fD rD
      have e1 : t % 8 = s % 8 := by omega
      rw [e1]
      refine ⟨by split <;> omega, by split <;> omega⟩
    · exact att_geo P s t (Bool.and_eq_true _ _ ▸ h).1
  · rw [Bool.or_eq_true] at h
    rcases h with h | h
    · exact att_geo P s t (Bool.and_eq_true _ _ ▸ h).1
    · rw [Bool.and_eq_true, beq_iff_eq] at h
      rw [h.1]
      exact castles_geo P s t (List.contains_iff_mem.1 h.2)
/-- the row of all moves, worked out so -/
def allF (P : Nat → Int) : List (Int × Int × Int) := (upList (ownB P) 64).flatMap fun x => putL P x.toNat (((cand (P (2 * x.toNat)) x.toNat).filter (goB P x.toNat)).map Int.ofNat)
theorem up_cand (P : Nat → Int) (s : Nat) (hs : s < 64) : upList (goB P s) 64 = ((cand (P (2 * s)) s).filter (goB P s)).map Int.ofNat := by
  unfold upList
  rw [cand_is, List.filter_filter]
  refine congrArg _ (List.filter_congr fun t ht => ?_)
  cases e : goB P s t
  · rfl
  · rw [go_geo P s t hs (List.mem_range.1 ht) e]; rfl
theorem allF_is (P : Nat → Int) : allM P = allF P := by
  rw [allM_up]
  unfold allF
  simp only [List.flatMap_def]
  refine congrArg List.flatten (List.map_congr_left fun x hx => ?_)
  obtain ⟨i, hi, _, rfl⟩ := (upList_mem _ _ _).1 hx
  rw [up_cand P _ (by simpa using hi)]
/-! ### no check behind a move of another piece than the king, where nothing could attack it -/
def geoK (k d : Int) (a b : Nat) : Bool := mayB k d && !(a == b) && geoM k a b
theorem att_geoK (P Q : Nat → Int) (a b : Nat) (hk : Q (2 * a) = P (2 * a)) (hd : Q (2 * a + 1) = P (2 * a + 1)) (h : attR Q a b = true) : geoK (P (2 * a)) (P (2 * a + 1)) a b = true := by
  have h2 := att_geo Q a b h
  unfold attR attK at h
  rw [Bool.and_eq_true] at h
  unfold geoK
  rw [← hk, ← hd, h.1, h2]; rfl
def quietB (P : Nat → Int) : Bool := (List.range 64).all fun b => !pe (P (2 * b)) (P (2 * b + 1)) 6 (P 128) || (List.range 64).all fun a => !((P (2 * a + 1) == oth (P 128)) && geoK (P (2 * a)) (P (2 * a + 1)) a b)
theorem csI_none10 (P : Nat → Int) (f t : Nat) (h : ¬ P (2 * f) = 6) : csI P f t 4 = none := by
  have hx : ∀ j, j < 4 → csX P f t j = false := fun j hj => by
    cases e : csX P f t j
    · rfl
    · exfalso
      unfold csX at e
      simp only [Bool.and_eq_true, beq_iff_eq, pe_iff] at e
      exact h e.2.1
  exact csI_next _ _ _ _ (csI_next _ _ _ _ (csI_next _ _ _ _ (csI_next _ _ _ _ rfl (hx 0 (by omega))) (hx 1 (by omega))) (hx 2 (by omega))) (hx 3 (by omega))
/-- what stands behind a move of another piece -/
theorem mv_what (P : Nat → Int) (m : Int × Int × Int) (s n : Nat) (h : MvOk P m s n) (hk : P (2 * s) ≠ 6) (x : Nat) (hx : x < 64) :
    (x = n ∧ mvP P s n m.2.2 (2 * x) ≠ 6 ∧ mvP P s n m.2.2 (2 * x + 1) = P 128) ∨ mvP P s n m.2.2 (2 * x) = 0 ∨ (mvP P s n m.2.2 (2 * x) = P (2 * x) ∧ mvP P s n m.2.2 (2 * x + 1) = P (2 * x + 1)) := by
  have h0 := mv_ok P m s n h
  have e1 : ∀ i, mvP P s n m.2.2 i = cmN (handP P) s n m.2.2 i := fun i => by
    unfold mvP; rw [if_pos h0, Int.toNat_natCast, Int.toNat_natCast]
  have hc : csI (handP P) s n 4 = none := csI_none10 _ _ _ (by rw [hand_off P _ (by omega)]; exact hk)
  have e2 : ∀ i, pcsN (handP P) s n m.2.2 i = putM (cntN (handP P) (pwnB (handP P) s || (tksN (handP P) s n != -1))) s n m.2.2 (tksN (handP P) s n) i := fun i => by
    unfold pcsN; rw [hc]; rfl
  rw [e1, e1, cm_k _ _ _ _ _ hx, cm_d _ _ _ _ _ hx, e2, e2, put_k, put_d]
  have hs := h.hs
  have c1 : ∀ y z, y < 64 → cntN (handP P) z (2 * y) = P (2 * y) := fun y z hy => by rw [cnt_off _ _ _ (by omega) (by omega), hand_off P _ (by omega)]
  have c2 : ∀ y z, y < 64 → cntN (handP P) z (2 * y + 1) = P (2 * y + 1) := fun y z hy => by rw [cnt_off _ _ _ (by omega) (by omega), hand_off P _ (by omega)]
  rw [c1 _ _ hs, c2 _ _ hs, c1 _ _ hx, c2 _ _ hx]
  by_cases hxn : x = n
  · left
    rw [if_pos hxn, if_pos hxn]
    refine ⟨hxn, ?_, (own_parts P s h.o).2⟩
    have hb := h.b
    unfold becB at hb
    split at hb
    · simp only [Bool.and_eq_true, decide_eq_true_eq] at hb
      rw [if_neg (by simp; omega)]; omega
    · rw [if_pos hb]; exact hk
  · right
    rw [if_neg hxn, if_neg hxn]
    split
    · left; rfl
    · split
      · left; rfl
      · right; exact ⟨rfl, rfl⟩
theorem ok_quiet (P : Nat → Int) (m : Int × Int × Int) (s n : Nat) (h : MvOk P m s n) (hk : P (2 * s) ≠ 6) (hq : quietB P = true) : okM P s n m.2.2 = true := by
  have hd : P 128 = 0 ∨ P 128 = 1 := by
    have := (own_parts P s h.o).1
    unfold sideB at this; simpa using this
  have hoo := oth_side hd
  have hc : chkB (mvP P s n m.2.2) (P 128) = false := by
    rw [Bool.eq_false_iff]
    intro e
    obtain ⟨b, a, hb, ha, k1, k2, k3, k4⟩ := (chk_iff _ _ hd).1 e
    have hat : mayB (mvP P s n m.2.2 (2 * a)) (mvP P s n m.2.2 (2 * a + 1)) = true := by
      unfold attR attK at k4
      simp only [Bool.and_eq_true] at k4
      exact k4.1.1
    obtain ⟨q1, q2⟩ : P (2 * b) = 6 ∧ P (2 * b + 1) = P 128 := by
      rcases mv_what P m s n h hk b hb with ⟨_, x, _⟩ | x | ⟨x, y⟩
      · exact absurd k1 x
      · rw [x] at k1; cases k1
      · exact ⟨x ▸ k1, y ▸ k2⟩
    obtain ⟨r1, r2⟩ : mvP P s n m.2.2 (2 * a) = P (2 * a) ∧ mvP P s n m.2.2 (2 * a + 1) = P (2 * a + 1) := by
      rcases mv_what P m s n h hk a ha with ⟨_, _, x⟩ | x | x
      · rw [k3] at x; exact absurd x hoo.2.2
      · rw [x] at hat
        unfold mayB at hat; simp at hat
      · exact x
    have g := att_geoK P _ a b r1 r2 k4
    unfold quietB at hq
    have h1 := List.all_eq_true.1 hq b (List.mem_range.2 hb)
    rw [(pe_iff _ _ _ _).2 ⟨q1, q2⟩, Bool.not_true, Bool.false_or] at h1
    have h2 := List.all_eq_true.1 h1 a (List.mem_range.2 ha)
    have hz : P (2 * a + 1) = oth (P 128) := r2 ▸ k3
    rw [hz] at h2 g
    rw [g] at h2
    simp at h2
  unfold okM badC badQ cstM
  rw [show (P (s * 2) == 6) = false by rw [Nat.mul_comm]; simpa using hk, mv_ok P m s n h, hc]
  rfl
def okF (P : Nat → Int) (m : Int × Int × Int) : Bool := (quietB P && !(P (2 * m.1.toNat) == 6)) || okL P m
def legF (P : Nat → Int) : List (Int × Int × Int) := (allF P).filter (okF P)
theorem legF_is (P : Nat → Int) : legM P = legF P := by
  unfold legM legF
  rw [← allF_is]
  refine List.filter_congr fun m hm => ?_
  obtain ⟨s, n, h⟩ := allM_mem P m hm
  unfold okF
  cases e : quietB P
  · rfl
  · cases e2 : P (2 * m.1.toNat) == 6
    · rw [okL_at P m s n h, ok_quiet P m s n h (by rw [h.f, Int.toNat_natCast] at e2; simpa using e2) e]; rfl
    · rfl
end Go.Proofs.YtkncfeijlmomaaaGreatDoor
