/-
  Merged: TReal, Alike.
-/
import Derived.Test.YtejknkgbkkdaiaaGreatDoorG18
import Derived.Deep.Cut
import Derived.Deep.CutRange

namespace Go.Proofs.YtejknkgbkkdaiaaGreatDoor
open Go.RowKit
set_option linter.unusedVariables false
set_option linter.unusedSimpArgs false

theorem tot_le (X : Nat → Ask) (m i : Nat) (h : i < m) : (X i).tot ≤ totA X m := by
  induction m with
  | zero => omega
  | succ m ih =>
    by_cases e : i = m
    · subst e; show _ ≤ totA X i + (X i).tot; omega
    · have := ih (by omega); show _ ≤ totA X m + (X m).tot; omega
theorem Ask.there.lies {x : Ask} {w : World} (h : x.there w) (ht : x.tot ≤ 400) : x.lies w :=
  ⟨h.key, h.kz, by unfold Ask.tot at ht; omega, h.rows, h.mc.1, by unfold Ask.tot at ht; omega, by unfold Ask.tot at ht; omega, h.k⟩
theorem Ask.there.small {x : Ask} {w : World} (h : x.there w) (ht : x.tot ≤ 400) : x.small :=
  ⟨h.kc, by unfold Ask.tot at ht; omega, h.mc.2, by unfold Ask.tot at ht; omega⟩
theorem Ask.fits.mono {x : Ask} {B B' : Nat} {w : World} (h : x.fits B w) (hB : B ≤ B') : x.fits B' w := ⟨h.kn, h.m, h.ln, h.rows.mono hB⟩
/-- an ask alone, as a row -/
theorem one_ask {W : World} {q : Nat} {x : Ask} (h : W.heap[q]? = some (.cells #[.int .i64 x.what, .slice x.kp x.kn x.kc, .slice x.p x.m x.c, .int .i64 x.k] 38 (0, 0))) :
    AskRow W.heap.size W (some ⟨q, 0, none⟩) 1 (fun _ => x) := by
  refine .inr ⟨q, 0, rfl, (Array.getElem?_eq_some_iff.1 h).1, fun i hi => ?_⟩
  obtain rfl : i = 0 := by omega
  exact ⟨by rw [cell_of_row W q _ _ _ (0, 0) h]; rfl, by rw [cell_of_row W q _ _ _ (0, 0) h]; rfl, by rw [cell_of_row W q _ _ _ (0, 0) h]; rfl, by rw [cell_of_row W q _ _ _ (0, 0) h]; rfl⟩
/-- a real maker that has a seed of its own -/
structure MK (W : World) (mb B b0 : Nat) (v : Value) (sd : Nat → BitVec 8) (sm : Nat) : Prop where
  mr : MB W mb B true v
  bk : BK W B []
  own : W.ownsRow b0 5 1 v sm ((List.range sm).map (fun j => .int .u8 (ub (sd j))))
theorem MK.go {W W' : World} {mb B b0 : Nat} {v : Value} {sd : Nat → BitVec 8} {sm : Nat} (h : MK W mb B b0 v sd sm) (g : Below W.heap.size W W') : MK W' mb B b0 v sd sm :=
  ⟨h.mr.below g, h.bk.below g, owns_below h.own g⟩
theorem MK.told {W : World} {mb B b0 : Nat} {v : Value} {sd : Nat → BitVec 8} {sm : Nat} (h : MK W mb B b0 v sd sm) {B0 : Nat} (hk : Kc B0 W) (hB : B0 ≤ W.heap.size) (hsm : sm ≤ 400) (y : Ask) (hl : y.lies W) (hs : y.small) :
    Calls Tryz.prog 10 #[.pointer (some ⟨mb, 0, none⟩), y.val] W fun e w' => e = .returned (tagV (y.real sd sm)) ∧ Below W.heap.size W w' := by
  obtain ⟨q, c, rfl, hr, h1, h2⟩ := owns_reads h.own
  exact toldR_any W mb B q sm c h.mr B0 hk hB sd hr (by omega) h1 h2 y hl hs
theorem below_al (w : World) (o : Obj) : Below w.heap.size w (w.alloc o) := (Below.refl _ _).alloc (Nat.le_refl _) _
/-- what stays while the law goes on -/
structure RT (w : World) (x : Ask) (sd : Nat → BitVec 8) (sm m1 B1 q1 : Nat) (v1 : Value) (m2 B2 q2 : Nat) (v2 : Value) (m3 B3 q3 : Nat) (v3 : Value) (W : World) : Prop where
  bel : Below w.heap.size w W
  box : W.heap[w.heap.size]? = some (.cells #[.int .i64 x.what, .slice x.kp x.kn x.kc, .slice x.p x.m x.c, .int .i64 x.k] 38 (0, 0))
  k1 : MK W m1 B1 q1 v1 sd sm
  k2 : MK W m2 B2 q2 v2 sd sm
  k3 : MK W m3 B3 q3 v3 (fun _ => 0#8) 0
theorem RT.go {w : World} {x : Ask} {sd : Nat → BitVec 8} {sm m1 B1 q1 : Nat} {v1 : Value} {m2 B2 q2 : Nat} {v2 : Value} {m3 B3 q3 : Nat} {v3 : Value} {W W' : World} (h : RT w x sd sm m1 B1 q1 v1 m2 B2 q2 v2 m3 B3 q3 v3 W) (g : Below W.heap.size W W') : RT w x sd sm m1 B1 q1 v1 m2 B2 q2 v2 m3 B3 q3 v3 W' :=
  ⟨h.bel.trans (g.mono h.bel.size), laid_go h.box g, h.k1.go g, h.k2.go g, h.k3.go g⟩
/-- the same bytes, in one row, and none behind it -/
noncomputable def Ask.one (x : Ask) (rb : Nat) (pv : Option Addr) (cv : Nat) : Ask :=
  ⟨x.what, x.kp, x.kn, x.kc, x.key, some ⟨rb, 0, none⟩, 2, 2, fun i => if i = 0 then pv else none, fun i => if i = 0 then pos x.ln x.m else 0, fun i => if i = 0 then cv else 0, fun i j => if i = 0 then x.all j else 0#8, x.k⟩
theorem Ask.one_pos (x : Ask) (rb : Nat) (pv : Option Addr) (cv : Nat) : pos (x.one rb pv cv).ln (x.one rb pv cv).m = pos x.ln x.m := by
  show 0 + pos x.ln x.m + 0 = _
  omega
theorem Ask.one_lies {x : Ask} {W : World} {rb : Nat} {pv : Option Addr} {cv : Nat} (h : x.lies W) (hc : pos x.ln x.m ≤ cv ∧ cv ≤ maxLen) (hp : Reads W.heap.size W pv (pos x.ln x.m) (fun j => .int .u8 (ub (x.all j)))) (hr : W.heap[rb]? = some (.cells #[.slice pv (pos x.ln x.m) cv, .slice none 0 0] 22 (0, 0))) :
    (x.one rb pv cv).lies W := by
  refine ⟨h.key, h.kz, h.kn, ⟨.inr ⟨rb, 0, rfl, (Array.getElem?_eq_some_iff.1 hr).1, fun i hi => ?_⟩, fun i hi => ?_, fun i hi => ?_⟩, Nat.le_refl _, by show 2 ≤ _; omega, by rw [Ask.one_pos]; exact h.n, h.k⟩
  · have hi2 : i < 2 := hi
    rw [cell_of_row W rb _ _ _ (0, 0) hr]
    match i, hi2 with
    | 0, _ => rfl
    | 1, _ => rfl
  · have hi2 : i < 2 := hi
    match i, hi2 with
    | 0, _ => exact hc
    | 1, _ => exact ⟨Nat.le_refl _, by unfold maxLen; show 0 ≤ _; omega⟩
  · have hi2 : i < 2 := hi
    match i, hi2 with
    | 0, _ => exact hp
    | 1, _ => exact .inl rfl
theorem Ask.one_small {x : Ask} {rb : Nat} {pv : Option Addr} {cv : Nat} (h : x.small) : (x.one rb pv cv).small :=
  ⟨h.kc, h.kn, by show 2 ≤ _; unfold maxLen; omega, by rw [Ask.one_pos]; exact h.n⟩
theorem Ask.one_real (x : Ask) (rb : Nat) (pv : Option Addr) (cv : Nat) (sd : Nat → BitVec 8) (sm : Nat) : (x.one rb pv cv).real sd sm = x.real sd sm :=
  Ask.real_same x _ sd sd sm sm rfl rfl rfl rfl (x.one_pos rb pv cv) (fun i hi => by
    have h := (x.one rb pv cv).all_at 0 (by show 0 < 2; omega) i hi
    rw [show pos (x.one rb pv cv).ln 0 = 0 from rfl, Nat.zero_add] at h
    exact h.symm) (fun _ => ⟨rfl, fun _ _ => rfl⟩)
theorem tag_load' {S : World → Prop} {ops : Array Oper} {o : Oper} {ac : Act} {x : Operand} {T : Nat} {s : Nat → BitVec 8} (hS : ∀ w, S w → BT w T 32 s) (h1 : Region.wanted o (yielded ops ac.tmps) = true) (h2 : o.op = .load 25 x) (h3 : ac.eval x = .pointer (some ⟨T, 0, none⟩)) : YieldsIf Tryz.prog ops S o (tagV s) ac :=
  yieldsIf_load_mid h1 25 x h2 T 0 h3 (tagC s) _ (fun w' hw' => (hS w' hw').range) Tryz.underlying25 rfl (by simp [infoTag, tagC_len])
theorem row4 {W : World} {H : Nat} {a b c d : Value} {t : TypeId} (h : W.heap[H]? = some (.cells #[a, b, c, d] t (0, 0))) :
    W.cell? ⟨H, 0, none⟩ = some a ∧ W.cell? ⟨H, 1, none⟩ = some b ∧ W.cell? ⟨H, 2, none⟩ = some c ∧ W.cell? ⟨H, 3, none⟩ = some d :=
  ⟨by rw [cell_of_row W H 0 _ _ (0, 0) h]; rfl, by rw [cell_of_row W H 1 _ _ (0, 0) h]; rfl, by rw [cell_of_row W H 2 _ _ (0, 0) h]; rfl, by rw [cell_of_row W H 3 _ _ (0, 0) h]; rfl⟩
theorem MK.copy {W : World} {mb B b0 : Nat} {v : Value} {sd : Nat → BitVec 8} {sm : Nat} (h : MK W mb B b0 v sd sm) (hsm : sm ≤ 400) :
    Calls Tryz.prog 37 #[.pointer (some ⟨mb, 0, none⟩)] W fun e w' => ∃ m4 B4 q4 v4, e = .returned (.pointer (some ⟨m4, 0, none⟩)) ∧ Below W.heap.size W w' ∧ MK w' m4 B4 q4 v4 sd sm := by
  obtain ⟨q, c, hv, hr, h1, h2⟩ := owns_reads h.own
  have hq : q = none → sm = 0 := fun e => by
    rcases hr with h0 | ⟨b, off, he, _⟩
    · exact h0
    · rw [e] at he; cases he
  have hm := h.mr
  rw [hv] at hm
  refine (copyR_any W mb B [] q sm c sd hm h.bk hq (by omega) hr).mono ?_
  rintro e w' ⟨m4, B4, v4, q4, rfl, _, _, _, hb, hmm, hkk, hoo⟩
  exact ⟨m4, B4, q4, v4, rfl, hb, hmm, hkk, hoo⟩
/-- what stays in the last line -/
structure RY (w : World) (x : Ask) (sd : Nat → BitVec 8) (sm m1 B1 q1 : Nat) (v1 : Value) (m2 B2 q2 : Nat) (v2 : Value) (m3 B3 q3 : Nat) (v3 : Value) (tb : Nat) (s : Nat → BitVec 8) (yb rb : Nat) (pv : Option Addr) (cv : Nat) (W : World) : Prop where
  rt : RT w x sd sm m1 B1 q1 v1 m2 B2 q2 v2 m3 B3 q3 v3 W
  tg : BT W tb 32 s
  yx : W.heap[yb]? = some (.cells #[.int .i64 x.what, .slice x.kp x.kn x.kc, .slice (some ⟨rb, 0, none⟩) 2 2, .int .i64 x.k] 38 (0, 0))
  rows : W.heap[rb]? = some (.cells #[.slice pv (pos x.ln x.m) cv, .slice none 0 0] 22 (0, 0))
  rd : Reads W.heap.size W pv (pos x.ln x.m) (fun j => .int .u8 (ub (x.all j)))
theorem RY.go {w : World} {x : Ask} {sd : Nat → BitVec 8} {sm m1 B1 q1 : Nat} {v1 : Value} {m2 B2 q2 : Nat} {v2 : Value} {m3 B3 q3 : Nat} {v3 : Value} {tb : Nat} {s : Nat → BitVec 8} {yb rb : Nat} {pv : Option Addr} {cv : Nat} {W W' : World} (h : RY w x sd sm m1 B1 q1 v1 m2 B2 q2 v2 m3 B3 q3 v3 tb s yb rb pv cv W) (g : Below W.heap.size W W') :
    RY w x sd sm m1 B1 q1 v1 m2 B2 q2 v2 m3 B3 q3 v3 tb s yb rb pv cv W' :=
  ⟨h.rt.go g, h.tg.below' g, laid_go h.yx g, laid_go h.rows g, (h.rd.below g).mono g.size⟩
theorem RY.drew {w : World} {x : Ask} {sd : Nat → BitVec 8} {sm m1 B1 q1 : Nat} {v1 : Value} {m2 B2 q2 : Nat} {v2 : Value} {m3 B3 q3 : Nat} {v3 : Value} {tb : Nat} {s : Nat → BitVec 8} {yb rb : Nat} {pv : Option Addr} {cv : Nat} {W : World} (h : RY w x sd sm m1 B1 q1 v1 m2 B2 q2 v2 m3 B3 q3 v3 tb s yb rb pv cv W) :
    RY w x sd sm m1 B1 q1 v1 m2 B2 q2 v2 m3 B3 q3 v3 tb s yb rb pv cv W.drew := h.go (Below.refl _ _).drew
theorem RY.cells {w : World} {x : Ask} {sd : Nat → BitVec 8} {sm m1 B1 q1 : Nat} {v1 : Value} {m2 B2 q2 : Nat} {v2 : Value} {m3 B3 q3 : Nat} {v3 : Value} {tb : Nat} {s : Nat → BitVec 8} {yb rb : Nat} {pv : Option Addr} {cv : Nat} {W : World} (h : RY w x sd sm m1 B1 q1 v1 m2 B2 q2 v2 m3 B3 q3 v3 tb s yb rb pv cv W) :
    ((W.cell? ⟨w.heap.size, 0, none⟩ = some (.int .i64 x.what) ∧ W.cell? ⟨w.heap.size, 1, none⟩ = some (.slice x.kp x.kn x.kc) ∧ W.cell? ⟨w.heap.size, 2, none⟩ = some (.slice x.p x.m x.c) ∧ W.cell? ⟨w.heap.size, 3, none⟩ = some (.int .i64 x.k)) ∧ (W.cell? ⟨yb, 0, none⟩ = some (.int .i64 x.what) ∧ W.cell? ⟨yb, 1, none⟩ = some (.slice x.kp x.kn x.kc) ∧ W.cell? ⟨yb, 2, none⟩ = some (.slice (some ⟨rb, 0, none⟩) 2 2) ∧ W.cell? ⟨yb, 3, none⟩ = some (.int .i64 x.k))) ∧ BT W tb 32 s :=
  ⟨⟨row4 h.rt.box, row4 h.yx⟩, h.tg⟩
theorem RY.lies {w : World} {x : Ask} {sd : Nat → BitVec 8} {sm m1 B1 q1 : Nat} {v1 : Value} {m2 B2 q2 : Nat} {v2 : Value} {m3 B3 q3 : Nat} {v3 : Value} {tb : Nat} {s : Nat → BitVec 8} {yb rb : Nat} {pv : Option Addr} {cv : Nat} {W : World} (h : RY w x sd sm m1 B1 q1 v1 m2 B2 q2 v2 m3 B3 q3 v3 tb s yb rb pv cv W) (hl : x.lies W) (hc : pos x.ln x.m ≤ cv ∧ cv ≤ maxLen) : (x.one rb pv cv).lies W :=
  Ask.one_lies hl hc h.rd h.rows
theorem RY.start {w : World} {x : Ask} {sd : Nat → BitVec 8} {sm m1 B1 q1 : Nat} {v1 : Value} {m2 B2 q2 : Nat} {v2 : Value} {m3 B3 q3 : Nat} {v3 : Value} {tb : Nat} {s : Nat → BitVec 8} {yb : Nat} {p : Option Addr} {cv b0 : Nat} {w9 w11 : World} (h : RT w x sd sm m1 B1 q1 v1 m2 B2 q2 v2 m3 B3 q3 v3 w9) (ht : BT w9 tb 32 s) (hb : Below w9.heap.size w9 w11)
    (hy : w11.heap[yb]? = some (.cells #[.int .i64 x.what, .slice x.kp x.kn x.kc, .slice x.p x.m x.c, .int .i64 x.k] 38 (0, 0))) (ho : w11.ownsRow b0 5 1 (.slice p (pos x.ln x.m) cv) (pos x.ln x.m) (cellsOf x.all (pos x.ln x.m))) (hoff : ∀ q, (Value.slice p (pos x.ln x.m) cv).ownBlock = some q → yb < q) (hyb : yb = w9.heap.size) :
    RY w x sd sm m1 B1 q1 v1 m2 B2 q2 v2 m3 B3 q3 v3 tb s yb w11.heap.size p cv ((w11.setCell ⟨yb, 2, none⟩ (.slice (some ⟨w11.heap.size, 0, none⟩) 2 2)).alloc (.cells #[.slice p (pos x.ln x.m) cv, .slice none 0 0] 22)) := by
  have hz := (Array.getElem?_eq_some_iff.1 hy).1
  have g : Below w9.heap.size w9 ((w11.setCell ⟨yb, 2, none⟩ (.slice (some ⟨w11.heap.size, 0, none⟩) 2 2)).alloc (.cells #[.slice p (pos x.ln x.m) cv, .slice none 0 0] 22)) :=
    (hb.setCell (p := ⟨yb, 2, none⟩) (by show w9.heap.size ≤ yb; omega) _).alloc (by simp; exact hb.size) _
  refine ⟨h.go g, ht.below' g, ?_, ?_, ?_⟩
  · exact laid_old (Go.heap_setCell_same w11 yb 2 _ _ _ hy)
  · exact laid_at (by simp)
  · have h2 := (own_setCell ho ⟨yb, 2, none⟩ (.slice (some ⟨w11.heap.size, 0, none⟩) 2 2) (fun e => by have h3 : yb < yb := hoff _ e; omega)).alloc (.cells #[.slice p (pos x.ln x.m) cv, .slice none 0 0] 22)
    obtain ⟨p', c', he, hr, _, _⟩ := owns_reads h2
    cases he
    exact hr
theorem new_at {B : Nat} {w W : World} (_ : Below B w W) (o : Obj) : (W.alloc o).heap[W.heap.size]? = some o := laid_at rfl
theorem wraps_of {x1 sm y1 : Nat} (h1 : x1 ≤ 844424930107392) (h2 : sm ≤ 140737488351232) (h3 : y1 ≤ 844424930107392) (h : IntKind.i64.wrap (IntKind.i64.wrap ((x1 : Int) + sm) + y1) ≤ 400) : (x1 : Int) + sm + y1 ≤ 400 := by
  rw [IntWalk.i64_in ((x1 : Int) + sm) (by omega), IntWalk.i64_in _ (by omega)] at h
  exact h
theorem sizes_of {X : Nat → Ask} {x : Ask} {m sm x1 y1 : Nat} (h : (x1 : Int) + sm + y1 ≤ 400) (h1 : x1 ≤ 400 → x1 = m + totA X m) (h2 : y1 ≤ 400 → y1 = 1 + totA (fun _ => x) 1) : m + totA X m ≤ 400 ∧ sm ≤ 400 ∧ x.tot ≤ 400 := by
  have e1 := h1 (by omega)
  have e2 := h2 (by omega)
  have e3 : totA (fun _ => x) 1 = 0 + x.tot := rfl
  omega
end Go.Proofs.YtejknkgbkkdaiaaGreatDoor

namespace Go.Proofs.YtejknkgbkkdaiaaGreatDoor
open Go.RowKit
set_option linter.unusedVariables false
set_option linter.unusedSimpArgs false

theorem byL_same {f g : Nat → BitVec 8} {n : Nat} : byL f n = byL g n ↔ ∀ i, i < n → f i = g i := by
  constructor
  · intro h i hi
    have h1 := congrArg (·[i]?) h
    simp only [byL_get f n i hi, byL_get g n i hi] at h1
    have h2 := Option.some.inj h1
    have h3 := congrArg UInt8.toBitVec h2
    simpa using h3
  · exact byL_congr
theorem byL_unlike {f g : Nat → BitVec 8} {n m : Nat} (h : n ≠ m) : byL f n ≠ byL g m := fun e => h (by have := congrArg List.length e; rwa [byL_len, byL_len] at this)
theorem Ask.thing_eq {a b : Ask} : a.thing = b.thing ↔ a.what % 3 = b.what % 3 ∧ (a.what % 3 = 2 → a.k = b.k) ∧ (a.what % 3 ≠ 2 → byL a.all (pos a.ln a.m) = byL b.all (pos b.ln b.m) ∧ (a.what % 3 = 1 → byL a.key a.kn = byL b.key b.kn)) := by
  have ha : a.what % 3 = 0 ∨ a.what % 3 = 1 ∨ a.what % 3 = 2 := by omega
  have hb : b.what % 3 = 0 ∨ b.what % 3 = 1 ∨ b.what % 3 = 2 := by omega
  unfold Ask.thing
  rcases ha with h | h | h <;> rcases hb with g | g | g <;> simp [h, g]
  all_goals try exact And.comm
/-- what lies there while two asks are compared -/
structure AL (w : World) (a b : Ask) (W : World) : Prop where
  bel : Below w.heap.size w W
  ba : W.heap[w.heap.size]? = some (.cells #[.int .i64 a.what, .slice a.kp a.kn a.kc, .slice a.p a.m a.c, .int .i64 a.k] 38 (0, 0))
  bb : W.heap[w.heap.size + 1]? = some (.cells #[.int .i64 b.what, .slice b.kp b.kn b.kc, .slice b.p b.m b.c, .int .i64 b.k] 38 (0, 0))
theorem AL.go {w : World} {a b : Ask} {W W' : World} (h : AL w a b W) (g : Below W.heap.size W W') : AL w a b W' := ⟨h.bel.trans (g.mono h.bel.size), laid_go h.ba g, laid_go h.bb g⟩
theorem AL.cells {w : World} {a b : Ask} {W : World} (h : AL w a b W) :
    ((W.cell? ⟨w.heap.size, 0, none⟩ = some (.int .i64 a.what) ∧ W.cell? ⟨w.heap.size, 1, none⟩ = some (.slice a.kp a.kn a.kc) ∧ W.cell? ⟨w.heap.size, 2, none⟩ = some (.slice a.p a.m a.c) ∧ W.cell? ⟨w.heap.size, 3, none⟩ = some (.int .i64 a.k)) ∧
    (W.cell? ⟨w.heap.size + 1, 0, none⟩ = some (.int .i64 b.what) ∧ W.cell? ⟨w.heap.size + 1, 1, none⟩ = some (.slice b.kp b.kn b.kc) ∧ W.cell? ⟨w.heap.size + 1, 2, none⟩ = some (.slice b.p b.m b.c) ∧ W.cell? ⟨w.heap.size + 1, 3, none⟩ = some (.int .i64 b.k))) :=
  ⟨⟨by rw [cell_of_row W _ _ _ _ (0, 0) h.ba]; rfl, by rw [cell_of_row W _ _ _ _ (0, 0) h.ba]; rfl, by rw [cell_of_row W _ _ _ _ (0, 0) h.ba]; rfl, by rw [cell_of_row W _ _ _ _ (0, 0) h.ba]; rfl⟩,
   ⟨by rw [cell_of_row W _ _ _ _ (0, 0) h.bb]; rfl, by rw [cell_of_row W _ _ _ _ (0, 0) h.bb]; rfl, by rw [cell_of_row W _ _ _ _ (0, 0) h.bb]; rfl, by rw [cell_of_row W _ _ _ _ (0, 0) h.bb]; rfl⟩⟩
theorem q_bool {a b : Bool} (h : a = b) : Ending.returned (.bool a) = .returned (.bool b) := by rw [h]
end Go.Proofs.YtejknkgbkkdaiaaGreatDoor
