/-
  The walk of TagsReal.
-/
import Derived.Test.YtoocfkaclhgjeaaDoorViewAsk
import Derived.Deep.Cut
import Derived.Deep.CutRange
namespace Go.Proofs.YtoocfkaclhgjeaaDoor
open Go.RowKit
set_option linter.unusedVariables false
set_option linter.unusedSimpArgs false

theorem tot_le (X : Nat → Ask) (m i : Nat) (h : i < m) : (X i).tot ≤ totA X m := by
  induction m with
  | zero => omega
  | succ m ih =>
    by_cases e : i = m
    · subst e; show _ ≤ totA X i + (X i).tot; omega
    · have := ih (by omega); show _ ≤ totA X m + (X m).tot; omega
theorem Ask.there.lies {x : Ask} {w : World} (h : x.there w) (ht : x.tot ≤ 400) : x.lies w :=
  ⟨h.key, h.kz, by unfold Ask.tot at ht; omega, h.rows, h.mc.1, by unfold Ask.tot at ht; omega, by unfold Ask.tot at ht; omega, h.k⟩
theorem Ask.there.small {x : Ask} {w : World} (h : x.there w) (ht : x.tot ≤ 400) : x.small :=
  ⟨h.kc, by unfold Ask.tot at ht; omega, h.mc.2, by unfold Ask.tot at ht; omega⟩
theorem Ask.fits.mono {x : Ask} {B B' : Nat} {w : World} (h : x.fits B w) (hB : B ≤ B') : x.fits B' w := ⟨h.kn, h.m, h.ln, h.rows.mono hB⟩
/-- an ask alone, as a row -/
theorem one_ask {W : World} {q : Nat} {x : Ask} (h : W.heap[q]? = some (.cells #[.int .i64 x.what, .slice x.kp x.kn x.kc, .slice x.p x.m x.c, .int .i64 x.k] 26 (0, 0))) :
    AskRow W.heap.size W (some ⟨q, 0, none⟩) 1 (fun _ => x) := by
  refine .inr ⟨q, 0, rfl, (Array.getElem?_eq_some_iff.1 h).1, fun i hi => ?_⟩
  obtain rfl : i = 0 := by omega
  exact ⟨by rw [cell_of_row W q _ _ _ (0, 0) h]; rfl, by rw [cell_of_row W q _ _ _ (0, 0) h]; rfl, by rw [cell_of_row W q _ _ _ (0, 0) h]; rfl, by rw [cell_of_row W q _ _ _ (0, 0) h]; rfl⟩
/-- a real maker that has a seed of its own -/
structure MK (W : World) (mb B b0 : Nat) (v : Value) (sd : Nat → BitVec 8) (sm : Nat) : Prop where
  mr : MB W mb B true v
  bk : BK W B []
  own : W.ownsRow b0 5 1 v sm ((List.range sm).map (fun j => .int .u8 (ub (sd j))))
theorem MK.go {W W' : World} {mb B b0 : Nat} {v : Value} {sd : Nat → BitVec 8} {sm : Nat} (h : MK W mb B b0 v sd sm) (g : Below W.heap.size W W') : MK W' mb B b0 v sd sm :=
  ⟨h.mr.below g, h.bk.below g, owns_below h.own g⟩
theorem MK.told {W : World} {mb B b0 : Nat} {v : Value} {sd : Nat → BitVec 8} {sm : Nat} (h : MK W mb B b0 v sd sm) {B0 : Nat} (hk : Kc B0 W) (hB : B0 ≤ W.heap.size) (hsm : sm ≤ 400) (y : Ask) (hl : y.lies W) (hs : y.small) :
    Calls Tryd.prog 8 #[.pointer (some ⟨mb, 0, none⟩), y.val] W fun e w' => e = .returned (tagV (y.real sd sm)) ∧ Below W.heap.size W w' := by
  obtain ⟨q, c, rfl, hr, h1, h2⟩ := owns_reads h.own
  exact toldR_any W mb B q sm c h.mr B0 hk hB sd hr (by omega) h1 h2 y hl hs
theorem below_al (w : World) (o : Obj) : Below w.heap.size w (w.alloc o) := (Below.refl _ _).alloc (Nat.le_refl _) _
/-- what stays while the law goes on -/
structure RT (w : World) (x : Ask) (sd : Nat → BitVec 8) (sm m1 B1 q1 : Nat) (v1 : Value) (m2 B2 q2 : Nat) (v2 : Value) (m3 B3 q3 : Nat) (v3 : Value) (W : World) : Prop where
  bel : Below w.heap.size w W
  box : W.heap[w.heap.size]? = some (.cells #[.int .i64 x.what, .slice x.kp x.kn x.kc, .slice x.p x.m x.c, .int .i64 x.k] 26 (0, 0))
  k1 : MK W m1 B1 q1 v1 sd sm
  k2 : MK W m2 B2 q2 v2 sd sm
  k3 : MK W m3 B3 q3 v3 (fun _ => 0#8) 0
theorem RT.go {w : World} {x : Ask} {sd : Nat → BitVec 8} {sm m1 B1 q1 : Nat} {v1 : Value} {m2 B2 q2 : Nat} {v2 : Value} {m3 B3 q3 : Nat} {v3 : Value} {W W' : World} (h : RT w x sd sm m1 B1 q1 v1 m2 B2 q2 v2 m3 B3 q3 v3 W) (g : Below W.heap.size W W') : RT w x sd sm m1 B1 q1 v1 m2 B2 q2 v2 m3 B3 q3 v3 W' :=
  ⟨h.bel.trans (g.mono h.bel.size), laid_go h.box g, h.k1.go g, h.k2.go g, h.k3.go g⟩
/-- the same bytes, in one row, and none behind it -/
noncomputable def Ask.one (x : Ask) (rb : Nat) (pv : Option Addr) (cv : Nat) : Ask :=
  ⟨x.what, x.kp, x.kn, x.kc, x.key, some ⟨rb, 0, none⟩, 2, 2, fun i => if i = 0 then pv else none, fun i => if i = 0 then pos x.ln x.m else 0, fun i => if i = 0 then cv else 0, fun i j => if i = 0 then x.all j else 0#8, x.k⟩
theorem Ask.one_pos (x : Ask) (rb : Nat) (pv : Option Addr) (cv : Nat) : pos (x.one rb pv cv).ln (x.one rb pv cv).m = pos x.ln x.m := by
  show 0 + pos x.ln x.m + 0 = _
  omega
theorem Ask.one_lies {x : Ask} {W : World} {rb : Nat} {pv : Option Addr} {cv : Nat} (h : x.lies W) (hc : pos x.ln x.m ≤ cv ∧ cv ≤ maxLen) (hp : Reads W.heap.size W pv (pos x.ln x.m) (fun j => .int .u8 (ub (x.all j)))) (hr : W.heap[rb]? = some (.cells #[.slice pv (pos x.ln x.m) cv, .slice none 0 0] 23 (0, 0))) :
    (x.one rb pv cv).lies W := by
  refine ⟨h.key, h.kz, h.kn, ⟨.inr ⟨rb, 0, rfl, (Array.getElem?_eq_some_iff.1 hr).1, fun i hi => ?_⟩, fun i hi => ?_, fun i hi => ?_⟩, Nat.le_refl _, by show 2 ≤ _; omega, by rw [Ask.one_pos]; exact h.n, h.k⟩
  · have hi2 : i < 2 := hi
    rw [cell_of_row W rb _ _ _ (0, 0) hr]
    match i, hi2 with
    | 0, _ => rfl
    | 1, _ => rfl
  · have hi2 : i < 2 := hi
    match i, hi2 with
    | 0, _ => exact hc
    | 1, _ => exact ⟨Nat.le_refl _, by unfold maxLen; show 0 ≤ _; omega⟩
  · have hi2 : i < 2 := hi
    match i, hi2 with
    | 0, _ => exact hp
    | 1, _ => exact .inl rfl
theorem Ask.one_small {x : Ask} {rb : Nat} {pv : Option Addr} {cv : Nat} (h : x.small) : (x.one rb pv cv).small :=
  ⟨h.kc, h.kn, by show 2 ≤ _; unfold maxLen; omega, by rw [Ask.one_pos]; exact h.n⟩
theorem Ask.one_real (x : Ask) (rb : Nat) (pv : Option Addr) (cv : Nat) (sd : Nat → BitVec 8) (sm : Nat) : (x.one rb pv cv).real sd sm = x.real sd sm :=
  Ask.real_same x _ sd sd sm sm rfl rfl rfl rfl (x.one_pos rb pv cv) (fun i hi => by
    have h := (x.one rb pv cv).all_at 0 (by show 0 < 2; omega) i hi
    rw [show pos (x.one rb pv cv).ln 0 = 0 from rfl, Nat.zero_add] at h
    exact h.symm) (fun _ => ⟨rfl, fun _ _ => rfl⟩)
theorem tag_load' {S : World → Prop} {ops : Array Oper} {o : Oper} {ac : Act} {x : Operand} {T : Nat} {s : Nat → BitVec 8} (hS : ∀ w, S w → BT w T 32 s) (h1 : Region.wanted o (yielded ops ac.tmps) = true) (h2 : o.op = .load 33 x) (h3 : ac.eval x = .pointer (some ⟨T, 0, none⟩)) : YieldsIf Tryd.prog ops S o (tagV s) ac :=
  yieldsIf_load_mid h1 33 x h2 T 0 h3 (tagC s) _ (fun w' hw' => (hS w' hw').range) Tryd.underlying33 rfl (by simp [infoTag, tagC_len])
theorem row4 {W : World} {H : Nat} {a b c d : Value} {t : TypeId} (h : W.heap[H]? = some (.cells #[a, b, c, d] t (0, 0))) :
    W.cell? ⟨H, 0, none⟩ = some a ∧ W.cell? ⟨H, 1, none⟩ = some b ∧ W.cell? ⟨H, 2, none⟩ = some c ∧ W.cell? ⟨H, 3, none⟩ = some d :=
  ⟨by rw [cell_of_row W H 0 _ _ (0, 0) h]; rfl, by rw [cell_of_row W H 1 _ _ (0, 0) h]; rfl, by rw [cell_of_row W H 2 _ _ (0, 0) h]; rfl, by rw [cell_of_row W H 3 _ _ (0, 0) h]; rfl⟩
theorem MK.copy {W : World} {mb B b0 : Nat} {v : Value} {sd : Nat → BitVec 8} {sm : Nat} (h : MK W mb B b0 v sd sm) (hsm : sm ≤ 400) :
    Calls Tryd.prog 13 #[.pointer (some ⟨mb, 0, none⟩)] W fun e w' => ∃ m4 B4 q4 v4, e = .returned (.pointer (some ⟨m4, 0, none⟩)) ∧ Below W.heap.size W w' ∧ MK w' m4 B4 q4 v4 sd sm := by
  obtain ⟨q, c, hv, hr, h1, h2⟩ := owns_reads h.own
  have hq : q = none → sm = 0 := fun e => by
    rcases hr with h0 | ⟨b, off, he, _⟩
    · exact h0
    · rw [e] at he; cases he
  have hm := h.mr
  rw [hv] at hm
  refine (copyR_any W mb B [] q sm c sd hm h.bk hq (by omega) hr).mono ?_
  rintro e w' ⟨m4, B4, v4, q4, rfl, _, _, _, hb, hmm, hkk, hoo⟩
  exact ⟨m4, B4, q4, v4, rfl, hb, hmm, hkk, hoo⟩
/-- what stays in the last line -/
structure RY (w : World) (x : Ask) (sd : Nat → BitVec 8) (sm m1 B1 q1 : Nat) (v1 : Value) (m2 B2 q2 : Nat) (v2 : Value) (m3 B3 q3 : Nat) (v3 : Value) (tb : Nat) (s : Nat → BitVec 8) (yb rb : Nat) (pv : Option Addr) (cv : Nat) (W : World) : Prop where
  rt : RT w x sd sm m1 B1 q1 v1 m2 B2 q2 v2 m3 B3 q3 v3 W
  tg : BT W tb 32 s
  yx : W.heap[yb]? = some (.cells #[.int .i64 x.what, .slice x.kp x.kn x.kc, .slice (some ⟨rb, 0, none⟩) 2 2, .int .i64 x.k] 26 (0, 0))
  rows : W.heap[rb]? = some (.cells #[.slice pv (pos x.ln x.m) cv, .slice none 0 0] 23 (0, 0))
  rd : Reads W.heap.size W pv (pos x.ln x.m) (fun j => .int .u8 (ub (x.all j)))
theorem RY.go {w : World} {x : Ask} {sd : Nat → BitVec 8} {sm m1 B1 q1 : Nat} {v1 : Value} {m2 B2 q2 : Nat} {v2 : Value} {m3 B3 q3 : Nat} {v3 : Value} {tb : Nat} {s : Nat → BitVec 8} {yb rb : Nat} {pv : Option Addr} {cv : Nat} {W W' : World} (h : RY w x sd sm m1 B1 q1 v1 m2 B2 q2 v2 m3 B3 q3 v3 tb s yb rb pv cv W) (g : Below W.heap.size W W') :
    RY w x sd sm m1 B1 q1 v1 m2 B2 q2 v2 m3 B3 q3 v3 tb s yb rb pv cv W' :=
  ⟨h.rt.go g, h.tg.below' g, laid_go h.yx g, laid_go h.rows g, (h.rd.below g).mono g.size⟩
theorem RY.drew {w : World} {x : Ask} {sd : Nat → BitVec 8} {sm m1 B1 q1 : Nat} {v1 : Value} {m2 B2 q2 : Nat} {v2 : Value} {m3 B3 q3 : Nat} {v3 : Value} {tb : Nat} {s : Nat → BitVec 8} {yb rb : Nat} {pv : Option Addr} {cv : Nat} {W : World} (h : RY w x sd sm m1 B1 q1 v1 m2 B2 q2 v2 m3 B3 q3 v3 tb s yb rb pv cv W) :
    RY w x sd sm m1 B1 q1 v1 m2 B2 q2 v2 m3 B3 q3 v3 tb s yb rb pv cv W.drew := h.go (Below.refl _ _).drew
theorem RY.cells {w : World} {x : Ask} {sd : Nat → BitVec 8} {sm m1 B1 q1 : Nat} {v1 : Value} {m2 B2 q2 : Nat} {v2 : Value} {m3 B3 q3 : Nat} {v3 : Value} {tb : Nat} {s : Nat → BitVec 8} {yb rb : Nat} {pv : Option Addr} {cv : Nat} {W : World} (h : RY w x sd sm m1 B1 q1 v1 m2 B2 q2 v2 m3 B3 q3 v3 tb s yb rb pv cv W) :
    ((W.cell? ⟨w.heap.size, 0, none⟩ = some (.int .i64 x.what) ∧ W.cell? ⟨w.heap.size, 1, none⟩ = some (.slice x.kp x.kn x.kc) ∧ W.cell? ⟨w.heap.size, 2, none⟩ = some (.slice x.p x.m x.c) ∧ W.cell? ⟨w.heap.size, 3, none⟩ = some (.int .i64 x.k)) ∧ (W.cell? ⟨yb, 0, none⟩ = some (.int .i64 x.what) ∧ W.cell? ⟨yb, 1, none⟩ = some (.slice x.kp x.kn x.kc) ∧ W.cell? ⟨yb, 2, none⟩ = some (.slice (some ⟨rb, 0, none⟩) 2 2) ∧ W.cell? ⟨yb, 3, none⟩ = some (.int .i64 x.k))) ∧ BT W tb 32 s :=
  ⟨⟨row4 h.rt.box, row4 h.yx⟩, h.tg⟩
theorem RY.lies {w : World} {x : Ask} {sd : Nat → BitVec 8} {sm m1 B1 q1 : Nat} {v1 : Value} {m2 B2 q2 : Nat} {v2 : Value} {m3 B3 q3 : Nat} {v3 : Value} {tb : Nat} {s : Nat → BitVec 8} {yb rb : Nat} {pv : Option Addr} {cv : Nat} {W : World} (h : RY w x sd sm m1 B1 q1 v1 m2 B2 q2 v2 m3 B3 q3 v3 tb s yb rb pv cv W) (hl : x.lies W) (hc : pos x.ln x.m ≤ cv ∧ cv ≤ maxLen) : (x.one rb pv cv).lies W :=
  Ask.one_lies hl hc h.rd h.rows
theorem RY.start {w : World} {x : Ask} {sd : Nat → BitVec 8} {sm m1 B1 q1 : Nat} {v1 : Value} {m2 B2 q2 : Nat} {v2 : Value} {m3 B3 q3 : Nat} {v3 : Value} {tb : Nat} {s : Nat → BitVec 8} {yb : Nat} {p : Option Addr} {cv b0 : Nat} {w9 w11 : World} (h : RT w x sd sm m1 B1 q1 v1 m2 B2 q2 v2 m3 B3 q3 v3 w9) (ht : BT w9 tb 32 s) (hb : Below w9.heap.size w9 w11)
    (hy : w11.heap[yb]? = some (.cells #[.int .i64 x.what, .slice x.kp x.kn x.kc, .slice x.p x.m x.c, .int .i64 x.k] 26 (0, 0))) (ho : w11.ownsRow b0 5 1 (.slice p (pos x.ln x.m) cv) (pos x.ln x.m) (cellsOf x.all (pos x.ln x.m))) (hoff : ∀ q, (Value.slice p (pos x.ln x.m) cv).ownBlock = some q → yb < q) (hyb : yb = w9.heap.size) :
    RY w x sd sm m1 B1 q1 v1 m2 B2 q2 v2 m3 B3 q3 v3 tb s yb w11.heap.size p cv ((w11.setCell ⟨yb, 2, none⟩ (.slice (some ⟨w11.heap.size, 0, none⟩) 2 2)).alloc (.cells #[.slice p (pos x.ln x.m) cv, .slice none 0 0] 23)) := by
  have hz := (Array.getElem?_eq_some_iff.1 hy).1
  have g : Below w9.heap.size w9 ((w11.setCell ⟨yb, 2, none⟩ (.slice (some ⟨w11.heap.size, 0, none⟩) 2 2)).alloc (.cells #[.slice p (pos x.ln x.m) cv, .slice none 0 0] 23)) :=
    (hb.setCell (p := ⟨yb, 2, none⟩) (by show w9.heap.size ≤ yb; omega) _).alloc (by simp; exact hb.size) _
  refine ⟨h.go g, ht.below' g, ?_, ?_, ?_⟩
  · exact laid_old (Go.heap_setCell_same w11 yb 2 _ _ _ hy)
  · exact laid_at (by simp)
  · have h2 := (own_setCell ho ⟨yb, 2, none⟩ (.slice (some ⟨w11.heap.size, 0, none⟩) 2 2) (fun e => by have h3 : yb < yb := hoff _ e; omega)).alloc (.cells #[.slice p (pos x.ln x.m) cv, .slice none 0 0] 23)
    obtain ⟨p', c', he, hr, _, _⟩ := owns_reads h2
    cases he
    exact hr
theorem new_at {B : Nat} {w W : World} (_ : Below B w W) (o : Obj) : (W.alloc o).heap[W.heap.size]? = some o := laid_at rfl
theorem wraps_of {x1 sm y1 : Nat} (h1 : x1 ≤ 844424930107392) (h2 : sm ≤ 140737488351232) (h3 : y1 ≤ 844424930107392) (h : IntKind.i64.wrap (IntKind.i64.wrap ((x1 : Int) + sm) + y1) ≤ 400) : (x1 : Int) + sm + y1 ≤ 400 := by
  rw [IntWalk.i64_in ((x1 : Int) + sm) (by omega), IntWalk.i64_in _ (by omega)] at h
  exact h
theorem sizes_of {X : Nat → Ask} {x : Ask} {m sm x1 y1 : Nat} (h : (x1 : Int) + sm + y1 ≤ 400) (h1 : x1 ≤ 400 → x1 = m + totA X m) (h2 : y1 ≤ 400 → y1 = 1 + totA (fun _ => x) 1) : m + totA X m ≤ 400 ∧ sm ≤ 400 ∧ x.tot ≤ 400 := by
  have e1 := h1 (by omega)
  have e2 := h2 (by omega)
  have e3 : totA (fun _ => x) 1 = 0 + x.tot := rfl
  omega
set_option maxHeartbeats 4000000 in
set_option maxRecDepth 100000 in
theorem tagsReal_walk (p : Option Addr) (m c : Nat) (X : Nat → Ask) (sp : Option Addr) (sm sc : Nat) (sd : Nat → BitVec 8) (x : Ask) (w : World) (hk : Kc w.heap.size w) (hm : m ≤ 5864062014634) (hr : AskRow w.heap.size w p m X) (hX : ∀ i, i < m → (X i).there w)
    (hsr : Reads w.heap.size w sp sm (fun j => .int .u8 (ub (sd j)))) (hsc : sm ≤ sc) (hscm : sc ≤ 140737488351232) (hsz : sp = none → sc = 0) (hx : x.there w) :
    Calls Tryd.prog 4 #[.slice p m c, .slice sp sm sc, x.val] w fun e w' => e = .returned (.bool true) ∧ Below w.heap.size w w' := by
  have HK := Lib.hid hk
  have HR := Lib.hid hr
  have HX := Lib.hid hX
  have HSR := Lib.hid hsr
  have HXX := Lib.hid hx
  have HSZ := Lib.hid hsz
  clear hk hr hX hsr hx hsz
  unfold Ask.val
  go_enter Tryd.func4, Tryd.ntmps4
  have HBX := Lib.hid (laid_at (W := w) (o := .cells #[.int .i64 x.what, .slice x.kp x.kn x.kc, .slice x.p x.m x.c, .int .i64 x.k] 26) rfl)
  have HB := Lib.hid ((Below.refl w.heap.size w).alloc (Nat.le_refl _) (.cells #[.int .i64 x.what, .slice x.kp x.kn x.kc, .slice x.p x.m x.c, .int .i64 x.k] 26))
  go_upto_region 1 with (fail)
  generalize w.alloc (.cells #[.int .i64 x.what, .slice x.kp x.kn x.kc, .slice x.p x.m x.c, .int .i64 x.k] 26) = V at HBX HB ⊢
  go_wp2_with fail
  refine (awake4 _).mono ?_
  rintro e w1 ⟨rfl, hb1⟩
  replace HBX := Lib.hid (laid_go HBX.out hb1)
  replace HB := Lib.hid (HB.out.trans (hb1.mono HB.out.size))
  clear hb1
  go_upto_region 3 with (fail)
  have hsm2 : sm ≤ 140737488351232 := by omega
  go_cut [24] from 15 to 24 (fun t wx => ∃ bb : Bool, t = .bool bb ∧ (bb = false → m + totA X m ≤ 400 ∧ sm ≤ 400 ∧ x.tot ≤ 400) ∧ Below w.heap.size w wx ∧ wx.heap[w.heap.size]? = some (.cells #[.int .i64 x.what, .slice x.kp x.kn x.kc, .slice x.p x.m x.c, .int .i64 x.k] 26 (0, 0)))
  case first =>
    refine wp_region_noPanic ?_
    refine wp_region_start (n := 10) (l := #[false, false, false, false, false, false, false, false, false, false]) (S := (fun W => W.cell? ⟨w.heap.size, 0, none⟩ = some (.int .i64 x.what) ∧ W.cell? ⟨w.heap.size, 1, none⟩ = some (.slice x.kp x.kn x.kc) ∧ W.cell? ⟨w.heap.size, 2, none⟩ = some (.slice x.p x.m x.c) ∧ W.cell? ⟨w.heap.size, 3, none⟩ = some (.int .i64 x.k))) (by kernel_rfl) rfl (by kernel_rfl) (by exact row4 HBX.out) (fun hHeld => ?_)
    replace HBX := Lib.hid (show w1.drew.heap[w.heap.size]? = some (.cells #[.int .i64 x.what, .slice x.kp x.kn x.kc, .slice x.p x.m x.c, .int .i64 x.k] 26 (0, 0)) from HBX.out)
    replace HB := Lib.hid HB.out.drew
    generalize w1.drew = V' at hHeld HBX HB ⊢
    refine take_to (i := 0) (d := some 15) (v := ?_) (l' := #[true, false, false, false, false, false, false, false, false, false]) rfl rfl (by kernel_rfl) (by kernel_rfl) (by kernel_rfl) (by kernel_rfl) (fun _ _ _ h => h) (Or.inl ⟨by rfl, ?_⟩) (by assumption) ?_; rotate_left; · (intro w' hSw; (try dsimp only at hSw); go_simp; (try with_reducible rfl))
    try simp only [Act.put, List.setIfInBounds_toArray, List.set_cons_zero, List.set_cons_succ]
    refine take_to (i := 2) (d := some 17) (v := ?_) (l' := #[true, false, true, false, false, false, false, false, false, false]) rfl rfl (by kernel_rfl) (by kernel_rfl) (by kernel_rfl) (by kernel_rfl) (fun _ _ _ h => h) (Or.inl ⟨by rfl, ?_⟩) (by assumption) ?_; rotate_left; · (intro w' hSw; (try dsimp only at hSw); go_simp; (try with_reducible rfl))
    try simp only [Act.put, List.setIfInBounds_toArray, List.set_cons_zero, List.set_cons_succ]
    refine take_to (i := 3) (d := some 18) (v := ?_) (l' := #[true, false, true, true, false, false, false, false, false, false]) rfl rfl (by kernel_rfl) (by kernel_rfl) (by kernel_rfl) (by kernel_rfl) (fun _ _ _ h => h) (Or.inl ⟨by rfl, ?_⟩) (by assumption) ?_; rotate_left; · (intro w' hSw; (try dsimp only at hSw); go_simp; (try with_reducible rfl))
    try simp only [Act.put, List.setIfInBounds_toArray, List.set_cons_zero, List.set_cons_succ]
    refine take_to (i := 5) (d := some 20) (v := ?_) (l' := #[true, false, true, true, false, true, false, false, false, false]) rfl rfl (by kernel_rfl) (by kernel_rfl) (by kernel_rfl) (by kernel_rfl) (fun _ _ _ h => h) (Or.inl ⟨by rfl, ?_⟩) (by assumption) ?_; rotate_left; · (intro w' hSw; (try dsimp only at hSw); go_simp; (try with_reducible rfl))
    try simp only [Act.put, List.setIfInBounds_toArray, List.set_cons_zero, List.set_cons_succ]
    refine two_to (i := 1) (j := 6) (l1 := #[true, true, true, true, false, true, false, false, false, false]) (l2 := #[true, false, true, true, false, true, true, false, false, false]) rfl rfl (by kernel_rfl) (by kernel_rfl) (by kernel_rfl) (fun K hK => ?_) (fun K hK => ?_)
    · skip
      go_simp
      refine (size04_any _ p m c X hm ((HR.out.below HB.out).mono HB.out.size) (fun i hi => ((HX.out i hi).fits.below HB.out).mono HB.out.size)).mono ?_
      rintro e w2 ⟨x1, rfl, hs1, hs1b, hb2⟩
      have HS1 := Lib.hid hs1
      replace HBX := Lib.hid (laid_go HBX.out hb2)
      try replace HQ := Lib.hid (laid_go HQ.out hb2)
      replace HB := Lib.hid (HB.out.trans (hb2.mono HB.out.size))
      clear hb2 hs1
      dsimp only
      refine hK.out _ _ (by exact row4 HBX.out) (fun hHeld => ?_)
      clear hK K
      try simp only [Act.put, List.setIfInBounds_toArray, List.set_cons_zero, List.set_cons_succ]
      refine take_to (i := 4) (d := some 19) (v := ?_) (l' := #[true, true, true, true, true, true, false, false, false, false]) rfl rfl (by kernel_rfl) (by kernel_rfl) (by kernel_rfl) (by kernel_rfl) (fun _ _ _ h => h) (Or.inl ⟨by rfl, ?_⟩) (by assumption) ?_; rotate_left; · (intro w' hSw; (try dsimp only at hSw); go_simp; (try with_reducible rfl))
      try simp only [Act.put, List.setIfInBounds_toArray, List.set_cons_zero, List.set_cons_succ]
      refine one_to (i := 6) (l' := #[true, true, true, true, true, true, true, false, false, false]) rfl (by kernel_rfl) (by kernel_rfl) (fun K hK => ?_)
      go_simp
      have HQ := Lib.hid (new_at HB.out (.cells #[.int .i64 x.what, .slice x.kp x.kn x.kc, .slice x.p x.m x.c, .int .i64 x.k] 26))
      replace HBX := Lib.hid (laid_old (o := .cells #[.int .i64 x.what, .slice x.kp x.kn x.kc, .slice x.p x.m x.c, .int .i64 x.k] 26) HBX.out)
      replace HB := Lib.hid (HB.out.alloc HB.out.size (.cells #[.int .i64 x.what, .slice x.kp x.kn x.kc, .slice x.p x.m x.c, .int .i64 x.k] 26))
      refine hK.out _ _ (by exact row4 HBX.out) (fun hHeld => ?_)
      clear hK K
      try simp only [Act.put, List.setIfInBounds_toArray, List.set_cons_zero, List.set_cons_succ]
      refine one_to (i := 7) (l' := #[true, true, true, true, true, true, true, true, false, false]) rfl (by kernel_rfl) (by kernel_rfl) (fun K hK => ?_)
      go_simp
      refine (size04_any _ _ 1 1 (fun _ => x) (by omega) (one_ask HQ.out) (fun _ _ => (HXX.out.fits.below HB.out).mono HB.out.size)).mono ?_
      rintro e w3 ⟨y1, rfl, hs2, hs2b, hb3⟩
      have HS2 := Lib.hid hs2
      replace HBX := Lib.hid (laid_go HBX.out hb3)
      replace HB := Lib.hid (HB.out.trans (hb3.mono HB.out.size))
      clear hb3 hs2 HQ
      dsimp only
      refine hK.out _ _ (by exact row4 HBX.out) (fun hHeld => ?_)
      clear hK K
      try simp only [Act.put, List.setIfInBounds_toArray, List.set_cons_zero, List.set_cons_succ]
      refine take_to (i := 8) (d := some 23) (v := ?_) (l' := #[true, true, true, true, true, true, true, true, true, false]) rfl rfl (by kernel_rfl) (by kernel_rfl) (by kernel_rfl) (by kernel_rfl) (fun _ _ _ h => h) (Or.inl ⟨by rfl, ?_⟩) (by assumption) ?_; rotate_left; · (intro w' hSw; (try dsimp only at hSw); go_simp; (try with_reducible rfl))
      try simp only [Act.put, List.setIfInBounds_toArray, List.set_cons_zero, List.set_cons_succ]
      refine take_to (i := 9) (d := some 24) (v := ?_) (l' := #[true, true, true, true, true, true, true, true, true, true]) rfl rfl (by kernel_rfl) (by kernel_rfl) (by kernel_rfl) (by kernel_rfl) (fun _ _ _ h => h) (Or.inl ⟨by rfl, ?_⟩) (by assumption) ?_; rotate_left; · (intro w' hSw; (try dsimp only at hSw); go_simp; (try with_reducible rfl))
      try simp only [Act.put, List.setIfInBounds_toArray, List.set_cons_zero, List.set_cons_succ]
      refine wpAnyH_done (by kernel_rfl) ?_ _
      refine NoPanic.normal ?_
      clear hHeld
      go_wp2_with fail
      go_meet
      exact ⟨_, rfl, fun h => sizes_of (wraps_of hs1b hsm2 hs2b (by simpa using h)) HS1.out HS2.out, HB.out, HBX.out⟩
    · skip
      go_simp
      have HQ := Lib.hid (new_at HB.out (.cells #[.int .i64 x.what, .slice x.kp x.kn x.kc, .slice x.p x.m x.c, .int .i64 x.k] 26))
      replace HBX := Lib.hid (laid_old (o := .cells #[.int .i64 x.what, .slice x.kp x.kn x.kc, .slice x.p x.m x.c, .int .i64 x.k] 26) HBX.out)
      replace HB := Lib.hid (HB.out.alloc HB.out.size (.cells #[.int .i64 x.what, .slice x.kp x.kn x.kc, .slice x.p x.m x.c, .int .i64 x.k] 26))
      refine hK.out _ _ (by exact row4 HBX.out) (fun hHeld => ?_)
      clear hK K
      try simp only [Act.put, List.setIfInBounds_toArray, List.set_cons_zero, List.set_cons_succ]
      refine one_to (i := 1) (l' := #[true, true, true, true, false, true, true, false, false, false]) rfl (by kernel_rfl) (by kernel_rfl) (fun K hK => ?_)
      go_simp
      refine (size04_any _ p m c X hm ((HR.out.below HB.out).mono HB.out.size) (fun i hi => ((HX.out i hi).fits.below HB.out).mono HB.out.size)).mono ?_
      rintro e w2 ⟨x1, rfl, hs1, hs1b, hb2⟩
      have HS1 := Lib.hid hs1
      replace HBX := Lib.hid (laid_go HBX.out hb2)
      try replace HQ := Lib.hid (laid_go HQ.out hb2)
      replace HB := Lib.hid (HB.out.trans (hb2.mono HB.out.size))
      clear hb2 hs1
      dsimp only
      refine hK.out _ _ (by exact row4 HBX.out) (fun hHeld => ?_)
      clear hK K
      try simp only [Act.put, List.setIfInBounds_toArray, List.set_cons_zero, List.set_cons_succ]
      refine take_to (i := 4) (d := some 19) (v := ?_) (l' := #[true, true, true, true, true, true, true, false, false, false]) rfl rfl (by kernel_rfl) (by kernel_rfl) (by kernel_rfl) (by kernel_rfl) (fun _ _ _ h => h) (Or.inl ⟨by rfl, ?_⟩) (by assumption) ?_; rotate_left; · (intro w' hSw; (try dsimp only at hSw); go_simp; (try with_reducible rfl))
      try simp only [Act.put, List.setIfInBounds_toArray, List.set_cons_zero, List.set_cons_succ]
      refine one_to (i := 7) (l' := #[true, true, true, true, true, true, true, true, false, false]) rfl (by kernel_rfl) (by kernel_rfl) (fun K hK => ?_)
      go_simp
      refine (size04_any _ _ 1 1 (fun _ => x) (by omega) (one_ask HQ.out) (fun _ _ => (HXX.out.fits.below HB.out).mono HB.out.size)).mono ?_
      rintro e w3 ⟨y1, rfl, hs2, hs2b, hb3⟩
      have HS2 := Lib.hid hs2
      replace HBX := Lib.hid (laid_go HBX.out hb3)
      replace HB := Lib.hid (HB.out.trans (hb3.mono HB.out.size))
      clear hb3 hs2 HQ
      dsimp only
      refine hK.out _ _ (by exact row4 HBX.out) (fun hHeld => ?_)
      clear hK K
      try simp only [Act.put, List.setIfInBounds_toArray, List.set_cons_zero, List.set_cons_succ]
      refine take_to (i := 8) (d := some 23) (v := ?_) (l' := #[true, true, true, true, true, true, true, true, true, false]) rfl rfl (by kernel_rfl) (by kernel_rfl) (by kernel_rfl) (by kernel_rfl) (fun _ _ _ h => h) (Or.inl ⟨by rfl, ?_⟩) (by assumption) ?_; rotate_left; · (intro w' hSw; (try dsimp only at hSw); go_simp; (try with_reducible rfl))
      try simp only [Act.put, List.setIfInBounds_toArray, List.set_cons_zero, List.set_cons_succ]
      refine take_to (i := 9) (d := some 24) (v := ?_) (l' := #[true, true, true, true, true, true, true, true, true, true]) rfl rfl (by kernel_rfl) (by kernel_rfl) (by kernel_rfl) (by kernel_rfl) (fun _ _ _ h => h) (Or.inl ⟨by rfl, ?_⟩) (by assumption) ?_; rotate_left; · (intro w' hSw; (try dsimp only at hSw); go_simp; (try with_reducible rfl))
      try simp only [Act.put, List.setIfInBounds_toArray, List.set_cons_zero, List.set_cons_succ]
      refine wpAnyH_done (by kernel_rfl) ?_ _
      refine NoPanic.normal ?_
      clear hHeld
      go_wp2_with fail
      go_meet
      exact ⟨_, rfl, fun h => sizes_of (wraps_of hs1b hsm2 hs2b (by simpa using h)) HS1.out HS2.out, HB.out, HBX.out⟩
  case rest =>
    obtain ⟨bb, rfl, hbb, hB1, hbx1⟩ := hcut
    clear HB HBX
    cases bb
    · obtain ⟨s1, s2, s3⟩ := hbb rfl
      have HB := Lib.hid hB1
      have HBX := Lib.hid hbx1
      clear hbb hB1 hbx1
      go_wp2_with fail
      refine (newR_any _ sp sm sc sd (fun e => by have := HSZ.out e; omega) (by omega) ((HSR.out.below HB.out).mono HB.out.size)).mono ?_
      rintro e w4 ⟨m1, B1, v1, q1, rfl, _, _, _, hb4, hm1, hk1, ho1⟩
      have HM1 := Lib.hid (MK.mk (sd := sd) hm1 hk1 ho1)
      replace HBX := Lib.hid (laid_go HBX.out hb4)
      replace HB := Lib.hid (HB.out.trans (hb4.mono HB.out.size))
      clear hb4 hm1 hk1 ho1
      go_wp2_with fail
      refine (newR_any _ sp sm sc sd (fun e => by have := HSZ.out e; omega) (by omega) ((HSR.out.below HB.out).mono HB.out.size)).mono ?_
      rintro e w5 ⟨m2, B2, v2, q2, rfl, _, _, _, hb5, hm2, hk2, ho2⟩
      have HM2 := Lib.hid (MK.mk (sd := sd) hm2 hk2 ho2)
      replace HM1 := Lib.hid (HM1.out.go hb5)
      replace HBX := Lib.hid (laid_go HBX.out hb5)
      replace HB := Lib.hid (HB.out.trans (hb5.mono HB.out.size))
      clear hb5 hm2 hk2 ho2
      go_wp2_with fail
      refine (newR_any _ none 0 0 (fun _ => 0#8) (fun _ => rfl) (by omega) (.inl rfl)).mono ?_
      rintro e w6 ⟨m3, B3, v3, q3, rfl, _, _, _, hb6, hm3, hk3, ho3⟩
      have HM3 := Lib.hid (MK.mk (sd := fun _ => 0#8) hm3 hk3 ho3)
      replace HM1 := Lib.hid (HM1.out.go hb6)
      replace HM2 := Lib.hid (HM2.out.go hb6)
      replace HBX := Lib.hid (laid_go HBX.out hb6)
      replace HB := Lib.hid (HB.out.trans (hb6.mono HB.out.size))
      clear hb6 hm3 hk3 ho3
      go_wp2
      go_loopw [10] (fun iv wr => ∃ i : Nat, i ≤ m ∧ iv = .int .i64 (i : Int) ∧ Below w6.heap.size w6 wr) (fun iv _ => m - (intOf iv).toNat)
      case atStart => exact ⟨0, Nat.zero_le _, rfl, Below.refl _ _⟩
      case round =>
        obtain ⟨i, hi, rfl, hbi⟩ := hrel
        have HBI := Lib.hid hbi
        have HBI0 := Lib.hid (HB.out.trans (hbi.mono HB.out.size))
        clear hbi
        by_cases hlt : i < m
        · rcases HR.out.below HBI0.out with h0 | ⟨b, off, rfl, hbb, hcc⟩
          · omega
          obtain ⟨c0, c1, c2, c3⟩ := hcc i hlt
          have hz6 := HBI0.out.size
          have hti := tot_le X m i hlt
          have hth := HX.out i hlt
          have hcall := MK.told (HM1.out.go HBI.out) (HK.out.below HBI0.out) HBI0.out.size s2 (X i) ((hth.lies (by omega)).below HBI0.out) (hth.small (by omega))
          unfold Ask.val at hcall
          have HC := Lib.hid hcall
          clear hcc hth hcall hti
          go_wp2_with fail
          refine HC.out.mono ?_
          rintro e w7 ⟨rfl, hb7⟩
          have HB7 := Lib.hid (HBI.out.trans (hb7.mono HBI.out.size))
          clear hb7 HC c0 c1 c2 c3
          go_wp2
          go_roundw
          case rel => exact ⟨i + 1, by omega, by go_num, HB7.out⟩
          case measure => simp [intOf]; omega
        · obtain rfl : i = m := by omega
          have HT := Lib.hid (show RT w x sd sm m1 B1 q1 v1 m2 B2 q2 v2 m3 B3 q3 v3 wr from ⟨HBI0.out, laid_go HBX.out HBI.out, HM1.out.go HBI.out, HM2.out.go HBI.out, HM3.out.go HBI.out⟩)
          have HLX := Lib.hid (HXX.out.lies s3)
          have HSX := Lib.hid (HXX.out.small s3)
          clear HM1 HM2 HM3 HBX HB HBI HBI0 HX HR HSR
          obtain ⟨s, hs⟩ : ∃ s, s = x.real sd sm := ⟨_, rfl⟩
          have HS := Lib.hid hs
          clear hs
          have HC1 := Lib.hid (show ∀ W, RT w x sd sm m1 B1 q1 v1 m2 B2 q2 v2 m3 B3 q3 v3 W → Calls Tryd.prog 8 #[.pointer (some ⟨m1, 0, none⟩), .agg #[.int .i64 x.what, .slice x.kp x.kn x.kc, .slice x.p x.m x.c, .int .i64 x.k]] W fun e w' => e = .returned (tagV s) ∧ Below W.heap.size W w' from fun W hW => by
            rw [HS.out]; exact MK.told hW.k1 (HK.out.below hW.bel) hW.bel.size s2 x (HLX.out.below hW.bel) HSX.out)
          go_upto_region 10 with (fail)
          obtain ⟨b0, b1, b2, b3⟩ := row4 HT.out.box
          refine wp_region_lit ?_
          refine wpList_plain rfl (fun K hK => ?_)
          go_simp
          refine hK _ _ ?_
          clear hK K
          refine wpList_plain rfl (fun K hK => ?_)
          go_simp
          refine hK _ _ ?_
          clear hK K
          refine wpList_plain rfl (fun K hK => ?_)
          go_simp
          refine (HC1.out wr HT.out).mono ?_
          rintro e w8 ⟨rfl, hb8⟩
          dsimp only
          refine hK _ _ ?_
          clear hK K
          have HT8 := Lib.hid (HT.out.go hb8)
          clear hb8 HT b0 b1 b2 b3 HC1
          refine wpList_plain rfl (fun K hK => ?_)
          go_simp
          refine hK _ _ ?_
          clear hK K
          refine wpList_store_mid rfl 33 _ _ rfl w8.heap.size 0 (tagC s).toArray rfl rfl (by simpa [tagC_len] using tag_there w8) (by simp [infoTag, tagC_len]) (tagC_one _) ?_
          rw [List.toList_toArray]
          obtain ⟨ht9, hb9⟩ := tag_store w8 s
          show Exit.then _ _ Exit.normal _ ((w8.alloc (.cells (List.replicate 32 (Value.int .u8 0)).toArray 33)).setCells w8.heap.size 0 (tagC s))
          generalize (w8.alloc (.cells (List.replicate 32 (Value.int .u8 0)).toArray 33)).setCells w8.heap.size 0 (tagC s) = w9 at ht9 hb9 ⊢
          have HT9 := Lib.hid (HT8.out.go hb9)
          have T9 := Lib.hid ht9
          obtain ⟨tb, htb⟩ : ∃ tb, tb = w8.heap.size := ⟨_, rfl⟩
          rw [← htb] at T9 ⊢
          clear hb9 ht9 HT8 htb
          obtain ⟨b0, b1, b2, b3⟩ := row4 HT9.out.box
          have hbz := Nat.lt_of_lt_of_le (Array.getElem?_eq_some_iff.1 HT9.out.box).1 (Nat.le_refl _)
          go_wp2_with fail
          have hb10 := below_al w9 (.cells #[.int .i64 x.what, .slice x.kp x.kn x.kc, .slice x.p x.m x.c, .int .i64 x.k] 26)
          have hL10 := HLX.out.below (HT9.out.go hb10).bel
          refine (join_any _ _ x.p x.m x.c x.P x.ln x.C x.f x.all (Nat.le_refl _) hL10.m hL10.n hL10.rows.rows hL10.rows.row x.all_at).mono ?_
          rintro e w11 ⟨v, rfl, hb11, hown⟩
          obtain ⟨yb, hyb⟩ : ∃ yb, yb = w9.heap.size := ⟨_, rfl⟩
          have hy11 := laid_go (laid_at (W := w9) (o := .cells #[.int .i64 x.what, .slice x.kp x.kn x.kc, .slice x.p x.m x.c, .int .i64 x.k] 26) hyb) hb11
          have hoff : ∀ q, v.ownBlock = some q → yb < q := fun q hq => by have := (hown.lt q hq).1; simp only [World.size_alloc] at this; omega
          obtain ⟨pv, cv, rfl, _, hc1, hc2⟩ := owns_reads hown
          have hb911 : Below w9.heap.size w9 w11 := hb10.trans (hb11.mono (by simp))
          obtain ⟨y0, y1, y2, y3⟩ := row4 hy11
          have yfr := frozen_of_row w11 yb 2 _ _ hy11
          have yz := (Array.getElem?_eq_some_iff.1 hy11).1
          have HOWN := Lib.hid hown
          have HOFF := Lib.hid hoff
          have HY11 := Lib.hid hy11
          have HB911 := Lib.hid hb911
          clear hb10 hL10 hown hoff hb11 hb911 hy11 b0 b1 b2 b3 hbz
          rw [← hyb]
          have HYB := Lib.hid hyb
          clear hyb
          go_upto_region 13 with (fail)
          obtain ⟨rb, hrb⟩ : ∃ rb, rb = w11.heap.size := ⟨_, rfl⟩
          have hy := RY.start HT9.out T9.out HB911.out HY11.out HOWN.out HOFF.out HYB.out (p := pv) (cv := cv)
          rw [← hrb] at hy ⊢
          have HY := Lib.hid hy
          generalize ((w11.setCell ⟨yb, 2, none⟩ (.slice (some ⟨rb, 0, none⟩) 2 2)).alloc (.cells #[.slice pv (pos x.ln x.m) cv, .slice none 0 0] 23)) = W13 at HY ⊢
          clear hy hrb HY11 HOWN HOFF HB911 HYB T9 HT9 y0 y1 y2 y3 yfr yz
          have he := eql_tag s
          have hgd := guard_tag s s
          have HC2 := Lib.hid (show ∀ W, RY w x sd sm m1 B1 q1 v1 m2 B2 q2 v2 m3 B3 q3 v3 tb s yb rb pv cv W → Calls Tryd.prog 8 #[.pointer (some ⟨m2, 0, none⟩), .agg #[.int .i64 x.what, .slice x.kp x.kn x.kc, .slice x.p x.m x.c, .int .i64 x.k]] W fun e w' => e = .returned (tagV s) ∧ Below W.heap.size W w' from fun W hW => by
            rw [HS.out]; exact MK.told hW.rt.k2 (HK.out.below hW.rt.bel) hW.rt.bel.size s2 x (HLX.out.below hW.rt.bel) HSX.out)
          have HCP := Lib.hid (show ∀ W, RY w x sd sm m1 B1 q1 v1 m2 B2 q2 v2 m3 B3 q3 v3 tb s yb rb pv cv W → Calls Tryd.prog 13 #[.pointer (some ⟨m1, 0, none⟩)] W fun e w' => ∃ m4 B4 q4 v4, e = .returned (.pointer (some ⟨m4, 0, none⟩)) ∧ Below W.heap.size W w' ∧ MK w' m4 B4 q4 v4 sd sm from fun W hW => MK.copy hW.rt.k1 s2)
          have HCY := Lib.hid (show ∀ W m4 B4 q4 v4, RY w x sd sm m1 B1 q1 v1 m2 B2 q2 v2 m3 B3 q3 v3 tb s yb rb pv cv W → MK W m4 B4 q4 v4 sd sm → Calls Tryd.prog 8 #[.pointer (some ⟨m4, 0, none⟩), .agg #[.int .i64 x.what, .slice x.kp x.kn x.kc, .slice (some ⟨rb, 0, none⟩) 2 2, .int .i64 x.k]] W fun e w' => e = .returned (tagV s) ∧ Below W.heap.size W w' from fun W m4 B4 q4 v4 hW hM => by
            rw [HS.out, ← Ask.one_real x rb pv cv sd sm]
            exact MK.told hM (HK.out.below hW.rt.bel) hW.rt.bel.size s2 (x.one rb pv cv) (hW.lies (HLX.out.below hW.rt.bel) ⟨hc1, hc2⟩) (Ask.one_small HSX.out))
          have HCL := Lib.hid (show ∀ W, RY w x sd sm m1 B1 q1 v1 m2 B2 q2 v2 m3 B3 q3 v3 tb s yb rb pv cv W → Calls Tryd.prog 12 #[.pointer (some ⟨m1, 0, none⟩)] W fun e w' => e = .returned (.int .i64 0) ∧ Below W.heap.size W w' from fun W hW => lenM_any W m1 B1 true v1 [] hW.rt.k1.mr hW.rt.k1.bk)
          have HCT := Lib.hid (show ∀ W, RY w x sd sm m1 B1 q1 v1 m2 B2 q2 v2 m3 B3 q3 v3 tb s yb rb pv cv W → Calls Tryd.prog 10 #[.pointer (some ⟨m1, 0, none⟩), tagV s] W fun e w' => e = .returned (.bool false) ∧ Below W.heap.size W w' from fun W hW => by
            have := toldM_any W m1 B1 true v1 [] s hW.rt.k1.mr hW.rt.k1.bk (by show 0 ≤ _; omega)
            rw [show toldB ([] : List Thing).length s = false from by unfold toldB; simp] at this
            exact this)
          have HCR := Lib.hid (show ∀ W, RY w x sd sm m1 B1 q1 v1 m2 B2 q2 v2 m3 B3 q3 v3 tb s yb rb pv cv W → Calls Tryd.prog 16 #[.pointer (some ⟨m1, 0, none⟩)] W fun e w' => e = .returned (.bool true) ∧ W = w' from fun W hW => realM_any W m1 B1 true v1 hW.rt.k1.mr)
          have HC3 := Lib.hid (show ¬ x.what % 3 = 2 → ∀ W, RY w x sd sm m1 B1 q1 v1 m2 B2 q2 v2 m3 B3 q3 v3 tb s yb rb pv cv W → Calls Tryd.prog 8 #[.pointer (some ⟨m3, 0, none⟩), .agg #[.int .i64 x.what, .slice x.kp x.kn x.kc, .slice x.p x.m x.c, .int .i64 x.k]] W fun e w' => e = .returned (tagV s) ∧ Below W.heap.size W w' from fun hne W hW => by
            rw [HS.out, ← Ask.real_same x x sd (fun _ => 0#8) sm 0 rfl rfl rfl rfl rfl (fun _ _ => rfl) (fun h => absurd h hne)]
            exact MK.told hW.rt.k3 (HK.out.below hW.rt.bel) hW.rt.bel.size (by omega) x (HLX.out.below hW.rt.bel) HSX.out)
          clear HS HLX HSX HSZ HXX HK
          obtain ⟨kd, hkd⟩ : ∃ kd, x.what % 3 = kd := ⟨_, rfl⟩
          rw [hkd] at HC3
          have HKD := Lib.hid hkd
          clear hkd
          by_cases k2 : kd = 2
          · subst k2
            clear HC3
            refine wp_region_noPanic ?_
            refine wp_region_start (n := 42) (l := #[false, false, false, false, false, false, false, false, false, false, false, false, false, false, false, false, false, false, false, false, false, false, false, false, false, false, false, false, false, false, false, false, false, false, false, false, false, false, false, false, false, false]) (S := (fun W => ((W.cell? ⟨w.heap.size, 0, none⟩ = some (.int .i64 x.what) ∧ W.cell? ⟨w.heap.size, 1, none⟩ = some (.slice x.kp x.kn x.kc) ∧ W.cell? ⟨w.heap.size, 2, none⟩ = some (.slice x.p x.m x.c) ∧ W.cell? ⟨w.heap.size, 3, none⟩ = some (.int .i64 x.k)) ∧ (W.cell? ⟨yb, 0, none⟩ = some (.int .i64 x.what) ∧ W.cell? ⟨yb, 1, none⟩ = some (.slice x.kp x.kn x.kc) ∧ W.cell? ⟨yb, 2, none⟩ = some (.slice (some ⟨rb, 0, none⟩) 2 2) ∧ W.cell? ⟨yb, 3, none⟩ = some (.int .i64 x.k))) ∧ BT W tb 32 s)) (by kernel_rfl) rfl (by kernel_rfl) (by first | exact HY.out.cells | exact HY.out.drew.cells) (fun hHeld => ?_)
            replace HY := Lib.hid HY.out.drew
            generalize W13.drew = W14 at hHeld HY ⊢
            refine take_to (i := 0) (d := some 51) (v := ?_) (l' := #[true, false, false, false, false, false, false, false, false, false, false, false, false, false, false, false, false, false, false, false, false, false, false, false, false, false, false, false, false, false, false, false, false, false, false, false, false, false, false, false, false, false]) rfl rfl (by kernel_rfl) (by kernel_rfl) (by kernel_rfl) (by kernel_rfl) (fun _ _ _ h => h) (Or.inl ⟨by rfl, ?_⟩) (by assumption) ?_; rotate_left; · (intro w' hSw; (try dsimp only at hSw); go_simp; (try with_reducible rfl))
            try simp only [Act.put, List.setIfInBounds_toArray, List.set_cons_zero, List.set_cons_succ]
            refine take_to (i := 1) (d := some 52) (v := ?_) (l' := #[true, true, false, false, false, false, false, false, false, false, false, false, false, false, false, false, false, false, false, false, false, false, false, false, false, false, false, false, false, false, false, false, false, false, false, false, false, false, false, false, false, false]) rfl rfl (by kernel_rfl) (by kernel_rfl) (by kernel_rfl) (by kernel_rfl) (fun _ _ _ h => h) (Or.inl ⟨by rfl, ?_⟩) (by assumption) ?_; rotate_left; · (intro w' hSw; (try dsimp only at hSw); go_simp; (try with_reducible rfl))
            try simp only [Act.put, List.setIfInBounds_toArray, List.set_cons_zero, List.set_cons_succ]
            refine take_to (i := 3) (d := some 54) (v := (tagV s)) (l' := #[true, true, false, true, false, false, false, false, false, false, false, false, false, false, false, false, false, false, false, false, false, false, false, false, false, false, false, false, false, false, false, false, false, false, false, false, false, false, false, false, false, false]) rfl rfl (by kernel_rfl) (by kernel_rfl) (by kernel_rfl) (by kernel_rfl) (fun _ _ _ h => h) ?_ (by assumption) ?_
            · exact tag_load' (fun W h => h.2) (by rfl) rfl rfl
            try simp only [Act.put, List.setIfInBounds_toArray, List.set_cons_zero, List.set_cons_succ]
            refine one_to (i := 2) (l' := #[true, true, true, true, false, false, false, false, false, false, false, false, false, false, false, false, false, false, false, false, false, false, false, false, false, false, false, false, false, false, false, false, false, false, false, false, false, false, false, false, false, false]) rfl (by kernel_rfl) (by kernel_rfl) (fun K hK => ?_)
            go_simp
            refine (HC2.out _ HY.out).mono ?_
            rintro e w14 ⟨rfl, hb14⟩
            replace HY := Lib.hid (HY.out.go hb14)
            clear hb14
            dsimp only
            refine hK.out _ _ (by first | exact HY.out.cells | exact HY.out.drew.cells) (fun hHeld => ?_)
            clear hK K
            try simp only [Act.put, List.setIfInBounds_toArray, List.set_cons_zero, List.set_cons_succ]
            refine take_to (i := 4) (d := some 55) (v := ?_) (l' := #[true, true, true, true, true, false, false, false, false, false, false, false, false, false, false, false, false, false, false, false, false, false, false, false, false, false, false, false, false, false, false, false, false, false, false, false, false, false, false, false, false, false]) rfl rfl (by kernel_rfl) (by kernel_rfl) (by kernel_rfl) (by kernel_rfl) (fun _ _ _ h => h) (Or.inl ⟨by rfl, ?_⟩) (by assumption) ?_; rotate_left; · (intro w' hSw; (try dsimp only at hSw); go_simp; (try with_reducible rfl))
            try simp only [Act.put, List.setIfInBounds_toArray, List.set_cons_zero, List.set_cons_succ]
            refine take_to (i := 5) (d := some 56) (v := ?_) (l' := #[true, true, true, true, true, true, false, false, false, false, false, false, false, false, false, false, false, false, false, false, false, false, false, false, false, false, false, false, false, false, false, false, false, false, false, false, false, false, false, false, false, false]) rfl rfl (by kernel_rfl) (by kernel_rfl) (by kernel_rfl) (by kernel_rfl) (fun _ _ _ h => h) (Or.inl ⟨by rfl, ?_⟩) (by assumption) ?_; rotate_left; · (intro w' hSw; (try dsimp only at hSw); go_simp; (try with_reducible rfl))
            try simp only [Act.put, List.setIfInBounds_toArray, List.set_cons_zero, List.set_cons_succ]
            refine take_to (i := 6) (d := some 57) (v := ?_) (l' := #[true, true, true, true, true, true, true, false, false, false, false, false, false, false, false, false, false, false, false, false, false, false, false, false, false, false, false, false, false, false, false, false, false, false, false, false, false, false, false, false, false, false]) rfl rfl (by kernel_rfl) (by kernel_rfl) (by kernel_rfl) (by kernel_rfl) (fun _ _ _ h => h) (Or.inl ⟨by rfl, ?_⟩) (by assumption) ?_; rotate_left; · (intro w' hSw; (try dsimp only at hSw); go_simp; (try with_reducible rfl))
            try simp only [Act.put, List.setIfInBounds_toArray, List.set_cons_zero, List.set_cons_succ]
            refine take_to (i := 8) (d := some 59) (v := ?_) (l' := #[true, true, true, true, true, true, true, false, true, false, false, false, false, false, false, false, false, false, false, false, false, false, false, false, false, false, false, false, false, false, false, false, false, false, false, false, false, false, false, false, false, false]) rfl rfl (by kernel_rfl) (by kernel_rfl) (by kernel_rfl) (by kernel_rfl) (fun _ _ _ h => h) (Or.inl ⟨by rfl, ?_⟩) (by assumption) ?_; rotate_left; · (intro w' hSw; (try dsimp only at hSw); go_simp; (try with_reducible rfl))
            try simp only [Act.put, List.setIfInBounds_toArray, List.set_cons_zero, List.set_cons_succ]
            refine take_to (i := 10) (d := some 61) (v := (tagV s)) (l' := #[true, true, true, true, true, true, true, false, true, false, true, false, false, false, false, false, false, false, false, false, false, false, false, false, false, false, false, false, false, false, false, false, false, false, false, false, false, false, false, false, false, false]) rfl rfl (by kernel_rfl) (by kernel_rfl) (by kernel_rfl) (by kernel_rfl) (fun _ _ _ h => h) ?_ (by assumption) ?_
            · exact tag_load' (fun W h => h.2) (by rfl) rfl rfl
            try simp only [Act.put, List.setIfInBounds_toArray, List.set_cons_zero, List.set_cons_succ]
            refine one_to (i := 7) (l' := #[true, true, true, true, true, true, true, true, true, false, true, false, false, false, false, false, false, false, false, false, false, false, false, false, false, false, false, false, false, false, false, false, false, false, false, false, false, false, false, false, false, false]) rfl (by kernel_rfl) (by kernel_rfl) (fun K hK => ?_)
            go_simp
            refine (HCP.out _ HY.out).mono ?_
            rintro e w14 ⟨m4, B4, q4, v4, rfl, hb14, hk4⟩
            replace HY := Lib.hid (HY.out.go hb14)
            have HK4 := Lib.hid hk4
            clear hb14 hk4
            dsimp only
            refine hK.out _ _ (by first | exact HY.out.cells | exact HY.out.drew.cells) (fun hHeld => ?_)
            clear hK K
            try simp only [Act.put, List.setIfInBounds_toArray, List.set_cons_zero, List.set_cons_succ]
            refine one_to (i := 9) (l' := #[true, true, true, true, true, true, true, true, true, true, true, false, false, false, false, false, false, false, false, false, false, false, false, false, false, false, false, false, false, false, false, false, false, false, false, false, false, false, false, false, false, false]) rfl (by kernel_rfl) (by kernel_rfl) (fun K hK => ?_)
            go_simp
            refine (HCY.out _ _ _ _ _ HY.out HK4.out).mono ?_
            rintro e w14 ⟨rfl, hb14⟩
            replace HY := Lib.hid (HY.out.go hb14)
            clear hb14 HK4
            dsimp only
            refine hK.out _ _ (by first | exact HY.out.cells | exact HY.out.drew.cells) (fun hHeld => ?_)
            clear hK K
            try simp only [Act.put, List.setIfInBounds_toArray, List.set_cons_zero, List.set_cons_succ]
            refine take_to (i := 11) (d := some 62) (v := ?_) (l' := #[true, true, true, true, true, true, true, true, true, true, true, true, false, false, false, false, false, false, false, false, false, false, false, false, false, false, false, false, false, false, false, false, false, false, false, false, false, false, false, false, false, false]) rfl rfl (by kernel_rfl) (by kernel_rfl) (by kernel_rfl) (by kernel_rfl) (fun _ _ _ h => h) (Or.inl ⟨by rfl, ?_⟩) (by assumption) ?_; rotate_left; · (intro w' hSw; (try dsimp only at hSw); go_simp; (try with_reducible rfl))
            try simp only [Act.put, List.setIfInBounds_toArray, List.set_cons_zero, List.set_cons_succ]
            refine take_to (i := 12) (d := some 63) (v := ?_) (l' := #[true, true, true, true, true, true, true, true, true, true, true, true, true, false, false, false, false, false, false, false, false, false, false, false, false, false, false, false, false, false, false, false, false, false, false, false, false, false, false, false, false, false]) rfl rfl (by kernel_rfl) (by kernel_rfl) (by kernel_rfl) (by kernel_rfl) (fun _ _ _ h => h) (Or.inl ⟨by rfl, ?_⟩) (by assumption) ?_; rotate_left; · (intro w' hSw; (try dsimp only at hSw); go_simp; (try with_reducible rfl))
            try simp only [Act.put, List.setIfInBounds_toArray, List.set_cons_zero, List.set_cons_succ]
            refine take_to (i := 13) (d := some 64) (v := ?_) (l' := #[true, true, true, true, true, true, true, true, true, true, true, true, true, true, false, false, false, false, false, false, false, false, false, false, false, false, false, false, false, false, false, false, false, false, false, false, false, false, false, false, false, false]) rfl rfl (by kernel_rfl) (by kernel_rfl) (by kernel_rfl) (by kernel_rfl) (fun _ _ _ h => h) (Or.inl ⟨by rfl, ?_⟩) (by assumption) ?_; rotate_left; · (intro w' hSw; (try dsimp only at hSw); go_simp; (try with_reducible rfl))
            try simp only [Act.put, List.setIfInBounds_toArray, List.set_cons_zero, List.set_cons_succ]
            refine take_to (i := 14) (d := some 65) (v := ?_) (l' := #[true, true, true, true, true, true, true, true, true, true, true, true, true, true, true, false, false, false, false, false, false, false, false, false, false, false, false, false, false, false, false, false, false, false, false, false, false, false, false, false, false, false]) rfl rfl (by kernel_rfl) (by kernel_rfl) (by kernel_rfl) (by kernel_rfl) (fun _ _ _ h => h) (Or.inl ⟨by rfl, ?_⟩) (by assumption) ?_; rotate_left; · (intro w' hSw; (try dsimp only at hSw); go_simp; (try with_reducible rfl))
            try simp only [Act.put, List.setIfInBounds_toArray, List.set_cons_zero, List.set_cons_succ]
            refine take_to (i := 15) (d := some 66) (v := ?_) (l' := #[true, true, true, true, true, true, true, true, true, true, true, true, true, true, true, true, false, false, false, false, false, false, false, false, false, false, false, false, false, false, false, false, false, false, false, false, false, false, false, false, false, false]) rfl rfl (by kernel_rfl) (by kernel_rfl) (by kernel_rfl) (by kernel_rfl) (fun _ _ _ h => h) (Or.inl ⟨by rfl, ?_⟩) (by assumption) ?_; rotate_left; · (intro w' hSw; (try dsimp only at hSw); go_simp; (try with_reducible rfl))
            try simp only [Act.put, List.setIfInBounds_toArray, List.set_cons_zero, List.set_cons_succ]
            refine one_to (i := 16) (l' := #[true, true, true, true, true, true, true, true, true, true, true, true, true, true, true, true, true, false, false, false, false, false, false, false, false, false, false, false, false, false, false, false, false, false, false, false, false, false, false, false, false, false]) rfl (by kernel_rfl) (by kernel_rfl) (fun K hK => ?_)
            go_simp
            refine (pick3_any x.what _).mono ?_
            rw [HKD.out]
            rintro e w' ⟨rfl, rfl⟩
            dsimp only
            refine hK.out _ _ (by first | exact HY.out.cells | exact HY.out.drew.cells) (fun hHeld => ?_)
            clear hK K
            try simp only [Act.put, List.setIfInBounds_toArray, List.set_cons_zero, List.set_cons_succ]
            refine take_to (i := 17) (d := some 68) (v := ?_) (l' := #[true, true, true, true, true, true, true, true, true, true, true, true, true, true, true, true, true, true, false, false, false, false, false, false, false, false, false, false, false, false, false, false, false, false, false, false, false, false, false, false, false, false]) rfl rfl (by kernel_rfl) (by kernel_rfl) (by kernel_rfl) (by kernel_rfl) (fun _ _ _ h => h) (Or.inl ⟨by rfl, ?_⟩) (by assumption) ?_; rotate_left; · (intro w' hSw; (try dsimp only at hSw); go_simp; (try with_reducible rfl))
            try simp only [Act.put, List.setIfInBounds_toArray, List.set_cons_zero, List.set_cons_succ]
            refine take_to (i := 18) (d := some 69) (v := ?_) (l' := #[true, true, true, true, true, true, true, true, true, true, true, true, true, true, true, true, true, true, true, false, false, false, false, false, false, false, false, false, false, false, false, false, false, false, false, false, false, false, false, false, false, false]) rfl rfl (by kernel_rfl) (by kernel_rfl) (by kernel_rfl) (by kernel_rfl) (fun _ _ _ h => h) (Or.inl ⟨by rfl, ?_⟩) (by assumption) ?_; rotate_left; · (intro w' hSw; (try dsimp only at hSw); go_simp; (try with_reducible rfl))
            try simp only [Act.put, List.setIfInBounds_toArray, List.set_cons_zero, List.set_cons_succ]
            refine take_to (i := 19) (d := some 70) (v := undef) (l' := #[true, true, true, true, true, true, true, true, true, true, true, true, true, true, true, true, true, true, true, true, false, false, false, false, false, false, false, false, false, false, false, false, false, false, false, false, false, false, false, false, false, false]) rfl rfl (by kernel_rfl) (by kernel_rfl) (by kernel_rfl) (by kernel_rfl) (fun _ _ _ h => h) (Or.inr ⟨by rfl, rfl⟩) (by assumption) ?_
            try simp only [Act.put, List.setIfInBounds_toArray, List.set_cons_zero, List.set_cons_succ]
            refine take_to (i := 20) (d := some 71) (v := undef) (l' := #[true, true, true, true, true, true, true, true, true, true, true, true, true, true, true, true, true, true, true, true, true, false, false, false, false, false, false, false, false, false, false, false, false, false, false, false, false, false, false, false, false, false]) rfl rfl (by kernel_rfl) (by kernel_rfl) (by kernel_rfl) (by kernel_rfl) (fun _ _ _ h => h) (Or.inr ⟨by rfl, rfl⟩) (by assumption) ?_
            try simp only [Act.put, List.setIfInBounds_toArray, List.set_cons_zero, List.set_cons_succ]
            refine take_to (i := 22) (d := some 73) (v := undef) (l' := #[true, true, true, true, true, true, true, true, true, true, true, true, true, true, true, true, true, true, true, true, true, false, true, false, false, false, false, false, false, false, false, false, false, false, false, false, false, false, false, false, false, false]) rfl rfl (by kernel_rfl) (by kernel_rfl) (by kernel_rfl) (by kernel_rfl) (fun _ _ _ h => h) (Or.inr ⟨by rfl, rfl⟩) (by assumption) ?_
            try simp only [Act.put, List.setIfInBounds_toArray, List.set_cons_zero, List.set_cons_succ]
            refine one_to (i := 21) (l' := #[true, true, true, true, true, true, true, true, true, true, true, true, true, true, true, true, true, true, true, true, true, true, true, false, false, false, false, false, false, false, false, false, false, false, false, false, false, false, false, false, false, false]) rfl (by kernel_rfl) (by kernel_rfl) (fun K hK => ?_)
            go_simp
            refine hK.out _ _ (by first | exact HY.out.cells | exact HY.out.drew.cells) (fun hHeld => ?_)
            clear hK K
            try simp only [Act.put, List.setIfInBounds_toArray, List.set_cons_zero, List.set_cons_succ]
            refine take_to (i := 23) (d := some 74) (v := undef) (l' := #[true, true, true, true, true, true, true, true, true, true, true, true, true, true, true, true, true, true, true, true, true, true, true, true, false, false, false, false, false, false, false, false, false, false, false, false, false, false, false, false, false, false]) rfl rfl (by kernel_rfl) (by kernel_rfl) (by kernel_rfl) (by kernel_rfl) (fun _ _ _ h => h) (Or.inr ⟨by rfl, rfl⟩) (by assumption) ?_
            try simp only [Act.put, List.setIfInBounds_toArray, List.set_cons_zero, List.set_cons_succ]
            refine take_to (i := 24) (d := some 75) (v := ?_) (l' := #[true, true, true, true, true, true, true, true, true, true, true, true, true, true, true, true, true, true, true, true, true, true, true, true, true, false, false, false, false, false, false, false, false, false, false, false, false, false, false, false, false, false]) rfl rfl (by kernel_rfl) (by kernel_rfl) (by kernel_rfl) (by kernel_rfl) (fun _ _ _ h => h) (Or.inl ⟨by rfl, ?_⟩) (by assumption) ?_; rotate_left; · (intro w' hSw; (try dsimp only at hSw); go_simp; (try with_reducible rfl))
            try simp only [Act.put, List.setIfInBounds_toArray, List.set_cons_zero, List.set_cons_succ]
            refine take_to (i := 25) (d := some 76) (v := ?_) (l' := #[true, true, true, true, true, true, true, true, true, true, true, true, true, true, true, true, true, true, true, true, true, true, true, true, true, true, false, false, false, false, false, false, false, false, false, false, false, false, false, false, false, false]) rfl rfl (by kernel_rfl) (by kernel_rfl) (by kernel_rfl) (by kernel_rfl) (fun _ _ _ h => h) (Or.inl ⟨by rfl, ?_⟩) (by assumption) ?_; rotate_left; · (intro w' hSw; (try dsimp only at hSw); go_simp; (try with_reducible rfl))
            try simp only [Act.put, List.setIfInBounds_toArray, List.set_cons_zero, List.set_cons_succ]
            refine take_to (i := 26) (d := some 77) (v := ?_) (l' := #[true, true, true, true, true, true, true, true, true, true, true, true, true, true, true, true, true, true, true, true, true, true, true, true, true, true, true, false, false, false, false, false, false, false, false, false, false, false, false, false, false, false]) rfl rfl (by kernel_rfl) (by kernel_rfl) (by kernel_rfl) (by kernel_rfl) (fun _ _ _ h => h) (Or.inl ⟨by rfl, ?_⟩) (by assumption) ?_; rotate_left; · (intro w' hSw; (try dsimp only at hSw); go_simp; (try with_reducible rfl))
            try simp only [Act.put, List.setIfInBounds_toArray, List.set_cons_zero, List.set_cons_succ]
            refine take_to (i := 27) (d := some 78) (v := ?_) (l' := #[true, true, true, true, true, true, true, true, true, true, true, true, true, true, true, true, true, true, true, true, true, true, true, true, true, true, true, true, false, false, false, false, false, false, false, false, false, false, false, false, false, false]) rfl rfl (by kernel_rfl) (by kernel_rfl) (by kernel_rfl) (by kernel_rfl) (fun _ _ _ h => h) (Or.inl ⟨by rfl, ?_⟩) (by assumption) ?_; rotate_left; · (intro w' hSw; (try dsimp only at hSw); go_simp; (try with_reducible rfl))
            try simp only [Act.put, List.setIfInBounds_toArray, List.set_cons_zero, List.set_cons_succ]
            refine one_to (i := 28) (l' := #[true, true, true, true, true, true, true, true, true, true, true, true, true, true, true, true, true, true, true, true, true, true, true, true, true, true, true, true, true, false, false, false, false, false, false, false, false, false, false, false, false, false]) rfl (by kernel_rfl) (by kernel_rfl) (fun K hK => ?_)
            go_simp
            refine (HCL.out _ HY.out).mono ?_
            rintro e w14 ⟨rfl, hb14⟩
            replace HY := Lib.hid (HY.out.go hb14)
            clear hb14
            dsimp only
            refine hK.out _ _ (by first | exact HY.out.cells | exact HY.out.drew.cells) (fun hHeld => ?_)
            clear hK K
            try simp only [Act.put, List.setIfInBounds_toArray, List.set_cons_zero, List.set_cons_succ]
            refine take_to (i := 29) (d := some 80) (v := ?_) (l' := #[true, true, true, true, true, true, true, true, true, true, true, true, true, true, true, true, true, true, true, true, true, true, true, true, true, true, true, true, true, true, false, false, false, false, false, false, false, false, false, false, false, false]) rfl rfl (by kernel_rfl) (by kernel_rfl) (by kernel_rfl) (by kernel_rfl) (fun _ _ _ h => h) (Or.inl ⟨by rfl, ?_⟩) (by assumption) ?_; rotate_left; · (intro w' hSw; (try dsimp only at hSw); go_simp; (try with_reducible rfl))
            try simp only [Act.put, List.setIfInBounds_toArray, List.set_cons_zero, List.set_cons_succ]
            refine take_to (i := 30) (d := some 81) (v := ?_) (l' := #[true, true, true, true, true, true, true, true, true, true, true, true, true, true, true, true, true, true, true, true, true, true, true, true, true, true, true, true, true, true, true, false, false, false, false, false, false, false, false, false, false, false]) rfl rfl (by kernel_rfl) (by kernel_rfl) (by kernel_rfl) (by kernel_rfl) (fun _ _ _ h => h) (Or.inl ⟨by rfl, ?_⟩) (by assumption) ?_; rotate_left; · (intro w' hSw; (try dsimp only at hSw); go_simp; (try with_reducible rfl))
            try simp only [Act.put, List.setIfInBounds_toArray, List.set_cons_zero, List.set_cons_succ]
            refine take_to (i := 31) (d := some 82) (v := ?_) (l' := #[true, true, true, true, true, true, true, true, true, true, true, true, true, true, true, true, true, true, true, true, true, true, true, true, true, true, true, true, true, true, true, true, false, false, false, false, false, false, false, false, false, false]) rfl rfl (by kernel_rfl) (by kernel_rfl) (by kernel_rfl) (by kernel_rfl) (fun _ _ _ h => h) (Or.inl ⟨by rfl, ?_⟩) (by assumption) ?_; rotate_left; · (intro w' hSw; (try dsimp only at hSw); go_simp; (try with_reducible rfl))
            try simp only [Act.put, List.setIfInBounds_toArray, List.set_cons_zero, List.set_cons_succ]
            refine take_to (i := 32) (d := some 83) (v := ?_) (l' := #[true, true, true, true, true, true, true, true, true, true, true, true, true, true, true, true, true, true, true, true, true, true, true, true, true, true, true, true, true, true, true, true, true, false, false, false, false, false, false, false, false, false]) rfl rfl (by kernel_rfl) (by kernel_rfl) (by kernel_rfl) (by kernel_rfl) (fun _ _ _ h => h) (Or.inl ⟨by rfl, ?_⟩) (by assumption) ?_; rotate_left; · (intro w' hSw; (try dsimp only at hSw); go_simp; (try with_reducible rfl))
            try simp only [Act.put, List.setIfInBounds_toArray, List.set_cons_zero, List.set_cons_succ]
            refine take_to (i := 33) (d := some 84) (v := (tagV s)) (l' := #[true, true, true, true, true, true, true, true, true, true, true, true, true, true, true, true, true, true, true, true, true, true, true, true, true, true, true, true, true, true, true, true, true, true, false, false, false, false, false, false, false, false]) rfl rfl (by kernel_rfl) (by kernel_rfl) (by kernel_rfl) (by kernel_rfl) (fun _ _ _ h => h) ?_ (by assumption) ?_
            · exact tag_load' (fun W h => h.2) (by rfl) rfl rfl
            try simp only [Act.put, List.setIfInBounds_toArray, List.set_cons_zero, List.set_cons_succ]
            refine one_to (i := 34) (l' := #[true, true, true, true, true, true, true, true, true, true, true, true, true, true, true, true, true, true, true, true, true, true, true, true, true, true, true, true, true, true, true, true, true, true, true, false, false, false, false, false, false, false]) rfl (by kernel_rfl) (by kernel_rfl) (fun K hK => ?_)
            go_simp
            refine (HCT.out _ HY.out).mono ?_
            rintro e w14 ⟨rfl, hb14⟩
            replace HY := Lib.hid (HY.out.go hb14)
            clear hb14
            dsimp only
            refine hK.out _ _ (by first | exact HY.out.cells | exact HY.out.drew.cells) (fun hHeld => ?_)
            clear hK K
            try simp only [Act.put, List.setIfInBounds_toArray, List.set_cons_zero, List.set_cons_succ]
            refine take_to (i := 35) (d := some 86) (v := ?_) (l' := #[true, true, true, true, true, true, true, true, true, true, true, true, true, true, true, true, true, true, true, true, true, true, true, true, true, true, true, true, true, true, true, true, true, true, true, true, false, false, false, false, false, false]) rfl rfl (by kernel_rfl) (by kernel_rfl) (by kernel_rfl) (by kernel_rfl) (fun _ _ _ h => h) (Or.inl ⟨by rfl, ?_⟩) (by assumption) ?_; rotate_left; · (intro w' hSw; (try dsimp only at hSw); go_simp; (try with_reducible rfl))
            try simp only [Act.put, List.setIfInBounds_toArray, List.set_cons_zero, List.set_cons_succ]
            refine take_to (i := 36) (d := some 87) (v := ?_) (l' := #[true, true, true, true, true, true, true, true, true, true, true, true, true, true, true, true, true, true, true, true, true, true, true, true, true, true, true, true, true, true, true, true, true, true, true, true, true, false, false, false, false, false]) rfl rfl (by kernel_rfl) (by kernel_rfl) (by kernel_rfl) (by kernel_rfl) (fun _ _ _ h => h) (Or.inl ⟨by rfl, ?_⟩) (by assumption) ?_; rotate_left; · (intro w' hSw; (try dsimp only at hSw); go_simp; (try with_reducible rfl))
            try simp only [Act.put, List.setIfInBounds_toArray, List.set_cons_zero, List.set_cons_succ]
            refine take_to (i := 37) (d := some 88) (v := ?_) (l' := #[true, true, true, true, true, true, true, true, true, true, true, true, true, true, true, true, true, true, true, true, true, true, true, true, true, true, true, true, true, true, true, true, true, true, true, true, true, true, false, false, false, false]) rfl rfl (by kernel_rfl) (by kernel_rfl) (by kernel_rfl) (by kernel_rfl) (fun _ _ _ h => h) (Or.inl ⟨by rfl, ?_⟩) (by assumption) ?_; rotate_left; · (intro w' hSw; (try dsimp only at hSw); go_simp; (try with_reducible rfl))
            try simp only [Act.put, List.setIfInBounds_toArray, List.set_cons_zero, List.set_cons_succ]
            refine take_to (i := 38) (d := some 89) (v := ?_) (l' := #[true, true, true, true, true, true, true, true, true, true, true, true, true, true, true, true, true, true, true, true, true, true, true, true, true, true, true, true, true, true, true, true, true, true, true, true, true, true, true, false, false, false]) rfl rfl (by kernel_rfl) (by kernel_rfl) (by kernel_rfl) (by kernel_rfl) (fun _ _ _ h => h) (Or.inl ⟨by rfl, ?_⟩) (by assumption) ?_; rotate_left; · (intro w' hSw; (try dsimp only at hSw); go_simp; (try with_reducible rfl))
            try simp only [Act.put, List.setIfInBounds_toArray, List.set_cons_zero, List.set_cons_succ]
            refine one_to (i := 39) (l' := #[true, true, true, true, true, true, true, true, true, true, true, true, true, true, true, true, true, true, true, true, true, true, true, true, true, true, true, true, true, true, true, true, true, true, true, true, true, true, true, true, false, false]) rfl (by kernel_rfl) (by kernel_rfl) (fun K hK => ?_)
            go_simp
            refine (HCR.out _ HY.out).mono ?_
            rintro e w' ⟨rfl, rfl⟩
            dsimp only
            refine hK.out _ _ (by first | exact HY.out.cells | exact HY.out.drew.cells) (fun hHeld => ?_)
            clear hK K
            try simp only [Act.put, List.setIfInBounds_toArray, List.set_cons_zero, List.set_cons_succ]
            refine take_to (i := 40) (d := some 91) (v := ?_) (l' := #[true, true, true, true, true, true, true, true, true, true, true, true, true, true, true, true, true, true, true, true, true, true, true, true, true, true, true, true, true, true, true, true, true, true, true, true, true, true, true, true, true, false]) rfl rfl (by kernel_rfl) (by kernel_rfl) (by kernel_rfl) (by kernel_rfl) (fun _ _ _ h => h) (Or.inl ⟨by rfl, ?_⟩) (by assumption) ?_; rotate_left; · (intro w' hSw; (try dsimp only at hSw); go_simp; (try with_reducible rfl))
            try simp only [Act.put, List.setIfInBounds_toArray, List.set_cons_zero, List.set_cons_succ]
            refine take_to (i := 41) (d := some 6) (v := ?_) (l' := #[true, true, true, true, true, true, true, true, true, true, true, true, true, true, true, true, true, true, true, true, true, true, true, true, true, true, true, true, true, true, true, true, true, true, true, true, true, true, true, true, true, true]) rfl rfl (by kernel_rfl) (by kernel_rfl) (by kernel_rfl) (by kernel_rfl) (fun _ _ _ h => h) (Or.inl ⟨by rfl, ?_⟩) (by assumption) ?_; rotate_left; · (intro w' hSw; (try dsimp only at hSw); go_simp; (try with_reducible rfl))
            try simp only [Act.put, List.setIfInBounds_toArray, List.set_cons_zero, List.set_cons_succ]
            refine wpAnyH_done (by kernel_rfl) ?_ _
            refine NoPanic.normal ?_
            clear hHeld
            go_wp2
            go_ret
            exact ⟨rfl, HY.out.rt.bel⟩
          · replace HC3 := Lib.hid (HC3.out k2)
            have dk : (kd == 2) = false := by simp [k2]
            refine wp_region_noPanic ?_
            refine wp_region_start (n := 42) (l := #[false, false, false, false, false, false, false, false, false, false, false, false, false, false, false, false, false, false, false, false, false, false, false, false, false, false, false, false, false, false, false, false, false, false, false, false, false, false, false, false, false, false]) (S := (fun W => ((W.cell? ⟨w.heap.size, 0, none⟩ = some (.int .i64 x.what) ∧ W.cell? ⟨w.heap.size, 1, none⟩ = some (.slice x.kp x.kn x.kc) ∧ W.cell? ⟨w.heap.size, 2, none⟩ = some (.slice x.p x.m x.c) ∧ W.cell? ⟨w.heap.size, 3, none⟩ = some (.int .i64 x.k)) ∧ (W.cell? ⟨yb, 0, none⟩ = some (.int .i64 x.what) ∧ W.cell? ⟨yb, 1, none⟩ = some (.slice x.kp x.kn x.kc) ∧ W.cell? ⟨yb, 2, none⟩ = some (.slice (some ⟨rb, 0, none⟩) 2 2) ∧ W.cell? ⟨yb, 3, none⟩ = some (.int .i64 x.k))) ∧ BT W tb 32 s)) (by kernel_rfl) rfl (by kernel_rfl) (by first | exact HY.out.cells | exact HY.out.drew.cells) (fun hHeld => ?_)
            replace HY := Lib.hid HY.out.drew
            generalize W13.drew = W14 at hHeld HY ⊢
            refine take_to (i := 0) (d := some 51) (v := ?_) (l' := #[true, false, false, false, false, false, false, false, false, false, false, false, false, false, false, false, false, false, false, false, false, false, false, false, false, false, false, false, false, false, false, false, false, false, false, false, false, false, false, false, false, false]) rfl rfl (by kernel_rfl) (by kernel_rfl) (by kernel_rfl) (by kernel_rfl) (fun _ _ _ h => h) (Or.inl ⟨by rfl, ?_⟩) (by assumption) ?_; rotate_left; · (intro w' hSw; (try dsimp only at hSw); go_simp; (try with_reducible rfl))
            try simp only [Act.put, List.setIfInBounds_toArray, List.set_cons_zero, List.set_cons_succ]
            refine take_to (i := 1) (d := some 52) (v := ?_) (l' := #[true, true, false, false, false, false, false, false, false, false, false, false, false, false, false, false, false, false, false, false, false, false, false, false, false, false, false, false, false, false, false, false, false, false, false, false, false, false, false, false, false, false]) rfl rfl (by kernel_rfl) (by kernel_rfl) (by kernel_rfl) (by kernel_rfl) (fun _ _ _ h => h) (Or.inl ⟨by rfl, ?_⟩) (by assumption) ?_; rotate_left; · (intro w' hSw; (try dsimp only at hSw); go_simp; (try with_reducible rfl))
            try simp only [Act.put, List.setIfInBounds_toArray, List.set_cons_zero, List.set_cons_succ]
            refine take_to (i := 3) (d := some 54) (v := (tagV s)) (l' := #[true, true, false, true, false, false, false, false, false, false, false, false, false, false, false, false, false, false, false, false, false, false, false, false, false, false, false, false, false, false, false, false, false, false, false, false, false, false, false, false, false, false]) rfl rfl (by kernel_rfl) (by kernel_rfl) (by kernel_rfl) (by kernel_rfl) (fun _ _ _ h => h) ?_ (by assumption) ?_
            · exact tag_load' (fun W h => h.2) (by rfl) rfl rfl
            try simp only [Act.put, List.setIfInBounds_toArray, List.set_cons_zero, List.set_cons_succ]
            refine one_to (i := 2) (l' := #[true, true, true, true, false, false, false, false, false, false, false, false, false, false, false, false, false, false, false, false, false, false, false, false, false, false, false, false, false, false, false, false, false, false, false, false, false, false, false, false, false, false]) rfl (by kernel_rfl) (by kernel_rfl) (fun K hK => ?_)
            go_simp
            refine (HC2.out _ HY.out).mono ?_
            rintro e w14 ⟨rfl, hb14⟩
            replace HY := Lib.hid (HY.out.go hb14)
            clear hb14
            dsimp only
            refine hK.out _ _ (by first | exact HY.out.cells | exact HY.out.drew.cells) (fun hHeld => ?_)
            clear hK K
            try simp only [Act.put, List.setIfInBounds_toArray, List.set_cons_zero, List.set_cons_succ]
            refine take_to (i := 4) (d := some 55) (v := ?_) (l' := #[true, true, true, true, true, false, false, false, false, false, false, false, false, false, false, false, false, false, false, false, false, false, false, false, false, false, false, false, false, false, false, false, false, false, false, false, false, false, false, false, false, false]) rfl rfl (by kernel_rfl) (by kernel_rfl) (by kernel_rfl) (by kernel_rfl) (fun _ _ _ h => h) (Or.inl ⟨by rfl, ?_⟩) (by assumption) ?_; rotate_left; · (intro w' hSw; (try dsimp only at hSw); go_simp; (try with_reducible rfl))
            try simp only [Act.put, List.setIfInBounds_toArray, List.set_cons_zero, List.set_cons_succ]
            refine take_to (i := 5) (d := some 56) (v := ?_) (l' := #[true, true, true, true, true, true, false, false, false, false, false, false, false, false, false, false, false, false, false, false, false, false, false, false, false, false, false, false, false, false, false, false, false, false, false, false, false, false, false, false, false, false]) rfl rfl (by kernel_rfl) (by kernel_rfl) (by kernel_rfl) (by kernel_rfl) (fun _ _ _ h => h) (Or.inl ⟨by rfl, ?_⟩) (by assumption) ?_; rotate_left; · (intro w' hSw; (try dsimp only at hSw); go_simp; (try with_reducible rfl))
            try simp only [Act.put, List.setIfInBounds_toArray, List.set_cons_zero, List.set_cons_succ]
            refine take_to (i := 6) (d := some 57) (v := ?_) (l' := #[true, true, true, true, true, true, true, false, false, false, false, false, false, false, false, false, false, false, false, false, false, false, false, false, false, false, false, false, false, false, false, false, false, false, false, false, false, false, false, false, false, false]) rfl rfl (by kernel_rfl) (by kernel_rfl) (by kernel_rfl) (by kernel_rfl) (fun _ _ _ h => h) (Or.inl ⟨by rfl, ?_⟩) (by assumption) ?_; rotate_left; · (intro w' hSw; (try dsimp only at hSw); go_simp; (try with_reducible rfl))
            try simp only [Act.put, List.setIfInBounds_toArray, List.set_cons_zero, List.set_cons_succ]
            refine take_to (i := 8) (d := some 59) (v := ?_) (l' := #[true, true, true, true, true, true, true, false, true, false, false, false, false, false, false, false, false, false, false, false, false, false, false, false, false, false, false, false, false, false, false, false, false, false, false, false, false, false, false, false, false, false]) rfl rfl (by kernel_rfl) (by kernel_rfl) (by kernel_rfl) (by kernel_rfl) (fun _ _ _ h => h) (Or.inl ⟨by rfl, ?_⟩) (by assumption) ?_; rotate_left; · (intro w' hSw; (try dsimp only at hSw); go_simp; (try with_reducible rfl))
            try simp only [Act.put, List.setIfInBounds_toArray, List.set_cons_zero, List.set_cons_succ]
            refine take_to (i := 10) (d := some 61) (v := (tagV s)) (l' := #[true, true, true, true, true, true, true, false, true, false, true, false, false, false, false, false, false, false, false, false, false, false, false, false, false, false, false, false, false, false, false, false, false, false, false, false, false, false, false, false, false, false]) rfl rfl (by kernel_rfl) (by kernel_rfl) (by kernel_rfl) (by kernel_rfl) (fun _ _ _ h => h) ?_ (by assumption) ?_
            · exact tag_load' (fun W h => h.2) (by rfl) rfl rfl
            try simp only [Act.put, List.setIfInBounds_toArray, List.set_cons_zero, List.set_cons_succ]
            refine one_to (i := 7) (l' := #[true, true, true, true, true, true, true, true, true, false, true, false, false, false, false, false, false, false, false, false, false, false, false, false, false, false, false, false, false, false, false, false, false, false, false, false, false, false, false, false, false, false]) rfl (by kernel_rfl) (by kernel_rfl) (fun K hK => ?_)
            go_simp
            refine (HCP.out _ HY.out).mono ?_
            rintro e w14 ⟨m4, B4, q4, v4, rfl, hb14, hk4⟩
            replace HY := Lib.hid (HY.out.go hb14)
            have HK4 := Lib.hid hk4
            clear hb14 hk4
            dsimp only
            refine hK.out _ _ (by first | exact HY.out.cells | exact HY.out.drew.cells) (fun hHeld => ?_)
            clear hK K
            try simp only [Act.put, List.setIfInBounds_toArray, List.set_cons_zero, List.set_cons_succ]
            refine one_to (i := 9) (l' := #[true, true, true, true, true, true, true, true, true, true, true, false, false, false, false, false, false, false, false, false, false, false, false, false, false, false, false, false, false, false, false, false, false, false, false, false, false, false, false, false, false, false]) rfl (by kernel_rfl) (by kernel_rfl) (fun K hK => ?_)
            go_simp
            refine (HCY.out _ _ _ _ _ HY.out HK4.out).mono ?_
            rintro e w14 ⟨rfl, hb14⟩
            replace HY := Lib.hid (HY.out.go hb14)
            clear hb14 HK4
            dsimp only
            refine hK.out _ _ (by first | exact HY.out.cells | exact HY.out.drew.cells) (fun hHeld => ?_)
            clear hK K
            try simp only [Act.put, List.setIfInBounds_toArray, List.set_cons_zero, List.set_cons_succ]
            refine take_to (i := 11) (d := some 62) (v := ?_) (l' := #[true, true, true, true, true, true, true, true, true, true, true, true, false, false, false, false, false, false, false, false, false, false, false, false, false, false, false, false, false, false, false, false, false, false, false, false, false, false, false, false, false, false]) rfl rfl (by kernel_rfl) (by kernel_rfl) (by kernel_rfl) (by kernel_rfl) (fun _ _ _ h => h) (Or.inl ⟨by rfl, ?_⟩) (by assumption) ?_; rotate_left; · (intro w' hSw; (try dsimp only at hSw); go_simp; (try with_reducible rfl))
            try simp only [Act.put, List.setIfInBounds_toArray, List.set_cons_zero, List.set_cons_succ]
            refine take_to (i := 12) (d := some 63) (v := ?_) (l' := #[true, true, true, true, true, true, true, true, true, true, true, true, true, false, false, false, false, false, false, false, false, false, false, false, false, false, false, false, false, false, false, false, false, false, false, false, false, false, false, false, false, false]) rfl rfl (by kernel_rfl) (by kernel_rfl) (by kernel_rfl) (by kernel_rfl) (fun _ _ _ h => h) (Or.inl ⟨by rfl, ?_⟩) (by assumption) ?_; rotate_left; · (intro w' hSw; (try dsimp only at hSw); go_simp; (try with_reducible rfl))
            try simp only [Act.put, List.setIfInBounds_toArray, List.set_cons_zero, List.set_cons_succ]
            refine take_to (i := 13) (d := some 64) (v := ?_) (l' := #[true, true, true, true, true, true, true, true, true, true, true, true, true, true, false, false, false, false, false, false, false, false, false, false, false, false, false, false, false, false, false, false, false, false, false, false, false, false, false, false, false, false]) rfl rfl (by kernel_rfl) (by kernel_rfl) (by kernel_rfl) (by kernel_rfl) (fun _ _ _ h => h) (Or.inl ⟨by rfl, ?_⟩) (by assumption) ?_; rotate_left; · (intro w' hSw; (try dsimp only at hSw); go_simp; (try with_reducible rfl))
            try simp only [Act.put, List.setIfInBounds_toArray, List.set_cons_zero, List.set_cons_succ]
            refine take_to (i := 14) (d := some 65) (v := ?_) (l' := #[true, true, true, true, true, true, true, true, true, true, true, true, true, true, true, false, false, false, false, false, false, false, false, false, false, false, false, false, false, false, false, false, false, false, false, false, false, false, false, false, false, false]) rfl rfl (by kernel_rfl) (by kernel_rfl) (by kernel_rfl) (by kernel_rfl) (fun _ _ _ h => h) (Or.inl ⟨by rfl, ?_⟩) (by assumption) ?_; rotate_left; · (intro w' hSw; (try dsimp only at hSw); go_simp; (try with_reducible rfl))
            try simp only [Act.put, List.setIfInBounds_toArray, List.set_cons_zero, List.set_cons_succ]
            refine take_to (i := 15) (d := some 66) (v := ?_) (l' := #[true, true, true, true, true, true, true, true, true, true, true, true, true, true, true, true, false, false, false, false, false, false, false, false, false, false, false, false, false, false, false, false, false, false, false, false, false, false, false, false, false, false]) rfl rfl (by kernel_rfl) (by kernel_rfl) (by kernel_rfl) (by kernel_rfl) (fun _ _ _ h => h) (Or.inl ⟨by rfl, ?_⟩) (by assumption) ?_; rotate_left; · (intro w' hSw; (try dsimp only at hSw); go_simp; (try with_reducible rfl))
            try simp only [Act.put, List.setIfInBounds_toArray, List.set_cons_zero, List.set_cons_succ]
            refine one_to (i := 16) (l' := #[true, true, true, true, true, true, true, true, true, true, true, true, true, true, true, true, true, false, false, false, false, false, false, false, false, false, false, false, false, false, false, false, false, false, false, false, false, false, false, false, false, false]) rfl (by kernel_rfl) (by kernel_rfl) (fun K hK => ?_)
            go_simp
            refine (pick3_any x.what _).mono ?_
            rw [HKD.out]
            rintro e w' ⟨rfl, rfl⟩
            dsimp only
            refine hK.out _ _ (by first | exact HY.out.cells | exact HY.out.drew.cells) (fun hHeld => ?_)
            clear hK K
            try simp only [Act.put, List.setIfInBounds_toArray, List.set_cons_zero, List.set_cons_succ]
            refine take_to (i := 17) (d := some 68) (v := ?_) (l' := #[true, true, true, true, true, true, true, true, true, true, true, true, true, true, true, true, true, true, false, false, false, false, false, false, false, false, false, false, false, false, false, false, false, false, false, false, false, false, false, false, false, false]) rfl rfl (by kernel_rfl) (by kernel_rfl) (by kernel_rfl) (by kernel_rfl) (fun _ _ _ h => h) (Or.inl ⟨by rfl, ?_⟩) (by assumption) ?_; rotate_left; · (intro w' hSw; (try dsimp only at hSw); go_simp; (try with_reducible rfl))
            try simp only [Act.put, List.setIfInBounds_toArray, List.set_cons_zero, List.set_cons_succ]
            refine take_to (i := 18) (d := some 69) (v := ?_) (l' := #[true, true, true, true, true, true, true, true, true, true, true, true, true, true, true, true, true, true, true, false, false, false, false, false, false, false, false, false, false, false, false, false, false, false, false, false, false, false, false, false, false, false]) rfl rfl (by kernel_rfl) (by kernel_rfl) (by kernel_rfl) (by kernel_rfl) (fun _ _ _ h => h) (Or.inl ⟨by rfl, ?_⟩) (by assumption) ?_; rotate_left; · (intro w' hSw; (try dsimp only at hSw); go_simp; (try with_reducible rfl))
            try simp only [Act.put, List.setIfInBounds_toArray, List.set_cons_zero, List.set_cons_succ]
            refine take_to (i := 19) (d := some 70) (v := ?_) (l' := #[true, true, true, true, true, true, true, true, true, true, true, true, true, true, true, true, true, true, true, true, false, false, false, false, false, false, false, false, false, false, false, false, false, false, false, false, false, false, false, false, false, false]) rfl rfl (by kernel_rfl) (by kernel_rfl) (by kernel_rfl) (by kernel_rfl) (fun _ _ _ h => h) (Or.inl ⟨by rfl, ?_⟩) (by assumption) ?_; rotate_left; · (intro w' hSw; (try dsimp only at hSw); go_simp; (try with_reducible rfl))
            try simp only [Act.put, List.setIfInBounds_toArray, List.set_cons_zero, List.set_cons_succ]
            refine take_to (i := 20) (d := some 71) (v := ?_) (l' := #[true, true, true, true, true, true, true, true, true, true, true, true, true, true, true, true, true, true, true, true, true, false, false, false, false, false, false, false, false, false, false, false, false, false, false, false, false, false, false, false, false, false]) rfl rfl (by kernel_rfl) (by kernel_rfl) (by kernel_rfl) (by kernel_rfl) (fun _ _ _ h => h) (Or.inl ⟨by rfl, ?_⟩) (by assumption) ?_; rotate_left; · (intro w' hSw; (try dsimp only at hSw); go_simp; (try with_reducible rfl))
            try simp only [Act.put, List.setIfInBounds_toArray, List.set_cons_zero, List.set_cons_succ]
            refine take_to (i := 22) (d := some 73) (v := (tagV s)) (l' := #[true, true, true, true, true, true, true, true, true, true, true, true, true, true, true, true, true, true, true, true, true, false, true, false, false, false, false, false, false, false, false, false, false, false, false, false, false, false, false, false, false, false]) rfl rfl (by kernel_rfl) (by kernel_rfl) (by kernel_rfl) (by kernel_rfl) (fun _ _ _ h => h) ?_ (by assumption) ?_
            · exact tag_load' (fun W h => h.2) (by rfl) rfl rfl
            try simp only [Act.put, List.setIfInBounds_toArray, List.set_cons_zero, List.set_cons_succ]
            refine one_to (i := 21) (l' := #[true, true, true, true, true, true, true, true, true, true, true, true, true, true, true, true, true, true, true, true, true, true, true, false, false, false, false, false, false, false, false, false, false, false, false, false, false, false, false, false, false, false]) rfl (by kernel_rfl) (by kernel_rfl) (fun K hK => ?_)
            go_simp
            refine (HC3.out _ HY.out).mono ?_
            rintro e w14 ⟨rfl, hb14⟩
            replace HY := Lib.hid (HY.out.go hb14)
            clear hb14
            dsimp only
            refine hK.out _ _ (by first | exact HY.out.cells | exact HY.out.drew.cells) (fun hHeld => ?_)
            clear hK K
            try simp only [Act.put, List.setIfInBounds_toArray, List.set_cons_zero, List.set_cons_succ]
            refine take_to (i := 23) (d := some 74) (v := ?_) (l' := #[true, true, true, true, true, true, true, true, true, true, true, true, true, true, true, true, true, true, true, true, true, true, true, true, false, false, false, false, false, false, false, false, false, false, false, false, false, false, false, false, false, false]) rfl rfl (by kernel_rfl) (by kernel_rfl) (by kernel_rfl) (by kernel_rfl) (fun _ _ _ h => h) (Or.inl ⟨by rfl, ?_⟩) (by assumption) ?_; rotate_left; · (intro w' hSw; (try dsimp only at hSw); go_simp; (try with_reducible rfl))
            try simp only [Act.put, List.setIfInBounds_toArray, List.set_cons_zero, List.set_cons_succ]
            refine take_to (i := 24) (d := some 75) (v := ?_) (l' := #[true, true, true, true, true, true, true, true, true, true, true, true, true, true, true, true, true, true, true, true, true, true, true, true, true, false, false, false, false, false, false, false, false, false, false, false, false, false, false, false, false, false]) rfl rfl (by kernel_rfl) (by kernel_rfl) (by kernel_rfl) (by kernel_rfl) (fun _ _ _ h => h) (Or.inl ⟨by rfl, ?_⟩) (by assumption) ?_; rotate_left; · (intro w' hSw; (try dsimp only at hSw); go_simp; (try with_reducible rfl))
            try simp only [Act.put, List.setIfInBounds_toArray, List.set_cons_zero, List.set_cons_succ]
            refine take_to (i := 25) (d := some 76) (v := ?_) (l' := #[true, true, true, true, true, true, true, true, true, true, true, true, true, true, true, true, true, true, true, true, true, true, true, true, true, true, false, false, false, false, false, false, false, false, false, false, false, false, false, false, false, false]) rfl rfl (by kernel_rfl) (by kernel_rfl) (by kernel_rfl) (by kernel_rfl) (fun _ _ _ h => h) (Or.inl ⟨by rfl, ?_⟩) (by assumption) ?_; rotate_left; · (intro w' hSw; (try dsimp only at hSw); go_simp; (try with_reducible rfl))
            try simp only [Act.put, List.setIfInBounds_toArray, List.set_cons_zero, List.set_cons_succ]
            refine take_to (i := 26) (d := some 77) (v := ?_) (l' := #[true, true, true, true, true, true, true, true, true, true, true, true, true, true, true, true, true, true, true, true, true, true, true, true, true, true, true, false, false, false, false, false, false, false, false, false, false, false, false, false, false, false]) rfl rfl (by kernel_rfl) (by kernel_rfl) (by kernel_rfl) (by kernel_rfl) (fun _ _ _ h => h) (Or.inl ⟨by rfl, ?_⟩) (by assumption) ?_; rotate_left; · (intro w' hSw; (try dsimp only at hSw); go_simp; (try with_reducible rfl))
            try simp only [Act.put, List.setIfInBounds_toArray, List.set_cons_zero, List.set_cons_succ]
            refine take_to (i := 27) (d := some 78) (v := ?_) (l' := #[true, true, true, true, true, true, true, true, true, true, true, true, true, true, true, true, true, true, true, true, true, true, true, true, true, true, true, true, false, false, false, false, false, false, false, false, false, false, false, false, false, false]) rfl rfl (by kernel_rfl) (by kernel_rfl) (by kernel_rfl) (by kernel_rfl) (fun _ _ _ h => h) (Or.inl ⟨by rfl, ?_⟩) (by assumption) ?_; rotate_left; · (intro w' hSw; (try dsimp only at hSw); go_simp; (try with_reducible rfl))
            try simp only [Act.put, List.setIfInBounds_toArray, List.set_cons_zero, List.set_cons_succ]
            refine one_to (i := 28) (l' := #[true, true, true, true, true, true, true, true, true, true, true, true, true, true, true, true, true, true, true, true, true, true, true, true, true, true, true, true, true, false, false, false, false, false, false, false, false, false, false, false, false, false]) rfl (by kernel_rfl) (by kernel_rfl) (fun K hK => ?_)
            go_simp
            refine (HCL.out _ HY.out).mono ?_
            rintro e w14 ⟨rfl, hb14⟩
            replace HY := Lib.hid (HY.out.go hb14)
            clear hb14
            dsimp only
            refine hK.out _ _ (by first | exact HY.out.cells | exact HY.out.drew.cells) (fun hHeld => ?_)
            clear hK K
            try simp only [Act.put, List.setIfInBounds_toArray, List.set_cons_zero, List.set_cons_succ]
            refine take_to (i := 29) (d := some 80) (v := ?_) (l' := #[true, true, true, true, true, true, true, true, true, true, true, true, true, true, true, true, true, true, true, true, true, true, true, true, true, true, true, true, true, true, false, false, false, false, false, false, false, false, false, false, false, false]) rfl rfl (by kernel_rfl) (by kernel_rfl) (by kernel_rfl) (by kernel_rfl) (fun _ _ _ h => h) (Or.inl ⟨by rfl, ?_⟩) (by assumption) ?_; rotate_left; · (intro w' hSw; (try dsimp only at hSw); go_simp; (try with_reducible rfl))
            try simp only [Act.put, List.setIfInBounds_toArray, List.set_cons_zero, List.set_cons_succ]
            refine take_to (i := 30) (d := some 81) (v := ?_) (l' := #[true, true, true, true, true, true, true, true, true, true, true, true, true, true, true, true, true, true, true, true, true, true, true, true, true, true, true, true, true, true, true, false, false, false, false, false, false, false, false, false, false, false]) rfl rfl (by kernel_rfl) (by kernel_rfl) (by kernel_rfl) (by kernel_rfl) (fun _ _ _ h => h) (Or.inl ⟨by rfl, ?_⟩) (by assumption) ?_; rotate_left; · (intro w' hSw; (try dsimp only at hSw); go_simp; (try with_reducible rfl))
            try simp only [Act.put, List.setIfInBounds_toArray, List.set_cons_zero, List.set_cons_succ]
            refine take_to (i := 31) (d := some 82) (v := ?_) (l' := #[true, true, true, true, true, true, true, true, true, true, true, true, true, true, true, true, true, true, true, true, true, true, true, true, true, true, true, true, true, true, true, true, false, false, false, false, false, false, false, false, false, false]) rfl rfl (by kernel_rfl) (by kernel_rfl) (by kernel_rfl) (by kernel_rfl) (fun _ _ _ h => h) (Or.inl ⟨by rfl, ?_⟩) (by assumption) ?_; rotate_left; · (intro w' hSw; (try dsimp only at hSw); go_simp; (try with_reducible rfl))
            try simp only [Act.put, List.setIfInBounds_toArray, List.set_cons_zero, List.set_cons_succ]
            refine take_to (i := 32) (d := some 83) (v := ?_) (l' := #[true, true, true, true, true, true, true, true, true, true, true, true, true, true, true, true, true, true, true, true, true, true, true, true, true, true, true, true, true, true, true, true, true, false, false, false, false, false, false, false, false, false]) rfl rfl (by kernel_rfl) (by kernel_rfl) (by kernel_rfl) (by kernel_rfl) (fun _ _ _ h => h) (Or.inl ⟨by rfl, ?_⟩) (by assumption) ?_; rotate_left; · (intro w' hSw; (try dsimp only at hSw); go_simp; (try with_reducible rfl))
            try simp only [Act.put, List.setIfInBounds_toArray, List.set_cons_zero, List.set_cons_succ]
            refine take_to (i := 33) (d := some 84) (v := (tagV s)) (l' := #[true, true, true, true, true, true, true, true, true, true, true, true, true, true, true, true, true, true, true, true, true, true, true, true, true, true, true, true, true, true, true, true, true, true, false, false, false, false, false, false, false, false]) rfl rfl (by kernel_rfl) (by kernel_rfl) (by kernel_rfl) (by kernel_rfl) (fun _ _ _ h => h) ?_ (by assumption) ?_
            · exact tag_load' (fun W h => h.2) (by rfl) rfl rfl
            try simp only [Act.put, List.setIfInBounds_toArray, List.set_cons_zero, List.set_cons_succ]
            refine one_to (i := 34) (l' := #[true, true, true, true, true, true, true, true, true, true, true, true, true, true, true, true, true, true, true, true, true, true, true, true, true, true, true, true, true, true, true, true, true, true, true, false, false, false, false, false, false, false]) rfl (by kernel_rfl) (by kernel_rfl) (fun K hK => ?_)
            go_simp
            refine (HCT.out _ HY.out).mono ?_
            rintro e w14 ⟨rfl, hb14⟩
            replace HY := Lib.hid (HY.out.go hb14)
            clear hb14
            dsimp only
            refine hK.out _ _ (by first | exact HY.out.cells | exact HY.out.drew.cells) (fun hHeld => ?_)
            clear hK K
            try simp only [Act.put, List.setIfInBounds_toArray, List.set_cons_zero, List.set_cons_succ]
            refine take_to (i := 35) (d := some 86) (v := ?_) (l' := #[true, true, true, true, true, true, true, true, true, true, true, true, true, true, true, true, true, true, true, true, true, true, true, true, true, true, true, true, true, true, true, true, true, true, true, true, false, false, false, false, false, false]) rfl rfl (by kernel_rfl) (by kernel_rfl) (by kernel_rfl) (by kernel_rfl) (fun _ _ _ h => h) (Or.inl ⟨by rfl, ?_⟩) (by assumption) ?_; rotate_left; · (intro w' hSw; (try dsimp only at hSw); go_simp; (try with_reducible rfl))
            try simp only [Act.put, List.setIfInBounds_toArray, List.set_cons_zero, List.set_cons_succ]
            refine take_to (i := 36) (d := some 87) (v := ?_) (l' := #[true, true, true, true, true, true, true, true, true, true, true, true, true, true, true, true, true, true, true, true, true, true, true, true, true, true, true, true, true, true, true, true, true, true, true, true, true, false, false, false, false, false]) rfl rfl (by kernel_rfl) (by kernel_rfl) (by kernel_rfl) (by kernel_rfl) (fun _ _ _ h => h) (Or.inl ⟨by rfl, ?_⟩) (by assumption) ?_; rotate_left; · (intro w' hSw; (try dsimp only at hSw); go_simp; (try with_reducible rfl))
            try simp only [Act.put, List.setIfInBounds_toArray, List.set_cons_zero, List.set_cons_succ]
            refine take_to (i := 37) (d := some 88) (v := ?_) (l' := #[true, true, true, true, true, true, true, true, true, true, true, true, true, true, true, true, true, true, true, true, true, true, true, true, true, true, true, true, true, true, true, true, true, true, true, true, true, true, false, false, false, false]) rfl rfl (by kernel_rfl) (by kernel_rfl) (by kernel_rfl) (by kernel_rfl) (fun _ _ _ h => h) (Or.inl ⟨by rfl, ?_⟩) (by assumption) ?_; rotate_left; · (intro w' hSw; (try dsimp only at hSw); go_simp; (try with_reducible rfl))
            try simp only [Act.put, List.setIfInBounds_toArray, List.set_cons_zero, List.set_cons_succ]
            refine take_to (i := 38) (d := some 89) (v := ?_) (l' := #[true, true, true, true, true, true, true, true, true, true, true, true, true, true, true, true, true, true, true, true, true, true, true, true, true, true, true, true, true, true, true, true, true, true, true, true, true, true, true, false, false, false]) rfl rfl (by kernel_rfl) (by kernel_rfl) (by kernel_rfl) (by kernel_rfl) (fun _ _ _ h => h) (Or.inl ⟨by rfl, ?_⟩) (by assumption) ?_; rotate_left; · (intro w' hSw; (try dsimp only at hSw); go_simp; (try with_reducible rfl))
            try simp only [Act.put, List.setIfInBounds_toArray, List.set_cons_zero, List.set_cons_succ]
            refine one_to (i := 39) (l' := #[true, true, true, true, true, true, true, true, true, true, true, true, true, true, true, true, true, true, true, true, true, true, true, true, true, true, true, true, true, true, true, true, true, true, true, true, true, true, true, true, false, false]) rfl (by kernel_rfl) (by kernel_rfl) (fun K hK => ?_)
            go_simp
            refine (HCR.out _ HY.out).mono ?_
            rintro e w' ⟨rfl, rfl⟩
            dsimp only
            refine hK.out _ _ (by first | exact HY.out.cells | exact HY.out.drew.cells) (fun hHeld => ?_)
            clear hK K
            try simp only [Act.put, List.setIfInBounds_toArray, List.set_cons_zero, List.set_cons_succ]
            refine take_to (i := 40) (d := some 91) (v := ?_) (l' := #[true, true, true, true, true, true, true, true, true, true, true, true, true, true, true, true, true, true, true, true, true, true, true, true, true, true, true, true, true, true, true, true, true, true, true, true, true, true, true, true, true, false]) rfl rfl (by kernel_rfl) (by kernel_rfl) (by kernel_rfl) (by kernel_rfl) (fun _ _ _ h => h) (Or.inl ⟨by rfl, ?_⟩) (by assumption) ?_; rotate_left; · (intro w' hSw; (try dsimp only at hSw); go_simp; (try with_reducible rfl))
            try simp only [Act.put, List.setIfInBounds_toArray, List.set_cons_zero, List.set_cons_succ]
            refine take_to (i := 41) (d := some 6) (v := ?_) (l' := #[true, true, true, true, true, true, true, true, true, true, true, true, true, true, true, true, true, true, true, true, true, true, true, true, true, true, true, true, true, true, true, true, true, true, true, true, true, true, true, true, true, true]) rfl rfl (by kernel_rfl) (by kernel_rfl) (by kernel_rfl) (by kernel_rfl) (fun _ _ _ h => h) (Or.inl ⟨by rfl, ?_⟩) (by assumption) ?_; rotate_left; · (intro w' hSw; (try dsimp only at hSw); go_simp; (try with_reducible rfl))
            try simp only [Act.put, List.setIfInBounds_toArray, List.set_cons_zero, List.set_cons_succ]
            refine wpAnyH_done (by kernel_rfl) ?_ _
            refine NoPanic.normal ?_
            clear hHeld
            go_wp2
            go_ret
            exact ⟨rfl, HY.out.rt.bel⟩
    · go_wp2
      go_ret
      exact ⟨rfl, hB1⟩
end Go.Proofs.YtoocfkaclhgjeaaDoor
