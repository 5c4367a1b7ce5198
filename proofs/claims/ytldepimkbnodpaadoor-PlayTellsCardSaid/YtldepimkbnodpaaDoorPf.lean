/-
  Contracts: the castlings that a move loses.
-/
import Derived.Test.YtldepimkbnodpaaDoorPd
import Derived.Maps.OwnOps
import Derived.Lib.QuietBelow
namespace Go.Proofs.YtldepimkbnodpaaDoor
open Go.RowKit Go.Sort Go.Maps
set_option linter.unusedSimpArgs false
set_option linter.unusedVariables false

/-- the castlings that a move from or to a square loses -/
def lostN (s : Int) : Int := if s = 4 then 3 else if s = 7 then 1 else if s = 0 then 2 else if s = 60 then 12 else if s = 63 then 4 else if s = 56 then 8 else 0
theorem lawInt : Keyed Tryd.prog 3 := int_keyed Tryd.underlying3
theorem zeroCas (w : World) : (zeroValue 27).run Tryd.prog w = .ok (.int .i64 0) w := by kernel_rfl
def lp (D : DataW Unit) (a b : Int) : DataW Unit := D.put (.int .i64 a) (.lit (.int .i64 b))
def lostD : DataW Unit := lp (lp (lp (lp (lp (lp (.map []) 4 3) 7 1) 0 2) 60 12) 63 4) 56 8
def lostOk (f : Nat) : Bool := match lostD.atKey (.int .i64 (f : Int)) (.lit (.int .i64 0)) with
  | .lit (.int .i64 c) => c == lostN f
  | _ => false
theorem lost_all : ∀ f, f < 64 → lostOk f = true := by decide +kernel
theorem key_int (a : Int) (h : (Lit.int .i64 a).wf = true) : keyOf Tryd.prog 3 (.int .i64 a) = some (.int .i64 a) := keyOf_int_mk Tryd.underlying3 h
theorem wpList_insert_own {H : Type} {P : Program} (w : World) {ops : Array Oper} {rest : List Oper} {o : Oper} {a : Act} {Q : Exit → Act → World → Prop}
    (hg : o.guard = none) (m x v : Operand) (t : TypeId) (hop : o.op = Op.insert t m x v)
    (k e : TypeId) (K : Keyed P k) (ht : P.underlying t = some (.map k e)) (R : Value → Option (DataW H × List MemPlace)) (b n : Nat) (D : DataW H)
    (hm : a.eval m = .map (some b)) (hown : w.ownsMap P k R b n D) (hn : n < maxLen) (key val : Value) (kl : Lit) (hx : a.eval x = key) (hv : a.eval v = val) (hkey : keyOf P k key = some kl)
    (d : DataW H) (ps : List MemPlace) (hval : R val = some (d, ps))
    (hK : ∀ w', w'.ownsMap P k R b (n + 1) (D.put kl d) → w.grownBy w' (some b) → wpList P ops Q rest (a.put o.dst undef) w') :
    wpList P ops Q (o :: rest) a w := by
  refine wpList_plain hg fun K' hK' => ?_
  obtain ⟨w', hrun, r1, r2⟩ := hown.update K ht hn hkey hval
  unfold Oper.wp
  simp [execOp, hop, hm, hx, hv, hrun, Result.andThen]
  exact hK' _ _ (hK w' r1 r2)
/-- what stands while the map is laid -/
structure LM (w W : World) (n : Nat) (D : DataW Unit) : Prop where
  m : W.ownsMap Tryd.prog 3 (plainElem Tryd.prog 27) w.heap.size n D
  b : Below w.heap.size w W
theorem LM.up {w W W' : World} {n m : Nat} {D : DataW Unit} (h : LM w W n D) {D' : DataW Unit} (h1 : W'.ownsMap Tryd.prog 3 (plainElem Tryd.prog 27) w.heap.size m D') (g : W.grownBy W' (some w.heap.size)) : LM w W' m D' :=
  ⟨h1, h.b.grown g h.b.size (by rintro k ⟨⟩; exact Nat.le_refl _)⟩
set_option maxHeartbeats 2000000 in
theorem losses_any (w : World) :
    Calls Tryd.prog 68 #[] w fun e w' => e = .returned (.map (some w.heap.size)) ∧ LM w w' 6 lostD := by
  have hmm := @run_makeMap Tryd.prog
  have HI := Lib.hid (show LM w (w.alloc (.map #[] 0)) 0 (.map []) from ⟨World.ownsMap_made _ _ _ _, (Below.refl _ _).alloc (Nat.le_refl _) _⟩)
  go_enter Tryd.func68, Tryd.ntmps68
  go_upto_region 1 with (fail)
  refine wp_region_lit ?_
  refine wpList_plain rfl (fun K hK => ?_)
  go_simp
  refine hK _ _ ?_
  clear hK K hmm
  refine forgetL_B (fun W => LM w W 0 (.map [])) HI.out ?_
  clear HI
  intro W0 h0
  refine wpList_insert_own _ rfl _ _ _ _ rfl 3 27 lawInt Tryd.underlying83 _ _ _ _ rfl h0.m (by unfold maxLen; omega) _ _ _ rfl rfl (key_int _ rfl) _ [] (plainElem_int Tryd.underlying27 (by rfl)) ?_
  intro W1 r1 r2
  have h1 := h0.up r1 r2
  clear r1 r2 h0
  refine wpList_insert_own _ rfl _ _ _ _ rfl 3 27 lawInt Tryd.underlying83 _ _ _ _ rfl h1.m (by unfold maxLen; omega) _ _ _ rfl rfl (key_int _ rfl) _ [] (plainElem_int Tryd.underlying27 (by rfl)) ?_
  intro W2 r1 r2
  have h2 := h1.up r1 r2
  clear r1 r2 h1
  refine wpList_insert_own _ rfl _ _ _ _ rfl 3 27 lawInt Tryd.underlying83 _ _ _ _ rfl h2.m (by unfold maxLen; omega) _ _ _ rfl rfl (key_int _ rfl) _ [] (plainElem_int Tryd.underlying27 (by rfl)) ?_
  intro W3 r1 r2
  have h3 := h2.up r1 r2
  clear r1 r2 h2
  refine wpList_insert_own _ rfl _ _ _ _ rfl 3 27 lawInt Tryd.underlying83 _ _ _ _ rfl h3.m (by unfold maxLen; omega) _ _ _ rfl rfl (key_int _ rfl) _ [] (plainElem_int Tryd.underlying27 (by rfl)) ?_
  intro W4 r1 r2
  have h4 := h3.up r1 r2
  clear r1 r2 h3
  refine wpList_insert_own _ rfl _ _ _ _ rfl 3 27 lawInt Tryd.underlying83 _ _ _ _ rfl h4.m (by unfold maxLen; omega) _ _ _ rfl rfl (key_int _ rfl) _ [] (plainElem_int Tryd.underlying27 (by rfl)) ?_
  intro W5 r1 r2
  have h5 := h4.up r1 r2
  clear r1 r2 h4
  refine wpList_insert_own _ rfl _ _ _ _ rfl 3 27 lawInt Tryd.underlying83 _ _ _ _ rfl h5.m (by unfold maxLen; omega) _ _ _ rfl rfl (key_int _ rfl) _ [] (plainElem_int Tryd.underlying27 (by rfl)) ?_
  intro W6 r1 r2
  have h6 := h5.up r1 r2
  clear r1 r2 h5
  have H6 := Lib.hid h6
  clear h6
  go_wp2
  go_ret
  exact ⟨rfl, H6.out⟩
theorem lost_run (f : Nat) (hf : f < 64) (w W : World) (h : LM w W 6 lostD) : (Instr.lookup 83 (.map (some w.heap.size)) (.int .i64 (f : Int)) false).run Tryd.prog W = .ok (.int .i64 (lostN f)) W := by
  obtain ⟨c, hrun, hat, hwc⟩ := h.m.lookup_int lawInt Tryd.underlying83 Tryd.underlying27 (zeroCas W) (key_int (f : Int) (WalkArith.wf_i64 (by omega)))
  have hl := lost_all f hf
  unfold lostOk at hl
  rw [hat] at hl
  have : c = lostN f := by simpa using hl
  rw [hrun, this]
/-- the castlings behind a move -/
def casM (c : Int) (f t : Nat) : Int := bits .andNot .i64 c (bits .or .i64 (lostN f) (lostN t))
/-- what stands while castlings are lost -/
structure HL (w W : World) (blk : Nat) (Q : Nat → Int) (f t k : Int) (w1 : World) : Prop where
  h : HG w W blk Q
  m : W.heap[w.heap.size]? = some (.cells #[.int .i64 f, .int .i64 t, .int .i64 k] 38 (0, 0))
  l : LM w1 W 6 lostD
theorem HL.go {w W W' : World} {blk : Nat} {Q : Nat → Int} {f t k : Int} {w1 : World} (h : HL w W blk Q f t k w1) (hs : w1.heap.size < W.heap.size) (g : Below W.heap.size W W') : HL w W' blk Q f t k w1 :=
  ⟨h.h.go g, sl_go h.m g, ⟨h.l.m.kept (gr_of_below none g) (by simp), h.l.b.trans (g.mono h.l.b.size)⟩⟩
set_option maxHeartbeats 2000000 in
theorem loseCastlings_any (b : Nat) (P : Nat → Int) (f t : Nat) (k : Int) (hf : f < 64) (ht : t < 64) (w : World) (hp : PB w b P) :
    Calls Tryd.prog 49 #[.pointer (some ⟨b, 0, none⟩), .agg #[.int .i64 (f : Int), .int .i64 (t : Int), .int .i64 k]] w fun e w' => e = .returned (.tuple #[]) ∧ HG w w' b (setN P 129 (casM (P 129) f t)) := by
  have HI := Lib.hid (show HG w (w.alloc (.cells #[.int .i64 (f : Int), .int .i64 (t : Int), .int .i64 k] 38)) b P ∧ (w.alloc (.cells #[.int .i64 (f : Int), .int .i64 (t : Int), .int .i64 k] 38)).heap[w.heap.size]? = some (.cells #[.int .i64 (f : Int), .int .i64 (t : Int), .int .i64 k] 38 (0, 0)) from
    ⟨(HG.begin hp).go (below_new _), sl_at rfl⟩)
  have HV := Lib.hid (show casM (P 129) f t = bits .andNot .i64 (P 129) (bits .or .i64 (lostN f) (lostN t)) from rfl)
  have HC := Lib.hid (show ∀ W, PB W b P → W.cell? ⟨b, 129, none⟩ = some (.int .i64 (P 129)) from fun W h => h.cell 129 (by omega))
  have R1 := Lib.hid (fun w W h => lost_run f hf w W h)
  have R2 := Lib.hid (fun w W h => lost_run t ht w W h)
  clear hp
  generalize casM (P 129) f t = R at *
  generalize P 129 = c at *
  generalize lostN f = lf at *
  generalize lostN t = lt at *
  go_enter Tryd.func49, Tryd.ntmps49
  go_upto_region 1 with (fail)
  refine forget_B (fun W => HG w W b P ∧ W.heap[w.heap.size]? = some (.cells #[.int .i64 (f : Int), .int .i64 (t : Int), .int .i64 k] 38 (0, 0))) HI.out ?_
  clear HI
  rintro W ⟨h1, h2⟩
  have H1 := Lib.hid h1
  have H2 := Lib.hid h2
  clear h1 h2
  go_wp2_with fail
  refine (losses_any _).mono ?_
  rintro e w1 ⟨rfl, hl⟩
  have HI := Lib.hid (show HL w w1 b P f t k W from ⟨H1.out.go hl.b, sl_go H2.out hl.b, hl⟩)
  have hs := hl.m.lt
  clear hl H1 H2
  go_upto_region 2 with (fail)
  have HS := Lib.hid hs
  obtain ⟨x0, x1, x2, xf, xz⟩ := row3 HI.out.m
  replace x0 := cell_regrown x0
  replace x1 := cell_regrown x1
  have y1 := cell_regrown (HC.out _ HI.out.h.q)
  have r1 := fun d os => R1.out W (grow (redrawn w1 d) os) (HI.out.go HS.out (below_regrown w1 d os)).l
  have r2 := fun d os => R2.out W (grow (redrawn w1 d) os) (HI.out.go HS.out (below_regrown w1 d os)).l
  clear x2 xf xz
  refine wp_region_quiet_store 18 (by kernel_rfl) rfl rfl (by kernel_rfl) (by kernel_rfl) (C := fun W' => ∃ p : Regrown, W' = grow (redrawn w1 p.d) p.os) (regrown_self _) ?_
  simp only [List.take_succ_cons, List.take_zero]
  repeat (quiet_step (fail))
  refine wpQuiet_nil ?_
  rintro W6 ⟨q, rfl⟩
  refine ⟨by rfl, ?_⟩
  replace HI := Lib.hid (HI.out.go HS.out (below_regrown w1 q.d q.os))
  clear x0 x1 y1 r1 r2 hs HS
  generalize grow (redrawn w1 q.d) q.os = W6 at HI ⊢
  have e1 := HC.out _ HI.out.h.q
  have e3 := HI.out.h.q.fr 129
  rw [← HV.out]
  have HF := Lib.hid (HI.out.h.set 129 R (by omega))
  go_simp
  go_wp2
  go_end0
  exact ⟨rfl, HF.out⟩
end Go.Proofs.YtldepimkbnodpaaDoor
