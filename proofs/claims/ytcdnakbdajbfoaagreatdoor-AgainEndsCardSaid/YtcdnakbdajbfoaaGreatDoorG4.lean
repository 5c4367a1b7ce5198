/-
  Merged: Bq, Bi, Pa.
-/
import Derived.Test.YtcdnakbdajbfoaaGreatDoorG3
import Derived.BigQuiet

namespace Go.Proofs.YtcdnakbdajbfoaaGreatDoor
open Go.RowKit Go.Sort
set_option linter.unusedSimpArgs false
set_option linter.unusedVariables false
section
variable {P : Program} {ops : Array Oper} {C : World → Prop} {Q : Act → Prop} {md : Region.Mode}

theorem wpQuiet_rows {rest : List Oper} {o : Oper} {a : Act} {b : Nat} {ty : TypeId} {x : Operand} {cs : List Value} {d : TypeDesc} (hc : ∀ W, C W → W.rangeAt b 0 cs) (hu : P.underlying ty = some d) (hd : d.isRow = true)
    (hi : (P.info? ty).map (·.size) = some cs.length) (hw : Region.wanted o (yielded ops a.tmps) = true) (ho : o.op = .load ty x) (hx : a.eval x = .pointer (some ⟨b, 0, none⟩))
    (h : wpQuiet P ops C Q rest (a.put o.dst (.agg cs.toArray))) : wpQuiet P ops C Q (o :: rest) a :=
  BigFrame.wpQuiet_want hw fun K hK => ⟨.agg cs.toArray, fun W hW => by
    unfold Oper.quietAt execOp
    simp only [ho, hx, Instr.loadAt, Instr.sureAddr, Sem.run_bind, Sem.run_pure, Result.andThen_ok, run_loadVar_mid W b 0 ty cs d (hc W hW) hu hd hi]
    exact ⟨rfl, rfl⟩, hK _ h⟩
theorem wpQuiet_mono_B {Q Q' : Act → Prop} (h : ∀ a, Q a → Q' a) : ∀ (l : List Oper) (a : Act), wpQuiet P ops C Q l a → wpQuiet P ops C Q' l a
  | [], a, hh => h a hh
  | o :: l, a, hh => by
    unfold wpQuiet at hh ⊢
    split at hh
    · rename_i hw; rw [if_pos hw]; exact Oper.quiet_mono (wpQuiet_mono_B h l) hh
    · rename_i hw; rw [if_neg hw]; exact wpQuiet_mono_B h l _ hh
theorem wpAnyQ_lexB {Q : Act → Prop} (hs : Region.noSelect ops = true) : ∀ (l : List Oper) (k : Nat) (listed : Array Bool) (a : Act), (∀ j, j < l.length → l[j]? = ops[k + j]?) →
    Region.lexFrom md ops l.length k listed = true → wpQuiet P ops C Q l a → wpAnyQ P md ops C Q l.length listed a
  | [], _, _, _, _, hB, h => ⟨by simpa [Region.lexFrom] using hB, h⟩
  | o :: l, k, listed, a, hl, hB, h => by
    have h0 : ops[k]? = some o := by simpa using (hl 0 (by simp)).symm
    simp only [List.length_cons, Region.lexFrom, Bool.and_eq_true] at hB
    obtain ⟨⟨hr, hf⟩, hB'⟩ := hB
    have hst : qOp P ops C k (wpQuiet P ops C Q l) a := by unfold qOp; simp only [h0]; exact h
    obtain ⟨v, hy, hK⟩ := yieldsIn_of_qOp h0 hst
    exact wpAnyQ_first h0 (Region.noSelect_spec hs) l.length listed a (Region.free_spec h0 hf) (by simpa using hr) hy
      (wpAnyQ_lexB hs l (k + 1) _ _ (fun j hj => by have := hl (j + 1) (by simpa using hj); simpa [Nat.add_assoc, Nat.add_comm 1 j] using this) hB' hK)
def lexLast (n : Nat) (ops : Array Oper) : Bool := Region.noSelect ops && Region.lexFrom .any ops n 0 ((Array.replicate (n + 1) false).setIfInBounds n true)
theorem wp_region_quiet_last {id n : Nat} {Q : Exit → Act → World → Prop} {a : Act} {w : World} {l : List Oper} {o : Oper} (hm : P.follows .mixedOrders = true) (hln : l.length = n) (hk : lastOk .any (l ++ [o]).toArray n = true) (hB : lexLast n (l ++ [o]).toArray = true) (hC : C w.drew)
    (h : wpQuiet P (l ++ [o]).toArray C (fun a' => ∀ w', C w' → Behind P (l ++ [o]).toArray n Q .normal a' w') l a) : (Code.region id (l ++ [o]).toArray true).wp P Q a w := by
  subst hln
  unfold lexLast at hB
  simp only [Bool.and_eq_true] at hB
  refine wp_region_any hm ?_
  rw [show (l ++ [o]).toArray.size = l.length + 1 by simp]
  refine wpAny_last (Q := Q) (Q' := Behind P (l ++ [o]).toArray l.length Q) (fun _ _ _ h => h) (fun _ _ h => h) (fun _ _ h => h) hk (by simp) l.length _ a w.drew (by simp) ?_ (by simp)
    (wpAny_of_quiet (Q := fun a' => ∀ w', C w' → Behind P (l ++ [o]).toArray l.length Q .normal a' w') (fun _ w' hw' h => h w' hw') _ _ _ _ hC ?_)
  · intro j o' hoj hjt hl
    have : j < l.length + 1 := by have := (Array.getElem?_eq_some_iff.1 hoj).1; simpa using this
    simp [this] at hl
  · exact wpAnyQ_lexB hB.1 l 0 _ a (fun j hj => by rw [List.getElem?_toArray, Nat.zero_add, List.getElem?_append_left hj]) hB.2 h
theorem wp_region_quiet_store {id : Nat} {Q : Exit → Act → World → Prop} {a : Act} {w : World} {L : List Oper} {o : Oper} (n : Nat) (hm : P.follows .mixedOrders = true) (hn : L.length = n + 1) (ho : L[n]? = some o) (hk : lastOk .any L.toArray n = true) (hB : lexLast n L.toArray = true) (hC : C w.drew)
    (h : wpQuiet P L.toArray C (fun a' => ∀ w', C w' → Region.wanted o (yielded L.toArray a'.tmps) = true ∧ o.wp P a' w' (Q .normal) Q) (L.take n) a) : (Code.region id L.toArray true).wp P Q a w := by
  have hL : L = L.take n ++ [o] := by
    have h1 := List.take_append_drop n L
    have h2 : L.drop n = [o] := by
      have hlt : n < L.length := by omega
      rw [List.drop_eq_getElem_cons hlt, List.drop_eq_nil_of_le (by omega)]
      rw [List.getElem?_eq_getElem hlt] at ho
      rw [Option.some.inj ho]
    rw [h2] at h1
    exact h1.symm
  generalize hl : L.take n = l at hL h
  subst hL
  have hlen : l.length = n := by simp at hn; exact hn
  refine wp_region_quiet_last hm hlen hk hB hC ?_
  refine wpQuiet_mono_B (fun a' h' w' hw' => ?_) l a h
  obtain ⟨h1, h2⟩ := h' w' hw'
  exact behind_go (by rw [List.getElem?_toArray]; exact ho) h1 h2
end
theorem regrown_call {P : Program} {f : FuncId} {args : Array Value} {w : World} {v : Value}
    (h : ∀ W, Calls P f args W fun e w' => e = .returned v ∧ Below W.heap.size W w') (d : Nat) (os : Array Obj) : Calls P f args (grow (redrawn w d) os) fun e w'' => e = .returned v ∧ ∃ p : Regrown, w'' = grow (redrawn w p.d) p.os :=
  Calls.regrown_of (h _)
theorem regrown_same {P : Program} {f : FuncId} {args : Array Value} {w : World} {v : Value}
    (h : ∀ W, Calls P f args W fun e w' => e = .returned v ∧ W = w') (d : Nat) (os : Array Obj) : Calls P f args (grow (redrawn w d) os) fun e w'' => e = .returned v ∧ ∃ p : Regrown, w'' = grow (redrawn w p.d) p.os :=
  (h _).mono fun _ _ ⟨he, hb⟩ => ⟨he, ⟨d, os⟩, hb.symm⟩
theorem regrown_self (w : World) : ∃ p : Regrown, w.drew = grow (redrawn w p.d) p.os := ⟨⟨w.drawn + 1, #[]⟩, by rw [grow_empty]; rfl⟩
theorem PB.regrown {w : World} {b : Nat} {P : Nat → Int} (h : PB w b P) : ∀ W, (∃ p : Regrown, W = grow (redrawn w p.d) p.os) → PB W b P := by
  rintro W ⟨p, rfl⟩
  exact h.go (below_regrown w p.d p.os)
end Go.Proofs.YtcdnakbdajbfoaaGreatDoor

namespace Go.Proofs.YtcdnakbdajbfoaaGreatDoor
open Go.RowKit Go.Sort
set_option linter.unusedSimpArgs false
set_option linter.unusedVariables false

theorem two_at (w : World) (o1 o2 : Obj) : ((w.alloc o1).alloc o2).heap[w.heap.size]? = some o1 ∧ ((w.alloc o1).alloc o2).heap[w.heap.size + 1]? = some o2 ∧
    Below w.heap.size w ((w.alloc o1).alloc o2) ∧ ((w.alloc o1).alloc o2).heap.size = w.heap.size + 2 :=
  ⟨sl_go (sl_at rfl) (below_new _), sl_at (by simp), (below_new _).alloc (by simp) _, by simp⟩
def mir (s : Nat) : Nat := 8 * (7 - s / 8) + s % 8
theorem ret_go {P : Program} {K : Act → World → Prop} {Q Q' : Exit → Act → World → Prop} {a : Act} {w : World} (h : ∀ a w, Code.ret.wp P Q a w → K a w) (hq : Q .ret a w) : Exit.then K Q' .normal a w := h _ _ (wp_ret hq)
theorem then_ret {K : Act → World → Prop} {Q : Exit → Act → World → Prop} {a : Act} {w : World} (h : Q .ret a w) : Exit.then K Q .ret a w := h
theorem block_ret {i : Nat} {Q : Exit → Act → World → Prop} {a : Act} {w : World} (h : Q .ret a w) : Exit.inBlock i Q .ret a w := h
theorem zeroPos : Tryz.zeroCells30 = (pc fun _ => 0).toArray := by kernel_rfl
theorem PB.other {w : World} {b c : Nat} {P : Nat → Int} (h : PB w b P) (hne : b ≠ c) (i : Nat) (v : Value) : PB (w.setCell ⟨c, i, none⟩ v) b P :=
  h.gr (gr1_B v) (by intro e; injection e with e; exact hne e)
theorem PB.others {w : World} {b c : Nat} {P : Nat → Int} (h : PB w b P) (hne : b ≠ c) (o : Nat) (vs : List Value) : PB (w.setCells c o vs) b P :=
  h.gr (grs_B vs o w) (by intro e; injection e with e; exact hne e)

end Go.Proofs.YtcdnakbdajbfoaaGreatDoor

namespace Go.Proofs.YtcdnakbdajbfoaaGreatDoor
open Go.RowKit Go.Sort
set_option linter.unusedSimpArgs false
set_option linter.unusedVariables false
set_option maxRecDepth 20000

def emB (P : Nat → Int) (s : Nat) : Bool := pe (P (2 * s)) (P (2 * s + 1)) 0 0
def ptN (P : Nat → Int) (m : Nat) (k d : Int) : Nat → Int := setN (setN P (2 * m) k) (2 * m + 1) d
def rkN (P : Nat → Int) (s : Nat) : Int := if P 128 = 0 then ((s / 8 : Nat) : Int) else 7 - ((s / 8 : Nat) : Int)
def pwnB (P : Nat → Int) (s : Nat) : Bool := P (2 * s) == 1
def ownB (P : Nat → Int) (s : Nat) : Bool := sideB (P 128) && (P (2 * s + 1) == P 128) && decide (1 ≤ P (2 * s)) && decide (P (2 * s) ≤ 6)
def becB (P : Nat → Int) (f t : Nat) (b : Int) : Bool := if pwnB P f && (rkN P t == 7) then decide (2 ≤ b) && decide (b ≤ 5) else b == 0
def smF (f t : Nat) : Bool := f % 8 == t % 8
def ovrB (P : Nat → Int) (f t : Nat) : Bool := pwnB P f && !smF f t && ((t : Int) == P 130) && emB P t
def atN (P : Nat → Int) (f t : Nat) : Nat := if ovrB P f t then 8 * (f / 8) + t % 8 else t
theorem atN_lt (P : Nat → Int) (f t : Nat) (hf : f < 64) (ht : t < 64) : atN P f t < 64 := by unfold atN; split <;> omega
def tksN (P : Nat → Int) (f t : Nat) : Int := if emB P (atN P f t) then -1 else (atN P f t : Int)
def lngB (P : Nat → Int) (f t : Nat) : Bool := pwnB P f && smF f t && (rkN P f == 1) && (rkN P t == 3)
def fltN (P : Nat → Int) (f t b : Int) : Int := if !sq f || !sq t || f == t then 6 else if ownB P f.toNat && becB P f.toNat t.toNat b then 0 else 8
def incN (n m : Int) : Int := if m ≤ n then m else wrap64 (n + 1)
theorem emB_at (P : Nat → Int) (s : Nat) : emB P s = pe (P (s * 2)) (P (s * 2 + 1)) 0 0 := by unfold emB; rw [Nat.mul_comm]
theorem pwnB_at (P : Nat → Int) (s : Nat) : pwnB P s = (P (s * 2) == 1) := by unfold pwnB; rw [Nat.mul_comm]
theorem sR_sq (s : Nat) (h : s < 64) : sR (s : Int) = ((s / 8 : Nat) : Int) := by unfold sR; rw [if_pos ((sq_iff _).2 (by omega))]; omega
theorem sF_sq (s : Nat) (h : s < 64) : sF (s : Int) = ((s % 8 : Nat) : Int) := by unfold sF; rw [if_pos ((sq_iff _).2 (by omega))]; omega

theorem isSideP_any (d : Int) (w : World) :
    Calls Tryz.prog 120 #[.int .i64 d] w fun e w' => e = .returned (.bool (sideB d)) ∧ w = w' := by
  rcases side_cases d with ⟨rfl, hb⟩ | ⟨rfl, hb⟩ | ⟨h0, h1, hb⟩
  all_goals rw [hb]
  all_goals clear hb
  all_goals
    go_enter Tryz.func120, Tryz.ntmps120
    go_wp2
    go_ret
    exact ⟨rfl, rfl⟩
theorem oneMore_any (n m : Int) (w : World) :
    Calls Tryz.prog 188 #[.int .i64 n, .int .i64 m] w fun e w' => e = .returned (.int .i64 (incN n m)) ∧ w = w' := by
  unfold incN
  by_cases h : m ≤ n
  · rw [if_pos h]
    go_enter Tryz.func188, Tryz.ntmps188
    go_wp2
    go_ret
    exact ⟨rfl, rfl⟩
  · rw [if_neg h]
    go_enter Tryz.func188, Tryz.ntmps188
    go_wp2
    go_ret
    exact ⟨rfl, rfl⟩
set_option maxHeartbeats 1000000 in
theorem rankP_any (b : Nat) (P : Nat → Int) (s : Nat) (hs : s < 64) (w : World) (hp : PB w b P) :
    Calls Tryz.prog 122 #[.pointer (some ⟨b, 0, none⟩), .int .i64 (s : Int)] w fun e w' => e = .returned (.int .i64 (rkN P s)) ∧ Below w.heap.size w w' := by
  have e1 := hp.cell 128 (by omega)
  have hr := sR_sq s hs
  have hb8 : s / 8 < 8 := by omega
  unfold rkN
  by_cases h : P 128 = 0
  · rw [if_pos h]
    rw [h] at e1
    have HR := Lib.hid hr
    clear hr h hp
    go_enter Tryz.func122, Tryz.ntmps122
    go_wp2_with fail
    refine (rank_any _ _).mono ?_
    rw [HR.out]
    rintro e w1 ⟨rfl, hb⟩
    go_wp2
    go_ret
    exact ⟨rfl, hb⟩
  · rw [if_neg h]
    have h0 : (P 128 == 0) = false := by simp [h]
    have HR := Lib.hid hr
    have hw : IntKind.i64.wrap (7 - ((s / 8 : Nat) : Int)) = 7 - ((s / 8 : Nat) : Int) := IntWalk.i64_in _ (by omega)
    generalize P 128 = d at *
    clear hr h hp
    go_enter Tryz.func122, Tryz.ntmps122
    go_wp2_with fail
    refine (rank_any _ _).mono ?_
    rw [HR.out]
    rintro e w1 ⟨rfl, hb⟩
    go_wp2
    go_ret
    exact ⟨q_i (by first | rfl | exact hw | simp [hw] | omega), hb⟩
set_option maxHeartbeats 1000000 in
theorem stands_same (b : Nat) (P : Nat → Int) (s : Nat) (hs : s < 64) (w : World) (hp : PB w b P) :
    Calls Tryz.prog 101 #[.pointer (some ⟨b, 0, none⟩), .int .i64 (s : Int)] w fun e w' => e = .returned (.bool (!emB P s)) ∧ w = w' := by
  have e1 := hp.cell (s * 2) (by omega)
  have e2 := hp.cell (s * 2 + 1) (by omega)
  have s0 : (0 : Int) ≤ s := by omega
  have s1 : (s : Int) < 64 := by omega
  rw [emB_at]
  clear hp
  go_enter Tryz.func101, Tryz.ntmps101
  go_wp2
  go_ret
  exact ⟨rfl, rfl⟩
theorem stands_any (b : Nat) (P : Nat → Int) (s : Nat) (hs : s < 64) (w : World) (hp : PB w b P) :
    Calls Tryz.prog 101 #[.pointer (some ⟨b, 0, none⟩), .int .i64 (s : Int)] w fun e w' => e = .returned (.bool (!emB P s)) ∧ Below w.heap.size w w' :=
  (stands_same b P s hs w hp).mono fun e w' ⟨h1, h2⟩ => ⟨h1, by subst h2; exact Below.refl _ _⟩
structure HM (w W : World) (blk : Nat) (P : Nat → Int) (f t k : Int) : Prop where
  p : PB W blk P
  x : W.heap[w.heap.size]? = some (.cells #[.int .i64 f, .int .i64 t, .int .i64 k] 52 (0, 0))
  b : Below w.heap.size w W
theorem HM.begin {w : World} {blk : Nat} {P : Nat → Int} (f t k : Int) (h : PB w blk P) : HM w (w.alloc (.cells #[.int .i64 f, .int .i64 t, .int .i64 k] 52)) blk P f t k :=
  ⟨h.alloc _, sl_at rfl, below_new _⟩
theorem HM.go {w W W' : World} {blk : Nat} {P : Nat → Int} {f t k : Int} (h : HM w W blk P f t k) (g : Below W.heap.size W W') : HM w W' blk P f t k :=
  ⟨h.p.go g, sl_go h.x g, h.b.trans (g.mono h.b.size)⟩
theorem HM.cells {w W : World} {blk : Nat} {P : Nat → Int} {f t k : Int} (h : HM w W blk P f t k) :
    (∀ (d : Nat) (os : Array Obj), (grow (redrawn W d) os).cell? ⟨w.heap.size, 0, none⟩ = some (.int .i64 f)) ∧ (∀ (d : Nat) (os : Array Obj), (grow (redrawn W d) os).cell? ⟨w.heap.size, 1, none⟩ = some (.int .i64 t)) ∧
    (∀ (d : Nat) (os : Array Obj), (grow (redrawn W d) os).cell? ⟨w.heap.size, 2, none⟩ = some (.int .i64 k)) := by
  obtain ⟨q0, q1, q2, qf, qz⟩ := row3 h.x
  exact ⟨cell_regrown q0, cell_regrown q1, cell_regrown q2⟩
theorem HM.grown {w W : World} {blk : Nat} {P : Nat → Int} {f t k : Int} (h : HM w W blk P f t k) (d : Nat) (os : Array Obj) : HM w (grow (redrawn W d) os) blk P f t k := h.go (below_regrown W d os)
set_option maxHeartbeats 1000000 in
theorem goesPawn_any (b : Nat) (P : Nat → Int) (f : Nat) (t k : Int) (hf : f < 64) (w : World) (hp : PB w b P) :
    Calls Tryz.prog 121 #[.pointer (some ⟨b, 0, none⟩), .agg #[.int .i64 (f : Int), .int .i64 t, .int .i64 k]] w fun e w' => e = .returned (.bool (pwnB P f)) ∧ Below w.heap.size w w' := by
  have s0 : (0 : Int) ≤ f := by omega
  have s1 : (f : Int) < 64 := by omega
  rw [pwnB_at]
  have HI := Lib.hid (HM.begin (f : Int) t k hp)
  clear hp
  go_enter Tryz.func121, Tryz.ntmps121
  go_upto_region 1 with (fail)
  refine forget_B (fun W => HM w W b P f t k) HI.out ?_
  clear HI
  intro W hi
  obtain ⟨x0, x1, x2⟩ := hi.cells
  have y1 := cell_regrown (hi.p.cell (f * 2) (by omega))
  have HI := Lib.hid hi
  clear hi
  refine wp_region_quiet_below (by kernel_rfl) (by kernel_rfl) ?_
  repeat (first | go_big_quiet_step (fail) | quiet_step (fail))
  refine wpQuiet_nil ?_
  rintro W4 ⟨q, rfl⟩
  go_wp2
  go_ret
  exact ⟨rfl, (HI.out.grown q.d q.os).b⟩
set_option maxHeartbeats 1000000 in
theorem sameFile_any (f t : Nat) (k : Int) (hf : f < 64) (ht : t < 64) (w : World) :
    Calls Tryz.prog 123 #[.agg #[.int .i64 (f : Int), .int .i64 (t : Int), .int .i64 k]] w fun e w' => e = .returned (.bool (smF f t)) ∧ Below w.heap.size w w' := by
  obtain ⟨x, hx⟩ : ∃ x : Nat, f % 8 = x := ⟨_, rfl⟩
  obtain ⟨y, hy⟩ : ∃ y : Nat, t % 8 = y := ⟨_, rfl⟩
  have HV := Lib.hid (show ((x : Int) == (y : Int)) = smF f t by unfold smF; rw [hx, hy, Bool.eq_iff_iff, beq_iff_eq, beq_iff_eq]; omega)
  have M1 := Lib.hid (fun W => file_any (f : Int) W)
  have M2 := Lib.hid (fun W => file_any (t : Int) W)
  rw [sF_sq f hf, hx] at M1
  rw [sF_sq t ht, hy] at M2
  clear hx hy
  go_enter Tryz.func123, Tryz.ntmps123
  go_upto_region 1 with (fail)
  refine forget_B (fun W => W.heap[w.heap.size]? = some (.cells #[.int .i64 (f : Int), .int .i64 (t : Int), .int .i64 k] 52 (0, 0)) ∧ Below w.heap.size w W) ⟨sl_at rfl, below_new _⟩ ?_
  rintro W ⟨hx, hb⟩
  obtain ⟨q0, q1, q2, qf, qz⟩ := row3 hx
  have v0 := cell_regrown q0
  have v1 := cell_regrown q1
  have c1 := regrown_call (w := W) M1.out
  have c2 := regrown_call (w := W) M2.out
  have HB := Lib.hid hb
  clear hx hb q0 q1 q2 qf qz
  refine wp_region_quiet_below (by kernel_rfl) (by kernel_rfl) ?_
  repeat (first | go_big_quiet_step (exact c1 _ _) | go_big_quiet_step (exact c2 _ _))
  refine wpQuiet_nil ?_
  rintro W4 ⟨q, rfl⟩
  rw [HV.out]
  go_wp2
  go_ret
  exact ⟨rfl, HB.out.trans ((below_regrown W q.d q.os).mono HB.out.size)⟩
set_option maxHeartbeats 1000000 in
theorem betweenP_any (f t : Nat) (k : Int) (hf : f < 64) (ht : t < 64) (w : World) :
    Calls Tryz.prog 150 #[.agg #[.int .i64 (f : Int), .int .i64 (t : Int), .int .i64 k]] w fun e w' => e = .returned (.int .i64 (((f + t) / 2 : Nat) : Int)) ∧ Below w.heap.size w w' := by
  have h1 : ((f : Int) + t).tdiv 2 = (((f + t) / 2 : Nat) : Int) := by rw [Int.tdiv_eq_ediv_of_nonneg (by omega)]; omega
  have h2 : wrap64 ((f : Int) + t) = (f : Int) + t := by unfold wrap64; omega
  have h3 : wrap64 (((f + t) / 2 : Nat) : Int) = (((f + t) / 2 : Nat) : Int) := by unfold wrap64; omega
  go_enter Tryz.func150, Tryz.ntmps150
  go_wp2
  go_ret
  exact ⟨q_i (by first | rfl | omega | simp [h1]), below_new _⟩
end Go.Proofs.YtcdnakbdajbfoaaGreatDoor
