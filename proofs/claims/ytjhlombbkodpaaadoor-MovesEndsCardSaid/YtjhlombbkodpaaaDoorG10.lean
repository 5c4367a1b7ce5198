/-
  Merged: Dg, Dh, Bb, Dk, Dm.
-/
import Derived.Test.YtjhlombbkodpaaaDoorG9
import Derived.Test.YtjhlombbkodpaaaDoorDf
import Derived.Test.YtjhlombbkodpaaaDoorG5
import Derived.Test.YtjhlombbkodpaaaDoorG3

namespace Go.Proofs.YtjhlombbkodpaaaDoor
open Go.RowKit Go.Sort
set_option linter.unusedSimpArgs false
set_option linter.unusedVariables false
set_option maxRecDepth 20000
attribute [local go_sem] Oper.semAt_some

/-- the pieces of a kind that attack a square -/
def isIt (P : Nat → Int) (k d t : Int) : Bool := pe (P (2 * t.toNat)) (P (2 * t.toNat + 1)) k d
def atkK (P : Nat → Int) (s d : Int) (k : Nat) : List Int := (attL P s k (oth d)).filter (isIt P k d)
def atkUp (P : Nat → Int) (s d : Int) (n : Nat) : List Int := (List.range n).flatMap fun i => atkK P s d (i + 1)
/-- all that attack it, kind by kind -/
def atkL (P : Nat → Int) (s d : Int) : List Int := if sideB d then atkUp P s d 6 else []
theorem atkUp_succ (P : Nat → Int) (s d : Int) (n : Nat) : atkUp P s d (n + 1) = atkUp P s d n ++ atkK P s d (n + 1) := by
  unfold atkUp; rw [List.range_succ, List.flatMap_append]; simp
theorem atkUp_pre (P : Nat → Int) (s d : Int) {n m : Nat} (h : n ≤ m) : atkUp P s d n <+: atkUp P s d m := by
  induction m with
  | zero => obtain rfl : n = 0 := by omega
            exact List.prefix_refl _
  | succ m ih =>
    rcases (show n ≤ m ∨ n = m + 1 by omega) with h1 | rfl
    · rw [atkUp_succ]; exact (ih h1).trans (List.prefix_append _ _)
    · exact List.prefix_refl _
/-- what the iterator reads -/
structure BR (b fb sb bb : Nat) (P : Nat → Int) (s d : Int) (W : World) : Prop where
  a : AR b fb sb P s W
  y : W.heap[bb]? = some (.cells #[.int .i64 d] 23 (0, 0))
theorem BR.same {b fb sb bb : Nat} {P : Nat → Int} {s d : Int} {A B : World} (h : BR b fb sb bb P s d A) (hs : A.heap.size ≤ B.heap.size) (hx : ∀ k, AN b fb sb bb k → B.heap[k]? = A.heap[k]?) : BR b fb sb bb P s d B :=
  ⟨⟨(hx _ (.inr (.inl rfl))).trans h.a.f, (hx _ (.inr (.inr (.inl rfl)))).trans h.a.s, h.a.p.same hs (hx _ (.inl rfl)), (h.a.t.same (hx _ (.inr (.inr (.inr (.inr rfl)))))).mono hs⟩, (hx _ (.inr (.inr (.inr (.inl rfl))))).trans h.y⟩
theorem BR.lt {b fb sb bb : Nat} {P : Nat → Int} {s d : Int} {A : World} (h : BR b fb sb bb P s d A) : ∀ k, AN b fb sb bb k → k < A.heap.size := by
  rintro q (rfl | rfl | rfl | rfl | rfl)
  · exact h.a.p.lt
  · exact al_lt h.a.f
  · exact al_lt h.a.s
  · exact al_lt h.y
  · exact h.a.t.lt
theorem BR.reads (b fb sb bb : Nat) (P : Nat → Int) (s d : Int) : ∀ Y A B, BR b fb sb bb P s d A → (∀ q, Y q → ¬ AN b fb sb bb q) → Turns Y A B → BR b fb sb bb P s d B := fun Y A B h hx ht =>
  h.same ht.size fun k hk => ht.block k (h.lt k hk) (fun e => hx k e hk)
theorem BR.go {b fb sb bb : Nat} {P : Nat → Int} {s d : Int} {A B : World} (h : BR b fb sb bb P s d A) (g : Below A.heap.size A B) : BR b fb sb bb P s d B := h.same g.size fun k hk => g.block k (h.lt k hk)
theorem below_drewN (w : World) (n : Nat) : Below w.heap.size w (w.drewN n) := by
  induction n with
  | zero => exact Below.refl _ _
  | succ n ih => exact ih.trans (Below.refl _ _).drew
theorem al_lt' {W : World} {p : Nat × Obj} (h : W.heap[p.1]? = some p.2) : p.1 < W.heap.size := (Array.getElem?_eq_some_iff.1 h).1
def kindAt (a : Act) (w : World) : Int := match a.tmps.getD 5 undef with
  | .pointer (some p) => intOf ((w.cell? p).getD undef)
  | _ => 0
end Go.Proofs.YtjhlombbkodpaaaDoor

namespace Go.Proofs.YtjhlombbkodpaaaDoor
open Go.RowKit Go.Sort
set_option linter.unusedSimpArgs false
set_option linter.unusedVariables false
set_option maxRecDepth 20000

theorem infoFin : (Tryd.prog.info? 61).map (·.size) = some 133 := by kernel_rfl
theorem zeroFin : Tryd.zeroCells61 = (pc fun _ => 0).toArray := by kernel_rfl
theorem fold_setF : ∀ (L : List Value) (k : Nat) (cs : Array Value), k + L.length ≤ cs.size → ∀ i, (List.foldl (fun (cs : Array Value) (x : Value × Nat) => cs.setIfInBounds x.2 x.1) cs (L.zipIdx k))[i]? = if k ≤ i ∧ i < k + L.length then L[i - k]? else cs[i]?
  | [], k, cs, _, i => by simp; omega
  | v :: L, k, cs, h, i => by
    simp only [List.length_cons] at h
    rw [List.zipIdx_cons, List.foldl_cons, fold_setF L (k + 1) _ (by simp; omega) i]
    by_cases h1 : k + 1 ≤ i ∧ i < k + 1 + L.length
    · rw [if_pos h1, if_pos (by simp; omega), show i - k = (i - (k + 1)) + 1 by omega, List.getElem?_cons_succ]
    · rw [if_neg h1]
      by_cases h2 : i = k
      · subst h2
        rw [if_pos (by simp), Nat.sub_self, List.getElem?_cons_zero, Array.getElem?_setIfInBounds_self_of_lt (by omega)]
      · rw [if_neg (by simp only [List.length_cons]; omega), Array.getElem?_setIfInBounds_ne (by omega)]
theorem fold_fin (X : Array Value) (hX : X.size = 133) : Array.foldl (fun (cs : Array Value) (x : Value × Nat) => cs.setIfInBounds x.2 x.1) Tryd.zeroCells61 X.zipIdx 0 133 = X := by
  apply Array.ext_getElem?
  intro i
  have hz : Tryd.zeroCells61.size = 133 := by rw [zeroFin, pc_size]
  rw [show (133 : Nat) = X.zipIdx.size by simp [hX], ← Array.foldl_toList]
  rw [Array.toList_zipIdx, fold_setF X.toList 0 _ (by simp [hX, hz]) i]
  by_cases h : i < 133
  · rw [if_pos (by simp [hX, h]), Nat.sub_zero, Array.getElem?_toList]
  · rw [if_neg (by simp [hX]; omega), Array.getElem?_eq_none (by omega), Array.getElem?_eq_none (by omega)]
theorem rayN_len (i : Nat) : ∀ (n : Nat) (t : Int), (rayN i n t).length ≤ n
  | 0, _ => Nat.le_refl _
  | n + 1, t => by
    unfold rayN
    split
    · have := rayN_len i n (stp t (dF i) (dR i)); simp; omega
    · simp
theorem cut_len (occ : Nat → Bool) (far : Bool) : ∀ (l : List Int), (cut occ far l).length ≤ l.length
  | [] => Nat.le_refl _
  | y :: r => by
    unfold cut
    split
    · have := cut_len occ far r; simp; omega
    · simp
theorem attUp_len (P : Nat → Int) (s k d : Int) (n : Nat) : (attUp P s k d n).length ≤ 8 * n := by
  induction n with
  | zero => simp [attUp]
  | succ n ih =>
    rw [attUp_succ, List.length_append]
    have h1 := cut_len (occB P) (gFar k d) (ray (gFrom k d + n) (stp s (dF (gFrom k d + n)) (dR (gFrom k d + n))))
    have h2 := rayN_len (gFrom k d + n) 8 (stp s (dF (gFrom k d + n)) (dR (gFrom k d + n)))
    unfold wayL
    unfold ray at *
    omega
theorem attL_len (P : Nat → Int) (s k d : Int) : (attL P s k d).length ≤ 128 := by
  have h1 := attUp_len P s k d (gTo k d - gFrom k d)
  have h2 := gait_small k d
  unfold attL
  omega
theorem atkL_len (P : Nat → Int) (s d : Int) : (atkL P s d).length ≤ 768 := by
  have h : ∀ n, (atkUp P s d n).length ≤ 128 * n := by
    intro n
    induction n with
    | zero => simp [atkUp]
    | succ n ih =>
      rw [atkUp_succ, List.length_append]
      have h1 := attL_len P s ((n + 1 : Nat) : Int) (oth d)
      have h2 : (atkK P s d (n + 1)).length ≤ (attL P s ((n + 1 : Nat) : Int) (oth d)).length := List.length_filter_le _ _
      omega
  unfold atkL
  split
  · exact h 6
  · simp
/-- the document's From, To, by the program -/
def fromL (P : Nat → Int) (s : Int) : List Int := if sq s then risen (attL P s (P (2 * s.toNat)) (P (2 * s.toNat + 1))) else []
def toL (P : Nat → Int) (s d : Int) : List Int := risen (atkL P s d)
theorem pos_box (P : Nat → Int) (w : World) (X : Array Value) (hX : X = (pc P).toArray) (t : TypeId) : PB (w.alloc (.cells X t)) w.heap.size P := by subst hX; exact PB.new rfl
theorem an_cases {fb n : Nat} : ∀ q, AN fb n (n + 1) (n + 2) q → q = fb ∨ n ≤ q ∨ q = 0 := by
  rintro q (h | h | h | h | h)
  · exact .inl h
  · exact .inr (.inl (by omega))
  · exact .inr (.inl (by omega))
  · exact .inr (.inl (by omega))
  · exact .inr (.inr h)
/-- a finder's iterator, as it is made -/
theorem made_att (fb n : Nat) (P : Nat → Int) (s k d : Int) (W : World) (hp : PB W fb P) (hg : GS W.heap.size W) :
    Calls Tryd.prog 30 #[.pointer (some ⟨fb, 0, none⟩), .int .i64 s, .agg #[.int .i64 k, .int .i64 d]] W fun e w' => ∃ lb N, e = .returned (.func (.func 59) #[] lb) ∧ Below W.heap.size W w' ∧ Comes Tryd.prog 59 lb N (Value.int .i64) (attL P s k d) w' ∧ ∀ q, N q → q = fb ∨ W.heap.size ≤ q ∨ q = 0 := by
  refine (attacked_any fb s k d W).mono ?_
  rintro e w5 ⟨rfl, hw5⟩
  have hb5 : Below W.heap.size W w5 := by rw [hw5]; exact ((below_new _).alloc (by simp) _).alloc (by simp; omega) _
  refine ⟨_, _, rfl, hb5, attacked_comes fb W.heap.size (W.heap.size + 1) (W.heap.size + 2) P s k d w5 ⟨?_, ?_, hp.go hb5, (hg.below hb5).mono hb5.size⟩ ?_, an_cases⟩
  · rw [hw5]; exact al_old (al_old (sl_at rfl) _) _
  · rw [hw5]; exact al_old (sl_at (by simp)) _
  · rw [hw5]; exact sl_at (by simp)
set_option maxHeartbeats 2000000 in
set_option maxRecDepth 100000 in
theorem from_any (P : Nat → Int) (s : Int) (w : World) (B : Nat) (hg : GS B w) (hB : B ≤ w.heap.size) :
    Calls Tryd.prog 17 #[.agg (pc P).toArray, .int .i64 s] w fun e w' => ∃ v, e = .returned v ∧ Below w.heap.size w w' ∧ w'.ownsRow w.heap.size 3 1 v (fromL P s).length (ivals (fromL P s)) := by
  obtain ⟨X, hX⟩ : ∃ X, X = (pc P).toArray := ⟨_, rfl⟩
  rw [← hX]
  have HP00 := Lib.hid (pos_box P w X hX 29)
  have HG := Lib.hid hg
  have HX := Lib.hid hX
  have hsz : X.size = 133 := by rw [hX, pc_size]
  have hfold := fold_fin X hsz
  have HBW0 := Lib.hid (below_new (w := w) (.cells X 29))
  clear hX hg
  go_enter Tryd.func17, Tryd.ntmps17
  go_upto_region 1 with (fail)
  generalize w.alloc (.cells X 29) = W1 at *
  go_wp2_with fail
  refine (is_any s _).mono ?_
  cases hs : sq s
  · have HF := Lib.hid (show fromL P s = [] by unfold fromL; rw [hs]; rfl)
    clear hs
    rintro e w1 ⟨rfl, hb1⟩
    have HB := Lib.hid (HBW0.out.trans (hb1.mono HBW0.out.size))
    clear hb1 HBW0 HP00 hfold hsz
    go_wp2
    go_ret
    exact ⟨.slice none 0 0, rfl, HB.out, by rw [HF.out]; exact World.ownsRow_nil _ _ _ _⟩
  rintro e W0 ⟨rfl, hb1⟩
  obtain ⟨s0, s1⟩ := (sq_iff s).1 hs
  obtain ⟨n, rfl⟩ := Int.eq_ofNat_of_zero_le s0
  have HF := Lib.hid (show fromL P n = risen (attL P n (P (n * 2)) (P (n * 2 + 1))) by unfold fromL; rw [hs, if_pos rfl, Int.toNat_natCast, Nat.mul_comm 2 n])
  have HP0 := Lib.hid (HP00.out.go hb1)
  have HBW := Lib.hid (HBW0.out.trans (hb1.mono HBW0.out.size))
  clear hs hb1 HBW0 HP00
  go_upto_region 3 with (fail)
  refine wp_region_lit ?_
  refine wpList_pos (by rfl) _ (by rfl) w.heap.size P X HX.out (by rfl) HP0.out ?_
  refine wpList_plain rfl (fun K hK => ?_)
  go_simp
  refine hK _ _ ?_
  clear hK K
  clear hfold
  refine wpList_plain rfl (fun K hK => ?_)
  go_simp
  refine hK _ _ ?_
  clear hK K
  have hpn : PB (W0.alloc (.cells Tryd.zeroCells61 61)) W0.heap.size (fun _ => 0) := by rw [zeroFin]; exact PB.new rfl
  refine wpList_store_mid rfl 61 _ _ rfl W0.heap.size 0 X rfl rfl (by rw [hsz]; exact hpn.there) (by rw [infoFin, hsz]) (by rw [HX.out]; exact pc_one P) ?_
  refine forgetL_B (fun W => PB W W0.heap.size P ∧ Below W0.heap.size W0 W) (by
    rw [HX.out, List.toList_toArray]
    exact ⟨hpn.store (Q := P), below_store (b := W0.heap.size) P (below_new _) (Nat.le_refl _) (by simp)⟩) ?_
  rintro W ⟨hp, hb⟩
  have HP := Lib.hid hp
  have HB := Lib.hid (HBW.out.trans (hb.mono HBW.out.size))
  have HBS := Lib.hid (show W0.heap.size < W.heap.size from hp.lt)
  clear hp hb hpn HP0 hsz
  obtain ⟨fb, hfb⟩ : ∃ f, W0.heap.size = f := ⟨_, rfl⟩
  rw [hfb] at HP HBS
  simp only [hfb]
  show Exit.then _ _ Exit.normal _ _
  have e1 := HP.out.cell (n * 2) (by omega)
  have e2 := HP.out.cell (n * 2 + 1) (by omega)
  generalize P (n * 2) = k at e1 HF
  generalize P (n * 2 + 1) = d at e2 HF
  have HGW := Lib.hid ((HG.out.below (HB.out.mono hB)).mono (Nat.le_trans hB HB.out.size))
  go_wp2_with fail
  refine (made_att fb n P n k d W HP.out HGW.out).mono ?_
  rintro e w2 ⟨lb, N, rfl, hb2, hc, _⟩
  have HB2 := Lib.hid (HB.out.trans (hb2.mono HB.out.size))
  have HC := Lib.hid (sorted_any _ lb (enters_of Tryd.func59 (by kernel_rfl) rfl) N _ (Nat.le_trans (attL_len P n k d) (by omega)) w2 hc)
  clear hb2 hc HB HP HGW e1 e2
  go_wp2_with fail
  refine HC.out.mono ?_
  rintro e w3 ⟨v, rfl, hb3, hown⟩
  have HB3 := Lib.hid (HB2.out.trans (hb3.mono HB2.out.size))
  have HO := Lib.hid (owns_base hown HB2.out.size)
  clear hb3 hown HC HB2
  go_wp2
  go_ret
  exact ⟨v, rfl, HB3.out, by rw [HF.out]; exact HO.out⟩
end Go.Proofs.YtjhlombbkodpaaaDoor

namespace Go.Proofs.YtjhlombbkodpaaaDoor
open Go.RowKit Go.Sort
set_option linter.unusedSimpArgs false
set_option linter.unusedVariables false

/-- a position is loaded, in a walk of the text's order -/
theorem wpQuiet_pos {ops : Array Oper} {C : World → Prop} {Q : Act → Prop} {rest : List Oper} {o : Oper} {a : Act} (hw : Region.wanted o (yielded ops a.tmps) = true) (x : Operand) (ho : o.op = .load 29 x)
    (b : Nat) (P : Nat → Int) (X : Array Value) (hX : X = (pc P).toArray) (hx : a.eval x = .pointer (some ⟨b, 0, none⟩)) (hc : ∀ W, C W → PB W b P) (h : wpQuiet Tryd.prog ops C Q rest (a.put o.dst (.agg X))) : wpQuiet Tryd.prog ops C Q (o :: rest) a := by
  subst hX
  exact wpQuiet_rows (b := b) (ty := 29) (x := x) (cs := pc P) (fun W hW => (hc W hW).range) Tryd.underlying29 rfl (by rw [infoPos, pc_len]) hw ho hx h
theorem wpQuiet_bin {ops : Array Oper} {C : World → Prop} {Q : Act → Prop} {rest : List Oper} {o : Oper} {a : Act} (hw : Region.wanted o (yielded ops a.tmps) = true) (bop : BinOp) (x y : Operand) (t r : TypeId) (ho : o.op = .binOp bop t x y r)
    (v1 v2 v : Value) (hx : a.eval x = v1) (hy : a.eval y = v2) (hg : ∀ W, (eqGuard bop t x y v1 v2).run Tryd.prog W = .ok () W) (h : ∀ W, (binOp bop t v1 v2).run Tryd.prog W = .ok v W) (k : wpQuiet Tryd.prog ops C Q rest (a.put o.dst v)) : wpQuiet Tryd.prog ops C Q (o :: rest) a :=
  BigFrame.wpQuiet_want hw fun K hK => ⟨v, fun W hW => by
    unfold Oper.quietAt execOp
    simp [ho, hx, hy, hg, h]
    exact ⟨rfl, rfl⟩, hK _ k⟩
theorem yields_posC {ops : Array Oper} {S : World → Prop} {op : Oper} {a : Act} (hw : Region.wanted op (yielded ops a.tmps) = true) (x : Operand) (ho : op.op = .load 29 x)
    (b : Nat) (P : Nat → Int) (X : Array Value) (hX : X = (pc P).toArray) (hx : a.eval x = .pointer (some ⟨b, 0, none⟩)) (hS : ∀ w, S w → PB w b P) : YieldsIf Tryd.prog ops S op (.agg X) a := by
  subst hX
  exact yieldsIf_load_mid hw 29 x ho b 0 hx (pc P) _ (fun w h => (hS w h).range) Tryd.underlying29 rfl (by rw [infoPos, pc_len])
theorem yields_pieC {ops : Array Oper} {S : World → Prop} {op : Oper} {a : Act} (hw : Region.wanted op (yielded ops a.tmps) = true) (x : Operand) (ho : op.op = .load 25 x)
    (b : Nat) (k d : Int) (hx : a.eval x = .pointer (some ⟨b, 0, none⟩)) (hS : ∀ w, S w → w.heap[b]? = some (.cells #[.int .i64 k, .int .i64 d] 25 (0, 0))) : YieldsIf Tryd.prog ops S op (.agg #[.int .i64 k, .int .i64 d]) a :=
  yieldsIf_load_mid hw 25 x ho b 0 hx [.int .i64 k, .int .i64 d] _ (fun w h j v hv => by
    obtain ⟨q1, q2, _, _⟩ := row2 (hS w h)
    rcases j with _ | _ | j
    · simpa using q1.trans (by simpa using hv)
    · simpa using q2.trans (by simpa using hv)
    · simp at hv) Tryd.underlying25 rfl (by rw [infoPie]; rfl)
end Go.Proofs.YtjhlombbkodpaaaDoor

namespace Go.Proofs.YtjhlombbkodpaaaDoor
open Go.RowKit Go.Sort
set_option linter.unusedSimpArgs false
set_option linter.unusedVariables false
set_option maxRecDepth 20000

def absI (n : Int) : Int := if n < 0 then -n else n
def sgn (n : Int) : Int := if n < 0 then -1 else if 0 < n then 1 else 0
/-- how many files, ranks from one to another -/
def fD (a b : Nat) : Int := ((b % 8 : Nat) : Int) - ((a % 8 : Nat) : Int)
def rD (a b : Nat) : Int := ((b / 8 : Nat) : Int) - ((a / 8 : Nat) : Int)
def stepOf (a b : Nat) : Int := 8 * sgn (rD a b) + sgn (fD a b)
def distN (a b : Nat) : Nat := max (fD a b).natAbs (rD a b).natAbs
def sI (a b i : Nat) : Int := (a : Int) + ((i : Int) + 1) * stepOf a b
/-- on one way, and not one square -/
def good (a b : Nat) : Bool := !(a == b) && (fD a b == 0 || rD a b == 0 || absI (fD a b) == absI (rD a b))
def between (a b : Nat) : List Nat := (List.range (distN a b - 1)).map fun i => (sI a b i).toNat
def betB (a b : Nat) : Bool := !good a b || ((List.range (distN a b - 1)).all (fun i => decide (0 ≤ sI a b i) && decide (sI a b i < 64) && !(sI a b i == (b : Int)) && decide ((sI a b (i + 1) - b).natAbs < (sI a b i - b).natAbs)) && (sI a b (distN a b - 1) == (b : Int)))
theorem betB_ok : ∀ a, a < 64 → ∀ b, b < 64 → betB a b = true := by decide +kernel
theorem between_ok (a : Nat) (ha : a < 64) (b : Nat) (hb : b < 64) (hg : good a b = true) : (∀ i, i < distN a b - 1 → 0 ≤ sI a b i ∧ sI a b i < 64 ∧ sI a b i ≠ (b : Int) ∧ (sI a b (i + 1) - b).natAbs < (sI a b i - b).natAbs) ∧ sI a b (distN a b - 1) = (b : Int) := by
  have h := betB_ok a ha b hb
  unfold betB at h
  rw [hg] at h
  simp only [Bool.not_true, Bool.false_or, Bool.and_eq_true, List.all_eq_true, List.mem_range, decide_eq_true_eq, Bool.not_eq_true', beq_eq_false_iff_ne, beq_iff_eq] at h
  exact ⟨fun i hi => ⟨(h.1 i hi).1.1.1, (h.1 i hi).1.1.2, (h.1 i hi).1.2, (h.1 i hi).2⟩, h.2⟩
def occS (P : Nat → Int) (s : Nat) : Bool := !pe (P (2 * s)) (P (2 * s + 1)) 0 0
def openB (P : Nat → Int) (a b : Nat) : Bool := (between a b).all fun s => !occS P s
def kindB (P : Nat → Int) (k d : Int) (a b : Nat) : Bool :=
  if k = 1 then (absI (fD a b) == 1) && ((d == 0) && (rD a b == 1) || (d == 1) && (rD a b == -1))
  else if k = 2 then absI (fD a b) * absI (rD a b) == 2
  else if k = 6 then decide (absI (fD a b) ≤ 1) && decide (absI (rD a b) ≤ 1)
  else if k = 4 then (fD a b == 0 || rD a b == 0) && openB P a b
  else if k = 3 then (absI (fD a b) == absI (rD a b)) && openB P a b
  else (fD a b == 0 || rD a b == 0 || absI (fD a b) == absI (rD a b)) && openB P a b
/-- would such a piece on a attack b -/
def attK (P : Nat → Int) (k d : Int) (a b : Nat) : Bool := mayB k d && !(a == b) && kindB P k d a b
def attR (P : Nat → Int) (a b : Nat) : Bool := attK P (P (2 * a)) (P (2 * a + 1)) a b
theorem D_small : ∀ a, a < 64 → ∀ b, b < 64 → -7 ≤ fD a b ∧ fD a b ≤ 7 ∧ -7 ≤ rD a b ∧ rD a b ≤ 7 := by
  intro a ha b hb
  unfold fD rD
  omega
theorem q_tt {a b c d : Int} (h : a = b) (h2 : c = d) : Ending.returned (.tuple #[.int .i64 a, .int .i64 c]) = .returned (.tuple #[.int .i64 b, .int .i64 d]) := by rw [h, h2]
theorem apart_any (a b : Nat) (ha : a < 64) (hb : b < 64) (w : World) :
    Calls Tryd.prog 82 #[.int .i64 (a : Int), .int .i64 (b : Int)] w fun e w' => e = .returned (.tuple #[.int .i64 (fD a b), .int .i64 (rD a b)]) ∧ w = w' := by
  have h1 : (a : Int).tmod 8 = ((a % 8 : Nat) : Int) := by rw [tm8 (by omega)]; omega
  have h2 : (b : Int).tmod 8 = ((b % 8 : Nat) : Int) := by rw [tm8 (by omega)]; omega
  have h3 : (a : Int).tdiv 8 = ((a / 8 : Nat) : Int) := by rw [td8 (by omega)]; omega
  have h4 : (b : Int).tdiv 8 = ((b / 8 : Nat) : Int) := by rw [td8 (by omega)]; omega
  have HF := Lib.hid (show fD a b = ((b % 8 : Nat) : Int) - ((a % 8 : Nat) : Int) from rfl)
  have HR := Lib.hid (show rD a b = ((b / 8 : Nat) : Int) - ((a / 8 : Nat) : Int) from rfl)
  have b1 : a % 8 < 8 := Nat.mod_lt _ (by decide)
  have b2 : b % 8 < 8 := Nat.mod_lt _ (by decide)
  have b3 : a / 8 < 8 := by omega
  have b4 : b / 8 < 8 := by omega
  generalize a % 8 = x1 at *
  generalize b % 8 = x2 at *
  generalize a / 8 = x3 at *
  generalize b / 8 = x4 at *
  go_enter Tryd.func82, Tryd.ntmps82
  go_wp2
  go_ret2
  exact ⟨q_tt HF.out.symm HR.out.symm, rfl⟩
theorem abs_any (n : Int) (h0 : -100 ≤ n) (h1 : n ≤ 100) (w : World) :
    Calls Tryd.prog 83 #[.int .i64 n] w fun e w' => e = .returned (.int .i64 (absI n)) ∧ w = w' := by
  by_cases h : n < 0
  · have HA := Lib.hid (show absI n = -n by unfold absI; rw [if_pos h])
    go_enter Tryd.func83, Tryd.ntmps83
    go_wp2
    go_ret
    exact ⟨q_i HA.out.symm, rfl⟩
  · have HA := Lib.hid (show absI n = n by unfold absI; rw [if_neg h])
    go_enter Tryd.func83, Tryd.ntmps83
    go_wp2
    go_ret
    exact ⟨q_i HA.out.symm, rfl⟩
theorem sign_any (n : Int) (w : World) :
    Calls Tryd.prog 120 #[.int .i64 n] w fun e w' => e = .returned (.int .i64 (sgn n)) ∧ w = w' := by
  rcases (show n < 0 ∨ 0 < n ∨ n = 0 by omega) with h | h | rfl
  · have HA := Lib.hid (show sgn n = -1 by unfold sgn; rw [if_pos h])
    go_enter Tryd.func120, Tryd.ntmps120
    go_wp2
    go_ret
    exact ⟨q_i HA.out.symm, rfl⟩
  · have HA := Lib.hid (show sgn n = 1 by unfold sgn; rw [if_neg (by omega), if_pos h])
    have hn : 0 ≤ n := by omega
    go_enter Tryd.func120, Tryd.ntmps120
    go_wp2
    go_ret
    exact ⟨q_i HA.out.symm, rfl⟩
  · go_enter Tryd.func120, Tryd.ntmps120
    go_wp2
    go_ret
    exact ⟨q_i rfl, rfl⟩
theorem sgn_small (n : Int) : -1 ≤ sgn n ∧ sgn n ≤ 1 := by
  unfold sgn
  split
  · omega
  · split <;> omega
theorem open_row (P : Nat → Int) (a b n : Nat) (hn : n ≤ distN a b - 1) (h : ∀ i, i < n → occS P (sI a b i).toNat = false) (h1 : n = distN a b - 1) : openB P a b = true := by
  unfold openB between
  rw [List.all_map]
  refine List.all_eq_true.2 fun i hi => ?_
  simp only [Function.comp]
  rw [h i (by have := List.mem_range.1 hi; omega)]
  rfl
theorem open_shut (P : Nat → Int) (a b n : Nat) (hn : n < distN a b - 1) (h : occS P (sI a b n).toNat = true) : openB P a b = false := by
  unfold openB between
  rw [List.all_map]
  refine List.all_eq_false.2 ⟨n, List.mem_range.2 hn, ?_⟩
  simp only [Function.comp]
  rw [h]
  simp
set_option maxHeartbeats 2000000 in
set_option maxRecDepth 100000 in
theorem open_any (P : Nat → Int) (a b : Nat) (ha : a < 64) (hb : b < 64) (hg : good a b = true) (w : World) :
    Calls Tryd.prog 84 #[.agg (pc P).toArray, .int .i64 (a : Int), .int .i64 (b : Int)] w fun e w' => e = .returned (.bool (openB P a b)) ∧ Below w.heap.size w w' := by
  obtain ⟨X, hX⟩ : ∃ X, X = (pc P).toArray := ⟨_, rfl⟩
  have HP := Lib.hid (show PB (w.alloc (.cells X 29)) w.heap.size P by subst hX; exact PB.new rfl)
  rw [← hX]
  have HB := Lib.hid (below_new (w := w) (.cells X 29))
  obtain ⟨hbt, hend⟩ := between_ok a ha b hb hg
  have HBT := Lib.hid hbt
  have HEND := Lib.hid hend
  have HSI := Lib.hid (show ∀ i : Nat, sI a b (i + 1) = sI a b i + stepOf a b from fun i => by unfold sI; rw [show (((i + 1 : Nat) : Int) + 1) = ((i : Int) + 1) + 1 by omega, Int.add_mul ((i : Int) + 1) 1, Int.one_mul, Int.add_assoc])
  have HS0 := Lib.hid (show sI a b 0 = (a : Int) + stepOf a b by unfold sI; simp)
  have HST := Lib.hid (show stepOf a b = 8 * sgn (rD a b) + sgn (fD a b) from rfl)
  have hd := D_small a ha b hb
  have hs1 := sgn_small (rD a b)
  have hs2 := sgn_small (fD a b)
  have HDD := Lib.hid (show distN a b ≤ 7 by unfold distN; omega)
  clear hX hbt hend hg
  go_enter Tryd.func84, Tryd.ntmps84
  go_upto_region 1 with (fail)
  generalize w.alloc (.cells X 29) = W0 at *
  go_wp2_with fail
  refine (apart_any a b ha hb _).mono ?_
  rintro e w1 ⟨rfl, rfl⟩
  generalize hf : fD a b = f at *
  generalize hr : rD a b = r at *
  go_wp2_with fail
  refine (sign_any r _).mono ?_
  rintro e w1 ⟨rfl, rfl⟩
  generalize hsr : sgn r = sr at *
  go_wp2_with fail
  refine (sign_any f _).mono ?_
  rintro e w1 ⟨rfl, rfl⟩
  generalize hsf : sgn f = sf at *
  clear hsr hsf hf hr hd
  obtain ⟨st, hst⟩ : ∃ st, 8 * sr + sf = st := ⟨_, rfl⟩
  have hb9 : -9 ≤ st ∧ st ≤ 9 := by omega
  rw [hst] at HST
  rw [HST.out] at HSI HS0
  clear HST
  go_upto_region 3 with (fail)
  clear hst hs1 hs2
  go_wp2
  go_loopw [10] (fun v wr => ∃ n : Nat, n ≤ distN a b - 1 ∧ v = .int .i64 (sI a b n) ∧ wr = W0 ∧ ∀ i, i < n → occS P (sI a b i).toNat = false) (fun v _ => (intOf v - b).natAbs)
  case atStart => exact ⟨0, Nat.zero_le _, by rw [HS0.out], rfl, fun i hi => by omega⟩
  case round =>
    obtain ⟨n, hn, rfl, rfl, hall⟩ := hrel
    have HALL := Lib.hid hall
    clear hall
    by_cases hlt : n < distN a b - 1
    · obtain ⟨s0, s1, s2, s3⟩ := HBT.out n hlt
      have HSN := Lib.hid (HSI.out n)
      obtain ⟨m, hm⟩ := Int.eq_ofNat_of_zero_le s0
      rw [hm] at s0 s1 s2 HSN ⊢
      have HME := Lib.hid (show ((m : Int) + st - b).natAbs < ((m : Int) - b).natAbs by rw [← hm, ← HSI.out n]; exact s3)
      clear s3
      have hm64 : m < 64 := by omega
      have hne : ((m : Int) == (b : Int)) = false := by simp; omega
      have HM := Lib.hid (show occS P (sI a b n).toNat = occS P m by rw [hm, Int.toNat_natCast])
      have e1 := HP.out.cell (m * 2) (by omega)
      have e2 := HP.out.cell (m * 2 + 1) (by omega)
      have HO := Lib.hid (show occS P m = !pe (P (m * 2)) (P (m * 2 + 1)) 0 0 by unfold occS; rw [Nat.mul_comm 2 m])
      generalize P (m * 2) = k at e1 HO
      generalize P (m * 2 + 1) = d at e2 HO
      obtain ⟨v, hv⟩ : ∃ v, pe k d 0 0 = v := ⟨_, rfl⟩
      rw [hv] at HO
      clear hm
      cases v
      · have HF := Lib.hid (open_shut P a b n hlt (by rw [HM.out, HO.out]; rfl))
        go_wp2
        go_ret
        exact ⟨q_b HF.out.symm, HB.out⟩
      · have HN := Lib.hid (show ∀ i, i < n + 1 → occS P (sI a b i).toNat = false from fun i hi => by
          rcases (show i < n ∨ i = n by omega) with h | rfl
          · exact HALL.out i h
          · rw [HM.out, HO.out]; rfl)
        go_wp2
        go_roundw
        case rel => exact ⟨n + 1, by omega, by rw [HSN.out], (by first | rfl | trivial), HN.out⟩
        case measure => exact HME.out
    · obtain rfl : n = distN a b - 1 := by omega
      have HT := Lib.hid (open_row P a b _ (Nat.le_refl _) HALL.out rfl)
      rw [HEND.out]
      have hne : ((b : Int) == (b : Int)) = true := by simp
      go_wp2
      go_ret
      exact ⟨q_b HT.out.symm, HB.out⟩
end Go.Proofs.YtjhlombbkodpaaaDoor

namespace Go.Proofs.YtjhlombbkodpaaaDoor
open Go.RowKit Go.Sort
set_option linter.unusedSimpArgs false
set_option linter.unusedVariables false
set_option maxRecDepth 20000

/-- way i from a square on -/
def rayA (a i : Nat) : List Int := ray i (stp (a : Int) (dF i) (dR i))
def dirN (a b : Nat) : Nat :=
  let f := fD a b
  let r := rD a b
  if r == 0 then (if decide (0 < f) then 0 else 1) else if f == 0 then (if decide (0 < r) then 2 else 3)
  else if decide (0 < r) then (if decide (f < 0) then 4 else 5) else (if decide (f < 0) then 6 else 7)
/-- the squares of a way ahead of one -/
def aheadOf (l : List Int) (b : Int) : List Int := l.takeWhile fun x => !(x == b)
/-- each square on one of the eight ways is on the way of its direction, those between ahead of it -/
def fitsB (a b : Nat) : Bool := !good a b || ((rayA a (dirN a b)).contains (b : Int) && (aheadOf (rayA a (dirN a b)) b == (between a b).map Int.ofNat) && decide (dirN a b < 8))
theorem fitsB_ok : ∀ a, a < 64 → ∀ b, b < 64 → fitsB a b = true := by decide +kernel
/-- a square on a way is good, of that direction -/
def wayB (a i : Nat) : Bool := (rayA a i).all fun x => decide (0 ≤ x) && decide (x < 64) && good a x.toNat && (dirN a x.toNat == i)
theorem wayB_ok : ∀ a, a < 64 → ∀ i, i < 8 → wayB a i = true := by decide +kernel
theorem raysNodup : ∀ a, a < 64 → ((List.range 8).flatMap fun i => rayA a i).Nodup := by decide +kernel
/-- the knight's -/
def hopB (a i : Nat) : Bool := ((rayA a i).take 1).all fun x => decide (0 ≤ x) && decide (x < 64) && (absI (fD a x.toNat) * absI (rD a x.toNat) == 2) && !(a == x.toNat)
theorem hopB_ok : ∀ a, a < 64 → ∀ i, i < 8 → hopB a (8 + i) = true := by decide +kernel
def hopsB (a b : Nat) : Bool := !(absI (fD a b) * absI (rD a b) == 2) || (List.range 8).any fun i => (rayA a (8 + i)).head? == some (b : Int)
theorem hopsB_ok : ∀ a, a < 64 → ∀ b, b < 64 → hopsB a b = true := by decide +kernel
theorem hopsNodup : ∀ a, a < 64 → ((List.range 8).flatMap fun i => (rayA a (8 + i)).take 1).Nodup := by decide +kernel
/-- small facts on two squares -/
def pairB (a b : Nat) : Bool :=
  (!good a b || (((fD a b == 0 || rD a b == 0) == decide (dirN a b < 4)) && ((absI (fD a b) == absI (rD a b)) == decide (4 ≤ dirN a b)))) &&
  ((good a b && ((between a b).isEmpty)) == (!(a == b) && (decide (absI (fD a b) ≤ 1) && decide (absI (rD a b) ≤ 1)))) &&
  (!(good a b && (between a b).isEmpty) || ((decide (4 ≤ dirN a b) && decide (dirN a b < 6)) == (absI (fD a b) == 1 && rD a b == 1)) && ((decide (6 ≤ dirN a b) && decide (dirN a b < 8)) == (absI (fD a b) == 1 && rD a b == -1))) &&
  (!(absI (fD a b) == 1 && (rD a b == 1 || rD a b == -1)) || (good a b && (between a b).isEmpty)) &&
  (good a b == good b a) && (!good a b || (between b a == (between a b).reverse)) && (absI (fD b a) == absI (fD a b)) && (rD b a == - rD a b) && ((fD b a == 0) == (fD a b == 0))
theorem pairB_ok : ∀ a, a < 64 → ∀ b, b < 64 → pairB a b = true := by decide +kernel
end Go.Proofs.YtjhlombbkodpaaaDoor
