/-
  Merged: Dh, Bb, Dk, Dm, Do.
-/
import Derived.Test.YtcdnakbdajbfoaaGreatDoorG8
import Derived.Test.YtcdnakbdajbfoaaGreatDoorG4
import Derived.Test.YtcdnakbdajbfoaaGreatDoorG2

namespace Go.Proofs.YtcdnakbdajbfoaaGreatDoor
open Go.RowKit Go.Sort
set_option linter.unusedSimpArgs false
set_option linter.unusedVariables false
set_option maxRecDepth 20000

theorem infoFin : (Tryz.prog.info? 115).map (·.size) = some 133 := by kernel_rfl
theorem zeroFin : Tryz.zeroCells115 = (pc fun _ => 0).toArray := by kernel_rfl
theorem fold_setF : ∀ (L : List Value) (k : Nat) (cs : Array Value), k + L.length ≤ cs.size → ∀ i, (List.foldl (fun (cs : Array Value) (x : Value × Nat) => cs.setIfInBounds x.2 x.1) cs (L.zipIdx k))[i]? = if k ≤ i ∧ i < k + L.length then L[i - k]? else cs[i]?
  | [], k, cs, _, i => by simp; omega
  | v :: L, k, cs, h, i => by
    simp only [List.length_cons] at h
    rw [List.zipIdx_cons, List.foldl_cons, fold_setF L (k + 1) _ (by simp; omega) i]
    by_cases h1 : k + 1 ≤ i ∧ i < k + 1 + L.length
    · rw [if_pos h1, if_pos (by simp; omega), show i - k = (i - (k + 1)) + 1 by omega, List.getElem?_cons_succ]
    · rw [if_neg h1]
      by_cases h2 : i = k
      · subst h2
        rw [if_pos (by simp), Nat.sub_self, List.getElem?_cons_zero, Array.getElem?_setIfInBounds_self_of_lt (by omega)]
      · rw [if_neg (by simp only [List.length_cons]; omega), Array.getElem?_setIfInBounds_ne (by omega)]
theorem fold_fin (X : Array Value) (hX : X.size = 133) : Array.foldl (fun (cs : Array Value) (x : Value × Nat) => cs.setIfInBounds x.2 x.1) Tryz.zeroCells115 X.zipIdx 0 133 = X := by
  apply Array.ext_getElem?
  intro i
  have hz : Tryz.zeroCells115.size = 133 := by rw [zeroFin, pc_size]
  rw [show (133 : Nat) = X.zipIdx.size by simp [hX], ← Array.foldl_toList]
  rw [Array.toList_zipIdx, fold_setF X.toList 0 _ (by simp [hX, hz]) i]
  by_cases h : i < 133
  · rw [if_pos (by simp [hX, h]), Nat.sub_zero, Array.getElem?_toList]
  · rw [if_neg (by simp [hX]; omega), Array.getElem?_eq_none (by omega), Array.getElem?_eq_none (by omega)]
theorem rayN_len (i : Nat) : ∀ (n : Nat) (t : Int), (rayN i n t).length ≤ n
  | 0, _ => Nat.le_refl _
  | n + 1, t => by
    unfold rayN
    split
    · have := rayN_len i n (stp t (dF i) (dR i)); simp; omega
    · simp
theorem cut_len (occ : Nat → Bool) (far : Bool) : ∀ (l : List Int), (cut occ far l).length ≤ l.length
  | [] => Nat.le_refl _
  | y :: r => by
    unfold cut
    split
    · have := cut_len occ far r; simp; omega
    · simp
theorem attUp_len (P : Nat → Int) (s k d : Int) (n : Nat) : (attUp P s k d n).length ≤ 8 * n := by
  induction n with
  | zero => simp [attUp]
  | succ n ih =>
    rw [attUp_succ, List.length_append]
    have h1 := cut_len (occB P) (gFar k d) (ray (gFrom k d + n) (stp s (dF (gFrom k d + n)) (dR (gFrom k d + n))))
    have h2 := rayN_len (gFrom k d + n) 8 (stp s (dF (gFrom k d + n)) (dR (gFrom k d + n)))
    unfold wayL
    unfold ray at *
    omega
theorem attL_len (P : Nat → Int) (s k d : Int) : (attL P s k d).length ≤ 128 := by
  have h1 := attUp_len P s k d (gTo k d - gFrom k d)
  have h2 := gait_small k d
  unfold attL
  omega
def fromL (P : Nat → Int) (s : Int) : List Int := if sq s then risen (attL P s (P (2 * s.toNat)) (P (2 * s.toNat + 1))) else []
def toL (P : Nat → Int) (s d : Int) : List Int := risen (atkL P s d)
theorem pos_box (P : Nat → Int) (w : World) (X : Array Value) (hX : X = (pc P).toArray) (t : TypeId) : PB (w.alloc (.cells X t)) w.heap.size P := by subst hX; exact PB.new rfl
theorem an_cases {fb n : Nat} : ∀ q, AN fb n (n + 1) (n + 2) q → q = fb ∨ n ≤ q ∨ q = 2 := by
  rintro q (h | h | h | h | h)
  · exact .inl h
  · exact .inr (.inl (by omega))
  · exact .inr (.inl (by omega))
  · exact .inr (.inl (by omega))
  · exact .inr (.inr h)
theorem made_att (fb n : Nat) (P : Nat → Int) (s k d : Int) (W : World) (hp : PB W fb P) (hg : GS W.heap.size W) :
    Calls Tryz.prog 141 #[.pointer (some ⟨fb, 0, none⟩), .int .i64 s, .agg #[.int .i64 k, .int .i64 d]] W fun e w' => ∃ lb N, e = .returned (.func (.func 167) #[] lb) ∧ Below W.heap.size W w' ∧ Comes Tryz.prog 167 lb N (Value.int .i64) (attL P s k d) w' ∧ ∀ q, N q → q = fb ∨ W.heap.size ≤ q ∨ q = 2 := by
  refine (attacked_any fb s k d W).mono ?_
  rintro e w5 ⟨rfl, hw5⟩
  have hb5 : Below W.heap.size W w5 := by rw [hw5]; exact ((below_new _).alloc (by simp) _).alloc (by simp; omega) _
  refine ⟨_, _, rfl, hb5, attacked_comes fb W.heap.size (W.heap.size + 1) (W.heap.size + 2) P s k d w5 ⟨?_, ?_, hp.go hb5, (hg.below hb5).mono hb5.size⟩ ?_, an_cases⟩
  · rw [hw5]; exact al_old (al_old (sl_at rfl) _) _
  · rw [hw5]; exact al_old (sl_at (by simp)) _
  · rw [hw5]; exact sl_at (by simp)
theorem made_atk (fb : Nat) (P : Nat → Int) (s d : Int) (W : World) (hp : PB W fb P) (hg : GS W.heap.size W) :
    Calls Tryz.prog 109 #[.pointer (some ⟨fb, 0, none⟩), .int .i64 s, .int .i64 d] W fun e w' => ∃ lb N, e = .returned (.func (.func 140) #[] lb) ∧ Below W.heap.size W w' ∧ Comes Tryz.prog 140 lb N (Value.int .i64) (atkL P s d) w' ∧ ∀ q, N q → q = fb ∨ W.heap.size ≤ q ∨ q = 2 := by
  refine (attackers_any fb s d W).mono ?_
  rintro e w5 ⟨rfl, hw5⟩
  have hb5 : Below W.heap.size W w5 := by rw [hw5]; exact ((below_new _).alloc (by simp) _).alloc (by simp; omega) _
  refine ⟨_, _, rfl, hb5, attackers_comes fb W.heap.size (W.heap.size + 1) (W.heap.size + 2) P s d w5 ⟨⟨?_, ?_, hp.go hb5, (hg.below hb5).mono hb5.size⟩, ?_⟩, an_cases⟩
  · rw [hw5]; exact al_old (al_old (sl_at rfl) _) _
  · rw [hw5]; exact al_old (sl_at (by simp)) _
  · rw [hw5]; exact sl_at (by simp)
set_option maxHeartbeats 2000000 in
set_option maxRecDepth 100000 in
theorem from_any (P : Nat → Int) (s : Int) (w : World) (B : Nat) (hg : GS B w) (hB : B ≤ w.heap.size) :
    Calls Tryz.prog 172 #[.agg (pc P).toArray, .int .i64 s] w fun e w' => ∃ v, e = .returned v ∧ Below w.heap.size w w' ∧ w'.ownsRow w.heap.size 3 1 v (fromL P s).length (ivals (fromL P s)) := by
  obtain ⟨X, hX⟩ : ∃ X, X = (pc P).toArray := ⟨_, rfl⟩
  rw [← hX]
  have HP00 := Lib.hid (pos_box P w X hX 30)
  have HG := Lib.hid hg
  have HX := Lib.hid hX
  have hsz : X.size = 133 := by rw [hX, pc_size]
  have hfold := fold_fin X hsz
  have HBW0 := Lib.hid (below_new (w := w) (.cells X 30))
  clear hX hg
  go_enter Tryz.func172, Tryz.ntmps172
  go_upto_region 1 with (fail)
  generalize w.alloc (.cells X 30) = W1 at *
  go_wp2_with fail
  refine (is_any s _).mono ?_
  cases hs : sq s
  · have HF := Lib.hid (show fromL P s = [] by unfold fromL; rw [hs]; rfl)
    clear hs
    rintro e w1 ⟨rfl, hb1⟩
    have HB := Lib.hid (HBW0.out.trans (hb1.mono HBW0.out.size))
    clear hb1 HBW0 HP00 hfold hsz
    go_wp2
    go_ret
    exact ⟨.slice none 0 0, rfl, HB.out, by rw [HF.out]; exact World.ownsRow_nil _ _ _ _⟩
  rintro e W0 ⟨rfl, hb1⟩
  obtain ⟨s0, s1⟩ := (sq_iff s).1 hs
  obtain ⟨n, rfl⟩ := Int.eq_ofNat_of_zero_le s0
  have HF := Lib.hid (show fromL P n = risen (attL P n (P (n * 2)) (P (n * 2 + 1))) by unfold fromL; rw [hs, if_pos rfl, Int.toNat_natCast, Nat.mul_comm 2 n])
  have HP0 := Lib.hid (HP00.out.go hb1)
  have HBW := Lib.hid (HBW0.out.trans (hb1.mono HBW0.out.size))
  clear hs hb1 HBW0 HP00
  go_upto_region 3 with (fail)
  refine wp_region_lit ?_
  refine wpList_pos (by rfl) _ (by rfl) w.heap.size P X HX.out (by rfl) HP0.out ?_
  refine wpList_plain rfl (fun K hK => ?_)
  go_simp
  refine hK _ _ ?_
  clear hK K
  clear hfold
  refine wpList_plain rfl (fun K hK => ?_)
  go_simp
  refine hK _ _ ?_
  clear hK K
  have hpn : PB (W0.alloc (.cells Tryz.zeroCells115 115)) W0.heap.size (fun _ => 0) := by rw [zeroFin]; exact PB.new rfl
  refine wpList_store_mid rfl 115 _ _ rfl W0.heap.size 0 X rfl rfl (by rw [hsz]; exact hpn.there) (by rw [infoFin, hsz]) (by rw [HX.out]; exact pc_one P) ?_
  refine forgetL_B (fun W => PB W W0.heap.size P ∧ Below W0.heap.size W0 W) (by
    rw [HX.out, List.toList_toArray]
    exact ⟨hpn.store (Q := P), below_store (b := W0.heap.size) P (below_new _) (Nat.le_refl _) (by simp)⟩) ?_
  rintro W ⟨hp, hb⟩
  have HP := Lib.hid hp
  have HB := Lib.hid (HBW.out.trans (hb.mono HBW.out.size))
  have HBS := Lib.hid (show W0.heap.size < W.heap.size from hp.lt)
  clear hp hb hpn HP0 hsz
  obtain ⟨fb, hfb⟩ : ∃ f, W0.heap.size = f := ⟨_, rfl⟩
  rw [hfb] at HP HBS
  simp only [hfb]
  show Exit.then _ _ Exit.normal _ _
  have e1 := HP.out.cell (n * 2) (by omega)
  have e2 := HP.out.cell (n * 2 + 1) (by omega)
  generalize P (n * 2) = k at e1 HF
  generalize P (n * 2 + 1) = d at e2 HF
  have HGW := Lib.hid ((HG.out.below (HB.out.mono hB)).mono (Nat.le_trans hB HB.out.size))
  go_wp2_with fail
  refine (made_att fb n P n k d W HP.out HGW.out).mono ?_
  rintro e w2 ⟨lb, N, rfl, hb2, hc, _⟩
  have HB2 := Lib.hid (HB.out.trans (hb2.mono HB.out.size))
  have HC := Lib.hid (sorted_any _ lb (enters_of Tryz.func167 (by kernel_rfl) rfl) N _ (Nat.le_trans (attL_len P n k d) (by omega)) w2 hc)
  clear hb2 hc HB HP HGW e1 e2
  go_wp2_with fail
  refine HC.out.mono ?_
  rintro e w3 ⟨v, rfl, hb3, hown⟩
  have HB3 := Lib.hid (HB2.out.trans (hb3.mono HB2.out.size))
  have HO := Lib.hid (owns_base hown HB2.out.size)
  clear hb3 hown HC HB2
  go_wp2
  go_ret
  exact ⟨v, rfl, HB3.out, by rw [HF.out]; exact HO.out⟩
end Go.Proofs.YtcdnakbdajbfoaaGreatDoor

namespace Go.Proofs.YtcdnakbdajbfoaaGreatDoor
open Go.RowKit Go.Sort
set_option linter.unusedSimpArgs false
set_option linter.unusedVariables false

theorem wpQuiet_pos {ops : Array Oper} {C : World → Prop} {Q : Act → Prop} {rest : List Oper} {o : Oper} {a : Act} (hw : Region.wanted o (yielded ops a.tmps) = true) (x : Operand) (ho : o.op = .load 30 x)
    (b : Nat) (P : Nat → Int) (X : Array Value) (hX : X = (pc P).toArray) (hx : a.eval x = .pointer (some ⟨b, 0, none⟩)) (hc : ∀ W, C W → PB W b P) (h : wpQuiet Tryz.prog ops C Q rest (a.put o.dst (.agg X))) : wpQuiet Tryz.prog ops C Q (o :: rest) a := by
  subst hX
  exact wpQuiet_rows (b := b) (ty := 30) (x := x) (cs := pc P) (fun W hW => (hc W hW).range) Tryz.underlying30 rfl (by rw [infoPos, pc_len]) hw ho hx h
theorem yields_posC {ops : Array Oper} {S : World → Prop} {op : Oper} {a : Act} (hw : Region.wanted op (yielded ops a.tmps) = true) (x : Operand) (ho : op.op = .load 30 x)
    (b : Nat) (P : Nat → Int) (X : Array Value) (hX : X = (pc P).toArray) (hx : a.eval x = .pointer (some ⟨b, 0, none⟩)) (hS : ∀ w, S w → PB w b P) : YieldsIf Tryz.prog ops S op (.agg X) a := by
  subst hX
  exact yieldsIf_load_mid hw 30 x ho b 0 hx (pc P) _ (fun w h => (hS w h).range) Tryz.underlying30 rfl (by rw [infoPos, pc_len])
end Go.Proofs.YtcdnakbdajbfoaaGreatDoor

namespace Go.Proofs.YtcdnakbdajbfoaaGreatDoor
open Go.RowKit Go.Sort
set_option linter.unusedSimpArgs false
set_option linter.unusedVariables false
set_option maxRecDepth 20000

def absI (n : Int) : Int := if n < 0 then -n else n
def sgn (n : Int) : Int := if n < 0 then -1 else if 0 < n then 1 else 0
def fD (a b : Nat) : Int := ((b % 8 : Nat) : Int) - ((a % 8 : Nat) : Int)
def rD (a b : Nat) : Int := ((b / 8 : Nat) : Int) - ((a / 8 : Nat) : Int)
def stepOf (a b : Nat) : Int := 8 * sgn (rD a b) + sgn (fD a b)
def distN (a b : Nat) : Nat := max (fD a b).natAbs (rD a b).natAbs
def sI (a b i : Nat) : Int := (a : Int) + ((i : Int) + 1) * stepOf a b
def good (a b : Nat) : Bool := !(a == b) && (fD a b == 0 || rD a b == 0 || absI (fD a b) == absI (rD a b))
def between (a b : Nat) : List Nat := (List.range (distN a b - 1)).map fun i => (sI a b i).toNat
def betB (a b : Nat) : Bool := !good a b || ((List.range (distN a b - 1)).all (fun i => decide (0 ≤ sI a b i) && decide (sI a b i < 64) && !(sI a b i == (b : Int)) && decide ((sI a b (i + 1) - b).natAbs < (sI a b i - b).natAbs)) && (sI a b (distN a b - 1) == (b : Int)))
theorem betB_ok : ∀ a, a < 64 → ∀ b, b < 64 → betB a b = true := by decide +kernel
theorem between_ok (a : Nat) (ha : a < 64) (b : Nat) (hb : b < 64) (hg : good a b = true) : (∀ i, i < distN a b - 1 → 0 ≤ sI a b i ∧ sI a b i < 64 ∧ sI a b i ≠ (b : Int) ∧ (sI a b (i + 1) - b).natAbs < (sI a b i - b).natAbs) ∧ sI a b (distN a b - 1) = (b : Int) := by
  have h := betB_ok a ha b hb
  unfold betB at h
  rw [hg] at h
  simp only [Bool.not_true, Bool.false_or, Bool.and_eq_true, List.all_eq_true, List.mem_range, decide_eq_true_eq, Bool.not_eq_true', beq_eq_false_iff_ne, beq_iff_eq] at h
  exact ⟨fun i hi => ⟨(h.1 i hi).1.1.1, (h.1 i hi).1.1.2, (h.1 i hi).1.2, (h.1 i hi).2⟩, h.2⟩
def occS (P : Nat → Int) (s : Nat) : Bool := !pe (P (2 * s)) (P (2 * s + 1)) 0 0
def openB (P : Nat → Int) (a b : Nat) : Bool := (between a b).all fun s => !occS P s
def kindB (P : Nat → Int) (k d : Int) (a b : Nat) : Bool :=
  if k = 1 then (absI (fD a b) == 1) && ((d == 0) && (rD a b == 1) || (d == 1) && (rD a b == -1))
  else if k = 2 then absI (fD a b) * absI (rD a b) == 2
  else if k = 6 then decide (absI (fD a b) ≤ 1) && decide (absI (rD a b) ≤ 1)
  else if k = 4 then (fD a b == 0 || rD a b == 0) && openB P a b
  else if k = 3 then (absI (fD a b) == absI (rD a b)) && openB P a b
  else (fD a b == 0 || rD a b == 0 || absI (fD a b) == absI (rD a b)) && openB P a b
def attK (P : Nat → Int) (k d : Int) (a b : Nat) : Bool := mayB k d && !(a == b) && kindB P k d a b
def attR (P : Nat → Int) (a b : Nat) : Bool := attK P (P (2 * a)) (P (2 * a + 1)) a b
theorem D_small : ∀ a, a < 64 → ∀ b, b < 64 → -7 ≤ fD a b ∧ fD a b ≤ 7 ∧ -7 ≤ rD a b ∧ rD a b ≤ 7 := by
  intro a ha b hb
  unfold fD rD
  omega
theorem q_tt {a b c d : Int} (h : a = b) (h2 : c = d) : Ending.returned (.tuple #[.int .i64 a, .int .i64 c]) = .returned (.tuple #[.int .i64 b, .int .i64 d]) := by rw [h, h2]
theorem apart_any (a b : Nat) (ha : a < 64) (hb : b < 64) (w : World) :
    Calls Tryz.prog 158 #[.int .i64 (a : Int), .int .i64 (b : Int)] w fun e w' => e = .returned (.tuple #[.int .i64 (fD a b), .int .i64 (rD a b)]) ∧ w = w' := by
  have h1 : (a : Int).tmod 8 = ((a % 8 : Nat) : Int) := by rw [tm8 (by omega)]; omega
  have h2 : (b : Int).tmod 8 = ((b % 8 : Nat) : Int) := by rw [tm8 (by omega)]; omega
  have h3 : (a : Int).tdiv 8 = ((a / 8 : Nat) : Int) := by rw [td8 (by omega)]; omega
  have h4 : (b : Int).tdiv 8 = ((b / 8 : Nat) : Int) := by rw [td8 (by omega)]; omega
  have HF := Lib.hid (show fD a b = ((b % 8 : Nat) : Int) - ((a % 8 : Nat) : Int) from rfl)
  have HR := Lib.hid (show rD a b = ((b / 8 : Nat) : Int) - ((a / 8 : Nat) : Int) from rfl)
  have b1 : a % 8 < 8 := Nat.mod_lt _ (by decide)
  have b2 : b % 8 < 8 := Nat.mod_lt _ (by decide)
  have b3 : a / 8 < 8 := by omega
  have b4 : b / 8 < 8 := by omega
  generalize a % 8 = x1 at *
  generalize b % 8 = x2 at *
  generalize a / 8 = x3 at *
  generalize b / 8 = x4 at *
  go_enter Tryz.func158, Tryz.ntmps158
  go_wp2
  go_ret2
  exact ⟨q_tt HF.out.symm HR.out.symm, rfl⟩
theorem abs_any (n : Int) (h0 : -100 ≤ n) (h1 : n ≤ 100) (w : World) :
    Calls Tryz.prog 159 #[.int .i64 n] w fun e w' => e = .returned (.int .i64 (absI n)) ∧ w = w' := by
  by_cases h : n < 0
  · have HA := Lib.hid (show absI n = -n by unfold absI; rw [if_pos h])
    go_enter Tryz.func159, Tryz.ntmps159
    go_wp2
    go_ret
    exact ⟨q_i HA.out.symm, rfl⟩
  · have HA := Lib.hid (show absI n = n by unfold absI; rw [if_neg h])
    go_enter Tryz.func159, Tryz.ntmps159
    go_wp2
    go_ret
    exact ⟨q_i HA.out.symm, rfl⟩
theorem sign_any (n : Int) (w : World) :
    Calls Tryz.prog 190 #[.int .i64 n] w fun e w' => e = .returned (.int .i64 (sgn n)) ∧ w = w' := by
  rcases (show n < 0 ∨ 0 < n ∨ n = 0 by omega) with h | h | rfl
  · have HA := Lib.hid (show sgn n = -1 by unfold sgn; rw [if_pos h])
    go_enter Tryz.func190, Tryz.ntmps190
    go_wp2
    go_ret
    exact ⟨q_i HA.out.symm, rfl⟩
  · have HA := Lib.hid (show sgn n = 1 by unfold sgn; rw [if_neg (by omega), if_pos h])
    have hn : 0 ≤ n := by omega
    go_enter Tryz.func190, Tryz.ntmps190
    go_wp2
    go_ret
    exact ⟨q_i HA.out.symm, rfl⟩
  · go_enter Tryz.func190, Tryz.ntmps190
    go_wp2
    go_ret
    exact ⟨q_i rfl, rfl⟩
theorem sgn_small (n : Int) : -1 ≤ sgn n ∧ sgn n ≤ 1 := by
  unfold sgn
  split
  · omega
  · split <;> omega
theorem open_row (P : Nat → Int) (a b n : Nat) (hn : n ≤ distN a b - 1) (h : ∀ i, i < n → occS P (sI a b i).toNat = false) (h1 : n = distN a b - 1) : openB P a b = true := by
  unfold openB between
  rw [List.all_map]
  refine List.all_eq_true.2 fun i hi => ?_
  simp only [Function.comp]
  rw [h i (by have := List.mem_range.1 hi; omega)]
  rfl
theorem open_shut (P : Nat → Int) (a b n : Nat) (hn : n < distN a b - 1) (h : occS P (sI a b n).toNat = true) : openB P a b = false := by
  unfold openB between
  rw [List.all_map]
  refine List.all_eq_false.2 ⟨n, List.mem_range.2 hn, ?_⟩
  simp only [Function.comp]
  rw [h]
  simp
set_option maxHeartbeats 2000000 in
set_option maxRecDepth 100000 in
theorem open_any (P : Nat → Int) (a b : Nat) (ha : a < 64) (hb : b < 64) (hg : good a b = true) (w : World) :
    Calls Tryz.prog 160 #[.agg (pc P).toArray, .int .i64 (a : Int), .int .i64 (b : Int)] w fun e w' => e = .returned (.bool (openB P a b)) ∧ Below w.heap.size w w' := by
  obtain ⟨X, hX⟩ : ∃ X, X = (pc P).toArray := ⟨_, rfl⟩
  have HP := Lib.hid (show PB (w.alloc (.cells X 30)) w.heap.size P by subst hX; exact PB.new rfl)
  rw [← hX]
  have HB := Lib.hid (below_new (w := w) (.cells X 30))
  obtain ⟨hbt, hend⟩ := between_ok a ha b hb hg
  have HBT := Lib.hid hbt
  have HEND := Lib.hid hend
  have HSI := Lib.hid (show ∀ i : Nat, sI a b (i + 1) = sI a b i + stepOf a b from fun i => by unfold sI; rw [show (((i + 1 : Nat) : Int) + 1) = ((i : Int) + 1) + 1 by omega, Int.add_mul ((i : Int) + 1) 1, Int.one_mul, Int.add_assoc])
  have HS0 := Lib.hid (show sI a b 0 = (a : Int) + stepOf a b by unfold sI; simp)
  have HST := Lib.hid (show stepOf a b = 8 * sgn (rD a b) + sgn (fD a b) from rfl)
  have hd := D_small a ha b hb
  have hs1 := sgn_small (rD a b)
  have hs2 := sgn_small (fD a b)
  have HDD := Lib.hid (show distN a b ≤ 7 by unfold distN; omega)
  clear hX hbt hend hg
  go_enter Tryz.func160, Tryz.ntmps160
  go_upto_region 1 with (fail)
  generalize w.alloc (.cells X 30) = W0 at *
  go_wp2_with fail
  refine (apart_any a b ha hb _).mono ?_
  rintro e w1 ⟨rfl, rfl⟩
  generalize hf : fD a b = f at *
  generalize hr : rD a b = r at *
  go_wp2_with fail
  refine (sign_any r _).mono ?_
  rintro e w1 ⟨rfl, rfl⟩
  generalize hsr : sgn r = sr at *
  go_wp2_with fail
  refine (sign_any f _).mono ?_
  rintro e w1 ⟨rfl, rfl⟩
  generalize hsf : sgn f = sf at *
  clear hsr hsf hf hr hd
  obtain ⟨st, hst⟩ : ∃ st, 8 * sr + sf = st := ⟨_, rfl⟩
  have hb9 : -9 ≤ st ∧ st ≤ 9 := by omega
  rw [hst] at HST
  rw [HST.out] at HSI HS0
  clear HST
  go_upto_region 3 with (fail)
  clear hst hs1 hs2
  go_wp2
  go_loopw [10] (fun v wr => ∃ n : Nat, n ≤ distN a b - 1 ∧ v = .int .i64 (sI a b n) ∧ wr = W0 ∧ ∀ i, i < n → occS P (sI a b i).toNat = false) (fun v _ => (intOf v - b).natAbs)
  case atStart => exact ⟨0, Nat.zero_le _, by rw [HS0.out], rfl, fun i hi => by omega⟩
  case round =>
    obtain ⟨n, hn, rfl, rfl, hall⟩ := hrel
    have HALL := Lib.hid hall
    clear hall
    by_cases hlt : n < distN a b - 1
    · obtain ⟨s0, s1, s2, s3⟩ := HBT.out n hlt
      have HSN := Lib.hid (HSI.out n)
      obtain ⟨m, hm⟩ := Int.eq_ofNat_of_zero_le s0
      rw [hm] at s0 s1 s2 HSN ⊢
      have HME := Lib.hid (show ((m : Int) + st - b).natAbs < ((m : Int) - b).natAbs by rw [← hm, ← HSI.out n]; exact s3)
      clear s3
      have hm64 : m < 64 := by omega
      have hne : ((m : Int) == (b : Int)) = false := by simp; omega
      have HM := Lib.hid (show occS P (sI a b n).toNat = occS P m by rw [hm, Int.toNat_natCast])
      have e1 := HP.out.cell (m * 2) (by omega)
      have e2 := HP.out.cell (m * 2 + 1) (by omega)
      have HO := Lib.hid (show occS P m = !pe (P (m * 2)) (P (m * 2 + 1)) 0 0 by unfold occS; rw [Nat.mul_comm 2 m])
      generalize P (m * 2) = k at e1 HO
      generalize P (m * 2 + 1) = d at e2 HO
      obtain ⟨v, hv⟩ : ∃ v, pe k d 0 0 = v := ⟨_, rfl⟩
      rw [hv] at HO
      clear hm
      cases v
      · have HF := Lib.hid (open_shut P a b n hlt (by rw [HM.out, HO.out]; rfl))
        go_wp2
        go_ret
        exact ⟨q_b HF.out.symm, HB.out⟩
      · have HN := Lib.hid (show ∀ i, i < n + 1 → occS P (sI a b i).toNat = false from fun i hi => by
          rcases (show i < n ∨ i = n by omega) with h | rfl
          · exact HALL.out i h
          · rw [HM.out, HO.out]; rfl)
        go_wp2
        go_roundw
        case rel => exact ⟨n + 1, by omega, by rw [HSN.out], (by first | rfl | trivial), HN.out⟩
        case measure => exact HME.out
    · obtain rfl : n = distN a b - 1 := by omega
      have HT := Lib.hid (open_row P a b _ (Nat.le_refl _) HALL.out rfl)
      rw [HEND.out]
      have hne : ((b : Int) == (b : Int)) = true := by simp
      go_wp2
      go_ret
      exact ⟨q_b HT.out.symm, HB.out⟩
end Go.Proofs.YtcdnakbdajbfoaaGreatDoor

namespace Go.Proofs.YtcdnakbdajbfoaaGreatDoor
open Go.RowKit Go.Sort
set_option linter.unusedSimpArgs false
set_option linter.unusedVariables false
set_option maxRecDepth 20000

def rayA (a i : Nat) : List Int := ray i (stp (a : Int) (dF i) (dR i))
def dirN (a b : Nat) : Nat :=
  let f := fD a b
  let r := rD a b
  if r == 0 then (if decide (0 < f) then 0 else 1) else if f == 0 then (if decide (0 < r) then 2 else 3)
  else if decide (0 < r) then (if decide (f < 0) then 4 else 5) else (if decide (f < 0) then 6 else 7)
def aheadOf (l : List Int) (b : Int) : List Int := l.takeWhile fun x => !(x == b)
def fitsB (a b : Nat) : Bool := !good a b || ((rayA a (dirN a b)).contains (b : Int) && (aheadOf (rayA a (dirN a b)) b == (between a b).map Int.ofNat) && decide (dirN a b < 8))
theorem fitsB_ok : ∀ a, a < 64 → ∀ b, b < 64 → fitsB a b = true := by decide +kernel
def wayB (a i : Nat) : Bool := (rayA a i).all fun x => decide (0 ≤ x) && decide (x < 64) && good a x.toNat && (dirN a x.toNat == i)
theorem wayB_ok : ∀ a, a < 64 → ∀ i, i < 8 → wayB a i = true := by decide +kernel
theorem raysNodup : ∀ a, a < 64 → ((List.range 8).flatMap fun i => rayA a i).Nodup := by decide +kernel
def hopB (a i : Nat) : Bool := ((rayA a i).take 1).all fun x => decide (0 ≤ x) && decide (x < 64) && (absI (fD a x.toNat) * absI (rD a x.toNat) == 2) && !(a == x.toNat)
theorem hopB_ok : ∀ a, a < 64 → ∀ i, i < 8 → hopB a (8 + i) = true := by decide +kernel
def hopsB (a b : Nat) : Bool := !(absI (fD a b) * absI (rD a b) == 2) || (List.range 8).any fun i => (rayA a (8 + i)).head? == some (b : Int)
theorem hopsB_ok : ∀ a, a < 64 → ∀ b, b < 64 → hopsB a b = true := by decide +kernel
theorem hopsNodup : ∀ a, a < 64 → ((List.range 8).flatMap fun i => (rayA a (8 + i)).take 1).Nodup := by decide +kernel
def pairB (a b : Nat) : Bool :=
  (!good a b || (((fD a b == 0 || rD a b == 0) == decide (dirN a b < 4)) && ((absI (fD a b) == absI (rD a b)) == decide (4 ≤ dirN a b)))) &&
  ((good a b && ((between a b).isEmpty)) == (!(a == b) && (decide (absI (fD a b) ≤ 1) && decide (absI (rD a b) ≤ 1)))) &&
  (!(good a b && (between a b).isEmpty) || ((decide (4 ≤ dirN a b) && decide (dirN a b < 6)) == (absI (fD a b) == 1 && rD a b == 1)) && ((decide (6 ≤ dirN a b) && decide (dirN a b < 8)) == (absI (fD a b) == 1 && rD a b == -1))) &&
  (!(absI (fD a b) == 1 && (rD a b == 1 || rD a b == -1)) || (good a b && (between a b).isEmpty)) &&
  (good a b == good b a) && (!good a b || (between b a == (between a b).reverse)) && (absI (fD b a) == absI (fD a b)) && (rD b a == - rD a b) && ((fD b a == 0) == (fD a b == 0))
theorem pairB_ok : ∀ a, a < 64 → ∀ b, b < 64 → pairB a b = true := by decide +kernel
end Go.Proofs.YtcdnakbdajbfoaaGreatDoor

namespace Go.Proofs.YtcdnakbdajbfoaaGreatDoor
open Go.RowKit Go.Sort
set_option linter.unusedSimpArgs false
set_option linter.unusedVariables false
set_option maxRecDepth 20000

theorem cut_iff (occ : Nat → Bool) (far : Bool) (b : Int) : ∀ l : List Int, b ∈ cut occ far l ↔ b ∈ l ∧ ∀ x ∈ aheadOf l b, far = true ∧ occ x.toNat = false
  | [] => by simp [cut]
  | x :: r => by
    unfold cut aheadOf
    by_cases h : x = b
    · subst h
      simp
    · have hx : (x == b) = false := by simp [h]
      rw [List.takeWhile_cons]
      simp only [hx, Bool.not_false, if_true, List.mem_cons, Ne.symm h, false_or, forall_eq_or_imp]
      have ih := cut_iff occ far b r
      unfold aheadOf at ih
      cases hf : far && !occ x.toNat
      · simp only [Bool.false_eq_true, if_false, List.not_mem_nil, false_iff]
        rintro ⟨_, ⟨h1, h2⟩, _⟩
        rw [h1, h2] at hf
        cases hf
      · simp only [if_true, ih]
        simp only [Bool.and_eq_true, Bool.not_eq_true'] at hf
        exact ⟨fun ⟨h1, h2⟩ => ⟨h1, hf, h2⟩, fun ⟨h1, _, h2⟩ => ⟨h1, h2⟩⟩
theorem way_iff (P : Nat → Int) (k d : Int) (a b i : Nat) (ha : a < 64) (hb : b < 64) (hi : i < 8) :
    (b : Int) ∈ wayL P a k d i ↔ good a b = true ∧ dirN a b = i ∧ ∀ s ∈ between a b, gFar k d = true ∧ occS P s = false := by
  show (b : Int) ∈ cut (occB P) (gFar k d) (rayA a i) ↔ _
  rw [cut_iff]
  have hf := fitsB_ok a ha b hb
  have hw := wayB_ok a ha i hi
  unfold fitsB at hf
  unfold wayB at hw
  rw [List.all_eq_true] at hw
  constructor
  · rintro ⟨h1, h2⟩
    have h3 := hw _ h1
    simp only [Bool.and_eq_true, decide_eq_true_eq, Int.toNat_natCast, beq_iff_eq] at h3
    obtain ⟨⟨_, hg⟩, hd⟩ := h3
    rw [hg, hd] at hf
    simp only [Bool.not_true, Bool.false_or, Bool.and_eq_true, beq_iff_eq, decide_eq_true_eq] at hf
    refine ⟨hg, hd, fun s hs => ?_⟩
    have h4 := h2 (s : Int) (by rw [hf.1.2]; exact List.mem_map.2 ⟨s, hs, rfl⟩)
    rw [Int.toNat_natCast] at h4
    exact h4
  · rintro ⟨hg, hd, h⟩
    rw [hg, hd] at hf
    simp only [Bool.not_true, Bool.false_or, Bool.and_eq_true, beq_iff_eq, decide_eq_true_eq, List.contains_iff_mem] at hf
    refine ⟨hf.1.1, fun x hx => ?_⟩
    rw [hf.1.2] at hx
    obtain ⟨s, hs, rfl⟩ := List.mem_map.1 hx
    exact h s hs
theorem hop_iff (P : Nat → Int) (d : Int) (a b i : Nat) (ha : a < 64) : (b : Int) ∈ wayL P a 2 d i ↔ (rayA a i).head? = some (b : Int) := by
  show (b : Int) ∈ cut (occB P) (gFar 2 d) (rayA a i) ↔ _
  have hf : gFar 2 d = false := by unfold gFar; simp
  rw [hf]
  cases rayA a i with
  | nil => simp [cut]
  | cons x r => simp [cut, eq_comm]
theorem attUp_mem (P : Nat → Int) (s k d x : Int) (n : Nat) : x ∈ attUp P s k d n ↔ ∃ i, i < n ∧ x ∈ wayL P s k d (gFrom k d + i) := by
  unfold attUp
  rw [List.mem_flatMap]
  exact ⟨fun ⟨i, h1, h2⟩ => ⟨i, List.mem_range.1 h1, h2⟩, fun ⟨i, h1, h2⟩ => ⟨i, List.mem_range.2 h1, h2⟩⟩
theorem ways_iff (P : Nat → Int) (k d : Int) (a b : Nat) (ha : a < 64) (hb : b < 64) (h8 : gTo k d ≤ 8) :
    (b : Int) ∈ attL P a k d ↔ good a b = true ∧ gFrom k d ≤ dirN a b ∧ dirN a b < gTo k d ∧ ∀ s ∈ between a b, gFar k d = true ∧ occS P s = false := by
  unfold attL
  rw [attUp_mem]
  have hg := gait_small k d
  constructor
  · rintro ⟨i, hi, h⟩
    obtain ⟨h1, h2, h3⟩ := (way_iff P k d a b _ ha hb (by omega)).1 h
    exact ⟨h1, by omega, by omega, h3⟩
  · rintro ⟨h1, h2, h3, h4⟩
    refine ⟨dirN a b - gFrom k d, by omega, ?_⟩
    rw [way_iff P k d a b _ ha hb (by omega)]
    exact ⟨h1, by omega, h4⟩
theorem hops_iff (P : Nat → Int) (d : Int) (hd : sideB d = true) (a b : Nat) (ha : a < 64) (hb : b < 64) :
    (b : Int) ∈ attL P a 2 d ↔ absI (fD a b) * absI (rD a b) = 2 := by
  have g0 : gFrom 2 d = 8 := by unfold gFrom; simp [hd]
  have g1 : gTo 2 d = 16 := by unfold gTo; simp [hd]
  unfold attL
  rw [attUp_mem, g0, g1]
  constructor
  · rintro ⟨i, hi, h⟩
    have h1 := (hop_iff P d a b _ ha).1 h
    have h2 := hopB_ok a ha i (by omega)
    unfold hopB at h2
    rw [List.all_eq_true] at h2
    have h3 := h2 (b : Int) (by
      cases hl : rayA a (8 + i) with
      | nil => rw [hl] at h1; cases h1
      | cons x r => rw [hl] at h1; simp at h1; subst h1; simp)
    simp only [Bool.and_eq_true, decide_eq_true_eq, Int.toNat_natCast, beq_iff_eq] at h3
    exact h3.1.2
  · intro h
    have h2 := hopsB_ok a ha b hb
    unfold hopsB at h2
    rw [h] at h2
    simp only [beq_self_eq_true, Bool.not_true, Bool.false_or, List.any_eq_true, List.mem_range, beq_iff_eq] at h2
    obtain ⟨i, hi, h3⟩ := h2
    exact ⟨i, by omega, (hop_iff P d a b _ ha).2 h3⟩
structure PairF (a b : Nat) : Prop where
  st : good a b = true → ((fD a b == 0 || rD a b == 0) = decide (dirN a b < 4))
  sl : good a b = true → ((absI (fD a b) == absI (rD a b)) = decide (4 ≤ dirN a b))
  near : (good a b && (between a b).isEmpty) = (!(a == b) && (decide (absI (fD a b) ≤ 1) && decide (absI (rD a b) ≤ 1)))
  up : (good a b && (between a b).isEmpty) = true → ((decide (4 ≤ dirN a b) && decide (dirN a b < 6)) = (absI (fD a b) == 1 && rD a b == 1))
  down : (good a b && (between a b).isEmpty) = true → ((decide (6 ≤ dirN a b) && decide (dirN a b < 8)) = (absI (fD a b) == 1 && rD a b == -1))
  pawn : (absI (fD a b) == 1 && (rD a b == 1 || rD a b == -1)) = true → (good a b && (between a b).isEmpty) = true
  gsym : good a b = good b a
  bsym : good a b = true → between b a = (between a b).reverse
  fsym : absI (fD b a) = absI (fD a b)
  rsym : rD b a = - rD a b
  zsym : (fD b a == 0) = (fD a b == 0)
theorem imp_of {x y : Bool} (h : (!x || y) = true) : x = true → y = true := by cases x <;> simp_all
theorem pairF (a b : Nat) (ha : a < 64) (hb : b < 64) : PairF a b := by
  have h := pairB_ok a ha b hb
  unfold pairB at h
  simp only [Bool.and_eq_true] at h
  obtain ⟨⟨⟨⟨⟨⟨⟨⟨h1, h2⟩, h3⟩, h4⟩, h5⟩, h6⟩, h7⟩, h8⟩, h9⟩ := h
  refine ⟨fun g => ?_, fun g => ?_, by simpa using h2, fun g => ?_, fun g => ?_, fun g => ?_, by simpa using h5, fun g => ?_, by simpa using h7, by simpa using h8, by simpa using h9⟩
  · have := imp_of h1 g; simp only [Bool.and_eq_true, beq_iff_eq] at this; exact this.1
  · have := imp_of h1 g; simp only [Bool.and_eq_true, beq_iff_eq] at this; exact this.2
  · have := imp_of h3 g; simp only [Bool.and_eq_true, beq_iff_eq] at this; exact this.1
  · have := imp_of h3 g; simp only [Bool.and_eq_true, beq_iff_eq] at this; exact this.2
  · exact imp_of h4 g
  · simpa using imp_of h6 g
theorem dir8 : ∀ a b, dirN a b < 8 := by
  intro a b
  unfold dirN
  dsimp only
  repeat' split
  all_goals omega
theorem open_iff (P : Nat → Int) (a b : Nat) : openB P a b = true ↔ ∀ s ∈ between a b, occS P s = false := by
  unfold openB
  simp
theorem good_ne {a b : Nat} (h : good a b = true) : a ≠ b := by
  unfold good at h
  intro e
  subst e
  simp at h
theorem att_iff (P : Nat → Int) (k d : Int) (a b : Nat) (ha : a < 64) (hb : b < 64) : (b : Int) ∈ attL P a k d ↔ attK P k d a b = true := by
  have F := pairF a b ha hb
  have hd8 := dir8 a b
  cases hs : sideB d
  · have h1 : attK P k d a b = false := by
      unfold attK mayB; rw [hs]; simp
    have h2 : attL P a k d = [] := by
      unfold attL; have : gTo k d = 0 := by unfold gTo; simp [hs]
      rw [this, Nat.zero_sub]; rfl
    rw [h1, h2]; simp
  by_cases hk : 1 ≤ k ∧ k ≤ 6
  rotate_left
  · have h1 : attK P k d a b = false := by
      unfold attK mayB
      by_cases h : 1 ≤ k
      · have : ¬ k ≤ 6 := fun e => hk ⟨h, e⟩
        simp [this]
      · simp [h]
    have h2 : attL P a k d = [] := by
      unfold attL
      have hn : k ≠ 1 ∧ k ≠ 2 ∧ k ≠ 3 ∧ k ≠ 4 ∧ k ≠ 5 ∧ k ≠ 6 := by omega
      have : gTo k d = 0 := by unfold gTo; simp [hn]
      rw [this, Nat.zero_sub]; rfl
    rw [h1, h2]; simp
  have hm : mayB k d = true := by unfold mayB; simp [hk.1, hk.2, hs]
  have hK : attK P k d a b = (!(a == b) && kindB P k d a b) := by unfold attK; rw [hm]; simp
  rw [hK]
  have empty_iff : (∀ s ∈ between a b, False) ↔ (between a b).isEmpty = true := by
    cases between a b with
    | nil => simp
    | cons x r => exact ⟨fun h => (h x (List.mem_cons_self ..)).elim, fun h => by cases h⟩
  rcases (show k = 1 ∨ k = 2 ∨ k = 3 ∨ k = 4 ∨ k = 5 ∨ k = 6 by omega) with rfl | rfl | rfl | rfl | rfl | rfl
  · -- pawns
    have hf : gFar 1 d = false := by unfold gFar; simp
    rw [ways_iff P 1 d a b ha hb (by unfold gTo; simp [hs]; split <;> omega), hf]
    have e1 : (∀ s ∈ between a b, false = true ∧ occS P s = false) ↔ (between a b).isEmpty = true := by
      rw [← empty_iff]; simp
    rw [e1]
    rcases side_cases d with ⟨rfl, _⟩ | ⟨rfl, _⟩ | ⟨_, _, h⟩
    · have g0 : gFrom 1 0 = 4 := rfl
      have g1 : gTo 1 0 = 6 := rfl
      have hkb : kindB P 1 0 a b = (absI (fD a b) == 1 && rD a b == 1) := by unfold kindB; simp
      rw [g0, g1, hkb]
      constructor
      · rintro ⟨h1, h2, h3, h4⟩
        have h5 := F.up (by rw [h1, h4]; rfl)
        rw [← h5]
        simp [h2, h3, good_ne h1]
      · intro h
        simp only [Bool.and_eq_true] at h
        have h5 := F.pawn (by simp [h.2.1, h.2.2])
        have h6 := F.up h5
        rw [h.2.1, h.2.2] at h6
        simp only [Bool.and_eq_true, Bool.and_self, decide_eq_true_eq] at h5 h6
        exact ⟨h5.1, h6.1, h6.2, h5.2⟩
    · have g0 : gFrom 1 1 = 6 := rfl
      have g1 : gTo 1 1 = 8 := rfl
      have hkb : kindB P 1 1 a b = (absI (fD a b) == 1 && rD a b == -1) := by unfold kindB; simp
      rw [g0, g1, hkb]
      constructor
      · rintro ⟨h1, h2, h3, h4⟩
        have h5 := F.down (by rw [h1, h4]; rfl)
        rw [← h5]
        simp [h2, h3, good_ne h1]
      · intro h
        simp only [Bool.and_eq_true] at h
        have h5 := F.pawn (by simp [h.2.1, h.2.2])
        have h6 := F.down h5
        rw [h.2.1, h.2.2] at h6
        simp only [Bool.and_eq_true, Bool.and_self, decide_eq_true_eq] at h5 h6
        exact ⟨h5.1, h6.1, h6.2, h5.2⟩
    · rw [h] at hs; cases hs
  · -- knights
    rw [hops_iff P d hs a b ha hb]
    have hkb : kindB P 2 d a b = (absI (fD a b) * absI (rD a b) == 2) := by unfold kindB; simp
    rw [hkb]
    constructor
    · intro h
      rw [h]
      have : a ≠ b := fun e => by
        subst e
        have : fD a a = 0 := by unfold fD; omega
        rw [this] at h
        simp [absI] at h
      simp [this]
    · intro h
      simp only [Bool.and_eq_true, beq_iff_eq] at h
      exact h.2
  · -- bishops
    have hf : gFar 3 d = true := by unfold gFar; simp [hs]
    have g0 : gFrom 3 d = 4 := by unfold gFrom; simp [hs]
    have g1 : gTo 3 d = 8 := by unfold gTo; simp [hs]
    rw [ways_iff P 3 d a b ha hb (by omega), hf, g0, g1]
    have hkb : kindB P 3 d a b = ((absI (fD a b) == absI (rD a b)) && openB P a b) := by unfold kindB; simp
    rw [hkb]
    constructor
    · rintro ⟨h1, h2, h3, h4⟩
      rw [F.sl h1, (open_iff P a b).2 fun s hs => (h4 s hs).2]
      simp [h2, good_ne h1]
    · intro h
      simp only [Bool.and_eq_true] at h
      have hg : good a b = true := by unfold good; simp [h.1, h.2.1]
      have h5 := F.sl hg
      rw [h.2.1] at h5
      exact ⟨hg, by simpa using h5.symm, hd8, fun s hs => ⟨rfl, (open_iff P a b).1 h.2.2 s hs⟩⟩
  · -- rooks
    have hf : gFar 4 d = true := by unfold gFar; simp [hs]
    have g0 : gFrom 4 d = 0 := by unfold gFrom; simp [hs]
    have g1 : gTo 4 d = 4 := by unfold gTo; simp [hs]
    rw [ways_iff P 4 d a b ha hb (by omega), hf, g0, g1]
    have hkb : kindB P 4 d a b = ((fD a b == 0 || rD a b == 0) && openB P a b) := by unfold kindB; simp
    rw [hkb]
    constructor
    · rintro ⟨h1, h2, h3, h4⟩
      rw [F.st h1, (open_iff P a b).2 fun s hs => (h4 s hs).2]
      simp [h3, good_ne h1]
    · intro h
      simp only [Bool.and_eq_true] at h
      have hg : good a b = true := by unfold good; rw [h.1, h.2.1]; rfl
      have h5 := F.st hg
      rw [h.2.1] at h5
      exact ⟨hg, Nat.zero_le _, by simpa using h5.symm, fun s hs => ⟨rfl, (open_iff P a b).1 h.2.2 s hs⟩⟩
  · -- queens
    have hf : gFar 5 d = true := by unfold gFar; simp [hs]
    have g0 : gFrom 5 d = 0 := by unfold gFrom; simp [hs]
    have g1 : gTo 5 d = 8 := by unfold gTo; simp [hs]
    rw [ways_iff P 5 d a b ha hb (by omega), hf, g0, g1]
    have hkb : kindB P 5 d a b = ((fD a b == 0 || rD a b == 0 || absI (fD a b) == absI (rD a b)) && openB P a b) := by unfold kindB; simp
    rw [hkb]
    have hg : good a b = (!(a == b) && (fD a b == 0 || rD a b == 0 || absI (fD a b) == absI (rD a b))) := rfl
    constructor
    · rintro ⟨h1, h2, h3, h4⟩
      rw [(open_iff P a b).2 fun s hs => (h4 s hs).2, Bool.and_true, ← hg, h1]
    · intro h
      rw [← Bool.and_assoc, ← hg, Bool.and_eq_true] at h
      exact ⟨h.1, Nat.zero_le _, hd8, fun s hs => ⟨rfl, (open_iff P a b).1 h.2 s hs⟩⟩
  · -- kings
    have hf : gFar 6 d = false := by unfold gFar; simp
    have g0 : gFrom 6 d = 0 := by unfold gFrom; simp [hs]
    have g1 : gTo 6 d = 8 := by unfold gTo; simp [hs]
    rw [ways_iff P 6 d a b ha hb (by omega), hf, g0, g1]
    have hkb : kindB P 6 d a b = (decide (absI (fD a b) ≤ 1) && decide (absI (rD a b) ≤ 1)) := by unfold kindB; simp
    have e1 : (∀ s ∈ between a b, false = true ∧ occS P s = false) ↔ (between a b).isEmpty = true := by
      rw [← empty_iff]; simp
    rw [hkb, e1, ← F.near, Bool.and_eq_true]
    exact ⟨fun h => ⟨h.1, h.2.2.2⟩, fun h => ⟨h.1, Nat.zero_le _, hd8, h.2⟩⟩
theorem rayA_nodup (a i : Nat) (ha : a < 64) (hi : i < 8) : (rayA a i).Nodup := (List.pairwise_flatMap.1 (raysNodup a ha)).1 i (List.mem_range.2 hi)
theorem cut_sub (occ : Nat → Bool) (far : Bool) : ∀ l : List Int, (cut occ far l).Sublist l
  | [] => List.Sublist.refl _
  | x :: r => by
    unfold cut
    split
    · exact (cut_sub occ far r).cons_cons x
    · exact List.Sublist.cons_cons x (List.nil_sublist _)
theorem cut_near (occ : Nat → Bool) (l : List Int) : cut occ false l = l.take 1 := by
  cases l <;> simp [cut]
theorem attL_nodup (P : Nat → Int) (k d : Int) (a : Nat) (ha : a < 64) : (attL P a k d).Nodup := by
  unfold attL attUp
  have hg := gait_small k d
  by_cases h8 : gTo k d ≤ 8
  · refine List.pairwise_flatMap.2 ⟨fun i hi => ?_, ?_⟩
    · have hi2 := List.mem_range.1 hi
      exact (rayA_nodup a (gFrom k d + i) ha (by omega)).sublist (cut_sub _ _ _)
    · refine List.Pairwise.imp_of_mem ?_ List.pairwise_lt_range
      intro i j hi hj hij x hx y hy e
      subst e
      have hi2 := List.mem_range.1 hi
      have hj2 := List.mem_range.1 hj
      have hsq := rayN_sq _ _ _ _ (cut_mem _ _ _ _ hx)
      obtain ⟨x0, x1⟩ := (sq_iff x).1 hsq
      obtain ⟨n, rfl⟩ := Int.eq_ofNat_of_zero_le x0
      have h1 := (way_iff P k d a n _ ha (by omega) (by omega)).1 hx
      have h2 := (way_iff P k d a n _ ha (by omega) (by omega)).1 hy
      omega
  · -- knights
    have hk : gFrom k d = 8 ∧ gTo k d = 16 ∧ gFar k d = false := by
      unfold gTo at h8
      split at h8
      · rename_i hs
        split at h8
        · split at h8 <;> omega
        · split at h8
          · rename_i h2
            subst h2
            exact ⟨by unfold gFrom; simp [hs], by unfold gTo; simp [hs], by unfold gFar; simp⟩
          · repeat' split at h8
            all_goals omega
      · omega
    obtain ⟨g0, g1, gf⟩ := hk
    rw [g0, g1]
    have h := hopsNodup a ha
    have e : (fun i => wayL P a k d (8 + i)) = fun i => (rayA a (8 + i)).take 1 := by
      funext i
      show cut (occB P) (gFar k d) (rayA a (8 + i)) = _
      rw [gf, cut_near]
    rw [e]
    exact h
def upList (q : Nat → Bool) (n : Nat) : List Int := ((List.range n).filter q).map Int.ofNat
theorem upList_succ (q : Nat → Bool) (n : Nat) : upList q (n + 1) = upList q n ++ if q n then [(n : Int)] else [] := by
  unfold upList
  rw [List.range_succ, List.filter_append, List.map_append]
  congr 1
  cases hq : q n <;> simp [hq]
theorem upList_len (q : Nat → Bool) (n : Nat) : (upList q n).length ≤ n := by
  unfold upList
  rw [List.length_map]
  exact Nat.le_trans (List.length_filter_le _ _) (by simp)
theorem upList_mem (q : Nat → Bool) (n : Nat) (x : Int) : x ∈ upList q n ↔ ∃ i : Nat, i < n ∧ q i = true ∧ x = (i : Int) := by
  unfold upList
  simp only [List.mem_map, List.mem_filter, List.mem_range]
  exact ⟨fun ⟨i, ⟨h1, h2⟩, h3⟩ => ⟨i, h1, h2, h3.symm⟩, fun ⟨i, h1, h2, h3⟩ => ⟨i, ⟨h1, h2⟩, h3.symm⟩⟩
theorem upList_lt (q : Nat → Bool) (n : Nat) : (upList q n).Pairwise (fun x y => x < y) := by
  unfold upList
  rw [List.pairwise_map]
  refine List.Pairwise.imp ?_ ((List.pairwise_lt_range (n := n)).filter q)
  intro x y h
  exact Int.ofNat_lt.2 h
theorem risen_up (l : List Int) (q : Nat → Bool) (hn : l.Nodup) (hsq : ∀ x ∈ l, sq x = true) (hq : ∀ n : Nat, n < 64 → ((n : Int) ∈ l ↔ q n = true)) : risen l = upList q 64 := by
  have hm : ∀ x, x ∈ l ↔ x ∈ upList q 64 := by
    intro x
    rw [upList_mem]
    constructor
    · intro h
      obtain ⟨x0, x1⟩ := (sq_iff x).1 (hsq x h)
      obtain ⟨n, rfl⟩ := Int.eq_ofNat_of_zero_le x0
      exact ⟨n, by omega, (hq n (by omega)).1 h, rfl⟩
    · rintro ⟨n, h1, h2, rfl⟩
      exact (hq n h1).2 h2
  have hup := upList_lt q 64
  have hn2 : (upList q 64).Nodup := hup.imp fun h e => by omega
  have hp : l.Perm (upList q 64) := (List.perm_ext_iff_of_nodup hn hn2).2 hm
  unfold risen
  refine List.Perm.eq_of_pairwise (le := fun a b => a ≤ b) (fun a b _ _ h1 h2 => Int.le_antisymm h1 h2) ?_ (hup.imp fun h => Int.le_of_lt h) ((List.mergeSort_perm l _).trans hp)
  refine (List.pairwise_mergeSort (le := fun x y => decide (x ≤ y)) (fun a b c h1 h2 => ?_) (fun a b => ?_) l).imp fun h => by simpa using h
  · simp only [decide_eq_true_eq] at *; exact Int.le_trans h1 h2
  · simp only [Bool.or_eq_true, decide_eq_true_eq]; exact Int.le_total a b
def rFromL (P : Nat → Int) (s : Int) : List Int := if sq s then upList (fun t => attR P s.toNat t) 64 else []
def rToL (P : Nat → Int) (s d : Int) : List Int := if sq s then upList (fun a => P (2 * a + 1) == d && attR P a s.toNat) 64 else []
theorem from_eq (P : Nat → Int) (s : Int) : fromL P s = rFromL P s := by
  unfold fromL rFromL
  split
  · rename_i hs
    obtain ⟨s0, s1⟩ := (sq_iff s).1 hs
    obtain ⟨a, rfl⟩ := Int.eq_ofNat_of_zero_le s0
    rw [Int.toNat_natCast]
    exact risen_up _ _ (attL_nodup P _ _ a (by omega)) (fun x hx => attL_sq P _ _ _ x hx) fun n hn => att_iff P _ _ a n (by omega) hn
  · rfl
theorem attL_off (P : Nat → Int) (s k d : Int) (hs : sq s = false) : attL P s k d = [] := by
  have h : ∀ n, attUp P s k d n = [] := by
    intro n
    induction n with
    | zero => rfl
    | succ n ih =>
      rw [attUp_succ, ih]
      unfold wayL
      rw [stp_off hs, ray_off _ _ rfl]
      rfl
  exact h _
theorem atkUp_mem (P : Nat → Int) (s d x : Int) (n : Nat) : x ∈ atkUp P s d n ↔ ∃ i, i < n ∧ x ∈ atkK P s d (i + 1) := by
  unfold atkUp
  rw [List.mem_flatMap]
  exact ⟨fun ⟨i, h1, h2⟩ => ⟨i, List.mem_range.1 h1, h2⟩, fun ⟨i, h1, h2⟩ => ⟨i, List.mem_range.2 h1, h2⟩⟩
theorem oth_side7 (d : Int) : sideB (oth d) = true := by unfold oth; split <;> rfl
theorem att_back (P : Nat → Int) (k d : Int) (a b : Nat) (ha : a < 64) (hb : b < 64) (hs : sideB d = true) : attK P k (oth d) a b = attK P k d b a := by
  have F := pairF a b ha hb
  have hm : mayB k (oth d) = mayB k d := by unfold mayB; rw [oth_side7, hs]
  unfold attK
  rw [hm]
  have hab : (a == b) = (b == a) := by rw [Bool.eq_iff_iff, beq_iff_eq, beq_iff_eq]; exact eq_comm
  rw [hab]
  cases hmm : mayB k d
  · rfl
  cases hba : (b == a)
  rotate_left
  · rfl
  have hne : b ≠ a := by simpa using hba
  simp only [Bool.true_and, Bool.not_false]
  have hF2 := pairF b a hb ha
  have hr2 : (rD b a == 0) = (rD a b == 0) := by rw [F.rsym, Bool.eq_iff_iff, beq_iff_eq, beq_iff_eq]; omega
  have habs : absI (rD b a) = absI (rD a b) := by rw [F.rsym]; unfold absI; split <;> split <;> omega
  have hop : good a b = true → openB P b a = openB P a b := fun hg => by
    unfold openB; rw [F.bsym hg, List.all_reverse]
  unfold kindB
  rw [F.fsym, habs, F.zsym, hr2]
  split
  · rename_i h1
    rcases side_cases d with ⟨rfl, _⟩ | ⟨rfl, _⟩ | ⟨_, _, h⟩
    · have h : (rD a b == -1) = (-rD a b == 1) := by rw [Bool.eq_iff_iff, beq_iff_eq, beq_iff_eq]; omega
      rw [F.rsym]
      simp [oth, h]
    · have h : (rD a b == 1) = (-rD a b == -1) := by rw [Bool.eq_iff_iff, beq_iff_eq, beq_iff_eq]; omega
      rw [F.rsym]
      simp [oth, h]
    · rw [h] at hs; cases hs
  · split
    · rfl
    · split
      · rfl
      · have hgd : good a b = (fD a b == 0 || rD a b == 0 || absI (fD a b) == absI (rD a b)) := by unfold good; simp [Ne.symm hne]
        split
        · cases hst : (fD a b == 0 || rD a b == 0)
          · rfl
          · rw [hop (by rw [hgd, hst]; rfl)]
        · split
          · cases hsl : (absI (fD a b) == absI (rD a b))
            · rfl
            · rw [hop (by rw [hgd, hsl]; simp)]
          · cases hst : (fD a b == 0 || rD a b == 0 || absI (fD a b) == absI (rD a b))
            · rfl
            · rw [hop (by rw [hgd, hst])]
theorem to_eq (P : Nat → Int) (s d : Int) : toL P s d = rToL P s d := by
  unfold toL rToL
  cases hs : sq s
  · have : atkL P s d = [] := by
      have h : ∀ n, atkUp P s d n = [] := by
        intro n
        induction n with
        | zero => rfl
        | succ n ih => rw [atkUp_succ, ih]; unfold atkK; rw [attL_off P s _ _ hs]; rfl
      unfold atkL
      split
      · exact h 6
      · rfl
    rw [this]
    simp [risen]
  · obtain ⟨s0, s1⟩ := (sq_iff s).1 hs
    obtain ⟨b, rfl⟩ := Int.eq_ofNat_of_zero_le s0
    have hb : b < 64 := by omega
    rw [if_pos rfl, Int.toNat_natCast]
    have hmem : ∀ x, x ∈ atkL P b d → ∃ i, i < 6 ∧ x ∈ attL P b ((i + 1 : Nat) : Int) (oth d) ∧ isIt P ((i + 1 : Nat) : Int) d x = true := by
      intro x hx
      unfold atkL at hx
      split at hx
      · obtain ⟨i, hi, h2⟩ := (atkUp_mem P _ _ _ _).1 hx
        unfold atkK at h2
        exact ⟨i, hi, List.mem_filter.1 h2⟩
      · cases hx
    refine risen_up _ _ ?_ (fun x hx => ?_) fun n hn => ?_
    · unfold atkL
      split
      · refine List.pairwise_flatMap.2 ⟨fun i hi => (attL_nodup P _ _ b hb).filter _, ?_⟩
        refine List.Pairwise.imp_of_mem ?_ List.pairwise_lt_range
        intro i j hi hj hij x hx y hy e
        subst e
        have h1 := (List.mem_filter.1 hx).2
        have h2 := (List.mem_filter.1 hy).2
        unfold isIt at h1 h2
        have h3 := ((pe_iff _ _ _ _).1 h1).1
        have h4 := ((pe_iff _ _ _ _).1 h2).1
        omega
      · exact List.Pairwise.nil
    · obtain ⟨i, _, h, _⟩ := hmem x hx
      exact attL_sq P _ _ _ x h
    · constructor
      · intro h
        obtain ⟨i, hi, h1, h2⟩ := hmem _ h
        unfold isIt at h2
        rw [Int.toNat_natCast] at h2
        obtain ⟨e1, e2⟩ := (pe_iff _ _ _ _).1 h2
        have hsd : sideB d = true := by
          unfold atkL at h
          split at h
          · assumption
          · cases h
        rw [att_iff P _ _ b n hb hn, att_back P _ d b n hb hn hsd] at h1
        unfold attR
        rw [e1, e2, h1]
        simp
      · intro h
        simp only [Bool.and_eq_true, beq_iff_eq] at h
        obtain ⟨e2, h1⟩ := h
        unfold attR at h1
        rw [e2] at h1
        have hm : mayB (P (2 * n)) d = true := by unfold attK at h1; simp only [Bool.and_eq_true] at h1; exact h1.1.1
        have hk : 1 ≤ P (2 * n) ∧ P (2 * n) ≤ 6 ∧ sideB d = true := by unfold mayB at hm; simp only [Bool.and_eq_true, decide_eq_true_eq] at hm; exact ⟨hm.1.1, hm.1.2, hm.2⟩
        rw [← att_back P _ d b n hb hn hk.2.2, ← att_iff P _ _ b n hb hn] at h1
        unfold atkL
        rw [if_pos hk.2.2, atkUp_mem]
        refine ⟨(P (2 * n)).toNat - 1, by omega, ?_⟩
        have e3 : (((P (2 * n)).toNat - 1 + 1 : Nat) : Int) = P (2 * n) := by omega
        unfold atkK
        rw [e3]
        refine List.mem_filter.2 ⟨h1, ?_⟩
        unfold isIt
        rw [Int.toNat_natCast]
        exact (pe_iff _ _ _ _).2 ⟨rfl, e2⟩
end Go.Proofs.YtcdnakbdajbfoaaGreatDoor
