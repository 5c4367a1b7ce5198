/-
  Merged: Dh, Bb, Dk, Dm.
-/
import Derived.Test.YtkncfeijlmomaaaGreatDoorG7
import Derived.Test.YtkncfeijlmomaaaGreatDoorG3
import Derived.Test.YtkncfeijlmomaaaGreatDoorG2

namespace Go.Proofs.YtkncfeijlmomaaaGreatDoor
open Go.RowKit Go.Sort
set_option linter.unusedSimpArgs false
set_option linter.unusedVariables false
set_option maxRecDepth 20000

theorem infoFin : (Tryz.prog.info? 166).map (·.size) = some 133 := by kernel_rfl
theorem zeroFin : Tryz.zeroCells166 = (pc fun _ => 0).toArray := by kernel_rfl
theorem fold_setF : ∀ (L : List Value) (k : Nat) (cs : Array Value), k + L.length ≤ cs.size → ∀ i, (List.foldl (fun (cs : Array Value) (x : Value × Nat) => cs.setIfInBounds x.2 x.1) cs (L.zipIdx k))[i]? = if k ≤ i ∧ i < k + L.length then L[i - k]? else cs[i]?
  | [], k, cs, _, i => by simp; omega
  | v :: L, k, cs, h, i => by
    simp only [List.length_cons] at h
    rw [List.zipIdx_cons, List.foldl_cons, fold_setF L (k + 1) _ (by simp; omega) i]
    by_cases h1 : k + 1 ≤ i ∧ i < k + 1 + L.length
    · rw [if_pos h1, if_pos (by simp; omega), show i - k = (i - (k + 1)) + 1 by omega, List.getElem?_cons_succ]
    · rw [if_neg h1]
      by_cases h2 : i = k
      · subst h2
        rw [if_pos (by simp), Nat.sub_self, List.getElem?_cons_zero, Array.getElem?_setIfInBounds_self_of_lt (by omega)]
      · rw [if_neg (by simp only [List.length_cons]; omega), Array.getElem?_setIfInBounds_ne (by omega)]
theorem fold_fin (X : Array Value) (hX : X.size = 133) : Array.foldl (fun (cs : Array Value) (x : Value × Nat) => cs.setIfInBounds x.2 x.1) Tryz.zeroCells166 X.zipIdx 0 133 = X := by
  apply Array.ext_getElem?
  intro i
  have hz : Tryz.zeroCells166.size = 133 := by rw [zeroFin, pc_size]
  rw [show (133 : Nat) = X.zipIdx.size by simp [hX], ← Array.foldl_toList]
  rw [Array.toList_zipIdx, fold_setF X.toList 0 _ (by simp [hX, hz]) i]
  by_cases h : i < 133
  · rw [if_pos (by simp [hX, h]), Nat.sub_zero, Array.getElem?_toList]
  · rw [if_neg (by simp [hX]; omega), Array.getElem?_eq_none (by omega), Array.getElem?_eq_none (by omega)]
theorem rayN_len (i : Nat) : ∀ (n : Nat) (t : Int), (rayN i n t).length ≤ n
  | 0, _ => Nat.le_refl _
  | n + 1, t => by
    unfold rayN
    split
    · have := rayN_len i n (stp t (dF i) (dR i)); simp; omega
    · simp
theorem cut_len (occ : Nat → Bool) (far : Bool) : ∀ (l : List Int), (cut occ far l).length ≤ l.length
  | [] => Nat.le_refl _
  | y :: r => by
    unfold cut
    split
    · have := cut_len occ far r; simp; omega
    · simp
theorem attUp_len (P : Nat → Int) (s k d : Int) (n : Nat) : (attUp P s k d n).length ≤ 8 * n := by
  induction n with
  | zero => simp [attUp]
  | succ n ih =>
    rw [attUp_succ, List.length_append]
    have h1 := cut_len (occB P) (gFar k d) (ray (gFrom k d + n) (stp s (dF (gFrom k d + n)) (dR (gFrom k d + n))))
    have h2 := rayN_len (gFrom k d + n) 8 (stp s (dF (gFrom k d + n)) (dR (gFrom k d + n)))
    unfold wayL
    unfold ray at *
    omega
theorem attL_len (P : Nat → Int) (s k d : Int) : (attL P s k d).length ≤ 128 := by
  have h1 := attUp_len P s k d (gTo k d - gFrom k d)
  have h2 := gait_small k d
  unfold attL
  omega
/-- the document's From, To, by the program -/
def fromL (P : Nat → Int) (s : Int) : List Int := if sq s then risen (attL P s (P (2 * s.toNat)) (P (2 * s.toNat + 1))) else []
def toL (P : Nat → Int) (s d : Int) : List Int := risen (atkL P s d)
theorem pos_box (P : Nat → Int) (w : World) (X : Array Value) (hX : X = (pc P).toArray) (t : TypeId) : PB (w.alloc (.cells X t)) w.heap.size P := by subst hX; exact PB.new rfl
theorem an_cases {fb n : Nat} : ∀ q, AN fb n (n + 1) (n + 2) q → q = fb ∨ n ≤ q ∨ q = 2 := by
  rintro q (h | h | h | h | h)
  · exact .inl h
  · exact .inr (.inl (by omega))
  · exact .inr (.inl (by omega))
  · exact .inr (.inl (by omega))
  · exact .inr (.inr h)
/-- a finder's iterator, as it is made -/
theorem made_att (fb n : Nat) (P : Nat → Int) (s k d : Int) (W : World) (hp : PB W fb P) (hg : GS W.heap.size W) :
    Calls Tryz.prog 177 #[.pointer (some ⟨fb, 0, none⟩), .int .i64 s, .agg #[.int .i64 k, .int .i64 d]] W fun e w' => ∃ lb N, e = .returned (.func (.func 204) #[] lb) ∧ Below W.heap.size W w' ∧ Comes Tryz.prog 204 lb N (Value.int .i64) (attL P s k d) w' ∧ ∀ q, N q → q = fb ∨ W.heap.size ≤ q ∨ q = 2 := by
  refine (attacked_any fb s k d W).mono ?_
  rintro e w5 ⟨rfl, hw5⟩
  have hb5 : Below W.heap.size W w5 := by rw [hw5]; exact ((below_new _).alloc (by simp) _).alloc (by simp; omega) _
  refine ⟨_, _, rfl, hb5, attacked_comes fb W.heap.size (W.heap.size + 1) (W.heap.size + 2) P s k d w5 ⟨?_, ?_, hp.go hb5, (hg.below hb5).mono hb5.size⟩ ?_, an_cases⟩
  · rw [hw5]; exact al_old (al_old (sl_at rfl) _) _
  · rw [hw5]; exact al_old (sl_at (by simp)) _
  · rw [hw5]; exact sl_at (by simp)
theorem made_atk (fb : Nat) (P : Nat → Int) (s d : Int) (W : World) (hp : PB W fb P) (hg : GS W.heap.size W) :
    Calls Tryz.prog 153 #[.pointer (some ⟨fb, 0, none⟩), .int .i64 s, .int .i64 d] W fun e w' => ∃ lb N, e = .returned (.func (.func 176) #[] lb) ∧ Below W.heap.size W w' ∧ Comes Tryz.prog 176 lb N (Value.int .i64) (atkL P s d) w' ∧ ∀ q, N q → q = fb ∨ W.heap.size ≤ q ∨ q = 2 := by
  refine (attackers_any fb s d W).mono ?_
  rintro e w5 ⟨rfl, hw5⟩
  have hb5 : Below W.heap.size W w5 := by rw [hw5]; exact ((below_new _).alloc (by simp) _).alloc (by simp; omega) _
  refine ⟨_, _, rfl, hb5, attackers_comes fb W.heap.size (W.heap.size + 1) (W.heap.size + 2) P s d w5 ⟨⟨?_, ?_, hp.go hb5, (hg.below hb5).mono hb5.size⟩, ?_⟩, an_cases⟩
  · rw [hw5]; exact al_old (al_old (sl_at rfl) _) _
  · rw [hw5]; exact al_old (sl_at (by simp)) _
  · rw [hw5]; exact sl_at (by simp)
set_option maxHeartbeats 2000000 in
set_option maxRecDepth 100000 in
theorem from_any (P : Nat → Int) (s : Int) (w : World) (B : Nat) (hg : GS B w) (hB : B ≤ w.heap.size) :
    Calls Tryz.prog 213 #[.agg (pc P).toArray, .int .i64 s] w fun e w' => ∃ v, e = .returned v ∧ Below w.heap.size w w' ∧ w'.ownsRow w.heap.size 3 1 v (fromL P s).length (ivals (fromL P s)) := by
  obtain ⟨X, hX⟩ : ∃ X, X = (pc P).toArray := ⟨_, rfl⟩
  rw [← hX]
  have HP00 := Lib.hid (pos_box P w X hX 29)
  have HG := Lib.hid hg
  have HX := Lib.hid hX
  have hsz : X.size = 133 := by rw [hX, pc_size]
  have hfold := fold_fin X hsz
  have HBW0 := Lib.hid (below_new (w := w) (.cells X 29))
  clear hX hg
  go_enter Tryz.func213, Tryz.ntmps213
  go_upto_region 1 with (fail)
  generalize w.alloc (.cells X 29) = W1 at *
  go_wp2_with fail
  refine (is_any s _).mono ?_
  cases hs : sq s
  · have HF := Lib.hid (show fromL P s = [] by unfold fromL; rw [hs]; rfl)
    clear hs
    rintro e w1 ⟨rfl, hb1⟩
    have HB := Lib.hid (HBW0.out.trans (hb1.mono HBW0.out.size))
    clear hb1 HBW0 HP00 hfold hsz
    go_wp2
    go_ret
    exact ⟨.slice none 0 0, rfl, HB.out, by rw [HF.out]; exact World.ownsRow_nil _ _ _ _⟩
  rintro e W0 ⟨rfl, hb1⟩
  obtain ⟨s0, s1⟩ := (sq_iff s).1 hs
  obtain ⟨n, rfl⟩ := Int.eq_ofNat_of_zero_le s0
  have HF := Lib.hid (show fromL P n = risen (attL P n (P (n * 2)) (P (n * 2 + 1))) by unfold fromL; rw [hs, if_pos rfl, Int.toNat_natCast, Nat.mul_comm 2 n])
  have HP0 := Lib.hid (HP00.out.go hb1)
  have HBW := Lib.hid (HBW0.out.trans (hb1.mono HBW0.out.size))
  clear hs hb1 HBW0 HP00
  go_upto_region 3 with (fail)
  refine wp_region_lit ?_
  refine wpList_pos (by rfl) _ (by rfl) w.heap.size P X HX.out (by rfl) HP0.out ?_
  refine wpList_plain rfl (fun K hK => ?_)
  go_simp
  refine hK _ _ ?_
  clear hK K
  clear hfold
  refine wpList_plain rfl (fun K hK => ?_)
  go_simp
  refine hK _ _ ?_
  clear hK K
  have hpn : PB (W0.alloc (.cells Tryz.zeroCells166 166)) W0.heap.size (fun _ => 0) := by rw [zeroFin]; exact PB.new rfl
  refine wpList_store_mid rfl 166 _ _ rfl W0.heap.size 0 X rfl rfl (by rw [hsz]; exact hpn.there) (by rw [infoFin, hsz]) (by rw [HX.out]; exact pc_one P) ?_
  refine forgetL_B (fun W => PB W W0.heap.size P ∧ Below W0.heap.size W0 W) (by
    rw [HX.out, List.toList_toArray]
    exact ⟨hpn.store (Q := P), below_store (b := W0.heap.size) P (below_new _) (Nat.le_refl _) (by simp)⟩) ?_
  rintro W ⟨hp, hb⟩
  have HP := Lib.hid hp
  have HB := Lib.hid (HBW.out.trans (hb.mono HBW.out.size))
  have HBS := Lib.hid (show W0.heap.size < W.heap.size from hp.lt)
  clear hp hb hpn HP0 hsz
  obtain ⟨fb, hfb⟩ : ∃ f, W0.heap.size = f := ⟨_, rfl⟩
  rw [hfb] at HP HBS
  simp only [hfb]
  show Exit.then _ _ Exit.normal _ _
  have e1 := HP.out.cell (n * 2) (by omega)
  have e2 := HP.out.cell (n * 2 + 1) (by omega)
  generalize P (n * 2) = k at e1 HF
  generalize P (n * 2 + 1) = d at e2 HF
  have HGW := Lib.hid ((HG.out.below (HB.out.mono hB)).mono (Nat.le_trans hB HB.out.size))
  go_wp2_with fail
  refine (made_att fb n P n k d W HP.out HGW.out).mono ?_
  rintro e w2 ⟨lb, N, rfl, hb2, hc, _⟩
  have HB2 := Lib.hid (HB.out.trans (hb2.mono HB.out.size))
  have HC := Lib.hid (sorted_any _ lb (enters_of Tryz.func204 (by kernel_rfl) rfl) N _ (Nat.le_trans (attL_len P n k d) (by omega)) w2 hc)
  clear hb2 hc HB HP HGW e1 e2
  go_wp2_with fail
  refine HC.out.mono ?_
  rintro e w3 ⟨v, rfl, hb3, hown⟩
  have HB3 := Lib.hid (HB2.out.trans (hb3.mono HB2.out.size))
  have HO := Lib.hid (owns_base hown HB2.out.size)
  clear hb3 hown HC HB2
  go_wp2
  go_ret
  exact ⟨v, rfl, HB3.out, by rw [HF.out]; exact HO.out⟩
end Go.Proofs.YtkncfeijlmomaaaGreatDoor

namespace Go.Proofs.YtkncfeijlmomaaaGreatDoor
open Go.RowKit Go.Sort
set_option linter.unusedSimpArgs false
set_option linter.unusedVariables false

/-- a position is loaded, in a walk of the text's order -/
theorem wpQuiet_pos {ops : Array Oper} {C : World → Prop} {Q : Act → Prop} {rest : List Oper} {o : Oper} {a : Act} (hw : Region.wanted o (yielded ops a.tmps) = true) (x : Operand) (ho : o.op = .load 29 x)
    (b : Nat) (P : Nat → Int) (X : Array Value) (hX : X = (pc P).toArray) (hx : a.eval x = .pointer (some ⟨b, 0, none⟩)) (hc : ∀ W, C W → PB W b P) (h : wpQuiet Tryz.prog ops C Q rest (a.put o.dst (.agg X))) : wpQuiet Tryz.prog ops C Q (o :: rest) a := by
  subst hX
  exact wpQuiet_rows (b := b) (ty := 29) (x := x) (cs := pc P) (fun W hW => (hc W hW).range) Tryz.underlying29 rfl (by rw [infoPos, pc_len]) hw ho hx h
theorem yields_posC {ops : Array Oper} {S : World → Prop} {op : Oper} {a : Act} (hw : Region.wanted op (yielded ops a.tmps) = true) (x : Operand) (ho : op.op = .load 29 x)
    (b : Nat) (P : Nat → Int) (X : Array Value) (hX : X = (pc P).toArray) (hx : a.eval x = .pointer (some ⟨b, 0, none⟩)) (hS : ∀ w, S w → PB w b P) : YieldsIf Tryz.prog ops S op (.agg X) a := by
  subst hX
  exact yieldsIf_load_mid hw 29 x ho b 0 hx (pc P) _ (fun w h => (hS w h).range) Tryz.underlying29 rfl (by rw [infoPos, pc_len])
end Go.Proofs.YtkncfeijlmomaaaGreatDoor

namespace Go.Proofs.YtkncfeijlmomaaaGreatDoor
open Go.RowKit Go.Sort
set_option linter.unusedSimpArgs false
set_option linter.unusedVariables false
set_option maxRecDepth 20000

def absI (n : Int) : Int := if n < 0 then -n else n
def sgn (n : Int) : Int := if n < 0 then -1 else if 0 < n then 1 else 0
/-- how many files, ranks from one to another -/
def fD (a b : Nat) : Int := ((b % 8 : Nat) : Int) - ((a % 8 : Nat) : Int)
def rD (a b : Nat) : Int := ((b / 8 : Nat) : Int) - ((a / 8 : Nat) : Int)
def stepOf (a b : Nat) : Int := 8 * sgn (rD a b) + sgn (fD a b)
def distN (a b : Nat) : Nat := max (fD a b).natAbs (rD a b).natAbs
def sI (a b i : Nat) : Int := (a : Int) + ((i : Int) + 1) * stepOf a b
/-- on one way, and not one square -/
def good (a b : Nat) : Bool := !(a == b) && (fD a b == 0 || rD a b == 0 || absI (fD a b) == absI (rD a b))
def between (a b : Nat) : List Nat := (List.range (distN a b - 1)).map fun i => (sI a b i).toNat
def occS (P : Nat → Int) (s : Nat) : Bool := !pe (P (2 * s)) (P (2 * s + 1)) 0 0
def openB (P : Nat → Int) (a b : Nat) : Bool := (between a b).all fun s => !occS P s
def kindB (P : Nat → Int) (k d : Int) (a b : Nat) : Bool :=
  if k = 1 then (absI (fD a b) == 1) && ((d == 0) && (rD a b == 1) || (d == 1) && (rD a b == -1))
  else if k = 2 then absI (fD a b) * absI (rD a b) == 2
  else if k = 6 then decide (absI (fD a b) ≤ 1) && decide (absI (rD a b) ≤ 1)
  else if k = 4 then (fD a b == 0 || rD a b == 0) && openB P a b
  else if k = 3 then (absI (fD a b) == absI (rD a b)) && openB P a b
  else (fD a b == 0 || rD a b == 0 || absI (fD a b) == absI (rD a b)) && openB P a b
/-- would such a piece on a attack b -/
def attK (P : Nat → Int) (k d : Int) (a b : Nat) : Bool := mayB k d && !(a == b) && kindB P k d a b
def attR (P : Nat → Int) (a b : Nat) : Bool := attK P (P (2 * a)) (P (2 * a + 1)) a b
end Go.Proofs.YtkncfeijlmomaaaGreatDoor

namespace Go.Proofs.YtkncfeijlmomaaaGreatDoor
open Go.RowKit Go.Sort
set_option linter.unusedSimpArgs false
set_option linter.unusedVariables false
set_option maxRecDepth 20000

/-- way i from a square on -/
def rayA (a i : Nat) : List Int := ray i (stp (a : Int) (dF i) (dR i))
def dirN (a b : Nat) : Nat :=
  let f := fD a b
  let r := rD a b
  if r == 0 then (if decide (0 < f) then 0 else 1) else if f == 0 then (if decide (0 < r) then 2 else 3)
  else if decide (0 < r) then (if decide (f < 0) then 4 else 5) else (if decide (f < 0) then 6 else 7)
/-- the squares of a way ahead of one -/
def aheadOf (l : List Int) (b : Int) : List Int := l.takeWhile fun x => !(x == b)
/-- each square on one of the eight ways is on the way of its direction, those between ahead of it -/
def fitsB (a b : Nat) : Bool := !good a b || ((rayA a (dirN a b)).contains (b : Int) && (aheadOf (rayA a (dirN a b)) b == (between a b).map Int.ofNat) && decide (dirN a b < 8))
theorem fitsB_ok : ∀ a, a < 64 → ∀ b, b < 64 → fitsB a b = true := by decide +kernel
/-- a square on a way is good, of that direction -/
def wayB (a i : Nat) : Bool := (rayA a i).all fun x => decide (0 ≤ x) && decide (x < 64) && good a x.toNat && (dirN a x.toNat == i)
theorem wayB_ok : ∀ a, a < 64 → ∀ i, i < 8 → wayB a i = true := by decide +kernel
theorem raysNodup : ∀ a, a < 64 → ((List.range 8).flatMap fun i => rayA a i).Nodup := by decide +kernel
/-- the knight's -/
def hopB (a i : Nat) : Bool := ((rayA a i).take 1).all fun x => decide (0 ≤ x) && decide (x < 64) && (absI (fD a x.toNat) * absI (rD a x.toNat) == 2) && !(a == x.toNat)
theorem hopB_ok : ∀ a, a < 64 → ∀ i, i < 8 → hopB a (8 + i) = true := by decide +kernel
def hopsB (a b : Nat) : Bool := !(absI (fD a b) * absI (rD a b) == 2) || (List.range 8).any fun i => (rayA a (8 + i)).head? == some (b : Int)
theorem hopsB_ok : ∀ a, a < 64 → ∀ b, b < 64 → hopsB a b = true := by decide +kernel
theorem hopsNodup : ∀ a, a < 64 → ((List.range 8).flatMap fun i => (rayA a (8 + i)).take 1).Nodup := by decide +kernel
/-- small facts on two squares -/
def pairB (a b : Nat) : Bool :=
  (!good a b || (((fD a b == 0 || rD a b == 0) == decide (dirN a b < 4)) && ((absI (fD a b) == absI (rD a b)) == decide (4 ≤ dirN a b)))) &&
  ((good a b && ((between a b).isEmpty)) == (!(a == b) && (decide (absI (fD a b) ≤ 1) && decide (absI (rD a b) ≤ 1)))) &&
  (!(good a b && (between a b).isEmpty) || ((decide (4 ≤ dirN a b) && decide (dirN a b < 6)) == (absI (fD a b) == 1 && rD a b == 1)) && ((decide (6 ≤ dirN a b) && decide (dirN a b < 8)) == (absI (fD a b) == 1 && rD a b == -1))) &&
  (!(absI (fD a b) == 1 && (rD a b == 1 || rD a b == -1)) || (good a b && (between a b).isEmpty)) &&
  (good a b == good b a) && (!good a b || (between b a == (between a b).reverse)) && (absI (fD b a) == absI (fD a b)) && (rD b a == - rD a b) && ((fD b a == 0) == (fD a b == 0))
theorem pairB_ok : ∀ a, a < 64 → ∀ b, b < 64 → pairB a b = true := by decide +kernel
end Go.Proofs.YtkncfeijlmomaaaGreatDoor
