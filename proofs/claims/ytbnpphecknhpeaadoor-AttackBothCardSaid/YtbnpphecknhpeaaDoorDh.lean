/-
  Contracts: attack.From, attack.To.
-/
import Derived.Test.YtbnpphecknhpeaaDoorDg
namespace Go.Proofs.YtbnpphecknhpeaaDoor
open Go.RowKit Go.Sort
set_option linter.unusedSimpArgs false
set_option linter.unusedVariables false

theorem infoFin : (Tryd.prog.info? 51).map (·.size) = some 133 := by kernel_rfl
theorem zeroFin : Tryd.zeroCells51 = (pc fun _ => 0).toArray := by kernel_rfl
theorem fold_setF : ∀ (L : List Value) (k : Nat) (cs : Array Value), k + L.length ≤ cs.size → ∀ i, (List.foldl (fun (cs : Array Value) (x : Value × Nat) => cs.setIfInBounds x.2 x.1) cs (L.zipIdx k))[i]? = if k ≤ i ∧ i < k + L.length then L[i - k]? else cs[i]?
  | [], k, cs, _, i => by simp; omega
  | v :: L, k, cs, h, i => by
    simp only [List.length_cons] at h
    rw [List.zipIdx_cons, List.foldl_cons, fold_setF L (k + 1) _ (by simp; omega) i]
    by_cases h1 : k + 1 ≤ i ∧ i < k + 1 + L.length
    · rw [if_pos h1, if_pos (by simp; omega), show i - k = (i - (k + 1)) + 1 by omega, List.getElem?_cons_succ]
    · rw [if_neg h1]
      by_cases h2 : i = k
      · subst h2
        rw [if_pos (by simp), Nat.sub_self, List.getElem?_cons_zero, Array.getElem?_setIfInBounds_self_of_lt (by omega)]
      · rw [if_neg (by simp only [List.length_cons]; omega), Array.getElem?_setIfInBounds_ne (by omega)]
theorem fold_fin (X : Array Value) (hX : X.size = 133) : Array.foldl (fun (cs : Array Value) (x : Value × Nat) => cs.setIfInBounds x.2 x.1) Tryd.zeroCells51 X.zipIdx 0 133 = X := by
  apply Array.ext_getElem?
  intro i
  have hz : Tryd.zeroCells51.size = 133 := by rw [zeroFin, pc_size]
  rw [show (133 : Nat) = X.zipIdx.size by simp [hX], ← Array.foldl_toList]
  rw [Array.toList_zipIdx, fold_setF X.toList 0 _ (by simp [hX, hz]) i]
  by_cases h : i < 133
  · rw [if_pos (by simp [hX, h]), Nat.sub_zero, Array.getElem?_toList]
  · rw [if_neg (by simp [hX]; omega), Array.getElem?_eq_none (by omega), Array.getElem?_eq_none (by omega)]
theorem rayN_len (i : Nat) : ∀ (n : Nat) (t : Int), (rayN i n t).length ≤ n
  | 0, _ => Nat.le_refl _
  | n + 1, t => by
    unfold rayN
    split
    · have := rayN_len i n (stp t (dF i) (dR i)); simp; omega
    · simp
theorem cut_len (occ : Nat → Bool) (far : Bool) : ∀ (l : List Int), (cut occ far l).length ≤ l.length
  | [] => Nat.le_refl _
  | y :: r => by
    unfold cut
    split
    · have := cut_len occ far r; simp; omega
    · simp
theorem attUp_len (P : Nat → Int) (s k d : Int) (n : Nat) : (attUp P s k d n).length ≤ 8 * n := by
  induction n with
  | zero => simp [attUp]
  | succ n ih =>
    rw [attUp_succ, List.length_append]
    have h1 := cut_len (occB P) (gFar k d) (ray (gFrom k d + n) (stp s (dF (gFrom k d + n)) (dR (gFrom k d + n))))
    have h2 := rayN_len (gFrom k d + n) 8 (stp s (dF (gFrom k d + n)) (dR (gFrom k d + n)))
    unfold wayL
    unfold ray at *
    omega
theorem attL_len (P : Nat → Int) (s k d : Int) : (attL P s k d).length ≤ 128 := by
  have h1 := attUp_len P s k d (gTo k d - gFrom k d)
  have h2 := gait_small k d
  unfold attL
  omega
theorem atkL_len (P : Nat → Int) (s d : Int) : (atkL P s d).length ≤ 768 := by
  have h : ∀ n, (atkUp P s d n).length ≤ 128 * n := by
    intro n
    induction n with
    | zero => simp [atkUp]
    | succ n ih =>
      rw [atkUp_succ, List.length_append]
      have h1 := attL_len P s ((n + 1 : Nat) : Int) (oth d)
      have h2 : (atkK P s d (n + 1)).length ≤ (attL P s ((n + 1 : Nat) : Int) (oth d)).length := List.length_filter_le _ _
      omega
  unfold atkL
  split
  · exact h 6
  · simp
/-- the document's From, To, by the program -/
def fromL (P : Nat → Int) (s : Int) : List Int := if sq s then risen (attL P s (P (2 * s.toNat)) (P (2 * s.toNat + 1))) else []
def toL (P : Nat → Int) (s d : Int) : List Int := risen (atkL P s d)
theorem pos_box (P : Nat → Int) (w : World) (X : Array Value) (hX : X = (pc P).toArray) (t : TypeId) : PB (w.alloc (.cells X t)) w.heap.size P := by subst hX; exact PB.new rfl
theorem an_cases {fb n : Nat} : ∀ q, AN fb n (n + 1) (n + 2) q → q = fb ∨ n ≤ q ∨ q = 0 := by
  rintro q (h | h | h | h | h)
  · exact .inl h
  · exact .inr (.inl (by omega))
  · exact .inr (.inl (by omega))
  · exact .inr (.inl (by omega))
  · exact .inr (.inr h)
/-- a finder's iterator, as it is made -/
theorem made_att (fb n : Nat) (P : Nat → Int) (s k d : Int) (W : World) (hp : PB W fb P) (hg : GS W.heap.size W) :
    Calls Tryd.prog 28 #[.pointer (some ⟨fb, 0, none⟩), .int .i64 s, .agg #[.int .i64 k, .int .i64 d]] W fun e w' => ∃ lb N, e = .returned (.func (.func 42) #[] lb) ∧ Below W.heap.size W w' ∧ Comes Tryd.prog 42 lb N (Value.int .i64) (attL P s k d) w' ∧ ∀ q, N q → q = fb ∨ W.heap.size ≤ q ∨ q = 0 := by
  refine (attacked_any fb s k d W).mono ?_
  rintro e w5 ⟨rfl, hw5⟩
  have hb5 : Below W.heap.size W w5 := by rw [hw5]; exact ((below_new _).alloc (by simp) _).alloc (by simp; omega) _
  refine ⟨_, _, rfl, hb5, attacked_comes fb W.heap.size (W.heap.size + 1) (W.heap.size + 2) P s k d w5 ⟨?_, ?_, hp.go hb5, (hg.below hb5).mono hb5.size⟩ ?_, an_cases⟩
  · rw [hw5]; exact al_old (al_old (sl_at rfl) _) _
  · rw [hw5]; exact al_old (sl_at (by simp)) _
  · rw [hw5]; exact sl_at (by simp)
theorem made_atk (fb : Nat) (P : Nat → Int) (s d : Int) (W : World) (hp : PB W fb P) (hg : GS W.heap.size W) :
    Calls Tryd.prog 30 #[.pointer (some ⟨fb, 0, none⟩), .int .i64 s, .int .i64 d] W fun e w' => ∃ lb N, e = .returned (.func (.func 50) #[] lb) ∧ Below W.heap.size W w' ∧ Comes Tryd.prog 50 lb N (Value.int .i64) (atkL P s d) w' ∧ ∀ q, N q → q = fb ∨ W.heap.size ≤ q ∨ q = 0 := by
  refine (attackers_any fb s d W).mono ?_
  rintro e w5 ⟨rfl, hw5⟩
  have hb5 : Below W.heap.size W w5 := by rw [hw5]; exact ((below_new _).alloc (by simp) _).alloc (by simp; omega) _
  refine ⟨_, _, rfl, hb5, attackers_comes fb W.heap.size (W.heap.size + 1) (W.heap.size + 2) P s d w5 ⟨⟨?_, ?_, hp.go hb5, (hg.below hb5).mono hb5.size⟩, ?_⟩, an_cases⟩
  · rw [hw5]; exact al_old (al_old (sl_at rfl) _) _
  · rw [hw5]; exact al_old (sl_at (by simp)) _
  · rw [hw5]; exact sl_at (by simp)
set_option maxHeartbeats 2000000 in
set_option maxRecDepth 100000 in
theorem from_any (P : Nat → Int) (s : Int) (w : World) (B : Nat) (hg : GS B w) (hB : B ≤ w.heap.size) :
    Calls Tryd.prog 10 #[.agg (pc P).toArray, .int .i64 s] w fun e w' => ∃ v, e = .returned v ∧ Below w.heap.size w w' ∧ w'.ownsRow w.heap.size 3 1 v (fromL P s).length (ivals (fromL P s)) := by
  obtain ⟨X, hX⟩ : ∃ X, X = (pc P).toArray := ⟨_, rfl⟩
  rw [← hX]
  have HP00 := Lib.hid (pos_box P w X hX 29)
  have HG := Lib.hid hg
  have HX := Lib.hid hX
  have hsz : X.size = 133 := by rw [hX, pc_size]
  have hfold := fold_fin X hsz
  have HBW0 := Lib.hid (below_new (w := w) (.cells X 29))
  clear hX hg
  go_enter Tryd.func10, Tryd.ntmps10
  go_upto_region 1 with (fail)
  generalize w.alloc (.cells X 29) = W1 at *
  go_wp2_with fail
  refine (is_any s _).mono ?_
  cases hs : sq s
  · have HF := Lib.hid (show fromL P s = [] by unfold fromL; rw [hs]; rfl)
    clear hs
    rintro e w1 ⟨rfl, hb1⟩
    have HB := Lib.hid (HBW0.out.trans (hb1.mono HBW0.out.size))
    clear hb1 HBW0 HP00 hfold hsz
    go_wp2
    go_ret
    exact ⟨.slice none 0 0, rfl, HB.out, by rw [HF.out]; exact World.ownsRow_nil _ _ _ _⟩
  rintro e W0 ⟨rfl, hb1⟩
  obtain ⟨s0, s1⟩ := (sq_iff s).1 hs
  obtain ⟨n, rfl⟩ := Int.eq_ofNat_of_zero_le s0
  have HF := Lib.hid (show fromL P n = risen (attL P n (P (n * 2)) (P (n * 2 + 1))) by unfold fromL; rw [hs, if_pos rfl, Int.toNat_natCast, Nat.mul_comm 2 n])
  have HP0 := Lib.hid (HP00.out.go hb1)
  have HBW := Lib.hid (HBW0.out.trans (hb1.mono HBW0.out.size))
  clear hs hb1 HBW0 HP00
  go_upto_region 3 with (fail)
  refine wp_region_lit ?_
  refine wpList_pos (by rfl) _ (by rfl) w.heap.size P X HX.out (by rfl) HP0.out ?_
  refine wpList_plain rfl (fun K hK => ?_)
  go_simp
  refine hK _ _ ?_
  clear hK K
  clear hfold
  refine wpList_plain rfl (fun K hK => ?_)
  go_simp
  refine hK _ _ ?_
  clear hK K
  have hpn : PB (W0.alloc (.cells Tryd.zeroCells51 51)) W0.heap.size (fun _ => 0) := by rw [zeroFin]; exact PB.new rfl
  refine wpList_store_mid rfl 51 _ _ rfl W0.heap.size 0 X rfl rfl (by rw [hsz]; exact hpn.there) (by rw [infoFin, hsz]) (by rw [HX.out]; exact pc_one P) ?_
  refine forgetL_B (fun W => PB W W0.heap.size P ∧ Below W0.heap.size W0 W) (by
    rw [HX.out, List.toList_toArray]
    exact ⟨hpn.store (Q := P), below_store (b := W0.heap.size) P (below_new _) (Nat.le_refl _) (by simp)⟩) ?_
  rintro W ⟨hp, hb⟩
  have HP := Lib.hid hp
  have HB := Lib.hid (HBW.out.trans (hb.mono HBW.out.size))
  have HBS := Lib.hid (show W0.heap.size < W.heap.size from hp.lt)
  clear hp hb hpn HP0 hsz
  obtain ⟨fb, hfb⟩ : ∃ f, W0.heap.size = f := ⟨_, rfl⟩
  rw [hfb] at HP HBS
  simp only [hfb]
  show Exit.then _ _ Exit.normal _ _
  have e1 := HP.out.cell (n * 2) (by omega)
  have e2 := HP.out.cell (n * 2 + 1) (by omega)
  generalize P (n * 2) = k at e1 HF
  generalize P (n * 2 + 1) = d at e2 HF
  have HGW := Lib.hid ((HG.out.below (HB.out.mono hB)).mono (Nat.le_trans hB HB.out.size))
  go_wp2_with fail
  refine (made_att fb n P n k d W HP.out HGW.out).mono ?_
  rintro e w2 ⟨lb, N, rfl, hb2, hc, _⟩
  have HB2 := Lib.hid (HB.out.trans (hb2.mono HB.out.size))
  have HC := Lib.hid (sorted_any _ lb (enters_of Tryd.func42 (by kernel_rfl) rfl) N _ (Nat.le_trans (attL_len P n k d) (by omega)) w2 hc)
  clear hb2 hc HB HP HGW e1 e2
  go_wp2_with fail
  refine HC.out.mono ?_
  rintro e w3 ⟨v, rfl, hb3, hown⟩
  have HB3 := Lib.hid (HB2.out.trans (hb3.mono HB2.out.size))
  have HO := Lib.hid (owns_base hown HB2.out.size)
  clear hb3 hown HC HB2
  go_wp2
  go_ret
  exact ⟨v, rfl, HB3.out, by rw [HF.out]; exact HO.out⟩
set_option maxHeartbeats 2000000 in
set_option maxRecDepth 100000 in
theorem to_any (P : Nat → Int) (s d : Int) (w : World) (B : Nat) (hg : GS B w) (hB : B ≤ w.heap.size) :
    Calls Tryd.prog 12 #[.agg (pc P).toArray, .int .i64 s, .int .i64 d] w fun e w' => ∃ v, e = .returned v ∧ Below w.heap.size w w' ∧ w'.ownsRow w.heap.size 3 1 v (toL P s d).length (ivals (toL P s d)) := by
  obtain ⟨X, hX⟩ : ∃ X, X = (pc P).toArray := ⟨_, rfl⟩
  rw [← hX]
  have HP0 := Lib.hid (pos_box P w X hX 29)
  have HG := Lib.hid hg
  have HX := Lib.hid hX
  have hsz : X.size = 133 := by rw [hX, pc_size]
  have hfold := fold_fin X hsz
  have HBW := Lib.hid (below_new (w := w) (.cells X 29))
  clear hX hg
  go_enter Tryd.func12, Tryd.ntmps12
  go_upto_region 1 with (fail)
  generalize w.alloc (.cells X 29) = W0 at *
  refine wp_region_lit ?_
  refine wpList_pos (by rfl) _ (by rfl) w.heap.size P X HX.out (by rfl) HP0.out ?_
  refine wpList_plain rfl (fun K hK => ?_)
  go_simp
  refine hK _ _ ?_
  clear hK K
  clear hfold
  refine wpList_plain rfl (fun K hK => ?_)
  go_simp
  refine hK _ _ ?_
  clear hK K
  have hpn : PB (W0.alloc (.cells Tryd.zeroCells51 51)) W0.heap.size (fun _ => 0) := by rw [zeroFin]; exact PB.new rfl
  refine wpList_store_mid rfl 51 _ _ rfl W0.heap.size 0 X rfl rfl (by rw [hsz]; exact hpn.there) (by rw [infoFin, hsz]) (by rw [HX.out]; exact pc_one P) ?_
  refine forgetL_B (fun W => PB W W0.heap.size P ∧ Below W0.heap.size W0 W) (by
    rw [HX.out, List.toList_toArray]
    exact ⟨hpn.store (Q := P), below_store (b := W0.heap.size) P (below_new _) (Nat.le_refl _) (by simp)⟩) ?_
  rintro W ⟨hp, hb⟩
  have HP := Lib.hid hp
  have HB := Lib.hid (HBW.out.trans (hb.mono HBW.out.size))
  have HBS := Lib.hid (show W0.heap.size < W.heap.size from hp.lt)
  clear hp hb hpn HP0 hsz
  obtain ⟨fb, hfb⟩ : ∃ f, W0.heap.size = f := ⟨_, rfl⟩
  rw [hfb] at HP HBS
  simp only [hfb]
  show Exit.then _ _ Exit.normal _ _
  have HGW := Lib.hid ((HG.out.below (HB.out.mono hB)).mono (Nat.le_trans hB HB.out.size))
  go_wp2_with fail
  refine (made_atk fb P s d W HP.out HGW.out).mono ?_
  rintro e w2 ⟨lb, N, rfl, hb2, hc, _⟩
  have HB2 := Lib.hid (HB.out.trans (hb2.mono HB.out.size))
  have HC := Lib.hid (sorted_any _ lb (enters_of Tryd.func50 (by kernel_rfl) rfl) N _ (Nat.le_trans (atkL_len P s d) (by omega)) w2 hc)
  clear hb2 hc HB HP HGW
  go_wp2_with fail
  refine HC.out.mono ?_
  rintro e w3 ⟨v, rfl, hb3, hown⟩
  have HB3 := Lib.hid (HB2.out.trans (hb3.mono HB2.out.size))
  have HO := Lib.hid (owns_base hown HB2.out.size)
  clear hb3 hown HC HB2
  go_wp2
  go_ret
  exact ⟨v, rfl, HB3.out, HO.out⟩
end Go.Proofs.YtbnpphecknhpeaaDoor
