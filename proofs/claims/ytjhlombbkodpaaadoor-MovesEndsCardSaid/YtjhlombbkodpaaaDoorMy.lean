/-
  The law MovesTell.
-/
import Derived.Test.YtjhlombbkodpaaaDoorMx
import Derived.Test.YtjhlombbkodpaaaDoorG18
import Derived.Test.YtjhlombbkodpaaaDoorG1
namespace Go.Proofs.YtjhlombbkodpaaaDoor
open Go.RowKit Go.Sort
set_option linter.unusedSimpArgs false
set_option linter.unusedVariables false
set_option maxRecDepth 20000

/-- what stands in MovesTell: the position, two moves, the packages' variables -/
structure MtS (w : World) (B pb mb nb : Nat) (P : Nat → Int) (a b c a' b' c' : Int) (W : World) : Prop where
  p : PB W pb P
  m : W.heap[mb]? = some (.cells #[.int .i64 a, .int .i64 b, .int .i64 c] 31 (0, 0))
  n : W.heap[nb]? = some (.cells #[.int .i64 a', .int .i64 b', .int .i64 c'] 31 (0, 0))
  gs : GS B W
  gm : GM B W
  bel : Below w.heap.size w W
  s : B ≤ W.heap.size
theorem MtS.go {w W W' : World} {B pb mb nb : Nat} {P : Nat → Int} {a b c a' b' c' : Int} (h : MtS w B pb mb nb P a b c a' b' c' W) (g : Below W.heap.size W W') : MtS w B pb mb nb P a b c a' b' c' W' :=
  ⟨h.p.go g, sl_go h.m g, sl_go h.n g, h.gs.below (g.mono h.s), h.gm.below (g.mono h.s), h.bel.trans (g.mono h.bel.size), Nat.le_trans h.s g.size⟩
theorem MtS.begin (w : World) (B : Nat) (P : Nat → Int) (X : Array Value) (hX : X = (pc P).toArray) (a b c a' b' c' : Int) (hg : GS B w) (hm : GM B w) (hB : B ≤ w.heap.size) :
    MtS w B w.heap.size (w.heap.size + 1) (w.heap.size + 1 + 1) P a b c a' b' c' (((w.alloc (.cells X 29)).alloc (.cells #[.int .i64 a, .int .i64 b, .int .i64 c] 31)).alloc (.cells #[.int .i64 a', .int .i64 b', .int .i64 c'] 31)) := by
  have h0 : Below w.heap.size w (((w.alloc (.cells X 29)).alloc (.cells #[.int .i64 a, .int .i64 b, .int .i64 c] 31)).alloc (.cells #[.int .i64 a', .int .i64 b', .int .i64 c'] 31)) := ((below_new _).alloc (by simp) _).alloc (by simp; omega) _
  refine ⟨?_, ?_, ?_, hg.below (h0.mono hB), hm.below (h0.mono hB), h0, by simp; omega⟩
  · subst hX; exact ((PB.new rfl).alloc _).alloc _
  · exact al_old (sl_at (by simp)) _
  · exact sl_at (by simp)
theorem yields_mvC {ops : Array Oper} {S : World → Prop} {op : Oper} {a : Act} (hw : Region.wanted op (yielded ops a.tmps) = true) (x : Operand) (ho : op.op = .load 31 x)
    (b : Nat) (f t k : Int) (hx : a.eval x = .pointer (some ⟨b, 0, none⟩)) (hS : ∀ w, S w → w.heap[b]? = some (.cells #[.int .i64 f, .int .i64 t, .int .i64 k] 31 (0, 0))) : YieldsIf Tryd.prog ops S op (.agg #[.int .i64 f, .int .i64 t, .int .i64 k]) a :=
  yieldsIf_load_mid hw 31 x ho b 0 hx [.int .i64 f, .int .i64 t, .int .i64 k] _ (fun w h j v hv => by
    obtain ⟨q1, q2, q3, _, _⟩ := row3 (hS w h)
    rcases j with _ | _ | _ | j
    · simpa using q1.trans (by simpa using hv)
    · simpa using q2.trans (by simpa using hv)
    · simpa using q3.trans (by simpa using hv)
    · simp at hv) Tryd.underlying31 rfl (by
      obtain ⟨i, h1, h2⟩ := infoMv9
      simp only [Prod.mk.injEq] at h2
      rw [h1]; simp [h2.2.1])
theorem fromM_len (P : Nat → Int) (s : Int) : (fromM P s).length ≤ 100000 := by
  unfold fromM
  split
  · exact Nat.le_trans (movesL_len P _) (by omega)
  · simp
theorem allM_len (P : Nat → Int) : (allM P).length ≤ 100000 := by
  have h1 := flatM_len P (upList (ownB P) 64)
  have h2 := upList_len (ownB P) 64
  unfold allM
  omega
set_option maxHeartbeats 8000000 in
set_option maxRecDepth 100000 in
theorem tell9_any (P : Nat → Int) (s a b c a' b' c' : Int) (w : World) (B : Nat) (hg : GS B w) (hm : GM B w) (hB : B ≤ w.heap.size) :
    Calls Tryd.prog 3 #[.agg (pc P).toArray, .int .i64 s, .agg #[.int .i64 a, .int .i64 b, .int .i64 c], .agg #[.int .i64 a', .int .i64 b', .int .i64 c']] w fun e w' => e = .returned (.bool true) ∧ Below w.heap.size w w' := by
  obtain ⟨X, hX⟩ : ∃ X, X = (pc P).toArray := ⟨_, rfl⟩
  have MA := Lib.hid (fun W h1 h2 h3 => all_any P W B h1 h2 h3)
  have RA := Lib.hid (fun W => rAll9_any P W)
  have MF := Lib.hid (fun s W h1 h2 h3 => mFrom_any P s W B h1 h2 h3)
  have RF := Lib.hid (fun s W => rFrom9_any P s W)
  rw [← hX] at MA RA MF RF ⊢
  have HI := Lib.hid (MtS.begin w B P X hX a b c a' b' c' hg hm hB)
  have HX := Lib.hid hX
  have HLA := Lib.hid (allM_len P)
  have HLF := Lib.hid (fromM_len P)
  generalize allM P = L at MA RA HLA
  obtain ⟨lv, hlv⟩ : ∃ v, lessV a b c a' b' c' = v := ⟨_, rfl⟩
  have ML := Lib.hid (fun W => less_any a b c a' b' c' W)
  have RL := Lib.hid (fun W => rLess_any a b c a' b' c' W)
  rw [hlv] at ML RL
  have hll : (lv != lv) = false := by simp
  have AW := Lib.hid (fun W h1 h2 h3 => awake9_any W B h1 h2 h3)
  clear hX hg hm hB hlv
  go_enter Tryd.func3, Tryd.ntmps3
  go_upto_region 1 with (fail)
  have hs1 : (w.alloc (.cells X 29)).heap.size = w.heap.size + 1 := by simp
  have hs2 : ((w.alloc (.cells X 29)).alloc (.cells #[.int .i64 a, .int .i64 b, .int .i64 c] 31)).heap.size = w.heap.size + 1 + 1 := by simp
  try simp only [hs1, hs2]
  refine forget_B (fun W => MtS w B w.heap.size (w.heap.size + 1) (w.heap.size + 1 + 1) P a b c a' b' c' W) HI.out ?_
  clear HI hs1 hs2
  intro W1 hi
  have HI := Lib.hid hi
  clear hi
  generalize w.heap.size + 1 + 1 = nb at HI ⊢
  generalize w.heap.size + 1 = mb at HI ⊢
  go_upto_region 1 with (fail)
  refine wp_region_noPanic ?_
  refine wp_region_start (n := 25) (l := #[false, false, false, false, false, false, false, false, false, false, false, false, false, false, false, false, false, false, false, false, false, false, false, false, false]) (S := (fun W => MtS w B w.heap.size mb nb P a b c a' b' c' W)) (by kernel_rfl) rfl (by kernel_rfl) (by first | exact HI.out | exact HI.out.go (Below.refl _ _).drew) (fun hHeld => ?_)
  replace HI := Lib.hid (HI.out.go (Below.refl W1.heap.size W1).drew)
  generalize W1.drew = V0 at hHeld HI ⊢
  refine take_to (i := 0) (d := some 10) (v := (.agg X)) (l' := #[true, false, false, false, false, false, false, false, false, false, false, false, false, false, false, false, false, false, false, false, false, false, false, false, false]) rfl rfl (by kernel_rfl) (by kernel_rfl) (by kernel_rfl) (by kernel_rfl) (fun _ _ _ h => h) ?_ (by assumption) ?_
  · exact yields_posC (by rfl) _ (by rfl) w.heap.size P X HX.out (by rfl) (fun W h => h.p)
  try simp only [Act.put, List.setIfInBounds_toArray, List.set_cons_zero, List.set_cons_succ]
  refine take_to (i := 2) (d := some 12) (v := (.agg X)) (l' := #[true, false, true, false, false, false, false, false, false, false, false, false, false, false, false, false, false, false, false, false, false, false, false, false, false]) rfl rfl (by kernel_rfl) (by kernel_rfl) (by kernel_rfl) (by kernel_rfl) (fun _ _ _ h => h) ?_ (by assumption) ?_
  · exact yields_posC (by rfl) _ (by rfl) w.heap.size P X HX.out (by rfl) (fun W h => h.p)
  try simp only [Act.put, List.setIfInBounds_toArray, List.set_cons_zero, List.set_cons_succ]
  refine one_to (i := 1) (l' := #[true, true, true, false, false, false, false, false, false, false, false, false, false, false, false, false, false, false, false, false, false, false, false, false, false]) rfl (by kernel_rfl) (by kernel_rfl) (fun K hK => ?_)
  go_simp
  refine (MA.out _ HI.out.gs HI.out.gm HI.out.s).mono ?_
  rintro e V ⟨v, rfl, hb, hown⟩
  obtain ⟨p1, c1, rfl, hr1⟩ := reads3_own hown
  replace HI := Lib.hid (HI.out.go hb)
  have HR1 := Lib.hid hr1
  clear hb hown hr1
  dsimp only
  refine hK.out _ _ (by first | exact HI.out | exact HI.out.go (Below.refl _ _).drew) (fun hHeld => ?_)
  clear hK K
  try simp only [Act.put, List.setIfInBounds_toArray, List.set_cons_zero, List.set_cons_succ]
  refine one_to (i := 3) (l' := #[true, true, true, true, false, false, false, false, false, false, false, false, false, false, false, false, false, false, false, false, false, false, false, false, false]) rfl (by kernel_rfl) (by kernel_rfl) (fun K hK => ?_)
  go_simp
  refine (RA.out _).mono ?_
  rintro e V ⟨v, rfl, hb, hown⟩
  obtain ⟨p2, c2, rfl, hr2⟩ := reads3_own hown
  replace HI := Lib.hid (HI.out.go hb)
  replace HR1 := Lib.hid ((HR1.out.below hb).mono hb.size)
  have HR2 := Lib.hid hr2
  clear hb hown hr2
  dsimp only
  refine hK.out _ _ (by first | exact HI.out | exact HI.out.go (Below.refl _ _).drew) (fun hHeld => ?_)
  clear hK K
  try simp only [Act.put, List.setIfInBounds_toArray, List.set_cons_zero, List.set_cons_succ]
  refine one_to (i := 4) (l' := #[true, true, true, true, true, false, false, false, false, false, false, false, false, false, false, false, false, false, false, false, false, false, false, false, false]) rfl (by kernel_rfl) (by kernel_rfl) (fun K hK => ?_)
  go_simp
  refine (same9_any _ (HLA.out) _ _ _ _ _ HR1.out HR2.out).mono ?_
  rintro e V ⟨rfl, hb⟩
  replace HI := Lib.hid (HI.out.go hb)
  clear hb HR1 HR2
  dsimp only
  refine hK.out _ _ (by first | exact HI.out | exact HI.out.go (Below.refl _ _).drew) (fun hHeld => ?_)
  clear hK K
  try simp only [Act.put, List.setIfInBounds_toArray, List.set_cons_zero, List.set_cons_succ]
  refine take_to (i := 5) (d := some 15) (v := ?_) (l' := #[true, true, true, true, true, true, false, false, false, false, false, false, false, false, false, false, false, false, false, false, false, false, false, false, false]) rfl rfl (by kernel_rfl) (by kernel_rfl) (by kernel_rfl) (by kernel_rfl) (fun _ _ _ h => h) (Or.inl ⟨by rfl, ?_⟩) (by assumption) ?_; rotate_left; · (intro w' hSw; (try dsimp only at hSw); go_simp; (try with_reducible rfl))
  try simp only [Act.put, List.setIfInBounds_toArray, List.set_cons_zero, List.set_cons_succ]
  refine take_to (i := 6) (d := some 16) (v := ?_) (l' := #[true, true, true, true, true, true, true, false, false, false, false, false, false, false, false, false, false, false, false, false, false, false, false, false, false]) rfl rfl (by kernel_rfl) (by kernel_rfl) (by kernel_rfl) (by kernel_rfl) (fun _ _ _ h => h) (Or.inl ⟨by rfl, ?_⟩) (by assumption) ?_; rotate_left; · (intro w' hSw; (try dsimp only at hSw); go_simp; (try with_reducible rfl))
  try simp only [Act.put, List.setIfInBounds_toArray, List.set_cons_zero, List.set_cons_succ]
  refine take_to (i := 7) (d := some 17) (v := (.agg X)) (l' := #[true, true, true, true, true, true, true, true, false, false, false, false, false, false, false, false, false, false, false, false, false, false, false, false, false]) rfl rfl (by kernel_rfl) (by kernel_rfl) (by kernel_rfl) (by kernel_rfl) (fun _ _ _ h => h) ?_ (by assumption) ?_
  · exact yields_posC (by rfl) _ (by rfl) w.heap.size P X HX.out (by rfl) (fun W h => h.p)
  try simp only [Act.put, List.setIfInBounds_toArray, List.set_cons_zero, List.set_cons_succ]
  refine take_to (i := 8) (d := some 18) (v := ?_) (l' := #[true, true, true, true, true, true, true, true, true, false, false, false, false, false, false, false, false, false, false, false, false, false, false, false, false]) rfl rfl (by kernel_rfl) (by kernel_rfl) (by kernel_rfl) (by kernel_rfl) (fun _ _ _ h => h) (Or.inl ⟨by rfl, ?_⟩) (by assumption) ?_; rotate_left; · (intro w' hSw; (try dsimp only at hSw); go_simp; (try with_reducible rfl))
  try simp only [Act.put, List.setIfInBounds_toArray, List.set_cons_zero, List.set_cons_succ]
  refine take_to (i := 10) (d := some 20) (v := (.agg X)) (l' := #[true, true, true, true, true, true, true, true, true, false, true, false, false, false, false, false, false, false, false, false, false, false, false, false, false]) rfl rfl (by kernel_rfl) (by kernel_rfl) (by kernel_rfl) (by kernel_rfl) (fun _ _ _ h => h) ?_ (by assumption) ?_
  · exact yields_posC (by rfl) _ (by rfl) w.heap.size P X HX.out (by rfl) (fun W h => h.p)
  try simp only [Act.put, List.setIfInBounds_toArray, List.set_cons_zero, List.set_cons_succ]
  refine take_to (i := 11) (d := some 21) (v := ?_) (l' := #[true, true, true, true, true, true, true, true, true, false, true, true, false, false, false, false, false, false, false, false, false, false, false, false, false]) rfl rfl (by kernel_rfl) (by kernel_rfl) (by kernel_rfl) (by kernel_rfl) (fun _ _ _ h => h) (Or.inl ⟨by rfl, ?_⟩) (by assumption) ?_; rotate_left; · (intro w' hSw; (try dsimp only at hSw); go_simp; (try with_reducible rfl))
  try simp only [Act.put, List.setIfInBounds_toArray, List.set_cons_zero, List.set_cons_succ]
  refine one_to (i := 9) (l' := #[true, true, true, true, true, true, true, true, true, true, true, true, false, false, false, false, false, false, false, false, false, false, false, false, false]) rfl (by kernel_rfl) (by kernel_rfl) (fun K hK => ?_)
  go_simp
  refine (MF.out s _ HI.out.gs HI.out.gm HI.out.s).mono ?_
  rintro e V ⟨v, rfl, hb, hown⟩
  obtain ⟨p1, c1, rfl, hr1⟩ := reads3_own hown
  replace HI := Lib.hid (HI.out.go hb)
  have HR1 := Lib.hid hr1
  clear hb hown hr1
  dsimp only
  refine hK.out _ _ (by first | exact HI.out | exact HI.out.go (Below.refl _ _).drew) (fun hHeld => ?_)
  clear hK K
  try simp only [Act.put, List.setIfInBounds_toArray, List.set_cons_zero, List.set_cons_succ]
  refine one_to (i := 12) (l' := #[true, true, true, true, true, true, true, true, true, true, true, true, true, false, false, false, false, false, false, false, false, false, false, false, false]) rfl (by kernel_rfl) (by kernel_rfl) (fun K hK => ?_)
  go_simp
  refine (RF.out s _).mono ?_
  rintro e V ⟨v, rfl, hb, hown⟩
  obtain ⟨p2, c2, rfl, hr2⟩ := reads3_own hown
  replace HI := Lib.hid (HI.out.go hb)
  replace HR1 := Lib.hid ((HR1.out.below hb).mono hb.size)
  have HR2 := Lib.hid hr2
  clear hb hown hr2
  dsimp only
  refine hK.out _ _ (by first | exact HI.out | exact HI.out.go (Below.refl _ _).drew) (fun hHeld => ?_)
  clear hK K
  try simp only [Act.put, List.setIfInBounds_toArray, List.set_cons_zero, List.set_cons_succ]
  refine one_to (i := 13) (l' := #[true, true, true, true, true, true, true, true, true, true, true, true, true, true, false, false, false, false, false, false, false, false, false, false, false]) rfl (by kernel_rfl) (by kernel_rfl) (fun K hK => ?_)
  go_simp
  refine (same9_any _ (HLF.out _) _ _ _ _ _ HR1.out HR2.out).mono ?_
  rintro e V ⟨rfl, hb⟩
  replace HI := Lib.hid (HI.out.go hb)
  clear hb HR1 HR2
  dsimp only
  refine hK.out _ _ (by first | exact HI.out | exact HI.out.go (Below.refl _ _).drew) (fun hHeld => ?_)
  clear hK K
  try simp only [Act.put, List.setIfInBounds_toArray, List.set_cons_zero, List.set_cons_succ]
  refine take_to (i := 14) (d := some 24) (v := ?_) (l' := #[true, true, true, true, true, true, true, true, true, true, true, true, true, true, true, false, false, false, false, false, false, false, false, false, false]) rfl rfl (by kernel_rfl) (by kernel_rfl) (by kernel_rfl) (by kernel_rfl) (fun _ _ _ h => h) (Or.inl ⟨by rfl, ?_⟩) (by assumption) ?_; rotate_left; · (intro w' hSw; (try dsimp only at hSw); go_simp; (try with_reducible rfl))
  try simp only [Act.put, List.setIfInBounds_toArray, List.set_cons_zero, List.set_cons_succ]
  refine take_to (i := 15) (d := some 25) (v := ?_) (l' := #[true, true, true, true, true, true, true, true, true, true, true, true, true, true, true, true, false, false, false, false, false, false, false, false, false]) rfl rfl (by kernel_rfl) (by kernel_rfl) (by kernel_rfl) (by kernel_rfl) (fun _ _ _ h => h) (Or.inl ⟨by rfl, ?_⟩) (by assumption) ?_; rotate_left; · (intro w' hSw; (try dsimp only at hSw); go_simp; (try with_reducible rfl))
  try simp only [Act.put, List.setIfInBounds_toArray, List.set_cons_zero, List.set_cons_succ]
  refine take_to (i := 16) (d := some 26) (v := ?_) (l' := #[true, true, true, true, true, true, true, true, true, true, true, true, true, true, true, true, true, false, false, false, false, false, false, false, false]) rfl rfl (by kernel_rfl) (by kernel_rfl) (by kernel_rfl) (by kernel_rfl) (fun _ _ _ h => h) (Or.inl ⟨by rfl, ?_⟩) (by assumption) ?_; rotate_left; · (intro w' hSw; (try dsimp only at hSw); go_simp; (try with_reducible rfl))
  try simp only [Act.put, List.setIfInBounds_toArray, List.set_cons_zero, List.set_cons_succ]
  refine take_to (i := 17) (d := some 27) (v := (.agg #[.int .i64 a, .int .i64 b, .int .i64 c])) (l' := #[true, true, true, true, true, true, true, true, true, true, true, true, true, true, true, true, true, true, false, false, false, false, false, false, false]) rfl rfl (by kernel_rfl) (by kernel_rfl) (by kernel_rfl) (by kernel_rfl) (fun _ _ _ h => h) ?_ (by assumption) ?_
  · exact yields_mvC (by rfl) _ (by rfl) mb _ _ _ (by rfl) (fun W h => h.m)
  try simp only [Act.put, List.setIfInBounds_toArray, List.set_cons_zero, List.set_cons_succ]
  refine take_to (i := 18) (d := some 28) (v := (.agg #[.int .i64 a', .int .i64 b', .int .i64 c'])) (l' := #[true, true, true, true, true, true, true, true, true, true, true, true, true, true, true, true, true, true, true, false, false, false, false, false, false]) rfl rfl (by kernel_rfl) (by kernel_rfl) (by kernel_rfl) (by kernel_rfl) (fun _ _ _ h => h) ?_ (by assumption) ?_
  · exact yields_mvC (by rfl) _ (by rfl) nb _ _ _ (by rfl) (fun W h => h.n)
  try simp only [Act.put, List.setIfInBounds_toArray, List.set_cons_zero, List.set_cons_succ]
  refine take_to (i := 20) (d := some 30) (v := (.agg #[.int .i64 a, .int .i64 b, .int .i64 c])) (l' := #[true, true, true, true, true, true, true, true, true, true, true, true, true, true, true, true, true, true, true, false, true, false, false, false, false]) rfl rfl (by kernel_rfl) (by kernel_rfl) (by kernel_rfl) (by kernel_rfl) (fun _ _ _ h => h) ?_ (by assumption) ?_
  · exact yields_mvC (by rfl) _ (by rfl) mb _ _ _ (by rfl) (fun W h => h.m)
  try simp only [Act.put, List.setIfInBounds_toArray, List.set_cons_zero, List.set_cons_succ]
  refine take_to (i := 21) (d := some 31) (v := (.agg #[.int .i64 a', .int .i64 b', .int .i64 c'])) (l' := #[true, true, true, true, true, true, true, true, true, true, true, true, true, true, true, true, true, true, true, false, true, true, false, false, false]) rfl rfl (by kernel_rfl) (by kernel_rfl) (by kernel_rfl) (by kernel_rfl) (fun _ _ _ h => h) ?_ (by assumption) ?_
  · exact yields_mvC (by rfl) _ (by rfl) nb _ _ _ (by rfl) (fun W h => h.n)
  try simp only [Act.put, List.setIfInBounds_toArray, List.set_cons_zero, List.set_cons_succ]
  refine one_to (i := 19) (l' := #[true, true, true, true, true, true, true, true, true, true, true, true, true, true, true, true, true, true, true, true, true, true, false, false, false]) rfl (by kernel_rfl) (by kernel_rfl) (fun K hK => ?_)
  go_simp
  refine (ML.out _).mono ?_
  rintro e V ⟨rfl, hb⟩
  replace HI := Lib.hid (HI.out.go hb)
  clear hb
  dsimp only
  refine hK.out _ _ (by first | exact HI.out | exact HI.out.go (Below.refl _ _).drew) (fun hHeld => ?_)
  clear hK K
  try simp only [Act.put, List.setIfInBounds_toArray, List.set_cons_zero, List.set_cons_succ]
  refine one_to (i := 22) (l' := #[true, true, true, true, true, true, true, true, true, true, true, true, true, true, true, true, true, true, true, true, true, true, true, false, false]) rfl (by kernel_rfl) (by kernel_rfl) (fun K hK => ?_)
  go_simp
  refine (RL.out _).mono ?_
  rintro e V ⟨rfl, hb⟩
  replace HI := Lib.hid (HI.out.go hb)
  clear hb
  dsimp only
  refine hK.out _ _ (by first | exact HI.out | exact HI.out.go (Below.refl _ _).drew) (fun hHeld => ?_)
  clear hK K
  try simp only [Act.put, List.setIfInBounds_toArray, List.set_cons_zero, List.set_cons_succ]
  refine take_to (i := 23) (d := some 33) (v := ?_) (l' := #[true, true, true, true, true, true, true, true, true, true, true, true, true, true, true, true, true, true, true, true, true, true, true, true, false]) rfl rfl (by kernel_rfl) (by kernel_rfl) (by kernel_rfl) (by kernel_rfl) (fun _ _ _ h => h) (Or.inl ⟨by rfl, ?_⟩) (by assumption) ?_; rotate_left; · (intro w' hSw; (try dsimp only at hSw); go_simp; (try with_reducible rfl))
  try simp only [Act.put, List.setIfInBounds_toArray, List.set_cons_zero, List.set_cons_succ]
  refine take_to (i := 24) (d := some 34) (v := ?_) (l' := #[true, true, true, true, true, true, true, true, true, true, true, true, true, true, true, true, true, true, true, true, true, true, true, true, true]) rfl rfl (by kernel_rfl) (by kernel_rfl) (by kernel_rfl) (by kernel_rfl) (fun _ _ _ h => h) (Or.inl ⟨by rfl, ?_⟩) (by assumption) ?_; rotate_left; · (intro w' hSw; (try dsimp only at hSw); go_simp; (try with_reducible rfl))
  try simp only [Act.put, List.setIfInBounds_toArray, List.set_cons_zero, List.set_cons_succ]
  refine wpAnyH_done (by kernel_rfl) ?_ _
  refine NoPanic.normal ?_
  clear hHeld
  go_wp2
  go_loopw [9] (fun v wr => ∃ i : Nat, i ≤ 64 ∧ v = .int .i64 (i : Int) ∧ MtS w B w.heap.size mb nb P a b c a' b' c' wr) (fun v _ => 64 - (intOf v).toNat)
  case atStart => exact ⟨0, Nat.zero_le _, rfl, HI.out⟩
  case round =>
    clear HI
    obtain ⟨i, hi, rfl, h1⟩ := hrel
    have HI := Lib.hid h1
    clear h1
    by_cases hlt : i < 64
    · go_upto_region 6 with (fail)
      refine wp_region_noPanic ?_
      refine wp_region_start (n := 8) (l := #[false, false, false, false, false, false, false, false]) (S := (fun W => MtS w B w.heap.size mb nb P a b c a' b' c' W)) (by kernel_rfl) rfl (by kernel_rfl) (by first | exact HI.out | exact HI.out.go (Below.refl _ _).drew) (fun hHeld => ?_)
      replace HI := Lib.hid (HI.out.go (Below.refl wr.heap.size wr).drew)
      generalize wr.drew = V0 at hHeld HI ⊢
      refine take_to (i := 0) (d := some 39) (v := (.agg X)) (l' := #[true, false, false, false, false, false, false, false]) rfl rfl (by kernel_rfl) (by kernel_rfl) (by kernel_rfl) (by kernel_rfl) (fun _ _ _ h => h) ?_ (by assumption) ?_
      · exact yields_posC (by rfl) _ (by rfl) w.heap.size P X HX.out (by rfl) (fun W h => h.p)
      try simp only [Act.put, List.setIfInBounds_toArray, List.set_cons_zero, List.set_cons_succ]
      refine take_to (i := 1) (d := some 40) (v := ?_) (l' := #[true, true, false, false, false, false, false, false]) rfl rfl (by kernel_rfl) (by kernel_rfl) (by kernel_rfl) (by kernel_rfl) (fun _ _ _ h => h) (Or.inl ⟨by rfl, ?_⟩) (by assumption) ?_; rotate_left; · (intro w' hSw; (try dsimp only at hSw); go_simp; (try with_reducible rfl))
      try simp only [Act.put, List.setIfInBounds_toArray, List.set_cons_zero, List.set_cons_succ]
      refine take_to (i := 3) (d := some 42) (v := (.agg X)) (l' := #[true, true, false, true, false, false, false, false]) rfl rfl (by kernel_rfl) (by kernel_rfl) (by kernel_rfl) (by kernel_rfl) (fun _ _ _ h => h) ?_ (by assumption) ?_
      · exact yields_posC (by rfl) _ (by rfl) w.heap.size P X HX.out (by rfl) (fun W h => h.p)
      try simp only [Act.put, List.setIfInBounds_toArray, List.set_cons_zero, List.set_cons_succ]
      refine take_to (i := 4) (d := some 43) (v := ?_) (l' := #[true, true, false, true, true, false, false, false]) rfl rfl (by kernel_rfl) (by kernel_rfl) (by kernel_rfl) (by kernel_rfl) (fun _ _ _ h => h) (Or.inl ⟨by rfl, ?_⟩) (by assumption) ?_; rotate_left; · (intro w' hSw; (try dsimp only at hSw); go_simp; (try with_reducible rfl))
      try simp only [Act.put, List.setIfInBounds_toArray, List.set_cons_zero, List.set_cons_succ]
      refine one_to (i := 2) (l' := #[true, true, true, true, true, false, false, false]) rfl (by kernel_rfl) (by kernel_rfl) (fun K hK => ?_)
      go_simp
      refine (MF.out i _ HI.out.gs HI.out.gm HI.out.s).mono ?_
      rintro e V ⟨v, rfl, hb, hown⟩
      obtain ⟨p1, c1, rfl, hr1⟩ := reads3_own hown
      replace HI := Lib.hid (HI.out.go hb)
      have HR1 := Lib.hid hr1
      clear hb hown hr1
      dsimp only
      refine hK.out _ _ (by first | exact HI.out | exact HI.out.go (Below.refl _ _).drew) (fun hHeld => ?_)
      clear hK K
      try simp only [Act.put, List.setIfInBounds_toArray, List.set_cons_zero, List.set_cons_succ]
      refine one_to (i := 5) (l' := #[true, true, true, true, true, true, false, false]) rfl (by kernel_rfl) (by kernel_rfl) (fun K hK => ?_)
      go_simp
      refine (RF.out i _).mono ?_
      rintro e V ⟨v, rfl, hb, hown⟩
      obtain ⟨p2, c2, rfl, hr2⟩ := reads3_own hown
      replace HI := Lib.hid (HI.out.go hb)
      replace HR1 := Lib.hid ((HR1.out.below hb).mono hb.size)
      have HR2 := Lib.hid hr2
      clear hb hown hr2
      dsimp only
      refine hK.out _ _ (by first | exact HI.out | exact HI.out.go (Below.refl _ _).drew) (fun hHeld => ?_)
      clear hK K
      try simp only [Act.put, List.setIfInBounds_toArray, List.set_cons_zero, List.set_cons_succ]
      refine one_to (i := 6) (l' := #[true, true, true, true, true, true, true, false]) rfl (by kernel_rfl) (by kernel_rfl) (fun K hK => ?_)
      go_simp
      refine (same9_any _ (HLF.out _) _ _ _ _ _ HR1.out HR2.out).mono ?_
      rintro e V ⟨rfl, hb⟩
      replace HI := Lib.hid (HI.out.go hb)
      clear hb HR1 HR2
      dsimp only
      refine hK.out _ _ (by first | exact HI.out | exact HI.out.go (Below.refl _ _).drew) (fun hHeld => ?_)
      clear hK K
      try simp only [Act.put, List.setIfInBounds_toArray, List.set_cons_zero, List.set_cons_succ]
      refine take_to (i := 7) (d := some 46) (v := ?_) (l' := #[true, true, true, true, true, true, true, true]) rfl rfl (by kernel_rfl) (by kernel_rfl) (by kernel_rfl) (by kernel_rfl) (fun _ _ _ h => h) (Or.inl ⟨by rfl, ?_⟩) (by assumption) ?_; rotate_left; · (intro w' hSw; (try dsimp only at hSw); go_simp; (try with_reducible rfl))
      try simp only [Act.put, List.setIfInBounds_toArray, List.set_cons_zero, List.set_cons_succ]
      refine wpAnyH_done (by kernel_rfl) ?_ _
      refine NoPanic.normal ?_
      clear hHeld
      go_wp2
      go_roundw
      case rel => exact ⟨i + 1, by omega, by go_num, HI.out⟩
      case measure => simp [intOf]; omega
    · obtain rfl : i = 64 := by omega
      rw [show ((64 : Nat) : Int) = 64 from rfl]
      go_wp2_with fail
      refine (AW.out _ HI.out.gs HI.out.gm HI.out.s).mono ?_
      rintro e w2 ⟨rfl, hb⟩
      replace HI := Lib.hid (HI.out.go hb)
      clear hb
      go_wp2
      go_ret
      exact ⟨rfl, HI.out.bel⟩
end Go.Proofs.YtjhlombbkodpaaaDoor
