/-
  Merged: Re, Rg, Rf, Rh, Ri, Rk, Rj, Rl, Rn.
-/
import Derived.Test.YtcdnakbdajbfoaaGreatDoorG26
import Derived.Test.YtcdnakbdajbfoaaGreatDoorG25
import Derived.Test.YtcdnakbdajbfoaaGreatDoorG23

namespace Go.Proofs.YtcdnakbdajbfoaaGreatDoor
open Go.RowKit Go.Sort
set_option linter.unusedSimpArgs false
set_option linter.unusedVariables false
set_option maxRecDepth 20000
attribute [local go_sem] Oper.semAt_some

theorem JQ.later {B b : Nat} {P : Nat → Int} {w W : World} (hp : PB W b P) (hgb : GB B w) (hgs : GS B w) (hgm : GM B w) (hgp : GP B w) (hB : B ≤ w.heap.size) (g : Below w.heap.size w W) : JQ B b P W W :=
  JQ.begin hp (hgb.below (g.mono hB)) (hgs.below (g.mono hB)) (hgm.below (g.mono hB)) (hgp.below (g.mono hB)) (Nat.le_trans hB g.size)
end Go.Proofs.YtcdnakbdajbfoaaGreatDoor

namespace Go.Proofs.YtcdnakbdajbfoaaGreatDoor
open Go.RowKit
set_option linter.unusedSimpArgs false
set_option linter.unusedVariables false
set_option maxRecDepth 20000

variable {P : Program} {α : Type}

theorem wp_range_over3 {g : Operand} {ps : Array Tmp} {assign body : Code} {Q : Exit → Act → World → Prop} {a : Act} {w : World}
    {gf : Nat} {lb : Array Value} (hg : a.eval g = .func (.func gf) #[] lb) (eg : ∀ args w, (callFunc gf args).run P w = .ok (.enter gf args) w)
    {N : Nat → Prop} {enc : α → Array Value} {xs : List α} {w0 : World} (hseq : Comes2 P gf lb N enc xs w0) (hb0 : Below w0.heap.size w0 w) (hps : ∀ x, ps.size = (enc x).size)
    (I : List α → (Nat → Prop) → World → Prop) (Ix : Code → List α → (Nat → Prop) → World → Prop)
    (hI : ∀ s X A B, I s X A → Spares w.heap.size X A B → I s X B) (hIx : ∀ c s X A B, Ix c s X A → Spares w.heap.size X A B → Ix c s X B)
    (hlt : ∀ s X A, I s X A → ∀ k, X k → k < A.heap.size) {X0 : Nat → Prop} (h0 : I [] X0 w) (hX0 : ∀ k, X0 k → ¬ N k) (a₁ : α → World → Act) (as₁ : α → World → World) (has : ∀ x V, Below V.heap.size V (as₁ x V))
    (hassign : ∀ (l : Nat) (x : α) (W : World) (K : Act → World → Prop), K (a₁ x W) (as₁ x W) →
      assign.wpIn (Fence.wide.inRound l) 0 P (Exit.then K (fun _ _ _ => False)) { tmps := (ps.zip (enc x)).foldl (fun t (p, v) => t.setIfInBounds p v) a.tmps, defers := [] } W)
    (hbody : ∀ (l : Nat) (pre : List α) (x : α) (X : Nat → Prop) (V W : World), I pre X W → pre ++ [x] <+: xs → w.heap.size ≤ V.heap.size → (∀ k, X k → k < V.heap.size) → (as₁ x V).heap.size = W.heap.size → (∀ k, V.heap.size ≤ k → k < (as₁ x V).heap.size → W.heap[k]? = (as₁ x V).heap[k]?) → body.wpIn (Fence.wide.inRound l) 0 P (roundQ I Ix X (pre ++ [x]) W) (a₁ x V) W)
    (hdone : ∀ (Y : Nat → Prop) (W : World), I xs Y W → W.heap[w.heap.size]? = some (.deferred (some [])) → ¬ Y w.heap.size → I xs Y (W.putObj w.heap.size (.deferred none)) → Q .normal { a with defers := { target := .collected w.heap.size, args := #[] } :: a.defers } W)
    (hstop : ∀ (c : Code) (pre : List α) (Y : Nat → Prop) (W : World), pre <+: xs → Ix c pre Y W → W.heap[w.heap.size]? = some (.deferred (some [])) → ¬ Y w.heap.size → Ix c pre Y (W.putObj w.heap.size (.deferred none)) → c.wp P Q { a with defers := { target := .collected w.heap.size, args := #[] } :: a.defers } W) :
    (Code.rangeFunc g ps assign body).wp P Q a w := by
  refine (wpIn_wide (n := 0)).1 (wpIn_rangeFunc fun fn hfn => ?_)
  obtain ⟨rec, hrec⟩ : ∃ rec : LoopState → Option Code → Loop, rec = fun st pe => { state := st, pending := pe, fn, tmps := a.tmps, params := ps, assign, body, defers := w.heap.size } := ⟨_, rfl⟩
  obtain ⟨W1, hW1⟩ : ∃ W1, (w.alloc (.deferred (some []))).alloc (.loop (rec .ready none)) = W1 := ⟨_, rfl⟩
  have hs1 : W1.heap.size = w.heap.size + 2 := by rw [← hW1]; simp
  have hL1 : W1.heap[w.heap.size + 1]? = some (.loop (rec .ready none)) := by
    rw [← hW1]; have := World.alloc_heap_new (w.alloc (.deferred (some []))) (.loop (rec .ready none)); rwa [World.size_alloc] at this
  have hK1 : W1.heap[w.heap.size]? = some (.deferred (some [])) := by
    rw [← hW1]; exact (Below.heap_alloc _ _ _ (by simp)).trans (World.alloc_heap_new w _)
  have hbw : Below w.heap.size w W1 := by rw [← hW1]; exact ((Below.refl _ w).alloc (Nat.le_refl _) _).alloc (by simp) _
  have hI1 : I [] X0 W1 := hI _ _ _ _ h0 (.of_below hbw)
  refine ⟨w.heap.size + 1, [{ target := .collected w.heap.size, args := #[] }], W1, { target := .fn (.func gf) lb, args := #[.func (.yield (w.heap.size + 1)) #[] #[]] }, W1, gf,
    #[.func (.yield (w.heap.size + 1)) #[] #[]] ++ lb, W1, ?_, ?_, fun _ _ => trivial, ?_, fun h => by simp [Fence.wide] at h, callsIn_wide.2 ?_⟩
  · rw [← hW1, hrec]; exact run_enterLoop_outer _ _ _ _ _
  · simp only [resolve, hg]
    simp [go_sem]
  · simp [invoke, go_sem, eg]
  · -- the steps of the iterator, and those of the book
    have bookI : ∀ (F : (Nat → Prop) → World → Prop) (r : Loop) (Z : Nat → Prop) (A B : World), (∀ X A B, F X A → Spares w.heap.size X A B → F X B) →
        Book F r (w.heap.size + 1) w.heap.size Z A → Spares W1.heap.size Z A B → Book F r (w.heap.size + 1) w.heap.size Z B := by
      intro F r Z A B hF h hs
      obtain ⟨X, hX, h1, h2, hz⟩ := h.inn
      have hl : w.heap.size + 1 < A.heap.size := (Array.getElem?_eq_some_iff.1 h.L).1
      exact ⟨⟨X, hF X A B hX ((hs.mono (by omega)).less fun k hk => (hz k).2 (.inl hk)), h1, h2, hz⟩, (hs.block _ hl (.inl (by omega))).trans h.L, (hs.block _ (by omega) (.inl (by omega))).trans h.K⟩
    refine (hseq.2 (w.heap.size + 1) (fun pre => Book (I pre) (rec .ready none) (w.heap.size + 1) w.heap.size) (fun pre Z W => ∃ c, Book (Ix c pre) (rec .done (some c)) (w.heap.size + 1) w.heap.size Z W)
      (fun k => X0 k ∨ k = w.heap.size + 1 ∨ k = w.heap.size) W1 (hb0.trans (hbw.mono hb0.size)) ?_
      (fun s Z A B => bookI _ _ Z A B (fun X A B => hI s X A B)) (fun s Z A B ⟨c, h⟩ hs => ⟨c, bookI _ _ Z A B (fun X A B => hIx c s X A B) h hs⟩) ?_ ?_ ?_).mono ?_
    · intro k hk hn
      have h1 := hseq.1 k hn
      have h2 := hb0.size
      rcases hk with h | h | h
      · exact hX0 k h hn
      · omega
      · omega
    · intro s Z A h k hk
      obtain ⟨X, hX, _, _, hz⟩ := h.inn
      have hl : w.heap.size + 1 < A.heap.size := (Array.getElem?_eq_some_iff.1 h.L).1
      rcases (hz k).1 hk with h1 | h1 | h1
      · exact hlt _ _ _ hX k h1
      · omega
      · omega
    · -- ONE ROUND
      intro pre x Z A h hpre
      obtain ⟨X, hX, hn1, hn2, hz⟩ := h.inn
      have hL := h.L
      have hK := h.K
      have hl : w.heap.size + 1 < A.heap.size := (Array.getElem?_eq_some_iff.1 hL).1
      have hy := run_yield (P := P) (args := (enc x)) hL (by rw [hrec]; first | exact (hps x).symm | exact hps x | simp [hps x])
      rw [hrec] at hy
      have hbA := has x A
      refine ⟨fn, _, assign, body, hy, roundIn_of_wpIn hfn (hassign _ x A _ ⟨_, run_beginRound ((hbA.block _ hl).trans hL) (by rw [hrec]), ?_⟩)⟩
      clear hy
      have hXV := fun k hk => hlt _ _ _ hX k hk
      have hnew : ∀ k, A.heap.size ≤ k → k < (as₁ x A).heap.size → (as₁ x A).heap[k]? = (as₁ x A).heap[k]? := fun _ _ _ => rfl
      obtain ⟨V, hVe⟩ : ∃ V, V = A := ⟨_, rfl⟩
      have hlV : w.heap.size + 1 < V.heap.size := by rw [hVe]; exact hl
      replace hX := hI _ _ _ _ hX (.of_below (n := w.heap.size) (X := X) hbA)
      replace hL := (hbA.block _ hl).trans hL
      replace hK := (hbA.block _ (by omega)).trans hK
      have htA : Turns Z V (as₁ x A) := by rw [hVe]; exact .of_below hbA
      have hsA : V.heap.size ≤ (as₁ x A).heap.size := by rw [hVe]; exact hbA.size
      rw [← hVe]
      rw [← hVe] at hX hL hK htA hsA hXV hnew hbA hl
      clear hVe
      obtain ⟨A, hA⟩ : ∃ A, as₁ x V = A := ⟨_, rfl⟩
      rw [hA]
      rw [hA] at hX hL hK htA hsA hnew
      replace hl : w.heap.size + 1 < A.heap.size := by omega
      obtain ⟨A2, hA2⟩ : ∃ A2, A.putObj (w.heap.size + 1) (.loop { rec .ready none with state := .busy }) = A2 := ⟨_, rfl⟩
      rw [hA2]
      have hs2 : A2.heap.size = A.heap.size := by rw [← hA2]; simp
      have hL2 : A2.heap[w.heap.size + 1]? = some (.loop { rec .ready none with state := .busy }) := by rw [← hA2]; exact World.putObj_heap_same hl
      have hK2 : A2.heap[w.heap.size]? = some (.deferred (some [])) := by rw [← hA2]; exact (World.putObj_heap_other (by omega)).trans hK
      have hX2 : I pre X A2 := by rw [← hA2]; exact hI _ _ _ _ hX (spares_putObj _ (by omega) hn1)
      have hT2 : Turns Z A A2 := by rw [← hA2]; exact turns_putObj _ ((hz _).2 (.inr (.inl rfl)))
      refine wpIn_mono (hbody _ pre x X V A2 hX2 hpre (by omega) hXV (by rw [hA, hs2]) (fun k h1 h2 => by rw [hA, ← hA2]; exact World.putObj_heap_other (by omega))) ?_
      have fin : ∀ (jump : Option Code) (F : (Nat → Prop) → World → Prop) (A3 : World) (Y : Nat → Prop), (∀ X A B, F X A → Spares w.heap.size X A B → F X B) → Turns X A2 A3 → (∀ k, Y k → X k ∨ A2.heap.size ≤ k) → F Y A3 →
          (Instr.endRound (w.heap.size + 1) jump).run P A3 = .ok (.bool jump.isNone) (A3.putObj (w.heap.size + 1) (.loop (rec (if jump.isNone then .ready else .done) jump))) ∧
          Turns Z V (A3.putObj (w.heap.size + 1) (.loop (rec (if jump.isNone then .ready else .done) jump))) ∧
          ∃ Z', (∀ k, Z' k → Z k ∨ V.heap.size ≤ k) ∧ Book F (rec (if jump.isNone then .ready else .done) jump) (w.heap.size + 1) w.heap.size Z' (A3.putObj (w.heap.size + 1) (.loop (rec (if jump.isNone then .ready else .done) jump))) := by
        intro jump F A3 Y hF hT hY hFY
        have hL3 := (hT.block _ (by omega) hn1).trans hL2
        have hK3 := (hT.block _ (by omega) hn2).trans hK2
        have hy1 : ¬ Y (w.heap.size + 1) := fun e => by rcases hY _ e with h | h; exact hn1 h; omega
        have hy2 : ¬ Y w.heap.size := fun e => by rcases hY _ e with h | h; exact hn2 h; omega
        have he := run_endRound (P := P) jump hL3
        rw [hrec] at he ⊢
        refine ⟨he, ?_, fun k => Y k ∨ k = w.heap.size + 1 ∨ k = w.heap.size, ?_, ⟨Y, hF _ _ _ hFY (spares_putObj _ (by omega) hy1), hy1, hy2, fun k => Iff.rfl⟩, ?_, ?_⟩
        · refine (((htA.trans hT2 fun k hk => .inl hk)).trans (hT.mono fun k hk => (hz k).2 (.inl hk)) fun k hk => .inl hk).trans (turns_putObj (X := Z) _ ((hz _).2 (.inr (.inl rfl)))) fun k hk => .inl hk
        · rintro k (hk | hk | hk)
          · rcases hY k hk with h | h
            · exact .inl ((hz k).2 (.inl h))
            · exact .inr (by omega)
          · exact .inl ((hz k).2 (.inr (.inl hk)))
          · exact .inl ((hz k).2 (.inr (.inr hk)))
        · exact World.putObj_heap_same (Array.getElem?_eq_some_iff.1 hL3).1
        · exact (World.putObj_heap_other (by omega)).trans hK3
      rintro e a3 A3 hp
      cases e with
      | normal =>
        obtain ⟨Y, hT, hY, hI3⟩ := hp
        obtain ⟨hr, hT3, Z', hZ', hB⟩ := fin none (I (pre ++ [x])) A3 Y (fun X A B => hI _ X A B) hT hY hI3
        exact ⟨_, _, hr, Z', hT3, hZ', .inl ⟨rfl, hB⟩⟩
      | ret =>
        obtain ⟨Y, hT, hY, hI3⟩ := hp
        obtain ⟨hr, hT3, Z', hZ', hB⟩ := fin (some .ret) (Ix .ret (pre ++ [x])) A3 Y (fun X A B => hIx _ _ X A B) hT hY hI3
        exact ⟨_, _, hr, Z', hT3, hZ', .inr ⟨rfl, .ret, hB⟩⟩
      | exit id =>
        obtain ⟨Y, hT, hY, hI3⟩ := hp
        obtain ⟨hr, hT3, Z', hZ', hB⟩ := fin (some (.exit id)) (Ix (.exit id) (pre ++ [x])) A3 Y (fun X A B => hIx _ _ X A B) hT hY hI3
        exact ⟨_, _, hr, Z', hT3, hZ', .inr ⟨rfl, .exit id, hB⟩⟩
      | goto t =>
        obtain ⟨Y, hT, hY, hI3⟩ := hp
        obtain ⟨hr, hT3, Z', hZ', hB⟩ := fin (some (.goto t)) (Ix (.goto t) (pre ++ [x])) A3 Y (fun X A B => hIx _ _ X A B) hT hY hI3
        exact ⟨_, _, hr, Z', hT3, hZ', .inr ⟨rfl, .goto t, hB⟩⟩
      | panic ch => exact hp.elim
      | outgrown => exact hp.elim
    · exact ⟨⟨X0, hI1, fun e => by have := hlt _ _ _ h0 _ e; omega, fun e => by have := hlt _ _ _ h0 _ e; omega, fun k => Iff.rfl⟩, hL1, hK1⟩
    · -- BEHIND THE ITERATOR
      have fin : ∀ (F : (Nat → Prop) → World → Prop) (st : LoopState) (pe : Option Code) (Z : Nat → Prop) (B : World), st ≠ .busy → (∀ X A B, F X A → Spares w.heap.size X A B → F X B) → Book F (rec st pe) (w.heap.size + 1) w.heap.size Z B →
          ∃ B' Y, (Instr.endLoop (w.heap.size + 1)).run P B = .ok pe B' ∧ F Y B' ∧ B'.heap[w.heap.size]? = some (.deferred (some [])) ∧ ¬ Y w.heap.size ∧ F Y (B'.putObj w.heap.size (.deferred none)) := by
        intro F st pe Z B hst hF h
        obtain ⟨X, hX, hn1, hn2, hz⟩ := h.inn
        have he := run_endLoop (P := P) h.L (by rw [hrec]; exact hst)
        rw [hrec] at he
        have h3 := hF _ _ (B.putObj (w.heap.size + 1) (.loop { rec st pe with state := .exhausted })) hX (spares_putObj _ (by omega) hn1)
        rw [hrec] at h3
        exact ⟨_, X, he, h3, (World.putObj_heap_other (by omega)).trans h.K, hn2, hF _ _ _ h3 (spares_putObj _ (Nat.le_refl _) hn2)⟩
      rintro e B ⟨⟨v, rfl⟩, Z, (hJ | ⟨pre, hpre, c, hJ⟩)⟩
      · obtain ⟨B', Y, he, h1, h2, h4, h3⟩ := fin _ _ _ Z B (by simp) (fun X A B => hI _ X A B) hJ
        exact ⟨none, B', he, hdone Y B' h1 h2 h4 h3⟩
      · obtain ⟨B', Y, he, h1, h2, h4, h3⟩ := fin _ _ _ Z B (by simp) (fun X A B => hIx c _ X A B) hJ
        exact ⟨some c, B', he, wpIn_wide.2 (hstop c pre Y B' hpre h1 h2 h4 h3)⟩
end Go.Proofs.YtcdnakbdajbfoaaGreatDoor

namespace Go.Proofs.YtcdnakbdajbfoaaGreatDoor
open Go.RowKit Go.Sort
set_option linter.unusedSimpArgs false
set_option linter.unusedVariables false
set_option maxRecDepth 20000
attribute [local go_sem] Oper.semAt_some

theorem legal_any (b : Nat) (w : World) :
    Calls Tryz.prog 39 #[.pointer (some ⟨b, 0, none⟩)] w fun e w' =>
      e = .returned (.func (.func 52) #[] #[.pointer (some ⟨w.heap.size, 0, none⟩)]) ∧ w' = w.alloc (.cells #[.pointer (some ⟨b, 0, none⟩)] 79) := by
  go_enter Tryz.func39, Tryz.ntmps39
  go_wp2
  go_ret
  exact ⟨rfl, rfl⟩
structure ApL (w : World) (pre : List (Int × Int × Int)) (X : Nat → Prop) (W : World) : Prop where
  below : Below w.heap.size w W
  box : ∃ v, W.heap[w.heap.size]? = some (.cells #[v] 46 (0, 0)) ∧ W.ownsRow w.heap.size 52 3 v pre.length (mvals pre) ∧ ∀ k, X k ↔ k = w.heap.size ∨ v.ownBlock = some k
theorem ApL.lt {w : World} {pre : List (Int × Int × Int)} {X : Nat → Prop} {W : World} (h : ApL w pre X W) : ∀ k, X k → k < W.heap.size := by
  obtain ⟨v, hv, hr, hx⟩ := h.box
  intro k hk
  rcases (hx k).1 hk with rfl | h1
  · exact (Array.getElem?_eq_some_iff.1 hv).1
  · exact (hr.lt k h1).2
theorem ApL.spare {w : World} {pre : List (Int × Int × Int)} {X : Nat → Prop} {A B : World} {n : Nat} (h : ApL w pre X A) (hn : w.heap.size ≤ n) (hs : Spares n X A B) : ApL w pre X B := by
  obtain ⟨v, hv, hr, hx⟩ := h.box
  refine ⟨h.below.trans (hs.below h.below.size hn), v, (hs.block _ (Array.getElem?_eq_some_iff.1 hv).1 (.inr ((hx _).2 (.inl rfl)))).trans hv, owns_same hr fun g hg hl => hs.block g hl (.inr ((hx g).2 (.inr hg))), hx⟩
theorem legM_len (P : Nat → Int) : (legM P).length ≤ 17920 := Nat.le_trans (List.length_filter_le _ _) (allM_len P)
def lmM (P : Nat → Int) : List (Int × Int × Int) := if posB P then legM P else []
set_option maxHeartbeats 4000000 in
set_option maxRecDepth 100000 in
theorem lMoves_any (P : Nat → Int) (w : World) (B : Nat) (hgb : GB B w) (hgs : GS B w) (hgm : GM B w) (hgp : GP B w) (hB : B ≤ w.heap.size) :
    Calls Tryz.prog 25 #[.agg (pc P).toArray] w fun e w' => ∃ v, e = .returned v ∧ Below w.heap.size w w' ∧ w'.ownsRow w.heap.size 52 3 v (lmM P).length (mvals (lmM P)) := by
  obtain ⟨i1, hi1, hk⟩ : ∃ i, Tryz.prog.info? 52 = some i ∧ (i.zero, i.size, i.bytes) = (some (.agg #[.int .i64 0, .int .i64 0, .int .i64 0]), 3, 24) := by
    have h : (Tryz.prog.info? 52).map (fun i => (i.zero, i.size, i.bytes)) = some (some (.agg #[.int .i64 0, .int .i64 0, .int .i64 0]), 3, 24) := by kernel_rfl
    exact Option.map_eq_some_iff.1 h
  simp only [Prod.mk.injEq] at hk
  obtain ⟨hk0, hk1, hk2⟩ := hk
  have HIN := Lib.hid (And.intro hi1 (And.intro hk0 (And.intro hk1 hk2)))
  clear hi1 hk0 hk1 hk2
  obtain ⟨X, hX⟩ : ∃ X, X = (pc P).toArray := ⟨_, rfl⟩
  rw [← hX]
  have HP00 := Lib.hid (pos_box P w X hX 30)
  have HX := Lib.hid hX
  have HSZ := Lib.hid (show X.size = 133 by rw [hX, pc_size])
  have HFO := Lib.hid (fold_jud X HSZ.out)
  have HBW0 := Lib.hid (below_new (w := w) (.cells X 30))
  have HQ := Lib.hid (fun W b (h1 : PB W b P) h2 => JQ.later h1 hgb hgs hgm hgp hB h2)
  obtain ⟨ps, hps⟩ : ∃ x, posB P = x := ⟨_, rfl⟩
  have HLM := Lib.hid (show lmM P = if ps then legM P else [] by unfold lmM; rw [hps])
  have HPOS := Lib.hid (fun b W h => jPos_any B b P W h)
  rw [hps] at HPOS
  clear hX hgb hgs hgm hgp hps
  refine calls_of_marks Tryz.func25 rfl ?_
  simp only [Tryz.ntmps25, List.size_toArray, List.length_cons, List.length_nil, Nat.reduceAdd, Nat.reduceSub, Array.replicate_succ, Array.replicate_zero, List.push_toArray, List.append_toArray, List.nil_append, List.cons_append]
  go_upto_region 1 with (fail)
  generalize w.alloc (.cells X 30) = W0 at *
  refine wp_region_lit ?_
  refine wpList_pos (by rfl) _ (by rfl) w.heap.size P X HX.out (by rfl) HP00.out ?_
  have hfold := HFO.out
  have hsz := HSZ.out
  refine wpList_plain rfl (fun K hK => ?_)
  go_simp
  refine hK _ _ ?_
  clear hK K hfold hsz
  refine wpList_newJ X P HX.out (by rfl) (by rfl) (fun W2 hp hb hsz => ?_)
  have HB := Lib.hid (HBW0.out.trans (hb.mono HBW0.out.size))
  have HI := Lib.hid (HQ.out _ _ hp HB.out)
  have HW0 := Lib.hid hsz
  clear hp hb HP00 HBW0 HQ
  have HH := Lib.hid (show W0.heap.size < W2.heap.size by omega)
  clear hsz HW0
  generalize W0.heap.size = H at *
  show Exit.then _ _ Exit.normal _ _
  go_wp2_with fail
  refine (HPOS.out H W2 HI.out).mono ?_
  rintro e w3 ⟨rfl, hb⟩
  replace HB := Lib.hid (HB.out.trans (hb.mono HB.out.size))
  replace HI := Lib.hid (HI.out.go hb).anew
  have HH3 := Lib.hid (Nat.lt_of_lt_of_le HH.out hb.size)
  clear hb HH HPOS
  dsimp only
  refine list_go (by assumption) ?_
  cases ps
  · go_wp2
    refine ⟨_, results_tmp rfl _ _ _, .slice none 0 0, rfl, HB.out, ?_⟩
    rw [HLM.out]
    exact World.ownsRow_nil _ _ _ _
  · have HLM2 := Lib.hid (show lmM P = legM P by rw [HLM.out]; rfl)
    clear HLM
    go_wp2_with fail
    refine (legal_any H _).mono ?_
    rintro e w4 ⟨rfl, rfl⟩
    have har : LJ B H (w3.heap.size + 1) P ((w3.alloc (.cells #[.slice none 0 0] 46)).alloc (.cells #[.pointer (some ⟨H, 0, none⟩)] 79)) := by
      have hb : Below w3.heap.size w3 ((w3.alloc (.cells #[.slice none 0 0] 46)).alloc (.cells #[.pointer (some ⟨H, 0, none⟩)] 79)) := (below_new _).alloc (by simp) _
      have h := HI.out.go hb
      exact ⟨sl_at (by simp), h.p, h.gb, h.gs, h.gm, h.gp, h.s⟩
    have HAR := Lib.hid har
    have HW4 := Lib.hid (((below_new (w := w3) (.cells #[.slice none 0 0] 46))).alloc (by simp) (.cells #[.pointer (some ⟨H, 0, none⟩)] 79))
    have HV4 := Lib.hid (show ((w3.alloc (.cells #[.slice none 0 0] 46)).alloc (.cells #[.pointer (some ⟨H, 0, none⟩)] 79)).heap[w3.heap.size]? = some (.cells #[.slice none 0 0] 46 (0, 0)) from al_old (sl_at rfl) _)
    have hmb : (w3.alloc (.cells #[.slice none 0 0] 46)).heap.size = w3.heap.size + 1 := by simp
    rw [hmb]
    generalize (w3.alloc (.cells #[.slice none 0 0] 46)).alloc (.cells #[.pointer (some ⟨H, 0, none⟩)] 79) = W4 at *
    clear hmb har
    go_wp2
    refine wp_range_over3 (gf := 52) (lb := #[.pointer (some ⟨w3.heap.size + 1, 0, none⟩)]) rfl (enters_of Tryz.func52 (by kernel_rfl) rfl) (legal1_comes B H (w3.heap.size + 1) P W4 HAR.out) (Below.refl _ _) (fun x => rfl) (fun pre X W => ApL w3 pre X W) (fun _ _ _ _ => False)
      (fun s X A B h hs => h.spare HW4.out.size hs) (fun _ _ _ _ _ h _ => h) (fun s X A h => h.lt) (X0 := fun k => k = w3.heap.size) ?start ?disj
      (fun x V => { tmps := #[.agg X, .pointer (some ⟨w.heap.size, 0, none⟩), .slice none 0 0, .pointer (some ⟨H, 0, none⟩), .pointer (some ⟨w3.heap.size, 0, none⟩), .pointer (some ⟨V.heap.size, 0, none⟩), .agg X, .agg X, .bool true, .bool false, .func (.func 52) #[] #[.pointer (some ⟨w3.heap.size + 1, 0, none⟩)], .agg #[.int .i64 x.1, .int .i64 x.2.1, .int .i64 x.2.2], .agg (pc (nxP P x.1.toNat x.2.1.toNat x.2.2)).toArray, undef, undef, undef, undef, undef], defers := [] })
      (fun x V => V.alloc (.cells #[.int .i64 x.1, .int .i64 x.2.1, .int .i64 x.2.2] 52)) (fun x V => below_new _) ?assign ?body ?done ?stop
    case start => exact ⟨HW4.out, _, HV4.out, World.ownsRow_nil _ _ _ _, fun k => by simp [Value.ownBlock]⟩
    case disj =>
      have h1 := HH3.out
      have h2 := HI.out.s
      rintro k rfl (hk | hk | hk)
      · omega
      · omega
      · omega
    case assign =>
      rintro l ⟨f, t, k⟩ W K hK
      dsimp only [encL]
      dsimp only at hK
      generalize (pc (nxP P f.toNat t.toNat k)).toArray = N at *
      gi_wp2
      exact hK
    case body =>
      rintro l' pre ⟨f, t, k⟩ X7 V W7 h hpre hVs hXV hsz hnew
      dsimp only at hsz hnew
      have hlp : pre.length + 1 ≤ 17920 := by
        have h1 := hpre.length_le
        have h2 := legM_len P
        simp at h1; omega
      dsimp only
      have hm : W7.heap[V.heap.size]? = some (.cells #[.int .i64 f, .int .i64 t, .int .i64 k] 52 (0, 0)) := (hnew _ (Nat.le_refl _) (by simp)).trans (sl_at rfl)
      obtain ⟨q0, q1, q2, qf, qz⟩ := row3 hm
      obtain ⟨v, hv, hrow, hx⟩ := h.box
      have hB := h.below.size
      have hc : W7.cell? ⟨w3.heap.size, 0, none⟩ = some v := by rw [cell_of_row W7 _ 0 _ _ (0, 0) hv]; rfl
      have HX7 := Lib.hid hx
      have HV := Lib.hid hv
      have HA := Lib.hid h
      have hne : v.ownBlock ≠ some w3.heap.size := owns_off hrow hv (by decide)
      obtain ⟨hi1, hk0, hk1, hk2⟩ := HIN.out
      clear hx h hpre hsz hnew hXV hm
      generalize (pc (nxP P f.toNat t.toNat k)).toArray = N at *
      gi_wp2_with (gi_at_builtin; refine wpListIn_append_lies _ rfl _ _ 46 rfl w3.heap.size 52 i1 (.agg #[.int .i64 0, .int .i64 0, .int .i64 0]) 3 24 Tryz.underlying46 hi1 hk0 hk1 hk2 rfl (by decide) _ _ _ rfl (owns_go hrow ((Below.refl _ _).alloc (Nat.le_refl _) _)) ⟨W7.heap.size, 0, none⟩ 1 1 [.int .i64 f, .int .i64 t, .int .i64 k] rfl rfl (World.news_of_block (heap_alloc_new _ _)) (by intro y hy; simp at hy; rcases hy with rfl | rfl | rfl <;> rfl) (by decide) (by unfold maxLen; omega) (by omega) (by simp; omega) (W7.heap.size + 1) (by simp) ?_; intro g1 cap1 w1 hown1 hgrow1 hat1 hlt1; have hv1 := sl_grown (al_old hv _) hgrow1 hne; have hc1 : w1.cell? ⟨w3.heap.size, 0, none⟩ = some v := (by rw [cell_of_row w1 _ 0 _ _ (0, 0) hv1]; rfl); have hf1 := frozen_of_row w1 w3.heap.size 0 _ _ hv1)
      rw [mvals_snoc] at hown1
      replace hat1 : v.ownBlock = some g1 ∨ g1 = W7.heap.size + 1 := hat1
      replace hgrow1 : (W7.alloc (.cells #[.int .i64 f, .int .i64 t, .int .i64 k] 52)).grownBy w1 v.ownBlock := hgrow1
      have hne1 : (Value.slice (some ⟨g1, 0, none⟩) (pre.length + 1) cap1).ownBlock ≠ some w3.heap.size := owns_off hown1 hv1 (by decide)
      have hs1 : (W7.alloc (.cells #[.int .i64 f, .int .i64 t, .int .i64 k] 52)).heap.size = W7.heap.size + 1 := by simp
      refine ⟨fun k => k = w3.heap.size ∨ some g1 = some k, ?_, ?_, ?_, ?_⟩
      · have hg0 : W7.grownBy w1 v.ownBlock := ⟨hgrow1.os, hgrow1.tape, hgrow1.output, Nat.le_trans (by simp) hgrow1.size, fun k hk hn => (hgrow1.block k (by omega) hn).trans (heap_alloc_old W7 _ hk)⟩
        refine ⟨hg0.os, hg0.tape, hg0.output, by rw [World.size_setCell]; exact hg0.size, fun k hk hn => ?_⟩
        rw [Below.heap_setCell _ _ _ k (fun e => hn ((HX7.out k).2 (.inl e)))]
        exact hg0.block k hk (fun e => hn ((HX7.out k).2 (.inr e.symm)))
      · rintro k (rfl | hk)
        · exact .inl ((HX7.out _).2 (.inl rfl))
        · rcases hat1 with h1 | h1
          · exact .inl ((HX7.out _).2 (.inr (h1.trans hk)))
          · right; cases hk; omega
      · have hb1 : Below w3.heap.size w3 w1 := (HA.out.below.alloc hB _).grown hgrow1 (by omega) (fun k e => (hrow.lt k e).1)
        exact hb1.setCell (p := ⟨w3.heap.size, 0, none⟩) (Nat.le_refl _) _
      · refine ⟨_, Go.heap_setCell_same w1 w3.heap.size 0 _ _ _ hv1, ?_, fun k => Iff.rfl⟩
        rw [List.length_append]
        exact owns_same hown1 fun g hg hl => Below.heap_setCell _ _ _ g (fun e => by rw [e] at hg; exact hne1 hg)
    case done =>
      intro Y W h hK _ h2
      obtain ⟨v, hv, hrow, _⟩ := h.box
      have hc : W.cell? ⟨w3.heap.size, 0, none⟩ = some v := by rw [cell_of_row W _ 0 _ _ (0, 0) hv]; rfl
      obtain ⟨v2, hv2, hrow2, _⟩ := h2.box
      have e2 : v2 = v := by
        have h3 := (World.putObj_heap_other (w := W) (o := .deferred none) (k := w3.heap.size) (r := W4.heap.size) (Nat.ne_of_lt (al_lt HV4.out))).trans hv
        rw [h3] at hv2
        simpa using hv2.symm
      subst e2
      have HR := Lib.hid hrow2
      have HBL := Lib.hid (HB.out.trans (h2.below.mono HB.out.size))
      clear hv hrow h2 h hv2 hrow2
      go_wp2
      refine ⟨by simp, .inl ⟨_, _, rfl, run_takeDeferred hK, ?_⟩⟩
      refine ⟨_, results_tmp rfl _ _ _, v2, rfl, HBL.out, ?_⟩
      rw [HLM2.out]
      exact ⟨HR.out.1, HR.out.2.imp id fun ⟨g, cap, cur, e1, e2, e3⟩ => ⟨g, cap, cur, e1, Nat.le_trans HB.out.size e2, e3⟩⟩
    case stop =>
      intro c pre Y W _ h
      exact h.elim
end Go.Proofs.YtcdnakbdajbfoaaGreatDoor

namespace Go.Proofs.YtcdnakbdajbfoaaGreatDoor
open Go.RowKit Go.Sort
set_option linter.unusedSimpArgs false
set_option linter.unusedVariables false
set_option maxRecDepth 20000
attribute [local go_sem] Oper.semAt_some

def cntD : Nat → (Nat → Int) → Nat
  | 0, _ => 1
  | d + 1, P => ((legM P).map fun m => cntD d (nxP P m.1.toNat m.2.1.toNat m.2.2)).sum
def cntS (d : Nat) (P : Nat → Int) (l : List (Int × Int × Int)) : Nat := (l.map fun m => cntD d (nxP P m.1.toNat m.2.1.toNat m.2.2)).sum
structure ApC (d : Nat) (P : Nat → Int) (w : World) (pre : List (Int × Int × Int)) (X : Nat → Prop) (W : World) : Prop where
  below : Below w.heap.size w W
  box : W.heap[w.heap.size]? = some (.cells #[.int .i64 ((cntS d P pre : Nat) : Int)] 3 (0, 0))
  x : ∀ k, X k ↔ k = w.heap.size
theorem ApC.lt {d : Nat} {P : Nat → Int} {w : World} {pre : List (Int × Int × Int)} {X : Nat → Prop} {W : World} (h : ApC d P w pre X W) : ∀ k, X k → k < W.heap.size := by
  intro k hk
  rw [(h.x k).1 hk]
  exact al_lt h.box
theorem ApC.spare {d : Nat} {P : Nat → Int} {w : World} {pre : List (Int × Int × Int)} {X : Nat → Prop} {A B : World} {n : Nat} (h : ApC d P w pre X A) (hn : w.heap.size ≤ n) (hs : Spares n X A B) : ApC d P w pre X B :=
  ⟨h.below.trans (hs.below h.below.size hn), (hs.block _ (al_lt h.box) (.inr ((h.x _).2 rfl))).trans h.box, h.x⟩
end Go.Proofs.YtcdnakbdajbfoaaGreatDoor

namespace Go.Proofs.YtcdnakbdajbfoaaGreatDoor
open Go.RowKit Go.Sort
set_option linter.unusedSimpArgs false
set_option linter.unusedVariables false
set_option maxRecDepth 20000

end Go.Proofs.YtcdnakbdajbfoaaGreatDoor

namespace Go.Proofs.YtcdnakbdajbfoaaGreatDoor
open Go.RowKit Go.Sort
set_option linter.unusedSimpArgs false
set_option linter.unusedVariables false
set_option maxRecDepth 20000

end Go.Proofs.YtcdnakbdajbfoaaGreatDoor

namespace Go.Proofs.YtcdnakbdajbfoaaGreatDoor
open Go.RowKit Go.Sort
set_option linter.unusedSimpArgs false
set_option linter.unusedVariables false
set_option maxRecDepth 20000

set_option maxHeartbeats 2000000 in
set_option maxRecDepth 100000 in
theorem rPosition_any (P : Nat → Int) (w : World) :
    Calls Tryz.prog 42 #[.agg (pc P).toArray] w fun e w' => e = .returned (.bool (posB P)) ∧ Below w.heap.size w w' := by
  obtain ⟨X, hX⟩ : ∃ X, X = (pc P).toArray := ⟨_, rfl⟩
  rw [← hX]
  have HP := Lib.hid (pos_box P w X hX 30)
  have HB0 := Lib.hid (below_new (w := w) (.cells X 30))
  obtain ⟨rb, hrb⟩ : ∃ x, rightB P = x := ⟨_, rfl⟩
  obtain ⟨ch, hch⟩ : ∃ x, chkB P (oth (P 128)) = x := ⟨_, rfl⟩
  obtain ⟨sd, hsd⟩ : ∃ x, P 128 = x := ⟨_, rfl⟩
  obtain ⟨od, hod⟩ : ∃ x, oth sd = x := ⟨_, rfl⟩
  have HV := Lib.hid (show posB P = (rb && !ch) by unfold posB; rw [hrb, hch])
  rw [hsd, hod] at hch
  have HX := Lib.hid hX
  have C4 := Lib.hid (fun (W : World) => rRight_any P W)
  have C16 := Lib.hid (fun (W : World) => rChk_any P od W)
  rw [← hX, hrb] at C4
  rw [← hX, hch] at C16
  have HSD := Lib.hid hsd
  have HOD := Lib.hid hod
  clear hX hrb hch hsd hod
  go_enter Tryz.func42, Tryz.ntmps42
  go_upto_region 1 with (fail)
  generalize w.alloc (.cells X 30) = W0 at *
  have c4 : ∀ dd os, Calls Tryz.prog 58 #[.agg X] (grow (redrawn W0 dd) os) fun e w'' => e = .returned (.bool rb) ∧ ∃ p : Regrown, w'' = grow (redrawn W0 p.d) p.os := fun dd os => Calls.regrown_of (C4.out _)
  have c15 : ∀ dd os, Calls Tryz.prog 60 #[.int .i64 sd] (grow (redrawn W0 dd) os) fun e w'' => e = .returned (.int .i64 od) ∧ ∃ p : Regrown, w'' = grow (redrawn W0 p.d) p.os := fun dd os => by
    rw [← HOD.out]
    exact (rOther_any sd _).mono fun e w' h => ⟨h.1, ⟨⟨dd, os⟩, by rw [← h.2]⟩⟩
  have c16 : ∀ dd os, Calls Tryz.prog 59 #[.agg X, .int .i64 od] (grow (redrawn W0 dd) os) fun e w'' => e = .returned (.bool ch) ∧ ∃ p : Regrown, w'' = grow (redrawn W0 p.d) p.os := fun dd os => Calls.regrown_of (C16.out _)
  have e1 := cell_regrown (HP.out.cell 128 (by omega))
  rw [HSD.out] at e1
  have HCP := Lib.hid HP.out.regrown
  cases rb
  · refine wp_region_quiet_below (by kernel_rfl) (by kernel_rfl) ?_
    refine wpQuiet_pos (by rfl) _ (by rfl) w.heap.size P X HX.out (by rfl) HCP.out ?_
    try simp only [aP, sA, sZ, sS]
    go_big_quiet_step (exact c4 _ _)
    repeat (go_big_quiet_step (fail))
    refine wpQuiet_nil ?_
    rintro W9 ⟨pq, rfl⟩
    have HB := Lib.hid (HB0.out.trans ((below_regrown W0 pq.d pq.os).mono HB0.out.size))
    generalize grow (redrawn W0 pq.d) pq.os = W9 at HB ⊢
    go_wp2
    go_ret
    exact ⟨q_b (by rw [HV.out]; rfl), HB.out⟩
  · refine wp_region_quiet_below (by kernel_rfl) (by kernel_rfl) ?_
    refine wpQuiet_pos (by rfl) _ (by rfl) w.heap.size P X HX.out (by rfl) HCP.out ?_
    try simp only [aP, sA, sZ, sS]
    go_big_quiet_step (exact c4 _ _)
    iterate 1 (go_big_quiet_step (fail))
    refine wpQuiet_pos (by rfl) _ (by rfl) w.heap.size P X HX.out (by rfl) HCP.out ?_
    try simp only [aP, sA, sZ, sS]
    iterate 2 (go_big_quiet_step (fail))
    go_big_quiet_step (exact c15 _ _)
    go_big_quiet_step (exact c16 _ _)
    repeat (go_big_quiet_step (fail))
    refine wpQuiet_nil ?_
    rintro W9 ⟨pq, rfl⟩
    have HB := Lib.hid (HB0.out.trans ((below_regrown W0 pq.d pq.os).mono HB0.out.size))
    generalize grow (redrawn W0 pq.d) pq.os = W9 at HB ⊢
    go_wp2
    go_ret
    exact ⟨q_b (by rw [HV.out]; simp), HB.out⟩
end Go.Proofs.YtcdnakbdajbfoaaGreatDoor

namespace Go.Proofs.YtcdnakbdajbfoaaGreatDoor
open Go.RowKit Go.Sort
set_option linter.unusedSimpArgs false
set_option linter.unusedVariables false
set_option maxRecDepth 20000

set_option maxHeartbeats 2000000 in
set_option maxRecDepth 100000 in
theorem rCst10_any (P : Nat → Int) (s n : Nat) (k : Int) (hs : s < 64) (hn : n < 64) (w : World) :
    Calls Tryz.prog 73 #[.agg (pc P).toArray, .agg #[.int .i64 (s : Int), .int .i64 (n : Int), .int .i64 k]] w fun e w' => e = .returned (.bool (cstM P s n)) ∧ Below w.heap.size w w' := by
  obtain ⟨X, hX⟩ : ∃ X, X = (pc P).toArray := ⟨_, rfl⟩
  rw [← hX]
  have hP := (pos_box P w X hX 30).alloc (.cells #[.int .i64 (s : Int), .int .i64 (n : Int), .int .i64 k] 52)
  have HB0 := Lib.hid ((below_new (w := w) (.cells X 30)).alloc (by simp) (.cells #[.int .i64 (s : Int), .int .i64 (n : Int), .int .i64 k] 52))
  have HM := Lib.hid (show ((w.alloc (.cells X 30)).alloc (.cells #[.int .i64 (s : Int), .int .i64 (n : Int), .int .i64 k] 52)).heap[w.heap.size + 1]? = some (.cells #[.int .i64 (s : Int), .int .i64 (n : Int), .int .i64 k] 52 (0, 0)) from sl_at (by simp))
  have HK := Lib.hid (hP.cell (s * 2) (by omega))
  obtain ⟨kk, hkk⟩ : ∃ x, P (s * 2) = x := ⟨_, rfl⟩
  rw [hkk] at HK
  have HV := Lib.hid (show cstM P s n = ((kk == 6) && (((n : Int) == (s : Int) + 2) || ((n : Int) == (s : Int) - 2))) by unfold cstM; rw [hkk])
  clear hX hkk hP
  go_enter Tryz.func73, Tryz.ntmps73
  go_upto_region 1 with (fail)
  generalize (w.alloc (.cells X 30)).alloc (.cells #[.int .i64 (s : Int), .int .i64 (n : Int), .int .i64 k] 52) = W at *
  obtain ⟨m0, m1, m2, mf, mz⟩ := row3 HM.out
  have hk0 := HK.out
  have w1 : wrap64 ((s : Int) + 2) = (s : Int) + 2 := by unfold wrap64; omega
  have w2 : wrap64 ((s : Int) - 2) = (s : Int) - 2 := by unfold wrap64; omega
  have i0 : (0 : Int) ≤ (s : Int) := by omega
  have i1 : (s : Int) < 64 := by omega
  by_cases h6 : kk = 6
  · subst h6
    by_cases h2 : (n : Int) = (s : Int) + 2
    · have e2 : ((n : Int) == wrap64 ((s : Int) + 2)) = true := by rw [w1]; simp [h2]
      go_wp2
      go_ret
      exact ⟨q_b (by rw [HV.out]; simp [h2]), HB0.out⟩
    · have e2 : ((n : Int) == wrap64 ((s : Int) + 2)) = false := by rw [w1]; simp [h2]
      go_wp2
      go_ret
      exact ⟨q_b (by rw [HV.out]; simp [h2]), HB0.out⟩
  · have h6b : (kk == 6) = false := by simp [h6]
    go_wp2
    go_ret
    exact ⟨q_b (by rw [HV.out, h6b]; rfl), HB0.out⟩
end Go.Proofs.YtcdnakbdajbfoaaGreatDoor

namespace Go.Proofs.YtcdnakbdajbfoaaGreatDoor
open Go.RowKit Go.Sort
set_option linter.unusedSimpArgs false
set_option linter.unusedVariables false
set_option maxRecDepth 20000

def isM (F T K : Nat → Int) (f t k : Int) (i : Nat) : Bool := f == F i && t == T i && k == K i
def anyM (F T K : Nat → Int) (f t k : Int) (n : Nat) : Bool := (List.range n).any (isM F T K f t k)
end Go.Proofs.YtcdnakbdajbfoaaGreatDoor
