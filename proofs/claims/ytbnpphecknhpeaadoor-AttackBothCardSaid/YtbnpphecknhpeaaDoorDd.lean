/-
  The iterator of what a piece attacks.
-/
import Derived.Test.YtbnpphecknhpeaaDoorDc
namespace Go.Proofs.YtbnpphecknhpeaaDoor
open Go.RowKit Go.Sort
set_option linter.unusedSimpArgs false
set_option linter.unusedVariables false

def stN (i : Nat) : Int := [1, 0, -1, 0, 0, 1, 0, -1, -1, 1, 1, 1, -1, -1, 1, -1, -1, -2, 1, -2, -2, -1, 2, -1, -2, 1, 2, 1, -1, 2, 1, 2].getD i 0
def dF (i : Nat) : Int := stN (i * 2)
def dR (i : Nat) : Int := stN (i * 2 + 1)
theorem stN_small : ∀ i, i < 32 → -2 ≤ stN i ∧ stN i ≤ 2 := by decide
theorem dF_I (i : Nat) (h : i < 16) : I64 (dF i) := by have := stN_small (i * 2) (by omega); unfold I64 dF; omega
theorem dR_I (i : Nat) (h : i < 16) : I64 (dR i) := by have := stN_small (i * 2 + 1) (by omega); unfold I64 dR; omega
def rayN (i : Nat) : Nat → Int → List Int
  | 0, _ => []
  | n + 1, t => if sq t then t :: rayN i n (stp t (dF i) (dR i)) else []
/-- a square, and those on a way from it on -/
def ray (i : Nat) (t : Int) : List Int := rayN i 8 t
theorem ray_on0 : ∀ i, i < 16 → ∀ t, t < 64 → ray i ((t : Nat) : Int) = (t : Int) :: ray i (stp (t : Int) (dF i) (dR i)) := by decide +kernel
theorem ray_on (i : Nat) (hi : i < 16) (t : Int) (ht : sq t = true) : ray i t = t :: ray i (stp t (dF i) (dR i)) := by
  obtain ⟨h0, h1⟩ := (sq_iff t).1 ht
  obtain ⟨n, rfl⟩ := Int.eq_ofNat_of_zero_le h0
  exact ray_on0 i hi n (by omega)
theorem ray_off (i : Nat) (t : Int) (ht : sq t = false) : ray i t = [] := by unfold ray rayN; simp [ht]
/-- up to the first on which something stands, if it goes on at all -/
def cut (occ : Nat → Bool) (far : Bool) : List Int → List Int
  | [] => []
  | x :: r => x :: (if far && !occ x.toNat then cut occ far r else [])
/-- what is attacked on way i -/
def wayL (P : Nat → Int) (s k d : Int) (i : Nat) : List Int := cut (occB P) (gFar k d) (ray i (stp s (dF i) (dR i)))
def attUp (P : Nat → Int) (s k d : Int) (n : Nat) : List Int := (List.range n).flatMap fun i => wayL P s k d (gFrom k d + i)
/-- what a piece attacks, way by way -/
def attL (P : Nat → Int) (s k d : Int) : List Int := attUp P s k d (gTo k d - gFrom k d)
theorem attUp_succ (P : Nat → Int) (s k d : Int) (n : Nat) : attUp P s k d (n + 1) = attUp P s k d n ++ wayL P s k d (gFrom k d + n) := by
  unfold attUp; rw [List.range_succ, List.flatMap_append]; simp
theorem attUp_pre (P : Nat → Int) (s k d : Int) {n m : Nat} (h : n ≤ m) : attUp P s k d n <+: attUp P s k d m := by
  induction m with
  | zero => obtain rfl : n = 0 := by omega
            exact List.prefix_refl _
  | succ m ih =>
    rcases (show n ≤ m ∨ n = m + 1 by omega) with h1 | rfl
    · rw [attUp_succ]; exact (ih h1).trans (List.prefix_append _ _)
    · exact List.prefix_refl _
theorem rayN_sq (i : Nat) : ∀ (n : Nat) (t x : Int), x ∈ rayN i n t → sq x = true
  | 0, _, _, h => by cases h
  | n + 1, t, x, h => by
    unfold rayN at h
    split at h
    · rename_i hs
      rcases List.mem_cons.1 h with rfl | h
      · exact hs
      · exact rayN_sq i n _ x h
    · cases h
theorem cut_mem (occ : Nat → Bool) (far : Bool) : ∀ (l : List Int) (x : Int), x ∈ cut occ far l → x ∈ l
  | [], _, h => h
  | y :: r, x, h => by
    unfold cut at h
    rcases List.mem_cons.1 h with rfl | h
    · exact List.mem_cons_self ..
    · split at h
      · exact List.mem_cons_of_mem _ (cut_mem occ far r x h)
      · cases h
theorem attL_sq (P : Nat → Int) (s k d x : Int) (h : x ∈ attL P s k d) : sq x = true := by
  unfold attL attUp wayL at h
  obtain ⟨i, _, h⟩ := List.mem_flatMap.1 h
  exact rayN_sq _ _ _ _ (cut_mem _ _ _ _ h)
theorem gait_small (k d : Int) : gFrom k d ≤ gTo k d ∧ gTo k d ≤ 16 := by
  unfold gFrom gTo
  cases sideB d <;> simp
  repeat' split
  all_goals omega
/-- the steps' table -/
structure GS (B : Nat) (w : World) : Prop where
  lt : 0 < B
  cell : ∀ i, i < 32 → w.cell? ⟨0, i, none⟩ = some (.int .i64 (stN i))
theorem GS.below {B : Nat} {w w' : World} (h : GS B w) (g : Below B w w') : GS B w' :=
  ⟨h.lt, fun i hi => by rw [g.cell (p := ⟨0, i, none⟩) h.lt]; exact h.cell i hi⟩
theorem GS.mono {B B' : Nat} {w : World} (h : GS B w) (hb : B ≤ B') : GS B' w := ⟨Nat.lt_of_lt_of_le h.lt hb, h.cell⟩
theorem GS.same {B : Nat} {w w' : World} (h : GS B w) (e : w'.heap[0]? = w.heap[0]?) : GS B w' :=
  ⟨h.lt, fun i hi => by rw [World.cell?_of_block (a := ⟨0, i, none⟩) e]; exact h.cell i hi⟩
theorem PB.same {w w' : World} {b : Nat} {P : Nat → Int} (h : PB w b P) (hs : w.heap.size ≤ w'.heap.size) (e : w'.heap[b]? = w.heap[b]?) : PB w' b P :=
  ⟨Nat.lt_of_lt_of_le h.lt hs, fun i hi => by rw [World.cell?_of_block (a := ⟨b, i, none⟩) e]; exact h.cell i hi, fun i => by rw [World.frozen?_of_block (a := ⟨b, i, none⟩) e]; exact h.fr i⟩
/-- what the iterator reads -/
structure AR (b fb sb : Nat) (P : Nat → Int) (s : Int) (W : World) : Prop where
  f : W.heap[fb]? = some (.cells #[.pointer (some ⟨b, 0, none⟩)] 68 (0, 0))
  s : W.heap[sb]? = some (.cells #[.int .i64 s] 3 (0, 0))
  p : PB W b P
  t : GS W.heap.size W
/-- .. the blocks -/
def AN (b fb sb xb : Nat) (k : Nat) : Prop := k = b ∨ k = fb ∨ k = sb ∨ k = xb ∨ k = 0
theorem AR.turn {b fb sb xb : Nat} {P : Nat → Int} {s : Int} {X : Nat → Prop} {A B : World} (h : AR b fb sb P s A) (hx : ∀ k, X k → ¬ AN b fb sb xb k) (ht : Turns X A B) : AR b fb sb P s B :=
  ⟨(ht.block _ (al_lt h.f) (fun e => hx _ e (.inr (.inl rfl)))).trans h.f, (ht.block _ (al_lt h.s) (fun e => hx _ e (.inr (.inr (.inl rfl))))).trans h.s,
   h.p.same ht.size (ht.block _ h.p.lt (fun e => hx _ e (.inl rfl))), (h.t.same (ht.block _ h.t.lt (fun e => hx _ e (.inr (.inr (.inr (.inr rfl))))))).mono ht.size⟩
theorem AR.go {b fb sb : Nat} {P : Nat → Int} {s : Int} {A B : World} (h : AR b fb sb P s A) (g : Below A.heap.size A B) : AR b fb sb P s B :=
  ⟨sl_go h.f g, sl_go h.s g, h.p.go g, (h.t.below g).mono g.size⟩
theorem AR.reads (b fb sb xb : Nat) (P : Nat → Int) (s : Int) : ∀ Y A B, AR b fb sb P s A → (∀ q, Y q → ¬ AN b fb sb xb q) → Turns Y A B → AR b fb sb P s B := fun _ _ _ h hx ht => h.turn hx ht
theorem row1 {W : World} {H : Nat} {a : Value} {t : TypeId} (h : W.heap[H]? = some (.cells #[a] t (0, 0))) : W.cell? ⟨H, 0, none⟩ = some a ∧ (∀ o, W.frozen? ⟨H, o, none⟩ = false) ∧ H < W.heap.size :=
  ⟨by rw [cell_of_row W H 0 _ _ (0, 0) h]; rfl, fun o => frozen_of_row W H o _ _ h, al_lt h⟩
theorem attacked_any (b : Nat) (s k d : Int) (w : World) :
    Calls Tryd.prog 28 #[.pointer (some ⟨b, 0, none⟩), .int .i64 s, .agg #[.int .i64 k, .int .i64 d]] w fun e w' =>
      e = .returned (.func (.func 42) #[] #[.pointer (some ⟨w.heap.size + 2, 0, none⟩), .pointer (some ⟨w.heap.size + 1, 0, none⟩), .pointer (some ⟨w.heap.size, 0, none⟩)]) ∧
      w' = ((w.alloc (.cells #[.pointer (some ⟨b, 0, none⟩)] 68)).alloc (.cells #[.int .i64 s] 3)).alloc (.cells #[.int .i64 k, .int .i64 d] 25) := by
  go_enter Tryd.func28, Tryd.ntmps28
  go_wp2
  go_ret
  exact ⟨rfl, rfl⟩
end Go.Proofs.YtbnpphecknhpeaaDoor
