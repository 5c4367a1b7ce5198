/-
  Contracts: where a piece stands; small questions on pieces.
-/
import Derived.Test.YtbnpphecknhpeaaDoorBe
import Derived.Test.YtbnpphecknhpeaaDoorG3
namespace Go.Proofs.YtbnpphecknhpeaaDoor
open Go.RowKit
set_option linter.unusedSimpArgs false
set_option linter.unusedVariables false

theorem forget_B {P : Program} {c : Code} {Q : Exit → Act → World → Prop} {a : Act} {W : World} (S : World → Prop) (hS : S W) (h : ∀ W, S W → c.wp P Q a W) : c.wp P Q a W := h W hS
theorem forgetL_B {P : Program} {ops : Array Oper} {Q : Exit → Act → World → Prop} {rest : List Oper} {a : Act} {w : World} (S : World → Prop) (h : S w) (H : ∀ W, S W → wpList P ops Q rest a W) : wpList P ops Q rest a w := H w h
/-- the squares below n on which a piece stands -/
def fnd (P : Nat → Int) (k d : Int) : Nat → List Int
  | 0 => []
  | n + 1 => fnd P k d n ++ if pe (P (2 * n)) (P (2 * n + 1)) k d then [(n : Int)] else []
theorem fnd_len (P : Nat → Int) (k d : Int) (n : Nat) : (fnd P k d n).length ≤ n := by
  induction n with
  | zero => exact Nat.le_refl _
  | succ n ih => simp only [fnd, List.length_append]; split <;> simp <;> omega
theorem fnd_mem (P : Nat → Int) (k d : Int) (n : Nat) (x : Int) : x ∈ fnd P k d n ↔ ∃ j : Nat, j < n ∧ x = j ∧ P (2 * j) = k ∧ P (2 * j + 1) = d := by
  induction n with
  | zero => simp [fnd]
  | succ n ih =>
    simp only [fnd, List.mem_append, ih]
    constructor
    · rintro (⟨j, h1, h2⟩ | h)
      · exact ⟨j, by omega, h2⟩
      · split at h
        · rename_i hp
          simp at h
          exact ⟨n, by omega, h, (pe_iff _ _ _ _).1 hp⟩
        · cases h
    · rintro ⟨j, h1, h2, h3⟩
      rcases (show j < n ∨ j = n by omega) with h | rfl
      · exact .inl ⟨j, h, h2, h3⟩
      · right; rw [if_pos ((pe_iff _ _ _ _).2 h3)]; simp [h2]
theorem PB.gr {w w' : World} {b : Nat} {P : Nat → Int} {row : Option Nat} (h : PB w b P) (g : w.grownBy w' row) (hne : some b ≠ row) : PB w' b P :=
  ⟨Nat.lt_of_lt_of_le h.lt g.size, fun i hi => by rw [World.cell?_of_block (a := ⟨b, i, none⟩) (g.block b h.lt hne)]; exact h.cell i hi, fun i => by rw [World.frozen?_of_block (a := ⟨b, i, none⟩) (g.block b h.lt hne)]; exact h.fr i⟩
theorem owns_base {w : World} {B B' : Nat} {e : TypeId} {z : Nat} {v : Value} {n : Nat} {xs : List Value} (h : w.ownsRow B e z v n xs) (hB : B' ≤ B) : w.ownsRow B' e z v n xs := by
  refine ⟨h.1, ?_⟩
  rcases h.2 with h2 | ⟨g, cap, cur, h1, h2, h3⟩
  · exact .inl h2
  · exact .inr ⟨g, cap, cur, h1, Nat.le_trans hB h2, h3⟩
/-- what a function that has a position and a piece begins with -/
theorem two_boxes (P : Nat → Int) (k d : Int) (w : World) (X : Array Value) (hX : X = (pc P).toArray) (t u : TypeId) :
    PB ((w.alloc (.cells X t)).alloc (.cells #[.int .i64 k, .int .i64 d] u)) w.heap.size P ∧ ((w.alloc (.cells X t)).alloc (.cells #[.int .i64 k, .int .i64 d] u)).heap[w.heap.size + 1]? = some (.cells #[.int .i64 k, .int .i64 d] u (0, 0)) ∧
    Below w.heap.size w ((w.alloc (.cells X t)).alloc (.cells #[.int .i64 k, .int .i64 d] u)) ∧ ((w.alloc (.cells X t)).alloc (.cells #[.int .i64 k, .int .i64 d] u)).heap.size = w.heap.size + 2 := by
  subst hX
  exact ⟨(PB.new rfl).alloc _, sl_at (by simp), (below_new _).alloc (by simp) _, by simp⟩

set_option maxHeartbeats 2000000 in
set_option maxRecDepth 100000 in
theorem rFind_any (P : Nat → Int) (k d : Int) (w : World) :
    Calls Tryd.prog 33 #[.agg (pc P).toArray, .agg #[.int .i64 k, .int .i64 d]] w fun e w' => ∃ v, e = .returned v ∧ Below w.heap.size w w' ∧ w'.ownsRow w.heap.size 3 1 v (fnd P k d 64).length (ivals (fnd P k d 64)) := by
  obtain ⟨i0, hi, hz0, hz1, hz2⟩ := info_parts infoInt
  obtain ⟨X, hX⟩ : ∃ X, X = (pc P).toArray := ⟨_, rfl⟩
  have HX := Lib.hid (two_boxes P k d w X hX 29 25)
  rw [← hX]
  clear hX
  go_enter Tryd.func33, Tryd.ntmps33
  go_upto_region 2 with (fail)
  refine forget_B (fun W => PB W w.heap.size P ∧ W.heap[w.heap.size + 1]? = some (.cells #[.int .i64 k, .int .i64 d] 25 (0, 0)) ∧ Below w.heap.size w W ∧ W.heap.size = w.heap.size + 2) HX.out ?_
  clear HX
  rintro W ⟨hp, hq, hbw, hz⟩
  have HP := Lib.hid hp
  have HQ := Lib.hid hq
  have HB := Lib.hid hbw
  have HZ := Lib.hid hz
  clear hp hq hbw hz
  go_wp2
  go_loopw [5, 6] (fun v i wr => ∃ j : Nat, j ≤ 64 ∧ i = .int .i64 (j : Int) ∧ Below W.heap.size W wr ∧ wr.ownsRow W.heap.size 3 1 v (fnd P k d j).length (ivals (fnd P k d j))) (fun _ i _ => 64 - (intOf i).toNat)
  case atStart => exact ⟨0, Nat.zero_le _, rfl, Below.refl _ _, World.ownsRow_nil _ _ _ _⟩
  case round =>
    obtain ⟨j, hj, rfl, hb, hown⟩ := hrel
    by_cases hlt : j < 64
    · have hp := HP.out.go hb
      have e1 := hp.cell (j * 2) (by omega)
      have e2 := hp.cell (j * 2 + 1) (by omega)
      obtain ⟨q1, q2, qf, qz⟩ := row2 (sl_go HQ.out hb)
      obtain ⟨b, hpe⟩ : ∃ b, pe (P (2 * j)) (P (2 * j + 1)) k d = b := ⟨_, rfl⟩
      rw [Nat.mul_comm 2 j] at hpe
      have HOW := Lib.hid hown
      have HB1 := Lib.hid hb
      clear hown hb hp
      have hfl := fnd_len P k d j
      have hsx : fnd P k d (j + 1) = fnd P k d j ++ if b then [(j : Int)] else [] := by rw [← hpe, Nat.mul_comm j 2]; rfl
      obtain ⟨L, hL⟩ : ∃ L, fnd P k d j = L := ⟨_, rfl⟩
      rw [hL] at HOW hfl hsx
      have HS := Lib.hid hsx
      clear hL hsx
      cases b
      · have HS2 := Lib.hid (show fnd P k d (j + 1) = L by rw [HS.out]; simp)
        go_wp2
        go_region
        go_wp2
        go_roundw
        case rel => exact ⟨j + 1, by omega, by go_num, HB1.out.drew, by rw [HS2.out]; exact owns_go HOW.out (Below.refl _ _).drew⟩
        case measure => simp [intOf]; omega
      · have HS2 := Lib.hid (show fnd P k d (j + 1) = L ++ [(j : Int)] by rw [HS.out]; simp)
        have hm1 : L.length + 1 ≤ maxLen := by unfold maxLen; omega
        have HOD := Lib.hid (owns_go HOW.out (Below.refl _ _).drew)
        have HBD := Lib.hid HB1.out.drew
        clear HOW HB1
        go_wp2
        go_region
        go_wp2_with (at_builtin; refine wpList_append_lies _ rfl (.tmp 17) (.tmp 19) 30 rfl W.heap.size 3 i0 (.int .i64 0) 1 8 Tryd.underlying30 hi hz0 hz1 hz2 rfl (by decide) _ L.length (ivals L) rfl (owns_go HOD.out ((Below.refl _ _).alloc (Nat.le_refl _) _)) ⟨wr.heap.size, 0, none⟩ 1 1 [.int .i64 (j : Int)] rfl rfl (World.news_of_block (heap_alloc_new _ _)) ?c2 (by decide) hm1 (by omega) (by have h : W.heap.size ≤ wr.heap.size := HBD.out.size; simp; omega) (wr.heap.size + 1) (by simp) ?next)
        case c2 => intro y hy; simp at hy; subst hy; rfl
        case next =>
          intro g1 cap1 w4 hown1 hgrow1 hat1 hlt3
          rw [ivals_snoc] at hown1
          have HB4 := Lib.hid ((HBD.out.alloc HBD.out.size _).grown hgrow1 (by have h : W.heap.size ≤ wr.heap.size := HBD.out.size; simp; omega) (fun b e => (HOD.out.lt b e).1))
          have HO4 := Lib.hid hown1
          clear hgrow1 hown1 hat1 HBD HOD
          go_wp2
          go_roundw
          case rel => exact ⟨j + 1, by omega, by go_num, HB4.out, by rw [HS2.out, show (L ++ [(j : Int)]).length = L.length + 1 by simp]; exact HO4.out⟩
          case measure => simp [intOf]; omega
    · obtain rfl : j = 64 := by omega
      have HO := Lib.hid hown
      have HBK := Lib.hid hb
      clear hown hb
      go_wp2
      go_ret
      exact ⟨_, rfl, HB.out.trans (HBK.out.mono (by have := HZ.out; omega)), owns_base HO.out (by have := HZ.out; omega)⟩
end Go.Proofs.YtbnpphecknhpeaaDoor
