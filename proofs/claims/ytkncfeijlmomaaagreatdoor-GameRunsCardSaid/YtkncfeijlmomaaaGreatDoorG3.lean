/-
  Merged: SqE, SqG, SqH, Bf, Bg, Bh, Tail, Bq, Bi.
-/
import Derived.Test.YtkncfeijlmomaaaGreatDoorG2
import Derived.WideShapes
import Derived.Test.YtkncfeijlmomaaaGreatDoorProg
import Derived.WalkKit
import Derived.WalkSpells
import Derived.Deep.RegionHeld3
import Derived.Deep.MidRow
import Derived.BigQuiet

namespace Go.Proofs.YtkncfeijlmomaaaGreatDoor
open Go.RowKit
set_option linter.unusedSimpArgs false
set_option linter.unusedVariables false

end Go.Proofs.YtkncfeijlmomaaaGreatDoor

namespace Go.Proofs.YtkncfeijlmomaaaGreatDoor
open Go.RowKit
set_option linter.unusedSimpArgs false
set_option linter.unusedVariables false

end Go.Proofs.YtkncfeijlmomaaaGreatDoor

namespace Go.Proofs.YtkncfeijlmomaaaGreatDoor
open Go.RowKit
set_option linter.unusedSimpArgs false
set_option linter.unusedVariables false

/-- a row of steps: each a file's and a rank's -/
def Reads2 (B : Nat) (w : World) (p : Option Addr) (n : Nat) (f g : Nat → Int) : Prop :=
  n = 0 ∨ ∃ b off, p = some ⟨b, off, none⟩ ∧ b < B ∧ ∀ i, i < n → w.cell? ⟨b, off + i * 2, none⟩ = some (.int .i64 (f i)) ∧ w.cell? ⟨b, off + i * 2 + 1, none⟩ = some (.int .i64 (g i))
theorem Reads2.below {B : Nat} {w w' : World} {p : Option Addr} {n : Nat} {f g : Nat → Int} (h : Reads2 B w p n f g) (hb : Below B w w') : Reads2 B w' p n f g := by
  rcases h with h | ⟨b, off, h1, h2, h3⟩
  · exact .inl h
  · exact .inr ⟨b, off, h1, h2, fun i hi => ⟨(hb.cell (p := ⟨b, off + i * 2, none⟩) h2).trans (h3 i hi).1, (hb.cell (p := ⟨b, off + i * 2 + 1, none⟩) h2).trans (h3 i hi).2⟩⟩
theorem Reads2.mono {B B' : Nat} {w : World} {p : Option Addr} {n : Nat} {f g : Nat → Int} (h : Reads2 B w p n f g) (hB : B ≤ B') : Reads2 B' w p n f g := by
  rcases h with h | ⟨b, off, h1, h2, h3⟩
  · exact .inl h
  · exact .inr ⟨b, off, h1, Nat.lt_of_lt_of_le h2 hB, h3⟩
def ivals (l : List Int) : List Value := l.map fun x => .int .i64 x
theorem ivals_range (l : List Int) : ivals l = (List.range l.length).map fun i => .int .i64 (l.getD i 0) := by
  apply List.ext_getElem?
  intro i
  unfold ivals
  by_cases h : i < l.length
  · simp [h, List.getElem?_eq_getElem h]
  · rw [List.getElem?_eq_none (by simp; omega), List.getElem?_eq_none (by simp; omega)]
theorem ivals_snoc (l : List Int) (x : Int) : ivals l ++ [.int .i64 x] = ivals (l ++ [x]) := by unfold ivals; rw [List.map_append]; rfl

end Go.Proofs.YtkncfeijlmomaaaGreatDoor

namespace Go.Proofs.YtkncfeijlmomaaaGreatDoor
open Go.RowKit
set_option linter.unusedSimpArgs false
set_option linter.unusedVariables false

theorem forget_B {P : Program} {c : Code} {Q : Exit → Act → World → Prop} {a : Act} {W : World} (S : World → Prop) (hS : S W) (h : ∀ W, S W → c.wp P Q a W) : c.wp P Q a W := h W hS
theorem forgetL_B {P : Program} {ops : Array Oper} {Q : Exit → Act → World → Prop} {rest : List Oper} {a : Act} {w : World} (S : World → Prop) (h : S w) (H : ∀ W, S W → wpList P ops Q rest a W) : wpList P ops Q rest a w := H w h
/-- the squares below n on which a piece stands -/
def fnd (P : Nat → Int) (k d : Int) : Nat → List Int
  | 0 => []
  | n + 1 => fnd P k d n ++ if pe (P (2 * n)) (P (2 * n + 1)) k d then [(n : Int)] else []
theorem fnd_len (P : Nat → Int) (k d : Int) (n : Nat) : (fnd P k d n).length ≤ n := by
  induction n with
  | zero => exact Nat.le_refl _
  | succ n ih => simp only [fnd, List.length_append]; split <;> simp <;> omega
theorem fnd_mem (P : Nat → Int) (k d : Int) (n : Nat) (x : Int) : x ∈ fnd P k d n ↔ ∃ j : Nat, j < n ∧ x = j ∧ P (2 * j) = k ∧ P (2 * j + 1) = d := by
  induction n with
  | zero => simp [fnd]
  | succ n ih =>
    simp only [fnd, List.mem_append, ih]
    constructor
    · rintro (⟨j, h1, h2⟩ | h)
      · exact ⟨j, by omega, h2⟩
      · split at h
        · rename_i hp
          simp at h
          exact ⟨n, by omega, h, (pe_iff _ _ _ _).1 hp⟩
        · cases h
    · rintro ⟨j, h1, h2, h3⟩
      rcases (show j < n ∨ j = n by omega) with h | rfl
      · exact .inl ⟨j, h, h2, h3⟩
      · right; rw [if_pos ((pe_iff _ _ _ _).2 h3)]; simp [h2]
theorem PB.gr {w w' : World} {b : Nat} {P : Nat → Int} {row : Option Nat} (h : PB w b P) (g : w.grownBy w' row) (hne : some b ≠ row) : PB w' b P :=
  ⟨Nat.lt_of_lt_of_le h.lt g.size, fun i hi => by rw [World.cell?_of_block (a := ⟨b, i, none⟩) (g.block b h.lt hne)]; exact h.cell i hi, fun i => by rw [World.frozen?_of_block (a := ⟨b, i, none⟩) (g.block b h.lt hne)]; exact h.fr i⟩
theorem owns_base {w : World} {B B' : Nat} {e : TypeId} {z : Nat} {v : Value} {n : Nat} {xs : List Value} (h : w.ownsRow B e z v n xs) (hB : B' ≤ B) : w.ownsRow B' e z v n xs := by
  refine ⟨h.1, ?_⟩
  rcases h.2 with h2 | ⟨g, cap, cur, h1, h2, h3⟩
  · exact .inl h2
  · exact .inr ⟨g, cap, cur, h1, Nat.le_trans hB h2, h3⟩
/-- what a function that has a position and a piece begins with -/
theorem two_boxes (P : Nat → Int) (k d : Int) (w : World) (X : Array Value) (hX : X = (pc P).toArray) (t u : TypeId) :
    PB ((w.alloc (.cells X t)).alloc (.cells #[.int .i64 k, .int .i64 d] u)) w.heap.size P ∧ ((w.alloc (.cells X t)).alloc (.cells #[.int .i64 k, .int .i64 d] u)).heap[w.heap.size + 1]? = some (.cells #[.int .i64 k, .int .i64 d] u (0, 0)) ∧
    Below w.heap.size w ((w.alloc (.cells X t)).alloc (.cells #[.int .i64 k, .int .i64 d] u)) ∧ ((w.alloc (.cells X t)).alloc (.cells #[.int .i64 k, .int .i64 d] u)).heap.size = w.heap.size + 2 := by
  subst hX
  exact ⟨(PB.new rfl).alloc _, sl_at (by simp), (below_new _).alloc (by simp) _, by simp⟩

end Go.Proofs.YtkncfeijlmomaaaGreatDoor

namespace Go.Proofs.YtkncfeijlmomaaaGreatDoor
open Go.RowKit
set_option linter.unusedSimpArgs false
set_option linter.unusedVariables false

def sideB (d : Int) : Bool := d == 0 || d == 1
def mayB (k d : Int) : Bool := decide (1 ≤ k) && decide (k ≤ 6) && sideB d
def oth (d : Int) : Int := if d = 0 then 1 else 0
def casB (c : Int) : Bool := decide (0 ≤ c) && decide (c ≤ 15)
/-- a piece, turned: its side -/
def tSide (k d : Int) : Int := if mayB k d then oth d else d
theorem side_cases (d : Int) : (d = 0 ∧ sideB d = true) ∨ (d = 1 ∧ sideB d = true) ∨ ((d == 0) = false ∧ (d == 1) = false ∧ sideB d = false) := by
  by_cases h : d = 0
  · subst h; exact .inl ⟨rfl, rfl⟩
  · by_cases h1 : d = 1
    · subst h1; exact .inr (.inl ⟨rfl, rfl⟩)
    · exact .inr (.inr ⟨by simp [h], by simp [h1], by simp [sideB, h, h1]⟩)
theorem may_cases (k d : Int) : (k < 1 ∧ mayB k d = false) ∨ (6 < k ∧ mayB k d = false) ∨ (1 ≤ k ∧ k ≤ 6 ∧ mayB k d = sideB d) := by
  unfold mayB
  by_cases h1 : 1 ≤ k <;> by_cases h2 : k ≤ 6 <;> simp [h1, h2] <;> omega
theorem cas_cases (c : Int) : (c < 0 ∧ casB c = false) ∨ (15 < c ∧ casB c = false) ∨ (0 ≤ c ∧ c ≤ 15 ∧ casB c = true) := by
  unfold casB
  by_cases h1 : 0 ≤ c <;> by_cases h2 : c ≤ 15 <;> simp [h1, h2] <;> omega
theorem none_any (k d : Int) (w : World) :
    Calls Tryz.prog 167 #[.agg #[.int .i64 k, .int .i64 d]] w fun e w' => e = .returned (.bool (pe k d 0 0)) ∧ Below w.heap.size w w' := by
  go_enter Tryz.func167, Tryz.ntmps167
  go_wp2
  go_ret
  exact ⟨rfl, below_new _⟩
theorem isSide_any (d : Int) (w : World) :
    Calls Tryz.prog 170 #[.int .i64 d] w fun e w' => e = .returned (.bool (sideB d)) ∧ w = w' := by
  rcases side_cases d with ⟨rfl, hb⟩ | ⟨rfl, hb⟩ | ⟨h0, h1, hb⟩
  all_goals rw [hb]
  all_goals clear hb
  all_goals
    go_enter Tryz.func170, Tryz.ntmps170
    go_wp2
    go_ret
    exact ⟨rfl, rfl⟩
set_option maxHeartbeats 1000000 in
theorem mayBe_any (k d : Int) (w : World) :
    Calls Tryz.prog 168 #[.agg #[.int .i64 k, .int .i64 d]] w fun e w' => e = .returned (.bool (mayB k d)) ∧ Below w.heap.size w w' := by
  rcases may_cases k d with ⟨h1, hb⟩ | ⟨h1, hb⟩ | ⟨h1, h2, hb⟩
  · rw [hb]
    clear hb
    go_enter Tryz.func168, Tryz.ntmps168
    go_wp2
    go_ret
    exact ⟨q_b (by first | rfl | (simp; omega)), below_new _⟩
  · rw [hb]
    clear hb
    go_enter Tryz.func168, Tryz.ntmps168
    go_wp2
    go_ret
    exact ⟨q_b (by first | rfl | (simp; omega)), below_new _⟩
  · rw [hb]
    clear hb
    obtain ⟨b, hbb⟩ : ∃ b, sideB d = b := ⟨_, rfl⟩
    rw [hbb]
    have HBB := Lib.hid hbb
    clear hbb
    go_enter Tryz.func168, Tryz.ntmps168
    go_wp2_with fail
    refine (isSide_any d _).mono ?_
    rw [HBB.out]
    rintro e w1 ⟨rfl, rfl⟩
    go_wp2
    go_ret
    exact ⟨rfl, below_new _⟩
theorem other_any (d : Int) (w : World) :
    Calls Tryz.prog 96 #[.int .i64 d] w fun e w' => e = .returned (.int .i64 (oth d)) ∧ w = w' := by
  unfold oth
  by_cases h : d = 0
  · subst h
    rw [if_pos rfl]
    go_enter Tryz.func96, Tryz.ntmps96
    go_wp2
    go_ret
    exact ⟨rfl, rfl⟩
  · rw [if_neg h]
    have h0 : (d == 0) = false := by simp [h]
    clear h
    go_enter Tryz.func96, Tryz.ntmps96
    go_wp2
    go_ret
    exact ⟨rfl, rfl⟩
theorem isCastle_any (c : Int) (w : World) :
    Calls Tryz.prog 171 #[.int .i64 c] w fun e w' => e = .returned (.bool (casB c)) ∧ w = w' := by
  rcases cas_cases c with ⟨h1, hb⟩ | ⟨h1, hb⟩ | ⟨h1, h2, hb⟩
  all_goals rw [hb]
  all_goals clear hb
  all_goals
    go_enter Tryz.func171, Tryz.ntmps171
    go_wp2
    go_ret
    exact ⟨q_b (by first | rfl | (simp; omega)), rfl⟩
theorem onEnd_any (s : Int) (w : World) :
    Calls Tryz.prog 169 #[.int .i64 s] w fun e w' => e = .returned (.bool (sR s == 0 || sR s == 7)) ∧ Below w.heap.size w w' := by
  obtain ⟨r, hr⟩ : ∃ r, sR s = r := ⟨_, rfl⟩
  have HR := Lib.hid hr
  rw [hr]
  clear hr
  by_cases h0 : r = 0
  · subst h0
    go_enter Tryz.func169, Tryz.ntmps169
    go_wp2_with fail
    refine (rank_any s _).mono ?_
    rw [HR.out]
    rintro e w1 ⟨rfl, hb1⟩
    have HB := Lib.hid hb1
    clear hb1
    go_wp2
    go_ret
    exact ⟨rfl, HB.out⟩
  · have h1 : (r == 0) = false := by simp [h0]
    have h2 : (r == 0 || r == 7) = (r == 7) := by rw [h1]; rfl
    rw [h2]
    clear h0 h2
    go_enter Tryz.func169, Tryz.ntmps169
    go_wp2_with fail
    refine (rank_any s _).mono ?_
    rw [HR.out]
    rintro e w1 ⟨rfl, hb1⟩
    have HB := Lib.hid hb1
    clear hb1
    go_wp2
    go_ret
    exact ⟨rfl, HB.out⟩
end Go.Proofs.YtkncfeijlmomaaaGreatDoor

namespace Go.Proofs.YtkncfeijlmomaaaGreatDoor
open Go.RowKit
set_option linter.unusedSimpArgs false
set_option linter.unusedVariables false

set_option maxHeartbeats 2000000 in
set_option maxRecDepth 100000 in
theorem find_any (P : Nat → Int) (k d : Int) (w : World) :
    Calls Tryz.prog 125 #[.agg (pc P).toArray, .agg #[.int .i64 k, .int .i64 d]] w fun e w' => ∃ v, e = .returned v ∧ Below w.heap.size w w' ∧ w'.ownsRow w.heap.size 3 1 v (fnd P k d 64).length (ivals (fnd P k d 64)) := by
  obtain ⟨i0, hi, hz0, hz1, hz2⟩ := info_parts infoInt
  obtain ⟨X, hX⟩ : ∃ X, X = (pc P).toArray := ⟨_, rfl⟩
  have HX := Lib.hid (two_boxes P k d w X hX 29 25)
  rw [← hX]
  clear hX
  go_enter Tryz.func125, Tryz.ntmps125
  go_upto_region 2 with (fail)
  refine forget_B (fun W => PB W w.heap.size P ∧ W.heap[w.heap.size + 1]? = some (.cells #[.int .i64 k, .int .i64 d] 25 (0, 0)) ∧ Below w.heap.size w W ∧ W.heap.size = w.heap.size + 2) HX.out ?_
  clear HX
  rintro W ⟨hp, hq, hbw, hz⟩
  have HP := Lib.hid hp
  have HQ := Lib.hid hq
  have HB := Lib.hid hbw
  have HZ := Lib.hid hz
  clear hp hq hbw hz
  have hix : ∀ (j : Nat) (hj : j < 64) (W : World), (Instr.index 26 (.agg (nums P 0 128).toArray) (.int .i64 (j : Int))).run Tryz.prog W = .ok (.agg #[.int .i64 (P (j * 2)), .int .i64 (P (j * 2 + 1))]) W := fun j hj W => by
    rw [Nat.mul_comm]; exact index_sqs P j hj W
  refine wp_region_lit ?_
  refine wpList_plain rfl (fun K hK => ?_)
  go_simp
  refine hK _ _ ?_
  clear hK K
  refine wpList_load_mid rfl 26 _ rfl w.heap.size 0 rfl (nums P 0 128) _ HP.out.squares Tryz.underlying26 rfl (by rw [infoSqs, nums_len]) ?_
  generalize (nums P 0 128).toArray = Y at hix ⊢
  have HIX := Lib.hid hix
  clear hix
  go_wp2
  go_loopw [5, 10] (fun v i wr => ∃ j : Nat, j ≤ 64 ∧ i = .int .i64 (j : Int) ∧ Below W.heap.size W wr ∧ wr.ownsRow W.heap.size 3 1 v (fnd P k d j).length (ivals (fnd P k d j))) (fun _ i _ => 64 - (intOf i).toNat)
  case atStart => exact ⟨0, Nat.zero_le _, rfl, Below.refl _ _, World.ownsRow_nil _ _ _ _⟩
  case round =>
    obtain ⟨j, hj, rfl, hb, hown⟩ := hrel
    by_cases hlt : j < 64
    · have hix := HIX.out j hlt
      obtain ⟨q1, q2, qf, qz⟩ := row2 (sl_go HQ.out hb)
      obtain ⟨b, hpe⟩ : ∃ b, pe (P (2 * j)) (P (2 * j + 1)) k d = b := ⟨_, rfl⟩
      rw [Nat.mul_comm 2 j] at hpe
      have HOW := Lib.hid hown
      have HB1 := Lib.hid hb
      clear hown hb
      have hfl := fnd_len P k d j
      have hsx : fnd P k d (j + 1) = fnd P k d j ++ if b then [(j : Int)] else [] := by rw [← hpe, Nat.mul_comm j 2]; rfl
      obtain ⟨L, hL⟩ : ∃ L, fnd P k d j = L := ⟨_, rfl⟩
      rw [hL] at HOW hfl hsx
      have HS := Lib.hid hsx
      clear hL hsx
      have hal := fun (o : Obj) => HB1.out.alloc HB1.out.size o
      have hoal := fun (o : Obj) => owns_go HOW.out ((Below.refl _ _).alloc (Nat.le_refl _) o)
      have HAL := Lib.hid hal
      have HOA := Lib.hid hoal
      clear hal hoal HB1 HOW
      cases b
      · have HS2 := Lib.hid (show fnd P k d (j + 1) = L by rw [HS.out]; simp)
        go_wp2
        go_roundw
        case rel => exact ⟨j + 1, by omega, by go_num, HAL.out _, by rw [HS2.out]; exact HOA.out _⟩
        case measure => simp [intOf]; omega
      · have HS2 := Lib.hid (show fnd P k d (j + 1) = L ++ [(j : Int)] by rw [HS.out]; simp)
        have hm1 : L.length + 1 ≤ maxLen := by unfold maxLen; omega
        go_upto_region 6 with (fail)
        refine forget_B (fun W' => Below W.heap.size W W' ∧ W'.ownsRow W.heap.size 3 1 u5 L.length (ivals L)) ⟨HAL.out _, HOA.out _⟩ ?_
        clear HAL HOA q1 q2 qf qz hix hpe
        rintro wr ⟨hbd, hod⟩
        have HBD := Lib.hid hbd
        have HOD := Lib.hid hod
        clear hbd hod
        go_wp2_with (at_builtin; refine wpList_append_lies _ rfl (.tmp 17) (.tmp 19) 63 rfl W.heap.size 3 i0 (.int .i64 0) 1 8 Tryz.underlying63 hi hz0 hz1 hz2 rfl (by decide) _ L.length (ivals L) rfl (owns_go HOD.out ((Below.refl _ _).alloc (Nat.le_refl _) _)) ⟨wr.heap.size, 0, none⟩ 1 1 [.int .i64 (j : Int)] rfl rfl (World.news_of_block (heap_alloc_new _ _)) ?c2 (by decide) hm1 (by omega) (by have h : W.heap.size ≤ wr.heap.size := HBD.out.size; simp; omega) (wr.heap.size + 1) (by simp) ?next)
        case c2 => first | rfl | (intro y hy; simp at hy; subst hy; rfl)
        case next =>
          intro g1 cap1 w4 hown1 hgrow1 hat1 hlt3
          rw [ivals_snoc] at hown1
          have HB4 := Lib.hid ((HBD.out.alloc HBD.out.size _).grown hgrow1 (by have h : W.heap.size ≤ wr.heap.size := HBD.out.size; simp; omega) (fun b e => (HOD.out.lt b e).1))
          have HO4 := Lib.hid hown1
          clear hgrow1 hown1 hat1 HBD HOD
          go_wp2
          go_roundw
          case rel => exact ⟨j + 1, by omega, by go_num, HB4.out, by rw [HS2.out, show (L ++ [(j : Int)]).length = L.length + 1 by simp]; exact HO4.out⟩
          case measure => simp [intOf]; omega
    · obtain rfl : j = 64 := by omega
      have HO := Lib.hid hown
      have HBK := Lib.hid hb
      clear hown hb
      go_wp2
      go_ret
      exact ⟨_, rfl, HB.out.trans (HBK.out.mono (by have := HZ.out; omega)), owns_base HO.out (by have := HZ.out; omega)⟩
end Go.Proofs.YtkncfeijlmomaaaGreatDoor

namespace Go.Proofs.YtkncfeijlmomaaaGreatDoor
open Go.RowKit
set_option linter.unusedSimpArgs false
set_option linter.unusedVariables false
section
variable {P : Program} {ops : Array Oper} {Q Q' : Exit → Act → World → Prop} {md : Region.Mode}

/-- t waits for all others: each other one is waited for by a later one; all wait for earlier ones -/
def lastOk (md : Region.Mode) (ops : Array Oper) (t : Nat) : Bool :=
  (List.range ops.size).all fun j =>
    (((ops[j]?).map fun o => o.after.all fun e => !Region.binds md e || decide (e.on < j)).getD false) &&
    (j == t || (List.range ops.size).any fun s => decide (j < s) && ((ops[s]?).map fun o => o.after.any fun e => Region.binds md e && e.on == j).getD false)
/-- nothing is listed ahead of what it waits for -/
def Closed (md : Region.Mode) (ops : Array Oper) (t : Nat) (listed : Array Bool) : Prop :=
  ∀ j o, ops[j]? = some o → j ≠ t → listed.getD j true = true → ∀ e ∈ o.after, Region.binds md e = true → listed.getD e.on false = true
theorem getD_both {listed : Array Bool} {i : Nat} (h : i < listed.size) (a b : Bool) : listed.getD i a = listed.getD i b := by
  simp [Array.getD, h]
theorem upon_panics (hp : ∀ c a w, Q' (.panic c) a w → Q (.panic c) a w) (ho : ∀ a w, Q' .outgrown a w → Q .outgrown a w) {o : Oper} {a : Act} {K : Act → World → Prop} {r : Result Next}
    (h : o.upon P a K Q' r) : o.upon P a K Q r := by
  cases r with
  | ok n w' =>
    cases n <;> simp only [Oper.upon] at h ⊢
    case value u => exact h
    case skip => exact h
    case defer d => exact h
    case enter f args =>
      refine Calls.mono h fun e w'' he => ?_
      cases e with
      | returned u => exact he
      | panicked c => exact hp _ _ _ he
      | outgrown => exact let ⟨a, w, q⟩ := he; ⟨a, w, ho _ _ q⟩
    case row row args => exact h
  | halt x w' =>
    cases x <;> simp only [Oper.upon] at h ⊢
    case panic u => exact hp _ _ _ h
theorem wpOp_panics (hp : ∀ c a w, Q' (.panic c) a w → Q (.panic c) a w) (ho : ∀ a w, Q' .outgrown a w → Q .outgrown a w) {i : Nat} {a : Act} {w : World} {K : Act → World → Prop}
    (h : wpOp P ops Q' i K a w) : wpOp P ops Q i K a w := by
  unfold wpOp at *
  split
  · simp_all
  · rename_i o hoi
    simp only [hoi] at h
    split
    · rename_i hw
      simp only [hw, if_true] at h
      rcases h with h | ⟨h1, a1, w1, h2⟩
      · exact .inl (upon_panics hp ho h)
      · exact .inr ⟨h1, a1, w1, ho _ _ h2⟩
    · rename_i hw
      simp only [hw] at h
      exact h
/-- where t is at hand, nothing else is left -/
theorem last_all {t : Nat} {listed : Array Bool} (hk : lastOk md ops t = true) (hs : listed.size = ops.size) (hc : Closed md ops t listed) (ht : t ∈ Region.ready md ops listed) :
    ∀ d j, ops.size - j ≤ d → j < ops.size → j ≠ t → listed.getD j true = true := by
  obtain ⟨_, ot, hot, hall⟩ := mem_ready.1 ht
  intro d
  induction d with
  | zero => intro j h1 h2; omega
  | succ d ih =>
    intro j h1 h2 hne
    have h := (List.all_eq_true.1 hk) j (List.mem_range.2 h2)
    simp only [Bool.and_eq_true, Bool.or_eq_true, beq_iff_eq] at h
    rcases h.2 with h3 | h3
    · exact absurd h3 hne
    obtain ⟨s, hsr, hs2⟩ := List.any_eq_true.1 h3
    simp only [Bool.and_eq_true, decide_eq_true_eq] at hs2
    obtain ⟨hjs, hs3⟩ := hs2
    have hslt := List.mem_range.1 hsr
    obtain ⟨o, ho⟩ : ∃ o, ops[s]? = some o := ⟨_, Array.getElem?_eq_getElem hslt⟩
    rw [ho] at hs3
    simp only [Option.map_some, Option.getD_some, Array.any_eq_true] at hs3
    obtain ⟨e, he, hb⟩ : ∃ e, e ∈ o.after ∧ (Region.binds md e && e.on == j) = true := let ⟨q, hq, hb⟩ := hs3; ⟨_, Array.getElem_mem hq, hb⟩
    simp only [Bool.and_eq_true, beq_iff_eq] at hb
    rw [getD_both (by omega) true false]
    by_cases hst : s = t
    · subst hst
      rw [hot] at ho
      cases ho
      rw [← hb.2]; exact hall e he hb.1
    · rw [← hb.2]
      exact hc s o ho hst (ih s (by omega) hslt hst) e he hb.1
theorem wpAny_last {t : Nat} (hp : ∀ c a w, Q' (.panic c) a w → Q (.panic c) a w) (ho : ∀ a w, Q' .outgrown a w → Q .outgrown a w) (hn : ∀ a w, Q' .normal a w → wpOp P ops Q t (Q .normal) a w)
    (hk : lastOk md ops t = true) (htl : t < ops.size) : ∀ (fuel : Nat) (listed : Array Bool) (a : Act) (w : World),
    listed.size = ops.size → Closed md ops t listed → listed.getD t true = false → wpAny P md ops Q' fuel (listed.setIfInBounds t true) a w → wpAny P md ops Q (fuel + 1) listed a w := by
  intro fuel
  have hready : ∀ listed : Array Bool, listed.size = ops.size → listed.getD t true = false → Region.ready md ops listed ≠ [] := by
    intro listed hs hf h0
    -- the least that is not listed is ready
    have : ∀ n, ∀ j, j < n → j < ops.size → listed.getD j true = true := by
      intro n
      induction n with
      | zero => intro j hj; omega
      | succ n ih =>
        intro j hj hjs
        by_cases hjn : j < n
        · exact ih j hjn hjs
        · have : j = n := by omega
          subst this
          cases hl : listed.getD j true with
          | true => rfl
          | false =>
            exfalso
            obtain ⟨o, hoj⟩ : ∃ o, ops[j]? = some o := ⟨_, Array.getElem?_eq_getElem hjs⟩
            have hm : j ∈ Region.ready md ops listed := by
              rw [mem_ready]
              refine ⟨hl, o, hoj, fun e he hb => ?_⟩
              have h := (List.all_eq_true.1 hk) j (List.mem_range.2 hjs)
              simp only [Bool.and_eq_true] at h
              have h1 := h.1
              rw [hoj] at h1
              simp only [Option.map_some, Option.getD_some, Array.all_eq_true_iff_forall_mem, Bool.or_eq_true, Bool.not_eq_true', decide_eq_true_eq] at h1
              have h2 := h1 e he
              have h3 : e.on < j := by
                rcases h2 with h2 | h2
                · rw [hb] at h2; cases h2
                · exact h2
              rw [← getD_both (by omega) true false]
              exact ih e.on h3 (by omega)
            rw [h0] at hm
            cases hm
    rw [this ops.size t htl htl] at hf
    cases hf
  have hdone : ∀ listed : Array Bool, listed.size = ops.size → Closed md ops t listed → t ∈ Region.ready md ops listed → Region.ready md ops (listed.setIfInBounds t true) = [] := by
    intro listed hs hc ht
    apply List.eq_nil_iff_forall_not_mem.2
    intro j hj
    obtain ⟨h1, o, ho, _⟩ := mem_ready.1 hj
    have hjs : j < ops.size := (Array.getElem?_eq_some_iff.1 ho).1
    by_cases e : j = t
    · subst e
      simp [hs, hjs] at h1
    · rw [getD_set_ne true (Ne.symm e), last_all hk hs hc ht _ j (Nat.le_refl _) hjs e] at h1
      cases h1
  induction fuel with
  | zero =>
    intro listed a w hs hc hf H
    refine ⟨fun h => absurd h (hready listed hs hf), fun i hi => ?_⟩
    by_cases e : i = t
    · subst e
      exact wpOp_mono (fun a w h => wpAny_done (hdone listed hs hc hi) h 0) (hn _ _ H.2)
    · have := ready_mono hi e
      rw [H.1] at this
      cases this
  | succ fuel ih =>
    intro listed a w hs hc hf H
    refine ⟨fun h => absurd h (hready listed hs hf), fun i hi => ?_⟩
    by_cases e : i = t
    · subst e
      exact wpOp_mono (fun a w h => wpAny_done (hdone listed hs hc hi) h _) (hn _ _ (H.1 (hdone listed hs hc hi)))
    · have h1 := H.2 i (ready_mono hi e)
      have hil := (mem_ready.1 hi)
      refine wpOp_panics hp ho (wpOp_mono (fun a' w' h3 => ih (listed.setIfInBounds i true) a' w' (by simpa using hs) ?_ ?_ ?_) h1)
      · intro j o hoj hjt hlj e2 he2 hb2
        by_cases hji : j = i
        · subst hji
          obtain ⟨_, o', ho', hall⟩ := hil
          rw [hoj] at ho'
          cases ho'
          exact getD_set_true (hall e2 he2 hb2)
        · rw [getD_set_ne true (Ne.symm hji)] at hlj
          exact getD_set_true (hc j o hoj hjt hlj e2 he2 hb2)
      · rw [getD_set_ne true e]; exact hf
      · rw [Array.setIfInBounds_comm _ _ e]; exact h3
/-- what stands behind the others: the store -/
def Behind (P : Program) (ops : Array Oper) (t : Nat) (Q : Exit → Act → World → Prop) : Exit → Act → World → Prop
  | .normal, a, w => wpOp P ops Q t (Q .normal) a w
  | e, a, w => Q e a w
theorem wp_region_last {S : World → Prop} {id n : Nat} {a : Act} {w : World} (t : Nat) (hm : P.follows .mixedOrders = true) (hsz : ops.size = n + 1) (hk : lastOk .any ops t = true) (htl : t < ops.size) (hS : S w.drew)
    (h : S w.drew → wpAnyH P .any ops (Behind P ops t Q) S n ((Array.replicate (n + 1) false).setIfInBounds t true) a w.drew) : (Code.region id ops true).wp P Q a w := by
  refine wp_region_any hm ?_
  rw [hsz]
  refine wpAny_last (Q := Q) (Q' := Behind P ops t Q) (fun _ _ _ h => h) (fun _ _ h => h) (fun _ _ h => h) hk htl n _ a w.drew (by simp [hsz]) ?_ (by have h2 := htl; rw [hsz] at h2; simp [h2]) (wpAny_of_held _ _ _ _ (h hS))
  · intro j o hoj hjt hl
    have : j < n + 1 := by rw [← hsz]; exact (Array.getElem?_eq_some_iff.1 hoj).1
    simp [this] at hl
theorem results_cell_mid {fn : Func} {p : Tmp} {ty : TypeId} (h : fn.results = #[.cell p ty]) (tmps : Array Value) (w : World) (g : Nat) (cs : List Value) (d : TypeDesc)
    (hp : tmps.getD p undef = .pointer (some ⟨g, 0, none⟩)) (hc : w.rangeAt g 0 cs) (hu : P.underlying ty = some d) (hd : d.isRow = true) (hi : (P.info? ty).map (·.size) = some cs.length) :
    (results fn tmps).run P w = .ok (.agg cs.toArray) w := by
  have hp' : tmps[p]?.getD undef = .pointer (some ⟨g, 0, none⟩) := by simpa using hp
  simp [results, h, hp', asAddr, run_loadVar_mid w g 0 ty cs d hc hu hd hi]
theorem behind_go {t : Nat} {a : Act} {w : World} {o : Oper} (ho : ops[t]? = some o) (hw : Region.wanted o (yielded ops a.tmps) = true) (h : o.wp P a w (Q .normal) Q) : Behind P ops t Q .normal a w := by
  show wpOp P ops Q t (Q .normal) a w
  unfold wpOp; simp only [ho, hw, if_true]; exact .inl h
end
end Go.Proofs.YtkncfeijlmomaaaGreatDoor

namespace Go.Proofs.YtkncfeijlmomaaaGreatDoor
open Go.RowKit Go.Sort
set_option linter.unusedSimpArgs false
set_option linter.unusedVariables false
section
variable {P : Program} {ops : Array Oper} {C : World → Prop} {Q : Act → Prop} {md : Region.Mode}

/-- a whole row is loaded in a walk of the text's order -/
theorem wpQuiet_rows {rest : List Oper} {o : Oper} {a : Act} {b : Nat} {ty : TypeId} {x : Operand} {cs : List Value} {d : TypeDesc} (hc : ∀ W, C W → W.rangeAt b 0 cs) (hu : P.underlying ty = some d) (hd : d.isRow = true)
    (hi : (P.info? ty).map (·.size) = some cs.length) (hw : Region.wanted o (yielded ops a.tmps) = true) (ho : o.op = .load ty x) (hx : a.eval x = .pointer (some ⟨b, 0, none⟩))
    (h : wpQuiet P ops C Q rest (a.put o.dst (.agg cs.toArray))) : wpQuiet P ops C Q (o :: rest) a :=
  BigFrame.wpQuiet_want hw fun K hK => ⟨.agg cs.toArray, fun W hW => by
    unfold Oper.quietAt execOp
    simp only [ho, hx, Instr.loadAt, Instr.sureAddr, Sem.run_bind, Sem.run_pure, Result.andThen_ok, run_loadVar_mid W b 0 ty cs d (hc W hW) hu hd hi]
    exact ⟨rfl, rfl⟩, hK _ h⟩
theorem wpQuiet_mono_B {Q Q' : Act → Prop} (h : ∀ a, Q a → Q' a) : ∀ (l : List Oper) (a : Act), wpQuiet P ops C Q l a → wpQuiet P ops C Q' l a
  | [], a, hh => h a hh
  | o :: l, a, hh => by
    unfold wpQuiet at hh ⊢
    split at hh
    · rename_i hw; rw [if_pos hw]; exact Oper.quiet_mono (wpQuiet_mono_B h l) hh
    · rename_i hw; rw [if_neg hw]; exact wpQuiet_mono_B h l _ hh
theorem wpAnyQ_lexB {Q : Act → Prop} (hs : Region.noSelect ops = true) : ∀ (l : List Oper) (k : Nat) (listed : Array Bool) (a : Act), (∀ j, j < l.length → l[j]? = ops[k + j]?) →
    Region.lexFrom md ops l.length k listed = true → wpQuiet P ops C Q l a → wpAnyQ P md ops C Q l.length listed a
  | [], _, _, _, _, hB, h => ⟨by simpa [Region.lexFrom] using hB, h⟩
  | o :: l, k, listed, a, hl, hB, h => by
    have h0 : ops[k]? = some o := by simpa using (hl 0 (by simp)).symm
    simp only [List.length_cons, Region.lexFrom, Bool.and_eq_true] at hB
    obtain ⟨⟨hr, hf⟩, hB'⟩ := hB
    have hst : qOp P ops C k (wpQuiet P ops C Q l) a := by unfold qOp; simp only [h0]; exact h
    obtain ⟨v, hy, hK⟩ := yieldsIn_of_qOp h0 hst
    exact wpAnyQ_first h0 (Region.noSelect_spec hs) l.length listed a (Region.free_spec h0 hf) (by simpa using hr) hy
      (wpAnyQ_lexB hs l (k + 1) _ _ (fun j hj => by have := hl (j + 1) (by simpa using hj); simpa [Nat.add_assoc, Nat.add_comm 1 j] using this) hB' hK)
/-- may all but the last be walked in the text's order -/
def lexLast (n : Nat) (ops : Array Oper) : Bool := Region.noSelect ops && Region.lexFrom .any ops n 0 ((Array.replicate (n + 1) false).setIfInBounds n true)
theorem wp_region_quiet_last {id n : Nat} {Q : Exit → Act → World → Prop} {a : Act} {w : World} {l : List Oper} {o : Oper} (hm : P.follows .mixedOrders = true) (hln : l.length = n) (hk : lastOk .any (l ++ [o]).toArray n = true) (hB : lexLast n (l ++ [o]).toArray = true) (hC : C w.drew)
    (h : wpQuiet P (l ++ [o]).toArray C (fun a' => ∀ w', C w' → Behind P (l ++ [o]).toArray n Q .normal a' w') l a) : (Code.region id (l ++ [o]).toArray true).wp P Q a w := by
  subst hln
  unfold lexLast at hB
  simp only [Bool.and_eq_true] at hB
  refine wp_region_any hm ?_
  rw [show (l ++ [o]).toArray.size = l.length + 1 by simp]
  refine wpAny_last (Q := Q) (Q' := Behind P (l ++ [o]).toArray l.length Q) (fun _ _ _ h => h) (fun _ _ h => h) (fun _ _ h => h) hk (by simp) l.length _ a w.drew (by simp) ?_ (by simp)
    (wpAny_of_quiet (Q := fun a' => ∀ w', C w' → Behind P (l ++ [o]).toArray l.length Q .normal a' w') (fun _ w' hw' h => h w' hw') _ _ _ _ hC ?_)
  · intro j o' hoj hjt hl
    have : j < l.length + 1 := by have := (Array.getElem?_eq_some_iff.1 hoj).1; simpa using this
    simp [this] at hl
  · exact wpAnyQ_lexB hB.1 l 0 _ a (fun j hj => by rw [List.getElem?_toArray, Nat.zero_add, List.getElem?_append_left hj]) hB.2 h
/-- .. the store's own walk at the end -/
theorem wp_region_quiet_store {id : Nat} {Q : Exit → Act → World → Prop} {a : Act} {w : World} {L : List Oper} {o : Oper} (n : Nat) (hm : P.follows .mixedOrders = true) (hn : L.length = n + 1) (ho : L[n]? = some o) (hk : lastOk .any L.toArray n = true) (hB : lexLast n L.toArray = true) (hC : C w.drew)
    (h : wpQuiet P L.toArray C (fun a' => ∀ w', C w' → Region.wanted o (yielded L.toArray a'.tmps) = true ∧ o.wp P a' w' (Q .normal) Q) (L.take n) a) : (Code.region id L.toArray true).wp P Q a w := by
  have hL : L = L.take n ++ [o] := by
    have h1 := List.take_append_drop n L
    have h2 : L.drop n = [o] := by
      have hlt : n < L.length := by omega
      rw [List.drop_eq_getElem_cons hlt, List.drop_eq_nil_of_le (by omega)]
      rw [List.getElem?_eq_getElem hlt] at ho
      rw [Option.some.inj ho]
    rw [h2] at h1
    exact h1.symm
  generalize hl : L.take n = l at hL h
  subst hL
  have hlen : l.length = n := by simp at hn; exact hn
  refine wp_region_quiet_last hm hlen hk hB hC ?_
  refine wpQuiet_mono_B (fun a' h' w' hw' => ?_) l a h
  obtain ⟨h1, h2⟩ := h' w' hw'
  exact behind_go (by rw [List.getElem?_toArray]; exact ho) h1 h2
end
/-- a callee's contract, in a world behind others -/
theorem regrown_call {P : Program} {f : FuncId} {args : Array Value} {w : World} {v : Value}
    (h : ∀ W, Calls P f args W fun e w' => e = .returned v ∧ Below W.heap.size W w') (d : Nat) (os : Array Obj) : Calls P f args (grow (redrawn w d) os) fun e w'' => e = .returned v ∧ ∃ p : Regrown, w'' = grow (redrawn w p.d) p.os :=
  Calls.regrown_of (h _)
theorem regrown_same {P : Program} {f : FuncId} {args : Array Value} {w : World} {v : Value}
    (h : ∀ W, Calls P f args W fun e w' => e = .returned v ∧ W = w') (d : Nat) (os : Array Obj) : Calls P f args (grow (redrawn w d) os) fun e w'' => e = .returned v ∧ ∃ p : Regrown, w'' = grow (redrawn w p.d) p.os :=
  (h _).mono fun _ _ ⟨he, hb⟩ => ⟨he, ⟨d, os⟩, hb.symm⟩
theorem regrown_self (w : World) : ∃ p : Regrown, w.drew = grow (redrawn w p.d) p.os := ⟨⟨w.drawn + 1, #[]⟩, by rw [grow_empty]; rfl⟩
theorem PB.regrown {w : World} {b : Nat} {P : Nat → Int} (h : PB w b P) : ∀ W, (∃ p : Regrown, W = grow (redrawn w p.d) p.os) → PB W b P := by
  rintro W ⟨p, rfl⟩
  exact h.go (below_regrown w p.d p.os)
end Go.Proofs.YtkncfeijlmomaaaGreatDoor

namespace Go.Proofs.YtkncfeijlmomaaaGreatDoor
open Go.RowKit Go.Sort
set_option linter.unusedSimpArgs false
set_option linter.unusedVariables false

theorem two_at (w : World) (o1 o2 : Obj) : ((w.alloc o1).alloc o2).heap[w.heap.size]? = some o1 ∧ ((w.alloc o1).alloc o2).heap[w.heap.size + 1]? = some o2 ∧
    Below w.heap.size w ((w.alloc o1).alloc o2) ∧ ((w.alloc o1).alloc o2).heap.size = w.heap.size + 2 :=
  ⟨sl_go (sl_at rfl) (below_new _), sl_at (by simp), (below_new _).alloc (by simp) _, by simp⟩
/-- the square across -/
def mir (s : Nat) : Nat := 8 * (7 - s / 8) + s % 8
/-- the end of a body, without a walk (which would open the result's cells) -/
theorem ret_go {P : Program} {K : Act → World → Prop} {Q Q' : Exit → Act → World → Prop} {a : Act} {w : World} (h : ∀ a w, Code.ret.wp P Q a w → K a w) (hq : Q .ret a w) : Exit.then K Q' .normal a w := h _ _ (wp_ret hq)
theorem then_ret {K : Act → World → Prop} {Q : Exit → Act → World → Prop} {a : Act} {w : World} (h : Q .ret a w) : Exit.then K Q .ret a w := h
theorem block_ret {i : Nat} {Q : Exit → Act → World → Prop} {a : Act} {w : World} (h : Q .ret a w) : Exit.inBlock i Q .ret a w := h
theorem zeroPos : Tryz.zeroCells29 = (pc fun _ => 0).toArray := by kernel_rfl
/-- a position is loaded, and laid into a block of its own -/
theorem PB.other {w : World} {b c : Nat} {P : Nat → Int} (h : PB w b P) (hne : b ≠ c) (i : Nat) (v : Value) : PB (w.setCell ⟨c, i, none⟩ v) b P :=
  h.gr (gr1_B v) (by intro e; injection e with e; exact hne e)
theorem PB.others {w : World} {b c : Nat} {P : Nat → Int} (h : PB w b P) (hne : b ≠ c) (o : Nat) (vs : List Value) : PB (w.setCells c o vs) b P :=
  h.gr (grs_B vs o w) (by intro e; injection e with e; exact hne e)

end Go.Proofs.YtkncfeijlmomaaaGreatDoor
