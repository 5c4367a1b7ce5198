/-
  Rows of moves that are copied; rows of moves as lists.
-/
import Derived.Test.YthinkiljhkanhaaGreatDoorG26
import Derived.Test.YthinkiljhkanhaaGreatDoorRy
import Derived.Test.YthinkiljhkanhaaGreatDoorUo
import Derived.Laws.OwnMore
import Derived.Lib.AppendZeros
namespace Go.Proofs.YthinkiljhkanhaaGreatDoor
open Go.RowKit Go.Sort
set_option linter.unusedSimpArgs false
set_option linter.unusedVariables false
set_option maxRecDepth 20000

/-- the cells of a row of moves -/
def mc3 (F T G : Nat → Int) (j : Nat) : Value := .int .i64 (if j % 3 = 0 then F (j / 3) else if j % 3 = 1 then T (j / 3) else G (j / 3))
theorem mc3_0 (F T G : Nat → Int) (i : Nat) : mc3 F T G (i * 3) = .int .i64 (F i) := by
  unfold mc3; rw [if_pos (by omega), show i * 3 / 3 = i by omega]
theorem mc3_1 (F T G : Nat → Int) (i : Nat) : mc3 F T G (i * 3 + 1) = .int .i64 (T i) := by
  unfold mc3; rw [if_neg (by omega), if_pos (by omega), show (i * 3 + 1) / 3 = i by omega]
theorem mc3_2 (F T G : Nat → Int) (i : Nat) : mc3 F T G (i * 3 + 2) = .int .i64 (G i) := by
  unfold mc3; rw [if_neg (by omega), if_neg (by omega), show (i * 3 + 2) / 3 = i by omega]
theorem reads3_at {B : Nat} {w : World} {b off n : Nat} {F T G : Nat → Int} (h : ∀ i, i < n → w.cell? ⟨b, off + i * 3, none⟩ = some (.int .i64 (F i)) ∧ w.cell? ⟨b, off + i * 3 + 1, none⟩ = some (.int .i64 (T i)) ∧ w.cell? ⟨b, off + i * 3 + 2, none⟩ = some (.int .i64 (G i))) (j : Nat) (hj : j < n * 3) :
    w.cell? ⟨b, off + j, none⟩ = some (mc3 F T G j) := by
  obtain ⟨h0, h1, h2⟩ := h (j / 3) (by omega)
  unfold mc3
  by_cases hp : j % 3 = 0
  · rw [if_pos hp]; rw [show off + j / 3 * 3 = off + j by omega] at h0; exact h0
  · rw [if_neg hp]
    by_cases hq : j % 3 = 1
    · rw [if_pos hq]; rw [show off + j / 3 * 3 + 1 = off + j by omega] at h1; exact h1
    · rw [if_neg hq]; rw [show off + j / 3 * 3 + 2 = off + j by omega] at h2; exact h2
theorem append_moves {P : Program} (w : World) (base B : Nat) (t ty e : TypeId) (i : TypeInfo) (z : Value) (bytes : Nat) (ht : P.underlying t = some (.slice e)) (hi : P.info? e = some i) (hz : i.zero = some z)
    (hsize : i.size = 3) (hby : i.bytes = bytes) (hzs : z.cells.size = 3) (v : Value) (hown : w.ownsRow base e 3 v 0 [])
    (p : Option Addr) (m c : Nat) (F T G : Nat → Int) (hr : Reads3 B w p m F T G)
    (h63 : 0 + m ≤ maxLen) (hbytes : (0 + m) * bytes ≤ 140737488355328) (hbase : base ≤ w.heap.size) :
    ∃ v' w', (Builtin.append_ #[t, t] ty #[v, .slice p m c]).run P w = .ok v' w' ∧ w'.ownsRow base e 3 v' m ((List.range (m * 3)).map (mc3 F T G)) ∧ w.grownBy w' v.ownBlock := by
  cases p with
  | none =>
    have hm : m = 0 := by
      rcases hr with h | ⟨b, off, h, _⟩
      · exact h
      · cases h
    subst hm
    refine ⟨v, w, ?_, by simpa using hown, World.grownBy.refl _ _⟩
    rcases hown.2 with ⟨rfl, _⟩ | ⟨g, cap, cur, rfl, _, _, hnc, _⟩
    · simp [Builtin.append_, run_underlying ht, sizeOf, typeInfo, hi, Builtin.lenOf, Builtin.firstCells]
    · simp [Builtin.append_, run_underlying ht, sizeOf, typeInfo, hi, Builtin.lenOf, Builtin.firstCells, hnc, storeCells]
  | some a =>
    obtain ⟨v', w', h2, h3, h4, _⟩ := run_append_own (P := P) w base t ty e i z 3 bytes ht hi hz hsize hby hzs (by omega) v 0 [] hown a m c ((List.range (m * 3)).map (mc3 F T G)) (by simp) (fun j u hj => by
      have hjm : j < m * 3 := by have := (List.getElem?_eq_some_iff.1 hj).1; simpa using this
      rcases hr with h | ⟨b, off, he, hb, hc⟩
      · omega
      · cases he
        rw [List.getElem?_map, List.getElem?_range hjm] at hj
        rw [Go.WideShapes.add_plain, reads3_at (B := B) hc j hjm]; simpa using hj) (fun u hu => by
      obtain ⟨j, hj, rfl⟩ := List.mem_map.1 hu
      rfl) h63 hbytes hbase
    exact ⟨v', w', h2, by simpa using h3, h4⟩
theorem owns3_reads {w : World} {base : Nat} {e : TypeId} {v : Value} {n : Nat} {F T G : Nat → Int} (h : w.ownsRow base e 3 v n ((List.range (n * 3)).map (mc3 F T G))) :
    ∃ p c, v = .slice p n c ∧ Reads3 w.heap.size w p n F T G := by
  rcases h.2 with ⟨rfl, rfl⟩ | ⟨q, cap, cur, rfl, h1, h2, h3, h4, h5, h6⟩
  · exact ⟨none, 0, rfl, .inl rfl⟩
  · refine ⟨_, cap, rfl, .inr ⟨q, 0, rfl, (Array.getElem?_eq_some_iff.1 h2).1, fun i hi => ?_⟩⟩
    have hc : ∀ j, j < n * 3 → w.cell? ⟨q, 0 + j, none⟩ = some (mc3 F T G j) := fun j hj => by
      rw [Nat.zero_add, cell_of_row w q j cur e (0, 0) h2]
      have h7 := congrArg (·[j]?) h6
      simp only [List.getElem?_take, List.getElem?_map] at h7
      rw [if_pos hj, List.getElem?_range hj, Array.getElem?_toList] at h7
      exact h7
    exact ⟨by rw [hc (i * 3) (by omega), mc3_0], by rw [show 0 + i * 3 + 1 = 0 + (i * 3 + 1) by omega, hc (i * 3 + 1) (by omega), mc3_1], by rw [show 0 + i * 3 + 2 = 0 + (i * 3 + 2) by omega, hc (i * 3 + 2) (by omega), mc3_2]⟩
theorem infoMove : (Tryz.prog.info? 41).map (fun i => (i.zero, i.size, i.bytes)) = some (some (.agg #[.int .i64 0, .int .i64 0, .int .i64 0]), 3, 24) := by kernel_rfl
/-- a row of moves in a block between two numbers -/
def O3 (lo hi : Nat) (w : World) (p : Option Addr) (n : Nat) (F T G : Nat → Int) : Prop :=
  n = 0 ∨ ∃ b off, p = some ⟨b, off, none⟩ ∧ lo ≤ b ∧ b < hi ∧ ∀ i, i < n → w.cell? ⟨b, off + i * 3, none⟩ = some (.int .i64 (F i)) ∧ w.cell? ⟨b, off + i * 3 + 1, none⟩ = some (.int .i64 (T i)) ∧ w.cell? ⟨b, off + i * 3 + 2, none⟩ = some (.int .i64 (G i))
theorem O3.reads {lo hi : Nat} {w : World} {p : Option Addr} {n : Nat} {F T G : Nat → Int} (h : O3 lo hi w p n F T G) : Reads3 hi w p n F T G := by
  rcases h with h | ⟨b, off, h1, _, h2, h3⟩
  · exact .inl h
  · exact .inr ⟨b, off, h1, h2, h3⟩
theorem O3.below {lo hi : Nat} {w w' : World} {p : Option Addr} {n : Nat} {F T G : Nat → Int} (h : O3 lo hi w p n F T G) (hb : Below hi w w') : O3 lo hi w' p n F T G := by
  rcases h with h | ⟨b, off, h1, h0, h2, h3⟩
  · exact .inl h
  · exact .inr ⟨b, off, h1, h0, h2, fun i hi => ⟨(hb.cell (p := ⟨b, off + i * 3, none⟩) h2).trans (h3 i hi).1, (hb.cell (p := ⟨b, off + i * 3 + 1, none⟩) h2).trans (h3 i hi).2.1, (hb.cell (p := ⟨b, off + i * 3 + 2, none⟩) h2).trans (h3 i hi).2.2⟩⟩
theorem O3.gr {lo hi : Nat} {w w' : World} {p : Option Addr} {n : Nat} {F T G : Nat → Int} {c : Nat} (h : O3 lo hi w p n F T G) (hg : w.grownBy w' (some c)) (hc : c < lo ∨ hi ≤ c) (hs : hi ≤ w.heap.size) : O3 lo hi w' p n F T G := by
  rcases h with h | ⟨b, off, h1, h0, h2, h3⟩
  · exact .inl h
  · have hb : w'.heap[b]? = w.heap[b]? := hg.block b (by omega) (by intro e; injection e; omega)
    exact .inr ⟨b, off, h1, h0, h2, fun i hi => by
      rw [World.cell?_of_block (a := ⟨b, off + i * 3, none⟩) hb, World.cell?_of_block (a := ⟨b, off + i * 3 + 1, none⟩) hb, World.cell?_of_block (a := ⟨b, off + i * 3 + 2, none⟩) hb]; exact h3 i hi⟩
theorem owns3_lies {w : World} {base : Nat} {e : TypeId} {v : Value} {n : Nat} {F T G : Nat → Int} (h : w.ownsRow base e 3 v n ((List.range (n * 3)).map (mc3 F T G))) :
    ∃ p c, v = .slice p n c ∧ O3 base w.heap.size w p n F T G := by
  have h' := h
  rcases h.2 with ⟨rfl, rfl⟩ | ⟨q, cap, cur, rfl, h1, h2, h3, h4, h5, h6⟩
  · exact ⟨none, 0, rfl, .inl rfl⟩
  · obtain ⟨p, c, he, hr⟩ := owns3_reads h'
    injection he with e1 e2 e3
    subst e1
    rcases hr with h0 | ⟨b, off, hb, hlt, hc⟩
    · exact ⟨_, _, rfl, .inl h0⟩
    · injection hb with hb
      exact ⟨_, _, rfl, .inr ⟨b, off, by rw [hb], by injection hb with hb1; omega, hlt, hc⟩⟩
/-- a row of moves as a list -/
def rowL (F T K : Nat → Int) (n : Nat) : List (Int × Int × Int) := (List.range n).map fun i => (F i, T i, K i)
theorem rowL_len (F T K : Nat → Int) (n : Nat) : (rowL F T K n).length = n := by unfold rowL; simp
theorem rowL_at (F T K : Nat → Int) (n i : Nat) (h : i < n) : mF (rowL F T K n) i = F i ∧ mT (rowL F T K n) i = T i ∧ mK (rowL F T K n) i = K i := by
  have e : (rowL F T K n).getD i (0, 0, 0) = (F i, T i, K i) := by
    unfold rowL
    rw [List.getD_eq_getElem?_getD, List.getElem?_map, List.getElem?_range h]; rfl
  unfold mF mT mK
  rw [e]
  exact ⟨rfl, rfl, rfl⟩
theorem Reads3.rowL {B : Nat} {w : World} {p : Option Addr} {n : Nat} {F T K : Nat → Int} (h : Reads3 B w p n F T K) : Reads3 B w p (rowL F T K n).length (mF (rowL F T K n)) (mT (rowL F T K n)) (mK (rowL F T K n)) := by
  rw [rowL_len]
  rcases h with h | ⟨b, off, h1, h2, h3⟩
  · exact .inl h
  · refine .inr ⟨b, off, h1, h2, fun i hi => ?_⟩
    obtain ⟨e1, e2, e3⟩ := rowL_at F T K n i hi
    rw [e1, e2, e3]
    exact h3 i hi
/-- two rows of the same moves -/
theorem same_rows (F T K : Nat → Int) (n : Nat) (hn : n ≤ 100000) (p p2 : Option Addr) (c c2 : Nat) (w : World) (hr : Reads3 w.heap.size w p n F T K) (hr2 : Reads3 w.heap.size w p2 n F T K) :
    Calls Tryz.prog 17 #[.slice p n c, .slice p2 n c2] w fun e w' => e = .returned (.bool true) ∧ Below w.heap.size w w' := by
  have h := same10_any (rowL F T K n) (by rw [rowL_len]; exact hn) p p2 c c2 w hr.rowL hr2.rowL
  rw [rowL_len] at h
  exact h
end Go.Proofs.YthinkiljhkanhaaGreatDoor
