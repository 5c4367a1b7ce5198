/-
  Contracts: what turns a hand's position.
-/
import Derived.Test.YtldepimkbnodpaaDoorPb
namespace Go.Proofs.YtldepimkbnodpaaDoor
open Go.RowKit Go.Sort
set_option linter.unusedSimpArgs false
set_option linter.unusedVariables false

theorem gr_of_below {w w' : World} (r : Option Nat) (h : Below w.heap.size w w') : w.grownBy w' r := ⟨h.os, h.tape, h.output, h.size, fun k hk _ => h.block k hk⟩
/-- what stands in a call that turns a hand's position -/
structure HG (w W : World) (blk : Nat) (Q : Nat → Int) : Prop where
  q : PB W blk Q
  g : w.grownBy W (some blk)
theorem HG.begin {w : World} {blk : Nat} {Q : Nat → Int} (h : PB w blk Q) : HG w w blk Q := ⟨h, World.grownBy.refl _ _⟩
theorem HG.go {w W W' : World} {blk : Nat} {Q : Nat → Int} (h : HG w W blk Q) (g : Below W.heap.size W W') : HG w W' blk Q := ⟨h.q.go g, h.g.trans (gr_of_below _ g)⟩
theorem HG.set {w W : World} {blk : Nat} {Q : Nat → Int} (h : HG w W blk Q) (i : Nat) (x : Int) (hi : i < 133) : HG w (W.setCell ⟨blk, i, none⟩ (.int .i64 x)) blk (setN Q i x) := ⟨h.q.set i x hi, h.g.trans (gr1_B _)⟩
theorem HG.pt {w W : World} {blk : Nat} {Q : Nat → Int} (h : HG w W blk Q) (m : Nat) (k d : Int) (hm : m < 64) :
    HG w ((W.setCell ⟨blk, m * 2, none⟩ (.int .i64 k)).setCell ⟨blk, m * 2 + 1, none⟩ (.int .i64 d)) blk (ptN Q m k d) := by
  have := (h.set (m * 2) k (by omega)).set (m * 2 + 1) d (by omega)
  unfold ptN
  rwa [Nat.mul_comm 2 m]
theorem HG.then {w W W' : World} {blk : Nat} {Q Q' : Nat → Int} (h : HG w W blk Q) (g : HG W W' blk Q') : HG w W' blk Q' := ⟨g.q, h.g.trans g.g⟩
/-- counted -/
def cntN (P : Nat → Int) (z : Bool) : Nat → Int :=
  if P 128 == 1 then setN (setN P 131 (if z then 0 else incN (P 131) 1024)) 132 (incN (P 132) 16384) else setN P 131 (if z then 0 else incN (P 131) 1024)
set_option maxHeartbeats 2000000 in
theorem count_any (b : Nat) (P : Nat → Int) (z : Bool) (w : World) (hp : PB w b P) :
    Calls Tryd.prog 45 #[.pointer (some ⟨b, 0, none⟩), .bool z] w fun e w' => e = .returned (.tuple #[]) ∧ HG w w' b (cntN P z) := by
  have HI := Lib.hid (HG.begin hp)
  have HH := Lib.hid (show (if z then 0 else incN (P 131) 1024) = if z then 0 else incN (P 131) 1024 from rfl)
  have e131 := hp.cell 131 (by omega)
  have f131 := hp.fr 131
  have M1 := Lib.hid (fun n m W => oneMore_any n m W)
  have hv : cntN P z = if P 128 == 1 then setN (setN P 131 (if z then 0 else incN (P 131) 1024)) 132 (incN (P 132) 16384) else setN P 131 (if z then 0 else incN (P 131) 1024) := rfl
  obtain ⟨h, hh⟩ : ∃ h, (if z then 0 else incN (P 131) 1024) = h := ⟨_, rfl⟩
  rw [hh] at hv
  have HD := Lib.hid (show setN P 131 h 128 = P 128 ∧ setN P 131 h 132 = P 132 from ⟨rfl, rfl⟩)
  have HV := Lib.hid hv
  have HHH := Lib.hid hh
  clear hp hv hh HH
  go_enter Tryd.func45, Tryd.ntmps45
  have key : ∀ (c : Code) (Q : Exit → Act → World → Prop) (a : Act) (W : World), HG w W b (setN P 131 h) → (∀ W, HG w W b (setN P 131 h) → c.wp Tryd.prog Q a W) → c.wp Tryd.prog Q a W := fun c Q a W h1 h2 => h2 W h1
  have KEY := Lib.hid key
  clear key
  cases z
  · obtain ⟨n, hn⟩ : ∃ n, P 131 = n := ⟨_, rfl⟩
    rw [hn] at e131 HHH
    clear hn
    have hR : h = incN n 1024 := by rw [← HHH.out]; rfl
    have HR := Lib.hid hR
    clear hR HHH
    go_wp2_with fail
    refine (M1.out _ _ _).mono ?_
    rw [← HR.out]
    rintro e w1 ⟨rfl, rfl⟩
    go_upto_region 3 with (fail)
    refine KEY.out _ _ _ _ (HI.out.set 131 h (by omega)) ?_
    clear e131 f131 HI HR KEY
    intro W hi
    have HI := Lib.hid hi
    clear hi
    have e128 := HI.out.q.cell 128 (by omega)
    have e132 := HI.out.q.cell 132 (by omega)
    have f132 := HI.out.q.fr 132
    rw [HD.out.1] at e128
    rw [HD.out.2] at e132
    obtain ⟨sd, hsd⟩ : ∃ s, P 128 = s := ⟨_, rfl⟩
    obtain ⟨fu, hfu⟩ : ∃ s, P 132 = s := ⟨_, rfl⟩
    rw [hsd] at e128 HV
    rw [hfu] at e132 HV
    clear hsd hfu HD
    by_cases hs : sd = 1
    · subst hs
      go_wp2_with fail
      refine (M1.out _ _ _).mono ?_
      rintro e w2 ⟨rfl, rfl⟩
      go_wp2
      go_end0
      exact ⟨rfl, by rw [HV.out]; exact HI.out.set 132 _ (by omega)⟩
    · have hs2 : (sd == 1) = false := by simp [hs]
      go_wp2
      go_end0
      exact ⟨rfl, by rw [HV.out, hs2]; exact HI.out⟩
  · have hR : h = 0 := by rw [← HHH.out]; rfl
    subst hR
    clear HHH
    go_upto_region 3 with (fail)
    refine KEY.out _ _ _ _ (HI.out.set 131 0 (by omega)) ?_
    clear e131 f131 HI KEY
    intro W hi
    have HI := Lib.hid hi
    clear hi
    have e128 := HI.out.q.cell 128 (by omega)
    have e132 := HI.out.q.cell 132 (by omega)
    have f132 := HI.out.q.fr 132
    rw [HD.out.1] at e128
    rw [HD.out.2] at e132
    obtain ⟨sd, hsd⟩ : ∃ s, P 128 = s := ⟨_, rfl⟩
    obtain ⟨fu, hfu⟩ : ∃ s, P 132 = s := ⟨_, rfl⟩
    rw [hsd] at e128 HV
    rw [hfu] at e132 HV
    clear hsd hfu HD
    by_cases hs : sd = 1
    · subst hs
      go_wp2_with fail
      refine (M1.out _ _ _).mono ?_
      rintro e w2 ⟨rfl, rfl⟩
      go_wp2
      go_end0
      exact ⟨rfl, by rw [HV.out]; exact HI.out.set 132 _ (by omega)⟩
    · have hs2 : (sd == 1) = false := by simp [hs]
      go_wp2
      go_end0
      exact ⟨rfl, by rw [HV.out, hs2]; exact HI.out⟩
end Go.Proofs.YtldepimkbnodpaaDoor
