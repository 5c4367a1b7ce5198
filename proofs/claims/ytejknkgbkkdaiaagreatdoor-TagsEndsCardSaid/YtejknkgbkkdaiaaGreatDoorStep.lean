/-
  Contract: one step on a hasher's eight words.
-/
import Derived.Test.YtejknkgbkkdaiaaGreatDoorG6
namespace Go.Proofs.YtejknkgbkkdaiaaGreatDoor
open Go.RowKit
set_option linter.unusedSimpArgs false
set_option linter.unusedVariables false

/-- the eight words' cells -/
abbrev At8 (w : World) (hb : Nat) (st : Nat → BitVec 32) : Prop :=
  w.cell? ⟨hb, 0, none⟩ = some (.int .u32 (u (st 0))) ∧ w.cell? ⟨hb, 1, none⟩ = some (.int .u32 (u (st 1))) ∧ w.cell? ⟨hb, 2, none⟩ = some (.int .u32 (u (st 2))) ∧ w.cell? ⟨hb, 3, none⟩ = some (.int .u32 (u (st 3))) ∧
  w.cell? ⟨hb, 4, none⟩ = some (.int .u32 (u (st 4))) ∧ w.cell? ⟨hb, 5, none⟩ = some (.int .u32 (u (st 5))) ∧ w.cell? ⟨hb, 6, none⟩ = some (.int .u32 (u (st 6))) ∧ w.cell? ⟨hb, 7, none⟩ = some (.int .u32 (u (st 7)))
theorem HS.at8 {w : World} {hb n : Nat} {st : Nat → BitVec 32} {op : Nat → BitVec 8} {own : Option Addr} (h : HS w hb st op n own) : At8 w hb st :=
  ⟨h.word 0 (by omega), h.word 1 (by omega), h.word 2 (by omega), h.word 3 (by omega), h.word 4 (by omega), h.word 5 (by omega), h.word 6 (by omega), h.word 7 (by omega)⟩

/-- what a walk over a hasher's words keeps -/
theorem HS.held {w w' : World} {hb n : Nat} {st : Nat → BitVec 32} {op : Nat → BitVec 8} {own : Option Addr} (h : HS w' hb st op n own) (g : w.grownBy w' (some hb)) : HS w' hb st op n own ∧ w.grownBy w' (some hb) ∧ At8 w' hb st := ⟨h, g, h.at8⟩
theorem gr_drewed {row : Option Nat} {w w' : World} (h : w.grownBy w' row) : w.grownBy w'.drew row := h.trans gr_drew
theorem gr_alloced {row : Option Nat} {w w' : World} {o : Obj} (h : w.grownBy w' row) : w.grownBy (w'.alloc o) row := h.trans (World.grownBy_alloc w' o row)
theorem forget_code {P : Program} {c : Code} {Q : Exit → Act → World → Prop} {a : Act} {W : World} (S : World → Prop) (hS : S W) (h : ∀ W, S W → c.wp P Q a W) : c.wp P Q a W := h W hS

theorem fin8 {w w' : World} {hb n : Nat} {st st' : Nat → BitVec 32} {op : Nat → BitVec 8} {own : Option Addr} {vs : List Value} (h : HS w' hb st op n own) (g : w.grownBy w' (some hb))
    (hv : vs = (List.range 8).map fun i => .int .u32 (u (st' i))) : HS (w'.setCells hb 0 vs) hb st' op n own ∧ w.grownBy (w'.setCells hb 0 vs) (some hb) := ⟨h.setWords vs hv, g.trans (gr_setCells vs 0 w')⟩

theorem words_one (st : Nat → BitVec 32) : ((List.range 8).map fun i => Value.int .u32 (u (st i))).toArray.all (·.oneCell') = true :=
  all_oneCell_toArray fun v hv => by
    obtain ⟨i, _, rfl⟩ := List.mem_map.1 hv
    rfl

set_option maxHeartbeats 4000000 in
set_option maxRecDepth 100000 in
theorem step_any (w : World) (hb : Nat) (st : Nat → BitVec 32) (op : Nat → BitVec 8) (n : Nat) (own : Option Addr) (k x : BitVec 32) (h : HS w hb st op n own) :
    Calls Tryz.prog 100 #[.pointer (some ⟨hb, 0, none⟩), .int .u32 (u k), .int .u32 (u x)] w fun e w' => e = .returned (.tuple #[]) ∧ w.grownBy w' (some hb) ∧ HS w' hb (stepW st k x) op n own := by
  have HH := Lib.hid h
  have hgr := World.grownBy.refl w (some hb)
  clear h
  go_enter Tryz.func100, Tryz.ntmps100
  go_wp2
  go_region_held3 (fun w' => HS w' hb st op n own ∧ w.grownBy w' (some hb) ∧ w'.cell? ⟨hb, 0, none⟩ = some (.int .u32 (u (st 0))) ∧ w'.cell? ⟨hb, 1, none⟩ = some (.int .u32 (u (st 1))) ∧ w'.cell? ⟨hb, 2, none⟩ = some (.int .u32 (u (st 2))) ∧ w'.cell? ⟨hb, 3, none⟩ = some (.int .u32 (u (st 3))) ∧ w'.cell? ⟨hb, 4, none⟩ = some (.int .u32 (u (st 4))) ∧ w'.cell? ⟨hb, 5, none⟩ = some (.int .u32 (u (st 5))) ∧ w'.cell? ⟨hb, 6, none⟩ = some (.int .u32 (u (st 6))) ∧ w'.cell? ⟨hb, 7, none⟩ = some (.int .u32 (u (st 7))))
    ((refine HS.held ?_ ?_ <;> (repeat (first | exact HH.out | exact hgr | apply HS.drew | apply HS.alloc | apply gr_drewed | apply gr_alloced))))
    (first
      | (go_at_call 105; refine (mix3_at (st 4) 6 11 25 _ _ _ (by (try simp only [heap_drew]); repeat (first | (apply laid_at; simp; done) | apply laid_old)) 6 11 25 rfl rfl rfl).mono ?_; rintro e w' ⟨rfl, rfl⟩)
      | (go_at_call 106; refine (choose_any (st 4) (st 5) (st 6) _).mono ?_; rintro e w' ⟨rfl, rfl⟩)
      | (go_at_call 101; refine (sum5_at _ _ _ _ _ _ _ _ (by (try simp only [heap_drew]); repeat (first | (apply laid_at; simp; done) | apply laid_old))).mono ?_; rintro e w' ⟨rfl, rfl⟩))
  go_wp2
  refine forget_code (fun w' => HS w' hb st op n own ∧ w.grownBy w' (some hb)) (by go_split_ands; exact ⟨by assumption, by assumption⟩) ?_
  clear HH hgr
  rintro W ⟨h1, hgr⟩
  have HH := Lib.hid h1
  clear h1
  go_region_held3 (fun w' => HS w' hb st op n own ∧ w.grownBy w' (some hb) ∧ w'.cell? ⟨hb, 0, none⟩ = some (.int .u32 (u (st 0))) ∧ w'.cell? ⟨hb, 1, none⟩ = some (.int .u32 (u (st 1))) ∧ w'.cell? ⟨hb, 2, none⟩ = some (.int .u32 (u (st 2))) ∧ w'.cell? ⟨hb, 3, none⟩ = some (.int .u32 (u (st 3))) ∧ w'.cell? ⟨hb, 4, none⟩ = some (.int .u32 (u (st 4))) ∧ w'.cell? ⟨hb, 5, none⟩ = some (.int .u32 (u (st 5))) ∧ w'.cell? ⟨hb, 6, none⟩ = some (.int .u32 (u (st 6))) ∧ w'.cell? ⟨hb, 7, none⟩ = some (.int .u32 (u (st 7))))
    ((refine HS.held ?_ ?_ <;> (repeat (first | exact HH.out | exact hgr | apply HS.drew | apply HS.alloc | apply gr_drewed | apply gr_alloced))))
    (first
      | (go_at_call 105; refine (mix3_at (st 0) 2 13 22 _ _ _ (by (try simp only [heap_drew]); repeat (first | (apply laid_at; simp; done) | apply laid_old)) 2 13 22 rfl rfl rfl).mono ?_; rintro e w' ⟨rfl, rfl⟩)
      | (go_at_call 107; refine (maj_at (st 0) (st 1) (st 2) _ _ _ (by (try simp only [heap_drew]); repeat (first | (apply laid_at; simp; done) | apply laid_old))).mono ?_; rintro e w' ⟨rfl, rfl⟩)
      | (go_at_call 101; refine (sum2_at _ _ _ _ _ (by (try simp only [heap_drew]); repeat (first | (apply laid_at; simp; done) | apply laid_old))).mono ?_; rintro e w' ⟨rfl, rfl⟩))
  all_goals
    go_wp2
    refine forget_code (fun w' => HS w' hb st op n own ∧ w.grownBy w' (some hb)) (by go_split_ands; exact ⟨by assumption, by assumption⟩) ?_
    clear HH hgr
    rintro W ⟨h1, hgr⟩
    have HH := Lib.hid h1
    clear h1
    refine wp_region_noPanic ?_
    refine wp_region_last (n := 38) (S := (fun w' => HS w' hb st op n own ∧ w.grownBy w' (some hb) ∧ w'.cell? ⟨hb, 0, none⟩ = some (.int .u32 (u (st 0))) ∧ w'.cell? ⟨hb, 1, none⟩ = some (.int .u32 (u (st 1))) ∧ w'.cell? ⟨hb, 2, none⟩ = some (.int .u32 (u (st 2))) ∧ w'.cell? ⟨hb, 3, none⟩ = some (.int .u32 (u (st 3))) ∧ w'.cell? ⟨hb, 4, none⟩ = some (.int .u32 (u (st 4))) ∧ w'.cell? ⟨hb, 5, none⟩ = some (.int .u32 (u (st 5))) ∧ w'.cell? ⟨hb, 6, none⟩ = some (.int .u32 (u (st 6))) ∧ w'.cell? ⟨hb, 7, none⟩ = some (.int .u32 (u (st 7))))) 38 (by kernel_rfl) rfl (by kernel_rfl) (by decide) (by ((refine HS.held ?_ ?_ <;> (repeat (first | exact HH.out | exact hgr | apply HS.drew | apply HS.alloc | apply gr_drewed | apply gr_alloced))))) (fun hHeld => ?_)
    refine take_at (i := 0) (d := some 57) (v := ?_) rfl rfl (by kernel_rfl) (by kernel_rfl) (by kernel_rfl) (fun _ _ _ h => h) (Or.inl ⟨by rfl, ?_⟩) (by assumption) ?_; rotate_left; · (intro w' hSw; (try dsimp only at hSw); go_simp; (try with_reducible rfl))
    try simp only [Act.put, List.setIfInBounds_toArray, List.set_cons_zero, List.set_cons_succ]
    refine take_at (i := 1) (d := some 58) (v := ?_) rfl rfl (by kernel_rfl) (by kernel_rfl) (by kernel_rfl) (fun _ _ _ h => h) (Or.inl ⟨by rfl, ?_⟩) (by assumption) ?_; rotate_left; · (intro w' hSw; (try dsimp only at hSw); go_simp; (try with_reducible rfl))
    try simp only [Act.put, List.setIfInBounds_toArray, List.set_cons_zero, List.set_cons_succ]
    refine take_at (i := 2) (d := some 59) (v := ?_) rfl rfl (by kernel_rfl) (by kernel_rfl) (by kernel_rfl) (fun _ _ _ h => h) (Or.inl ⟨by rfl, ?_⟩) (by assumption) ?_; rotate_left; · (intro w' hSw; (try dsimp only at hSw); go_simp; (try with_reducible rfl))
    try simp only [Act.put, List.setIfInBounds_toArray, List.set_cons_zero, List.set_cons_succ]
    refine take_at (i := 5) (d := some 62) (v := ?_) rfl rfl (by kernel_rfl) (by kernel_rfl) (by kernel_rfl) (fun _ _ _ h => h) (Or.inl ⟨by rfl, ?_⟩) (by assumption) ?_; rotate_left; · (intro w' hSw; (try dsimp only at hSw); go_simp; (try with_reducible rfl))
    try simp only [Act.put, List.setIfInBounds_toArray, List.set_cons_zero, List.set_cons_succ]
    refine take_at (i := 6) (d := some 63) (v := ?_) rfl rfl (by kernel_rfl) (by kernel_rfl) (by kernel_rfl) (fun _ _ _ h => h) (Or.inl ⟨by rfl, ?_⟩) (by assumption) ?_; rotate_left; · (intro w' hSw; (try dsimp only at hSw); go_simp; (try with_reducible rfl))
    try simp only [Act.put, List.setIfInBounds_toArray, List.set_cons_zero, List.set_cons_succ]
    refine take_at (i := 7) (d := some 64) (v := ?_) rfl rfl (by kernel_rfl) (by kernel_rfl) (by kernel_rfl) (fun _ _ _ h => h) (Or.inl ⟨by rfl, ?_⟩) (by assumption) ?_; rotate_left; · (intro w' hSw; (try dsimp only at hSw); go_simp; (try with_reducible rfl))
    try simp only [Act.put, List.setIfInBounds_toArray, List.set_cons_zero, List.set_cons_succ]
    refine take_at (i := 8) (d := some 65) (v := ?_) rfl rfl (by kernel_rfl) (by kernel_rfl) (by kernel_rfl) (fun _ _ _ h => h) (Or.inl ⟨by rfl, ?_⟩) (by assumption) ?_; rotate_left; · (intro w' hSw; (try dsimp only at hSw); go_simp; (try with_reducible rfl))
    try simp only [Act.put, List.setIfInBounds_toArray, List.set_cons_zero, List.set_cons_succ]
    refine take_at (i := 9) (d := some 66) (v := ?_) rfl rfl (by kernel_rfl) (by kernel_rfl) (by kernel_rfl) (fun _ _ _ h => h) (Or.inl ⟨by rfl, ?_⟩) (by assumption) ?_; rotate_left; · (intro w' hSw; (try dsimp only at hSw); go_simp; (try with_reducible rfl))
    try simp only [Act.put, List.setIfInBounds_toArray, List.set_cons_zero, List.set_cons_succ]
    refine take_at (i := 10) (d := some 67) (v := ?_) rfl rfl (by kernel_rfl) (by kernel_rfl) (by kernel_rfl) (fun _ _ _ h => h) (Or.inl ⟨by rfl, ?_⟩) (by assumption) ?_; rotate_left; · (intro w' hSw; (try dsimp only at hSw); go_simp; (try with_reducible rfl))
    try simp only [Act.put, List.setIfInBounds_toArray, List.set_cons_zero, List.set_cons_succ]
    refine take_at (i := 11) (d := some 68) (v := ?_) rfl rfl (by kernel_rfl) (by kernel_rfl) (by kernel_rfl) (fun _ _ _ h => h) (Or.inl ⟨by rfl, ?_⟩) (by assumption) ?_; rotate_left; · (intro w' hSw; (try dsimp only at hSw); go_simp; (try with_reducible rfl))
    try simp only [Act.put, List.setIfInBounds_toArray, List.set_cons_zero, List.set_cons_succ]
    refine take_at (i := 12) (d := some 69) (v := ?_) rfl rfl (by kernel_rfl) (by kernel_rfl) (by kernel_rfl) (fun _ _ _ h => h) (Or.inl ⟨by rfl, ?_⟩) (by assumption) ?_; rotate_left; · (intro w' hSw; (try dsimp only at hSw); go_simp; (try with_reducible rfl))
    try simp only [Act.put, List.setIfInBounds_toArray, List.set_cons_zero, List.set_cons_succ]
    refine take_at (i := 13) (d := some 70) (v := ?_) rfl rfl (by kernel_rfl) (by kernel_rfl) (by kernel_rfl) (fun _ _ _ h => h) (Or.inl ⟨by rfl, ?_⟩) (by assumption) ?_; rotate_left; · (intro w' hSw; (try dsimp only at hSw); go_simp; (try with_reducible rfl))
    try simp only [Act.put, List.setIfInBounds_toArray, List.set_cons_zero, List.set_cons_succ]
    refine take_at (i := 14) (d := some 71) (v := ?_) rfl rfl (by kernel_rfl) (by kernel_rfl) (by kernel_rfl) (fun _ _ _ h => h) (Or.inl ⟨by rfl, ?_⟩) (by assumption) ?_; rotate_left; · (intro w' hSw; (try dsimp only at hSw); go_simp; (try with_reducible rfl))
    try simp only [Act.put, List.setIfInBounds_toArray, List.set_cons_zero, List.set_cons_succ]
    refine take_at (i := 15) (d := some 72) (v := ?_) rfl rfl (by kernel_rfl) (by kernel_rfl) (by kernel_rfl) (fun _ _ _ h => h) (Or.inl ⟨by rfl, ?_⟩) (by assumption) ?_; rotate_left; · (intro w' hSw; (try dsimp only at hSw); go_simp; (try with_reducible rfl))
    try simp only [Act.put, List.setIfInBounds_toArray, List.set_cons_zero, List.set_cons_succ]
    refine take_at (i := 16) (d := some 73) (v := ?_) rfl rfl (by kernel_rfl) (by kernel_rfl) (by kernel_rfl) (fun _ _ _ h => h) (Or.inl ⟨by rfl, ?_⟩) (by assumption) ?_; rotate_left; · (intro w' hSw; (try dsimp only at hSw); go_simp; (try with_reducible rfl))
    try simp only [Act.put, List.setIfInBounds_toArray, List.set_cons_zero, List.set_cons_succ]
    refine take_at (i := 17) (d := some 74) (v := ?_) rfl rfl (by kernel_rfl) (by kernel_rfl) (by kernel_rfl) (fun _ _ _ h => h) (Or.inl ⟨by rfl, ?_⟩) (by assumption) ?_; rotate_left; · (intro w' hSw; (try dsimp only at hSw); go_simp; (try with_reducible rfl))
    try simp only [Act.put, List.setIfInBounds_toArray, List.set_cons_zero, List.set_cons_succ]
    refine take_at (i := 18) (d := some 75) (v := ?_) rfl rfl (by kernel_rfl) (by kernel_rfl) (by kernel_rfl) (fun _ _ _ h => h) (Or.inl ⟨by rfl, ?_⟩) (by assumption) ?_; rotate_left; · (intro w' hSw; (try dsimp only at hSw); go_simp; (try with_reducible rfl))
    try simp only [Act.put, List.setIfInBounds_toArray, List.set_cons_zero, List.set_cons_succ]
    refine take_at (i := 19) (d := some 76) (v := ?_) rfl rfl (by kernel_rfl) (by kernel_rfl) (by kernel_rfl) (fun _ _ _ h => h) (Or.inl ⟨by rfl, ?_⟩) (by assumption) ?_; rotate_left; · (intro w' hSw; (try dsimp only at hSw); go_simp; (try with_reducible rfl))
    try simp only [Act.put, List.setIfInBounds_toArray, List.set_cons_zero, List.set_cons_succ]
    refine take_at (i := 20) (d := some 77) (v := ?_) rfl rfl (by kernel_rfl) (by kernel_rfl) (by kernel_rfl) (fun _ _ _ h => h) (Or.inl ⟨by rfl, ?_⟩) (by assumption) ?_; rotate_left; · (intro w' hSw; (try dsimp only at hSw); go_simp; (try with_reducible rfl))
    try simp only [Act.put, List.setIfInBounds_toArray, List.set_cons_zero, List.set_cons_succ]
    refine take_at (i := 21) (d := some 78) (v := ?_) rfl rfl (by kernel_rfl) (by kernel_rfl) (by kernel_rfl) (fun _ _ _ h => h) (Or.inl ⟨by rfl, ?_⟩) (by assumption) ?_; rotate_left; · (intro w' hSw; (try dsimp only at hSw); go_simp; (try with_reducible rfl))
    try simp only [Act.put, List.setIfInBounds_toArray, List.set_cons_zero, List.set_cons_succ]
    refine take_at (i := 24) (d := some 81) (v := ?_) rfl rfl (by kernel_rfl) (by kernel_rfl) (by kernel_rfl) (fun _ _ _ h => h) (Or.inl ⟨by rfl, ?_⟩) (by assumption) ?_; rotate_left; · (intro w' hSw; (try dsimp only at hSw); go_simp; (try with_reducible rfl))
    try simp only [Act.put, List.setIfInBounds_toArray, List.set_cons_zero, List.set_cons_succ]
    refine take_at (i := 25) (d := some 82) (v := ?_) rfl rfl (by kernel_rfl) (by kernel_rfl) (by kernel_rfl) (fun _ _ _ h => h) (Or.inl ⟨by rfl, ?_⟩) (by assumption) ?_; rotate_left; · (intro w' hSw; (try dsimp only at hSw); go_simp; (try with_reducible rfl))
    try simp only [Act.put, List.setIfInBounds_toArray, List.set_cons_zero, List.set_cons_succ]
    refine take_at (i := 26) (d := some 83) (v := ?_) rfl rfl (by kernel_rfl) (by kernel_rfl) (by kernel_rfl) (fun _ _ _ h => h) (Or.inl ⟨by rfl, ?_⟩) (by assumption) ?_; rotate_left; · (intro w' hSw; (try dsimp only at hSw); go_simp; (try with_reducible rfl))
    try simp only [Act.put, List.setIfInBounds_toArray, List.set_cons_zero, List.set_cons_succ]
    refine take_at (i := 27) (d := some 84) (v := ?_) rfl rfl (by kernel_rfl) (by kernel_rfl) (by kernel_rfl) (fun _ _ _ h => h) (Or.inl ⟨by rfl, ?_⟩) (by assumption) ?_; rotate_left; · (intro w' hSw; (try dsimp only at hSw); go_simp; (try with_reducible rfl))
    try simp only [Act.put, List.setIfInBounds_toArray, List.set_cons_zero, List.set_cons_succ]
    refine take_at (i := 28) (d := some 85) (v := ?_) rfl rfl (by kernel_rfl) (by kernel_rfl) (by kernel_rfl) (fun _ _ _ h => h) (Or.inl ⟨by rfl, ?_⟩) (by assumption) ?_; rotate_left; · (intro w' hSw; (try dsimp only at hSw); go_simp; (try with_reducible rfl))
    try simp only [Act.put, List.setIfInBounds_toArray, List.set_cons_zero, List.set_cons_succ]
    refine take_at (i := 29) (d := some 86) (v := ?_) rfl rfl (by kernel_rfl) (by kernel_rfl) (by kernel_rfl) (fun _ _ _ h => h) (Or.inl ⟨by rfl, ?_⟩) (by assumption) ?_; rotate_left; · (intro w' hSw; (try dsimp only at hSw); go_simp; (try with_reducible rfl))
    try simp only [Act.put, List.setIfInBounds_toArray, List.set_cons_zero, List.set_cons_succ]
    refine take_at (i := 30) (d := some 87) (v := ?_) rfl rfl (by kernel_rfl) (by kernel_rfl) (by kernel_rfl) (fun _ _ _ h => h) (Or.inl ⟨by rfl, ?_⟩) (by assumption) ?_; rotate_left; · (intro w' hSw; (try dsimp only at hSw); go_simp; (try with_reducible rfl))
    try simp only [Act.put, List.setIfInBounds_toArray, List.set_cons_zero, List.set_cons_succ]
    refine take_at (i := 31) (d := some 88) (v := ?_) rfl rfl (by kernel_rfl) (by kernel_rfl) (by kernel_rfl) (fun _ _ _ h => h) (Or.inl ⟨by rfl, ?_⟩) (by assumption) ?_; rotate_left; · (intro w' hSw; (try dsimp only at hSw); go_simp; (try with_reducible rfl))
    try simp only [Act.put, List.setIfInBounds_toArray, List.set_cons_zero, List.set_cons_succ]
    refine take_at (i := 32) (d := some 89) (v := ?_) rfl rfl (by kernel_rfl) (by kernel_rfl) (by kernel_rfl) (fun _ _ _ h => h) (Or.inl ⟨by rfl, ?_⟩) (by assumption) ?_; rotate_left; · (intro w' hSw; (try dsimp only at hSw); go_simp; (try with_reducible rfl))
    try simp only [Act.put, List.setIfInBounds_toArray, List.set_cons_zero, List.set_cons_succ]
    refine take_at (i := 33) (d := some 90) (v := ?_) rfl rfl (by kernel_rfl) (by kernel_rfl) (by kernel_rfl) (fun _ _ _ h => h) (Or.inl ⟨by rfl, ?_⟩) (by assumption) ?_; rotate_left; · (intro w' hSw; (try dsimp only at hSw); go_simp; (try with_reducible rfl))
    try simp only [Act.put, List.setIfInBounds_toArray, List.set_cons_zero, List.set_cons_succ]
    refine take_at (i := 34) (d := some 91) (v := ?_) rfl rfl (by kernel_rfl) (by kernel_rfl) (by kernel_rfl) (fun _ _ _ h => h) (Or.inl ⟨by rfl, ?_⟩) (by assumption) ?_; rotate_left; · (intro w' hSw; (try dsimp only at hSw); go_simp; (try with_reducible rfl))
    try simp only [Act.put, List.setIfInBounds_toArray, List.set_cons_zero, List.set_cons_succ]
    refine take_at (i := 35) (d := some 92) (v := ?_) rfl rfl (by kernel_rfl) (by kernel_rfl) (by kernel_rfl) (fun _ _ _ h => h) (Or.inl ⟨by rfl, ?_⟩) (by assumption) ?_; rotate_left; · (intro w' hSw; (try dsimp only at hSw); go_simp; (try with_reducible rfl))
    try simp only [Act.put, List.setIfInBounds_toArray, List.set_cons_zero, List.set_cons_succ]
    refine wpAnyH_ready (rs := [3, 22]) (by kernel_rfl) (by simp) (AllReadyH.cons rfl (fun K hK => ?_) (AllReadyH.cons rfl (fun K hK => ?_) (AllReadyH.nil)))
    · skip
      go_simp
      refine hK.out _ _ (by (refine HS.held ?_ ?_ <;> (repeat (first | exact HH.out | exact hgr | apply HS.drew | apply HS.alloc | apply gr_drewed | apply gr_alloced)))) (fun hHeld => ?_)
      clear hK K
      try simp only [Act.put, List.setIfInBounds_toArray, List.set_cons_zero, List.set_cons_succ]
      refine wpAnyH_ready (rs := [4, 22]) (by kernel_rfl) (by simp) (AllReadyH.cons rfl (fun K hK => ?_) (AllReadyH.cons rfl (fun K hK => ?_) (AllReadyH.nil)))
      · skip
        go_simp
        refine (sum2_at _ _ _ _ _ (by (try simp only [heap_drew]); repeat (first | (apply laid_at; simp; done) | apply laid_old))).mono ?_
        rintro e w' ⟨rfl, rfl⟩
        dsimp only
        refine hK.out _ _ (by (refine HS.held ?_ ?_ <;> (repeat (first | exact HH.out | exact hgr | apply HS.drew | apply HS.alloc | apply gr_drewed | apply gr_alloced)))) (fun hHeld => ?_)
        clear hK K
        try simp only [Act.put, List.setIfInBounds_toArray, List.set_cons_zero, List.set_cons_succ]
        refine wpAnyH_ready (rs := [22]) (by kernel_rfl) (by simp) (AllReadyH.cons rfl (fun K hK => ?_) (AllReadyH.nil))
        go_simp
        refine hK.out _ _ (by (refine HS.held ?_ ?_ <;> (repeat (first | exact HH.out | exact hgr | apply HS.drew | apply HS.alloc | apply gr_drewed | apply gr_alloced)))) (fun hHeld => ?_)
        clear hK K
        try simp only [Act.put, List.setIfInBounds_toArray, List.set_cons_zero, List.set_cons_succ]
        refine wpAnyH_ready (rs := [23]) (by kernel_rfl) (by simp) (AllReadyH.cons rfl (fun K hK => ?_) (AllReadyH.nil))
        go_simp
        refine (sum2_at _ _ _ _ _ (by (try simp only [heap_drew]); repeat (first | (apply laid_at; simp; done) | apply laid_old))).mono ?_
        rintro e w' ⟨rfl, rfl⟩
        dsimp only
        refine hK.out _ _ (by (refine HS.held ?_ ?_ <;> (repeat (first | exact HH.out | exact hgr | apply HS.drew | apply HS.alloc | apply gr_drewed | apply gr_alloced)))) (fun hHeld => ?_)
        clear hK K
        try simp only [Act.put, List.setIfInBounds_toArray, List.set_cons_zero, List.set_cons_succ]
        refine take_at (i := 36) (d := some 93) (v := ?_) rfl rfl (by kernel_rfl) (by kernel_rfl) (by kernel_rfl) (fun _ _ _ h => h) (Or.inl ⟨by rfl, ?_⟩) (by assumption) ?_; rotate_left; · (intro w' hSw; (try dsimp only at hSw); go_simp; (try with_reducible rfl))
        try simp only [Act.put, List.setIfInBounds_toArray, List.set_cons_zero, List.set_cons_succ]
        refine take_at (i := 37) (d := some 94) (v := ?_) rfl rfl (by kernel_rfl) (by kernel_rfl) (by kernel_rfl) (fun _ _ _ h => h) (Or.inl ⟨by rfl, ?_⟩) (by assumption) ?_; rotate_left; · (intro w' hSw; (try dsimp only at hSw); go_simp; (try with_reducible rfl))
        try simp only [Act.put, List.setIfInBounds_toArray, List.set_cons_zero, List.set_cons_succ]
        refine wpAnyH_done (by kernel_rfl) ?_ _
        have hfin := fin8 (vs := ((List.range 8).map fun i => Value.int .u32 (u (stepW st k x i)))) (st' := stepW st k x) (hHeld.1) (hHeld.2.1) rfl
        refine behind_go rfl (by rfl) ?_
        refine wp_store_mid 107 _ _ rfl hb 0 (((List.range 8).map fun i => Value.int .u32 (u (stepW st k x i))).toArray) rfl rfl (hHeld.1.there 0 8 (by omega)) infoEight (words_one _) ?_
        refine NoPanic.normal ?_
        simp only [List.toList_toArray] at hfin ⊢
        generalize World.setCells _ hb 0 _ = W2 at hfin ⊢
        have HF := Lib.hid hfin
        clear hfin hHeld HH hgr
        go_wp2
        go_end0
        exact ⟨rfl, HF.out.2, HF.out.1⟩
      · skip
        go_simp
        refine hK.out _ _ (by (refine HS.held ?_ ?_ <;> (repeat (first | exact HH.out | exact hgr | apply HS.drew | apply HS.alloc | apply gr_drewed | apply gr_alloced)))) (fun hHeld => ?_)
        clear hK K
        try simp only [Act.put, List.setIfInBounds_toArray, List.set_cons_zero, List.set_cons_succ]
        refine wpAnyH_ready (rs := [4]) (by kernel_rfl) (by simp) (AllReadyH.cons rfl (fun K hK => ?_) (AllReadyH.nil))
        go_simp
        refine (sum2_at _ _ _ _ _ (by (try simp only [heap_drew]); repeat (first | (apply laid_at; simp; done) | apply laid_old))).mono ?_
        rintro e w' ⟨rfl, rfl⟩
        dsimp only
        refine hK.out _ _ (by (refine HS.held ?_ ?_ <;> (repeat (first | exact HH.out | exact hgr | apply HS.drew | apply HS.alloc | apply gr_drewed | apply gr_alloced)))) (fun hHeld => ?_)
        clear hK K
        try simp only [Act.put, List.setIfInBounds_toArray, List.set_cons_zero, List.set_cons_succ]
        refine wpAnyH_ready (rs := [23]) (by kernel_rfl) (by simp) (AllReadyH.cons rfl (fun K hK => ?_) (AllReadyH.nil))
        go_simp
        refine (sum2_at _ _ _ _ _ (by (try simp only [heap_drew]); repeat (first | (apply laid_at; simp; done) | apply laid_old))).mono ?_
        rintro e w' ⟨rfl, rfl⟩
        dsimp only
        refine hK.out _ _ (by (refine HS.held ?_ ?_ <;> (repeat (first | exact HH.out | exact hgr | apply HS.drew | apply HS.alloc | apply gr_drewed | apply gr_alloced)))) (fun hHeld => ?_)
        clear hK K
        try simp only [Act.put, List.setIfInBounds_toArray, List.set_cons_zero, List.set_cons_succ]
        refine take_at (i := 36) (d := some 93) (v := ?_) rfl rfl (by kernel_rfl) (by kernel_rfl) (by kernel_rfl) (fun _ _ _ h => h) (Or.inl ⟨by rfl, ?_⟩) (by assumption) ?_; rotate_left; · (intro w' hSw; (try dsimp only at hSw); go_simp; (try with_reducible rfl))
        try simp only [Act.put, List.setIfInBounds_toArray, List.set_cons_zero, List.set_cons_succ]
        refine take_at (i := 37) (d := some 94) (v := ?_) rfl rfl (by kernel_rfl) (by kernel_rfl) (by kernel_rfl) (fun _ _ _ h => h) (Or.inl ⟨by rfl, ?_⟩) (by assumption) ?_; rotate_left; · (intro w' hSw; (try dsimp only at hSw); go_simp; (try with_reducible rfl))
        try simp only [Act.put, List.setIfInBounds_toArray, List.set_cons_zero, List.set_cons_succ]
        refine wpAnyH_done (by kernel_rfl) ?_ _
        have hfin := fin8 (vs := ((List.range 8).map fun i => Value.int .u32 (u (stepW st k x i)))) (st' := stepW st k x) (hHeld.1) (hHeld.2.1) rfl
        refine behind_go rfl (by rfl) ?_
        refine wp_store_mid 107 _ _ rfl hb 0 (((List.range 8).map fun i => Value.int .u32 (u (stepW st k x i))).toArray) rfl rfl (hHeld.1.there 0 8 (by omega)) infoEight (words_one _) ?_
        refine NoPanic.normal ?_
        simp only [List.toList_toArray] at hfin ⊢
        generalize World.setCells _ hb 0 _ = W2 at hfin ⊢
        have HF := Lib.hid hfin
        clear hfin hHeld HH hgr
        go_wp2
        go_end0
        exact ⟨rfl, HF.out.2, HF.out.1⟩
    · skip
      go_simp
      refine hK.out _ _ (by (refine HS.held ?_ ?_ <;> (repeat (first | exact HH.out | exact hgr | apply HS.drew | apply HS.alloc | apply gr_drewed | apply gr_alloced)))) (fun hHeld => ?_)
      clear hK K
      try simp only [Act.put, List.setIfInBounds_toArray, List.set_cons_zero, List.set_cons_succ]
      refine wpAnyH_ready (rs := [3]) (by kernel_rfl) (by simp) (AllReadyH.cons rfl (fun K hK => ?_) (AllReadyH.nil))
      go_simp
      refine hK.out _ _ (by (refine HS.held ?_ ?_ <;> (repeat (first | exact HH.out | exact hgr | apply HS.drew | apply HS.alloc | apply gr_drewed | apply gr_alloced)))) (fun hHeld => ?_)
      clear hK K
      try simp only [Act.put, List.setIfInBounds_toArray, List.set_cons_zero, List.set_cons_succ]
      refine wpAnyH_ready (rs := [4]) (by kernel_rfl) (by simp) (AllReadyH.cons rfl (fun K hK => ?_) (AllReadyH.nil))
      go_simp
      refine (sum2_at _ _ _ _ _ (by (try simp only [heap_drew]); repeat (first | (apply laid_at; simp; done) | apply laid_old))).mono ?_
      rintro e w' ⟨rfl, rfl⟩
      dsimp only
      refine hK.out _ _ (by (refine HS.held ?_ ?_ <;> (repeat (first | exact HH.out | exact hgr | apply HS.drew | apply HS.alloc | apply gr_drewed | apply gr_alloced)))) (fun hHeld => ?_)
      clear hK K
      try simp only [Act.put, List.setIfInBounds_toArray, List.set_cons_zero, List.set_cons_succ]
      refine wpAnyH_ready (rs := [23]) (by kernel_rfl) (by simp) (AllReadyH.cons rfl (fun K hK => ?_) (AllReadyH.nil))
      go_simp
      refine (sum2_at _ _ _ _ _ (by (try simp only [heap_drew]); repeat (first | (apply laid_at; simp; done) | apply laid_old))).mono ?_
      rintro e w' ⟨rfl, rfl⟩
      dsimp only
      refine hK.out _ _ (by (refine HS.held ?_ ?_ <;> (repeat (first | exact HH.out | exact hgr | apply HS.drew | apply HS.alloc | apply gr_drewed | apply gr_alloced)))) (fun hHeld => ?_)
      clear hK K
      try simp only [Act.put, List.setIfInBounds_toArray, List.set_cons_zero, List.set_cons_succ]
      refine take_at (i := 36) (d := some 93) (v := ?_) rfl rfl (by kernel_rfl) (by kernel_rfl) (by kernel_rfl) (fun _ _ _ h => h) (Or.inl ⟨by rfl, ?_⟩) (by assumption) ?_; rotate_left; · (intro w' hSw; (try dsimp only at hSw); go_simp; (try with_reducible rfl))
      try simp only [Act.put, List.setIfInBounds_toArray, List.set_cons_zero, List.set_cons_succ]
      refine take_at (i := 37) (d := some 94) (v := ?_) rfl rfl (by kernel_rfl) (by kernel_rfl) (by kernel_rfl) (fun _ _ _ h => h) (Or.inl ⟨by rfl, ?_⟩) (by assumption) ?_; rotate_left; · (intro w' hSw; (try dsimp only at hSw); go_simp; (try with_reducible rfl))
      try simp only [Act.put, List.setIfInBounds_toArray, List.set_cons_zero, List.set_cons_succ]
      refine wpAnyH_done (by kernel_rfl) ?_ _
      have hfin := fin8 (vs := ((List.range 8).map fun i => Value.int .u32 (u (stepW st k x i)))) (st' := stepW st k x) (hHeld.1) (hHeld.2.1) rfl
      refine behind_go rfl (by rfl) ?_
      refine wp_store_mid 107 _ _ rfl hb 0 (((List.range 8).map fun i => Value.int .u32 (u (stepW st k x i))).toArray) rfl rfl (hHeld.1.there 0 8 (by omega)) infoEight (words_one _) ?_
      refine NoPanic.normal ?_
      simp only [List.toList_toArray] at hfin ⊢
      generalize World.setCells _ hb 0 _ = W2 at hfin ⊢
      have HF := Lib.hid hfin
      clear hfin hHeld HH hgr
      go_wp2
      go_end0
      exact ⟨rfl, HF.out.2, HF.out.1⟩
end Go.Proofs.YtejknkgbkkdaiaaGreatDoor
