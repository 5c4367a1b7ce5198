/-
  The walk of the law BitsEnds: a closed statement, by the walks of the laws that it asks.
-/
import Derived.Test.YtgkaoagalifklaaBackLaw
namespace Go.Proofs.Ytgkaoagalifklaa
open Go.RowKit
set_option linter.unusedVariables false

def endW (i : Nat) : BitVec 32 := [0#32, 1#32, 2#32, 3#32, 2147483648#32, 4294967295#32, 2147483649#32, 305419896#32, 2863311530#32].getD i 0#32
def endN (i : Nat) : Int := [-9223372036854775808, -65, -64, -33, -32, -31, -1, 0, 1, 31, 32, 33, 63, 64, 65, 9223372036854775807].getD i 0
def endWs : Array Value := #[.int .u32 0, .int .u32 1, .int .u32 2, .int .u32 3, .int .u32 2147483648, .int .u32 4294967295, .int .u32 2147483649, .int .u32 305419896, .int .u32 2863311530]
def endNs : Array Value := #[.int .i64 (-9223372036854775808), .int .i64 (-65), .int .i64 (-64), .int .i64 (-33), .int .i64 (-32), .int .i64 (-31), .int .i64 (-1), .int .i64 0, .int .i64 1, .int .i64 31, .int .i64 32, .int .i64 33, .int .i64 63, .int .i64 64, .int .i64 65, .int .i64 9223372036854775807]
def endBs : Array Value := #[.int .u8 255, .int .u8 0, .int .u8 1, .int .u8 128, .int .u8 7, .int .u8 8, .int .u8 9, .int .u8 10, .int .u8 11]
def endB (i : Nat) : BitVec 8 := [255#8, 0#8, 1#8, 128#8, 7#8, 8#8, 9#8, 10#8, 11#8].getD i 0#8
theorem endW_at : ∀ i, i < 9 → endWs[i]? = some (.int .u32 (u (endW i))) := by
  intro i hi
  rcases (show i = 0 ∨ i = 1 ∨ i = 2 ∨ i = 3 ∨ i = 4 ∨ i = 5 ∨ i = 6 ∨ i = 7 ∨ i = 8 by omega) with rfl | rfl | rfl | rfl | rfl | rfl | rfl | rfl | rfl
  all_goals rfl
theorem endB_at : ∀ i, i < 9 → endBs[i]? = some (.int .u8 (ub (endB i))) := by
  intro i hi
  rcases (show i = 0 ∨ i = 1 ∨ i = 2 ∨ i = 3 ∨ i = 4 ∨ i = 5 ∨ i = 6 ∨ i = 7 ∨ i = 8 by omega) with rfl | rfl | rfl | rfl | rfl | rfl | rfl | rfl | rfl
  all_goals rfl
theorem endN_at : ∀ i, i < 16 → endNs[i]? = some (.int .i64 (endN i)) := by
  intro i hi
  rcases (show i = 0 ∨ i = 1 ∨ i = 2 ∨ i = 3 ∨ i = 4 ∨ i = 5 ∨ i = 6 ∨ i = 7 ∨ i = 8 ∨ i = 9 ∨ i = 10 ∨ i = 11 ∨ i = 12 ∨ i = 13 ∨ i = 14 ∨ i = 15 by omega) with rfl | rfl | rfl | rfl | rfl | rfl | rfl | rfl | rfl | rfl | rfl | rfl | rfl | rfl | rfl | rfl
  all_goals rfl
theorem endN_wf (i : Nat) : -9223372036854775808 ≤ endN i ∧ endN i ≤ 9223372036854775807 := by
  by_cases h : i < 16
  · rcases (show i = 0 ∨ i = 1 ∨ i = 2 ∨ i = 3 ∨ i = 4 ∨ i = 5 ∨ i = 6 ∨ i = 7 ∨ i = 8 ∨ i = 9 ∨ i = 10 ∨ i = 11 ∨ i = 12 ∨ i = 13 ∨ i = 14 ∨ i = 15 by omega) with rfl | rfl | rfl | rfl | rfl | rfl | rfl | rfl | rfl | rfl | rfl | rfl | rfl | rfl | rfl | rfl
    all_goals decide
  · have : endN i = 0 := by unfold endN; simp [show ¬ i < 16 by omega]
    omega
theorem wf_i64' {n : Int} (h0 : -9223372036854775808 ≤ n) (h1 : n ≤ 9223372036854775807) : (Lit.int .i64 n).wf = true := by
  simp [Lit.wf, IntKind.min, IntKind.max, IntKind.signed, IntKind.bits]; omega
theorem wf_u (x : BitVec 32) : (Lit.int .u32 (u x)).wf = true := by
  have := u_lo x; have := u_hi x
  simp [Lit.wf, IntKind.min, IntKind.max, IntKind.signed, IntKind.bits]; omega
theorem wf_ub (x : BitVec 8) : (Lit.int .u8 (ub x)).wf = true := by
  have := ub_lo x; have := ub_hi x
  simp [Lit.wf, IntKind.min, IntKind.max, IntKind.signed, IntKind.bits]; omega

/-- the law of turns at words and numbers that are there -/
theorem turns_ex (x : BitVec 32) (n : Int) (p : Option Addr) (len cap : Nat) (w : World) (h0 : -9223372036854775808 ≤ n) (h1 : n ≤ 9223372036854775807) (hm : len ≤ 1000000) (hp : p = none → len = 0 ∧ cap = 0)
    (hex : ∃ h : Nat → Int, (∀ i, -9223372036854775808 ≤ h i ∧ h i ≤ 9223372036854775807) ∧ Reads w.heap.size w p len (fun i => .int .i64 (h i))) :
    Calls Try.prog 3 #[.int .u32 (u x), .int .i64 n, .slice p len cap] w fun e w' => e = .returned (.bool true) ∧ Below w.heap.size w w' := by
  obtain ⟨h, hh, hr⟩ := hex
  exact turns_walk x n p len cap h w h0 h1 hr hp (by unfold maxLen; omega) (fun i _ => wf_i64' (hh i).1 (hh i).2)
theorem places_ex (x a b : BitVec 32) (p : Option Addr) (len cap : Nat) (w : World) (hm : len ≤ 1000000) (hp : p = none → len = 0 ∧ cap = 0)
    (hex : ∃ f : Nat → BitVec 32, Reads w.heap.size w p len (fun i => .int .u32 (u (f i)))) :
    Calls Try.prog 4 #[.int .u32 (u x), .int .u32 (u a), .int .u32 (u b), .slice p len cap] w fun e w' => e = .returned (.bool true) ∧ Below w.heap.size w w' := by
  obtain ⟨f, hr⟩ := hex
  exact places_walk x a b p len cap (fun i => u (f i)) w hr hp (by unfold maxLen; omega) (fun i _ => wf_u _)
theorem bytes_ex (p : Option Addr) (len cap : Nat) (p2 : Option Addr) (len2 cap2 : Nat) (w : World) (hm : len ≤ 1000000) (hm2 : len2 ≤ 1000000) (hp : p = none → len = 0 ∧ cap = 0) (hp2 : p2 = none → len2 = 0 ∧ cap2 = 0)
    (hex : ∃ f : Nat → BitVec 32, Reads w.heap.size w p len (fun i => .int .u32 (u (f i)))) (hex2 : ∃ g : Nat → BitVec 8, Reads w.heap.size w p2 len2 (fun i => .int .u8 (ub (g i)))) :
    Calls Try.prog 5 #[.slice p len cap, .slice p2 len2 cap2] w fun e w' => e = .returned (.bool true) ∧ Below w.heap.size w w' := by
  obtain ⟨f, hr⟩ := hex
  obtain ⟨g, hr2⟩ := hex2
  exact bytes_walk p len cap (fun i => u (f i)) p2 len2 cap2 (fun i => ub (g i)) w hr hp (fun i _ => wf_u _) hr2 hp2 (fun i _ => wf_ub _) (by omega) (by omega)

theorem fst3_wf {a b c : Int} (ha : -9223372036854775808 ≤ a ∧ a ≤ 9223372036854775807) (hb : -9223372036854775808 ≤ b ∧ b ≤ 9223372036854775807) (hc : -9223372036854775808 ≤ c ∧ c ≤ 9223372036854775807) (i : Nat) :
    -9223372036854775808 ≤ fst3 a b c i ∧ fst3 a b c i ≤ 9223372036854775807 := by
  match i with
  | 0 => exact ha
  | 1 => exact hb
  | _ + 2 => exact hc
/-- the law of turns at three numbers that were laid just now -/
theorem turns_lit (x : BitVec 32) (n a b : Int) (w : World) (H : Nat) (t : TypeId) (hH : H = w.heap.size) (h0 : -9223372036854775808 ≤ n ∧ n ≤ 9223372036854775807) (ha : -9223372036854775808 ≤ a ∧ a ≤ 9223372036854775807) (hb : -9223372036854775808 ≤ b ∧ b ≤ 9223372036854775807) :
    Calls Try.prog 3 #[.int .u32 (u x), .int .i64 n, .slice (some ⟨H, 0, none⟩) 3 3] (w.alloc (.cells #[.int .i64 a, .int .i64 7, .int .i64 b] t)).drew fun e w' => e = .returned (.bool true) ∧ Below (w.heap.size + 1) (w.alloc (.cells #[.int .i64 a, .int .i64 7, .int .i64 b] t)).drew w' := by
  subst hH
  have hr : Reads (w.heap.size + 1) (w.alloc (.cells #[.int .i64 a, .int .i64 7, .int .i64 b] t)) (some ⟨w.heap.size, 0, none⟩) 3 (fun i => .int .i64 (fst3 a 7 b i)) := reads_lit w _ t 3 _ (fun i hi => fst3_at a 7 b (fun q => Value.int .i64 q) 3 (by omega) i hi)
  refine (turns_ex x n _ 3 3 _ h0.1 h0.2 (by omega) (by simp) ⟨fst3 a 7 b, fst3_wf ha (by omega) hb, (hr.below (Below.refl _ _).drew).mono (by simp)⟩).mono ?_
  rintro e w' ⟨rfl, h⟩
  exact ⟨rfl, h.mono (by simp)⟩
/-- the world in which both lists stand -/
def endW0 (w : World) : World := (w.alloc (.cells endWs 22)).alloc (.cells endNs 3)
theorem endW0_size (w : World) : (endW0 w).heap.size = w.heap.size + 2 := by unfold endW0; simp
theorem endW0_words (w : World) (j : Nat) (hj : j < 9) : (endW0 w).cell? ⟨w.heap.size, j, none⟩ = some (.int .u32 (u (endW j))) := by
  unfold endW0
  rw [World.cell?_alloc_past _ _ _ (by simp), World.cell?_alloc_at _ _ _ _ rfl]
  exact endW_at j hj
theorem endW0_numbers (w : World) (j : Nat) (hj : j < 16) : (endW0 w).cell? ⟨w.heap.size + 1, j, none⟩ = some (.int .i64 (endN j)) := by
  unfold endW0
  rw [World.cell?_alloc_at _ _ _ _ (by simp)]
  exact endN_at j hj
theorem endW0_below (w : World) : Below w.heap.size w (endW0 w) := ((Below.refl _ _).alloc (Nat.le_refl _) _).alloc (by simp) _

theorem below_draw {B : Nat} {a w : World} (h : Below B a w) : Below B a w.drew := h.drew
theorem below_new (w : World) {W : World} (h : Below (w.heap.size + 2) (endW0 w) W) (o : Obj) : Below (w.heap.size + 2) (endW0 w) (W.alloc o) :=
  h.alloc (by have := h.size; rw [endW0_size] at this; omega) o
theorem below_call (w : World) {W W' : World} (h : Below (w.heap.size + 2) (endW0 w) W) (k : Below W.heap.size W W') : Below (w.heap.size + 2) (endW0 w) W' :=
  h.trans (k.mono (by have := h.size; rw [endW0_size] at this; omega))
theorem endW0_reads (w : World) {W : World} (h : Below (w.heap.size + 2) (endW0 w) W) (n : Nat) (hn : n ≤ 9) : Reads (w.heap.size + 2) W (some ⟨w.heap.size, 0, none⟩) n (fun i => .int .u32 (u (endW i))) :=
  .inr ⟨w.heap.size, 0, rfl, by omega, fun i hi => by rw [Nat.zero_add, h.cell (p := ⟨w.heap.size, i, none⟩) (by simp)]; exact endW0_words w i (by omega)⟩
theorem turns_nil (x : BitVec 32) (n : Int) (W : World) (h : n = 0) :
    Calls Try.prog 3 #[.int .u32 (u x), .int .i64 n, .slice none 0 0] W fun e w' => e = .returned (.bool true) ∧ Below W.heap.size W w' :=
  turns_ex x n none 0 0 W (by omega) (by omega) (by omega) (by simp) ⟨fun _ => 0, fun _ => by simp, .inl rfl⟩
theorem places_some (w : World) (x a b : BitVec 32) (n : Nat) (W : World) (hn : n ≤ 9) (h : Below (w.heap.size + 2) (endW0 w) W) :
    Calls Try.prog 4 #[.int .u32 (u x), .int .u32 (u a), .int .u32 (u b), .slice (some ⟨w.heap.size, 0, none⟩) n 9] W fun e w' => e = .returned (.bool true) ∧ Below W.heap.size W w' :=
  places_ex x a b _ n 9 W (by omega) (by simp) ⟨endW, (endW0_reads w h n hn).mono (by have := h.size; rw [endW0_size] at this; omega)⟩

theorem places_two (x : BitVec 32) (W : World) (H : Nat) (t : TypeId) (hH : H = W.heap.size) :
    Calls Try.prog 4 #[.int .u32 (u x), .int .u32 (u x), .int .u32 (u x), .slice (some ⟨H, 0, none⟩) 2 2] (W.alloc (.cells #[.int .u32 (u x), .int .u32 (u (~~~x))] t)) fun e w' => e = .returned (.bool true) ∧ Below (W.alloc (.cells #[.int .u32 (u x), .int .u32 (u (~~~x))] t)).heap.size (W.alloc (.cells #[.int .u32 (u x), .int .u32 (u (~~~x))] t)) w' := by
  subst hH
  exact places_ex x x x _ 2 2 _ (by omega) (by simp) ⟨fst3 x (~~~x) 0#32, (reads_lit W _ t 2 _ (fun i hi => fst2_at x (~~~x) 0#32 (fun q => Value.int .u32 (u q)) 2 (by omega) i hi)).mono (by simp)⟩

theorem zeros_at (n j : Nat) (hj : j < n) : (madeCells #[Value.int .u8 0] n)[j]? = some (.int .u8 (ub 0#8)) := by
  have h : (madeCells #[Value.int .u8 0] n).toList[j]? = some (.int .u8 (ub 0#8)) := by
    rw [toList_madeCells_one]; simp [hj]; rfl
  simpa using h
theorem bytes_made (w : World) (n : Nat) (W : World) (H : Nat) (hn : n ≤ 9) (hH : H = W.heap.size) (h : Below (w.heap.size + 2) (endW0 w) (W.alloc (.cells (madeCells #[.int .u8 0] n) 5))) :
    Calls Try.prog 5 #[.slice (some ⟨w.heap.size, 0, none⟩) n 9, .slice (some ⟨H, 0, none⟩) n n] (W.alloc (.cells (madeCells #[.int .u8 0] n) 5)) fun e w' => e = .returned (.bool true) ∧ Below (W.alloc (.cells (madeCells #[.int .u8 0] n) 5)).heap.size (W.alloc (.cells (madeCells #[.int .u8 0] n) 5)) w' := by
  subst hH
  exact bytes_ex _ n 9 _ n n _ (by omega) (by omega) (by simp) (by simp) ⟨endW, (endW0_reads w h n hn).mono (by have := h.size; rw [endW0_size] at this; omega)⟩
    ⟨fun _ => 0#8, (reads_lit W _ _ n _ (fun i hi => zeros_at n i hi)).mono (by simp)⟩
theorem bytes_rest (w : World) (n : Nat) (W : World) (H : Nat) (hn : n ≤ 9) (hH : H = W.heap.size) (h : Below (w.heap.size + 2) (endW0 w) (W.alloc (.cells endBs 5))) :
    Calls Try.prog 5 #[.slice (some ⟨w.heap.size, n, none⟩) (9 - n) (9 - n), .slice (some ⟨H, 0, none⟩) n 9] (W.alloc (.cells endBs 5)) fun e w' => e = .returned (.bool true) ∧ Below (W.alloc (.cells endBs 5)).heap.size (W.alloc (.cells endBs 5)) w' := by
  subst hH
  have hr : Reads (W.alloc (.cells endBs 5)).heap.size (W.alloc (.cells endBs 5)) (some ⟨w.heap.size, n, none⟩) (9 - n) (fun i => .int .u32 (u (endW (n + i)))) := by
    refine .inr ⟨w.heap.size, n, rfl, by have := h.size; rw [endW0_size] at this; omega, fun i hi => ?_⟩
    rw [h.cell (p := ⟨w.heap.size, n + i, none⟩) (by simp)]; exact endW0_words w (n + i) (by omega)
  exact bytes_ex _ (9 - n) (9 - n) _ n 9 _ (by omega) (by omega) (by simp) (by simp) ⟨fun i => endW (n + i), hr⟩
    ⟨endB, ((reads_lit W endBs _ 9 _ (fun i hi => endB_at i hi)).take hn).mono (by simp)⟩

set_option maxHeartbeats 4000000 in
set_option maxRecDepth 100000 in
theorem ends_walk (w : World) :
    Calls Try.prog 6 #[] w fun e w' => e = .returned (.bool true) ∧ Below w.heap.size w w' := by
  go_enter Try.func6, Try.ntmps6
  go_wp2
  go_loopw [3] (fun i wr => ∃ n : Nat, n ≤ 9 ∧ i = .int .i64 n ∧ Below (w.heap.size + 2) (endW0 w) wr) (fun i _ => 9 - (intOf i).toNat)
  case atStart => exact ⟨0, Nat.zero_le _, rfl, Below.refl _ _⟩
  case round =>
    obtain ⟨n, hn, rfl, hbel⟩ := hrel
    by_cases hlt : n < 9
    · have d0 : decide ((n : Int) < 9) = true := by simp; omega
      have d1 : (n : Int) < 9 := by omega
      have d2 : (0 : Int) ≤ (n : Int) := by omega
      go_wp2
      obtain ⟨wo, hwo⟩ : ∃ wo : World, wo = wr := ⟨_, rfl⟩
      subst hwo
      go_loopw [4] (fun i wr => ∃ k : Nat, k ≤ 16 ∧ i = .int .i64 k ∧ Below (w.heap.size + 2) (endW0 w) wr) (fun i _ => 16 - (intOf i).toNat)
      case atStart => exact ⟨0, Nat.zero_le _, rfl, hbel⟩
      case round =>
        clear hbel
        obtain ⟨k, hk, rfl, hbel⟩ := hrel
        have hsz := hbel.size
        rw [endW0_size] at hsz
        by_cases hkl : k < 16
        · have c0 : wr.cell? ⟨w.heap.size, n, none⟩ = some (.int .u32 (u (endW n))) := (hbel.cell (p := ⟨w.heap.size, n, none⟩) (by simp)).trans (endW0_words w n hlt)
          have c1 : wr.cell? ⟨w.heap.size + 1, k, none⟩ = some (.int .i64 (endN k)) := (hbel.cell (p := ⟨w.heap.size + 1, k, none⟩) (by simp)).trans (endW0_numbers w k hkl)
          have c2 : wr.cell? ⟨w.heap.size + 1, (k + 3) % 16, none⟩ = some (.int .i64 (endN ((k + 3) % 16))) := (hbel.cell (p := ⟨w.heap.size + 1, (k + 3) % 16, none⟩) (by simp)).trans (endW0_numbers w _ (by omega))
          have HB := Lib.hid hbel
          clear hbel
          have s1 : IntKind.i64.wrap ((k : Int) + 3) = (k : Int) + 3 := IntWalk.i64_in _ (by omega)
          have s2 : ((k : Int) + 3).tmod 16 = (((k + 3) % 16 : Nat) : Int) := by rw [Int.tmod_eq_emod_of_nonneg (by omega)]; omega
          obtain ⟨j, hj⟩ : ∃ j, j = (k + 3) % 16 := ⟨_, rfl⟩
          rw [← hj] at c2 s2
          have hj16 : j < 16 := by omega
          have hj17 : (j : Int) < 16 := by omega
          have hj18 : (0 : Int) ≤ (j : Int) := by omega
          clear hj
          go_wp2
          go_region_held3 (fun w' => w'.cell? ⟨w.heap.size, n, none⟩ = some (.int .u32 (u (endW n))) ∧ w'.cell? ⟨w.heap.size + 1, k, none⟩ = some (.int .i64 (endN k)) ∧ w'.cell? ⟨w.heap.size + 1, j, none⟩ = some (.int .i64 (endN j)))
            (first
              | go_keep
              | (go_split_ands
                 refine ⟨?_, ?_, ?_⟩
                 · (rw [hbc.cell (by simp; omega)]; assumption)
                 · (rw [hbc.cell (by simp; omega)]; assumption)
                 · (rw [hbc.cell (by simp; omega)]; assumption)))
            ((go_at_call 3; refine (turns_lit (endW n) (endN k) (endN k) (endN j) _ _ _ (by simp) (endN_wf k) (endN_wf k) (endN_wf j)).mono ?_; rintro e wc ⟨rfl, hbc⟩))
          have hbel2 : Below (w.heap.size + 2) (endW0 w) wc := HB.out.trans ((((Below.refl _ wr).alloc (by omega) _).drew).trans (hbc.mono (by omega)))
          clear hbc
          go_wp2
          go_roundw
          case rel => exact ⟨k + 1, by omega, by go_num, hbel2⟩
          case measure => simp [intOf]; omega
        · obtain rfl : k = 16 := by omega
          obtain ⟨a, ha⟩ : ∃ a, a = (n + 1) % 9 := ⟨_, rfl⟩
          obtain ⟨b, hb⟩ : ∃ b, b = (n + 2) % 9 := ⟨_, rfl⟩
          have s1 : IntKind.i64.wrap ((n : Int) + 1) = (n : Int) + 1 := IntWalk.i64_in _ (by omega)
          have s2 : IntKind.i64.wrap ((n : Int) + 2) = (n : Int) + 2 := IntWalk.i64_in _ (by omega)
          have s3 : ((n : Int) + 1).tmod 9 = (a : Int) := by rw [Int.tmod_eq_emod_of_nonneg (by omega)]; omega
          have s4 : ((n : Int) + 2).tmod 9 = (b : Int) := by rw [Int.tmod_eq_emod_of_nonneg (by omega)]; omega
          have ha9 : a < 9 := by omega
          have hb9 : b < 9 := by omega
          have ha1 : (a : Int) < 9 := by omega
          have ha0 : (0 : Int) ≤ (a : Int) := by omega
          have hb1 : (b : Int) < 9 := by omega
          have hb0 : (0 : Int) ≤ (b : Int) := by omega
          clear ha hb
          have hn9 : ¬ (9 = n) := by omega
          have hn90 : (0 : Int) ≤ (n : Int) := by omega
          have hn91 : (n : Int) ≤ 9 := by omega
          have cells : ∀ W, Below (w.heap.size + 2) (endW0 w) W → W.cell? ⟨w.heap.size, n, none⟩ = some (.int .u32 (u (endW n))) ∧ W.cell? ⟨w.heap.size, a, none⟩ = some (.int .u32 (u (endW a))) ∧ W.cell? ⟨w.heap.size, b, none⟩ = some (.int .u32 (u (endW b))) ∧ Below (w.heap.size + 2) (endW0 w) W :=
            fun W h => ⟨(h.cell (p := ⟨w.heap.size, n, none⟩) (by simp)).trans (endW0_words w n hlt), (h.cell (p := ⟨w.heap.size, a, none⟩) (by simp)).trans (endW0_words w a ha9), (h.cell (p := ⟨w.heap.size, b, none⟩) (by simp)).trans (endW0_words w b hb9), h⟩
          have CELLS := Lib.hid cells
          clear cells
          obtain ⟨i0, hi, hz0, hz1, hz2⟩ := info_parts Try.infoB
          have hmk : ∀ W : World, (Instr.makeSlice 38 (.int .i64 (n : Int)) (.int .i64 (n : Int))).run Try.prog W = .ok (.slice (some ⟨W.heap.size, 0, none⟩) n n) (W.alloc (.cells (madeCells #[.int .u8 0] n) 5)) := fun W => by
            have := run_make (P := Try.prog) W 38 5 i0 (.int .u8 0) Try.underlying38 hi hz0 .i64 .i64 n n (by omega) (by omega) (by rw [hz2]; omega) (by omega)
            rw [hz1] at this
            simpa [Value.cells] using this
          clear hi hz0 hz1 hz2
          obtain ⟨h0, h1, h2, h3⟩ := CELLS.out wr hbel
          clear hbel hk hkl
          go_wp2
          simp only [List.append_eq, List.cons_append, List.nil_append]
          go_region_held3 (fun w' => w'.cell? ⟨w.heap.size, n, none⟩ = some (.int .u32 (u (endW n))) ∧ w'.cell? ⟨w.heap.size, a, none⟩ = some (.int .u32 (u (endW a))) ∧ w'.cell? ⟨w.heap.size, b, none⟩ = some (.int .u32 (u (endW b))) ∧ Below (w.heap.size + 2) (endW0 w) w')
            (first
              | exact CELLS.out _ (below_draw h3)
              | (go_split_ands; exact CELLS.out _ (below_new w (by assumption) _))
              | (go_split_ands; exact CELLS.out _ (below_call w (by assumption) hbc)))
            (first
              | (go_at_call 3; ((with_reducible refine (turns_nil (endW n) 0 _ rfl).mono ?_); rintro e wc ⟨rfl, hbc⟩))
              | (go_at_call 4; go_split_ands; ((with_reducible refine (places_some w (endW n) (endW a) (endW b) n _ (by omega) (by assumption)).mono ?_); rintro e wc ⟨rfl, hbc⟩))
              | (go_at_call 4; ((with_reducible refine (places_two (endW n) _ _ _ (by simp)).mono ?_); rintro e wc ⟨rfl, hbc⟩))
              | (go_at_call 5; go_split_ands; ((with_reducible refine (bytes_made w n _ _ (by omega) (by simp) (by assumption)).mono ?_); rintro e wc ⟨rfl, hbc⟩))
              | (go_at_call 5; go_split_ands; refine (bytes_rest w n _ _ (by omega) (by simp) (by assumption)).mono ?_; rintro e wc ⟨rfl, hbc⟩)
              | (go_at_call 5; go_show; fail))
          have hbelc : Below (w.heap.size + 2) (endW0 w) wc := (by assumption : _ ∧ _ ∧ _ ∧ Below (w.heap.size + 2) (endW0 w) wc).2.2.2
          clear hmk CELLS h0 h1 h2 h3
          go_wp2
          go_roundw
          case rel => exact ⟨n + 1, by omega, by go_num, hbelc⟩
          case measure => simp [intOf]; omega
    · obtain rfl : n = 9 := by omega
      have hsz := hbel.size
      rw [endW0_size] at hsz
      go_wp2_with fail
      refine (words_no 3 3 _ _ (by omega) (by omega)).mono ?_
      rintro e w1 ⟨rfl, hb1⟩
      have hz1 := hb1.size
      simp only [World.size_alloc] at hz1
      go_wp2_with fail
      refine (awake_any _).mono ?_
      rintro e w2 ⟨rfl, hb2⟩
      go_wp2
      go_ret
      refine ⟨rfl, (endW0_below w).trans ((hbel.mono (by omega)).trans ((((Below.refl _ wr).alloc (by omega) _).trans (hb1.mono (by simp; omega))).trans (hb2.mono (by omega))))⟩
end Go.Proofs.Ytgkaoagalifklaa
