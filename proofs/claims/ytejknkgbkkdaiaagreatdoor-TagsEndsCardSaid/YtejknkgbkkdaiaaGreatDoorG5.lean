/-
  Merged: Sha, Hash.
-/
import Derived.Test.YtejknkgbkkdaiaaGreatDoorG4
import Derived.Deep.MidRow
import Derived.Maps.AppendAt

namespace Go.Proofs.YtejknkgbkkdaiaaGreatDoor
open Go.RowKit
set_option linter.unusedSimpArgs false
set_option linter.unusedVariables false

/-- eight words as a row -/
def l8 (a b c d e f g h : BitVec 32) : Nat → BitVec 32
  | 0 => a
  | 1 => b
  | 2 => c
  | 3 => d
  | 4 => e
  | 5 => f
  | 6 => g
  | _ => h
def maj (x y z : BitVec 32) : BitVec 32 := (x &&& y) ||| (x &&& z) ||| (y &&& z)
theorem most3_maj (x y z : BitVec 32) : mostTo 3 (fst3 x y z) 32 = maj x y z :=
  most_eq _ _ _ fun j hj => by
    rw [ones3]; unfold maj
    simp only [BitVec.getLsbD_or, BitVec.getLsbD_and]
    cases x.getLsbD j <;> cases y.getLsbD j <;> cases z.getLsbD j <;> rfl
def mix3 (x : BitVec 32) (i j k : Nat) : BitVec 32 := turn x i ^^^ turn x j ^^^ turn x k
def sml (x : BitVec 32) (i j k : Nat) : BitVec 32 := turn x i ^^^ turn x j ^^^ x >>> k
def ch (x a b : BitVec 32) : BitVec 32 := x &&& a ||| ~~~x &&& b
def stM (e f g h k w : BitVec 32) : BitVec 32 := h + mix3 e 6 11 25 + ch e f g + k + w
def stN (a b c : BitVec 32) : BitVec 32 := mix3 a 2 13 22 + maj a b c
/-- one step -/
def stepW (s : Nat → BitVec 32) (k w : BitVec 32) : Nat → BitVec 32 :=
  l8 (stM (s 4) (s 5) (s 6) (s 7) k w + stN (s 0) (s 1) (s 2)) (s 0) (s 1) (s 2) (stM (s 4) (s 5) (s 6) (s 7) k w + s 3) (s 4) (s 5) (s 6)
def nextW (f : Nat → BitVec 32) (t : Nat) : BitVec 32 := f (t - 16) + sml (f (t - 15)) 7 18 3 + f (t - 7) + sml (f (t - 2)) 17 19 10
/-- a block's words, of which k more than its own are told -/
def wl (g : Nat → BitVec 32) : Nat → Nat → BitVec 32
  | 0 => g
  | k + 1 => fun i => if i = 16 + k then nextW (wl g k) (16 + k) else wl g k i
theorem wl_at (g : Nat → BitVec 32) (k : Nat) : wl g (k + 1) (16 + k) = nextW (wl g k) (16 + k) := by simp [wl]
theorem wl_lt (g : Nat → BitVec 32) (k i : Nat) (h : i < 16 + k) : wl g (k + 1) i = wl g k i := by simp [wl]; omega
/-- the constants -/
def kl : List (BitVec 32) := [0x428a2f98#32, 0x71374491#32, 0xb5c0fbcf#32, 0xe9b5dba5#32, 0x3956c25b#32, 0x59f111f1#32, 0x923f82a4#32, 0xab1c5ed5#32,
  0xd807aa98#32, 0x12835b01#32, 0x243185be#32, 0x550c7dc3#32, 0x72be5d74#32, 0x80deb1fe#32, 0x9bdc06a7#32, 0xc19bf174#32,
  0xe49b69c1#32, 0xefbe4786#32, 0x0fc19dc6#32, 0x240ca1cc#32, 0x2de92c6f#32, 0x4a7484aa#32, 0x5cb0a9dc#32, 0x76f988da#32,
  0x983e5152#32, 0xa831c66d#32, 0xb00327c8#32, 0xbf597fc7#32, 0xc6e00bf3#32, 0xd5a79147#32, 0x06ca6351#32, 0x14292967#32,
  0x27b70a85#32, 0x2e1b2138#32, 0x4d2c6dfc#32, 0x53380d13#32, 0x650a7354#32, 0x766a0abb#32, 0x81c2c92e#32, 0x92722c85#32,
  0xa2bfe8a1#32, 0xa81a664b#32, 0xc24b8b70#32, 0xc76c51a3#32, 0xd192e819#32, 0xd6990624#32, 0xf40e3585#32, 0x106aa070#32,
  0x19a4c116#32, 0x1e376c08#32, 0x2748774c#32, 0x34b0bcb5#32, 0x391c0cb3#32, 0x4ed8aa4a#32, 0x5b9cca4f#32, 0x682e6ff3#32,
  0x748f82ee#32, 0x78a5636f#32, 0x84c87814#32, 0x8cc70208#32, 0x90befffa#32, 0xa4506ceb#32, 0xbef9a3f7#32, 0xc67178f2#32]
def kc (t : Nat) : BitVec 32 := kl.getD t 0#32
def beg : Nat → BitVec 32 := l8 0x6a09e667#32 0xbb67ae85#32 0x3c6ef372#32 0xa54ff53a#32 0x510e527f#32 0x9b05688c#32 0x1f83d9ab#32 0x5be0cd19#32
/-- the first steps -/
def rd (w : Nat → BitVec 32) (s : Nat → BitVec 32) : Nat → Nat → BitVec 32
  | 0 => s
  | t + 1 => stepW (rd w s t) (kc t) (w t)
/-- a block is taken -/
def comp (s : Nat → BitVec 32) (b : Nat → BitVec 8) : Nat → BitVec 32 := fun i => rd (wl (bw b) 48) s 64 i + s i
def blk (g : Nat → BitVec 8) (k : Nat) : Nat → BitVec 8 := fun i => g (64 * k + i)
/-- the words that the first blocks come to -/
def mid (g : Nat → BitVec 8) : Nat → Nat → BitVec 32
  | 0 => beg
  | k + 1 => comp (mid g k) (blk g k)
/-- how long the filled bytes are -/
def full (n : Nat) : Nat := 64 * ((n + 8) / 64 + 1)
def lenw (n : Nat) : Nat → BitVec 32 := fst3 (BitVec.ofNat 32 (8 * n / 4294967296)) (BitVec.ofNat 32 (8 * n)) 0#32
/-- the filled bytes -/
def fillB (g : Nat → BitVec 8) (n : Nat) : Nat → BitVec 8 := fun i =>
  if i < n then g i else if i = n then 128#8 else if i < full n - 8 then 0#8 else wb (lenw n) (i - (full n - 8))
/-- the tag of the first n bytes -/
def sha (g : Nat → BitVec 8) (n : Nat) : Nat → BitVec 8 := wb (mid (fillB g n) (full n / 64))

theorem bw_congr {g h : Nat → BitVec 8} (k : Nat) (e : ∀ i, i < 4 * k + 4 → g i = h i) : bw g k = bw h k := by
  unfold bw
  simp only [bwTo]
  rw [e (4 * k + 0) (by omega), e (4 * k + 1) (by omega), e (4 * k + 2) (by omega), e (4 * k + 3) (by omega)]
theorem wl_congr {f h : Nat → BitVec 32} (e : ∀ i, i < 16 → f i = h i) (k i : Nat) (hi : i < 16 + k) : wl f k i = wl h k i := by
  induction k generalizing i with
  | zero => exact e i hi
  | succ k ih =>
    simp only [wl]
    by_cases h1 : i = 16 + k
    · rw [if_pos h1, if_pos h1]; unfold nextW
      rw [ih _ (by omega), ih _ (by omega), ih _ (by omega), ih _ (by omega)]
    · rw [if_neg h1, if_neg h1]; exact ih i (by omega)
theorem rd_congr {f h : Nat → BitVec 32} (s : Nat → BitVec 32) (n : Nat) (e : ∀ i, i < n → f i = h i) : rd f s n = rd h s n := by
  induction n with
  | zero => rfl
  | succ n ih => simp only [rd]; rw [ih (fun i hi => e i (by omega)), e n (by omega)]
theorem comp_congr {b c : Nat → BitVec 8} (s : Nat → BitVec 32) (e : ∀ i, i < 64 → b i = c i) : comp s b = comp s c := by
  unfold comp
  rw [rd_congr s 64 (fun i hi => wl_congr (fun j hj => bw_congr j fun m hm => e m (by omega)) 48 i hi)]
theorem mid_congr {g h : Nat → BitVec 8} (k : Nat) (e : ∀ i, i < 64 * k → g i = h i) : mid g k = mid h k := by
  induction k with
  | zero => rfl
  | succ k ih =>
    simp only [mid]
    rw [ih (fun i hi => e i (by omega))]
    exact comp_congr _ fun i hi => e _ (by omega)
theorem fillB_congr {g h : Nat → BitVec 8} (n : Nat) (e : ∀ i, i < n → g i = h i) : fillB g n = fillB h n := by
  funext i
  unfold fillB
  by_cases hi : i < n
  · rw [if_pos hi, if_pos hi, e i hi]
  · rw [if_neg hi, if_neg hi]
theorem sha_congr {g h : Nat → BitVec 8} (n : Nat) (e : ∀ i, i < n → g i = h i) : sha g n = sha h n := by
  unfold sha; rw [fillB_congr n e]
theorem l8_eta (s : Nat → BitVec 32) (i : Nat) (hi : i < 8) : l8 (s 0) (s 1) (s 2) (s 3) (s 4) (s 5) (s 6) (s 7) i = s i := by
  match i, hi with
  | 0, _ => rfl
  | 1, _ => rfl
  | 2, _ => rfl
  | 3, _ => rfl
  | 4, _ => rfl
  | 5, _ => rfl
  | 6, _ => rfl
  | 7, _ => rfl

/-! What abc comes to, by the kernel: each word is worked out ahead of the next. -/
def force {α : Type} (x : BitVec 32) (k : BitVec 32 → α) : α :=
  Nat.rec (motive := fun _ => α) (k (BitVec.ofNat 32 0)) (fun n _ => k (BitVec.ofNat 32 (n + 1))) x.toNat
theorem force_eq {α : Type} (x : BitVec 32) (k : BitVec 32 → α) : force x k = k x := by
  unfold force
  have h : BitVec.ofNat 32 x.toNat = x := by simp
  revert h
  cases x.toNat with
  | zero => intro h; exact congrArg k h
  | succ n => intro h; exact congrArg k h
def extL : Nat → List (BitVec 32) → List (BitVec 32)
  | 0, l => l
  | k + 1, l => force (l.getD 15 0#32 + sml (l.getD 14 0#32) 7 18 3 + l.getD 6 0#32 + sml (l.getD 1 0#32) 17 19 10) fun x => extL k (x :: l)
def runL : List (BitVec 32) → List (BitVec 32) → BitVec 32 → BitVec 32 → BitVec 32 → BitVec 32 → BitVec 32 → BitVec 32 → BitVec 32 → BitVec 32 → List (BitVec 32)
  | k :: ks, w :: ws, a, b, c, d, e, f, g, h =>
    force (stM e f g h k w) fun m => force (m + stN a b c) fun a' => force (m + d) fun e' => runL ks ws a' a b c e' e f g
  | _, _, a, b, c, d, e, f, g, h => [a, b, c, d, e, f, g, h]
theorem rangeL (f : Nat → BitVec 32) (n j : Nat) (hj : j < n) : ((List.range n).reverse.map f).getD j 0#32 = f (n - 1 - j) := by
  simp [List.getD, hj]
theorem extL_wl (g : Nat → BitVec 32) (j : Nat) : ∀ k, extL j ((List.range (16 + k)).reverse.map (wl g k)) = (List.range (16 + k + j)).reverse.map (wl g (k + j)) := by
  induction j with
  | zero => intro k; rfl
  | succ j ih =>
    intro k
    have e : (List.range (16 + (k + 1))).reverse.map (wl g (k + 1)) = nextW (wl g k) (16 + k) :: (List.range (16 + k)).reverse.map (wl g k) := by
      rw [show 16 + (k + 1) = 16 + k + 1 by omega, List.range_succ, List.reverse_append, List.map_append, List.reverse_singleton, List.map_singleton, wl_at, List.singleton_append]
      congr 1
      apply List.map_congr_left
      intro i hi
      exact wl_lt g k i (by simpa using hi)
    unfold extL
    rw [force_eq, rangeL _ _ _ (by omega), rangeL _ _ _ (by omega), rangeL _ _ _ (by omega), rangeL _ _ _ (by omega)]
    rw [show 16 + k - 1 - 15 = 16 + k - 16 by omega, show 16 + k - 1 - 14 = 16 + k - 15 by omega, show 16 + k - 1 - 6 = 16 + k - 7 by omega, show 16 + k - 1 - 1 = 16 + k - 2 by omega]
    have h2 := ih (k + 1)
    rw [e] at h2
    show extL j (nextW (wl g k) (16 + k) :: _) = _
    rw [h2]
    rw [show 16 + (k + 1) + j = 16 + k + (j + 1) by omega, show k + 1 + j = k + (j + 1) by omega]
theorem runL_rd (w : Nat → BitVec 32) (s : Nat → BitVec 32) (n : Nat) : ∀ t, ∀ a b c d e f g h, l8 a b c d e f g h = rd w s t → (runL ((List.range' t n).map kc) ((List.range' t n).map w) a b c d e f g h).length = 8 ∧
    ∀ i, i < 8 → (runL ((List.range' t n).map kc) ((List.range' t n).map w) a b c d e f g h).getD i 0#32 = rd w s (t + n) i := by
  induction n with
  | zero =>
    intro t a b c d e f g h hs
    rw [show t + 0 = t by omega, ← hs]
    refine ⟨rfl, fun i hi => ?_⟩
    match i, hi with
    | 0, _ => rfl
    | 1, _ => rfl
    | 2, _ => rfl
    | 3, _ => rfl
    | 4, _ => rfl
    | 5, _ => rfl
    | 6, _ => rfl
    | 7, _ => rfl
  | succ n ih =>
    intro t a b c d e f g h hs
    rw [List.range'_succ, List.map_cons, List.map_cons]
    unfold runL
    rw [force_eq, force_eq, force_eq]
    rw [show t + (n + 1) = t + 1 + n by omega]
    refine ih (t + 1) _ _ _ _ _ _ _ _ ?_
    show _ = stepW (rd w s t) (kc t) (w t)
    rw [← hs]
    rfl
def compL (s : List (BitVec 32)) (ws : List (BitVec 32)) : List (BitVec 32) :=
  runL kl (extL 48 ws.reverse).reverse (s.getD 0 0#32) (s.getD 1 0#32) (s.getD 2 0#32) (s.getD 3 0#32) (s.getD 4 0#32) (s.getD 5 0#32) (s.getD 6 0#32) (s.getD 7 0#32)
theorem kl_range : kl = (List.range' 0 64).map kc := by decide +kernel
theorem compL_eq (s : Nat → BitVec 32) (l ws : List (BitVec 32)) (b : Nat → BitVec 8) (hl : ∀ i, i < 8 → l.getD i 0#32 = s i) (hs : s = l8 (s 0) (s 1) (s 2) (s 3) (s 4) (s 5) (s 6) (s 7)) (hw : ws = (List.range 16).map (bw b)) (i : Nat) (hi : i < 8) :
    comp s b i = (compL l ws).getD i 0#32 + l.getD i 0#32 := by
  unfold comp compL
  rw [hl i hi, hl 0 (by omega), hl 1 (by omega), hl 2 (by omega), hl 3 (by omega), hl 4 (by omega), hl 5 (by omega), hl 6 (by omega), hl 7 (by omega)]
  have e : (extL 48 ws.reverse).reverse = (List.range' 0 64).map (wl (bw b) 48) := by
    have h := extL_wl (bw b) 48 0
    rw [hw, ← List.map_reverse]
    rw [show wl (bw b) 0 = bw b from rfl, show 16 + 0 = 16 from rfl] at h
    rw [h, ← List.map_reverse, List.reverse_reverse, List.range_eq_range']
  rw [e, kl_range]
  rw [(runL_rd (wl (bw b) 48) s 64 0 _ _ _ _ _ _ _ _ hs.symm).2 i hi]
/-- abc -/
def abcB : Nat → BitVec 8 := fst3 97#8 98#8 99#8
def abcT : List (BitVec 8) := [0xba#8, 0x78#8, 0x16#8, 0xbf#8, 0x8f#8, 0x01#8, 0xcf#8, 0xea#8, 0x41#8, 0x41#8, 0x40#8, 0xde#8, 0x5d#8, 0xae#8, 0x22#8, 0x23#8, 0xb0#8, 0x03#8, 0x61#8, 0xa3#8, 0x96#8, 0x17#8, 0x7a#8, 0x9c#8, 0xb4#8, 0x10#8, 0xff#8, 0x61#8, 0xf2#8, 0x00#8, 0x15#8, 0xad#8]
def abcW : List (BitVec 32) := [0x61626380#32, 0#32, 0#32, 0#32, 0#32, 0#32, 0#32, 0#32, 0#32, 0#32, 0#32, 0#32, 0#32, 0#32, 0#32, 0x18#32]
def begL : List (BitVec 32) := [0x6a09e667#32, 0xbb67ae85#32, 0x3c6ef372#32, 0xa54ff53a#32, 0x510e527f#32, 0x9b05688c#32, 0x1f83d9ab#32, 0x5be0cd19#32]
theorem abc_words : abcW = (List.range 16).map (bw (blk (fillB abcB 3) 0)) := by decide +kernel
def abcC : List (BitVec 32) := [0x506e3058#32, 0xd39a2165#32, 0x04d24d6c#32, 0xb85e2ce9#32, 0x5ef50f24#32, 0xfb121210#32, 0x948d25b6#32, 0x961f4894#32]
theorem abc_comp : compL begL abcW = abcC := by decide +kernel
theorem abc_sha (i : Nat) (hi : i < 32) : sha abcB 3 i = abcT.getD i 0#8 := by
  have hc : ∀ j, j < 8 → mid (fillB abcB 3) 1 j = abcC.getD j 0#32 + begL.getD j 0#32 := fun j hj => by
    show comp beg (blk (fillB abcB 3) 0) j = _
    rw [compL_eq beg begL abcW _ (by decide) (by funext k; rfl) abc_words j hj, abc_comp]
  have h1 : sha abcB 3 i = wb (fun j => abcC.getD j 0#32 + begL.getD j 0#32) i := by
    show wb (mid (fillB abcB 3) 1) i = _
    unfold wb
    rw [hc (i / 4) (by omega)]
  rw [h1]
  have h2 : ∀ k, k < 32 → wb (fun j => abcC.getD j 0#32 + begL.getD j 0#32) k = abcT.getD k 0#8 := by decide +kernel
  exact h2 i hi
end Go.Proofs.YtejknkgbkkdaiaaGreatDoor

namespace Go.Proofs.YtejknkgbkkdaiaaGreatDoor
open Go.RowKit
set_option linter.unusedSimpArgs false
set_option linter.unusedVariables false

theorem below_gr {w w' : World} (h : Below w.heap.size w w') (row : Option Nat) : w.grownBy w' row := ⟨h.os, h.tape, h.output, h.size, fun k hk _ => h.block k hk⟩
theorem gr_below {B hb : Nat} {w w' : World} (h : w.grownBy w' (some hb)) (hB : B ≤ hb) (hs : B ≤ w.heap.size) : Below B w w' :=
  ⟨h.os, h.tape, h.output, h.size, fun k hk => h.block k (by omega) (by simp; omega)⟩
theorem gr_alloc {hb : Nat} {w : World} (o : Obj) : w.grownBy (w.alloc o) (some hb) := World.grownBy_alloc w o _
theorem gr_drew {row : Option Nat} {w : World} : w.grownBy w.drew row := ⟨rfl, rfl, rfl, Nat.le_refl _, fun _ _ _ => rfl⟩
theorem gr_setCell {hb i : Nat} {w : World} (v : Value) : w.grownBy (w.setCell ⟨hb, i, none⟩ v) (some hb) :=
  ⟨rfl, rfl, rfl, by simp [World.setCell], fun k _ hk => Below.heap_setCell w _ v k (fun e => hk (by rw [e]))⟩
theorem gr_setCells {hb : Nat} (vs : List Value) : ∀ (o : Nat) (w : World), w.grownBy (w.setCells hb o vs) (some hb) := by
  induction vs with
  | nil => intro o w; exact World.grownBy.refl _ _
  | cons v r ih => intro o w; exact (gr_setCell v).trans (ih (o + 1) _)

theorem cell_ne {w : World} {b i j : Nat} {v : Value} (h : i ≠ j) : (w.setCell ⟨b, i, none⟩ v).cell? ⟨b, j, none⟩ = w.cell? ⟨b, j, none⟩ :=
  World.cell?_setCell_other w _ _ v (by simp [h])
theorem fro_eq {w : World} {b i j : Nat} {v : Value} : (w.setCell ⟨b, i, none⟩ v).frozen? ⟨b, j, none⟩ = w.frozen? ⟨b, j, none⟩ := World.frozen?_setCell w _ _ v
/-- the cells of a hasher at block hb: eight words, the open block, the length, whom it takes for its own -/
structure HS (w : World) (hb : Nat) (st : Nat → BitVec 32) (op : Nat → BitVec 8) (n : Nat) (own : Option Addr) : Prop where
  lt : hb < w.heap.size
  word : ∀ i, i < 8 → w.cell? ⟨hb, i, none⟩ = some (.int .u32 (u (st i)))
  byte : ∀ j, j < 64 → w.cell? ⟨hb, 8 + j, none⟩ = some (.int .u8 (ub (op j)))
  len : w.cell? ⟨hb, 72, none⟩ = some (.int .i64 n)
  own : w.cell? ⟨hb, 73, none⟩ = some (.pointer own)
  free : ∀ i, w.frozen? ⟨hb, i, none⟩ = false
section
variable {w w' : World} {hb n : Nat} {st st' : Nat → BitVec 32} {op op' : Nat → BitVec 8} {own : Option Addr}
theorem HS.of_block (h : HS w hb st op n own) (hs : w.heap.size ≤ w'.heap.size) (e : w'.heap[hb]? = w.heap[hb]?) : HS w' hb st op n own :=
  ⟨Nat.lt_of_lt_of_le h.lt hs, fun i hi => (World.cell?_of_block (a := ⟨hb, i, none⟩) e).trans (h.word i hi), fun i hi => (World.cell?_of_block (a := ⟨hb, 8 + i, none⟩) e).trans (h.byte i hi),
   (World.cell?_of_block (a := ⟨hb, 72, none⟩) e).trans h.len, (World.cell?_of_block (a := ⟨hb, 73, none⟩) e).trans h.own, fun i => (World.frozen?_of_block (a := ⟨hb, i, none⟩) e).trans (h.free i)⟩
theorem HS.gr {row : Option Nat} (h : HS w hb st op n own) (g : w.grownBy w' row) (hne : some hb ≠ row) : HS w' hb st op n own := h.of_block g.size (g.block hb h.lt hne)
theorem HS.below {B : Nat} (h : HS w hb st op n own) (g : Below B w w') (hB : hb < B) : HS w' hb st op n own := h.of_block g.size (g.block hb hB)
theorem HS.below' (h : HS w hb st op n own) (g : Below w.heap.size w w') : HS w' hb st op n own := h.below g h.lt
theorem HS.alloc (h : HS w hb st op n own) (o : Obj) : HS (w.alloc o) hb st op n own := h.gr (World.grownBy_alloc w o none) (by simp)
theorem HS.drew (h : HS w hb st op n own) : HS w.drew hb st op n own := h.of_block (Nat.le_refl _) rfl
theorem HS.congr (h : HS w hb st op n own) (e : ∀ i, i < 8 → st i = st' i) (e' : ∀ i, i < 64 → op i = op' i) : HS w hb st' op' n own :=
  ⟨h.lt, fun i hi => by rw [← e i hi]; exact h.word i hi, fun i hi => by rw [← e' i hi]; exact h.byte i hi, h.len, h.own, h.free⟩
theorem HS.is (h : HS w hb st op n own) (i : Nat) (hi : i < 74) : (w.cell? ⟨hb, i, none⟩).isSome = true := by
  by_cases h1 : i < 8
  · rw [h.word i h1]; rfl
  · by_cases h2 : i < 72
    · have := h.byte (i - 8) (by omega)
      rw [show 8 + (i - 8) = i by omega] at this
      rw [this]; rfl
    · rcases (show i = 72 ∨ i = 73 by omega) with rfl | rfl
      · rw [h.len]; rfl
      · rw [h.own]; rfl
theorem setCells_other {vs : List Value} {o i : Nat} {w : World} (h : i < o ∨ o + vs.length ≤ i) : (w.setCells hb o vs).cell? ⟨hb, i, none⟩ = w.cell? ⟨hb, i, none⟩ :=
  World.cell?_setCells_out hb vs o w _ (fun _ _ => h)
theorem size_setCells (vs : List Value) : ∀ (o : Nat) (w : World), (w.setCells hb o vs).heap.size = w.heap.size := by
  induction vs with
  | nil => intro o w; rfl
  | cons v r ih => intro o w; exact (ih _ _).trans (by simp [World.setCell])
/-- all eight words are laid anew -/
theorem HS.setWords (h : HS w hb st op n own) (vs : List Value) (hv : vs = (List.range 8).map fun i => .int .u32 (u (st' i))) : HS (w.setCells hb 0 vs) hb st' op n own := by
  have hl : vs.length = 8 := by rw [hv]; simp
  refine ⟨by rw [size_setCells]; exact h.lt, fun i hi => ?_, fun j hj => (setCells_other (by omega)).trans (h.byte j hj), (setCells_other (by omega)).trans h.len, (setCells_other (by omega)).trans h.own, fun i => (World.frozen?_setCells _ _ _ _ _).trans (h.free i)⟩
  have := World.cell?_setCells_in hb vs 0 w (fun j hj => by rw [Nat.zero_add]; exact h.is j (by omega)) i (by omega)
  rw [Nat.zero_add] at this
  rw [this]
  subst hv
  simp
/-- one word is laid anew -/
theorem HS.setWord (h : HS w hb st op n own) (i : Nat) (hi : i < 8) (x : BitVec 32) (hx : st' i = x) (ho : ∀ j, j < 8 → j ≠ i → st' j = st j) : HS (w.setCell ⟨hb, i, none⟩ (.int .u32 (u x))) hb st' op n own := by
  refine ⟨by simpa [World.setCell] using h.lt, fun j hj => ?_, fun j hj => (cell_ne (by omega)).trans (h.byte j hj), (cell_ne (by omega)).trans h.len, (cell_ne (by omega)).trans h.own, fun i => fro_eq.trans (h.free i)⟩
  by_cases e : j = i
  · subst e
    rw [World.cell?_setCell_same' _ _ _ (h.is j (by omega)), hx]
  · rw [cell_ne (Ne.symm e), ho j hj e]; exact h.word j hj
theorem HS.setLen (h : HS w hb st op n own) (m : Nat) (v : Value) (hv : v = .int .i64 m) : HS (w.setCell ⟨hb, 72, none⟩ v) hb st op m own := by
  subst hv
  exact ⟨by simpa [World.setCell] using h.lt, fun j hj => (cell_ne (by omega)).trans (h.word j hj), fun j hj => (cell_ne (by omega)).trans (h.byte j hj),
    World.cell?_setCell_same' _ _ _ (h.is 72 (by omega)), (cell_ne (by omega)).trans h.own, fun i => fro_eq.trans (h.free i)⟩
theorem HS.setOwn {own' : Option Addr} (h : HS w hb st op n own) (v : Value) (hv : v = .pointer own') : HS (w.setCell ⟨hb, 73, none⟩ v) hb st op n own' := by
  subst hv
  exact ⟨by simpa [World.setCell] using h.lt, fun j hj => (cell_ne (by omega)).trans (h.word j hj), fun j hj => (cell_ne (by omega)).trans (h.byte j hj),
    (cell_ne (by omega)).trans h.len, World.cell?_setCell_same' _ _ _ (h.is 73 (by omega)), fun i => fro_eq.trans (h.free i)⟩
/-- some bytes of the open block are laid anew -/
theorem HS.setBytes (h : HS w hb st op n own) (o m : Nat) (hm : o + m ≤ 64) (vs : List Value) (hv : vs = (List.range m).map fun i => .int .u8 (ub (op' (o + i)))) (ho : ∀ j, j < o ∨ o + m ≤ j → op' j = op j) : HS (w.setCells hb (8 + o) vs) hb st op' n own := by
  have hl : vs.length = m := by rw [hv]; simp
  refine ⟨by rw [size_setCells]; exact h.lt, fun i hi => (setCells_other (by omega)).trans (h.word i hi), fun j hj => ?_, (setCells_other (by omega)).trans h.len, (setCells_other (by omega)).trans h.own, fun i => (World.frozen?_setCells _ _ _ _ _).trans (h.free i)⟩
  by_cases hin : o ≤ j ∧ j < o + m
  · have := World.cell?_setCells_in hb vs (8 + o) w (fun i hi => h.is _ (by omega)) (j - o) (by omega)
    rw [show 8 + o + (j - o) = 8 + j by omega] at this
    rw [this]
    subst hv
    simp [show o + (j - o) = j by omega]
  · rw [setCells_other (by omega), ho j (by omega)]; exact h.byte j hj
end
/-- the cells as a list -/
def hcells (st : Nat → BitVec 32) (op : Nat → BitVec 8) (n : Nat) (own : Option Addr) : List Value :=
  ((List.range 8).map fun i => Value.int .u32 (u (st i))) ++ ((List.range 64).map fun i => Value.int .u8 (ub (op i))) ++ [.int .i64 n, .pointer own]
theorem hcells_len (st : Nat → BitVec 32) (op : Nat → BitVec 8) (n : Nat) (own : Option Addr) : (hcells st op n own).length = 74 := by simp [hcells]
theorem hcells_word (st : Nat → BitVec 32) (op : Nat → BitVec 8) (n : Nat) (own : Option Addr) (i : Nat) (hi : i < 8) : (hcells st op n own)[i]? = some (.int .u32 (u (st i))) := by
  unfold hcells
  rw [List.append_assoc, List.getElem?_append_left (by simp; omega)]; simp [hi]
theorem hcells_byte (st : Nat → BitVec 32) (op : Nat → BitVec 8) (n : Nat) (own : Option Addr) (j : Nat) (hj : j < 64) : (hcells st op n own)[8 + j]? = some (.int .u8 (ub (op j))) := by
  unfold hcells
  rw [List.append_assoc, List.getElem?_append_right (by simp), List.getElem?_append_left (by simp; omega)]; simp [hj]
theorem hcells_72 (st : Nat → BitVec 32) (op : Nat → BitVec 8) (n : Nat) (own : Option Addr) : (hcells st op n own)[72]? = some (.int .i64 n) := by
  unfold hcells
  rw [List.getElem?_append_right (by simp)]; simp
theorem hcells_73 (st : Nat → BitVec 32) (op : Nat → BitVec 8) (n : Nat) (own : Option Addr) : (hcells st op n own)[73]? = some (.pointer own) := by
  unfold hcells
  rw [List.getElem?_append_right (by simp)]; simp
theorem HS.of_cells {w : World} {hb : Nat} {st : Nat → BitVec 32} {op : Nat → BitVec 8} {n : Nat} {own : Option Addr} {t : TypeId} (h : w.heap[hb]? = some (.cells (hcells st op n own).toArray t (0, 0))) : HS w hb st op n own := by
  have hc : ∀ i, w.cell? ⟨hb, i, none⟩ = (hcells st op n own)[i]? := fun i => by rw [cell_of_row w hb i _ t (0, 0) h]; simp
  exact ⟨(Array.getElem?_eq_some_iff.1 h).1, fun i hi => (hc i).trans (hcells_word _ _ _ _ i hi), fun i hi => (hc _).trans (hcells_byte _ _ _ _ i hi), (hc _).trans (hcells_72 _ _ _ _), (hc _).trans (hcells_73 _ _ _ _),
    fun i => frozen_of_row w hb i _ t h⟩
theorem HS.range {w : World} {hb : Nat} {st : Nat → BitVec 32} {op : Nat → BitVec 8} {n : Nat} {own : Option Addr} (h : HS w hb st op n own) : w.rangeAt hb 0 (hcells st op n own) := fun j v hv => by
  rw [Nat.zero_add]
  have hj : j < 74 := by have := (List.getElem?_eq_some_iff.1 hv).1; rwa [hcells_len] at this
  by_cases h1 : j < 8
  · rw [hcells_word _ _ _ _ j h1] at hv; rw [← hv]; exact h.word j h1
  · by_cases h2 : j < 72
    · have e := hcells_byte st op n own (j - 8) (by omega)
      have c := h.byte (j - 8) (by omega)
      rw [show 8 + (j - 8) = j by omega] at e c
      rw [e] at hv; rw [← hv]; exact c
    · rcases (show j = 72 ∨ j = 73 by omega) with rfl | rfl
      · rw [hcells_72] at hv; rw [← hv]; exact h.len
      · rw [hcells_73] at hv; rw [← hv]; exact h.own
theorem HS.wordsAt {w : World} {hb : Nat} {st : Nat → BitVec 32} {op : Nat → BitVec 8} {n : Nat} {own : Option Addr} (h : HS w hb st op n own) : w.rangeAt hb 0 ((List.range 8).map fun i => .int .u32 (u (st i))) := fun j v hv => by
  have hj : j < 8 := by have := (List.getElem?_eq_some_iff.1 hv).1; simpa using this
  rw [Nat.zero_add, h.word j hj, ← hv]; simp [hj]
theorem HS.bytesAt {w : World} {hb : Nat} {st : Nat → BitVec 32} {op : Nat → BitVec 8} {n : Nat} {own : Option Addr} (h : HS w hb st op n own) : w.rangeAt hb 8 ((List.range 64).map fun i => .int .u8 (ub (op i))) := fun j v hv => by
  have hj : j < 64 := by have := (List.getElem?_eq_some_iff.1 hv).1; simpa using this
  rw [h.byte j hj, ← hv]; simp [hj]
theorem HS.there {w : World} {hb : Nat} {st : Nat → BitVec 32} {op : Nat → BitVec 8} {n : Nat} {own : Option Addr} (h : HS w hb st op n own) (o m : Nat) (hm : o + m ≤ 74) : w.there hb o m := fun j hj => ⟨h.is _ (by omega), h.free _⟩
/-- the constants' cells -/
def Kc (B : Nat) (w : World) : Prop := 1 < B ∧ ∀ i, i < 64 → w.cell? ⟨1, i, none⟩ = some (.int .u32 (u (kc i)))
theorem Kc.below {B : Nat} {w w' : World} (h : Kc B w) (hb : Below B w w') : Kc B w' := ⟨h.1, fun i hi => by rw [hb.cell (p := ⟨_, i, none⟩) h.1]; exact h.2 i hi⟩
theorem Kc.mono {B B' : Nat} {w : World} (h : Kc B w) (hb : B ≤ B') : Kc B' w := ⟨Nat.lt_of_lt_of_le h.1 hb, h.2⟩
/-- a hasher of the first n of some bytes -/
def HH (w : World) (hb : Nat) (g : Nat → BitVec 8) (n : Nat) (own : Option Addr) : Prop :=
  ∃ op, HS w hb (mid g (n / 64)) op n own ∧ ∀ j, j < n % 64 → op j = g (64 * (n / 64) + j)
end Go.Proofs.YtejknkgbkkdaiaaGreatDoor
