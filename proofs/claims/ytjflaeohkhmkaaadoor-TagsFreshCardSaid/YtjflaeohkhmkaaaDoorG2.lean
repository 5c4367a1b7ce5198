/-
  Merged: LentBytes, WordsOf, RefBytes, Places, BytesLaw, Open, Sha, Hash.
-/
import Derived.Test.YtjflaeohkhmkaaaDoorG1
import Derived.StillTailTactics
import Derived.Deep.RegionHeld3
import Derived.Deep.Matrix
import Derived.Handed
import Derived.Deep.MidRow
import Derived.Maps.AppendAt

namespace Go.Proofs.YtjflaeohkhmkaaaDoor.LentBytes
open Go.RowKit
set_option linter.unusedSimpArgs false
set_option linter.unusedVariables false

/-- what stands behind the list's own elements -/
def mk (i : Nat) : Int := markB 1 i
/-- the list, and the marks behind it -/
def ext (n : Nat) (h : Nat → Int) (i : Nat) : Value := .int .u8 (if i < n then h i else mk (i - n))
set_option maxHeartbeats 400000 in
theorem same (B : Nat) (p q : Option Addr) (n m c d : Nat) (f g : Nat → Int) (w : World) (hn : n ≤ 9223372036854775807) (hm : m ≤ 9223372036854775807)
    (hp : Reads B w p n (fun i => .int .u8 (f i))) (hq : Reads B w q m (fun i => .int .u8 (g i))) (he : n = m) (hs : ∀ i, i < n → f i = g i) :
    Calls Tryd.prog 21 #[.slice p n c, .slice q m d] w fun e w' => e = .returned (.bool true) ∧ Below w.heap.size w w' := by
  subst he
  have HP := Lib.hid hp
  have HQ := Lib.hid hq
  have HS := Lib.hid hs
  clear hp hq hs
  go_enter Tryd.func21, Tryd.ntmps21
  go_wp2
  go_loopw [5] (fun i wr => ∃ k : Nat, k ≤ n ∧ i = .int .i64 k ∧ Below w.heap.size w wr ∧ Below B w wr) (fun i _ => n - (intOf i).toNat)
  case atStart => exact ⟨0, Nat.zero_le _, rfl, Below.refl _ _, Below.refl _ _⟩
  case round =>
    obtain ⟨k, hk, rfl, hb, hb2⟩ := hrel
    by_cases hlt : k < n
    · rcases HP.out.below hb2 with h0 | ⟨b, off, rfl, hb', hc⟩
      · omega
      rcases HQ.out.below hb2 with h0 | ⟨b2, off2, rfl, hb2', hc2⟩
      · omega
      have hcell : wr.cell? ⟨b, off + k, none⟩ = some (.int .u8 (f k)) := hc k hlt
      have hcell2 : wr.cell? ⟨b2, off2 + k, none⟩ = some (.int .u8 (f k)) := by rw [HS.out k hlt]; exact hc2 k hlt
      clear hc hc2
      go_wp2
      go_region
      go_wp2
      go_roundw
      case rel => exact ⟨k + 1, by omega, by go_num, hb.drew, hb2.drew⟩
      case measure => simp [intOf]; omega
    · obtain rfl : k = n := by omega
      go_wp2
      go_ret
      exact ⟨rfl, hb⟩

end Go.Proofs.YtjflaeohkhmkaaaDoor.LentBytes

namespace Go.Proofs.YtjflaeohkhmkaaaDoor
open Go.RowKit
set_option linter.unusedSimpArgs false
set_option linter.unusedVariables false

theorem shl8 (x : BitVec 32) : (u x * (256 : Int)) % (4294967296 : Int) = u (x <<< (8 : Nat)) := shl_mod x 8
theorem ub_u32 (b : BitVec 8) : IntKind.u32.wrap (ub b) = u (b.setWidth 32) := by
  unfold u ub; rw [IntKind.wrap_u32, BitVec.toNat_setWidth]; have := b.isLt; omega
attribute [go_sem] shl8 ub_u32
/-- a row of words of which the first k have been put -/
def part (f : Nat → BitVec 32) (k i : Nat) : Value := .int .u32 (if i < k then u (f i) else 0)
end Go.Proofs.YtjflaeohkhmkaaaDoor

namespace Go.Proofs.YtjflaeohkhmkaaaDoor
open Go.RowKit
set_option linter.unusedSimpArgs false
set_option linter.unusedVariables false

theorem mul_u (x : BitVec 32) (c : Nat) (hc : c < 4294967296) : IntKind.u32.wrap (u x * (c : Int)) = u (x * BitVec.ofNat 32 c) := by
  unfold u
  have h : c % 2 ^ 32 = c := Nat.mod_eq_of_lt (by omega)
  rw [IntKind.wrap_u32, BitVec.toNat_mul, BitVec.toNat_ofNat, h]
  rw [Int.natCast_emod, Int.natCast_mul]; rfl
theorem mul_24 (x : BitVec 32) : IntKind.u32.wrap (u x * 16777216) = u (x * 16777216#32) := mul_u x 16777216 (by omega)
theorem mul_16 (x : BitVec 32) : IntKind.u32.wrap (u x * 65536) = u (x * 65536#32) := mul_u x 65536 (by omega)
theorem mul_8 (x : BitVec 32) : IntKind.u32.wrap (u x * 256) = u (x * 256#32) := mul_u x 256 (by omega)
attribute [go_sem] mul_24 mul_16 mul_8

end Go.Proofs.YtjflaeohkhmkaaaDoor

namespace Go.Proofs.YtjflaeohkhmkaaaDoor
open Go.RowKit Go.ChangeShapes Go.WideShapes
set_option linter.unusedSimpArgs false
set_option linter.unusedVariables false
set_option maxRecDepth 20000

end Go.Proofs.YtjflaeohkhmkaaaDoor

namespace Go.Proofs.YtjflaeohkhmkaaaDoor
open Go.RowKit
set_option linter.unusedSimpArgs false
set_option linter.unusedVariables false

/-- bytes that came in -/
theorem row_bytes {w : World} {a : Option Addr} {len : Nat} {h : Nat → Int} (hr : Reads w.heap.size w a len (fun i => .int .u8 (h i))) (hw : ∀ i, i < len → (Lit.int .u8 (h i)).wf = true) :
    ∃ f : Nat → BitVec 8, (∀ i, i < len → h i = ub (f i)) ∧ Reads w.heap.size w a len (fun i => .int .u8 (ub (f i))) := by
  have hf : ∀ i, i < len → h i = ub (BitVec.ofNat 8 (h i).toNat) := fun i hi => by
    have := hw i hi
    simp [Lit.wf, IntKind.min, IntKind.max, IntKind.signed, IntKind.bits] at this
    unfold ub; rw [BitVec.toNat_ofNat]; omega
  exact ⟨fun i => BitVec.ofNat 8 (h i).toNat, hf, hr.mono' (Nat.le_refl _) fun i hi => by rw [← hf i hi]⟩
end Go.Proofs.YtjflaeohkhmkaaaDoor

namespace Go.Proofs.YtjflaeohkhmkaaaDoor
open Go.RowKit Go.ChangeShapes Go.WideShapes
set_option linter.unusedVariables false
set_option linter.unusedSimpArgs false

section
variable {H : Type} {enc : TypeId × Value → H} {w : World} {base : Nat}
/-- bytes of a number that fits -/
theorem u8_wf {z : Int} (h : (Lit.int .u8 z).wf = true) : z = ub (BitVec.ofNat 8 z.toNat) := by
  simp [Lit.wf, IntKind.min, IntKind.max, IntKind.signed, IntKind.bits] at h
  unfold ub; rw [BitVec.toNat_ofNat]; omega
theorem weights_all {P : Program} {e : TypeId} {l : List (DataW H)} {d : DataW H} (hd : d ∈ l) {x : Nat} (hx : x ∈ d.weights P e) : x ∈ DataW.weightsAll P e l := by
  induction l with
  | nil => cases hd
  | cons a r ih =>
    rw [DataW.weightsAll]
    rcases List.mem_cons.1 hd with rfl | h
    · exact List.mem_append_left _ hx
    · exact List.mem_append_right _ (ih h)
theorem slice_small {P : Program} {t e : TypeId} {xs ys : List (DataW H)} (ht : P.underlying t = some (.slice e)) (hz : ∀ x ∈ (DataW.slice xs ys).weights P t, x ≤ reachBytes) : (xs.length + ys.length) * P.bytesOf e ≤ reachBytes ∧ ∀ d ∈ xs, ∀ x ∈ d.weights P e, x ≤ reachBytes := by
  rw [DataW.weights, ht] at hz
  exact ⟨hz _ (List.mem_cons_self), fun d hd x hx => hz x (List.mem_cons_of_mem _ (List.mem_append_left _ (weights_all hd hx)))⟩
set_option maxRecDepth 100000 in
/-- a slice of bytes -/
theorem view_bytes {r : Reach} {b0 : Nat} {v : Value} {d : DataW H} {p : List MemPlace} (hv : Value.okWide Tryd.prog w r b0 23 v) (h : DataW.Trod enc Tryd.prog w base (fun _ => true) true 23 v d p) (hz : ∀ x ∈ d.weights Tryd.prog 23, x ≤ reachBytes) :
    ∃ (a : Option Addr) (len cap : Nat) (f : Nat → BitVec 8), v = .slice a len cap ∧ len ≤ cap ∧ cap ≤ 140737488351232 ∧ Reads w.heap.size w a len (fun i => .int .u8 (ub (f i))) ∧ (a = none → cap = 0) := by
  obtain ⟨a, len, cap, rfl⟩ := okWide_slice Tryd.underlying23 hv
  obtain ⟨fuel, hf⟩ := h
  rcases open_ints Tryd.underlying23 Tryd.underlying5 (by kernel_rfl) hf with ⟨hcs, _⟩ | ⟨x, l, c, zs, hcs, _, hl, hm, hlz, hx, hcell, hwz⟩
  · simp [Value.cells] at hcs
    obtain ⟨rfl, rfl, rfl⟩ := hcs
    exact ⟨none, 0, 0, fun _ => 0#8, rfl, Nat.le_refl _, by omega, .inl rfl, fun _ => rfl⟩
  · simp [Value.cells] at hcs
    obtain ⟨rfl, rfl, rfl⟩ := hcs
    obtain ⟨r1, _, _, r4⟩ := row_reads (k := .u8) (w := w) (a := some x) (len := len) (cap := cap) (zs := zs) (.inr ⟨x, rfl, hl, hm, by simpa using hlz, hcell, hwz⟩)
    obtain ⟨f, _, hr⟩ := row_bytes r1 r4
    simp only [if_true] at hlz
    have hd := (Prod.mk.inj hx).1
    rw [hd] at hz
    have hs := (slice_small Tryd.underlying23 hz).1
    rw [show Tryd.prog.bytesOf 5 = 1 by kernel_rfl] at hs
    simp only [lits, List.length_map, List.length_take, List.length_drop, reachBytes] at hs
    exact ⟨some x, len, cap, f, rfl, hl, by omega, hr, (fun e => by cases e)⟩
end
end Go.Proofs.YtjflaeohkhmkaaaDoor

namespace Go.Proofs.YtjflaeohkhmkaaaDoor
open Go.RowKit
set_option linter.unusedSimpArgs false
set_option linter.unusedVariables false

def sml (x : BitVec 32) (i j k : Nat) : BitVec 32 := turn x i ^^^ turn x j ^^^ x >>> k
def nextW (f : Nat → BitVec 32) (t : Nat) : BitVec 32 := f (t - 16) + sml (f (t - 15)) 7 18 3 + f (t - 7) + sml (f (t - 2)) 17 19 10
/-- a block's words, of which k more than its own are told -/
def wl (g : Nat → BitVec 32) : Nat → Nat → BitVec 32
  | 0 => g
  | k + 1 => fun i => if i = 16 + k then nextW (wl g k) (16 + k) else wl g k i
/-- the constants -/
def kl : List (BitVec 32) := [0x428a2f98#32, 0x71374491#32, 0xb5c0fbcf#32, 0xe9b5dba5#32, 0x3956c25b#32, 0x59f111f1#32, 0x923f82a4#32, 0xab1c5ed5#32,
  0xd807aa98#32, 0x12835b01#32, 0x243185be#32, 0x550c7dc3#32, 0x72be5d74#32, 0x80deb1fe#32, 0x9bdc06a7#32, 0xc19bf174#32,
  0xe49b69c1#32, 0xefbe4786#32, 0x0fc19dc6#32, 0x240ca1cc#32, 0x2de92c6f#32, 0x4a7484aa#32, 0x5cb0a9dc#32, 0x76f988da#32,
  0x983e5152#32, 0xa831c66d#32, 0xb00327c8#32, 0xbf597fc7#32, 0xc6e00bf3#32, 0xd5a79147#32, 0x06ca6351#32, 0x14292967#32,
  0x27b70a85#32, 0x2e1b2138#32, 0x4d2c6dfc#32, 0x53380d13#32, 0x650a7354#32, 0x766a0abb#32, 0x81c2c92e#32, 0x92722c85#32,
  0xa2bfe8a1#32, 0xa81a664b#32, 0xc24b8b70#32, 0xc76c51a3#32, 0xd192e819#32, 0xd6990624#32, 0xf40e3585#32, 0x106aa070#32,
  0x19a4c116#32, 0x1e376c08#32, 0x2748774c#32, 0x34b0bcb5#32, 0x391c0cb3#32, 0x4ed8aa4a#32, 0x5b9cca4f#32, 0x682e6ff3#32,
  0x748f82ee#32, 0x78a5636f#32, 0x84c87814#32, 0x8cc70208#32, 0x90befffa#32, 0xa4506ceb#32, 0xbef9a3f7#32, 0xc67178f2#32]
def kc (t : Nat) : BitVec 32 := kl.getD t 0#32
/-! What abc comes to, by the kernel: each word is worked out ahead of the next. -/
end Go.Proofs.YtjflaeohkhmkaaaDoor

namespace Go.Proofs.YtjflaeohkhmkaaaDoor
open Go.RowKit
set_option linter.unusedSimpArgs false
set_option linter.unusedVariables false

theorem below_gr {w w' : World} (h : Below w.heap.size w w') (row : Option Nat) : w.grownBy w' row := ⟨h.os, h.tape, h.output, h.size, fun k hk _ => h.block k hk⟩
theorem gr_below {B hb : Nat} {w w' : World} (h : w.grownBy w' (some hb)) (hB : B ≤ hb) (hs : B ≤ w.heap.size) : Below B w w' :=
  ⟨h.os, h.tape, h.output, h.size, fun k hk => h.block k (by omega) (by simp; omega)⟩
theorem gr_setCell {hb i : Nat} {w : World} (v : Value) : w.grownBy (w.setCell ⟨hb, i, none⟩ v) (some hb) :=
  ⟨rfl, rfl, rfl, by simp [World.setCell], fun k _ hk => Below.heap_setCell w _ v k (fun e => hk (by rw [e]))⟩
theorem gr_setCells {hb : Nat} (vs : List Value) : ∀ (o : Nat) (w : World), w.grownBy (w.setCells hb o vs) (some hb) := by
  induction vs with
  | nil => intro o w; exact World.grownBy.refl _ _
  | cons v r ih => intro o w; exact (gr_setCell v).trans (ih (o + 1) _)

theorem cell_ne {w : World} {b i j : Nat} {v : Value} (h : i ≠ j) : (w.setCell ⟨b, i, none⟩ v).cell? ⟨b, j, none⟩ = w.cell? ⟨b, j, none⟩ :=
  World.cell?_setCell_other w _ _ v (by simp [h])
theorem fro_eq {w : World} {b i j : Nat} {v : Value} : (w.setCell ⟨b, i, none⟩ v).frozen? ⟨b, j, none⟩ = w.frozen? ⟨b, j, none⟩ := World.frozen?_setCell w _ _ v
/-- the cells of a hasher at block hb: eight words, the open block, the length, whom it takes for its own -/
structure HS (w : World) (hb : Nat) (st : Nat → BitVec 32) (op : Nat → BitVec 8) (n : Nat) (own : Option Addr) : Prop where
  lt : hb < w.heap.size
  word : ∀ i, i < 8 → w.cell? ⟨hb, i, none⟩ = some (.int .u32 (u (st i)))
  byte : ∀ j, j < 64 → w.cell? ⟨hb, 8 + j, none⟩ = some (.int .u8 (ub (op j)))
  len : w.cell? ⟨hb, 72, none⟩ = some (.int .i64 n)
  own : w.cell? ⟨hb, 73, none⟩ = some (.pointer own)
  free : ∀ i, w.frozen? ⟨hb, i, none⟩ = false
section
variable {w w' : World} {hb n : Nat} {st st' : Nat → BitVec 32} {op op' : Nat → BitVec 8} {own : Option Addr}
theorem HS.of_block (h : HS w hb st op n own) (hs : w.heap.size ≤ w'.heap.size) (e : w'.heap[hb]? = w.heap[hb]?) : HS w' hb st op n own :=
  ⟨Nat.lt_of_lt_of_le h.lt hs, fun i hi => (World.cell?_of_block (a := ⟨hb, i, none⟩) e).trans (h.word i hi), fun i hi => (World.cell?_of_block (a := ⟨hb, 8 + i, none⟩) e).trans (h.byte i hi),
   (World.cell?_of_block (a := ⟨hb, 72, none⟩) e).trans h.len, (World.cell?_of_block (a := ⟨hb, 73, none⟩) e).trans h.own, fun i => (World.frozen?_of_block (a := ⟨hb, i, none⟩) e).trans (h.free i)⟩
theorem HS.gr {row : Option Nat} (h : HS w hb st op n own) (g : w.grownBy w' row) (hne : some hb ≠ row) : HS w' hb st op n own := h.of_block g.size (g.block hb h.lt hne)
theorem HS.below {B : Nat} (h : HS w hb st op n own) (g : Below B w w') (hB : hb < B) : HS w' hb st op n own := h.of_block g.size (g.block hb hB)
theorem HS.below' (h : HS w hb st op n own) (g : Below w.heap.size w w') : HS w' hb st op n own := h.below g h.lt
theorem HS.alloc (h : HS w hb st op n own) (o : Obj) : HS (w.alloc o) hb st op n own := h.gr (World.grownBy_alloc w o none) (by simp)
theorem HS.drew (h : HS w hb st op n own) : HS w.drew hb st op n own := h.of_block (Nat.le_refl _) rfl
theorem HS.congr (h : HS w hb st op n own) (e : ∀ i, i < 8 → st i = st' i) (e' : ∀ i, i < 64 → op i = op' i) : HS w hb st' op' n own :=
  ⟨h.lt, fun i hi => by rw [← e i hi]; exact h.word i hi, fun i hi => by rw [← e' i hi]; exact h.byte i hi, h.len, h.own, h.free⟩
theorem HS.is (h : HS w hb st op n own) (i : Nat) (hi : i < 74) : (w.cell? ⟨hb, i, none⟩).isSome = true := by
  by_cases h1 : i < 8
  · rw [h.word i h1]; rfl
  · by_cases h2 : i < 72
    · have := h.byte (i - 8) (by omega)
      rw [show 8 + (i - 8) = i by omega] at this
      rw [this]; rfl
    · rcases (show i = 72 ∨ i = 73 by omega) with rfl | rfl
      · rw [h.len]; rfl
      · rw [h.own]; rfl
theorem setCells_other {vs : List Value} {o i : Nat} {w : World} (h : i < o ∨ o + vs.length ≤ i) : (w.setCells hb o vs).cell? ⟨hb, i, none⟩ = w.cell? ⟨hb, i, none⟩ :=
  World.cell?_setCells_out hb vs o w _ (fun _ _ => h)
theorem size_setCells (vs : List Value) : ∀ (o : Nat) (w : World), (w.setCells hb o vs).heap.size = w.heap.size := by
  induction vs with
  | nil => intro o w; rfl
  | cons v r ih => intro o w; exact (ih _ _).trans (by simp [World.setCell])
end
/-- the cells as a list -/
def hcells (st : Nat → BitVec 32) (op : Nat → BitVec 8) (n : Nat) (own : Option Addr) : List Value :=
  ((List.range 8).map fun i => Value.int .u32 (u (st i))) ++ ((List.range 64).map fun i => Value.int .u8 (ub (op i))) ++ [.int .i64 n, .pointer own]
theorem hcells_len (st : Nat → BitVec 32) (op : Nat → BitVec 8) (n : Nat) (own : Option Addr) : (hcells st op n own).length = 74 := by simp [hcells]
theorem hcells_word (st : Nat → BitVec 32) (op : Nat → BitVec 8) (n : Nat) (own : Option Addr) (i : Nat) (hi : i < 8) : (hcells st op n own)[i]? = some (.int .u32 (u (st i))) := by
  unfold hcells
  rw [List.append_assoc, List.getElem?_append_left (by simp; omega)]; simp [hi]
theorem hcells_byte (st : Nat → BitVec 32) (op : Nat → BitVec 8) (n : Nat) (own : Option Addr) (j : Nat) (hj : j < 64) : (hcells st op n own)[8 + j]? = some (.int .u8 (ub (op j))) := by
  unfold hcells
  rw [List.append_assoc, List.getElem?_append_right (by simp), List.getElem?_append_left (by simp; omega)]; simp [hj]
theorem hcells_72 (st : Nat → BitVec 32) (op : Nat → BitVec 8) (n : Nat) (own : Option Addr) : (hcells st op n own)[72]? = some (.int .i64 n) := by
  unfold hcells
  rw [List.getElem?_append_right (by simp)]; simp
theorem hcells_73 (st : Nat → BitVec 32) (op : Nat → BitVec 8) (n : Nat) (own : Option Addr) : (hcells st op n own)[73]? = some (.pointer own) := by
  unfold hcells
  rw [List.getElem?_append_right (by simp)]; simp
theorem HS.of_cells {w : World} {hb : Nat} {st : Nat → BitVec 32} {op : Nat → BitVec 8} {n : Nat} {own : Option Addr} {t : TypeId} (h : w.heap[hb]? = some (.cells (hcells st op n own).toArray t (0, 0))) : HS w hb st op n own := by
  have hc : ∀ i, w.cell? ⟨hb, i, none⟩ = (hcells st op n own)[i]? := fun i => by rw [cell_of_row w hb i _ t (0, 0) h]; simp
  exact ⟨(Array.getElem?_eq_some_iff.1 h).1, fun i hi => (hc i).trans (hcells_word _ _ _ _ i hi), fun i hi => (hc _).trans (hcells_byte _ _ _ _ i hi), (hc _).trans (hcells_72 _ _ _ _), (hc _).trans (hcells_73 _ _ _ _),
    fun i => frozen_of_row w hb i _ t h⟩
theorem HS.range {w : World} {hb : Nat} {st : Nat → BitVec 32} {op : Nat → BitVec 8} {n : Nat} {own : Option Addr} (h : HS w hb st op n own) : w.rangeAt hb 0 (hcells st op n own) := fun j v hv => by
  rw [Nat.zero_add]
  have hj : j < 74 := by have := (List.getElem?_eq_some_iff.1 hv).1; rwa [hcells_len] at this
  by_cases h1 : j < 8
  · rw [hcells_word _ _ _ _ j h1] at hv; rw [← hv]; exact h.word j h1
  · by_cases h2 : j < 72
    · have e := hcells_byte st op n own (j - 8) (by omega)
      have c := h.byte (j - 8) (by omega)
      rw [show 8 + (j - 8) = j by omega] at e c
      rw [e] at hv; rw [← hv]; exact c
    · rcases (show j = 72 ∨ j = 73 by omega) with rfl | rfl
      · rw [hcells_72] at hv; rw [← hv]; exact h.len
      · rw [hcells_73] at hv; rw [← hv]; exact h.own
theorem HS.there {w : World} {hb : Nat} {st : Nat → BitVec 32} {op : Nat → BitVec 8} {n : Nat} {own : Option Addr} (h : HS w hb st op n own) (o m : Nat) (hm : o + m ≤ 74) : w.there hb o m := fun j hj => ⟨h.is _ (by omega), h.free _⟩
/-- the constants' cells -/
def Kc (B : Nat) (w : World) : Prop := 1 < B ∧ ∀ i, i < 64 → w.cell? ⟨1, i, none⟩ = some (.int .u32 (u (kc i)))
theorem Kc.below {B : Nat} {w w' : World} (h : Kc B w) (hb : Below B w w') : Kc B w' := ⟨h.1, fun i hi => by rw [hb.cell (p := ⟨_, i, none⟩) h.1]; exact h.2 i hi⟩
theorem Kc.mono {B B' : Nat} {w : World} (h : Kc B w) (hb : B ≤ B') : Kc B' w := ⟨Nat.lt_of_lt_of_le h.1 hb, h.2⟩
end Go.Proofs.YtjflaeohkhmkaaaDoor
