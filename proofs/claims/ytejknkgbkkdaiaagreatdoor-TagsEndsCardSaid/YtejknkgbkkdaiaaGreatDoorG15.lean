/-
  Merged: Jefe, MacAwake, MacParts, MacSame.
-/
import Derived.Test.YtejknkgbkkdaiaaGreatDoorG11
import Derived.Test.YtejknkgbkkdaiaaGreatDoorG12
import Derived.Test.YtejknkgbkkdaiaaGreatDoorG14

namespace Go.Proofs.YtejknkgbkkdaiaaGreatDoor
open Go.RowKit
set_option linter.unusedSimpArgs false
set_option linter.unusedVariables false

theorem comp_l8 (s : Nat → BitVec 32) (b : Nat → BitVec 8) (hs : s = l8 (s 0) (s 1) (s 2) (s 3) (s 4) (s 5) (s 6) (s 7)) : comp s b = l8 (comp s b 0) (comp s b 1) (comp s b 2) (comp s b 3) (comp s b 4) (comp s b 5) (comp s b 6) (comp s b 7) := by
  funext i
  unfold comp
  obtain ⟨a0, a1, a2, a3, a4, a5, a6, a7, h⟩ : ∃ a0 a1 a2 a3 a4 a5 a6 a7, rd (wl (bw b) 48) s 64 = l8 a0 a1 a2 a3 a4 a5 a6 a7 := ⟨_, _, _, _, _, _, _, _, rfl⟩
  rw [h]
  have e : ∀ x, s x = l8 (s 0) (s 1) (s 2) (s 3) (s 4) (s 5) (s 6) (s 7) x := fun x => congrFun hs x
  match i with
  | 0 => rfl
  | 1 => rfl
  | 2 => rfl
  | 3 => rfl
  | 4 => rfl
  | 5 => rfl
  | 6 => rfl
  | 7 => rfl
  | i + 8 => show a7 + s (i + 8) = a7 + s 7; rw [e (i + 8)]; rfl
theorem two_blocks (g : Nat → BitVec 8) (n : Nat) (hn : full n / 64 = 2) (W0 W1 C0 C1 l1 l2 : List (BitVec 32)) (h0 : W0 = (List.range 16).map (bw (blk (fillB g n) 0))) (h1 : W1 = (List.range 16).map (bw (blk (fillB g n) 1)))
    (c0 : compL begL W0 = C0) (e1 : ∀ i, i < 8 → C0.getD i 0#32 + begL.getD i 0#32 = l1.getD i 0#32) (c1 : compL l1 W1 = C1) (e2 : ∀ i, i < 8 → C1.getD i 0#32 + l1.getD i 0#32 = l2.getD i 0#32) (i : Nat) (hi : i < 32) :
    sha g n i = wb (fun j => l2.getD j 0#32) i := by
  have m1 : ∀ j, j < 8 → l1.getD j 0#32 = mid (fillB g n) 1 j := fun j hj => by
    show _ = comp beg (blk (fillB g n) 0) j
    rw [compL_eq beg begL W0 _ (by decide) (by funext k; rfl) h0 j hj, c0, e1 j hj]
  have m2 : ∀ j, j < 8 → mid (fillB g n) 2 j = l2.getD j 0#32 := fun j hj => by
    show comp (mid (fillB g n) 1) (blk (fillB g n) 1) j = _
    rw [compL_eq (mid (fillB g n) 1) l1 W1 _ m1 (comp_l8 beg (blk (fillB g n) 0) (by funext k; rfl)) h1 j hj, c1, e2 j hj]
  show wb (mid (fillB g n) (full n / 64)) i = _
  rw [hn]
  unfold wb
  rw [m2 (i / 4) (by omega)]
def jefL : List (BitVec 8) := [0x4a#8, 0x65#8, 0x66#8, 0x65#8]
def txtL : List (BitVec 8) := [0x77#8, 0x68#8, 0x61#8, 0x74#8, 0x20#8, 0x64#8, 0x6f#8, 0x20#8, 0x79#8, 0x61#8, 0x20#8, 0x77#8, 0x61#8, 0x6e#8, 0x74#8, 0x20#8, 0x66#8, 0x6f#8, 0x72#8, 0x20#8, 0x6e#8, 0x6f#8, 0x74#8, 0x68#8, 0x69#8, 0x6e#8, 0x67#8, 0x3f#8]
def jefB (i : Nat) : BitVec 8 := jefL.getD i 0#8
def txtB (i : Nat) : BitVec 8 := txtL.getD i 0#8
def iW0 : List (BitVec 32) := [0x7c535053#32, 0x36363636#32, 0x36363636#32, 0x36363636#32, 0x36363636#32, 0x36363636#32, 0x36363636#32, 0x36363636#32, 0x36363636#32, 0x36363636#32, 0x36363636#32, 0x36363636#32, 0x36363636#32, 0x36363636#32, 0x36363636#32, 0x36363636#32]
def iC0 : List (BitVec 32) := [0xfb53c193#32, 0x10db9cb2#32, 0x1dade259#32, 0x6142f8d4#32, 0x536bd154#32, 0xb1358bbd#32, 0xbc1e4137#32, 0x1ce682f3#32]
def iS0 : List (BitVec 32) := [0x655da7fa#32, 0xcc434b37#32, 0x5a1cd5cb#32, 0x0692ee0e#32, 0xa47a23d3#32, 0x4c3af449#32, 0xdba21ae2#32, 0x78c7500c#32]
def iW1 : List (BitVec 32) := [0x77686174#32, 0x20646f20#32, 0x79612077#32, 0x616e7420#32, 0x666f7220#32, 0x6e6f7468#32, 0x696e673f#32, 0x80000000#32, 0x00000000#32, 0x00000000#32, 0x00000000#32, 0x00000000#32, 0x00000000#32, 0x00000000#32, 0x00000000#32, 0x000002e0#32]
def iC1 : List (BitVec 32) := [0x3d86dd8c#32, 0x70e4aea1#32, 0x0a8fb7b5#32, 0x1d9fb3df#32, 0xa3036879#32, 0x22f9a8cd#32, 0xf945ce35#32, 0x4d627acb#32]
def iS1 : List (BitVec 32) := [0xa2e48586#32, 0x3d27f9d8#32, 0x64ac8d80#32, 0x2432a1ed#32, 0x477d8c4c#32, 0x6f349d16#32, 0xd4e7e917#32, 0xc629cad7#32]
def oW0 : List (BitVec 32) := [0x16393a39#32, 0x5c5c5c5c#32, 0x5c5c5c5c#32, 0x5c5c5c5c#32, 0x5c5c5c5c#32, 0x5c5c5c5c#32, 0x5c5c5c5c#32, 0x5c5c5c5c#32, 0x5c5c5c5c#32, 0x5c5c5c5c#32, 0x5c5c5c5c#32, 0x5c5c5c5c#32, 0x5c5c5c5c#32, 0x5c5c5c5c#32, 0x5c5c5c5c#32, 0x5c5c5c5c#32]
def oC0 : List (BitVec 32) := [0xa4a5fd6e#32, 0x57d97fe7#32, 0x2dfb3c79#32, 0x87e76592#32, 0x0096aac8#32, 0xd2ab2d5c#32, 0x043bc7df#32, 0xf71074bc#32]
def oS0 : List (BitVec 32) := [0x0eafe3d5#32, 0x13412e6c#32, 0x6a6a2feb#32, 0x2d375acc#32, 0x51a4fd47#32, 0x6db095e8#32, 0x23bfa18a#32, 0x52f141d5#32]
def oW1 : List (BitVec 32) := [0xa2e48586#32, 0x3d27f9d8#32, 0x64ac8d80#32, 0x2432a1ed#32, 0x477d8c4c#32, 0x6f349d16#32, 0xd4e7e917#32, 0xc629cad7#32, 0x80000000#32, 0x00000000#32, 0x00000000#32, 0x00000000#32, 0x00000000#32, 0x00000000#32, 0x00000000#32, 0x00000300#32]
def oC1 : List (BitVec 32) := [0x4d2cdd71#32, 0xac1f46e2#32, 0xff99f43b#32, 0xdb5e1afb#32, 0x085b41c1#32, 0x2f76a39b#32, 0x7a2cb72f#32, 0x11faf66e#32]
def oS1 : List (BitVec 32) := [0x5bdcc146#32, 0xbf60754e#32, 0x6a042426#32, 0x089575c7#32, 0x5a003f08#32, 0x9d273983#32, 0x9dec58b9#32, 0x64ec3843#32]
def innB : Nat → BitVec 8 := cat (xorB (kblk jefB 4) 0x36#8) 64 txtB
def innL : List (BitVec 8) := [0xa2#8, 0xe4#8, 0x85#8, 0x86#8, 0x3d#8, 0x27#8, 0xf9#8, 0xd8#8, 0x64#8, 0xac#8, 0x8d#8, 0x80#8, 0x24#8, 0x32#8, 0xa1#8, 0xed#8, 0x47#8, 0x7d#8, 0x8c#8, 0x4c#8, 0x6f#8, 0x34#8, 0x9d#8, 0x16#8, 0xd4#8, 0xe7#8, 0xe9#8, 0x17#8, 0xc6#8, 0x29#8, 0xca#8, 0xd7#8]
def innT (i : Nat) : BitVec 8 := innL.getD i 0#8
def outB : Nat → BitVec 8 := cat (xorB (kblk jefB 4) 0x5c#8) 64 innT
def outL : List (BitVec 8) := [0x5b#8, 0xdc#8, 0xc1#8, 0x46#8, 0xbf#8, 0x60#8, 0x75#8, 0x4e#8, 0x6a#8, 0x04#8, 0x24#8, 0x26#8, 0x08#8, 0x95#8, 0x75#8, 0xc7#8, 0x5a#8, 0x00#8, 0x3f#8, 0x08#8, 0x9d#8, 0x27#8, 0x39#8, 0x83#8, 0x9d#8, 0xec#8, 0x58#8, 0xb9#8, 0x64#8, 0xec#8, 0x38#8, 0x43#8]
theorem inn_w0 : iW0 = (List.range 16).map (bw (blk (fillB innB 92) 0)) := by decide +kernel
theorem inn_w1 : iW1 = (List.range 16).map (bw (blk (fillB innB 92) 1)) := by decide +kernel
theorem inn_c0 : compL begL iW0 = iC0 := by decide +kernel
theorem inn_c1 : compL iS0 iW1 = iC1 := by decide +kernel
theorem inn_sha (i : Nat) (hi : i < 32) : sha innB 92 i = innT i := by
  rw [two_blocks innB 92 (by decide) iW0 iW1 iC0 iC1 iS0 iS1 inn_w0 inn_w1 inn_c0 (by decide +kernel) inn_c1 (by decide +kernel) i hi]
  have h2 : ∀ k, k < 32 → wb (fun j => iS1.getD j 0#32) k = innT k := by decide +kernel
  exact h2 i hi
theorem out_w0 : oW0 = (List.range 16).map (bw (blk (fillB outB 96) 0)) := by decide +kernel
theorem out_w1 : oW1 = (List.range 16).map (bw (blk (fillB outB 96) 1)) := by decide +kernel
theorem out_c0 : compL begL oW0 = oC0 := by decide +kernel
theorem out_c1 : compL oS0 oW1 = oC1 := by decide +kernel
theorem out_sha (i : Nat) (hi : i < 32) : sha outB 96 i = outL.getD i 0#8 := by
  rw [two_blocks outB 96 (by decide) oW0 oW1 oC0 oC1 oS0 oS1 out_w0 out_w1 out_c0 (by decide +kernel) out_c1 (by decide +kernel) i hi]
  have h2 : ∀ k, k < 32 → wb (fun j => oS1.getD j 0#32) k = outL.getD k 0#8 := by decide +kernel
  exact h2 i hi
theorem jefe {g : Nat → BitVec 8} (hg : ∀ i, i < 28 → g i = txtB i) (i : Nat) (hi : i < 32) : hmac jefB 4 g 28 i = outL.getD i 0#8 := by
  rw [← out_sha i hi]
  show hmb (kblk jefB 4) g 28 i = _
  rw [hmb_congr (b' := kblk jefB 4) (fun _ _ => rfl) hg]
  refine congrFun (sha_congr (64 + 32) fun j hj => cat_congr (fun _ _ => rfl) (fun q hq => ?_) j hj) i
  exact inn_sha q hq
end Go.Proofs.YtejknkgbkkdaiaaGreatDoor

namespace Go.Proofs.YtejknkgbkkdaiaaGreatDoor
open Go.RowKit
set_option linter.unusedVariables false
set_option linter.unusedSimpArgs false

def jefC : Array Value := #[.int .u8 74, .int .u8 101, .int .u8 102, .int .u8 101]
def txtA : Array Value := #[.int .u8 119, .int .u8 104, .int .u8 97, .int .u8 116, .int .u8 32, .int .u8 100, .int .u8 111, .int .u8 32, .int .u8 121, .int .u8 97, .int .u8 32, .int .u8 119, .int .u8 97, .int .u8 110, .int .u8 116, .int .u8 32]
def txtZ : Array Value := #[.int .u8 102, .int .u8 111, .int .u8 114, .int .u8 32, .int .u8 110, .int .u8 111, .int .u8 116, .int .u8 104, .int .u8 105, .int .u8 110, .int .u8 103, .int .u8 63]
theorem jefC_at : ∀ i, i < 4 → jefC[i]? = some (.int .u8 (ub (jefB i)))
  | 0, _ => by rfl
  | 1, _ => by rfl
  | 2, _ => by rfl
  | 3, _ => by rfl
theorem txtA_list : txtA = ((List.range 16).map fun i => Value.int .u8 (ub (txtB i))).toArray := by kernel_rfl
theorem txtZ_list : txtZ = ((List.range 12).map fun i => Value.int .u8 (ub (txtB (16 + i)))).toArray := by kernel_rfl
theorem txtA_at (i : Nat) (hi : i < 16) : txtA[i]? = some (.int .u8 (ub (txtB i))) := by rw [txtA_list]; simp [hi]
theorem txtZ_at (i : Nat) (hi : i < 12) : txtZ[i]? = some (.int .u8 (ub (txtB (16 + i)))) := by rw [txtZ_list]; simp [hi]

end Go.Proofs.YtejknkgbkkdaiaaGreatDoor

namespace Go.Proofs.YtejknkgbkkdaiaaGreatDoor
open Go.RowKit
set_option linter.unusedVariables false
set_option linter.unusedSimpArgs false

theorem pos_three (n1 n2 n3 : Nat) : pos (fst3 n1 n2 n3) 3 = n1 + n2 + n3 := by simp [pos, fst3]
theorem RI.three {W : World} {H n1 c1 n2 c2 n3 c3 : Nat} {p1 p2 p3 : Option Addr} {t : TypeId} {f1 f2 f3 : Nat → BitVec 8} (hW : W.heap[H]? = some (.cells #[.slice p1 n1 c1, .slice p2 n2 c2, .slice p3 n3 c3] t (0, 0)))
    (h1 : n1 ≤ c1 ∧ c1 ≤ maxLen) (h2 : n2 ≤ c2 ∧ c2 ≤ maxLen) (h3 : n3 ≤ c3 ∧ c3 ≤ maxLen)
    (r1 : Reads W.heap.size W p1 n1 (fun j => .int .u8 (ub (f1 j)))) (r2 : Reads W.heap.size W p2 n2 (fun j => .int .u8 (ub (f2 j)))) (r3 : Reads W.heap.size W p3 n3 (fun j => .int .u8 (ub (f3 j)))) :
    RI W (some ⟨H, 0, none⟩) 3 (fst3 p1 p2 p3) (fst3 n1 n2 n3) (fst3 c1 c2 c3) (fst3 f1 f2 f3) :=
  ⟨reads_at hW (fun i hi => by
    match i, hi with
    | 0, _ => rfl
    | 1, _ => rfl
    | 2, _ => rfl), fun i hi => by
    match i, hi with
    | 0, _ => exact h1
    | 1, _ => exact h2
    | 2, _ => exact h3, fun i hi => by
    match i, hi with
    | 0, _ => exact r1
    | 1, _ => exact r2
    | 2, _ => exact r3⟩
theorem gr_none {B : Nat} {w w' : World} (h : w.grownBy w' none) (hB : B ≤ w.heap.size) : Below B w w' := ⟨h.os, h.tape, h.output, h.size, fun k hk => h.block k (by omega) (by simp)⟩
/-- what stays while the law asks: the tag s lies at block T -/
structure MV (B : Nat) (w : World) (T : Nat) (s : Nat → BitVec 8) (W : World) : Prop where
  tag : BT W T 32 s
  kc : Kc B W
  bel : Below w.heap.size w W
  lo : B ≤ w.heap.size
section
variable {B T : Nat} {w W W' : World} {s : Nat → BitVec 8}
theorem MV.drew (h : MV B w T s W) : MV B w T s W.drew := ⟨h.tag.drew, h.kc.below (Below.refl _ _).drew, h.bel.drew, h.lo⟩
theorem MV.go (h : MV B w T s W) (g : Below W.heap.size W W') : MV B w T s W' :=
  ⟨h.tag.below' g, h.kc.below (g.mono (Nat.le_trans h.lo h.bel.size)), h.bel.trans (g.mono h.bel.size), h.lo⟩
theorem MV.alloc (h : MV B w T s W) (o : Obj) : MV B w T s (W.alloc o) := h.go ((Below.refl _ _).alloc (Nat.le_refl _) o)
theorem MV.gr {hb : Nat} (h : MV B w T s W) (g : W.grownBy W' (some hb)) (hT : T ≠ hb) (hh : w.heap.size ≤ hb) : MV B w T s W' :=
  ⟨h.tag.gr g hT, h.kc.below (gr_below g (Nat.le_trans h.lo hh) (Nat.le_trans h.lo h.bel.size)), h.bel.grown g h.bel.size (by rintro q ⟨⟩; exact hh), h.lo⟩
end
/-- the same, and a row of bytes lies there -/
structure MR (B : Nat) (w : World) (T : Nat) (s : Nat → BitVec 8) (p : Option Addr) (n : Nat) (f : Nat → BitVec 8) (W : World) : Prop where
  mv : MV B w T s W
  row : Reads W.heap.size W p n (fun i => .int .u8 (ub (f i)))
section
variable {B T n : Nat} {w W W' : World} {s f : Nat → BitVec 8} {p : Option Addr}
theorem MR.go (h : MR B w T s p n f W) (g : Below W.heap.size W W') : MR B w T s p n f W' := ⟨h.mv.go g, h.row.to g⟩
theorem MR.drew (h : MR B w T s p n f W) : MR B w T s p n f W.drew := h.go (Below.refl _ _).drew
theorem MR.alloc (h : MR B w T s p n f W) (o : Obj) : MR B w T s p n f (W.alloc o) := h.go ((Below.refl _ _).alloc (Nat.le_refl _) o)
theorem MR.load {ops : Array Oper} {o : Oper} {a : Act} {x : Operand} (h1 : Region.wanted o (yielded ops a.tmps) = true) (h2 : o.op = .load 25 x) (h3 : a.eval x = .pointer (some ⟨T, 0, none⟩)) : YieldsIf Tryz.prog ops (MR B w T s p n f) o (tagV s) a :=
  yieldsIf_load_mid h1 25 x h2 T 0 h3 (tagC s) _ (fun w' hw' => hw'.mv.tag.range) Tryz.underlying25 rfl (by simp [infoTag, tagC_len])
end
/-- a key and noughts behind -/
def padK (k : Nat → BitVec 8) (n : Nat) : Nat → BitVec 8 := fun i => if i < n then k i else 0#8
theorem padK_congr (k : Nat → BitVec 8) (n m : Nat) (g : Nat → BitVec 8) (l : Nat) (h : n ≤ m) (hm : m ≤ 64) : hmac (padK k n) m g l = hmac k n g l := by
  unfold hmac
  refine hmb_congr (fun i hi => ?_) (fun _ _ => rfl)
  unfold kblk padK
  simp only [hm, show n ≤ 64 by omega, if_true]
  by_cases h1 : i < n
  · rw [if_pos h1, if_pos (by omega)]
  · rw [if_neg h1]; by_cases h2 : i < m <;> simp [h2]
theorem ownK_congr (k : Nat → BitVec 8) (n : Nat) (g : Nat → BitVec 8) (l : Nat) (h : 64 < n) : hmac (sha k n) 32 g l = hmac k n g l := by
  unfold hmac
  refine hmb_congr (fun i hi => ?_) (fun _ _ => rfl)
  unfold kblk
  simp only [show (32 : Nat) ≤ 64 by omega, show ¬ n ≤ 64 by omega, if_true, if_false]
theorem padK_list (k : Nat → BitVec 8) (n : Nat) : (List.range n).map (fun i => Value.int .u8 (ub (k i))) = (List.range n).map (fun i => Value.int .u8 (ub (padK k n i))) :=
  List.map_congr_left fun i hi => by unfold padK; rw [if_pos (List.mem_range.1 hi)]
theorem padK_snoc (k : Nat → BitVec 8) (n m : Nat) (h : n ≤ m) : (List.range m).map (fun i => Value.int .u8 (ub (padK k n i))) ++ [Value.int .u8 0] = (List.range (m + 1)).map (fun i => Value.int .u8 (ub (padK k n i))) := by
  rw [List.range_succ, List.map_append]
  have e : padK k n m = 0#8 := by unfold padK; rw [if_neg (by omega)]
  simp [e]; rfl
/-- one row -/
theorem MV.mac1 {B T H n c kn kc : Nat} {w W : World} {s k g : Nat → BitVec 8} {p kp : Option Addr} {t : TypeId} (h : MV B w T s W) (hW : W.heap[H]? = some (.cells #[.slice p n c] t (0, 0))) (hkn : kn ≤ 2147483648) (hkc : kn ≤ kc) (hkm : kc ≤ maxLen)
    (hkr : Reads W.heap.size W kp kn (fun j => .int .u8 (ub (k j)))) (hc : n ≤ c) (hm : c ≤ maxLen) (hr : Reads w.heap.size w p n (fun j => .int .u8 (ub (g j)))) (hn : n ≤ 2147483584) :
    Calls Tryz.prog 44 #[.slice kp kn kc, .slice (some ⟨H, 0, none⟩) 1 1] W fun e w' => e = .returned (tagV (hmac k kn g n)) ∧ Below W.heap.size W w' := by
  have hx := macOf_any B W kp kn kc k g _ 1 1 _ _ _ _ h.kc (Nat.le_trans h.lo h.bel.size) hkn hkc hkm hkr (RI.one (f := g) hW hc hm (hr.to h.bel)) (Nat.le_refl _) (by decide) (by omega) (by rw [pos_one]; exact hn) (fun i hi j hj => by rw [show i = 0 by omega]; simp [pos])
  rw [pos_one] at hx
  exact hx
/-- three rows, the second nil -/
theorem MV.mac3 {B T H q n c1 c2 kn kc : Nat} {w W : World} {s k g : Nat → BitVec 8} {p1 p2 kp : Option Addr} {t : TypeId} (h : MV B w T s W) (hW : W.heap[H]? = some (.cells #[.slice p1 q c1, .slice none 0 0, .slice p2 (n - q) c2] t (0, 0))) (hq : q ≤ n) (hkn : kn ≤ 2147483648) (hkc : kn ≤ kc) (hkm : kc ≤ maxLen)
    (hkr : Reads w.heap.size w kp kn (fun j => .int .u8 (ub (k j)))) (h1 : q ≤ c1 ∧ c1 ≤ maxLen) (h2 : n - q ≤ c2 ∧ c2 ≤ maxLen) (hr1 : Reads w.heap.size w p1 q (fun j => .int .u8 (ub (g j)))) (hr2 : Reads w.heap.size w p2 (n - q) (fun j => .int .u8 (ub (g (q + j))))) (hn : n ≤ 2147483584) :
    Calls Tryz.prog 44 #[.slice kp kn kc, .slice (some ⟨H, 0, none⟩) 3 3] W fun e w' => e = .returned (tagV (hmac k kn g n)) ∧ Below W.heap.size W w' := by
  have hx := macOf_any B W kp kn kc k g _ 3 3 _ _ _ _ h.kc (Nat.le_trans h.lo h.bel.size) hkn hkc hkm (hkr.to h.bel) (RI.three (f1 := g) (f2 := fun _ => 0#8) (f3 := fun j => g (q + j)) hW h1 ⟨Nat.le_refl _, by decide⟩ h2 (hr1.to h.bel) (.inl rfl) (hr2.to h.bel)) (Nat.le_refl _) (by decide) (by omega) (by rw [pos_three]; omega) (fun i hi j hj => by
    match i, hi with
    | 0, _ => simp [fst3, pos]
    | 1, _ => exact absurd hj (by simp [fst3])
    | 2, _ => simp [fst3, pos])
  rw [pos_three, show q + 0 + (n - q) = n by omega] at hx
  exact hx
end Go.Proofs.YtejknkgbkkdaiaaGreatDoor

namespace Go.Proofs.YtejknkgbkkdaiaaGreatDoor
open Go.RowKit
set_option linter.unusedVariables false
set_option linter.unusedSimpArgs false

/-- two boxed tags -/
structure S2 (B : Nat) (w : World) (a b : Nat → BitVec 8) (W : World) : Prop where
  ba : BT W w.heap.size 32 a
  bb : BT W (w.heap.size + 1) 32 b
  kc : Kc B W
  bel : Below w.heap.size w W
  lo : B ≤ w.heap.size
/-- and two more -/
structure S4 (B : Nat) (w : World) (a b c t : Nat → BitVec 8) (TC TT : Nat) (W : World) : Prop where
  s2 : S2 B w a b W
  bc : BT W TC 32 c
  bt : BT W TT 32 t
section
variable {B TC TT : Nat} {w W W' : World} {a b c t : Nat → BitVec 8}
theorem S2.go (h : S2 B w a b W) (g : Below W.heap.size W W') : S2 B w a b W' :=
  ⟨h.ba.below' g, h.bb.below' g, h.kc.below (g.mono (Nat.le_trans h.lo h.bel.size)), h.bel.trans (g.mono h.bel.size), h.lo⟩
theorem S2.alloc (h : S2 B w a b W) (o : Obj) : S2 B w a b (W.alloc o) := h.go ((Below.refl _ _).alloc (Nat.le_refl _) o)
theorem S2.gr {hb : Nat} (h : S2 B w a b W) (g : W.grownBy W' (some hb)) (hh : w.heap.size + 1 < hb) : S2 B w a b W' :=
  ⟨h.ba.gr g (by omega), h.bb.gr g (by omega), h.kc.below (gr_below g (Nat.le_trans h.lo (by omega)) (Nat.le_trans h.lo h.bel.size)), h.bel.grown g h.bel.size (by rintro q ⟨⟩; omega), h.lo⟩
theorem S4.go (h : S4 B w a b c t TC TT W) (g : Below W.heap.size W W') : S4 B w a b c t TC TT W' := ⟨h.s2.go g, h.bc.below' g, h.bt.below' g⟩
theorem S4.drew (h : S4 B w a b c t TC TT W) : S4 B w a b c t TC TT W.drew := h.go (Below.refl _ _).drew
theorem S4.alloc (h : S4 B w a b c t TC TT W) (o : Obj) : S4 B w a b c t TC TT (W.alloc o) := h.go ((Below.refl _ _).alloc (Nat.le_refl _) o)
theorem tag_load {S : World → Prop} {ops : Array Oper} {o : Oper} {ac : Act} {x : Operand} {T : Nat} {s : Nat → BitVec 8} (hS : ∀ w, S w → BT w T 32 s) (h1 : Region.wanted o (yielded ops ac.tmps) = true) (h2 : o.op = .load 25 x) (h3 : ac.eval x = .pointer (some ⟨T, 0, none⟩)) : YieldsIf Tryz.prog ops S o (tagV s) ac :=
  yieldsIf_load_mid h1 25 x h2 T 0 h3 (tagC s) _ (fun w' hw' => (hS w' hw').range) Tryz.underlying25 rfl (by simp [infoTag, tagC_len])
end
/-- a tag, one byte of which is turned -/
def turnAt (a : Nat → BitVec 8) (q : Nat) (x : BitVec 8) : Nat → BitVec 8 := fun i => if i = q then a i ^^^ x else a i
theorem turnAt_teq (a : Nat → BitVec 8) (q : Nat) (x : BitVec 8) (hq : q < 32) : teq a (turnAt a q x) = (x == 0#8) := by
  rw [Bool.eq_iff_iff, teq_iff, beq_iff_eq]
  constructor
  · intro h
    have := h q hq
    unfold turnAt at this
    rw [if_pos rfl] at this
    have h2 : a q ^^^ a q = a q ^^^ (a q ^^^ x) := by rw [← this]
    rw [BitVec.xor_self, ← BitVec.xor_assoc, BitVec.xor_self, BitVec.zero_xor] at h2
    exact h2.symm
  · rintro rfl i hi
    unfold turnAt
    by_cases e : i = q <;> simp [e]
theorem mac1 {B H n c kn kc : Nat} {W : World} {k g : Nat → BitVec 8} {p kp : Option Addr} {t : TypeId} (hk : Kc B W) (hB : B ≤ W.heap.size) (hW : W.heap[H]? = some (.cells #[.slice p n c] t (0, 0))) (hkn : kn ≤ 2147483648) (hkc : kn ≤ kc) (hkm : kc ≤ maxLen)
    (hkr : Reads W.heap.size W kp kn (fun j => .int .u8 (ub (k j)))) (hc : n ≤ c) (hm : c ≤ maxLen) (hr : Reads W.heap.size W p n (fun j => .int .u8 (ub (g j)))) (hn : n ≤ 2147483584) :
    Calls Tryz.prog 44 #[.slice kp kn kc, .slice (some ⟨H, 0, none⟩) 1 1] W fun e w' => e = .returned (tagV (hmac k kn g n)) ∧ Below W.heap.size W w' := by
  have hx := macOf_any B W kp kn kc k g _ 1 1 _ _ _ _ hk hB hkn hkc hkm hkr (RI.one (f := g) hW hc hm hr) (Nat.le_refl _) (by decide) (by omega) (by rw [pos_one]; exact hn) (fun i hi j hj => by rw [show i = 0 by omega]; simp [pos])
  rw [pos_one] at hx
  exact hx

end Go.Proofs.YtejknkgbkkdaiaaGreatDoor
