/-
  Merged: Jefe, MacAwake.
-/
import Derived.Test.YtoocfkaclhgjeaaDoorMac
import Derived.Test.YtoocfkaclhgjeaaDoorMacOf

namespace Go.Proofs.YtoocfkaclhgjeaaDoor
open Go.RowKit
set_option linter.unusedSimpArgs false
set_option linter.unusedVariables false

theorem comp_l8 (s : Nat → BitVec 32) (b : Nat → BitVec 8) (hs : s = l8 (s 0) (s 1) (s 2) (s 3) (s 4) (s 5) (s 6) (s 7)) : comp s b = l8 (comp s b 0) (comp s b 1) (comp s b 2) (comp s b 3) (comp s b 4) (comp s b 5) (comp s b 6) (comp s b 7) := by
  funext i
  unfold comp
  obtain ⟨a0, a1, a2, a3, a4, a5, a6, a7, h⟩ : ∃ a0 a1 a2 a3 a4 a5 a6 a7, rd (wl (bw b) 48) s 64 = l8 a0 a1 a2 a3 a4 a5 a6 a7 := ⟨_, _, _, _, _, _, _, _, rfl⟩
  rw [h]
  have e : ∀ x, s x = l8 (s 0) (s 1) (s 2) (s 3) (s 4) (s 5) (s 6) (s 7) x := fun x => congrFun hs x
  match i with
  | 0 => rfl
  | 1 => rfl
  | 2 => rfl
  | 3 => rfl
  | 4 => rfl
  | 5 => rfl
  | 6 => rfl
  | 7 => rfl
  | i + 8 => show a7 + s (i + 8) = a7 + s 7; rw [e (i + 8)]; rfl
theorem two_blocks (g : Nat → BitVec 8) (n : Nat) (hn : full n / 64 = 2) (W0 W1 C0 C1 l1 l2 : List (BitVec 32)) (h0 : W0 = (List.range 16).map (bw (blk (fillB g n) 0))) (h1 : W1 = (List.range 16).map (bw (blk (fillB g n) 1)))
    (c0 : compL begL W0 = C0) (e1 : ∀ i, i < 8 → C0.getD i 0#32 + begL.getD i 0#32 = l1.getD i 0#32) (c1 : compL l1 W1 = C1) (e2 : ∀ i, i < 8 → C1.getD i 0#32 + l1.getD i 0#32 = l2.getD i 0#32) (i : Nat) (hi : i < 32) :
    sha g n i = wb (fun j => l2.getD j 0#32) i := by
  have m1 : ∀ j, j < 8 → l1.getD j 0#32 = mid (fillB g n) 1 j := fun j hj => by
    show _ = comp beg (blk (fillB g n) 0) j
    rw [compL_eq beg begL W0 _ (by decide) (by funext k; rfl) h0 j hj, c0, e1 j hj]
  have m2 : ∀ j, j < 8 → mid (fillB g n) 2 j = l2.getD j 0#32 := fun j hj => by
    show comp (mid (fillB g n) 1) (blk (fillB g n) 1) j = _
    rw [compL_eq (mid (fillB g n) 1) l1 W1 _ m1 (comp_l8 beg (blk (fillB g n) 0) (by funext k; rfl)) h1 j hj, c1, e2 j hj]
  show wb (mid (fillB g n) (full n / 64)) i = _
  rw [hn]
  unfold wb
  rw [m2 (i / 4) (by omega)]
def jefL : List (BitVec 8) := [0x4a#8, 0x65#8, 0x66#8, 0x65#8]
def txtL : List (BitVec 8) := [0x77#8, 0x68#8, 0x61#8, 0x74#8, 0x20#8, 0x64#8, 0x6f#8, 0x20#8, 0x79#8, 0x61#8, 0x20#8, 0x77#8, 0x61#8, 0x6e#8, 0x74#8, 0x20#8, 0x66#8, 0x6f#8, 0x72#8, 0x20#8, 0x6e#8, 0x6f#8, 0x74#8, 0x68#8, 0x69#8, 0x6e#8, 0x67#8, 0x3f#8]
def jefB (i : Nat) : BitVec 8 := jefL.getD i 0#8
def txtB (i : Nat) : BitVec 8 := txtL.getD i 0#8
def iW0 : List (BitVec 32) := [0x7c535053#32, 0x36363636#32, 0x36363636#32, 0x36363636#32, 0x36363636#32, 0x36363636#32, 0x36363636#32, 0x36363636#32, 0x36363636#32, 0x36363636#32, 0x36363636#32, 0x36363636#32, 0x36363636#32, 0x36363636#32, 0x36363636#32, 0x36363636#32]
def iC0 : List (BitVec 32) := [0xfb53c193#32, 0x10db9cb2#32, 0x1dade259#32, 0x6142f8d4#32, 0x536bd154#32, 0xb1358bbd#32, 0xbc1e4137#32, 0x1ce682f3#32]
def iS0 : List (BitVec 32) := [0x655da7fa#32, 0xcc434b37#32, 0x5a1cd5cb#32, 0x0692ee0e#32, 0xa47a23d3#32, 0x4c3af449#32, 0xdba21ae2#32, 0x78c7500c#32]
def iW1 : List (BitVec 32) := [0x77686174#32, 0x20646f20#32, 0x79612077#32, 0x616e7420#32, 0x666f7220#32, 0x6e6f7468#32, 0x696e673f#32, 0x80000000#32, 0x00000000#32, 0x00000000#32, 0x00000000#32, 0x00000000#32, 0x00000000#32, 0x00000000#32, 0x00000000#32, 0x000002e0#32]
def iC1 : List (BitVec 32) := [0x3d86dd8c#32, 0x70e4aea1#32, 0x0a8fb7b5#32, 0x1d9fb3df#32, 0xa3036879#32, 0x22f9a8cd#32, 0xf945ce35#32, 0x4d627acb#32]
def iS1 : List (BitVec 32) := [0xa2e48586#32, 0x3d27f9d8#32, 0x64ac8d80#32, 0x2432a1ed#32, 0x477d8c4c#32, 0x6f349d16#32, 0xd4e7e917#32, 0xc629cad7#32]
def oW0 : List (BitVec 32) := [0x16393a39#32, 0x5c5c5c5c#32, 0x5c5c5c5c#32, 0x5c5c5c5c#32, 0x5c5c5c5c#32, 0x5c5c5c5c#32, 0x5c5c5c5c#32, 0x5c5c5c5c#32, 0x5c5c5c5c#32, 0x5c5c5c5c#32, 0x5c5c5c5c#32, 0x5c5c5c5c#32, 0x5c5c5c5c#32, 0x5c5c5c5c#32, 0x5c5c5c5c#32, 0x5c5c5c5c#32]
def oC0 : List (BitVec 32) := [0xa4a5fd6e#32, 0x57d97fe7#32, 0x2dfb3c79#32, 0x87e76592#32, 0x0096aac8#32, 0xd2ab2d5c#32, 0x043bc7df#32, 0xf71074bc#32]
def oS0 : List (BitVec 32) := [0x0eafe3d5#32, 0x13412e6c#32, 0x6a6a2feb#32, 0x2d375acc#32, 0x51a4fd47#32, 0x6db095e8#32, 0x23bfa18a#32, 0x52f141d5#32]
def oW1 : List (BitVec 32) := [0xa2e48586#32, 0x3d27f9d8#32, 0x64ac8d80#32, 0x2432a1ed#32, 0x477d8c4c#32, 0x6f349d16#32, 0xd4e7e917#32, 0xc629cad7#32, 0x80000000#32, 0x00000000#32, 0x00000000#32, 0x00000000#32, 0x00000000#32, 0x00000000#32, 0x00000000#32, 0x00000300#32]
def oC1 : List (BitVec 32) := [0x4d2cdd71#32, 0xac1f46e2#32, 0xff99f43b#32, 0xdb5e1afb#32, 0x085b41c1#32, 0x2f76a39b#32, 0x7a2cb72f#32, 0x11faf66e#32]
def oS1 : List (BitVec 32) := [0x5bdcc146#32, 0xbf60754e#32, 0x6a042426#32, 0x089575c7#32, 0x5a003f08#32, 0x9d273983#32, 0x9dec58b9#32, 0x64ec3843#32]
def innB : Nat → BitVec 8 := cat (xorB (kblk jefB 4) 0x36#8) 64 txtB
def innL : List (BitVec 8) := [0xa2#8, 0xe4#8, 0x85#8, 0x86#8, 0x3d#8, 0x27#8, 0xf9#8, 0xd8#8, 0x64#8, 0xac#8, 0x8d#8, 0x80#8, 0x24#8, 0x32#8, 0xa1#8, 0xed#8, 0x47#8, 0x7d#8, 0x8c#8, 0x4c#8, 0x6f#8, 0x34#8, 0x9d#8, 0x16#8, 0xd4#8, 0xe7#8, 0xe9#8, 0x17#8, 0xc6#8, 0x29#8, 0xca#8, 0xd7#8]
def innT (i : Nat) : BitVec 8 := innL.getD i 0#8
def outB : Nat → BitVec 8 := cat (xorB (kblk jefB 4) 0x5c#8) 64 innT
def outL : List (BitVec 8) := [0x5b#8, 0xdc#8, 0xc1#8, 0x46#8, 0xbf#8, 0x60#8, 0x75#8, 0x4e#8, 0x6a#8, 0x04#8, 0x24#8, 0x26#8, 0x08#8, 0x95#8, 0x75#8, 0xc7#8, 0x5a#8, 0x00#8, 0x3f#8, 0x08#8, 0x9d#8, 0x27#8, 0x39#8, 0x83#8, 0x9d#8, 0xec#8, 0x58#8, 0xb9#8, 0x64#8, 0xec#8, 0x38#8, 0x43#8]
theorem inn_w0 : iW0 = (List.range 16).map (bw (blk (fillB innB 92) 0)) := by decide +kernel
theorem inn_w1 : iW1 = (List.range 16).map (bw (blk (fillB innB 92) 1)) := by decide +kernel
theorem inn_c0 : compL begL iW0 = iC0 := by decide +kernel
theorem inn_c1 : compL iS0 iW1 = iC1 := by decide +kernel
theorem inn_sha (i : Nat) (hi : i < 32) : sha innB 92 i = innT i := by
  rw [two_blocks innB 92 (by decide) iW0 iW1 iC0 iC1 iS0 iS1 inn_w0 inn_w1 inn_c0 (by decide +kernel) inn_c1 (by decide +kernel) i hi]
  have h2 : ∀ k, k < 32 → wb (fun j => iS1.getD j 0#32) k = innT k := by decide +kernel
  exact h2 i hi
theorem out_w0 : oW0 = (List.range 16).map (bw (blk (fillB outB 96) 0)) := by decide +kernel
theorem out_w1 : oW1 = (List.range 16).map (bw (blk (fillB outB 96) 1)) := by decide +kernel
theorem out_c0 : compL begL oW0 = oC0 := by decide +kernel
theorem out_c1 : compL oS0 oW1 = oC1 := by decide +kernel
theorem out_sha (i : Nat) (hi : i < 32) : sha outB 96 i = outL.getD i 0#8 := by
  rw [two_blocks outB 96 (by decide) oW0 oW1 oC0 oC1 oS0 oS1 out_w0 out_w1 out_c0 (by decide +kernel) out_c1 (by decide +kernel) i hi]
  have h2 : ∀ k, k < 32 → wb (fun j => oS1.getD j 0#32) k = outL.getD k 0#8 := by decide +kernel
  exact h2 i hi
theorem jefe {g : Nat → BitVec 8} (hg : ∀ i, i < 28 → g i = txtB i) (i : Nat) (hi : i < 32) : hmac jefB 4 g 28 i = outL.getD i 0#8 := by
  rw [← out_sha i hi]
  show hmb (kblk jefB 4) g 28 i = _
  rw [hmb_congr (b' := kblk jefB 4) (fun _ _ => rfl) hg]
  refine congrFun (sha_congr (64 + 32) fun j hj => cat_congr (fun _ _ => rfl) (fun q hq => ?_) j hj) i
  exact inn_sha q hq
end Go.Proofs.YtoocfkaclhgjeaaDoor

namespace Go.Proofs.YtoocfkaclhgjeaaDoor
open Go.RowKit
set_option linter.unusedVariables false
set_option linter.unusedSimpArgs false

def jefC : Array Value := #[.int .u8 74, .int .u8 101, .int .u8 102, .int .u8 101]
def txtA : Array Value := #[.int .u8 119, .int .u8 104, .int .u8 97, .int .u8 116, .int .u8 32, .int .u8 100, .int .u8 111, .int .u8 32, .int .u8 121, .int .u8 97, .int .u8 32, .int .u8 119, .int .u8 97, .int .u8 110, .int .u8 116, .int .u8 32]
def txtZ : Array Value := #[.int .u8 102, .int .u8 111, .int .u8 114, .int .u8 32, .int .u8 110, .int .u8 111, .int .u8 116, .int .u8 104, .int .u8 105, .int .u8 110, .int .u8 103, .int .u8 63]
theorem jefC_at : ∀ i, i < 4 → jefC[i]? = some (.int .u8 (ub (jefB i)))
  | 0, _ => by rfl
  | 1, _ => by rfl
  | 2, _ => by rfl
  | 3, _ => by rfl
theorem txtA_list : txtA = ((List.range 16).map fun i => Value.int .u8 (ub (txtB i))).toArray := by kernel_rfl
theorem txtZ_list : txtZ = ((List.range 12).map fun i => Value.int .u8 (ub (txtB (16 + i)))).toArray := by kernel_rfl
theorem txtA_at (i : Nat) (hi : i < 16) : txtA[i]? = some (.int .u8 (ub (txtB i))) := by rw [txtA_list]; simp [hi]
theorem txtZ_at (i : Nat) (hi : i < 12) : txtZ[i]? = some (.int .u8 (ub (txtB (16 + i)))) := by rw [txtZ_list]; simp [hi]

end Go.Proofs.YtoocfkaclhgjeaaDoor
