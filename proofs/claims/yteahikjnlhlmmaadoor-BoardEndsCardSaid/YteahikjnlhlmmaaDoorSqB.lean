/-
  Contracts: names of squares; the document's answers on numbers.
-/
import Derived.Test.YteahikjnlhlmmaaDoorSqR
import Derived.Laws.IdiomStrings
namespace Go.Proofs.YteahikjnlhlmmaaDoor
open Go.RowKit
set_option linter.unusedSimpArgs false
set_option linter.unusedVariables false

/-- a byte of a small number -/
def ch (n : Int) : UInt8 := UInt8.ofNat n.toNat
theorem ch_nat {n : Int} (h0 : 0 ≤ n) (h1 : n < 256) : ((ch n).toNat : Int) = n := by
  unfold ch; rw [UInt8.toNat_ofNat']; omega
/-- a square's name -/
def nm (s : Int) : ByteArray := ⟨#[ch (97 + s % 8), ch (49 + s / 8)]⟩
def nmV (s : Int) : ByteArray := if sq s then nm s else ⟨#[]⟩
theorem q_t {a b : Int} {c : Bool} (h : a = b) : Ending.returned (.tuple #[.int .i64 a, .bool c]) = .returned (.tuple #[.int .i64 b, .bool c]) := by rw [h]
/-- the bytes of a string, as numbers -/
def nb (S : ByteArray) (i : Nat) : Int := ((S.data.toList.getD i 0).toNat : Int)
/-- is it a square's name, and which? -/
def isN (S : ByteArray) : Bool := decide (S.size = 2) && onB (nb S 0 - 97) (nb S 1 - 49)
def nN (S : ByteArray) : Int := if isN S then 8 * (nb S 1 - 49) + (nb S 0 - 97) else 0
end Go.Proofs.YteahikjnlhlmmaaDoor
