/-
  What is attacked, by the ways, is what the document tells: of squares and lists alone.
-/
import Derived.Test.YtbnpphecknhpeaaDoorDg
import Derived.Test.YtbnpphecknhpeaaDoorDk
namespace Go.Proofs.YtbnpphecknhpeaaDoor
open Go.RowKit Go.Sort
set_option linter.unusedSimpArgs false
set_option linter.unusedVariables false

/-- way i from a square on -/
def rayA (a i : Nat) : List Int := ray i (stp (a : Int) (dF i) (dR i))
def dirN (a b : Nat) : Nat :=
  let f := fD a b
  let r := rD a b
  if r == 0 then (if decide (0 < f) then 0 else 1) else if f == 0 then (if decide (0 < r) then 2 else 3)
  else if decide (0 < r) then (if decide (f < 0) then 4 else 5) else (if decide (f < 0) then 6 else 7)
/-- the squares of a way ahead of one -/
def aheadOf (l : List Int) (b : Int) : List Int := l.takeWhile fun x => !(x == b)
/-- each square on one of the eight ways is on the way of its direction, those between ahead of it -/
def fitsB (a b : Nat) : Bool := !good a b || ((rayA a (dirN a b)).contains (b : Int) && (aheadOf (rayA a (dirN a b)) b == (between a b).map Int.ofNat) && decide (dirN a b < 8))
theorem fitsB_ok : ∀ a, a < 64 → ∀ b, b < 64 → fitsB a b = true := by decide +kernel
/-- a square on a way is good, of that direction -/
def wayB (a i : Nat) : Bool := (rayA a i).all fun x => decide (0 ≤ x) && decide (x < 64) && good a x.toNat && (dirN a x.toNat == i)
theorem wayB_ok : ∀ a, a < 64 → ∀ i, i < 8 → wayB a i = true := by decide +kernel
theorem raysNodup : ∀ a, a < 64 → ((List.range 8).flatMap fun i => rayA a i).Nodup := by decide +kernel
/-- the knight's -/
def hopB (a i : Nat) : Bool := ((rayA a i).take 1).all fun x => decide (0 ≤ x) && decide (x < 64) && (absI (fD a x.toNat) * absI (rD a x.toNat) == 2) && !(a == x.toNat)
theorem hopB_ok : ∀ a, a < 64 → ∀ i, i < 8 → hopB a (8 + i) = true := by decide +kernel
def hopsB (a b : Nat) : Bool := !(absI (fD a b) * absI (rD a b) == 2) || (List.range 8).any fun i => (rayA a (8 + i)).head? == some (b : Int)
theorem hopsB_ok : ∀ a, a < 64 → ∀ b, b < 64 → hopsB a b = true := by decide +kernel
theorem hopsNodup : ∀ a, a < 64 → ((List.range 8).flatMap fun i => (rayA a (8 + i)).take 1).Nodup := by decide +kernel
/-- small facts on two squares -/
def pairB (a b : Nat) : Bool :=
  (!good a b || (((fD a b == 0 || rD a b == 0) == decide (dirN a b < 4)) && ((absI (fD a b) == absI (rD a b)) == decide (4 ≤ dirN a b)))) &&
  ((good a b && ((between a b).isEmpty)) == (!(a == b) && (decide (absI (fD a b) ≤ 1) && decide (absI (rD a b) ≤ 1)))) &&
  (!(good a b && (between a b).isEmpty) || ((decide (4 ≤ dirN a b) && decide (dirN a b < 6)) == (absI (fD a b) == 1 && rD a b == 1)) && ((decide (6 ≤ dirN a b) && decide (dirN a b < 8)) == (absI (fD a b) == 1 && rD a b == -1))) &&
  (!(absI (fD a b) == 1 && (rD a b == 1 || rD a b == -1)) || (good a b && (between a b).isEmpty)) &&
  (good a b == good b a) && (!good a b || (between b a == (between a b).reverse)) && (absI (fD b a) == absI (fD a b)) && (rD b a == - rD a b) && ((fD b a == 0) == (fD a b == 0))
theorem pairB_ok : ∀ a, a < 64 → ∀ b, b < 64 → pairB a b = true := by decide +kernel
end Go.Proofs.YtbnpphecknhpeaaDoor
