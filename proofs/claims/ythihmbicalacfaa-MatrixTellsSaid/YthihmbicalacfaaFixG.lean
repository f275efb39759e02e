/-
  Div for all operands.
-/
import Derived.Test.YthihmbicalacfaaFixF
namespace Go.Proofs.Ythihmbicalacfaa
open Go.RowKit Fix

/-- The quotient before its range is looked at. -/
def divQ (a b : Int) : Int := if b < 0 then nearS (-(a * 10000)) (-b) else nearS (a * 10000) b
def divN (a b : Int) : Int := if inRange a && inRange b then (if b = 0 then 0 else if inRange (divQ a b) then divQ a b else 0) else 0
def divE (a b : Int) : Int := if inRange a && inRange b then (if b = 0 then 1 else if inRange (divQ a b) then 0 else 2) else 2

end Go.Proofs.Ythihmbicalacfaa
