/-
  Sum: the loop over the operands, at whatever slice reads as the list xs.
-/
import Derived.Test.YthihmbicalacfaaFixI
namespace Go.Proofs.Ythihmbicalacfaa
open Go.RowKit Fix

/-- The slice's elements, as the world holds them: at no element nothing is asked of the address. -/
def ReadsInts (w : World) (a : Option Addr) (xs : List Int) : Prop := ∀ j (h : j < xs.length), ∃ b off : Nat, a = some ⟨b, off, none⟩ ∧ w.cell? ⟨b, off + j, none⟩ = some (.int .i64 xs[j])

def sumL (xs : List Int) : Int := xs.foldl (· + ·) 0
theorem sumL_more (xs : List Int) (k : Nat) (h : k < xs.length) : sumL (xs.take (k + 1)) = sumL (xs.take k) + xs[k] := by
  unfold sumL
  rw [List.take_succ_eq_append_getElem h, List.foldl_append]
  rfl
theorem all_more (xs : List Int) (k : Nat) (h : k < xs.length) : (xs.take (k + 1)).all inRange = ((xs.take k).all inRange && inRange xs[k]) := by
  rw [List.take_succ_eq_append_getElem h, List.all_append]
  simp
theorem all_not (xs : List Int) (k : Nat) (h : k < xs.length) (hb : ¬ inRange xs[k] = true) : xs.all inRange = false := by
  rw [List.all_eq_false]
  exact ⟨xs[k], List.getElem_mem h, hb⟩
def sumN (xs : List Int) : Int := if xs.all inRange && inRange (sumL xs) then sumL xs else 0
def sumE (xs : List Int) : Int := if xs.all inRange && inRange (sumL xs) then 0 else 2
/-- How the work of Sum ends. -/
def sumEnd (xs : List Int) : Ending := if xs.all inRange && inRange (sumL xs) then .returned (.int .i64 (sumL xs)) else gaveUp 2
theorem sumEnd_bad (xs : List Int) (h : xs.all inRange = false) : sumEnd xs = gaveUp 2 := by unfold sumEnd; rw [h]; rfl
theorem sumEnd_big (xs : List Int) (h : ¬ inRange (sumL xs) = true) : sumEnd xs = gaveUp 2 := by unfold sumEnd; rw [Bool.eq_false_iff.2 h, Bool.and_false]; rfl
theorem sumEnd_ok (xs : List Int) (h : xs.all inRange = true) (h2 : inRange (sumL xs) = true) : sumEnd xs = .returned (.int .i64 (sumL xs)) := by unfold sumEnd; rw [h, h2]; rfl

end Go.Proofs.Ythihmbicalacfaa
