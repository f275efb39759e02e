/-
  state.Same answers what sameG says.
-/
import Derived.Test.YtbagmjedkcipgaaDoorMgSttD
import Derived.Test.YtbagmjedkcipgaaDoorMgSttE
import Derived.Test.YtbagmjedkcipgaaDoorMgSttF
namespace Go.Proofs.YtbagmjedkcipgaaDoor
open Go.RowKit

theorem sameG_self (g : Nat → Int) (f : ByteArray) (l : List Int) : sameG g g f f l l = true := by simp [sameG, eqL, eqX]
theorem gsame_any (g h : Nat → Int) (f k : ByteArray) (A B : Option Addr) (l m : List Int) (ca cb : Nat) (w : World) (hA : NAt w A l) (hB : NAt w B m) (hl : l.length ≤ 1000000000) :
    Calls Tryd.prog 12 #[.agg (gsC g f (.slice A l.length ca)), .agg (gsC h k (.slice B m.length cb))] w fun e w' => e = .returned (.bool (sameG g h f k l m)) ∧ Below w.heap.size w w' := by
  by_cases q0 : eqL [g 0, g 1, g 2, g 3, g 4, g 5] [h 0, h 1, h 2, h 3, h 4, h 5] = true
  case neg =>
    rw [show sameG g h f k l m = false by simp [sameG, q0]]
    exact same_n0 g h f k A B l m ca cb w hA hB hl  (Bool.eq_false_iff.2 q0)
  by_cases q1 : g 6 = h 6
  case neg =>
    rw [show sameG g h f k l m = false by simp [sameG, q0, q1]]
    exact same_n1 g h f k A B l m ca cb w hA hB hl q0 q1
  by_cases q2 : g 7 = h 7
  case neg =>
    rw [show sameG g h f k l m = false by simp [sameG, q0, q1, q2]]
    exact same_n2 g h f k A B l m ca cb w hA hB hl q0 q1 q2
  by_cases q3 : g 8 = h 8
  case neg =>
    rw [show sameG g h f k l m = false by simp [sameG, q0, q1, q2, q3]]
    exact same_n3 g h f k A B l m ca cb w hA hB hl q0 q1 q2 q3
  by_cases q4 : g 9 = h 9
  case neg =>
    rw [show sameG g h f k l m = false by simp [sameG, q0, q1, q2, q3, q4]]
    exact same_n4 g h f k A B l m ca cb w hA hB hl q0 q1 q2 q3 q4
  by_cases qd : l = m
  case neg =>
    rw [show sameG g h f k l m = false by simp [sameG, q0, q1, q2, q3, q4, qd]]
    exact same_n5 g h f k A B l m ca cb w hA hB hl q0 q1 q2 q3 q4 qd
  by_cases q5 : g 10 = h 10
  case neg =>
    rw [show sameG g h f k l m = false by simp [sameG, q0, q1, q2, q3, q4, qd, q5]]
    exact same_n6 g h f k A B l m ca cb w hA hB hl q0 q1 q2 q3 q4 qd q5
  by_cases q6 : eqL [g 11, g 12, g 13, g 14, g 15] [h 11, h 12, h 13, h 14, h 15] = true
  case neg =>
    rw [show sameG g h f k l m = false by simp [sameG, q0, q1, q2, q3, q4, qd, q5, q6]]
    exact same_n7 g h f k A B l m ca cb w hA hB hl q0 q1 q2 q3 q4 qd q5 (Bool.eq_false_iff.2 q6)
  by_cases q7 : eqL [g 16, g 17, g 18, g 19, g 20] [h 16, h 17, h 18, h 19, h 20] = true
  case neg =>
    rw [show sameG g h f k l m = false by simp [sameG, q0, q1, q2, q3, q4, qd, q5, q6, q7]]
    exact same_n8 g h f k A B l m ca cb w hA hB hl q0 q1 q2 q3 q4 qd q5 q6 (Bool.eq_false_iff.2 q7)
  by_cases q8 : eqX [g 21, g 22, g 23, g 24, g 25, g 26, g 27] f [h 21, h 22, h 23, h 24, h 25, h 26, h 27] k = true
  case neg =>
    rw [show sameG g h f k l m = false by simp [sameG, q0, q1, q2, q3, q4, qd, q5, q6, q7, q8]]
    exact same_n9 g h f k A B l m ca cb w hA hB hl q0 q1 q2 q3 q4 qd q5 q6 q7 (Bool.eq_false_iff.2 q8)
  rw [show sameG g h f k l m = true by simp [sameG, q0, q1, q2, q3, q4, qd, q5, q6, q7, q8]]
  exact same_yes g h f k A B l m ca cb w hA hB hl q0 q1 q2 q3 q4 qd q5 q6 q7 q8
end Go.Proofs.YtbagmjedkcipgaaDoor
