/-
  value: Int, Real, Units, Number; Clone of an object with no elements.
-/
import Derived.Test.YtbagmjedkcipgaaDoorMgMatA
import Derived.Deep.AppendLies
namespace Go.Proofs.YtbagmjedkcipgaaDoor
open Go.RowKit Fix Mat

/-- An object with a kind and a number alone. -/
def oV (k n : Int) : Value := .agg #[.int .i64 k, .int .i64 n, .int .i64 0, .string ⟨#[]⟩, .slice none 0 0, .slice none 0 0]
/-- The kind and the number of a number of units as an object. -/
def kindU (n : Int) : Int := if n.tmod 10000 = 0 then 2 else 3
def numU (n : Int) : Int := if n.tmod 10000 = 0 then n.tdiv 10000 else n
/-- What Number answers: the units, and whether it is a number. -/
def isNum (k n : Int) : Bool := (decide (k = 2) && (decide (-107374 ≤ n) && decide (n ≤ 107374))) || (decide (k = 3) && inRange n)
def unitsOf (k n : Int) : Int := if isNum k n then (if k = 2 then n * 10000 else n) else 0

set_option maxRecDepth 100000 in
set_option maxHeartbeats 1000000 in
theorem number_any (k n g : Int) (s : ByteArray) (v5 v6 : Value) (w : World) :
    Calls Tryd.prog 78 #[.agg #[.int .i64 k, .int .i64 n, .int .i64 g, .string s, v5, v6]] w fun e w' => e = .returned (.tuple #[.int .i64 (unitsOf k n), .bool (isNum k n)]) ∧ Below w.heap.size w w' := by
  have HB := Lib.hid ((Below.refl _ w).alloc (Nat.le_refl _) (.cells #[.int .i64 k, .int .i64 n, .int .i64 g, .string s, v5, v6] 50))
  have HC := Lib.hid (Blk.new w 50 #[.int .i64 k, .int .i64 n, .int .i64 g, .string s, v5, v6])
  obtain ⟨N, hN⟩ : ∃ N, w.heap.size = N := ⟨_, rfl⟩
  rw [hN] at HB HC ⊢
  obtain ⟨w1, hw1⟩ : ∃ w1, w.alloc (.cells #[.int .i64 k, .int .i64 n, .int .i64 g, .string s, v5, v6] 50) = w1 := ⟨_, rfl⟩
  rw [hw1] at HB HC
  obtain ⟨⟨c0, c1, c2, c3, c4, c5⟩, _⟩ := six_cells HC.out
  have hq : IntKind.i64.wrap ((1073741824 : Int).tdiv 10000) = 107374 := by decide +kernel
  by_cases h2 : k = 2
  · subst h2
    by_cases hr : -107374 ≤ n ∧ n ≤ 107374
    · have e1 : isNum 2 n = true := by unfold isNum; simp [hr.1, hr.2]
      have e2 : unitsOf 2 n = n * 10000 := by unfold unitsOf; rw [e1]; rfl
      rw [e1, e2]
      have r1 : ¬ n < -107374 := by omega
      have r2 : ¬ 107374 < n := by omega
      have hw : IntKind.i64.wrap (n * 10000) = n * 10000 := IntWalk.i64_in _ (by omega)
      clear hr e1 e2
      go_enter Tryd.func78, Tryd.ntmps78
      go_wp2_with fail
      go_ret2
      exact ⟨rfl, HB.out⟩
    · have e1 : isNum 2 n = false := by unfold isNum; simp; omega
      have e2 : unitsOf 2 n = 0 := by unfold unitsOf; rw [e1]; rfl
      rw [e1, e2]
      rcases (show n < -107374 ∨ 107374 < n by omega) with r1 | r1
      · clear hr e1 e2
        go_enter Tryd.func78, Tryd.ntmps78
        go_wp2_with fail
        go_ret2
        exact ⟨rfl, HB.out⟩
      · have r0 : ¬ n < -107374 := by omega
        clear hr e1 e2
        go_enter Tryd.func78, Tryd.ntmps78
        go_wp2_with fail
        go_ret2
        exact ⟨rfl, HB.out⟩
  · by_cases h3 : k = 3
    · subst h3
      by_cases hr : inRange n = true
      · have e1 : isNum 3 n = true := by unfold isNum; simp [hr]
        have e2 : unitsOf 3 n = n := by unfold unitsOf; rw [e1]; rfl
        rw [e1, e2]
        have hr2 := inRange_yes hr
        have r1 : ¬ n < -1073741824 := by omega
        have r2 : ¬ 1073741824 < n := by omega
        clear hr hr2 e1 e2 hq
        go_enter Tryd.func78, Tryd.ntmps78
        go_wp2_with fail
        go_ret2
        exact ⟨rfl, HB.out⟩
      · have e1 : isNum 3 n = false := by unfold isNum; simp [hr]
        have e2 : unitsOf 3 n = 0 := by unfold unitsOf; rw [e1]; rfl
        rw [e1, e2]
        rcases inRange_no hr with r1 | r1
        · clear hr e1 e2 hq
          go_enter Tryd.func78, Tryd.ntmps78
          go_wp2_with fail
          go_ret2
          exact ⟨rfl, HB.out⟩
        · have r0 : ¬ n < -1073741824 := by omega
          clear hr e1 e2 hq
          go_enter Tryd.func78, Tryd.ntmps78
          go_wp2_with fail
          go_ret2
          exact ⟨rfl, HB.out⟩
    · have e1 : isNum k n = false := by unfold isNum; simp [h2, h3]
      have e2 : unitsOf k n = 0 := by unfold unitsOf; rw [e1]; rfl
      rw [e1, e2]
      clear e1 e2 hq
      go_enter Tryd.func78, Tryd.ntmps78
      go_wp2_with fail
      go_ret2
      exact ⟨rfl, HB.out⟩

/-! ### Clone, of a leaf. -/
end Go.Proofs.YtbagmjedkcipgaaDoor
