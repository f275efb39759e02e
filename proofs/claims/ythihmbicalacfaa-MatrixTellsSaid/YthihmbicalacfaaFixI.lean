/-
  Root: what it returns for all numbers.
-/
import Derived.Test.YthihmbicalacfaaFixH
namespace Go.Proofs.Ythihmbicalacfaa
open Go.RowKit Fix

theorem root_exists (n : Nat) : ∃ s : Nat, s * s ≤ n ∧ n < (s + 1) * (s + 1) := by
  induction n with
  | zero => exact ⟨0, by omega, by omega⟩
  | succ n ih =>
    obtain ⟨s, h1, h2⟩ := ih
    by_cases h : n + 1 < (s + 1) * (s + 1)
    · exact ⟨s, by omega, h⟩
    · refine ⟨s + 1, by omega, ?_⟩
      have e : (s + 1 + 1) * (s + 1 + 1) = (s + 1) * (s + 1) + 2 * (s + 1) + 1 := by rw [Nat.add_mul (s + 1) 1, Nat.mul_add (s + 1)]; omega
      omega
theorem root_exists_int (n : Int) (h : 0 ≤ n) : ∃ s : Int, 0 ≤ s ∧ s * s ≤ n ∧ n < (s + 1) * (s + 1) := by
  obtain ⟨s, h1, h2⟩ := root_exists n.toNat
  have h3 : ((s * s : Nat) : Int) ≤ (n.toNat : Int) := by exact_mod_cast h1
  have h4 : (n.toNat : Int) < (((s + 1) * (s + 1) : Nat) : Int) := by exact_mod_cast h2
  rw [Int.toNat_of_nonneg h] at h3 h4
  push_cast at h3 h4
  exact ⟨s, by omega, h3, h4⟩
/-- The integer square root. -/
noncomputable def rootS (n : Int) : Int := if h : 0 ≤ n then (root_exists_int n h).choose else 0
theorem rootS_spec (n : Int) (h : 0 ≤ n) : 0 ≤ rootS n ∧ rootS n * rootS n ≤ n ∧ n < (rootS n + 1) * (rootS n + 1) := by
  unfold rootS
  rw [dif_pos h]
  exact (root_exists_int n h).choose_spec
noncomputable def rootN (a : Int) : Int := if inRange a then (if a < 0 then 0 else rootS (a * 10000)) else 0
def rootE (a : Int) : Int := if inRange a then (if a < 0 then 1 else 0) else 2

end Go.Proofs.Ythihmbicalacfaa
