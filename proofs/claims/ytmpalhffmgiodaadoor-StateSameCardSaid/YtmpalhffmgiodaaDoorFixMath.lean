/-
  Plain mathematics of the layer fix: rounding to the nearest, sums, the root. No program in this text.
-/
import Derived.Below
namespace Go.Proofs.YtmpalhffmgiodaaDoor.Fix

/-- n/by to the nearest integer, halves up. -/
def nearS (n d : Int) : Int := (2 * n + d) / (2 * d)

/-- What Go's text computes from its truncated quotient and rest. -/
theorem near_go (n d : Int) (hd : 0 < d) :
    nearS n d = (if n.tmod d < 0 then (if d - (n.tmod d + d) ≤ n.tmod d + d then n.tdiv d - 1 + 1 else n.tdiv d - 1) else (if d - n.tmod d ≤ n.tmod d then n.tdiv d + 1 else n.tdiv d)) := by
  have hdm : d * (n.tdiv d) + n.tmod d = n := Int.mul_tdiv_add_tmod n d
  have hq : ∀ q r : Int, n = d * q + r → 0 ≤ r → r < d → nearS n d = if d - r ≤ r then q + 1 else q := by
    intro q r hn h0 h1
    have e : 2 * n + d = (2 * r + d) + q * (2 * d) := by
      rw [hn, Int.mul_add, Int.mul_comm q (2 * d), Int.mul_assoc]; omega
    unfold nearS
    rw [e, Int.add_mul_ediv_right _ _ (by omega : (2 * d) ≠ 0)]
    by_cases h : d - r ≤ r
    · rw [if_pos h]
      have : (2 * r + d) / (2 * d) = 1 := by
        have e1 : 2 * r + d = (2 * r - d) + 1 * (2 * d) := by omega
        rw [e1, Int.add_mul_ediv_right _ _ (by omega : (2 * d) ≠ 0), Int.ediv_eq_zero_of_lt (by omega) (by omega)]
        rfl
      rw [this]; omega
    · rw [if_neg h, Int.ediv_eq_zero_of_lt (by omega) (by omega)]
      omega
  have hlt : n.tmod d < d := Int.tmod_lt_of_pos n hd
  have hgt : -d < n.tmod d := by
    have := Int.lt_tmod_of_pos n hd
    omega
  by_cases h : n.tmod d < 0
  · rw [if_pos h, hq (n.tdiv d - 1) (n.tmod d + d) (by rw [Int.mul_sub, Int.mul_one]; omega) (by omega) (by omega)]
  · rw [if_neg h, hq (n.tdiv d) (n.tmod d) (by omega) (by omega) hlt]

/-- To the nearest: within a half, halves up. -/
theorem near_bounds (n d : Int) (hd : 0 < d) : d * (2 * nearS n d - 1) ≤ 2 * n ∧ 2 * n < d * (2 * nearS n d + 1) := by
  have h1 : (2 * d) * nearS n d ≤ 2 * n + d := Int.mul_ediv_self_le (by omega)
  have h2 : 2 * n + d < (2 * d) * nearS n d + 2 * d := Int.lt_mul_ediv_self_add (by omega)
  rw [Int.mul_sub, Int.mul_add]
  have e : d * (2 * nearS n d) = (2 * d) * nearS n d := by rw [← Int.mul_assoc, Int.mul_comm d 2]
  rw [e, Int.mul_one]
  omega

theorem near_exact (a d : Int) (hd : 0 < d) : nearS (a * d) d = a := by
  unfold nearS
  have e : 2 * (a * d) + d = d + a * (2 * d) := by
    rw [← Int.mul_assoc, Int.mul_comm 2 a, Int.mul_assoc]; omega
  rw [e, Int.add_mul_ediv_right _ _ (by omega : (2 * d) ≠ 0), Int.ediv_eq_zero_of_lt (by omega) (by omega)]
  omega

theorem near_le {n d b : Int} (hd : 0 < d) (h : n ≤ b * d) : nearS n d ≤ b := by
  have := Int.ediv_le_ediv (c := 2 * d) (by omega) (show 2 * n + d ≤ 2 * (b * d) + d by omega)
  exact Int.le_trans this (Int.le_of_eq (near_exact b d hd))
theorem near_ge {n d b : Int} (hd : 0 < d) (h : b * d ≤ n) : b ≤ nearS n d := by
  have := Int.ediv_le_ediv (c := 2 * d) (by omega) (show 2 * (b * d) + d ≤ 2 * n + d by omega)
  exact Int.le_trans (Int.le_of_eq (near_exact b d hd).symm) this

/-- The root, bit by bit: what is found of it before bit k, for a root below 2^top. -/
theorem root_step (n r b : Int) (_h0 : 0 ≤ r) (_hb : 0 < b) (h1 : r * r ≤ n) (h2 : n < (r + 2 * b) * (r + 2 * b)) :
    (if (r + b) * (r + b) ≤ n then (r + b) * (r + b) ≤ n ∧ n < (r + b + b) * (r + b + b) else r * r ≤ n ∧ n < (r + b) * (r + b)) := by
  split
  · rename_i h
    exact ⟨h, by rwa [show r + b + b = r + 2 * b by omega]⟩
  · rename_i h
    exact ⟨h1, by omega⟩

theorem root_unique (n r s : Int) (hr : 0 ≤ r) (hs : 0 ≤ s) (r1 : r * r ≤ n) (r2 : n < (r + 1) * (r + 1)) (s1 : s * s ≤ n) (s2 : n < (s + 1) * (s + 1)) : r = s := by
  rcases Int.lt_trichotomy r s with h | h | h
  · have : (r + 1) * (r + 1) ≤ s * s := Int.mul_le_mul (by omega) (by omega) (by omega) (by omega)
    omega
  · exact h
  · have : (s + 1) * (s + 1) ≤ r * r := Int.mul_le_mul (by omega) (by omega) (by omega) (by omega)
    omega
def inRange (n : Int) : Bool := decide (-1073741824 ≤ n) && decide (n ≤ 1073741824)
theorem inRange_yes {n : Int} (h : inRange n = true) : -1073741824 ≤ n ∧ n ≤ 1073741824 := by
  unfold inRange at h
  simpa using h
theorem inRange_no {n : Int} (h : ¬ inRange n = true) : n < -1073741824 ∨ 1073741824 < n := by
  unfold inRange at h
  simp at h
  omega
end Go.Proofs.YtmpalhffmgiodaaDoor.Fix
