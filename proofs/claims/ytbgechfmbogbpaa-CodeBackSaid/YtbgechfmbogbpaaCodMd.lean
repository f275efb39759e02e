/-
  Plain mathematics of the layer code, the fourth part: what the table reads.
-/
import Derived.Test.YtbgechfmbogbpaaCodMc
import Derived.Test.YtbgechfmbogbpaaBitMath
namespace Go.Proofs.Ytbgechfmbogbpaa.Cod
open Bt

/-- The word of n bits from a place on, the first bit on top. -/
def wd (l : List UInt8) (a : Nat) : Nat → Nat
  | 0 => 0
  | n + 1 => 2 * wd l a n + bitN 1 l (a + n)
theorem wd_lt (l : List UInt8) (a : Nat) : ∀ n, wd l a n < 2 ^ n
  | 0 => by simp [wd]
  | n + 1 => by
    have h1 := wd_lt l a n
    have h2 := bitN_lt 1 l (a + n)
    simp only [wd, Nat.pow_succ]
    omega
/-- The longest of the first k lengths that occur. -/
def longK (l : List Int) : Nat → Nat
  | 0 => 0
  | k + 1 => if 0 < tl l k then k else longK l k
theorem longK_le (l : List Int) : ∀ k, longK l k ≤ k
  | 0 => Nat.le_refl _
  | k + 1 => by
    have := longK_le l k
    simp only [longK]
    split <;> omega
theorem longK_lt (l : List Int) : longK l 16 ≤ 15 := by
  have := longK_le l 15
  rw [show longK l 16 = if 0 < tl l 15 then 15 else longK l 15 from rfl]
  split <;> omega
/-- The symbol, the error and the place behind a reading, m lengths still to be tried, n bits read. -/
def rdS (L : List Int) (l : List UInt8) (tot a : Nat) : Nat → Nat → Int × Int × Nat
  | 0, n => (0, 13, a + n)
  | m + 1, n =>
    if tot ≤ a + n then (0, 4, a + n)
    else if wd l a (n + 1) < fst1 L (n + 1) + tl L (n + 1) then ((signsL L).getD (totK L (n + 1) + wd l a (n + 1) - fst1 L (n + 1)) 0, 0, a + n + 1)
    else rdS L l tot a m (n + 1)
theorem rdS_at (L : List Int) (l : List UInt8) (tot a : Nat) (ha : a ≤ tot) : ∀ m n, a + n ≤ tot → (rdS L l tot a m n).2.2 ≤ tot
  | 0, n, h => h
  | m + 1, n, h => by
    unfold rdS
    by_cases h1 : tot ≤ a + n
    · rw [if_pos h1]; exact h
    · rw [if_neg h1]
      by_cases h2 : wd l a (n + 1) < fst1 L (n + 1) + tl L (n + 1)
      · rw [if_pos h2]; show a + n + 1 ≤ tot; omega
      · rw [if_neg h2]; exact rdS_at L l tot a ha m (n + 1) (by omega)
end Go.Proofs.Ytbgechfmbogbpaa.Cod
