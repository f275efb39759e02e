/-
  Plain mathematics of the law of the tags: the rows that Encode made, their tags and sums. No program in this text.
-/
import Derived.Test.YticliemmplefoaaPrdMath
namespace Go.Proofs.Yticliemmplefoaa.Prd

/-- Row j of what Encode made. -/
theorem enc_row {pr co n : Nat} {l : List UInt8} {m : Nat} (h : l.length = n * m) : ∀ k, k ≤ m → ∀ j, j < k → rowR (tgs pr + n) (encR pr co n l k) j = encOne pr co (prevR n l j) (rowR n l j)
  | 0, _, j, hj => by omega
  | k + 1, hk, j, hj => by
    have hl := encR_len (pr := pr) (colors := co) h k (by omega)
    have h1 : (encOne pr co (prevR n l k) (rowR n l k)).length = tgs pr + n := by rw [encOne_len, rowR_len h (by omega)]
    rw [encR_succ]
    by_cases e : j = k
    · subst e
      exact rowR_pre hl h1
    · rw [rowR_left hl (by omega)]
      exact enc_row h k (by omega) j (by omega)
/-- A row of predictor 10 and above: its tag, and the filtered bytes. -/
theorem encOne_ten {pr co : Nat} {prev row : List UInt8} (h : ¬ pr < 10) : encOne pr co prev row = UInt8.ofNat (tagOf pr prev row co) :: lessR (tagOf pr prev row co) prev row co := by
  unfold encOne
  rw [if_neg h]
  rfl
theorem tagOf_fix {k co : Nat} {prev row : List UInt8} (hk : k < 5) : tagOf (10 + k) prev row co = k := by
  unfold tagOf
  rw [if_neg (by omega), if_neg (by omega)]
  omega
theorem tagOf_best {co : Nat} {prev row : List UInt8} : tagOf (10 + 5) prev row co = bestR prev row co := by
  unfold tagOf
  rw [if_neg (by omega), if_pos rfl]
/-- What the law asks of a row: of E k the tag is k; 15's sum is the least; and where the tags agree, so do the rows. -/
theorem tags_row {co n : Nat} {l : List UInt8} {m j k : Nat} (h : l.length = n * m) (hj : j < m) (hk : k < 5) :
    ∃ (a b : List UInt8) (T : Nat), T < 5 ∧ rowR (1 + n) (encR (10 + k) co n l m) j = UInt8.ofNat k :: a ∧ rowR (1 + n) (encR (10 + 5) co n l m) j = UInt8.ofNat T :: b ∧ weightR b ≤ weightR a ∧ (k = T → a = b) := by
  refine ⟨lessR k (prevR n l j) (rowR n l j) co, lessR (bestR (prevR n l j) (rowR n l j) co) (prevR n l j) (rowR n l j) co, bestR (prevR n l j) (rowR n l j) co, bestR_lt _ _ _, ?_, ?_, ?_, fun e => by rw [e]⟩
  · have := enc_row (pr := 10 + k) (co := co) h m (Nat.le_refl _) j hj
    rw [encOne_ten (by omega), tagOf_fix hk] at this
    rw [show 1 + n = tgs (10 + k) + n by unfold tgs; rw [if_neg (by omega)]]
    exact this
  · have := enc_row (pr := 10 + 5) (co := co) h m (Nat.le_refl _) j hj
    rw [encOne_ten (by omega), tagOf_best] at this
    rw [show 1 + n = tgs (10 + 5) + n by unfold tgs; rw [if_neg (by omega)]]
    exact this
  · have h1 := bestN_sum (prevR n l j) (rowR n l j) co 5 (by omega)
    have h2 := bestN_min (prevR n l j) (rowR n l j) co 5 k hk
    unfold bestR
    omega
end Go.Proofs.Yticliemmplefoaa.Prd
