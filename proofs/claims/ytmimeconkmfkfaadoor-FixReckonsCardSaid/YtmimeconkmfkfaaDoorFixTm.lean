/-
  Plain mathematics of fix.Text: the decimal numeral with its decimals. No program in this text.
-/
import Derived.Test.YtmimeconkmfkfaaDoorFixW
import Derived.Lib.ItoaNum
import Derived.Lib.ItoaLen
import Derived.Lib.TrimByte
namespace Go.Proofs.YtmimeconkmfkfaaDoor
open Go.RowKit Fix

theorem digit_byte (m : Nat) : (48 + UInt8.ofNat m : UInt8) = UInt8.ofNat (48 + m) := by
  apply UInt8.toNat_inj.1
  rw [UInt8.toNat_add]
  simp
theorem digitsL_free (n : Nat) (h : 0 < n) : digitsL n 0 = digitsL n 1 := by
  rw [digitsL_more n 0 (Or.inl h), digitsL_more n 1 (Or.inl h)]
theorem digitsL_one (n : Nat) : digitsL n 1 = Lib.decDigits n := by
  induction n using Nat.strongRecOn with
  | _ n ih =>
    rw [Lib.decDigits, digitsL_more n 1 (Or.inr (by decide)), digit_byte _]
    by_cases h : n < 10
    · rw [dif_pos h, Nat.div_eq_of_lt h, digitsL_zero, Nat.mod_eq_of_lt h]; rfl
    · rw [dif_neg h, ← ih (n / 10) (by omega), digitsL_free (n / 10) (by omega)]
theorem dec_more (n : Nat) (h : 10 ≤ n) : Lib.decDigits n = Lib.decDigits (n / 10) ++ [UInt8.ofNat (48 + n % 10)] := by
  rw [Lib.decDigits, dif_neg (by omega)]
theorem dec_padded (r : Nat) (h : r < 10000) : Lib.decDigits (10000 + r) = 49 :: digitsL r 4 := by
  have e0 : digitsL (r / 10 / 10 / 10 / 10) 0 = [] := by rw [show r / 10 / 10 / 10 / 10 = 0 by omega, digitsL_zero]
  rw [digitsL_more r 4 (Or.inr (by decide)), digitsL_more (r / 10) 3 (Or.inr (by decide)), digitsL_more (r / 10 / 10) 2 (Or.inr (by decide)), digitsL_more (r / 10 / 10 / 10) 1 (Or.inr (by decide)), e0]
  rw [dec_more (10000 + r) (by omega), show (10000 + r) / 10 = 1000 + r / 10 by omega, dec_more (1000 + r / 10) (by omega), show (1000 + r / 10) / 10 = 100 + r / 10 / 10 by omega, dec_more (100 + r / 10 / 10) (by omega),
    show (100 + r / 10 / 10) / 10 = 10 + r / 10 / 10 / 10 by omega, dec_more (10 + r / 10 / 10 / 10) (by omega), show (10 + r / 10 / 10 / 10) / 10 = 1 by omega, show Lib.decDigits 1 = [49] by rw [Lib.decDigits]; rfl]
  rw [show (10000 + r) % 10 = r % 10 by omega, show (1000 + r / 10) % 10 = r / 10 % 10 by omega, show (100 + r / 10 / 10) % 10 = r / 10 / 10 % 10 by omega, show (10 + r / 10 / 10 / 10) % 10 = r / 10 / 10 / 10 % 10 by omega]
  rw [digit_byte (r % 10), digit_byte (r / 10 % 10), digit_byte (r / 10 / 10 % 10), digit_byte (r / 10 / 10 / 10 % 10)]
  rfl
theorem digits4_length (r : Nat) (h : r < 10000) : (digitsL r 4).length = 4 := by
  have e0 : digitsL (r / 10 / 10 / 10 / 10) 0 = [] := by rw [show r / 10 / 10 / 10 / 10 = 0 by omega, digitsL_zero]
  rw [digitsL_more r 4 (Or.inr (by decide)), digitsL_more (r / 10) 3 (Or.inr (by decide)), digitsL_more (r / 10 / 10) 2 (Or.inr (by decide)), digitsL_more (r / 10 / 10 / 10) 1 (Or.inr (by decide)), e0]
  rfl

/-- The decimals of r units, without the zeros behind; one digit at least. -/
def fracL (r : Nat) : List UInt8 := if Lib.trimRightB (digitsL r 4) 48 = [] then [48] else Lib.trimRightB (digitsL r 4) 48
/-- The text of n units. -/
def textL (n : Int) : List UInt8 := if n < -1073741824 then [] else if 1073741824 < n then [] else (if n < 0 then [45] else []) ++ Lib.decDigits (n.natAbs / 10000) ++ [46] ++ fracL (n.natAbs % 10000)

/-- The decimals as the reference cuts them: the first k of them, all behind being zeros. -/
theorem frac_take (r k : Nat) (h1 : 1 ≤ k) (hk : k ≤ (digitsL r 4).length) (hz : ∀ (j : Nat) b, k ≤ j → (digitsL r 4)[j]? = some b → b = 48) (hlast : k = 1 ∨ ∀ b, (digitsL r 4)[k - 1]? = some b → b ≠ 48) : (digitsL r 4).take k = fracL r := by
  unfold fracL
  generalize digitsL r 4 = l at *
  by_cases hb : ∀ b, l[k - 1]? = some b → b ≠ 48
  · rw [Lib.trimRightB_take l 48 k hk hz (fun b _ h => hb b h), if_neg]
    intro h0
    have := congrArg List.length h0
    rw [List.length_take, List.length_nil] at this
    omega
  · have hk1 : k = 1 := by rcases hlast with h | h; exact h; exact absurd h hb
    subst hk1
    have h0 : l[0]? = some 48 := by
      rw [List.getElem?_eq_getElem (by omega)] at hb ⊢
      simpa using hb
    have ht : Lib.trimRightB l 48 = l.take 0 := Lib.trimRightB_take l 48 0 (by omega) (fun j b hj hjb => by
      by_cases hj0 : j = 0
      · subst hj0; rw [h0] at hjb; cases hjb; rfl
      · exact hz j b (by omega) hjb) (fun b h => absurd h (by decide))
    rw [ht, List.take_zero, if_pos rfl]
    cases l with
    | nil => simp at h0
    | cons a l => simp at h0; subst h0; rfl
theorem frac_length (r : Nat) (h : r < 10000) : (fracL r).length ≤ 4 := by
  unfold fracL
  split
  · decide
  · have h4 := digits4_length r h
    unfold Lib.trimRightB
    rw [List.length_reverse]
    have := (List.dropWhile_suffix (p := (· == (48 : UInt8))) (l := (digitsL r 4).reverse)).length_le
    rw [List.length_reverse] at this
    omega
end Go.Proofs.YtmimeconkmfkfaaDoor
