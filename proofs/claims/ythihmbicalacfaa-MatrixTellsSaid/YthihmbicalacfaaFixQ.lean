/-
  The reference: Sum and Dot.
-/
import Derived.Test.YthihmbicalacfaaFixP
namespace Go.Proofs.Ythihmbicalacfaa
open Go.RowKit Fix

theorem sumE_bad (xs : List Int) (h : xs.all inRange = false) : sumN xs = 0 ∧ sumE xs = 2 := by unfold sumN sumE; rw [h]; exact ⟨rfl, rfl⟩
theorem sumE_big (xs : List Int) (h : ¬ inRange (sumL xs) = true) : sumN xs = 0 ∧ sumE xs = 2 := by unfold sumN sumE; rw [Bool.eq_false_iff.2 h, Bool.and_false]; exact ⟨rfl, rfl⟩
theorem sumE_ok (xs : List Int) (h : xs.all inRange = true) (h2 : inRange (sumL xs) = true) : sumN xs = sumL xs ∧ sumE xs = 0 := by unfold sumN sumE; rw [h, h2]; exact ⟨rfl, rfl⟩

theorem ret_twoI {a b c d : Int} (h : c = a ∧ d = b) : Ending.returned (.tuple #[.int .i64 a, .int .i64 b]) = .returned (.tuple #[.int .i64 c, .int .i64 d]) := by rw [h.1, h.2]

theorem dotE_bad (xs : List Int) (hb : dotBad xs = false) (h : xs.all inRange = false) : dotN xs = 0 ∧ dotE xs = 2 := by unfold dotN dotE; rw [h, hb]; exact ⟨rfl, rfl⟩
theorem dotE_big (xs : List Int) (s : Int) (hb : dotBad xs = false) (hs : s = dotK xs (xs.length / 2)) (h : ¬ inRange (nearS s 10000) = true) : dotN xs = 0 ∧ dotE xs = 2 := by
  have h2 : inRange (dotQ xs) = false := by unfold dotQ; rw [← hs]; exact Bool.eq_false_iff.2 h
  unfold dotN dotE; rw [hb, h2, Bool.and_false]; exact ⟨rfl, rfl⟩
theorem dotE_ok (xs : List Int) (s : Int) (hb : dotBad xs = false) (h : xs.all inRange = true) (hs : s = dotK xs (xs.length / 2)) (h2 : inRange (nearS s 10000) = true) : dotN xs = nearS s 10000 ∧ dotE xs = 0 := by
  have h3 : dotQ xs = nearS s 10000 := by unfold dotQ; rw [← hs]
  unfold dotN dotE; rw [hb, h, h3, h2]; exact ⟨rfl, rfl⟩

theorem dotR_odd (a : Option Addr) (cap n : Nat) (w : World) (hlen : n ≤ 1000000) (h : n % 2 = 1) :
    Calls Try.prog 39 #[.slice a n cap] w fun e w' => e = .returned (.tuple #[.int .i64 0, .int .i64 1]) ∧ w' = w := by
  have h1 : (n : Int).tmod 2 = 1 := by rw [Int.tmod_eq_emod_of_nonneg (by omega)]; omega
  have h1e : (n : Int) % 2 = 1 := by omega
  go_enter Try.func39, Try.ntmps39
  go_wp2
  go_ret2
  exact ⟨rfl, rfl⟩
theorem dotR_many (a : Option Addr) (cap n : Nat) (w : World) (hlen : n ≤ 1000000) (h0 : n % 2 = 0) (h : 8 < n) :
    Calls Try.prog 39 #[.slice a n cap] w fun e w' => e = .returned (.tuple #[.int .i64 0, .int .i64 1]) ∧ w' = w := by
  have h1 : (n : Int).tmod 2 = 0 := by rw [Int.tmod_eq_emod_of_nonneg (by omega)]; omega
  have h1e : (n : Int) % 2 = 0 := by omega
  have h2 : (8 : Int) < (n : Int) := by omega
  go_enter Try.func39, Try.ntmps39
  go_wp2
  go_ret2
  exact ⟨rfl, rfl⟩
end Go.Proofs.Ythihmbicalacfaa
