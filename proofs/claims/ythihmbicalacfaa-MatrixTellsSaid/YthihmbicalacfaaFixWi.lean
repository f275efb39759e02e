/-
  The reference's Within.
-/
import Derived.Test.YthihmbicalacfaaFixA
namespace Go.Proofs.Ythihmbicalacfaa
open Go.RowKit Fix

theorem withinR_yes (n : Int) (w : World) (h : inRange n = true) :
    Calls Try.prog 59 #[.int .i64 n] w fun e w' => e = .returned (.bool true) ∧ w = w' := by
  obtain ⟨h1, h2⟩ := inRange_yes h
  clear h
  go_enter Try.func59, Try.ntmps59
  go_wp2
  go_ret
  exact ⟨rfl, rfl⟩
theorem withinR_no (n : Int) (w : World) (h : ¬ inRange n = true) :
    Calls Try.prog 59 #[.int .i64 n] w fun e w' => e = .returned (.bool false) ∧ w = w' := by
  rcases inRange_no h with h1 | h1
  · clear h
    have h2 : ¬ -1073741824 ≤ n := by omega
    go_enter Try.func59, Try.ntmps59
    go_wp2
    go_ret
    exact ⟨rfl, rfl⟩
  · clear h
    have h2 : -1073741824 ≤ n := by omega
    have h3 : ¬ n ≤ 1073741824 := by omega
    go_enter Try.func59, Try.ntmps59
    go_wp2
    go_ret
    exact ⟨rfl, rfl⟩
end Go.Proofs.Ythihmbicalacfaa
