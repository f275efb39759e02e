/-
  The walks of fix's small functions: within, sized, near: each returns, or gives up with ErrRange, as the plain functions say.
-/
import Derived.Test.YthihmbicalacfaaBase
import Derived.Test.YthihmbicalacfaaFixMath
import Derived.WalkKit
import Derived.WalkSpells
import Derived.WalkLawsBesides
import Derived.Lib.Hide
import Derived.Deep.QuietTactic
import Derived.BigQuiet
import Derived.IntWalk
namespace Go.Proofs.Ythihmbicalacfaa
open Go.RowKit Fix


/-- The panic with an error number. -/
def gaveUp (e : Int) : Ending := .panicked [{ v := .iface 34 (.int .i64 e), recovered := false }]

theorem within_ok (n m : Int) (w : World) (hm : 0 ≤ m) (hm2 : m ≤ 4611686018427387904) (h1 : -m ≤ n) (h2 : n ≤ m) :
    Calls Try.prog 75 #[.int .i64 n, .int .i64 m] w fun e w' => e = .returned (.int .i64 n) ∧ w = w' := by
  go_enter Try.func75, Try.ntmps75
  go_wp2
  go_ret
  exact ⟨rfl, rfl⟩
theorem within_low (n m : Int) (w : World) (hm : 0 ≤ m) (hm2 : m ≤ 4611686018427387904) (h1 : n < -m) :
    Calls Try.prog 75 #[.int .i64 n, .int .i64 m] w fun e w' => e = gaveUp 2 ∧ w = w' := by
  go_enter Try.func75, Try.ntmps75
  go_wp2
  exact ⟨rfl, rfl, rfl⟩
theorem within_high (n m : Int) (w : World) (hm : 0 ≤ m) (hm2 : m ≤ 4611686018427387904) (h1 : m < n) :
    Calls Try.prog 75 #[.int .i64 n, .int .i64 m] w fun e w' => e = gaveUp 2 ∧ w = w' := by
  go_enter Try.func75, Try.ntmps75
  go_wp2
  exact ⟨rfl, rfl, rfl⟩

theorem sized_ok (n : Int) (w : World) (h1 : -1073741824 ≤ n) (h2 : n ≤ 1073741824) :
    Calls Try.prog 69 #[.int .i64 n] w fun e w' => e = .returned (.int .i64 n) ∧ w = w' := by
  go_enter Try.func69, Try.ntmps69
  go_wp2_with fail
  refine (within_ok n 1073741824 _ (by decide) (by decide) h1 h2).mono ?_
  rintro e w' ⟨rfl, rfl⟩
  go_wp2_with fail
  go_ret
  exact ⟨rfl, rfl⟩
theorem sized_no (n : Int) (w : World) (h : n < -1073741824 ∨ 1073741824 < n) :
    Calls Try.prog 69 #[.int .i64 n] w fun e w' => e = gaveUp 2 ∧ w = w' := by
  rcases h with h | h
  · go_enter Try.func69, Try.ntmps69
    go_wp2_with fail
    refine (within_low n 1073741824 _ (by decide) (by decide) h).mono ?_
    rintro e w' ⟨rfl, rfl⟩
    exact ⟨rfl, rfl, rfl⟩
  · go_enter Try.func69, Try.ntmps69
    go_wp2_with fail
    refine (within_high n 1073741824 _ (by decide) (by decide) h).mono ?_
    rintro e w' ⟨rfl, rfl⟩
    exact ⟨rfl, rfl, rfl⟩

set_option maxHeartbeats 1000000 in
theorem near_any (n d : Int) (w : World) (hd : 0 < d) (hd2 : d ≤ 9223372036854775807) (hq : -4611686018427387904 ≤ n.tdiv d ∧ n.tdiv d ≤ 4611686018427387904) :
    Calls Try.prog 70 #[.int .i64 n, .int .i64 d] w fun e w' => e = .returned (.int .i64 (nearS n d)) ∧ ∃ k, w' = w.drewN k := by
  have hg := near_go n d hd
  have hr1 := Int.tmod_lt_of_pos n hd
  have hr2 := Int.lt_tmod_of_pos n hd
  have HG := Lib.hid hg
  clear hg
  have hne : ¬ d = 0 := by omega
  have hw1 : IntKind.i64.wrap (n.tdiv d) = n.tdiv d := IntWalk.i64_in _ (by omega)
  have hw2 : IntKind.i64.wrap (n.tmod d) = n.tmod d := IntWalk.i64_in _ (by omega)
  by_cases hneg : n.tmod d < 0
  all_goals
    go_enter Try.func70, Try.ntmps70
    go_wp2
    go_quiet (fail)
    clear hw1 hw2
    go_wp2
    all_goals
      go_ret
      exact ⟨ret_int (by rw [HG.out]; (repeat' split) <;> omega), _, rfl⟩
end Go.Proofs.Ythihmbicalacfaa
