/-
  The reference: Within, nearest, told, Near, Whole, Mul, Div.
-/
import Derived.Test.YthihmbicalacfaaFixM
import Derived.Test.YthihmbicalacfaaFixWi
namespace Go.Proofs.Ythihmbicalacfaa
open Go.RowKit Fix

set_option maxHeartbeats 1000000 in
theorem nearR_any (n d : Int) (w : World) (hd : 0 < d) (hd2 : d ≤ 9223372036854775807) (hq : -4611686018427387904 ≤ n.tdiv d ∧ n.tdiv d ≤ 4611686018427387904) :
    Calls Try.prog 61 #[.int .i64 n, .int .i64 d] w fun e w' => e = .returned (.int .i64 (nearS n d)) ∧ w = w' := by
  have hg := near_go n d hd
  have hr1 := Int.tmod_lt_of_pos n hd
  have hr2 := Int.lt_tmod_of_pos n hd
  have HG := Lib.hid hg
  clear hg
  have hne : ¬ d = 0 := by omega
  have hw1 : IntKind.i64.wrap (n.tdiv d) = n.tdiv d := IntWalk.i64_in _ (by omega)
  have hw2 : IntKind.i64.wrap (n.tmod d) = n.tmod d := IntWalk.i64_in _ (by omega)
  by_cases hneg : n.tmod d < 0
  all_goals
    go_enter Try.func61, Try.ntmps61
    go_wp2
    all_goals
      go_ret
      exact ⟨ret_int (by rw [HG.out]; (repeat' split) <;> omega), rfl⟩

theorem toldR_yes (n : Int) (w : World) (h : inRange n = true) :
    Calls Try.prog 60 #[.int .i64 n] w fun e w' => e = .returned (.tuple #[.int .i64 n, .int .i64 0]) ∧ w = w' := by
  have H := Lib.hid h
  clear h
  go_enter Try.func60, Try.ntmps60
  go_wp2_with fail
  refine (withinR_yes _ _ H.out).mono ?_
  rintro e w' ⟨rfl, rfl⟩
  go_wp2_with fail
  go_ret2
  exact ⟨rfl, rfl⟩
theorem toldR_no (n : Int) (w : World) (h : ¬ inRange n = true) :
    Calls Try.prog 60 #[.int .i64 n] w fun e w' => e = .returned (.tuple #[.int .i64 0, .int .i64 2]) ∧ w = w' := by
  have H := Lib.hid h
  clear h
  go_enter Try.func60, Try.ntmps60
  go_wp2_with fail
  refine (withinR_no _ _ H.out).mono ?_
  rintro e w' ⟨rfl, rfl⟩
  go_wp2_with fail
  go_ret2
  exact ⟨rfl, rfl⟩

end Go.Proofs.Ythihmbicalacfaa
