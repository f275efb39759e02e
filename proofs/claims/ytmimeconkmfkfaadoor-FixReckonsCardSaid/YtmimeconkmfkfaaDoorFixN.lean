/-
  The reference: Within, nearest, told, Near, Whole, Mul, Div.
-/
import Derived.Test.YtmimeconkmfkfaaDoorFixM
namespace Go.Proofs.YtmimeconkmfkfaaDoor
open Go.RowKit Fix

theorem withinR_yes (n : Int) (w : World) (h : inRange n = true) :
    Calls Tryd.prog 36 #[.int .i64 n] w fun e w' => e = .returned (.bool true) ∧ w = w' := by
  obtain ⟨h1, h2⟩ := inRange_yes h
  clear h
  go_enter Tryd.func36, Tryd.ntmps36
  go_wp2
  go_ret
  exact ⟨rfl, rfl⟩
theorem withinR_no (n : Int) (w : World) (h : ¬ inRange n = true) :
    Calls Tryd.prog 36 #[.int .i64 n] w fun e w' => e = .returned (.bool false) ∧ w = w' := by
  rcases inRange_no h with h1 | h1
  · clear h
    have h2 : ¬ -1073741824 ≤ n := by omega
    go_enter Tryd.func36, Tryd.ntmps36
    go_wp2
    go_ret
    exact ⟨rfl, rfl⟩
  · clear h
    have h2 : -1073741824 ≤ n := by omega
    have h3 : ¬ n ≤ 1073741824 := by omega
    go_enter Tryd.func36, Tryd.ntmps36
    go_wp2
    go_ret
    exact ⟨rfl, rfl⟩

set_option maxHeartbeats 1000000 in
theorem nearR_any (n d : Int) (w : World) (hd : 0 < d) (hd2 : d ≤ 9223372036854775807) (hq : -4611686018427387904 ≤ n.tdiv d ∧ n.tdiv d ≤ 4611686018427387904) :
    Calls Tryd.prog 40 #[.int .i64 n, .int .i64 d] w fun e w' => e = .returned (.int .i64 (nearS n d)) ∧ w = w' := by
  have hg := near_go n d hd
  have hr1 := Int.tmod_lt_of_pos n hd
  have hr2 := Int.lt_tmod_of_pos n hd
  have HG := Lib.hid hg
  clear hg
  have hne : ¬ d = 0 := by omega
  have hw1 : IntKind.i64.wrap (n.tdiv d) = n.tdiv d := IntWalk.i64_in _ (by omega)
  have hw2 : IntKind.i64.wrap (n.tmod d) = n.tmod d := IntWalk.i64_in _ (by omega)
  by_cases hneg : n.tmod d < 0
  all_goals
    go_enter Tryd.func40, Tryd.ntmps40
    go_wp2
    all_goals
      go_ret
      exact ⟨ret_int (by rw [HG.out]; (repeat' split) <;> omega), rfl⟩

theorem toldR_yes (n : Int) (w : World) (h : inRange n = true) :
    Calls Tryd.prog 47 #[.int .i64 n] w fun e w' => e = .returned (.tuple #[.int .i64 n, .int .i64 0]) ∧ w = w' := by
  have H := Lib.hid h
  clear h
  go_enter Tryd.func47, Tryd.ntmps47
  go_wp2_with fail
  refine (withinR_yes _ _ H.out).mono ?_
  rintro e w' ⟨rfl, rfl⟩
  go_wp2_with fail
  go_ret2
  exact ⟨rfl, rfl⟩
theorem toldR_no (n : Int) (w : World) (h : ¬ inRange n = true) :
    Calls Tryd.prog 47 #[.int .i64 n] w fun e w' => e = .returned (.tuple #[.int .i64 0, .int .i64 2]) ∧ w = w' := by
  have H := Lib.hid h
  clear h
  go_enter Tryd.func47, Tryd.ntmps47
  go_wp2_with fail
  refine (withinR_no _ _ H.out).mono ?_
  rintro e w' ⟨rfl, rfl⟩
  go_wp2_with fail
  go_ret2
  exact ⟨rfl, rfl⟩

theorem wholeR_any (n : Int) (w : World) (h1 : -9223372036854775808 ≤ n) (h2 : n ≤ 9223372036854775807) :
    Calls Tryd.prog 18 #[.int .i64 n] w fun e w' => e = .returned (.int .i64 (nearS n 10000)) ∧ w = w' := by
  have hq : -4611686018427387904 ≤ n.tdiv 10000 ∧ n.tdiv 10000 ≤ 4611686018427387904 := by
    have e := Int.mul_tdiv_add_tmod n 10000
    have r1 := Int.tmod_lt_of_pos n (by decide : (0 : Int) < 10000)
    have r2 := Int.lt_tmod_of_pos n (by decide : (0 : Int) < 10000)
    omega
  have HQ := Lib.hid hq
  clear hq h1 h2
  go_enter Tryd.func18, Tryd.ntmps18
  go_wp2_with fail
  refine (nearR_any n 10000 _ (by decide) (by decide) HQ.out).mono ?_
  rintro e w1 ⟨rfl, rfl⟩
  go_wp2_with fail
  go_ret
  exact ⟨rfl, rfl⟩

theorem nearRef_bad (n d : Int) (w : World) (hd : d < 1) :
    Calls Tryd.prog 12 #[.int .i64 n, .int .i64 d] w fun e w' => e = .returned (.tuple #[.int .i64 0, .int .i64 1]) ∧ w = w' := by
  go_enter Tryd.func12, Tryd.ntmps12
  go_wp2
  go_ret2
  exact ⟨rfl, rfl⟩
theorem nearRef_range (n d : Int) (w : World) (hd : 0 < d) (h : n < -4611686018427387904 ∨ 4611686018427387904 < n) :
    Calls Tryd.prog 12 #[.int .i64 n, .int .i64 d] w fun e w' => e = .returned (.tuple #[.int .i64 0, .int .i64 2]) ∧ w = w' := by
  have hd1 : ¬ d < 1 := by omega
  rcases h with h | h
  · go_enter Tryd.func12, Tryd.ntmps12
    go_wp2
    go_ret2
    exact ⟨rfl, rfl⟩
  · have h2 : ¬ n < -4611686018427387904 := by omega
    go_enter Tryd.func12, Tryd.ntmps12
    go_wp2
    go_ret2
    exact ⟨rfl, rfl⟩
theorem nearRef_ok (n d : Int) (w : World) (hd : 0 < d) (hd2 : d ≤ 9223372036854775807) (h1 : -4611686018427387904 ≤ n) (h2 : n ≤ 4611686018427387904) (hdiv : -4611686018427387904 ≤ n.tdiv d ∧ n.tdiv d ≤ 4611686018427387904) :
    Calls Tryd.prog 12 #[.int .i64 n, .int .i64 d] w fun e w' => e = .returned (.tuple #[.int .i64 (nearS n d), .int .i64 0]) ∧ w = w' := by
  have hd1 : ¬ d < 1 := by omega
  have h3 : ¬ n < -4611686018427387904 := by omega
  have h4 : ¬ 4611686018427387904 < n := by omega
  have HD := Lib.hid hdiv
  clear hdiv
  go_enter Tryd.func12, Tryd.ntmps12
  go_wp2_with fail
  refine (nearR_any n d _ hd hd2 HD.out).mono ?_
  rintro e w1 ⟨rfl, rfl⟩
  go_wp2_with fail
  go_ret2
  exact ⟨rfl, rfl⟩
end Go.Proofs.YtmimeconkmfkfaaDoor
