/-
  The walks of Near, Whole, Mul, Div, Root: each returns what the plain functions say, with its error.
-/
import Derived.Test.YtmimeconkmfkfaaDoorFixB
import Derived.Deep.RegionWith
import Derived.RegionDies
namespace Go.Proofs.YtmimeconkmfkfaaDoor
open Go.RowKit Fix

theorem within_no (n m : Int) (w : World) (hm : 0 ≤ m) (hm2 : m ≤ 4611686018427387904) (h : n < -m ∨ m < n) :
    Calls Tryd.prog 39 #[.int .i64 n, .int .i64 m] w fun e w' => e = gaveUp 2 ∧ w = w' := by
  rcases h with h | h
  · exact within_low n m w hm hm2 h
  · exact within_high n m w hm hm2 h
theorem within_s (n m : Int) (w : World) (hm : 0 ≤ m) (hm2 : m ≤ 4611686018427387904) (h1 : -m ≤ n) (h2 : n ≤ m) :
    Calls Tryd.prog 39 #[.int .i64 n, .int .i64 m] w fun e w' => e = .returned (.int .i64 n) ∧ w' = w :=
  (within_ok n m _ hm hm2 h1 h2).mono fun _ _ ⟨e1, e2⟩ => ⟨e1, e2.symm⟩
theorem sized_s (n : Int) (w : World) (h1 : -1073741824 ≤ n) (h2 : n ≤ 1073741824) :
    Calls Tryd.prog 34 #[.int .i64 n] w fun e w' => e = .returned (.int .i64 n) ∧ w' = w :=
  (sized_ok n _ h1 h2).mono fun _ _ ⟨e1, e2⟩ => ⟨e1, e2.symm⟩

theorem near_work_ok (p q : Addr) (n d : Int) (w : World) (hp : w.cell? p = some (.int .i64 n)) (hq : w.cell? q = some (.int .i64 d)) (hd : 0 < d) (hd2 : d ≤ 9223372036854775807)
    (h1 : -4611686018427387904 ≤ n) (h2 : n ≤ 4611686018427387904) (hdiv : -4611686018427387904 ≤ n.tdiv d ∧ n.tdiv d ≤ 4611686018427387904) :
    Calls Tryd.prog 37 #[.pointer (some p), .pointer (some q)] w fun e w' => e = .returned (.int .i64 (nearS n d)) ∧ ∃ k, w' = w.drewN k := by
  go_enter Tryd.func37, Tryd.ntmps37
  go_wp2_with fail
  go_quiet ((first | (go_at_call 39; exact Calls.quiet_of_same (within_s _ _ _ (by decide) (by decide) h1 h2)) | (go_at_call 38; exact Calls.quiet_of (near_any _ _ _ hd hd2 hdiv))))
  go_wp2
  go_ret
  exact ⟨rfl, _, rfl⟩

theorem near_work_no (p q : Addr) (n : Int) (w : World) (hp : w.cell? p = some (.int .i64 n)) (d : Int) (hq : w.cell? q = some (.int .i64 d)) (h1 : n < -4611686018427387904 ∨ 4611686018427387904 < n) :
    Calls Tryd.prog 37 #[.pointer (some p), .pointer (some q)] w fun e w' => e = gaveUp 2 ∧ ∃ k, w' = w.drewN k := by
  go_enter Tryd.func37, Tryd.ntmps37
  go_wp2_with fail
  go_region_dies
  all_goals
    refine (within_no _ _ _ (by decide) (by decide) h1).mono ?_
    rintro e w' ⟨rfl, rfl⟩
    exact ⟨rfl, rfl, 1, rfl⟩

theorem enter_near (caps : Array Value) (W : World) : (callFunc 37 caps).run Tryd.prog W = .ok (.enter 37 caps) W := by
  first | kernel_rfl | rfl

/-- What attempt and its caller leave: all below is as it was. -/
theorem near_bad (n d : Int) (w : World) (hd : d < 1) :
    Calls Tryd.prog 11 #[.int .i64 n, .int .i64 d] w fun e w' => e = .returned (.tuple #[.int .i64 0, .int .i64 1]) ∧ Below w.heap.size w w' := by
  go_enter Tryd.func11, Tryd.ntmps11
  go_wp2_with fail
  go_ret2
  exact ⟨rfl, (((Below.refl _ _).alloc (Nat.le_refl _) _).alloc (by simp) _)⟩

theorem near_ok (n d : Int) (w : World) (hd : 0 < d) (hd2 : d ≤ 9223372036854775807) (h1 : -4611686018427387904 ≤ n) (h2 : n ≤ 4611686018427387904) (hdiv : -4611686018427387904 ≤ n.tdiv d ∧ n.tdiv d ≤ 4611686018427387904) :
    Calls Tryd.prog 11 #[.int .i64 n, .int .i64 d] w fun e w' => e = .returned (.tuple #[.int .i64 (nearS n d), .int .i64 0]) ∧ Below w.heap.size w w' := by
  have hmf : ∀ (fn : Fn) (first cap : Array Value) (w : World), (Instr.makeFunc fn first cap).run Tryd.prog w = .ok (.func fn first cap) w := fun _ _ _ _ => rfl
  go_enter Tryd.func11, Tryd.ntmps11
  go_wp2_with fail
  refine (attempt_ok 37 _ (nearS n d) _ (enter_near _) (near_work_ok ⟨w.heap.size, 0, none⟩ ⟨w.heap.size + 1, 0, none⟩ n d _ ?_ ?_ hd hd2 h1 h2 hdiv)).mono ?_
  · simp [go_sem]
  · simp [go_sem]
  rintro e w1 ⟨rfl, hb⟩
  go_wp2_with fail
  go_ret2
  exact ⟨rfl, (((Below.refl _ _).alloc (Nat.le_refl _) _).alloc (by simp) _).trans (hb.mono (by simp; omega))⟩
end Go.Proofs.YtmimeconkmfkfaaDoor
