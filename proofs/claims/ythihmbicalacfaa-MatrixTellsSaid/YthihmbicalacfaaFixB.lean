/-
  attempt: its deferred function takes a panic with an error number and hands it back as the error.
-/
import Derived.Test.YthihmbicalacfaaFixA
import Derived.Defers
import Derived.Recover
import Derived.Laws.Pointers
namespace Go.Proofs.Ythihmbicalacfaa
open Go.RowKit Fix

theorem reason_errno (x : Int) (w : World) :
    Calls Try.prog 74 #[.iface 34 (.int .i64 x)] w fun e w' => e = .returned (.int .i64 x) ∧ w = w' := by
  have hta : ∀ w : World, (Instr.typeAssert (.iface 34 (.int .i64 x)) 20 34 true).run Try.prog w = .ok (.tuple #[.int .i64 x, .bool true]) w := fun _ => by kernel_rfl
  go_enter Try.func74, Try.ntmps74
  go_wp2
  go_ret
  exact ⟨rfl, rfl⟩

theorem catch_panicking (p q : Addr) (a b x : Int) (older : List PanicEntry) (w : World) (hp : w.cell? p = some (.int .i64 a)) (hz : w.frozen? p = false)
    (hq : (w.setCell p (.int .i64 0)).cell? q = some (.int .i64 b)) (hzq : (w.setCell p (.int .i64 0)).frozen? q = false) :
    CallsD Try.prog 73 #[.pointer (some p), .pointer (some q)] (.panicking ({ v := .iface 34 (.int .i64 x), recovered := false } :: older)) w fun e u' w' =>
      e = .returned (.tuple #[]) ∧ u' = .panicking ({ v := .iface 34 (.int .i64 x), recovered := true } :: older) ∧ w' = (w.setCell p (.int .i64 0)).setCell q (.int .i64 x) := by
  refine callsD_of_wpS Try.func73 rfl fun c₀ cs hu => ?_
  apply wpS_seq
  apply wpS_region
  simp [wpOpsS, go_sem, recoverD, hu, Try.ntmps73, Exit.thenS]
  refine wpS_of_wp ?_
  change Code.wp Try.prog _ _ { tmps := #[.pointer (some p), .pointer (some q), .iface 34 (.int .i64 x), .iface 34 (.int .i64 x), undef, undef, undef, undef], defers := [] } w
  go_wp2_with (go_at_call 74; refine (reason_errno _ _).mono ?_; rintro e w' ⟨rfl, rfl⟩)
  simp [bodyPostS, results, Try.results73]

theorem catch_idle (p q : Addr) (w : World) :
    CallsD Try.prog 73 #[.pointer (some p), .pointer (some q)] .returning w fun e u' w' => e = .returned (.tuple #[]) ∧ u' = .returning ∧ w' = w := by
  refine callsD_of_wpS Try.func73 rfl fun c₀ cs hu => ?_
  apply wpS_seq
  apply wpS_region
  simp [wpOpsS, go_sem, recoverD, hu, Try.ntmps73, Exit.thenS]
  refine wpS_of_wp ?_
  change Code.wp Try.prog _ _ { tmps := #[.pointer (some p), .pointer (some q), .nilIface, .nilIface, undef, undef, undef, undef], defers := [] } w
  go_wp2_with fail
  cases c₀
  simp_all [bodyPostS, results, Try.results73]

theorem below_two (w : World) (k : Nat) (o o' : Obj) (u u' : Value) : Below w.heap.size w (((((w.alloc o).alloc o').drewN k).setCell ⟨w.heap.size, 0, none⟩ u).setCell ⟨w.heap.size + 1, 0, none⟩ u') :=
  ((below_drewN (((Below.refl _ _).alloc (Nat.le_refl _) _).alloc (by simp) _) k).setCell (p := ⟨w.heap.size, 0, none⟩) (Nat.le_refl _) u).setCell (p := ⟨w.heap.size + 1, 0, none⟩) (Nat.le_succ _) u'

/-- attempt, where the work returns n. -/
theorem attempt_ok (F : FuncId) (caps : Array Value) (n : Int) (w : World) (henter : ∀ W : World, (callFunc F caps).run Try.prog W = .ok (.enter F caps) W)
    (hwork : Calls Try.prog F caps ((w.alloc (.cells #[.int .i64 0] 2)).alloc (.cells #[.int .i64 0] 34)) fun e w' => e = .returned (.int .i64 n) ∧ ∃ k, w' = ((w.alloc (.cells #[.int .i64 0] 2)).alloc (.cells #[.int .i64 0] 34)).drewN k) :
    Calls Try.prog 67 #[.func (.func F) #[] caps] w fun e w' => e = .returned (.tuple #[.int .i64 n, .int .i64 0]) ∧ Below w.heap.size w w' := by
  have hmf : ∀ (fn : Fn) (first cap : Array Value) (w : World), (Instr.makeFunc fn first cap).run Try.prog w = .ok (.func fn first cap) w := fun _ _ _ _ => rfl
  have HW := Lib.hid hwork
  clear hwork
  go_enter_defers Try.func67, Try.ntmps67
  go_wp2_with fail
  refine HW.out.mono ?_
  rintro e w1 ⟨rfl, k, rfl⟩
  go_wp2_with fail
  refine leaves_cons (f := 73) (args := #[.pointer (some ⟨w.heap.size, 0, none⟩), .pointer (some ⟨w.heap.size + 1, 0, none⟩)]) (by simp) (by simp [go_sem]) ?_
  refine (catch_idle ⟨w.heap.size, 0, none⟩ ⟨w.heap.size + 1, 0, none⟩ _).mono ?_
  rintro e u' w'' ⟨rfl, rfl, rfl⟩
  simp [Leaves, settle, results, Try.results67, go_sem]
  exact below_two _ _ _ _ _ _

/-- attempt, where the work gives up with the error x. -/
theorem attempt_no (F : FuncId) (caps : Array Value) (x : Int) (w : World) (henter : ∀ W : World, (callFunc F caps).run Try.prog W = .ok (.enter F caps) W)
    (hwork : Calls Try.prog F caps ((w.alloc (.cells #[.int .i64 0] 2)).alloc (.cells #[.int .i64 0] 34)) fun e w' => e = gaveUp x ∧ ∃ k, w' = ((w.alloc (.cells #[.int .i64 0] 2)).alloc (.cells #[.int .i64 0] 34)).drewN k) :
    Calls Try.prog 67 #[.func (.func F) #[] caps] w fun e w' => e = .returned (.tuple #[.int .i64 0, .int .i64 x]) ∧ Below w.heap.size w w' := by
  have hmf : ∀ (fn : Fn) (first cap : Array Value) (w : World), (Instr.makeFunc fn first cap).run Try.prog w = .ok (.func fn first cap) w := fun _ _ _ _ => rfl
  have HW := Lib.hid hwork
  clear hwork
  go_enter_defers Try.func67, Try.ntmps67
  go_wp2_with fail
  refine HW.out.mono ?_
  rintro e w1 ⟨rfl, k, rfl⟩
  unfold gaveUp
  go_wp2_with fail
  refine leaves_cons (f := 73) (args := #[.pointer (some ⟨w.heap.size, 0, none⟩), .pointer (some ⟨w.heap.size + 1, 0, none⟩)]) (by simp) (by simp [go_sem]) ?_
  refine (catch_panicking ⟨w.heap.size, 0, none⟩ ⟨w.heap.size + 1, 0, none⟩ 0 0 x [] _ ?_ ?_ ?_ ?_).mono ?_
  · simp [go_sem]
  · simp [go_sem]
  · simp [go_sem]
  · simp [go_sem]
  rintro e u' w'' ⟨rfl, rfl, rfl⟩
  simp [Leaves, settle, results, Try.results67, go_sem]
  exact below_two _ _ _ _ _ _
end Go.Proofs.Ythihmbicalacfaa
