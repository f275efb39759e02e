/-
  The package give, at matrices, points and rectangles: Up gives up with an error number, UpOn and Value do so unless it is 0, and Caught returns it where its work gives up.
-/
import Derived.Test.YtbagmjedkcipgaaDoorMgJBase0
import Derived.WalkKit
import Derived.WalkSpells
import Derived.WalkLawsBesides
import Derived.Lib.Hide
import Derived.Defers
import Derived.Recover
import Derived.Laws.Pointers
namespace Go.Proofs.YtbagmjedkcipgaaDoor
open Go.RowKit

/-- The panic with an error number. -/
def gUp (e : Int) : Ending := .panicked [{ v := .iface 29 (.int .i64 e), recovered := false }]
theorem up_any (x : Int) (w : World) : Calls Tryd.prog 56 #[.int .i64 x] w fun e w' => e = gUp x ∧ w = w' := by
  go_enter Tryd.func56, Tryd.ntmps56
  go_wp2
  exact ⟨rfl, rfl, rfl⟩

theorem upOn_ok (w : World) : Calls Tryd.prog 57 #[.int .i64 0] w fun e w' => e = .returned (.tuple #[]) ∧ w = w' := by
  go_enter Tryd.func57, Tryd.ntmps57
  go_wp2
  go_end0
  exact ⟨rfl, rfl⟩
theorem upOn_two (w : World) : Calls Tryd.prog 57 #[.int .i64 2] w fun e w' => e = gUp 2 ∧ w = w' := by
  go_enter Tryd.func57, Tryd.ntmps57
  go_wp2_with fail
  refine (up_any 2 _).mono ?_
  rintro e w' ⟨rfl, rfl⟩
  exact ⟨rfl, rfl, rfl⟩
theorem value_ok (n : Int) (w : World) : Calls Tryd.prog 76 #[.int .i64 n, .int .i64 0] w fun e w' => e = .returned (.int .i64 n) ∧ w = w' := by
  go_enter Tryd.func76, Tryd.ntmps76
  go_wp2_with fail
  refine (upOn_ok _).mono ?_
  rintro e w' ⟨rfl, rfl⟩
  go_wp2_with fail
  go_ret
  exact ⟨rfl, rfl⟩
theorem value_two (n : Int) (w : World) : Calls Tryd.prog 76 #[.int .i64 n, .int .i64 2] w fun e w' => e = gUp 2 ∧ w = w' := by
  go_enter Tryd.func76, Tryd.ntmps76
  go_wp2_with fail
  refine (upOn_two _).mono ?_
  rintro e w' ⟨rfl, rfl⟩
  exact ⟨rfl, rfl, rfl⟩
theorem caughtM_panicking (p : Addr) (a x : Int) (older : List PanicEntry) (w : World) (hp : w.cell? p = some (.int .i64 a)) (hz : w.frozen? p = false) :
    CallsD Tryd.prog 75 #[.pointer (some p)] (.panicking ({ v := .iface 29 (.int .i64 x), recovered := false } :: older)) w fun e u' w' =>
      e = .returned (.tuple #[]) ∧ u' = .panicking ({ v := .iface 29 (.int .i64 x), recovered := true } :: older) ∧ w' = w.setCell p (.int .i64 x) := by
  have hta : ∀ w : World, (Instr.typeAssert (.iface 29 (.int .i64 x)) 20 29 true).run Tryd.prog w = .ok (.tuple #[.int .i64 x, .bool true]) w := fun _ => by kernel_rfl
  refine callsD_of_wpS Tryd.func75 rfl fun c₀ cs hu => ?_
  apply wpS_seq
  apply wpS_region
  simp [wpOpsS, go_sem, recoverD, hu, Tryd.ntmps75, Exit.thenS]
  refine wpS_of_wp ?_
  change Code.wp Tryd.prog _ _ { tmps := #[.pointer (some p), undef, undef, undef, .iface 29 (.int .i64 x), undef, undef, undef, undef, undef, undef], defers := [] } w
  go_wp2_with fail
  simp [bodyPostS, results, Tryd.results75]

theorem caughtM_idle (p : Addr) (w : World) :
    CallsD Tryd.prog 75 #[.pointer (some p)] .returning w fun e u' w' => e = .returned (.tuple #[]) ∧ u' = .returning ∧ w' = w := by
  refine callsD_of_wpS Tryd.func75 rfl fun c₀ cs hu => ?_
  apply wpS_seq
  apply wpS_region
  simp [wpOpsS, go_sem, recoverD, hu, Tryd.ntmps75, Exit.thenS]
  refine wpS_of_wp ?_
  change Code.wp Tryd.prog _ _ { tmps := #[.pointer (some p), undef, undef, undef, .nilIface, undef, undef, undef, undef, undef, undef], defers := [] } w
  go_wp2_with fail
  cases c₀
  simp_all [bodyPostS, results, Tryd.results75]

set_option maxHeartbeats 1000000 in
/-- Caught, where the work returns. -/
theorem caughtM_ok (F : FuncId) (caps : Array Value) (n0 n1 n2 n3 n4 n5 : Int) (w : World) (henter : ∀ W : World, (callFunc F caps).run Tryd.prog W = .ok (.enter F caps) W)
    (hwork : Calls Tryd.prog F caps ((w.alloc (.cells #[.int .i64 0, .int .i64 0, .int .i64 0, .int .i64 0, .int .i64 0, .int .i64 0] 23)).alloc (.cells #[.int .i64 0] 29)) fun e w' => e = .returned (.agg #[.int .i64 n0, .int .i64 n1, .int .i64 n2, .int .i64 n3, .int .i64 n4, .int .i64 n5]) ∧ Below (w.heap.size + 2) ((w.alloc (.cells #[.int .i64 0, .int .i64 0, .int .i64 0, .int .i64 0, .int .i64 0, .int .i64 0] 23)).alloc (.cells #[.int .i64 0] 29)) w') :
    Calls Tryd.prog 58 #[.func (.func F) #[] caps] w fun e w' => e = .returned (.tuple #[.agg #[.int .i64 n0, .int .i64 n1, .int .i64 n2, .int .i64 n3, .int .i64 n4, .int .i64 n5], .int .i64 0]) ∧ Below w.heap.size w w' := by
  have hmf : ∀ (fn : Fn) (first cap : Array Value) (w : World), (Instr.makeFunc fn first cap).run Tryd.prog w = .ok (.func fn first cap) w := fun _ _ _ _ => rfl
  have HW := Lib.hid hwork
  have bV0 : Blk ((w.alloc (.cells #[.int .i64 0, .int .i64 0, .int .i64 0, .int .i64 0, .int .i64 0, .int .i64 0] 23)).alloc (.cells #[.int .i64 0] 29)) w.heap.size 23 #[.int .i64 0, .int .i64 0, .int .i64 0, .int .i64 0, .int .i64 0, .int .i64 0] := (Blk.new w _ _).alloc _
  have bE0 : Blk ((w.alloc (.cells #[.int .i64 0, .int .i64 0, .int .i64 0, .int .i64 0, .int .i64 0, .int .i64 0] 23)).alloc (.cells #[.int .i64 0] 29)) (w.heap.size + 1) 29 #[.int .i64 0] := by
    have := Blk.new (w.alloc (.cells #[.int .i64 0, .int .i64 0, .int .i64 0, .int .i64 0, .int .i64 0, .int .i64 0] 23)) 29 #[.int .i64 0]
    rw [World.size_alloc] at this
    exact this
  have HB0 := Lib.hid (show Below w.heap.size w ((w.alloc (.cells #[.int .i64 0, .int .i64 0, .int .i64 0, .int .i64 0, .int .i64 0, .int .i64 0] 23)).alloc (.cells #[.int .i64 0] 29)) from ((Below.refl _ w).alloc (Nat.le_refl _) _).alloc (by simp) _)
  have HV0 := Lib.hid bV0
  have HE0 := Lib.hid bE0
  clear hwork bV0 bE0
  go_enter_defers Tryd.func58, Tryd.ntmps58
  go_wp2_with fail
  refine HW.out.mono ?_
  rintro e w1 ⟨rfl, hb⟩
  have bV := HV0.out.below hb (by omega)
  have bE := HE0.out.below hb (by omega)
  have c0 : w1.cell? ⟨w.heap.size, 0, none⟩ = some (.int .i64 0) := (bV.cell 0).trans rfl
  have f0 : w1.frozen? ⟨w.heap.size, 0, none⟩ = false := bV.frozen 0
  have c1 : w1.cell? ⟨w.heap.size, 1, none⟩ = some (.int .i64 0) := (bV.cell 1).trans rfl
  have f1 : w1.frozen? ⟨w.heap.size, 1, none⟩ = false := bV.frozen 1
  have c2 : w1.cell? ⟨w.heap.size, 2, none⟩ = some (.int .i64 0) := (bV.cell 2).trans rfl
  have f2 : w1.frozen? ⟨w.heap.size, 2, none⟩ = false := bV.frozen 2
  have c3 : w1.cell? ⟨w.heap.size, 3, none⟩ = some (.int .i64 0) := (bV.cell 3).trans rfl
  have f3 : w1.frozen? ⟨w.heap.size, 3, none⟩ = false := bV.frozen 3
  have c4 : w1.cell? ⟨w.heap.size, 4, none⟩ = some (.int .i64 0) := (bV.cell 4).trans rfl
  have f4 : w1.frozen? ⟨w.heap.size, 4, none⟩ = false := bV.frozen 4
  have c5 : w1.cell? ⟨w.heap.size, 5, none⟩ = some (.int .i64 0) := (bV.cell 5).trans rfl
  have f5 : w1.frozen? ⟨w.heap.size, 5, none⟩ = false := bV.frozen 5
  have ce : w1.cell? ⟨w.heap.size + 1, 0, none⟩ = some (.int .i64 0) := (bE.cell 0).trans rfl
  have fe : w1.frozen? ⟨w.heap.size + 1, 0, none⟩ = false := bE.frozen 0
  have HB := Lib.hid (HB0.out.trans (hb.mono (by omega)))
  clear hb bV bE
  go_wp2_with fail
  refine leaves_cons (f := 75) (args := #[.pointer (some ⟨w.heap.size + 1, 0, none⟩)]) (by simp) (by simp [go_sem]) ?_
  refine (caughtM_idle ⟨w.heap.size + 1, 0, none⟩ _).mono ?_
  rintro e u' w'' ⟨rfl, rfl, rfl⟩
  simp [Leaves, settle, results, Tryd.results58, go_sem, c0, c1, c2, c3, c4, c5, ce]
  exact ((((((HB.out.setCell (p := ⟨w.heap.size, 0, none⟩) (Nat.le_refl _) _).setCell (p := ⟨w.heap.size, 1, none⟩) (Nat.le_refl _) _).setCell (p := ⟨w.heap.size, 2, none⟩) (Nat.le_refl _) _).setCell (p := ⟨w.heap.size, 3, none⟩) (Nat.le_refl _) _).setCell (p := ⟨w.heap.size, 4, none⟩) (Nat.le_refl _) _).setCell (p := ⟨w.heap.size, 5, none⟩) (Nat.le_refl _) _).setCell (p := ⟨w.heap.size + 1, 0, none⟩) (Nat.le_succ _) _
set_option maxHeartbeats 1000000 in
/-- Caught, where the work gives up with the error x. -/
theorem caughtM_no (F : FuncId) (caps : Array Value) (x : Int) (w : World) (henter : ∀ W : World, (callFunc F caps).run Tryd.prog W = .ok (.enter F caps) W)
    (hwork : Calls Tryd.prog F caps ((w.alloc (.cells #[.int .i64 0, .int .i64 0, .int .i64 0, .int .i64 0, .int .i64 0, .int .i64 0] 23)).alloc (.cells #[.int .i64 0] 29)) fun e w' => e = gUp x ∧ Below (w.heap.size + 2) ((w.alloc (.cells #[.int .i64 0, .int .i64 0, .int .i64 0, .int .i64 0, .int .i64 0, .int .i64 0] 23)).alloc (.cells #[.int .i64 0] 29)) w') :
    Calls Tryd.prog 58 #[.func (.func F) #[] caps] w fun e w' => e = .returned (.tuple #[.agg #[.int .i64 0, .int .i64 0, .int .i64 0, .int .i64 0, .int .i64 0, .int .i64 0], .int .i64 x]) ∧ Below w.heap.size w w' := by
  have hmf : ∀ (fn : Fn) (first cap : Array Value) (w : World), (Instr.makeFunc fn first cap).run Tryd.prog w = .ok (.func fn first cap) w := fun _ _ _ _ => rfl
  have HW := Lib.hid hwork
  have bV0 : Blk ((w.alloc (.cells #[.int .i64 0, .int .i64 0, .int .i64 0, .int .i64 0, .int .i64 0, .int .i64 0] 23)).alloc (.cells #[.int .i64 0] 29)) w.heap.size 23 #[.int .i64 0, .int .i64 0, .int .i64 0, .int .i64 0, .int .i64 0, .int .i64 0] := (Blk.new w _ _).alloc _
  have bE0 : Blk ((w.alloc (.cells #[.int .i64 0, .int .i64 0, .int .i64 0, .int .i64 0, .int .i64 0, .int .i64 0] 23)).alloc (.cells #[.int .i64 0] 29)) (w.heap.size + 1) 29 #[.int .i64 0] := by
    have := Blk.new (w.alloc (.cells #[.int .i64 0, .int .i64 0, .int .i64 0, .int .i64 0, .int .i64 0, .int .i64 0] 23)) 29 #[.int .i64 0]
    rw [World.size_alloc] at this
    exact this
  have HB0 := Lib.hid (show Below w.heap.size w ((w.alloc (.cells #[.int .i64 0, .int .i64 0, .int .i64 0, .int .i64 0, .int .i64 0, .int .i64 0] 23)).alloc (.cells #[.int .i64 0] 29)) from ((Below.refl _ w).alloc (Nat.le_refl _) _).alloc (by simp) _)
  have HV0 := Lib.hid bV0
  have HE0 := Lib.hid bE0
  clear hwork bV0 bE0
  go_enter_defers Tryd.func58, Tryd.ntmps58
  go_wp2_with fail
  refine HW.out.mono ?_
  rintro e w1 ⟨rfl, hb⟩
  have bV := HV0.out.below hb (by omega)
  have bE := HE0.out.below hb (by omega)
  have c0 : w1.cell? ⟨w.heap.size, 0, none⟩ = some (.int .i64 0) := (bV.cell 0).trans rfl
  have f0 : w1.frozen? ⟨w.heap.size, 0, none⟩ = false := bV.frozen 0
  have c1 : w1.cell? ⟨w.heap.size, 1, none⟩ = some (.int .i64 0) := (bV.cell 1).trans rfl
  have f1 : w1.frozen? ⟨w.heap.size, 1, none⟩ = false := bV.frozen 1
  have c2 : w1.cell? ⟨w.heap.size, 2, none⟩ = some (.int .i64 0) := (bV.cell 2).trans rfl
  have f2 : w1.frozen? ⟨w.heap.size, 2, none⟩ = false := bV.frozen 2
  have c3 : w1.cell? ⟨w.heap.size, 3, none⟩ = some (.int .i64 0) := (bV.cell 3).trans rfl
  have f3 : w1.frozen? ⟨w.heap.size, 3, none⟩ = false := bV.frozen 3
  have c4 : w1.cell? ⟨w.heap.size, 4, none⟩ = some (.int .i64 0) := (bV.cell 4).trans rfl
  have f4 : w1.frozen? ⟨w.heap.size, 4, none⟩ = false := bV.frozen 4
  have c5 : w1.cell? ⟨w.heap.size, 5, none⟩ = some (.int .i64 0) := (bV.cell 5).trans rfl
  have f5 : w1.frozen? ⟨w.heap.size, 5, none⟩ = false := bV.frozen 5
  have ce : w1.cell? ⟨w.heap.size + 1, 0, none⟩ = some (.int .i64 0) := (bE.cell 0).trans rfl
  have fe : w1.frozen? ⟨w.heap.size + 1, 0, none⟩ = false := bE.frozen 0
  have HB := Lib.hid (HB0.out.trans (hb.mono (by omega)))
  clear hb bV bE
  unfold gUp
  go_wp2_with fail
  refine leaves_cons (f := 75) (args := #[.pointer (some ⟨w.heap.size + 1, 0, none⟩)]) (by simp) (by simp [go_sem]) ?_
  refine (caughtM_panicking ⟨w.heap.size + 1, 0, none⟩ 0 x [] _ ce fe).mono ?_
  rintro e u' w'' ⟨rfl, rfl, rfl⟩
  simp [Leaves, settle, results, Tryd.results58, go_sem, c0, c1, c2, c3, c4, c5, ce]
  exact HB.out.setCell (p := ⟨w.heap.size + 1, 0, none⟩) (Nat.le_succ _) _
end Go.Proofs.YtbagmjedkcipgaaDoor
