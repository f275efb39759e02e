/-
  The package give, at strings: Up gives up with an error number, and Caught returns it where its work gives up.
-/
import Derived.Test.YticliemmplefoaaBlk
import Derived.WalkKit
import Derived.WalkSpells
import Derived.WalkLawsBesides
import Derived.Lib.Hide
import Derived.Defers
import Derived.Recover
import Derived.Laws.Pointers
namespace Go.Proofs.Yticliemmplefoaa
open Go.RowKit

/-- The panic with an error number. -/
def gUp (e : Int) : Ending := .panicked [{ v := .iface 26 (.int .i64 e), recovered := false }]
theorem up_any (x : Int) (w : World) : Calls Try.prog 25 #[.int .i64 x] w fun e w' => e = gUp x ∧ w = w' := by
  go_enter Try.func25, Try.ntmps25
  go_wp2
  exact ⟨rfl, rfl, rfl⟩

theorem caught_panicking (p : Addr) (a x : Int) (older : List PanicEntry) (w : World) (hp : w.cell? p = some (.int .i64 a)) (hz : w.frozen? p = false) :
    CallsD Try.prog 23 #[.pointer (some p)] (.panicking ({ v := .iface 26 (.int .i64 x), recovered := false } :: older)) w fun e u' w' =>
      e = .returned (.tuple #[]) ∧ u' = .panicking ({ v := .iface 26 (.int .i64 x), recovered := true } :: older) ∧ w' = w.setCell p (.int .i64 x) := by
  have hta : ∀ w : World, (Instr.typeAssert (.iface 26 (.int .i64 x)) 20 26 true).run Try.prog w = .ok (.tuple #[.int .i64 x, .bool true]) w := fun _ => by kernel_rfl
  refine callsD_of_wpS Try.func23 rfl fun c₀ cs hu => ?_
  apply wpS_seq
  apply wpS_region
  simp [wpOpsS, go_sem, recoverD, hu, Try.ntmps23, Exit.thenS]
  refine wpS_of_wp ?_
  change Code.wp Try.prog _ _ { tmps := #[.pointer (some p), undef, undef, undef, .iface 26 (.int .i64 x), undef, undef, undef, undef, undef, undef], defers := [] } w
  go_wp2_with fail
  simp [bodyPostS, results, Try.results23]

theorem caught_idle (p : Addr) (w : World) :
    CallsD Try.prog 23 #[.pointer (some p)] .returning w fun e u' w' => e = .returned (.tuple #[]) ∧ u' = .returning ∧ w' = w := by
  refine callsD_of_wpS Try.func23 rfl fun c₀ cs hu => ?_
  apply wpS_seq
  apply wpS_region
  simp [wpOpsS, go_sem, recoverD, hu, Try.ntmps23, Exit.thenS]
  refine wpS_of_wp ?_
  change Code.wp Try.prog _ _ { tmps := #[.pointer (some p), undef, undef, undef, .nilIface, undef, undef, undef, undef, undef, undef], defers := [] } w
  go_wp2_with fail
  cases c₀
  simp_all [bodyPostS, results, Try.results23]

/-- Caught, where the work returns b. R: what the work makes of the world; the error's cell is kept. -/
theorem caught_ok (F : FuncId) (caps : Array Value) (b : ByteArray) (R : World → Prop) (w : World) (henter : ∀ W : World, (callFunc F caps).run Try.prog W = .ok (.enter F caps) W)
    (hk : ∀ w', R w' → Blk w' w.heap.size 26 #[.int .i64 0])
    (hwork : Calls Try.prog F caps (w.alloc (.cells #[.int .i64 0] 26)) fun e w' => e = .returned (.string b) ∧ R w') :
    Calls Try.prog 12 #[.func (.func F) #[] caps] w fun e w' => e = .returned (.tuple #[.string b, .int .i64 0]) ∧ ∃ w1, R w1 ∧ w' = w1.setCell ⟨w.heap.size, 0, none⟩ (.int .i64 0) := by
  have hmf : ∀ (fn : Fn) (first cap : Array Value) (w : World), (Instr.makeFunc fn first cap).run Try.prog w = .ok (.func fn first cap) w := fun _ _ _ _ => rfl
  have HW := Lib.hid hwork
  have HK := Lib.hid hk
  clear hwork hk
  go_enter_defers Try.func12, Try.ntmps12
  go_wp2_with fail
  refine HW.out.mono ?_
  rintro e w1 ⟨rfl, hR⟩
  have hB := HK.out w1 hR
  have c0 := hB.cell 0
  have f0 := hB.frozen 0
  simp only [List.getElem?_toArray, List.getElem?_cons_zero] at c0
  have HR := Lib.hid hR
  clear hB hR
  go_wp2_with fail
  refine leaves_cons (f := 23) (args := #[.pointer (some ⟨w.heap.size, 0, none⟩)]) (by simp) (by simp [go_sem]) ?_
  refine (caught_idle ⟨w.heap.size, 0, none⟩ _).mono ?_
  rintro e u' w'' ⟨rfl, rfl, rfl⟩
  simp [Leaves, settle, results, Try.results12, go_sem, c0]
  exact ⟨w1, HR.out, rfl⟩

/-- Caught, where the work gives up with the error x. -/
theorem caught_no (F : FuncId) (caps : Array Value) (x : Int) (R : World → Prop) (w : World) (henter : ∀ W : World, (callFunc F caps).run Try.prog W = .ok (.enter F caps) W)
    (hk : ∀ w', R w' → Blk w' w.heap.size 26 #[.int .i64 0])
    (hwork : Calls Try.prog F caps (w.alloc (.cells #[.int .i64 0] 26)) fun e w' => e = gUp x ∧ R w') :
    Calls Try.prog 12 #[.func (.func F) #[] caps] w fun e w' => e = .returned (.tuple #[.string ⟨#[]⟩, .int .i64 x]) ∧ ∃ w1, R w1 ∧ w' = w1.setCell ⟨w.heap.size, 0, none⟩ (.int .i64 x) := by
  have hmf : ∀ (fn : Fn) (first cap : Array Value) (w : World), (Instr.makeFunc fn first cap).run Try.prog w = .ok (.func fn first cap) w := fun _ _ _ _ => rfl
  have HW := Lib.hid hwork
  have HK := Lib.hid hk
  clear hwork hk
  go_enter_defers Try.func12, Try.ntmps12
  go_wp2_with fail
  refine HW.out.mono ?_
  rintro e w1 ⟨rfl, hR⟩
  have hB := HK.out w1 hR
  have c0 := hB.cell 0
  have f0 := hB.frozen 0
  simp only [List.getElem?_toArray, List.getElem?_cons_zero] at c0
  have HR := Lib.hid hR
  clear hB hR
  unfold gUp
  go_wp2_with fail
  refine leaves_cons (f := 23) (args := #[.pointer (some ⟨w.heap.size, 0, none⟩)]) (by simp) (by simp [go_sem]) ?_
  refine (caught_panicking ⟨w.heap.size, 0, none⟩ 0 x [] _ c0 f0).mono ?_
  rintro e u' w'' ⟨rfl, rfl, rfl⟩
  simp [Leaves, settle, results, Try.results12, go_sem, c0]
  exact ⟨w1, HR.out, rfl⟩
end Go.Proofs.Yticliemmplefoaa
