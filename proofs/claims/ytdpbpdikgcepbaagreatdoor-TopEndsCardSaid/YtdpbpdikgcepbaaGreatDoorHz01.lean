/-
  Lemmas and walks, joined: Base0, Base.
-/
import Derived.Test.YtdpbpdikgcepbaaGreatDoorRows
import Derived.Below
import Derived.WalkKit
import Derived.Deep.QuietTactic
namespace Go.Proofs.YtdpbpdikgcepbaaGreatDoor
open Go.RowKit

theorem ret_int {k : IntKind} {a b : Int} (h : a = b) : Ending.returned (.int k a) = .returned (.int k b) := by rw [h]
theorem ret_bool {a b : Bool} (h : a = b) : Ending.returned (.bool a) = .returned (.bool b) := by rw [h]
theorem below_drewN {B : Nat} {a w : World} (h : Below B a w) (n : Nat) : Below B a (w.drewN n) := ⟨h.os, h.tape, h.output, h.size, h.block⟩
/-- A contract that keeps the world, for a drawn region's quiet call. -/
theorem same_q {P : Program} {f : FuncId} {args : Array Value} {w : World} {v : Value} (h : Calls P f args w fun e w' => e = .returned v ∧ w = w') : Calls P f args w fun e w' => e = .returned v ∧ w' = w :=
  h.mono fun _ _ ⟨he, hw⟩ => ⟨he, hw.symm⟩
end Go.Proofs.YtdpbpdikgcepbaaGreatDoor
namespace Go.Proofs.YtdpbpdikgcepbaaGreatDoor
open Go.RowKit

/-- The library's variable MaxLen holds a number. -/
def MaxLenAt (w : World) : Prop := ∃ m, w.cell? ⟨0, 0, none⟩ = some (.int .i64 m)
theorem MaxLenAt.upto {B : Nat} {w w' : World} (h : MaxLenAt w) (hb : Below B w w') (hB : w.heap.size ≤ B) : MaxLenAt w' := by
  obtain ⟨m, hm⟩ := h
  exact ⟨m, (hb.cell (p := ⟨0, 0, none⟩) (Nat.lt_of_lt_of_le (World.block_lt_of_cell? w _ hm) hB)).trans hm⟩
theorem MaxLenAt.below {w w' : World} (h : MaxLenAt w) (hb : Below w.heap.size w w') : MaxLenAt w' := h.upto hb (Nat.le_refl _)
theorem MaxLenAt.alloc {w : World} (h : MaxLenAt w) (o : Obj) : MaxLenAt (w.alloc o) := h.below ((Below.refl _ _).alloc (Nat.le_refl _) o)
end Go.Proofs.YtdpbpdikgcepbaaGreatDoor
