/-
  What octet's texts and fix's share.
-/
import Derived.Test.YthioafndepkhoaaBase0
namespace Go.Proofs.Ythioafndepkhoaa
open Go.RowKit

/-- The library's variable MaxLen holds a number. -/
def MaxLenAt (w : World) : Prop := ∃ m, w.cell? ⟨0, 0, none⟩ = some (.int .i64 m)
theorem MaxLenAt.upto {B : Nat} {w w' : World} (h : MaxLenAt w) (hb : Below B w w') (hB : w.heap.size ≤ B) : MaxLenAt w' := by
  obtain ⟨m, hm⟩ := h
  exact ⟨m, (hb.cell (p := ⟨0, 0, none⟩) (Nat.lt_of_lt_of_le (World.block_lt_of_cell? w _ hm) hB)).trans hm⟩
theorem MaxLenAt.below {w w' : World} (h : MaxLenAt w) (hb : Below w.heap.size w w') : MaxLenAt w' := h.upto hb (Nat.le_refl _)
theorem MaxLenAt.alloc {w : World} (h : MaxLenAt w) (o : Obj) : MaxLenAt (w.alloc o) := h.below ((Below.refl _ _).alloc (Nat.le_refl _) o)
end Go.Proofs.Ythioafndepkhoaa
