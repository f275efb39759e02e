/-
  Sum for all operands.
-/
import Derived.Test.YthihmbicalacfaaFixJ
namespace Go.Proofs.Ythihmbicalacfaa
open Go.RowKit Fix

theorem reads_below {w w' : World} {a : Option Addr} {xs : List Int} (h : ReadsInts w a xs) (hb : Below w.heap.size w w') : ReadsInts w' a xs := fun j hj =>
  let ⟨b, off, ha, hc⟩ := h j hj
  ⟨b, off, ha, cell_later hb hc⟩

theorem below_three (w : World) (o o' o'' : Obj) : Below w.heap.size w (((w.alloc o).alloc o').alloc o'') :=
  (((Below.refl _ _).alloc (Nat.le_refl _) _).alloc (by simp) _).alloc (by simp; omega) _

end Go.Proofs.Ythihmbicalacfaa
