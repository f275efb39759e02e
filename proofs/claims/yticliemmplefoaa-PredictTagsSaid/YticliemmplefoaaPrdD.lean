/-
  The document's less and best.
-/
import Derived.Test.YticliemmplefoaaPrdC
namespace Go.Proofs.Yticliemmplefoaa
open Go.RowKit Oct Prd
attribute [-go_sem] Builtin.append_

theorem IsRow.heap {W W' : World} {v : Value} {l : List UInt8} (h : IsRow W v l) (he : W'.heap = W.heap) : IsRow W' v l := by
  obtain ⟨A, C, rfl, h2⟩ := h
  refine ⟨A, C, rfl, fun j hj => ?_⟩
  obtain ⟨b, o, h3, h4⟩ := h2 j hj
  exact ⟨b, o, h3, by rw [← h4]; simp [World.cell?, he]⟩
/-- A row that the call owns, wherever it lies. -/
def OwnEnd (w : World) (l : List UInt8) (e : Ending) (w' : World) : Prop := ∃ A C, e = .returned (.slice A l.length C) ∧ w'.ownsRow w.heap.size 5 1 (.slice A l.length C) l.length (bC l) ∧ Below w.heap.size w w'

end Go.Proofs.Yticliemmplefoaa
