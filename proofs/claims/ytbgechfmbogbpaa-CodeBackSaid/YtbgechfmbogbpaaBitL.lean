/-
  The walks of a writer of bit's: Align, Len, Text, New, Raw.
-/
import Derived.Test.YtbgechfmbogbpaaBitK
import Derived.Test.YtbgechfmbogbpaaStrAt
import Derived.Laws.IdiomStrings
import Derived.Lib.BufferRead
namespace Go.Proofs.Ytbgechfmbogbpaa
open Go.RowKit Bt

/-- 'string(b)' of a row of the call's own. -/
theorem run_string_of_row {w : World} {base : Nat} {v : Value} {l : List UInt8} (hown : w.ownsRow base 5 1 v l.length (byteCells l)) :
    (convert 75 9 v).run Try.prog w = .ok (.string ⟨l.toArray⟩) w := by
  rcases hown.2 with ⟨rfl, h0⟩ | ⟨g, cap, cur, rfl, _⟩
  · have hl : l = [] := List.eq_nil_of_length_eq_zero h0
    subst hl
    exact Lib.run_convert_nil_bytes w _ _ _ 0 Try.underlying75 Try.underlying5 Try.underlying9
  · refine run_convert_bytes_back w _ _ _ ⟨g, 0, none⟩ cap l Try.underlying75 Try.underlying5 Try.underlying9 fun j hj => ?_
    exact hown.cells (g := g) rfl j _ (by simp [byteCells, hj])

/-- The writer's row was appended to, and stored in its struct. -/
theorem wr_rowed {T : TypeId} {B g n : Nat} {r : Option Nat} {l m : List UInt8} {p : Nat} {o : Int} {w w2 : World} {v2 v : Value} (hB : B ≤ g) (hr : r ≠ some g) (hg : g < w.heap.size) (hn : l.length = n)
    (h : Blk w2 g T #[v, .int .i64 (p : Int), .int .i64 o]) (hown : w2.ownsRow B 5 1 v2 (n + m.length) (byteCells l ++ byteCells m)) (hgrow : w.grownBy w2 r) (hat : v2.ownBlock = r ∨ v2.ownBlock = some w.heap.size) :
    Wrote T B w g r (l ++ m) p o (w2.setCell ⟨g, 0, none⟩ v2) := by
  have hv2 : v2.ownBlock ≠ some g := by
    rcases hat with e | e
    · rw [e]; exact hr
    · rw [e]; intro e2; injection e2; omega
  refine ⟨v2.ownBlock, hat.imp id (fun e => ⟨_, e, Nat.le_refl _⟩), ⟨v2, h.set_ 0 _, ?_, rfl, hv2, hB⟩, ((Two.refl w g r).grown hgrow (Or.inl rfl)).set_ 0 _⟩
  rw [byteCells_append, List.length_append, hn]
  exact ownsRow_setCell_other hown hv2 _

set_option maxHeartbeats 400000 in
theorem wlen_any (B g : Nat) (r : Option Nat) (l : List UInt8) (p : Nat) (o : Int) (w : World) (h : Wr 77 B w g r l p o) :
    Calls Try.prog 27 #[.pointer (some ⟨g, 0, none⟩)] w fun e w' => e = .returned (.int .i64 (l.length : Int)) ∧ w = w' := by
  obtain ⟨v, h1, h2, h3, h4, h5⟩ := h
  obtain ⟨n, hn⟩ : ∃ n, l.length = n := ⟨_, rfl⟩
  rw [hn] at h2 ⊢
  obtain ⟨A, c, rfl⟩ := own_form h2
  have c0 : w.cell? ⟨g, 0, none⟩ = some (.slice A n c) := (h1.cell 0).trans rfl
  clear h1 h2 h3 h4 h5 hn
  go_enter Try.func27, Try.ntmps27
  go_wp2
  go_ret
  exact ⟨rfl, rfl⟩

set_option maxHeartbeats 400000 in
theorem wtext_any (B g : Nat) (r : Option Nat) (l : List UInt8) (p : Nat) (o : Int) (w : World) (h : Wr 77 B w g r l p o) :
    Calls Try.prog 26 #[.pointer (some ⟨g, 0, none⟩)] w fun e w' => e = .returned (.string ⟨l.toArray⟩) ∧ w = w' := by
  obtain ⟨v, h1, h2, h3, h4, h5⟩ := h
  have hconv := run_string_of_row h2
  have c0 : w.cell? ⟨g, 0, none⟩ = some v := (h1.cell 0).trans rfl
  clear h1 h2 h3 h4 h5
  go_enter Try.func26, Try.ntmps26
  go_wp2
  go_ret
  exact ⟨rfl, rfl⟩

set_option maxHeartbeats 400000 in
theorem wnew_any (B : Nat) (w : World) (hB : B ≤ w.heap.size) :
    Calls Try.prog 24 #[] w fun e w' => e = .returned (.pointer (some ⟨w.heap.size, 0, none⟩)) ∧ w.grownBy w' none ∧ Wr 77 B w' w.heap.size none [] 0 0 ∧ w'.heap.size = w.heap.size + 1 := by
  go_enter Try.func24, Try.ntmps24
  go_wp2
  go_ret
  exact ⟨rfl, World.grownBy_alloc _ _ _, ⟨.slice none 0 0, Blk.new _ _ _, World.ownsRow_nil _ _ _ _, rfl, by simp, hB⟩, by simp⟩

end Go.Proofs.Ytbgechfmbogbpaa
