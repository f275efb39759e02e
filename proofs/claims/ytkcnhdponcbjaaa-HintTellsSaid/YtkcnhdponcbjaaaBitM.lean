/-
  The walks of the document's writer: Align, Len, Text, New, Raw.
-/
import Derived.Test.YtkcnhdponcbjaaaBitL
namespace Go.Proofs.Ytkcnhdponcbjaaa
open Go.RowKit Bt

set_option maxHeartbeats 400000 in
theorem valign_any (B g : Nat) (r : Option Nat) (l : List UInt8) (p : Nat) (o : Int) (w : World) (h : Wr 71 B w g r l p o) :
    Calls Try.prog 26 #[.pointer (some ⟨g, 0, none⟩)] w fun e w' => e = .returned (.tuple #[]) ∧ Wrote 71 B w g r l 0 0 w' := by
  obtain ⟨val, hB⟩ : ∃ val, Blk w g 71 #[val, .int .i64 (p : Int), .int .i64 o] := ⟨_, h.choose_spec.1⟩
  have c1 : w.cell? ⟨g, 1, none⟩ = some (.int .i64 (p : Int)) := (hB.cell 1).trans rfl
  have c2 : w.cell? ⟨g, 2, none⟩ = some (.int .i64 o) := (hB.cell 2).trans rfl
  have f1 : w.frozen? ⟨g, 1, none⟩ = false := hB.frozen 1
  have f2 : w.frozen? ⟨g, 2, none⟩ = false := hB.frozen 2
  have H := Lib.hid h
  clear h hB
  go_enter Try.func26, Try.ntmps26
  go_wp2
  go_end0
  exact ⟨rfl, ((Wrote.same H.out).part 0).ord 0⟩

set_option maxHeartbeats 400000 in
theorem vtext_any (B g : Nat) (r : Option Nat) (l : List UInt8) (p : Nat) (o : Int) (w : World) (h : Wr 71 B w g r l p o) :
    Calls Try.prog 28 #[.pointer (some ⟨g, 0, none⟩)] w fun e w' => e = .returned (.string ⟨l.toArray⟩) ∧ w = w' := by
  obtain ⟨v, h1, h2, h3, h4, h5⟩ := h
  have hconv := run_string_of_row h2
  have c0 : w.cell? ⟨g, 0, none⟩ = some v := (h1.cell 0).trans rfl
  clear h1 h2 h3 h4 h5
  go_enter Try.func28, Try.ntmps28
  go_wp2
  go_ret
  exact ⟨rfl, rfl⟩

set_option maxHeartbeats 400000 in
theorem vnew_any (B : Nat) (w : World) (hB : B ≤ w.heap.size) :
    Calls Try.prog 23 #[] w fun e w' => e = .returned (.pointer (some ⟨w.heap.size, 0, none⟩)) ∧ w.grownBy w' none ∧ Wr 71 B w' w.heap.size none [] 0 0 ∧ w'.heap.size = w.heap.size + 1 := by
  go_enter Try.func23, Try.ntmps23
  go_wp2
  go_ret
  exact ⟨rfl, World.grownBy_alloc _ _ _, ⟨.slice none 0 0, Blk.new _ _ _, World.ownsRow_nil _ _ _ _, rfl, by simp, hB⟩, by simp⟩

end Go.Proofs.Ytkcnhdponcbjaaa
