/-
  The walks of the document's reader: At, Left, Align, Raw, From.
-/
import Derived.Test.YtkcnhdponcbjaaaBitD
namespace Go.Proofs.Ytkcnhdponcbjaaa
open Go.RowKit Bt

set_option maxHeartbeats 400000 in
theorem qleft_any (g : Nat) (s : ByteArray) (a : Nat) (o : Int) (w : World) (h : Rd 82 w g s a o) (h1 : a ≤ 8 * s.size) (hs : s.size ≤ 1000000000000000000) :
    Calls Try.prog 69 #[.pointer (some ⟨g, 0, none⟩)] w fun e w' => e = .returned (.int .i64 (((8 * s.size : Nat) : Int) - a)) ∧ ∃ k, w' = w.drewN k := by
  have c0 : w.cell? ⟨g, 0, none⟩ = some (.string s) := (h.cell 0).trans rfl
  have c1 : w.cell? ⟨g, 1, none⟩ = some (.int .i64 (a : Int)) := (h.cell 1).trans rfl
  have H := Lib.hid h
  clear h
  go_enter Try.func69, Try.ntmps69
  go_wp2_with fail
  go_quiet (fail)
  go_wp2
  go_ret
  exact ⟨ret_int (by omega), _, rfl⟩

set_option maxHeartbeats 400000 in
theorem qalign_any (g : Nat) (s : ByteArray) (a : Nat) (o : Int) (w : World) (h : Rd 82 w g s a o) (h1 : a ≤ 8000000000000000000) :
    Calls Try.prog 34 #[.pointer (some ⟨g, 0, none⟩)] w fun e w' => e = .returned (.tuple #[]) ∧ Now 82 w g s (alg a) 0 w' := by
  have c1 : w.cell? ⟨g, 1, none⟩ = some (.int .i64 (a : Int)) := (h.cell 1).trans rfl
  have f1 : w.frozen? ⟨g, 1, none⟩ = false := h.frozen 1
  have f2 : w.frozen? ⟨g, 2, none⟩ = false := h.frozen 2
  have c2 : w.cell? ⟨g, 2, none⟩ = some (.int .i64 o) := (h.cell 2).trans rfl
  have E := Lib.hid (show ((a : Int) + 7) / 8 * 8 = (alg a : Nat) by unfold alg; omega)
  have H := Lib.hid h
  clear h
  go_enter Try.func34, Try.ntmps34
  go_wp2
  go_end0
  rw [E.out]
  exact ⟨rfl, ((Now.same H.out 0).at_ (alg a)).ord 0⟩

set_option maxHeartbeats 400000 in
theorem qfrom_any (s : ByteArray) (w : World) :
    Calls Try.prog 32 #[.string s] w fun e w' => e = .returned (.pointer (some ⟨w.heap.size, 0, none⟩)) ∧ w.grownBy w' none ∧ Rd 82 w' w.heap.size s 0 0 ∧ w'.heap.size = w.heap.size + 1 := by
  go_enter Try.func32, Try.ntmps32
  go_wp2
  go_ret
  exact ⟨rfl, World.grownBy_alloc _ _ _, Blk.new _ _ _, by simp⟩
end Go.Proofs.Ytkcnhdponcbjaaa
