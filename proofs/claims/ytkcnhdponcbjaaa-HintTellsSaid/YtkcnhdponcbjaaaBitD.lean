/-
  The walks of a reader of bit's: Align, Raw, From.
-/
import Derived.Test.YtkcnhdponcbjaaaBitC
namespace Go.Proofs.Ytkcnhdponcbjaaa
open Go.RowKit Bt

set_option maxHeartbeats 400000 in
theorem ralign_any (g : Nat) (s : ByteArray) (a : Nat) (o : Int) (w : World) (h : Rd 92 w g s a o) (h1 : a ≤ 8000000000000000000) :
    Calls Try.prog 55 #[.pointer (some ⟨g, 0, none⟩)] w fun e w' => e = .returned (.tuple #[]) ∧ Now 92 w g s (alg a) 0 w' := by
  have c1 : w.cell? ⟨g, 1, none⟩ = some (.int .i64 (a : Int)) := (h.cell 1).trans rfl
  have f1 : w.frozen? ⟨g, 1, none⟩ = false := h.frozen 1
  have f2 : w.frozen? ⟨g, 2, none⟩ = false := h.frozen 2
  have c2 : w.cell? ⟨g, 2, none⟩ = some (.int .i64 o) := (h.cell 2).trans rfl
  have E := Lib.hid (show ((a : Int) + 7) / 8 * 8 = (alg a : Nat) by unfold alg; omega)
  have H := Lib.hid h
  clear h
  go_enter Try.func55, Try.ntmps55
  go_wp2_with (go_at_call 64; refine (whole_any _ _ (by omega) (by omega)).mono ?_; rintro e w' ⟨rfl, rfl⟩)
  go_end0
  rw [E.out]
  exact ⟨rfl, ((Now.same H.out 0).at_ (alg a)).ord 0⟩

def Rawed (T : TypeId) (w : World) (g : Nat) (s : ByteArray) (a : Nat) (o n : Int) (e : Ending) (w' : World) : Prop :=
  e = .returned (.tuple #[.string (rawB s a n), .int .i64 (rawE s.size a n)]) ∧ Now T w g s (rawAt s.size a n) o w'
theorem rawed_of {T : TypeId} {w w' : World} {g : Nat} {s B : ByteArray} {a b : Nat} {o n x : Int} (hE : rawE s.size a n = x) (hB : rawB s a n = B) (hA : rawAt s.size a n = b) (h : Now T w g s b o w') : Rawed T w g s a o n (.returned (.tuple #[.string B, .int .i64 x])) w' := by
  subst hE hB hA
  exact ⟨rfl, h⟩

set_option maxHeartbeats 400000 in
theorem rfrom_any (s : ByteArray) (w : World) :
    Calls Try.prog 49 #[.string s] w fun e w' => e = .returned (.pointer (some ⟨w.heap.size, 0, none⟩)) ∧ w.grownBy w' none ∧ Rd 92 w' w.heap.size s 0 0 ∧ w'.heap.size = w.heap.size + 1 := by
  go_enter Try.func49, Try.ntmps49
  go_wp2
  go_ret
  exact ⟨rfl, World.grownBy_alloc _ _ _, Blk.new _ _ _, by simp⟩
end Go.Proofs.Ytkcnhdponcbjaaa
