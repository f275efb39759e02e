/-
  The walks of a reader of bit's: Align, Raw, From.
-/
import Derived.Test.YtbgechfmbogbpaaBitC
namespace Go.Proofs.Ytbgechfmbogbpaa
open Go.RowKit Bt

def Rawed (T : TypeId) (w : World) (g : Nat) (s : ByteArray) (a : Nat) (o n : Int) (e : Ending) (w' : World) : Prop :=
  e = .returned (.tuple #[.string (rawB s a n), .int .i64 (rawE s.size a n)]) ∧ Now T w g s (rawAt s.size a n) o w'
theorem rawed_of {T : TypeId} {w w' : World} {g : Nat} {s B : ByteArray} {a b : Nat} {o n x : Int} (hE : rawE s.size a n = x) (hB : rawB s a n = B) (hA : rawAt s.size a n = b) (h : Now T w g s b o w') : Rawed T w g s a o n (.returned (.tuple #[.string B, .int .i64 x])) w' := by
  subst hE hB hA
  exact ⟨rfl, h⟩

set_option maxHeartbeats 400000 in
theorem rfrom_any (s : ByteArray) (w : World) :
    Calls Try.prog 20 #[.string s] w fun e w' => e = .returned (.pointer (some ⟨w.heap.size, 0, none⟩)) ∧ w.grownBy w' none ∧ Rd 70 w' w.heap.size s 0 0 ∧ w'.heap.size = w.heap.size + 1 := by
  go_enter Try.func20, Try.ntmps20
  go_wp2
  go_ret
  exact ⟨rfl, World.grownBy_alloc _ _ _, Blk.new _ _ _, by simp⟩
end Go.Proofs.Ytbgechfmbogbpaa
