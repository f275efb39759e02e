/-
  ascii's decoder: take, visible, hexDigit.
-/
import Derived.Test.YthioafndepkhoaaGive
import Derived.Test.YthioafndepkhoaaOctA
import Derived.Deep.Cut
namespace Go.Proofs.Ythioafndepkhoaa
open Go.RowKit Oct

theorem grown_refl (w : World) (r : Option Nat) : w.grownBy w r := ⟨rfl, rfl, rfl, Nat.le_refl _, fun _ _ _ => rfl⟩

set_option maxHeartbeats 1000000 in
theorem take_no (n : Int) (g : Nat) (r : ByteArray) (v : Value) (m : Int) (w : World) (hr : r.size ≤ 4000000000) (hn : (r.size : Int) < n) (hX : Blk w g 44 #[.string r, v, .int .i64 m]) :
    Calls Try.prog 39 #[.pointer (some ⟨g, 0, none⟩), .int .i64 n] w fun e w' => e = gUp 4 ∧ w = w' := by
  have c0 := hX.cell 0
  simp only [List.getElem?_toArray, List.getElem?_cons_zero] at c0
  clear hX
  go_enter Try.func39, Try.ntmps39
  go_wp2_with fail
  refine (up_any _ _).mono ?_
  rintro e w' ⟨rfl, rfl⟩
  exact ⟨rfl, rfl, rfl⟩

set_option maxHeartbeats 1000000 in
theorem take_ok (n : Nat) (g : Nat) (r : ByteArray) (v : Value) (m : Int) (w : World) (hr : r.size ≤ 4000000000) (hn : n ≤ r.size) (hX : Blk w g 44 #[.string r, v, .int .i64 m]) :
    Calls Try.prog 39 #[.pointer (some ⟨g, 0, none⟩), .int .i64 (n : Int)] w fun e w' => e = .returned (.string (r.extract 0 n)) ∧ Blk w' g 44 #[.string (r.extract n r.size), v, .int .i64 m] ∧ w.grownBy w' (some g) := by
  have c0 := hX.cell 0
  have f0 := hX.frozen 0
  simp only [List.getElem?_toArray, List.getElem?_cons_zero] at c0
  have l1 : ¬ (r.size : Int) < (n : Int) := by omega
  have HX := Lib.hid hX
  clear hX
  go_enter Try.func39, Try.ntmps39
  go_wp2_with fail
  go_ret
  exact ⟨rfl, HX.out.set_ 0 _, grown_set (grown_refl w _) 0 _⟩

/-- How many white bytes stand at a list's head. -/
def whiteN (l : List UInt8) : Nat := (l.takeWhile whiteS).length
theorem take_one (r : ByteArray) (h : 0 < r.size) : (r.extract 0 1).size = 1 ∧ ∀ h' : 0 < (r.extract 0 1).size, (r.extract 0 1)[0] = r[0] := by
  refine ⟨by rw [ByteArray.size_extract]; omega, fun h' => ?_⟩
  rw [ByteArray.getElem_extract]
end Go.Proofs.Ythioafndepkhoaa
