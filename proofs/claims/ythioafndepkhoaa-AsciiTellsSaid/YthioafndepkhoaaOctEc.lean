/-
  The contracts of octet at given answers.
-/
import Derived.Test.YthioafndepkhoaaOctD
namespace Go.Proofs.Ythioafndepkhoaa
open Go.RowKit Oct

theorem byte_of {n : Int} (h0 : 0 ≤ n) (h1 : n < 256) : ((UInt8.ofNat n.toNat).toNat : Int) = n := by
  rw [UInt8.toNat_ofNat']; omega

/- The contracts at constants: the answer is worked out. -/
theorem white_c (n : Int) (b : Bool) (w : World) (h0 : 0 ≤ n) (h1 : n < 256) (h : whiteS (UInt8.ofNat n.toNat) = b) : Calls Try.prog 44 #[.int .u8 n] w fun e w' => e = .returned (.bool b) ∧ w = w' := by
  have := white_any (UInt8.ofNat n.toNat) w
  rwa [byte_of h0 h1, h] at this
theorem digit_c (n r : Int) (w : World) (h0 : 0 ≤ n) (h1 : n < 256) (h : digitS (UInt8.ofNat n.toNat) = r) : Calls Try.prog 45 #[.int .u8 n] w fun e w' => e = .returned (.int .i64 r) ∧ w = w' := by
  have := digit_any (UInt8.ofNat n.toNat) w
  rwa [byte_of h0 h1, h] at this
theorem hex_c (s t : ByteArray) (w : World) (hs : s.size ≤ 4000000000) (h : hexB s = t) : Calls Try.prog 26 #[.string s] w fun e w' => e = .returned (.string t) ∧ Below w.heap.size w w' := h ▸ hex_any s w hs
end Go.Proofs.Ythioafndepkhoaa
