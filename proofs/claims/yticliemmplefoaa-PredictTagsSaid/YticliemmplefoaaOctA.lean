/-
  The walks of octet's small functions: among, White, Delim, Regular: each returns what the plain function says, and leaves the world as it was.
-/
import Derived.Test.YticliemmplefoaaBase
import Derived.Test.YticliemmplefoaaOctMath
import Derived.WalkKit
import Derived.WalkSpells
import Derived.Lib.Hide
namespace Go.Proofs.Yticliemmplefoaa
open Go.RowKit Oct

theorem byte_eq {a b : UInt8} (h : ((a.toNat : Int) == (b.toNat : Int)) = true) : a = b := by
  have h1 : (a.toNat : Int) = b.toNat := by simpa using h
  exact UInt8.toNat_inj.1 (by omega)
theorem byte_ne {a b : UInt8} (h : ((a.toNat : Int) == (b.toNat : Int)) = false) : a ≠ b := by
  rintro rfl
  simp at h

def dgA : ByteArray := { data := #[48, 49, 50, 51, 52, 53, 54, 55, 56, 57, 65, 66, 67, 68, 69, 70] }
theorem dgA_at (k : Nat) (hk : k < 16) : ((dgA[k]'hk).toNat : Int) = dgN k := by rw [← dgN_at k hk]; rfl
theorem dg_yes {c : UInt8} {k : Nat} (hk : k < 16) {x : Int} (hf : (foldN c : Int) = x) (h : (((dgA[k]'hk).toNat : Int) == x) = true) : dgN k = foldN c := by
  rw [dgA_at k hk] at h
  have := eq_of_beq h
  omega
theorem dg_no {c : UInt8} {k : Nat} (hk : k < 16) {x : Int} (hf : (foldN c : Int) = x) (h : (((dgA[k]'hk).toNat : Int) == x) = false) : dgN k ≠ foldN c := by
  rw [dgA_at k hk] at h
  intro e
  have := beq_eq_false_iff_ne.1 h
  omega

end Go.Proofs.Yticliemmplefoaa
