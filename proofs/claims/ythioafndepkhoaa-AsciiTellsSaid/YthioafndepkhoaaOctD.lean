/-
  The walk of octet's Unhex: it returns what the plain function says; what it makes lies in new memory.
-/
import Derived.Test.YthioafndepkhoaaOctC
import Derived.IntWalk
namespace Go.Proofs.Ythioafndepkhoaa
open Go.RowKit Oct

def unhexT (s : ByteArray) : ByteArray := ⟨((unhexS s.data.toList).getD []).toArray⟩
def unhexE (s : ByteArray) : Int := if (unhexS s.data.toList).isSome then 0 else 3

theorem unhexE_none {s : ByteArray} (h : unhexS s.data.toList = none) : unhexT s = ⟨#[]⟩ ∧ unhexE s = 3 := by
  unfold unhexT unhexE
  rw [h]
  exact ⟨rfl, rfl⟩
theorem unhexE_some {s : ByteArray} {l : List UInt8} (h : unhexS s.data.toList = some l) : unhexT s = ⟨l.toArray⟩ ∧ unhexE s = 0 := by
  unfold unhexT unhexE
  rw [h]
  exact ⟨rfl, rfl⟩
theorem unhex_odd {s : ByteArray} (h : s.size % 2 = 1) : unhexS s.data.toList = none := by
  cases hu : unhexS s.data.toList with
  | none => rfl
  | some l =>
    have := unhexS_even _ _ hu
    rw [size_len] at this
    omega
theorem ret_two {a b : ByteArray} {c d : Int} (h1 : a = b) (h2 : c = d) : Ending.returned (.tuple #[.string a, .int .i64 c]) = .returned (.tuple #[.string b, .int .i64 d]) := by rw [h1, h2]
theorem digit_q (c : UInt8) (w : World) : Calls Try.prog 45 #[.int .u8 (c.toNat : Int)] w fun e w' => e = .returned (.int .i64 (digitS c)) ∧ w' = w :=
  (digit_any c w).mono fun _ _ ⟨h1, h2⟩ => ⟨h1, h2.symm⟩

/-- After k rounds: the bytes so far, in a row of the call's own. -/
def UnhexTo (s : ByteArray) (k : Nat) (v : Value) (w : World) (base : Nat) : Prop :=
  ∃ l, unhexS (s.data.toList.take (2 * k)) = some l ∧ l.length = k ∧ w.ownsRow base 5 1 v k (cellsOf l)


end Go.Proofs.Ythioafndepkhoaa
