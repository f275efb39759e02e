/-
  The document's Encode and Decode at any arguments.
-/
import Derived.Test.YticliemmplefoaaPrdG
namespace Go.Proofs.Yticliemmplefoaa
open Go.RowKit Oct Prd
attribute [-go_sem] Builtin.append_

/-- What Encode answers: the error, the bytes. -/
def encF (pr co cl : Int) (l : List UInt8) : Int × List UInt8 :=
  if okP pr co cl = false then (1, []) else if pr = 1 then (0, l) else if l.length % (co * cl).toNat ≠ 0 then (16, []) else (0, encR pr.toNat co.toNat (co * cl).toNat l (l.length / (co * cl).toNat))
def decRes (r : Option (List UInt8 × List UInt8)) : Int × List UInt8 := match r with | none => (3, []) | some (_, all) => (0, all)
def decF (pr co cl : Int) (l : List UInt8) : Int × List UInt8 :=
  if okP pr co cl = false then (1, []) else if pr = 1 then (0, l) else if l.length % ((co * cl).toNat + tgs pr.toNat) ≠ 0 then (16, []) else decRes (decR pr.toNat co.toNat ((co * cl).toNat + tgs pr.toNat) l (l.length / ((co * cl).toNat + tgs pr.toNat)))
/-- The answer of a coder. -/
def CodeIs (F : Int × List UInt8) (w : World) (e : Ending) (w' : World) : Prop := e = .returned (.tuple #[.string ⟨F.2.toArray⟩, .int .i64 F.1]) ∧ Below w.heap.size w w'
theorem empty_arr : (⟨(([] : List UInt8)).toArray⟩ : ByteArray) = ⟨#[]⟩ := rfl
theorem list_arr {s : ByteArray} {l : List UInt8} (h : s.data.toList = l) : (⟨l.toArray⟩ : ByteArray) = s := by subst h; rfl
/-- How the parameters can be. -/
theorem ok_parts {pr co cl : Int} (h : okP pr co cl = true) : ∃ p c k n : Nat, pr = (p : Int) ∧ co = (c : Int) ∧ cl = (k : Int) ∧ c * k = n ∧ (co * cl).toNat = n ∧ 1 ≤ n ∧ n ≤ 8192 ∧ 1 ≤ c ∧ c ≤ 8192 ∧ k ≤ 8192 ∧ (p = 1 ∨ p = 2 ∨ 10 ≤ p ∧ p ≤ 15) := by
  obtain ⟨h0, h1, h2, h3⟩ := okP_iff.1 h
  have hp : pr = 1 ∨ pr = 2 ∨ 10 ≤ pr ∧ pr ≤ 15 := by
    unfold knownB at h0
    simp only [Bool.or_eq_true, Bool.and_eq_true, decide_eq_true_eq] at h0
    omega
  obtain ⟨c, rfl⟩ : ∃ c : Nat, co = (c : Int) := ⟨co.toNat, by omega⟩
  obtain ⟨k, rfl⟩ : ∃ k : Nat, cl = (k : Int) := ⟨cl.toNat, by omega⟩
  obtain ⟨p, rfl⟩ : ∃ p : Nat, pr = (p : Int) := ⟨pr.toNat, by omega⟩
  have hm : ((c : Int) * (k : Int)) = ((c * k : Nat) : Int) := by push_cast; rfl
  rw [hm] at h3
  have hc : c * 1 ≤ c * k := Nat.mul_le_mul_left c (by omega)
  have hk : 1 * k ≤ c * k := Nat.mul_le_mul_right k (by omega)
  exact ⟨p, c, k, c * k, rfl, rfl, rfl, rfl, by rw [hm]; omega, Nat.mul_pos (by omega) (by omega), by omega, by omega, by omega, by omega, by omega⟩

end Go.Proofs.Yticliemmplefoaa
