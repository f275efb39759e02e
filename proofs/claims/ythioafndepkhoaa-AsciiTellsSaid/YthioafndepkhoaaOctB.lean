/-
  The walks of octet's searches: Begins, Find, Last, Line, Skip: each returns what the plain function says, and leaves the world as it was.
-/
import Derived.Test.YthioafndepkhoaaOctA
import Derived.Test.YthioafndepkhoaaShelf
namespace Go.Proofs.Ythioafndepkhoaa
open Go.RowKit Oct

theorem extract_end (s : ByteArray) (k : Nat) : (s.extract k s.size).data.toList = s.data.toList.drop k := by
  rw [Lib.extract_data, List.take_of_length_le (by simp)]

def preB (s p : ByteArray) : Bool := Lib.hasPrefix s.data.toList p.data.toList
theorem prefix_any (s p : ByteArray) (w : World) : Calls Try.prog 47 #[.string s, .string p] w fun e w' => e = .returned (.bool (preB s p)) ∧ w = w' :=
  (Try.strings_HasPrefix s p w).mono fun _ _ ⟨h1, h2⟩ => ⟨h1, h2.symm⟩
theorem size_len (s : ByteArray) : s.data.toList.length = s.size := by simp
theorem empty_of {p : ByteArray} (h : p.toList = []) : p.data.toList = [] := by rw [← Lib.toList_data]; exact h
theorem empty_yes {p : ByteArray} (h : p.toList.isEmpty = true) : p.data.toList = [] := empty_of (List.isEmpty_iff.1 h)
theorem empty_no {p : ByteArray} (h : p.toList.isEmpty = false) : p.data.toList ≠ [] := by
  intro e
  rw [← Lib.toList_data] at e
  rw [e] at h
  cases h
theorem find_w1 {s p : ByteArray} {a : Int} (h : p.toList = []) : findS s.data.toList p.data.toList a = -1 := by rw [empty_of h, findS_empty]
theorem find_w2 {s p : ByteArray} {a : Int} (h : p.toList.isEmpty = true ∨ (s.size : Int) < max a 0) : findS s.data.toList p.data.toList a = -1 := by
  unfold findS
  rw [if_pos]
  rcases h with h | h
  · exact .inl (empty_yes h)
  · exact .inr (by rw [size_len]; exact h)
theorem find_w3 {s p : ByteArray} {a i : Int} (h : p.toList.isEmpty = false ∧ max a 0 ≤ (s.size : Int)) (hi : Lib.index (s.extract (max a 0).toNat s.size).data.toList p.data.toList = i) :
    findS s.data.toList p.data.toList a = if i < 0 then -1 else max a 0 + i := by
  unfold findS
  rw [if_neg (by rw [size_len]; have := empty_no h.1; simp [this]; omega), ← extract_end, hi]
theorem last_w0 {s p : ByteArray} (h : p.toList.isEmpty = true) : lastS s.data.toList p.data.toList = -1 := by rw [empty_yes h, lastS_empty]
theorem beginsS_cut (s part : ByteArray) {k : Nat} (hk : k ≤ s.size) : beginsS s.data.toList part.data.toList k = preB (s.extract k s.size) part := by
  unfold beginsS preB
  rw [extract_end, Int.toNat_natCast, size_len, decide_eq_true (by omega : (0 : Int) ≤ (k : Int)), decide_eq_true (by omega : (k : Int) ≤ (s.size : Int))]
  rfl

end Go.Proofs.Ythioafndepkhoaa
