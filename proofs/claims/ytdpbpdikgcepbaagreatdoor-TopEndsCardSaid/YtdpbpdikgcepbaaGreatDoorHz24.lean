/-
  Lemmas and walks, joined: FixY.
-/
import Derived.Test.YtdpbpdikgcepbaaGreatDoorHz10
import Derived.Test.YtdpbpdikgcepbaaGreatDoorHz18
namespace Go.Proofs.YtdpbpdikgcepbaaGreatDoor
open Go.RowKit Fix

def TailOk (r : Nat) (t : ByteArray) : Prop := 1 ≤ t.size ∧ t.size ≤ 4 ∧ t.data.toList = (digitsL r 4).take t.size ∧ ∀ (j : Nat) b, t.size ≤ j → (digitsL r 4)[j]? = some b → b = 48

theorem tail_less (r : Nat) (t : ByteArray) (h : TailOk r t) (h1 : 1 < t.size) (hb : t[t.size - 1] = 48) : TailOk r (t.extract 0 (t.size - 1)) := by
  obtain ⟨a, b, c, d⟩ := h
  have hs : (t.extract 0 (t.size - 1)).size = t.size - 1 := by simp
  have ht : (t.extract 0 (t.size - 1)).data.toList = t.data.toList.take (t.size - 1) := by rw [Lib.extract_data]; simp
  refine ⟨by omega, by omega, ?_, fun j x hj hx => ?_⟩
  · rw [hs, ht, c, List.take_take, show min (t.size - 1) t.size = t.size - 1 by omega]
  · rw [hs] at hj
    by_cases hj2 : t.size ≤ j
    · exact d j x hj2 hx
    · obtain rfl : j = t.size - 1 := by omega
      have e : t.data.toList[t.size - 1]? = some x := by rw [c, List.getElem?_take_of_lt (by omega)]; exact hx
      rw [List.getElem?_eq_getElem (by rw [size_list]; omega)] at e
      have e2 : t.data.toList[t.size - 1]'(by rw [size_list]; omega) = t[t.size - 1] := rfl
      rw [e2, hb] at e
      cases e
      rfl
theorem tail_done (r : Nat) (t : ByteArray) (hr : r < 10000) (h : TailOk r t) (hb : t.size = 1 ∨ t[t.size - 1]? ≠ some 48) : t.data.toList = fracL r := by
  obtain ⟨a, b, c, d⟩ := h
  have h4 := digits4_length r hr
  rw [c]
  refine frac_take r t.size a (by omega) d ?_
  rcases hb with hb | hb
  · exact Or.inl hb
  · refine Or.inr fun x hx e => hb ?_
    subst e
    have e : t.data.toList[t.size - 1]? = some 48 := by rw [c, List.getElem?_take_of_lt (by omega)]; exact hx
    rw [List.getElem?_eq_getElem (by rw [size_list]; omega)] at e
    rw [ByteArray.getElem?_lt' t _ (by omega)]
    exact e

end Go.Proofs.YtdpbpdikgcepbaaGreatDoor
