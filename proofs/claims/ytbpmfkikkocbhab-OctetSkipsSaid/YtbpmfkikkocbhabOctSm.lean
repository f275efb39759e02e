/-
  Lemmas for OctetSkips: what a comment ahead does to Skip and to Line.
-/
import Derived.Test.YtbpmfkikkocbhabOctE
import Derived.Test.YtbpmfkikkocbhabRowEnd
import Derived.HandedShaped
namespace Go.Proofs.Ytbpmfkikkocbhab
open Go.ChangeShapes Go.WideShapes Go.ChangeAt Go.RowKit Oct
open Go.ChangeMaps (open_string shut_string)

/-- No end of line among the first i bytes. -/
def Plain (r : ByteArray) (i : Nat) : Prop := ∀ j, j < i → (h : j < r.size) → r[j] ≠ 10 ∧ r[j] ≠ 13
theorem Plain.succ {r : ByteArray} {i : Nat} (h : Plain r i) (hi : i < r.size) (h1 : ¬ (r[i].toNat : Int) = 13) (h2 : ((r[i].toNat : Int) == 13) = false ∧ ((r[i].toNat : Int) == 10) = false) : Plain r (i + 1) := fun j hj hs => by
  rcases Nat.lt_succ_iff_lt_or_eq.1 hj with h' | rfl
  · exact h j h' hs
  · refine ⟨fun e => ?_, fun e => ?_⟩
    · have := h2.2
      rw [e] at this
      cases this
    · rw [e] at h1
      exact h1 rfl
theorem plain_all {r : ByteArray} (h : Plain r r.size) : ∀ c ∈ r.data.toList, c ≠ 10 ∧ c ≠ 13 := by
  intro c hc
  obtain ⟨j, hj, rfl⟩ := List.getElem_of_mem hc
  exact h j (by simpa using hj) (by simpa using hj)
def aheadOf (r t : ByteArray) : ByteArray := { data := #[37] } ++ r ++ { data := #[10] } ++ t
theorem ahead_list (r t : ByteArray) : (aheadOf r t).data.toList = 37 :: (r.data.toList ++ 10 :: t.data.toList) := by
  unfold aheadOf
  simp [ByteArray.data_append]
theorem ahead_size (r t : ByteArray) : (aheadOf r t).size = r.size + 2 + t.size := by
  rw [← size_len, ahead_list, ← size_len r, ← size_len t]
  simp
  omega
theorem skip_ahead (r t : ByteArray) (h : Plain r r.size) : skipS (aheadOf r t).data.toList 0 = ((r.size + 2 + skipN false t.data.toList : Nat) : Int) := by
  unfold skipS
  rw [if_neg (by omega), ahead_list]
  show 0 + ((skipN false (37 :: (r.data.toList ++ 10 :: t.data.toList)) : Nat) : Int) = _
  rw [(skip_remark _ _ (plain_all h)).1, size_len]
  omega
theorem line_ahead (r t : ByteArray) (h : Plain r r.size) : lineS (aheadOf r t).data.toList 0 = ((r.size + 2 : Nat) : Int) := by
  unfold lineS
  rw [if_neg (by omega), ahead_list]
  show 0 + ((lineN (37 :: (r.data.toList ++ 10 :: t.data.toList)) : Nat) : Int) = _
  rw [(skip_remark _ _ (plain_all h)).2, size_len]
  omega
theorem skip_rest (s : ByteArray) {a K : Nat} (ha : a ≤ s.size) (hK : skipS s.data.toList a = (K : Int)) : ((skipN false (s.extract a s.size).data.toList : Nat) : Int) = (K : Int) - (a : Int) := by
  rw [extract_end]
  unfold skipS at hK
  rw [if_neg (by rw [size_len]; omega), Int.toNat_natCast] at hK
  omega
theorem ahead_skip (r s : ByteArray) {a K : Nat} (ha : a ≤ s.size) (h : Plain r r.size) (hK : skipS s.data.toList a = (K : Int)) : skipS (aheadOf r (s.extract a s.size)).data.toList 0 = 1 + (r.size : Int) + 1 + (K : Int) - (a : Int) := by
  rw [skip_ahead r _ h]
  have := skip_rest s ha hK
  omega
theorem ahead_line (r t : ByteArray) (h : Plain r r.size) : lineS (aheadOf r t).data.toList 0 = 1 + (r.size : Int) + 1 := by
  rw [line_ahead r t h]
  omega
end Go.Proofs.Ytbpmfkikkocbhab
