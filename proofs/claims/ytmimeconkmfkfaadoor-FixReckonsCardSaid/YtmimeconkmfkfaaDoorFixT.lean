/-
  decimal and count: the loops over a string's bytes.
-/
import Derived.Test.YtmimeconkmfkfaaDoorFixK
namespace Go.Proofs.YtmimeconkmfkfaaDoor
open Go.RowKit Fix

def isDig (b : UInt8) : Bool := decide (48 ≤ b.toNat) && decide (b.toNat ≤ 57)
theorem isDig_yes {b : UInt8} (h : isDig b = true) : 48 ≤ b.toNat ∧ b.toNat ≤ 57 := by unfold isDig at h; simpa using h
theorem isDig_no {b : UInt8} (h : ¬ isDig b = true) : b.toNat < 48 ∨ 57 < b.toNat := by unfold isDig at h; simp at h; omega
def decB (s : ByteArray) : Bool := s.data.toList.all isDig
theorem decB_no (s : ByteArray) (k : Nat) (h : k < s.size) (hb : ¬ isDig s[k] = true) : decB s = false := by
  unfold decB
  rw [List.all_eq_false]
  exact ⟨s[k], by rw [Array.mem_toList_iff]; exact Array.getElem_mem h, hb⟩
theorem decB_yes (s : ByteArray) (h : ∀ k (hk : k < s.size), isDig s[k] = true) : decB s = true := by
  unfold decB
  rw [List.all_eq_true]
  intro x hx
  rw [Array.mem_toList_iff] at hx
  obtain ⟨k, hk, rfl⟩ := Array.getElem_of_mem hx
  exact h k hk

theorem ret_bool {a b : Bool} (h : a = b) : Ending.returned (.bool a) = .returned (.bool b) := by rw [h]

set_option maxHeartbeats 1600000 in
theorem decimal_any (s : ByteArray) (w : World) (hs : s.size ≤ 4000000000) :
    Calls Tryd.prog 29 #[.string s] w fun e w' => e = .returned (.bool (decB s)) ∧ w' = w := by
  go_enter Tryd.func29, Tryd.ntmps29
  go_wp2
  go_loopw [6] (fun i wr => ∃ k : Nat, k ≤ s.size ∧ i = .int .i64 k ∧ Hid (∀ j (hj : j < s.size), j < k → isDig s[j] = true) ∧ wr = w) (fun i _ => s.size - (intOf i).toNat)
  case atStart => exact ⟨0, by omega, rfl, Lib.hid (fun j _ h => by omega), rfl⟩
  case round =>
    obtain ⟨k, hk, rfl, hinv, rfl⟩ := hrel
    by_cases hlt : k < s.size
    · by_cases hx : isDig s[k] = true
      · have H := Lib.hid hx
        obtain ⟨h1, h2⟩ := isDig_yes hx
        have h3 : ¬ (s[k].toNat : Int) < 48 := by omega
        have h4 : ¬ (57 : Int) < (s[k].toNat : Int) := by omega
        clear hx h1 h2
        go_wp2
        go_roundw
        case rel =>
          exact ⟨k + 1, by omega, by go_num, Lib.hid (fun j hj h => by
            by_cases hjk : j < k
            · exact hinv.out j hj hjk
            · obtain rfl : j = k := by omega
              exact H.out), trivial⟩
        case measure => simp [intOf]; omega
      · have he := Lib.hid (decB_no s k hlt hx)
        rcases isDig_no hx with h1 | h1
        · have h3 : (s[k].toNat : Int) < 48 := by omega
          clear hx h1
          go_wp2
          go_ret
          exact ⟨ret_bool he.out.symm, rfl⟩
        · have h3 : ¬ (s[k].toNat : Int) < 48 := by omega
          have h4 : (57 : Int) < (s[k].toNat : Int) := by omega
          clear hx h1
          go_wp2
          go_ret
          exact ⟨ret_bool he.out.symm, rfl⟩
    · have he := Lib.hid (decB_yes s (fun j hj => hinv.out j hj (by omega)))
      have hkk : k = s.size := by omega
      subst hkk
      clear hinv
      go_wp2
      go_ret
      exact ⟨ret_bool he.out.symm, rfl⟩
end Go.Proofs.YtmimeconkmfkfaaDoor
