/-
  The walks of octet's small functions: among, White, Delim, Regular: each returns what the plain function says, and leaves the world as it was.
-/
import Derived.Test.YthioafndepkhoaaBase
import Derived.Test.YthioafndepkhoaaOctMath
import Derived.WalkKit
import Derived.WalkSpells
import Derived.Lib.Hide
namespace Go.Proofs.Ythioafndepkhoaa
open Go.RowKit Oct

theorem byte_eq {a b : UInt8} (h : ((a.toNat : Int) == (b.toNat : Int)) = true) : a = b := by
  have h1 : (a.toNat : Int) = b.toNat := by simpa using h
  exact UInt8.toNat_inj.1 (by omega)
theorem byte_ne {a b : UInt8} (h : ((a.toNat : Int) == (b.toNat : Int)) = false) : a ≠ b := by
  rintro rfl
  simp at h

set_option maxHeartbeats 400000 in
theorem among_any (c : UInt8) (s : ByteArray) (w : World) (hs : s.size ≤ 9223372036854775807) :
    Calls Try.prog 52 #[.int .u8 (c.toNat : Int), .string s] w fun e w' => e = .returned (.bool (memS c s.data.toList)) ∧ w = w' := by
  go_enter Try.func52, Try.ntmps52
  go_wp2
  go_loop [8] (fun i => ∃ k : Nat, k ≤ s.size ∧ i = .int .i64 k ∧ ∀ j, j < k → (h : j < s.size) → s[j] ≠ c) (fun i => s.size - (intOf i).toNat)
  case atStart => exact ⟨0, Nat.zero_le _, rfl, fun _ h => absurd h (Nat.not_lt_zero _)⟩
  case round =>
    obtain ⟨k, hk, rfl, hn⟩ := hrel
    have HN := Lib.hid hn
    clear hn
    by_cases hlt : k < s.size
    · go_wp2
      · go_ret
        exact ⟨ret_bool (memS_yes (k := k) (by simpa using hlt) (byte_eq (by assumption))).symm, rfl⟩
      · have hne : s[k] ≠ c := byte_ne (by assumption)
        go_round
        case rel => exact ⟨k + 1, by omega, by go_num, fun j hj h => by
          rcases Nat.lt_succ_iff_lt_or_eq.1 hj with h' | rfl
          · exact HN.out j h' h
          · exact hne⟩
        case measure => simp [intOf]; omega
    · go_wp2
      go_ret
      exact ⟨ret_bool (memS_no fun j hj => HN.out j (by simp at hj; omega) (by simpa using hj)).symm, rfl⟩

theorem white_any (c : UInt8) (w : World) : Calls Try.prog 44 #[.int .u8 (c.toNat : Int)] w fun e w' => e = .returned (.bool (whiteS c)) ∧ w = w' := by
  go_enter Try.func44, Try.ntmps44
  go_wp2_with (go_at_call 52; refine (among_any _ _ _ (by decide)).mono ?_; rintro e w' ⟨rfl, rfl⟩)
  go_ret
  exact ⟨ret_bool (mem_white c), rfl⟩

def dgA : ByteArray := { data := #[48, 49, 50, 51, 52, 53, 54, 55, 56, 57, 65, 66, 67, 68, 69, 70] }
theorem dgA_at (k : Nat) (hk : k < 16) : ((dgA[k]'hk).toNat : Int) = dgN k := by rw [← dgN_at k hk]; rfl
theorem dg_yes {c : UInt8} {k : Nat} (hk : k < 16) {x : Int} (hf : (foldN c : Int) = x) (h : (((dgA[k]'hk).toNat : Int) == x) = true) : dgN k = foldN c := by
  rw [dgA_at k hk] at h
  have := eq_of_beq h
  omega
theorem dg_no {c : UInt8} {k : Nat} (hk : k < 16) {x : Int} (hf : (foldN c : Int) = x) (h : (((dgA[k]'hk).toNat : Int) == x) = false) : dgN k ≠ foldN c := by
  rw [dgA_at k hk] at h
  intro e
  have := beq_eq_false_iff_ne.1 h
  omega

set_option maxHeartbeats 400000 in
theorem digit_low (c : UInt8) (w : World) (hc : (c.toNat : Int) < 97) : Calls Try.prog 45 #[.int .u8 (c.toNat : Int)] w fun e w' => e = .returned (.int .i64 (digitS c)) ∧ w = w' := by
  have hf : (foldN c : Int) = (c.toNat : Int) := by unfold foldN; split <;> omega
  have HF := Lib.hid hf
  clear hf
  go_enter Try.func45, Try.ntmps45
  go_wp2
  go_loop [12] (fun i => ∃ k : Nat, k ≤ 16 ∧ i = .int .i64 k ∧ Missed c k) (fun i => 16 - (intOf i).toNat)
  case atStart => exact ⟨0, by omega, rfl, fun _ h => absurd h (Nat.not_lt_zero _)⟩
  case round =>
    obtain ⟨k, hk, rfl, hn⟩ := hrel
    have HN := Lib.hid hn
    clear hn
    by_cases hlt : k < 16
    · go_wp2
      · go_ret
        exact ⟨ret_int (digit_hit c hlt (dg_yes hlt HF.out (by assumption))).symm, rfl⟩
      · have hne := dg_no hlt HF.out (by assumption)
        go_round
        case rel => exact ⟨k + 1, by omega, by go_num, HN.out.succ hne⟩
        case measure => simp [intOf]; omega
    · go_wp2
      go_ret
      obtain rfl : k = 16 := by omega
      exact ⟨ret_int (digit_none c HN.out).symm, rfl⟩

set_option maxHeartbeats 400000 in
theorem digit_high (c : UInt8) (w : World) (hc : 102 < (c.toNat : Int)) : Calls Try.prog 45 #[.int .u8 (c.toNat : Int)] w fun e w' => e = .returned (.int .i64 (digitS c)) ∧ w = w' := by
  have hf : (foldN c : Int) = (c.toNat : Int) := by unfold foldN; split <;> omega
  have HF := Lib.hid hf
  clear hf
  go_enter Try.func45, Try.ntmps45
  go_wp2
  go_loop [12] (fun i => ∃ k : Nat, k ≤ 16 ∧ i = .int .i64 k ∧ Missed c k) (fun i => 16 - (intOf i).toNat)
  case atStart => exact ⟨0, by omega, rfl, fun _ h => absurd h (Nat.not_lt_zero _)⟩
  case round =>
    obtain ⟨k, hk, rfl, hn⟩ := hrel
    have HN := Lib.hid hn
    clear hn
    by_cases hlt : k < 16
    · go_wp2
      · go_ret
        exact ⟨ret_int (digit_hit c hlt (dg_yes hlt HF.out (by assumption))).symm, rfl⟩
      · have hne := dg_no hlt HF.out (by assumption)
        go_round
        case rel => exact ⟨k + 1, by omega, by go_num, HN.out.succ hne⟩
        case measure => simp [intOf]; omega
    · go_wp2
      go_ret
      obtain rfl : k = 16 := by omega
      exact ⟨ret_int (digit_none c HN.out).symm, rfl⟩

set_option maxHeartbeats 400000 in
theorem digit_mid (c : UInt8) (w : World) (hc : 97 ≤ (c.toNat : Int)) (hc' : (c.toNat : Int) ≤ 102) : Calls Try.prog 45 #[.int .u8 (c.toNat : Int)] w fun e w' => e = .returned (.int .i64 (digitS c)) ∧ w = w' := by
  have hf : (foldN c : Int) = (c.toNat : Int) - 32 := by unfold foldN; split <;> omega
  have HF := Lib.hid hf
  clear hf
  go_enter Try.func45, Try.ntmps45
  go_wp2
  go_loop [12] (fun i => ∃ k : Nat, k ≤ 16 ∧ i = .int .i64 k ∧ Missed c k) (fun i => 16 - (intOf i).toNat)
  case atStart => exact ⟨0, by omega, rfl, fun _ h => absurd h (Nat.not_lt_zero _)⟩
  case round =>
    obtain ⟨k, hk, rfl, hn⟩ := hrel
    have HN := Lib.hid hn
    clear hn
    by_cases hlt : k < 16
    · go_wp2
      · go_ret
        exact ⟨ret_int (digit_hit c hlt (dg_yes hlt HF.out (by assumption))).symm, rfl⟩
      · have hne := dg_no hlt HF.out (by assumption)
        go_round
        case rel => exact ⟨k + 1, by omega, by go_num, HN.out.succ hne⟩
        case measure => simp [intOf]; omega
    · go_wp2
      go_ret
      obtain rfl : k = 16 := by omega
      exact ⟨ret_int (digit_none c HN.out).symm, rfl⟩

theorem digit_any (c : UInt8) (w : World) : Calls Try.prog 45 #[.int .u8 (c.toNat : Int)] w fun e w' => e = .returned (.int .i64 (digitS c)) ∧ w = w' := by
  by_cases h1 : (c.toNat : Int) < 97
  · exact digit_low c w h1
  · by_cases h2 : 102 < (c.toNat : Int)
    · exact digit_high c w h2
    · exact digit_mid c w (by omega) (by omega)
end Go.Proofs.Ythioafndepkhoaa
