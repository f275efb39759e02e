/-
  Walks of OctetSkips, by where Skip and Line stop.
-/
import Derived.Test.YtbpmfkikkocbhabOctSm
namespace Go.Proofs.Ytbpmfkikkocbhab
open Go.RowKit Oct

set_option maxRecDepth 100000 in
set_option maxHeartbeats 4000000 in
theorem skips_LE (s r : ByteArray) (a K M : Nat) (w : World) (hs : s.size ≤ 3000) (hr : r.size ≤ 300) (ha : a ≤ s.size) (hm : MaxLenAt w)
    (hK : skipS s.data.toList a = (K : Int)) (hK1 : a ≤ K) (hKK : skipS s.data.toList K = (K : Int)) (hK2 : K < s.size) (hKw : whiteS s[K] = false) (hKc : ((s[K].toNat : Int) == 37) = false)
    (hM : lineS s.data.toList a = (M : Int)) (hM1 : a ≤ M) (hM2 : M = s.size) :
    Calls Try.prog 5 #[.string s, .string r, .int .i64 a] w fun e w' => e = .returned (.bool true) ∧ Below w.heap.size w w' := by
  have HK := Lib.hid hK
  have HKK := Lib.hid hKK
  have HM := Lib.hid hM
  have hd : decide (s.size < a) = false := by simp; omega
  clear hK hKK hM
  have hM3 : M ≤ s.size := by omega
  have hM4 : s.size ≤ M := by omega
  clear hM2
  go_enter Try.func5, Try.ntmps5
  go_wp2_with fail
  refine (lives_any _ hm).mono ?_
  rintro e w1 ⟨rfl, hb1⟩
  clear hm
  go_wp2_with fail
  go_loop [7] (fun v => ∃ i : Nat, i ≤ r.size ∧ v = .int .i64 i ∧ Plain r i) (fun v => r.size - (intOf v).toNat)
  case atStart => exact ⟨0, by omega, rfl, fun _ h => absurd h (Nat.not_lt_zero _)⟩
  case round =>
    obtain ⟨i, hi, rfl, hn⟩ := hrel
    have HN := Lib.hid hn
    clear hn
    by_cases hlt : i < r.size
    · go_wp2_with fail
      · go_ret
        exact ⟨rfl, hb1⟩
      · go_ret
        exact ⟨rfl, hb1⟩
      · have hnn := HN.out.succ hlt (by assumption) (by assumption)
        go_round
        case rel => exact ⟨i + 1, by omega, by go_num, hnn⟩
        case measure => simp [intOf]; omega
    · obtain rfl : i = r.size := by omega
      go_wp2_with fail
      refine (skip_c s a K _ (by omega) HK.out).mono ?_
      rintro e w' ⟨rfl, rfl⟩
      go_wp2_with fail
      refine (skip_c s K K _ (by omega) HKK.out).mono ?_
      rintro e w' ⟨rfl, rfl⟩
      go_wp2_with (go_at_call 10; refine (white_any _ _).mono ?_; rintro e w' ⟨rfl, rfl⟩)
      refine (line_c s a M _ (by omega) HM.out).mono ?_
      rintro e w' ⟨rfl, rfl⟩
      go_wp2_with fail
      refine (skip_c (aheadOf r (s.extract a s.size)) 0 (1 + (r.size : Int) + 1 + (K : Int) - (a : Int)) _ (by rw [ahead_size, ByteArray.size_extract]; omega) (ahead_skip r s ha HN.out HK.out)).mono ?_
      rintro e w' ⟨rfl, rfl⟩
      go_wp2_with fail
      refine (line_c (aheadOf r s) 0 (1 + (r.size : Int) + 1) _ (by rw [ahead_size]; omega) (ahead_line r s HN.out)).mono ?_
      rintro e w' ⟨rfl, rfl⟩
      go_wp2_with fail
      go_ret
      exact ⟨rfl, hb1⟩

set_option maxRecDepth 100000 in
set_option maxHeartbeats 4000000 in
theorem skips_LR (s r : ByteArray) (a K M : Nat) (w : World) (hs : s.size ≤ 3000) (hr : r.size ≤ 300) (ha : a ≤ s.size) (hm : MaxLenAt w)
    (hK : skipS s.data.toList a = (K : Int)) (hK1 : a ≤ K) (hKK : skipS s.data.toList K = (K : Int)) (hK2 : K < s.size) (hKw : whiteS s[K] = false) (hKc : ((s[K].toNat : Int) == 37) = false)
    (hM : lineS s.data.toList a = (M : Int)) (hM1 : a ≤ M) (hM2 : M < s.size) (hM3 : a < M) (hMb : M - 1 < s.size) (hMc : (((s[M - 1]'hMb).toNat : Int) == 13) = true) :
    Calls Try.prog 5 #[.string s, .string r, .int .i64 a] w fun e w' => e = .returned (.bool true) ∧ Below w.heap.size w w' := by
  have HK := Lib.hid hK
  have HKK := Lib.hid hKK
  have HM := Lib.hid hM
  have hd : decide (s.size < a) = false := by simp; omega
  clear hK hKK hM
  have hMt : ((M : Int) - 1).toNat = M - 1 := by omega
  have hMe : ((M : Int) == (a : Int)) = false := by rw [beq_eq_false_iff_ne]; omega
  have hMx : (((s[M - 1]'hMb).toNat : Int) != 13) = false := by rw [bne, hMc]; rfl
  go_enter Try.func5, Try.ntmps5
  go_wp2_with fail
  refine (lives_any _ hm).mono ?_
  rintro e w1 ⟨rfl, hb1⟩
  clear hm
  go_wp2_with fail
  go_loop [7] (fun v => ∃ i : Nat, i ≤ r.size ∧ v = .int .i64 i ∧ Plain r i) (fun v => r.size - (intOf v).toNat)
  case atStart => exact ⟨0, by omega, rfl, fun _ h => absurd h (Nat.not_lt_zero _)⟩
  case round =>
    obtain ⟨i, hi, rfl, hn⟩ := hrel
    have HN := Lib.hid hn
    clear hn
    by_cases hlt : i < r.size
    · go_wp2_with fail
      · go_ret
        exact ⟨rfl, hb1⟩
      · go_ret
        exact ⟨rfl, hb1⟩
      · have hnn := HN.out.succ hlt (by assumption) (by assumption)
        go_round
        case rel => exact ⟨i + 1, by omega, by go_num, hnn⟩
        case measure => simp [intOf]; omega
    · obtain rfl : i = r.size := by omega
      go_wp2_with fail
      refine (skip_c s a K _ (by omega) HK.out).mono ?_
      rintro e w' ⟨rfl, rfl⟩
      go_wp2_with fail
      refine (skip_c s K K _ (by omega) HKK.out).mono ?_
      rintro e w' ⟨rfl, rfl⟩
      go_wp2_with (go_at_call 10; refine (white_any _ _).mono ?_; rintro e w' ⟨rfl, rfl⟩)
      refine (line_c s a M _ (by omega) HM.out).mono ?_
      rintro e w' ⟨rfl, rfl⟩
      go_wp2_with fail
      refine (skip_c (aheadOf r (s.extract a s.size)) 0 (1 + (r.size : Int) + 1 + (K : Int) - (a : Int)) _ (by rw [ahead_size, ByteArray.size_extract]; omega) (ahead_skip r s ha HN.out HK.out)).mono ?_
      rintro e w' ⟨rfl, rfl⟩
      go_wp2_with fail
      refine (line_c (aheadOf r s) 0 (1 + (r.size : Int) + 1) _ (by rw [ahead_size]; omega) (ahead_line r s HN.out)).mono ?_
      rintro e w' ⟨rfl, rfl⟩
      go_wp2_with fail
      go_ret
      exact ⟨rfl, hb1⟩

set_option maxRecDepth 100000 in
set_option maxHeartbeats 4000000 in
theorem skips_LN (s r : ByteArray) (a K M : Nat) (w : World) (hs : s.size ≤ 3000) (hr : r.size ≤ 300) (ha : a ≤ s.size) (hm : MaxLenAt w)
    (hK : skipS s.data.toList a = (K : Int)) (hK1 : a ≤ K) (hKK : skipS s.data.toList K = (K : Int)) (hK2 : K < s.size) (hKw : whiteS s[K] = false) (hKc : ((s[K].toNat : Int) == 37) = false)
    (hM : lineS s.data.toList a = (M : Int)) (hM1 : a ≤ M) (hM2 : M < s.size) (hM3 : a < M) (hMb : M - 1 < s.size) (hMd : (((s[M - 1]'hMb).toNat : Int) == 13) = false) (hMc : (((s[M - 1]'hMb).toNat : Int) == 10) = true) :
    Calls Try.prog 5 #[.string s, .string r, .int .i64 a] w fun e w' => e = .returned (.bool true) ∧ Below w.heap.size w w' := by
  have HK := Lib.hid hK
  have HKK := Lib.hid hKK
  have HM := Lib.hid hM
  have hd : decide (s.size < a) = false := by simp; omega
  clear hK hKK hM
  have hMt : ((M : Int) - 1).toNat = M - 1 := by omega
  have hMe : ((M : Int) == (a : Int)) = false := by rw [beq_eq_false_iff_ne]; omega
  have hMx : (((s[M - 1]'hMb).toNat : Int) != 13) = true := by rw [bne, hMd]; rfl
  have hMy : (((s[M - 1]'hMb).toNat : Int) != 10) = false := by rw [bne, hMc]; rfl
  go_enter Try.func5, Try.ntmps5
  go_wp2_with fail
  refine (lives_any _ hm).mono ?_
  rintro e w1 ⟨rfl, hb1⟩
  clear hm
  go_wp2_with fail
  go_loop [7] (fun v => ∃ i : Nat, i ≤ r.size ∧ v = .int .i64 i ∧ Plain r i) (fun v => r.size - (intOf v).toNat)
  case atStart => exact ⟨0, by omega, rfl, fun _ h => absurd h (Nat.not_lt_zero _)⟩
  case round =>
    obtain ⟨i, hi, rfl, hn⟩ := hrel
    have HN := Lib.hid hn
    clear hn
    by_cases hlt : i < r.size
    · go_wp2_with fail
      · go_ret
        exact ⟨rfl, hb1⟩
      · go_ret
        exact ⟨rfl, hb1⟩
      · have hnn := HN.out.succ hlt (by assumption) (by assumption)
        go_round
        case rel => exact ⟨i + 1, by omega, by go_num, hnn⟩
        case measure => simp [intOf]; omega
    · obtain rfl : i = r.size := by omega
      go_wp2_with fail
      refine (skip_c s a K _ (by omega) HK.out).mono ?_
      rintro e w' ⟨rfl, rfl⟩
      go_wp2_with fail
      refine (skip_c s K K _ (by omega) HKK.out).mono ?_
      rintro e w' ⟨rfl, rfl⟩
      go_wp2_with (go_at_call 10; refine (white_any _ _).mono ?_; rintro e w' ⟨rfl, rfl⟩)
      refine (line_c s a M _ (by omega) HM.out).mono ?_
      rintro e w' ⟨rfl, rfl⟩
      go_wp2_with fail
      refine (skip_c (aheadOf r (s.extract a s.size)) 0 (1 + (r.size : Int) + 1 + (K : Int) - (a : Int)) _ (by rw [ahead_size, ByteArray.size_extract]; omega) (ahead_skip r s ha HN.out HK.out)).mono ?_
      rintro e w' ⟨rfl, rfl⟩
      go_wp2_with fail
      refine (line_c (aheadOf r s) 0 (1 + (r.size : Int) + 1) _ (by rw [ahead_size]; omega) (ahead_line r s HN.out)).mono ?_
      rintro e w' ⟨rfl, rfl⟩
      go_wp2_with fail
      go_ret
      exact ⟨rfl, hb1⟩
end Go.Proofs.Ytbpmfkikkocbhab
