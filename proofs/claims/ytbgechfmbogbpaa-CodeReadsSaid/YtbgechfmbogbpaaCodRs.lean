/-
  code, the document's: Bit, place.
-/
import Derived.Test.YtbgechfmbogbpaaCodRa
import Derived.Test.YtbgechfmbogbpaaBitC
namespace Go.Proofs.Ytbgechfmbogbpaa
open Go.RowKit Bt Cod

set_option maxRecDepth 100000 in
theorem bit10_no (s : ByteArray) (a : Nat) (w : World) (h1 : 8 * s.size ≤ a) (ha : a ≤ 1000000000000) (hs : s.size ≤ 1000000) :
    Calls Try.prog 44 #[.string s, .int .i64 (a : Int)] w fun e w' => e = .returned (.int .i64 (-1)) ∧ w = w' := by
  have d0 : ¬ (a : Int) < 0 := by omega
  have d1 : (s.size : Int) ≤ (a : Int) / 8 := by omega
  have d3 : IntKind.i64.wrap ((a : Int) / 8) = (a : Int) / 8 := IntWalk.i64_in _ (by omega)
  go_enter Try.func44, Try.ntmps44
  go_wp2_with fail
  go_ret
  exact ⟨rfl, rfl⟩

set_option maxRecDepth 100000 in
set_option maxHeartbeats 1000000 in
theorem bit10_ok (s : ByteArray) (a : Nat) (w : World) (h1 : a < 8 * s.size) (hs : s.size ≤ 1000000) :
    Calls Try.prog 44 #[.string s, .int .i64 (a : Int)] w fun e w' => e = .returned (.int .i64 ((bitN 1 s.data.toList a : Nat) : Int)) ∧ ∃ k, w' = w.drewN k := by
  have g0 : ¬ (a : Int) < 0 := by omega
  have g1 : ¬ (s.size : Int) ≤ (a : Int) / 8 := by omega
  have d0 : (0 : Int) ≤ (a : Int) / 8 := by omega
  have d1 : (a : Int) / 8 < (s.size : Int) := by omega
  have d2 : ((a : Int) / 8).toNat = a / 8 := by omega
  have d3 : IntKind.i64.wrap ((a : Int) / 8) = (a : Int) / 8 := IntWalk.i64_in _ (by omega)
  have HB := Lib.hid (fun W : World => bits10 (a % 8) (by omega) W)
  have d4 : ((a % 8 : Nat) : Int) = (a : Int) % 8 := by omega
  rw [d4] at HB
  have hp : 0 < 2 ^ (a % 8) := Nat.two_pow_pos _
  have hp2 : 2 ^ (a % 8) ≤ 128 := Nat.le_trans (Nat.pow_le_pow_right (by decide) (show a % 8 ≤ 7 by omega)) (by decide)
  have HV := Lib.hid (show bitN 1 s.data.toList a = byt s.data.toList (a / 8) / 2 ^ (a % 8) % 2 from rfl)
  obtain ⟨p, hpp⟩ : ∃ p, 2 ^ (a % 8) = p := ⟨_, rfl⟩
  rw [hpp] at HB HV hp hp2
  have hp0 : ¬ (p : Int) = 0 := by omega
  have hp1 : (0 : Int) < (p : Int) := by omega
  have hp3 : (p : Int) ≤ 128 := by omega
  clear hpp d4
  go_enter Try.func44, Try.ntmps44
  go_wp2_with fail
  go_quiet ((go_at_call 36; exact Calls.quiet_of_same (same_q (HB.out _))))
  go_wp2
  go_ret
  refine ⟨ret_int ?_, _, rfl⟩
  have hc : s[a / 8].toNat < 256 := UInt8.toNat_lt _
  have e1 : byt s.data.toList (a / 8) = s[a / 8].toNat := byt_at s (a / 8) (by omega)
  rw [HV.out, e1]
  generalize s[a / 8].toNat = c at hc
  rw [w64 (c : Int) (by omega)]
  have e2 : (c : Int).tdiv (p : Int) = ((c / p : Nat) : Int) := by rw [Int.tdiv_eq_ediv_of_nonneg (by omega), Int.natCast_ediv]
  have e3 : c / p ≤ c := Nat.div_le_self _ _
  rw [e2]
  clear e2
  generalize c / p = q at e3
  rw [w64 _ (by omega), Int.tmod_eq_emod_of_nonneg (by omega)]
  omega

/-! ### place. -/
set_option maxRecDepth 100000 in
set_option maxHeartbeats 4000000 in
/-- The symbol of length m whose rank is r. -/
theorem place10 (A : Option Addr) (cap : Nat) (l : List Int) (m r : Nat) (w : World) (h : IAt w A l) (hr : rangeOk l = true) (hl : l.length ≤ 288) (hm : 0 < m) (_hm2 : m ≤ 15) (hrk : r < tl l m) :
    Calls Try.prog 45 #[.slice A l.length cap, .int .i64 (m : Int), .int .i64 (r : Int)] w fun e w' => e = .returned (.int .i64 ((signsL l).getD (totK l m + r) 0)) ∧ w = w' := by
  have HA := Lib.hid h
  have HP := Lib.hid (show ∀ i (hi : i < l.length), l[i] = (m : Int) → tl (l.take i) m = r → (signsL l).getD (totK l m + r) 0 = (i : Int) from fun i hi h0 h1 => place_is l hr hi h0 hm h1)
  have HH := Lib.hid (show ∀ k (hk : k < l.length), l[k] = (m : Int) → tl (l.take (k + 1)) m = tl (l.take k) m + 1 from fun k hk h0 => tl_hit l hk h0 hm)
  have HM := Lib.hid (show ∀ k (hk : k < l.length), l[k] ≠ (m : Int) → tl (l.take (k + 1)) m = tl (l.take k) m from fun k hk h0 => tl_miss l hk h0)
  have HE := Lib.hid (show r < tl (l.take l.length) m by rw [List.take_length]; exact hrk)
  have HZ := Lib.hid (show tl (l.take 0) m = 0 from by rw [List.take_zero]; exact tl_nil m)
  obtain ⟨z, hz⟩ : ∃ z, (signsL l).getD (totK l m + r) 0 = z := ⟨_, rfl⟩
  rw [hz] at HP ⊢
  obtain ⟨n, hn⟩ : ∃ n, l.length = n := ⟨_, rfl⟩
  have HN := Lib.hid hn
  rw [hn] at HE ⊢
  have hnb : (n : Int) ≤ 288 := by omega
  have hrb : r ≤ 288 := by have := tl_le l m; omega
  clear h hr hl hn hz hrk
  go_enter Try.func45, Try.ntmps45
  go_wp2_with fail
  go_loopw [2, 7] (fun av iv wr => ∃ k j : Nat, k ≤ n ∧ j ≤ r ∧ tl (l.take k) m + j = r ∧ av = .int .i64 (j : Int) ∧ iv = .int .i64 (k : Int) ∧ Hid (w = wr)) (fun _ iv _ => n - (intOf iv).toNat)
  case atStart => exact ⟨0, r, by omega, by omega, by rw [HZ.out]; omega, rfl, rfl, Lib.hid rfl⟩
  case round =>
    obtain ⟨k, j, hk, hjr, hkj, rfl, rfl, HW⟩ := hrel
    by_cases hlt : k < n
    · have hkl : k < l.length := by rw [HN.out]; exact hlt
      have hik : (k : Int) < (n : Int) := by omega
      have hik0 : (0 : Int) ≤ (k : Int) := by omega
      obtain ⟨b, off, rfl, _, c0⟩ := HA.out k hkl
      rw [HW.out] at c0
      by_cases hx : l[k] = (m : Int)
      · rw [hx] at c0
        by_cases hj : j = 0
        · subst hj
          have HZ2 := Lib.hid (HP.out k hkl hx (by omega))
          clear hx hkj
          go_wp2_with fail
          go_ret
          exact ⟨by rw [HZ2.out] <;> rfl, HW.out⟩
        · have hT := HH.out k hkl hx
          have HK := Lib.hid (show tl (l.take (k + 1)) m + (j - 1) = r by omega)
          have hj0 : ¬ (j : Int) = 0 := by omega
          have hj1 : ((j : Int) == 0) = false := by simpa using hj0
          have hjI : (j : Int) ≤ 288 := by omega
          have hjP : (0 : Int) < (j : Int) := by omega
          have HJ := Lib.hid (show ((j - 1 : Nat) : Int) = (j : Int) - 1 by omega)
          clear hx hT hkj
          go_wp2_with fail
          go_roundw
          case rel => exact ⟨k + 1, j - 1, by omega, by omega, HK.out, by rw [HJ.out] <;> rfl, by go_num, HW⟩
          case measure => simp [intOf]; omega
      · have hT := HM.out k hkl hx
        have HK := Lib.hid (show tl (l.take (k + 1)) m + j = r by omega)
        obtain ⟨x, hxx⟩ : ∃ x, l[k] = x := ⟨_, rfl⟩
        rw [hxx] at c0 hx
        clear hxx hT hkj
        go_wp2_with fail
        go_roundw
        case rel => exact ⟨k + 1, j, by omega, by omega, HK.out, rfl, by go_num, HW⟩
        case measure => simp [intOf]; omega
    · obtain rfl : k = n := by omega
      exact absurd HE.out (by omega)
end Go.Proofs.Ytbgechfmbogbpaa
