/-
  The number of a number's bits: math/bits' Len64 and Len, and Need.
-/
import Derived.Test.YtkcnhdponcbjaaaHntA
namespace Go.Proofs.Ytkcnhdponcbjaaa
open Go.RowKit Bt Hnt

/-- The bits of the numbers of a byte. -/
def len8s : ByteArray := ⟨#[0, 1, 2, 2, 3, 3, 3, 3, 4, 4, 4, 4, 4, 4, 4, 4, 5, 5, 5, 5, 5, 5, 5, 5, 5, 5, 5, 5, 5, 5, 5, 5, 6, 6, 6, 6, 6, 6, 6, 6, 6, 6, 6, 6, 6, 6, 6, 6, 6, 6, 6, 6, 6, 6, 6, 6, 6, 6, 6, 6, 6, 6, 6, 6, 7, 7, 7, 7, 7, 7, 7, 7, 7, 7, 7, 7, 7, 7, 7, 7, 7, 7, 7, 7, 7, 7, 7, 7, 7, 7, 7, 7, 7, 7, 7, 7, 7, 7, 7, 7, 7, 7, 7, 7, 7, 7, 7, 7, 7, 7, 7, 7, 7, 7, 7, 7, 7, 7, 7, 7, 7, 7, 7, 7, 7, 7, 7, 7, 8, 8, 8, 8, 8, 8, 8, 8, 8, 8, 8, 8, 8, 8, 8, 8, 8, 8, 8, 8, 8, 8, 8, 8, 8, 8, 8, 8, 8, 8, 8, 8, 8, 8, 8, 8, 8, 8, 8, 8, 8, 8, 8, 8, 8, 8, 8, 8, 8, 8, 8, 8, 8, 8, 8, 8, 8, 8, 8, 8, 8, 8, 8, 8, 8, 8, 8, 8, 8, 8, 8, 8, 8, 8, 8, 8, 8, 8, 8, 8, 8, 8, 8, 8, 8, 8, 8, 8, 8, 8, 8, 8, 8, 8, 8, 8, 8, 8, 8, 8, 8, 8, 8, 8, 8, 8, 8, 8, 8, 8, 8, 8, 8, 8, 8, 8, 8, 8, 8, 8, 8, 8, 8, 8, 8, 8, 8, 8]⟩
theorem len8s_size : len8s.size = 256 := by decide +kernel
def tabOk : Bool := (List.range 256).all fun y => decide (len8s.data.toList.getD y 0 = UInt8.ofNat (lenB y)) && decide (lenB y ≤ 8)
theorem tabOk_yes : tabOk = true := by decide +kernel
theorem tab_at {y : Nat} (hy : y < 256) (h : y < len8s.size) : (len8s[y]'h).toNat = lenB y := by
  have h1 := tabOk_yes
  unfold tabOk at h1
  rw [List.all_eq_true] at h1
  have h2 := h1 y (List.mem_range.2 hy)
  rw [Bool.and_eq_true, decide_eq_true_eq, decide_eq_true_eq] at h2
  obtain ⟨h3, h4⟩ := h2
  have h5 : len8s[y]'h = len8s.data.toList.getD y 0 := by
    rw [List.getD_eq_getElem?_getD, List.getElem?_eq_getElem (by simpa using h)]
    rfl
  rw [h5, h3, UInt8.toNat_ofNat']
  omega
theorem fin64 {b y L : Nat} (hy : y < 256) (hb : b ≤ 56) (hL : L = b + lenB y) (h : y < len8s.size) : wrap64 ((b : Int) + wrap64 ((len8s[y]'h).toNat : Int)) = (L : Int) := by
  have h8 : lenB y ≤ 8 := lenB_le (by have : (2 : Nat) ^ 8 = 256 := rfl; omega)
  rw [tab_at hy h, IntWalk.wrap64_in (lenB y : Int) (by omega), IntWalk.wrap64_in _ (by omega)]
  omega
theorem fin64z {y L : Nat} (hy : y < 256) (hL : L = lenB y) (h : y < len8s.size) : wrap64 (wrap64 ((len8s[y]'h).toNat : Int)) = (L : Int) := by
  have h8 : lenB y ≤ 8 := lenB_le (by have : (2 : Nat) ^ 8 = 256 := rfl; omega)
  rw [tab_at hy h, IntWalk.wrap64_in (lenB y : Int) (by omega), IntWalk.wrap64_in _ (by omega), hL]

set_option maxRecDepth 100000 in
set_option maxHeartbeats 4000000 in
theorem len64_0 (x L : Nat) (w : World) (h0 : x < 18446744073709551616) (a0 : x < 4294967296) (a1 : x < 65536) (a2 : x < 256) (hy : x < 256) (hL : L = lenB x) :
    Calls Try.prog 59 #[.int .u64 (x : Int)] w fun e w' => e = .returned (.int .i64 (L : Nat)) ∧ w = w' := by
  have t0 : ¬ (4294967296 : Int) ≤ (x : Int) := by omega
  have t1 : ¬ (65536 : Int) ≤ (x : Int) := by omega
  have t2 : ¬ (256 : Int) ≤ (x : Int) := by omega
  have HL := Lib.hid hL
  have HY := Lib.hid hy
  clear hL h0 a0 a1 a2
  go_enter Try.func59, Try.ntmps59
  go_upto_region 10 with fail
  clear t0 t1 t2
  go_wp2_with fail
  go_ret
  exact ⟨ret_int (fin64z HY.out HL.out (by have := len8s_size; have := HY.out; omega)), rfl⟩

set_option maxRecDepth 100000 in
set_option maxHeartbeats 4000000 in
theorem len64_1 (x y3 L : Nat) (w : World) (h0 : x < 18446744073709551616) (a0 : x < 4294967296) (a1 : x < 65536) (a2 : 256 ≤ x) (b2 : x / 256 = y3) (hy : y3 < 256) (hL : L = 8 + lenB y3) :
    Calls Try.prog 59 #[.int .u64 (x : Int)] w fun e w' => e = .returned (.int .i64 (L : Nat)) ∧ w = w' := by
  have t0 : ¬ (4294967296 : Int) ≤ (x : Int) := by omega
  have t1 : ¬ (65536 : Int) ≤ (x : Int) := by omega
  have t2 : (256 : Int) ≤ (x : Int) := by omega
  have u2 : (x : Int) / 256 = (y3 : Int) := by omega
  have HL := Lib.hid hL
  have HY := Lib.hid hy
  clear hL h0 a0 a1 a2 b2
  go_enter Try.func59, Try.ntmps59
  go_upto_region 10 with fail
  clear t0 t1 t2 u2
  go_wp2_with fail
  go_ret
  exact ⟨ret_int (fin64 (b := 8) HY.out (by omega) HL.out (by have := len8s_size; have := HY.out; omega)), rfl⟩

set_option maxRecDepth 100000 in
set_option maxHeartbeats 4000000 in
theorem len64_2 (x y2 L : Nat) (w : World) (h0 : x < 18446744073709551616) (a0 : x < 4294967296) (a1 : 65536 ≤ x) (b1 : x / 65536 = y2) (a2 : y2 < 256) (hy : y2 < 256) (hL : L = 16 + lenB y2) :
    Calls Try.prog 59 #[.int .u64 (x : Int)] w fun e w' => e = .returned (.int .i64 (L : Nat)) ∧ w = w' := by
  have t0 : ¬ (4294967296 : Int) ≤ (x : Int) := by omega
  have t1 : (65536 : Int) ≤ (x : Int) := by omega
  have u1 : (x : Int) / 65536 = (y2 : Int) := by omega
  have t2 : ¬ (256 : Int) ≤ (y2 : Int) := by omega
  have HL := Lib.hid hL
  have HY := Lib.hid hy
  clear hL h0 a0 a1 a2 b1
  go_enter Try.func59, Try.ntmps59
  go_upto_region 10 with fail
  clear t0 t1 t2 u1
  go_wp2_with fail
  go_ret
  exact ⟨ret_int (fin64 (b := 16) HY.out (by omega) HL.out (by have := len8s_size; have := HY.out; omega)), rfl⟩

set_option maxRecDepth 100000 in
set_option maxHeartbeats 4000000 in
theorem len64_3 (x y2 y3 L : Nat) (w : World) (h0 : x < 18446744073709551616) (a0 : x < 4294967296) (a1 : 65536 ≤ x) (b1 : x / 65536 = y2) (a2 : 256 ≤ y2) (b2 : y2 / 256 = y3) (hy : y3 < 256) (hL : L = 24 + lenB y3) :
    Calls Try.prog 59 #[.int .u64 (x : Int)] w fun e w' => e = .returned (.int .i64 (L : Nat)) ∧ w = w' := by
  have t0 : ¬ (4294967296 : Int) ≤ (x : Int) := by omega
  have t1 : (65536 : Int) ≤ (x : Int) := by omega
  have u1 : (x : Int) / 65536 = (y2 : Int) := by omega
  have t2 : (256 : Int) ≤ (y2 : Int) := by omega
  have u2 : (y2 : Int) / 256 = (y3 : Int) := by omega
  have HL := Lib.hid hL
  have HY := Lib.hid hy
  clear hL h0 a0 a1 a2 b1 b2
  go_enter Try.func59, Try.ntmps59
  go_upto_region 10 with fail
  clear t0 t1 t2 u1 u2
  go_wp2_with fail
  go_ret
  exact ⟨ret_int (fin64 (b := 24) HY.out (by omega) HL.out (by have := len8s_size; have := HY.out; omega)), rfl⟩

set_option maxRecDepth 100000 in
set_option maxHeartbeats 4000000 in
theorem len64_4 (x y1 L : Nat) (w : World) (h0 : x < 18446744073709551616) (a0 : 4294967296 ≤ x) (b0 : x / 4294967296 = y1) (a1 : y1 < 65536) (a2 : y1 < 256) (hy : y1 < 256) (hL : L = 32 + lenB y1) :
    Calls Try.prog 59 #[.int .u64 (x : Int)] w fun e w' => e = .returned (.int .i64 (L : Nat)) ∧ w = w' := by
  have t0 : (4294967296 : Int) ≤ (x : Int) := by omega
  have u0 : (x : Int) / 4294967296 = (y1 : Int) := by omega
  have t1 : ¬ (65536 : Int) ≤ (y1 : Int) := by omega
  have t2 : ¬ (256 : Int) ≤ (y1 : Int) := by omega
  have HL := Lib.hid hL
  have HY := Lib.hid hy
  clear hL h0 a0 a1 a2 b0
  go_enter Try.func59, Try.ntmps59
  go_upto_region 10 with fail
  clear t0 t1 t2 u0
  go_wp2_with fail
  go_ret
  exact ⟨ret_int (fin64 (b := 32) HY.out (by omega) HL.out (by have := len8s_size; have := HY.out; omega)), rfl⟩

set_option maxRecDepth 100000 in
set_option maxHeartbeats 4000000 in
theorem len64_5 (x y1 y3 L : Nat) (w : World) (h0 : x < 18446744073709551616) (a0 : 4294967296 ≤ x) (b0 : x / 4294967296 = y1) (a1 : y1 < 65536) (a2 : 256 ≤ y1) (b2 : y1 / 256 = y3) (hy : y3 < 256) (hL : L = 40 + lenB y3) :
    Calls Try.prog 59 #[.int .u64 (x : Int)] w fun e w' => e = .returned (.int .i64 (L : Nat)) ∧ w = w' := by
  have t0 : (4294967296 : Int) ≤ (x : Int) := by omega
  have u0 : (x : Int) / 4294967296 = (y1 : Int) := by omega
  have t1 : ¬ (65536 : Int) ≤ (y1 : Int) := by omega
  have t2 : (256 : Int) ≤ (y1 : Int) := by omega
  have u2 : (y1 : Int) / 256 = (y3 : Int) := by omega
  have HL := Lib.hid hL
  have HY := Lib.hid hy
  clear hL h0 a0 a1 a2 b0 b2
  go_enter Try.func59, Try.ntmps59
  go_upto_region 10 with fail
  clear t0 t1 t2 u0 u2
  go_wp2_with fail
  go_ret
  exact ⟨ret_int (fin64 (b := 40) HY.out (by omega) HL.out (by have := len8s_size; have := HY.out; omega)), rfl⟩

set_option maxRecDepth 100000 in
set_option maxHeartbeats 4000000 in
theorem len64_6 (x y1 y2 L : Nat) (w : World) (h0 : x < 18446744073709551616) (a0 : 4294967296 ≤ x) (b0 : x / 4294967296 = y1) (a1 : 65536 ≤ y1) (b1 : y1 / 65536 = y2) (a2 : y2 < 256) (hy : y2 < 256) (hL : L = 48 + lenB y2) :
    Calls Try.prog 59 #[.int .u64 (x : Int)] w fun e w' => e = .returned (.int .i64 (L : Nat)) ∧ w = w' := by
  have t0 : (4294967296 : Int) ≤ (x : Int) := by omega
  have u0 : (x : Int) / 4294967296 = (y1 : Int) := by omega
  have t1 : (65536 : Int) ≤ (y1 : Int) := by omega
  have u1 : (y1 : Int) / 65536 = (y2 : Int) := by omega
  have t2 : ¬ (256 : Int) ≤ (y2 : Int) := by omega
  have HL := Lib.hid hL
  have HY := Lib.hid hy
  clear hL h0 a0 a1 a2 b0 b1
  go_enter Try.func59, Try.ntmps59
  go_upto_region 10 with fail
  clear t0 t1 t2 u0 u1
  go_wp2_with fail
  go_ret
  exact ⟨ret_int (fin64 (b := 48) HY.out (by omega) HL.out (by have := len8s_size; have := HY.out; omega)), rfl⟩

set_option maxRecDepth 100000 in
set_option maxHeartbeats 4000000 in
theorem len64_7 (x y1 y2 y3 L : Nat) (w : World) (h0 : x < 18446744073709551616) (a0 : 4294967296 ≤ x) (b0 : x / 4294967296 = y1) (a1 : 65536 ≤ y1) (b1 : y1 / 65536 = y2) (a2 : 256 ≤ y2) (b2 : y2 / 256 = y3) (hy : y3 < 256) (hL : L = 56 + lenB y3) :
    Calls Try.prog 59 #[.int .u64 (x : Int)] w fun e w' => e = .returned (.int .i64 (L : Nat)) ∧ w = w' := by
  have t0 : (4294967296 : Int) ≤ (x : Int) := by omega
  have u0 : (x : Int) / 4294967296 = (y1 : Int) := by omega
  have t1 : (65536 : Int) ≤ (y1 : Int) := by omega
  have u1 : (y1 : Int) / 65536 = (y2 : Int) := by omega
  have t2 : (256 : Int) ≤ (y2 : Int) := by omega
  have u2 : (y2 : Int) / 256 = (y3 : Int) := by omega
  have HL := Lib.hid hL
  have HY := Lib.hid hy
  clear hL h0 a0 a1 a2 b0 b1 b2
  go_enter Try.func59, Try.ntmps59
  go_upto_region 10 with fail
  clear t0 t1 t2 u0 u1 u2
  go_wp2_with fail
  go_ret
  exact ⟨ret_int (fin64 (b := 56) HY.out (by omega) HL.out (by have := len8s_size; have := HY.out; omega)), rfl⟩

theorem len64_any (x : Nat) (w : World) (h0 : x < 18446744073709551616) :
    Calls Try.prog 59 #[.int .u64 (x : Int)] w fun e w' => e = .returned (.int .i64 (lenB x : Nat)) ∧ w = w' := by
  have s32 : ∀ n : Nat, 4294967296 ≤ n → lenB n = 32 + lenB (n / 4294967296) := fun n h => lenB_shift (k := 32) h
  have s16 : ∀ n : Nat, 65536 ≤ n → lenB n = 16 + lenB (n / 65536) := fun n h => lenB_shift (k := 16) h
  have s8 : ∀ n : Nat, 256 ≤ n → lenB n = 8 + lenB (n / 256) := fun n h => lenB_shift (k := 8) h
  by_cases h1 : 4294967296 ≤ x
  · by_cases h2 : 65536 ≤ x / 4294967296
    · by_cases h3 : 256 ≤ x / 4294967296 / 65536
      · exact len64_7 x _ _ _ _ w h0 h1 rfl h2 rfl h3 rfl (by omega) (by rw [s32 x h1, s16 _ h2, s8 _ h3]; omega)
      · exact len64_6 x _ _ _ w h0 h1 rfl h2 rfl (by omega) (by omega) (by rw [s32 x h1, s16 _ h2]; omega)
    · by_cases h3 : 256 ≤ x / 4294967296
      · exact len64_5 x _ _ _ w h0 h1 rfl (by omega) h3 rfl (by omega) (by rw [s32 x h1, s8 _ h3]; omega)
      · exact len64_4 x _ _ w h0 h1 rfl (by omega) (by omega) (by omega) (by rw [s32 x h1])
  · by_cases h2 : 65536 ≤ x
    · by_cases h3 : 256 ≤ x / 65536
      · exact len64_3 x _ _ _ w h0 (by omega) h2 rfl h3 rfl (by omega) (by rw [s16 x h2, s8 _ h3]; omega)
      · exact len64_2 x _ _ w h0 (by omega) h2 rfl (by omega) (by omega) (by rw [s16 x h2])
    · by_cases h3 : 256 ≤ x
      · exact len64_1 x _ _ w h0 (by omega) (by omega) h3 rfl (by omega) (by rw [s8 x h3])
      · exact len64_0 x _ w h0 (by omega) (by omega) (by omega) (by omega) rfl

set_option maxHeartbeats 2000000 in
theorem len_any (x : Nat) (w : World) (h0 : x < 9223372036854775808) :
    Calls Try.prog 35 #[.int .u64 (x : Int)] w fun e w' => e = .returned (.int .i64 (lenB x : Nat)) ∧ w = w' := by
  have HC := Lib.hid (fun W : World => len64_any x W (by omega))
  obtain ⟨L, hL⟩ : ∃ L, lenB x = L := ⟨_, rfl⟩
  rw [hL] at HC ⊢
  clear hL
  go_enter Try.func35, Try.ntmps35
  go_wp2_with fail
  refine (HC.out _).mono ?_
  rintro e w' ⟨rfl, rfl⟩
  go_wp2_with fail
  go_ret
  exact ⟨rfl, rfl⟩

theorem need_any (n : Int) (w : World) (h1 : -9223372036854775808 ≤ n) (h0 : n ≤ 9223372036854775807) :
    Calls Try.prog 14 #[.int .i64 n] w fun e w' => e = .returned (.int .i64 (needN n : Nat)) ∧ w = w' := by
  by_cases hn : n ≤ 0
  · have HC := Lib.hid (fun W : World => len_any 0 W (by omega))
    have hm : max n 0 = 0 := by omega
    have HN := Lib.hid (show needN n = 0 by unfold needN; rw [show n.toNat = 0 by omega]; rfl)
    rw [HN.out]
    rw [lenB_zero] at HC
    clear h1 h0
    go_enter Try.func14, Try.ntmps14
    rcases Int.lt_or_eq_of_le hn with hlt | rfl
    all_goals
      go_wp2_with fail
      try rw [show ((0 : Nat) : Int) = 0 from rfl] at HC
      refine (HC.out _).mono ?_
      rintro e w' ⟨rfl, rfl⟩
      go_wp2_with fail
      go_ret
      exact ⟨rfl, rfl⟩
  · obtain ⟨x, rfl⟩ : ∃ x : Nat, n = (x : Int) := ⟨n.toNat, by omega⟩
    have HC := Lib.hid (fun W : World => len_any x W (by omega))
    have hm : max (x : Int) 0 = (x : Int) := by omega
    unfold needN
    rw [Int.toNat_natCast]
    obtain ⟨L, hL⟩ : ∃ L, lenB x = L := ⟨_, rfl⟩
    rw [hL] at HC ⊢
    clear hL h1
    go_enter Try.func14, Try.ntmps14
    go_wp2_with fail
    refine (HC.out _).mono ?_
    rintro e w' ⟨rfl, rfl⟩
    go_wp2_with fail
    go_ret
    exact ⟨rfl, rfl⟩
end Go.Proofs.Ytkcnhdponcbjaaa
