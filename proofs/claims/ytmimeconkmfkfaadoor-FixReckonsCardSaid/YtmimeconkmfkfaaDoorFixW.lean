/-
  The reference: digits.
-/
import Derived.Test.YtmimeconkmfkfaaDoorFixV
import Derived.Laws.IdiomStrings
import Derived.OwnWalk
namespace Go.Proofs.YtmimeconkmfkfaaDoor
open Go.RowKit Fix

/-- The decimal digits of n, at least k of them. -/
def digitsL (n k : Nat) : List UInt8 := if n = 0 ∧ k = 0 then [] else digitsL (n / 10) (k - 1) ++ [48 + UInt8.ofNat (n % 10)]
termination_by n + k
decreasing_by omega
theorem digitsL_zero : digitsL 0 0 = [] := by rw [digitsL]; simp
theorem digitsL_more (n k : Nat) (h : 0 < n ∨ 0 < k) : digitsL n k = digitsL (n / 10) (k - 1) ++ [48 + UInt8.ofNat (n % 10)] := by rw [digitsL, if_neg (by omega)]

theorem digit_val (m : Nat) : ((48 + UInt8.ofNat (m % 10) : UInt8).toNat : Int) = 48 + (m : Int) % 10 := by
  have h : (48 + UInt8.ofNat (m % 10) : UInt8).toNat = (48 + m % 10 % 256) % 256 := by rw [UInt8.toNat_add]; simp
  omega
theorem digits_next (n least m : Nat) (t : ByteArray) (h : 0 < m ∨ 0 < least - t.size) (hinv : digitsL m (least - t.size) ++ t.data.toList = digitsL n least) :
    digitsL (m / 10) (least - (⟨#[48 + UInt8.ofNat (m % 10)]⟩ ++ t : ByteArray).size) ++ (⟨#[48 + UInt8.ofNat (m % 10)]⟩ ++ t : ByteArray).data.toList = digitsL n least := by
  rw [digitsL_more m _ h] at hinv
  rw [ByteArray.size_append, ByteArray.data_append, Array.toList_append, ← hinv, show (⟨#[48 + UInt8.ofNat (m % 10)]⟩ : ByteArray).size = 1 from rfl, show least - (1 + t.size) = least - t.size - 1 by omega, List.append_assoc]
theorem digits_size (m : Nat) (t : ByteArray) : (⟨#[48 + UInt8.ofNat (m % 10)]⟩ ++ t : ByteArray).size = 1 + t.size := by
  rw [ByteArray.size_append]; rfl
theorem digit_string (m : Nat) (wr : World) : (convert 58 9 (.slice (some ⟨wr.heap.size, 0, none⟩) 1 1)).run Tryd.prog (wr.alloc (.cells #[.int .u8 (48 + (m : Int) % 10)] 5)) =
    .ok (.string ⟨#[48 + UInt8.ofNat (m % 10)]⟩) (wr.alloc (.cells #[.int .u8 (48 + (m : Int) % 10)] 5)) := by
  refine run_convert_bytes_back _ _ _ _ ⟨wr.heap.size, 0, none⟩ 1 [48 + UInt8.ofNat (m % 10)] Tryd.underlying58 Tryd.underlying5 Tryd.underlying9 fun j hj => ?_
  have hj0 : j = 0 := by simp at hj; omega
  subst hj0
  rw [show (([48 + UInt8.ofNat (m % 10)] : List UInt8)[0]) = 48 + UInt8.ofNat (m % 10) from rfl, digit_val]
  simp [go_sem]

set_option maxHeartbeats 1600000 in
theorem digits_any (n least : Nat) (w : World) (hn : n ≤ 9000000000000000000) (_hl : least ≤ 1000) (hlen : (digitsL n least).length ≤ 100000) :
    Calls Tryd.prog 45 #[.int .i64 n, .int .i64 least] w fun e w' => e = .returned (.string ⟨(digitsL n least).toArray⟩) ∧ Below w.heap.size w w' := by
  have HL := Lib.hid hlen
  clear hlen
  go_enter Tryd.func45, Tryd.ntmps45
  go_wp2
  go_loopw [0, 5] (fun nv sv wr => ∃ (m : Nat) (t : ByteArray), nv = .int .i64 m ∧ sv = .string t ∧ m ≤ 9000000000000000000 ∧ Hid (digitsL m (least - t.size) ++ t.data.toList = digitsL n least) ∧ Below w.heap.size w wr) (fun nv sv _ => (intOf nv).toNat + (least - (match sv with | .string t => t.size | _ => 0)))
  case atStart => exact ⟨n, ⟨#[]⟩, rfl, rfl, hn, Lib.hid (by show digitsL n (least - 0) ++ [] = _; rw [List.append_nil]; rfl), Below.refl _ _⟩
  case round =>
    obtain ⟨m, t, rfl, rfl, hm, hinv, hb⟩ := hrel
    have ht : t.size ≤ 100000 := by
      have h1 := congrArg List.length hinv.out
      have h2 := HL.out
      rw [List.length_append] at h1
      have h3 : t.data.toList.length = t.size := by simp
      omega
    by_cases hz : 0 < m
    · have hz' : (0 : Int) < (m : Int) := by omega
      have hr : IntKind.i64.wrap ((m : Int).tmod 10) = ((m % 10 : Nat) : Int) := by rw [Int.tmod_eq_emod_of_nonneg (by omega), IntWalk.i64_in _ (by omega)]; omega
      have hconv := digit_string m wr
      go_wp2
      go_roundw
      case rel => exact ⟨m / 10, _, by first | rfl | go_num, rfl, by omega, Lib.hid (digits_next n least m t (by omega) hinv.out), hb.alloc hb.size _⟩
      case measure => simp only [intOf, digits_size]; omega
    · by_cases hk : t.size < least
      · obtain rfl : m = 0 := by omega
        have hk' : (t.size : Int) < (least : Int) := by omega
        have hconv : (convert 58 9 (.slice (some ⟨wr.heap.size, 0, none⟩) 1 1)).run Tryd.prog (wr.alloc (.cells #[.int .u8 48] 5)) =
            .ok (.string ⟨#[48]⟩) (wr.alloc (.cells #[.int .u8 48] 5)) := digit_string 0 wr
        have hnext : digitsL 0 (least - (⟨#[48]⟩ ++ t : ByteArray).size) ++ (⟨#[48]⟩ ++ t : ByteArray).data.toList = digitsL n least := digits_next n least 0 t (by omega) hinv.out
        have HNX := Lib.hid hnext
        have HS := Lib.hid (show (⟨#[48]⟩ ++ t : ByteArray).size = 1 + t.size from digits_size 0 t)
        clear hnext
        go_wp2
        go_roundw
        case rel => exact ⟨0, _, by first | rfl | go_num, rfl, by omega, Lib.hid HNX.out, hb.alloc hb.size _⟩
        case measure =>
          have := HS.out
          simp only [intOf]
          omega
      · obtain rfl : m = 0 := by omega
        have hk' : ¬ (t.size : Int) < (least : Int) := by omega
        have he : (⟨(digitsL n least).toArray⟩ : ByteArray) = t := by
          rw [← hinv.out, show least - t.size = 0 by omega, digitsL_zero, List.nil_append]
        have HE := Lib.hid he
        clear he hinv
        go_wp2
        go_ret
        rw [HE.out]
        exact ⟨rfl, hb⟩
end Go.Proofs.YtmimeconkmfkfaaDoor
