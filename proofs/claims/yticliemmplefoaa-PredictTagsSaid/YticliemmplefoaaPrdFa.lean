/-
  far, the sum of the absolute values of a string's bytes, as the law of the tags reckons it.
-/
import Derived.Test.YticliemmplefoaaPrdB
import Derived.Test.YticliemmplefoaaStrAt
import Derived.BigQuiet
namespace Go.Proofs.Yticliemmplefoaa
open Go.RowKit Oct Prd

set_option maxRecDepth 100000 in
set_option maxHeartbeats 4000000 in
theorem far_any (s : ByteArray) (w : World) (hs : s.size ≤ 1000000) :
    Calls Try.prog 6 #[.string s] w fun e w' => e = .returned (.int .i64 (weightR s.data.toList : Nat)) ∧ ∃ k, w' = w.drewN k := by
  obtain ⟨l, hl⟩ : ∃ l, s.data.toList = l := ⟨_, rfl⟩
  rw [hl]
  have hn : l.length = s.size := by rw [← hl]; simp
  have HL := Lib.hid hl
  have HN := Lib.hid hn
  go_enter Try.func6, Try.ntmps6
  clear hl hn
  go_wp2_with fail
  go_loopw [3, 4] (fun t i wr => ∃ k m j : Nat, k ≤ s.size ∧ i = .int .i64 (k : Int) ∧ t = .int .i64 (m : Int) ∧ Hid (m = weightR (l.take k)) ∧ Hid (wr = w.drewN j)) (fun _ i _ => s.size - (intOf i).toNat)
  case atStart => exact ⟨0, 0, 0, by omega, rfl, rfl, Lib.hid rfl, Lib.hid rfl⟩
  case round =>
    obtain ⟨k, m, j, hk, rfl, rfl, HM, HW⟩ := hrel
    have hmb : m ≤ 128 * s.size := by
      rw [HM.out]
      have := weightR_le (l.take k)
      rw [List.length_take] at this
      omega
    by_cases hlt : k < s.size
    · have hkl : k < l.length := by rw [HN.out]; exact hlt
      obtain ⟨d, hd⟩ : ∃ d : UInt8, s[k] = d := ⟨_, rfl⟩
      have hd2 : l[k] = d := by
        rw [← hd]
        simp only [← HL.out]
        rfl
      obtain ⟨d1, d2⟩ := byteR d
      obtain ⟨q, hq⟩ : ∃ q, absB d = q := ⟨_, rfl⟩
      have hq2 : min (d.toNat : Int) (256 - (d.toNat : Int)) = (q : Int) := by rw [← hq]; exact (absB_int d).symm
      have hqb : q ≤ 128 := by rw [← hq]; exact absB_le d
      have HS := Lib.hid (show m + q = weightR (l.take (k + 1)) by rw [weight_step l k hkl, ← HM.out, hd2, hq])
      have hw1 : IntKind.i64.wrap (256 - (d.toNat : Int)) = 256 - (d.toNat : Int) := IntWalk.i64_in _ (by omega)
      have hw2 : IntKind.i64.wrap ((m : Int) + (q : Int)) = (m : Int) + (q : Int) := IntWalk.i64_in _ (by omega)
      clear hd2 hq
      go_wp2_with fail
      go_quiet (fail)
      all_goals
        go_wp2_with fail
        go_roundw
        case rel => exact ⟨k + 1, m + q, j + nq, by omega, by go_num, by congr 1; omega, HS, Lib.hid (by rw [HW.out]; exact (World.drewN_drewN w j nq))⟩
        case measure => simp [intOf]; omega
    · obtain rfl : k = s.size := by omega
      have HE := Lib.hid (show m = weightR l by rw [HM.out, List.take_of_length_le (by rw [HN.out]; exact Nat.le_refl _)])
      go_wp2_with fail
      go_ret
      exact ⟨by rw [← HE.out]; rfl, j, HW.out⟩
end Go.Proofs.Yticliemmplefoaa
