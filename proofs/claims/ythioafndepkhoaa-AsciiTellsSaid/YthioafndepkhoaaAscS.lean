/-
  The document's alike.
-/
import Derived.Test.YthioafndepkhoaaAscR
namespace Go.Proofs.Ythioafndepkhoaa
open Go.RowKit Oct Asc Go.Shelf

theorem alike_stop {s : ByteArray} {a n : Nat} (ha : a < s.size) (h1 : 1 ≤ n) (hn : a + n ≤ s.size) (hn2 : n ≤ 128) (hall : ∀ j, j < n → ∀ h : a + j < s.size, s[a + j] = s[a]) (hstop : n = 128 ∨ a + n = s.size ∨ ∃ h : a + n < s.size, s[a + n] ≠ s[a]) : eqN (s.data.toList.drop a) = n := by
  have hl : s.data.toList.length = s.size := by simp
  have hd : (s.data.toList.drop a).length = s.size - a := by rw [List.length_drop, hl]
  have hat : ∀ j (hj : j < (s.data.toList.drop a).length), (s.data.toList.drop a)[j] = s[a + j]'(by omega) := fun j hj => by
    rw [List.getElem_drop]
    rfl
  refine eqN_at h1 (by rw [hd]; omega) (by rw [hd]; omega) (fun j hj hk => ?_) ?_
  · rw [hat j hj, hat 0 (by omega)]
    exact hall j hk (by omega)
  · rcases hstop with h | h | ⟨h, h2⟩
    · exact .inl (by rw [hd]; omega)
    · exact .inl (by rw [hd]; omega)
    · refine .inr ⟨by rw [hd]; omega, ?_⟩
      rw [hat n (by omega), hat 0 (by omega)]
      exact h2

set_option maxRecDepth 100000 in
set_option maxHeartbeats 4000000 in
theorem alike_in (s : ByteArray) (a : Nat) (w : World) (ha : a < s.size) (hs2 : s.size ≤ 4000000000) :
    Calls Try.prog 32 #[.string s, .int .i64 (a : Int)] w fun e w' => e = .returned (.int .i64 (eqN (s.data.toList.drop a) : Nat)) ∧ ∃ k, w' = w.drewN k := by
  have a0 : (0 : Int) ≤ (a : Int) := by omega
  have a1 : (a : Int) < (s.size : Int) := by omega
  go_enter Try.func32, Try.ntmps32
  go_wp2_with fail
  go_loopw [5] (fun i wr => ∃ k d : Nat, k ≤ 128 ∧ a + k ≤ s.size ∧ i = .int .i64 (k : Int) ∧ Hid (∀ j, j < k → ∀ h : a + j < s.size, s[a + j] = s[a]) ∧ wr = w.drewN d) (fun i _ => 128 - (intOf i).toNat)
  case atStart => exact ⟨0, 0, by omega, by omega, rfl, Lib.hid (fun j hj => by omega), rfl⟩
  case round =>
    obtain ⟨k, d, h1, hk, rfl, HJ, rfl⟩ := hrel
    by_cases h128 : k < 128
    · have i0 : (k : Int) < 128 := by omega
      by_cases hlt : a + k < s.size
      · have i1 : (a : Int) + (k : Int) < (s.size : Int) := by omega
        have i2 : (0 : Int) ≤ (a : Int) + (k : Int) := by omega
        by_cases he : s[a + k] = s[a]
        · have he' : ((s[a + k].toNat : Int) == (s[a].toNat : Int)) = true := by rw [he]; simp
          have HE := Lib.hid he
          clear he
          go_wp2_with fail
          go_quiet (fail)
          go_wp2_with fail
          go_roundw
          case rel => exact ⟨k + 1, d + nq, by omega, by omega, by go_num, Lib.hid (fun j hj h => by
            by_cases e : j = k
            · subst e; exact HE.out
            · exact HJ.out j (by omega) h), rfl⟩
          case measure => simp [intOf]; omega
        · have he' : ((s[a + k].toNat : Int) == (s[a].toNat : Int)) = false := by
            refine beq_eq_false_iff_ne.2 fun e => he ?_
            apply UInt8.toNat_inj.1
            omega
          have hk1 : 1 ≤ k := by
            rcases Nat.eq_zero_or_pos k with h | h
            · subst h; exact absurd rfl he
            · exact h
          have HE := Lib.hid (alike_stop ha hk1 hk h1 HJ.out (.inr (.inr ⟨hlt, he⟩)))
          clear he
          go_wp2_with fail
          go_quiet (fail)
          go_wp2_with fail
          go_ret
          exact ⟨by rw [HE.out]; rfl, d + nq, World.drewN_drewN w d nq⟩
      · have i1 : decide ((a : Int) + (k : Int) < (s.size : Int)) = false := decide_eq_false (by omega)
        have HE := Lib.hid (alike_stop ha (by omega) hk h1 HJ.out (.inr (.inl (by omega))))
        go_wp2_with fail
        go_quiet (fail)
        go_wp2_with fail
        go_ret
        exact ⟨by rw [HE.out]; rfl, d + nq, World.drewN_drewN w d nq⟩
    · have i0 : decide ((k : Int) < 128) = false := decide_eq_false (by omega)
      have HE := Lib.hid (alike_stop ha (by omega) hk h1 HJ.out (.inl (by omega)))
      go_wp2_with fail
      go_quiet (fail)
      go_wp2_with fail
      go_ret
      exact ⟨by rw [HE.out]; rfl, d + nq, World.drewN_drewN w d nq⟩
end Go.Proofs.Ythioafndepkhoaa
