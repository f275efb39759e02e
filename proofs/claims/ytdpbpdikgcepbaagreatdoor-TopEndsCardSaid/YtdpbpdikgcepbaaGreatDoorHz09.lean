/-
  Lemmas and walks, joined: OctT.
-/
import Derived.Test.YtdpbpdikgcepbaaGreatDoorHz04
namespace Go.Proofs.YtdpbpdikgcepbaaGreatDoor
open Go.RowKit Oct

theorem digit_rq (c : UInt8) (w : World) : Calls Tryz.prog 99 #[.int .u8 (c.toNat : Int)] w fun e w' => e = .returned (.int .i64 (digitS c)) ∧ w' = w :=
  (digit_r c w).mono fun _ _ ⟨h1, h2⟩ => ⟨h1, h2.symm⟩
theorem unhex_r_uneven (s : ByteArray) (w : World) (hs : s.size ≤ 4000000000) (hodd : s.size % 2 = 1) :
    Calls Tryz.prog 101 #[.string s] w fun e w' => e = .returned (.tuple #[.string (unhexT s), .int .i64 (unhexE s)]) ∧ Below w.heap.size w w' := by
  have HM := Lib.hid hodd
  have hq : ((s.size : Int) % 2 != 0) = true := by simp; omega
  clear hodd
  go_enter Tryz.func101, Tryz.ntmps101
  go_wp2_with fail
  go_ret2
  have h := unhexE_none (unhex_odd HM.out)
  exact ⟨ret_two h.1.symm h.2.symm, Below.refl _ _⟩

set_option maxRecDepth 100000 in
set_option maxHeartbeats 1600000 in
theorem unhex_r_even (s : ByteArray) (m : Nat) (w : World) (hs : s.size ≤ 4000000000) (hm1 : 2 * m ≤ s.size) (hm2 : s.size ≤ 2 * m) :
    Calls Tryz.prog 101 #[.string s] w fun e w' => e = .returned (.tuple #[.string (unhexT s), .int .i64 (unhexE s)]) ∧ Below w.heap.size w w' := by
  have hq : ((s.size : Int) % 2 != 0) = false := by simp; omega
  obtain ⟨i5, hi, hz0, hz1, hz2⟩ := info_parts info5
  go_enter Tryz.func101, Tryz.ntmps101
  go_wp2_with fail
  go_loopw [4, 5] (fun v i wr => ∃ k : Nat, k ≤ m ∧ i = .int .i64 (2 * (k : Int)) ∧ UnhexTo s k v wr w.heap.size ∧ Below w.heap.size w wr) (fun _ i _ => s.size - (intOf i).toNat)
  case atStart => exact ⟨0, by omega, rfl, ⟨[], rfl, rfl, World.ownsRow_nil _ _ _ _⟩, Below.refl _ _⟩
  case round =>
    obtain ⟨k, hk, rfl, ⟨l, hl, hlen, hown⟩, hb⟩ := hrel
    have HL := Lib.hid hl
    have HN := Lib.hid hlen
    clear hl hlen
    by_cases hlt : k < m
    · have hi0 : (0 : Int) ≤ 2 * (k : Int) := by omega
      have hi1 : 2 * (k : Int) < (s.size : Int) := by omega
      have hi2 : 2 * (k : Int) + 1 < (s.size : Int) := by omega
      have hi3 : (0 : Int) ≤ 2 * (k : Int) + 1 := by omega
      have hw1 : IntKind.i64.wrap (2 * (k : Int)) = 2 * (k : Int) := IntWalk.i64_in _ (by omega)
      have hw2 : IntKind.i64.wrap (2 * (k : Int) + 1) = 2 * (k : Int) + 1 := IntWalk.i64_in _ (by omega)
      have ht1 : (2 * (k : Int)).toNat = 2 * k := by omega
      have ht2 : (2 * (k : Int) + 1).toNat = 2 * k + 1 := by omega
      have d1 := digit_le (s[2 * k]'(by omega))
      have d2 := digit_le (s[2 * k + 1]'(by omega))
      have b1 : 2 * k < s.size := by omega
      have b2 : 2 * k + 1 < s.size := by omega
      have c2 : 2 * k + 1 < s.data.toList.length := by rw [size_len]; exact b2
      by_cases n1 : digitS (s[2 * k]'(by omega)) < 0
      · go_wp2
        go_quiet ((go_at_call 99; exact Calls.quiet_of_same (digit_rq _ _)))
        clear hw1 hw2
        go_wp2
        go_ret2
        have h := unhexE_none (s := s) (unhex_fail HL.out c2 (.inl n1))
        exact ⟨ret_two h.1.symm h.2.symm, below_drewN hb _⟩
      · by_cases n2 : digitS (s[2 * k + 1]'(by omega)) < 0
        · go_wp2
          go_quiet ((go_at_call 99; exact Calls.quiet_of_same (digit_rq _ _)))
          clear hw1 hw2
          go_wp2
          go_ret2
          have h := unhexE_none (s := s) (unhex_fail HL.out c2 (.inr n2))
          exact ⟨ret_two h.1.symm h.2.symm, below_drewN hb _⟩
        · have hp1 : 0 ≤ digitS (s[2 * k]'(by omega)) := by omega
          have hp2 : 0 ≤ digitS (s[2 * k + 1]'(by omega)) := by omega
          go_wp2
          go_quiet ((go_at_call 99; exact Calls.quiet_of_same (digit_rq _ _)))
          clear hw1 hw2
          have ho := World.ownsRow.alloc (w := wr.drewN nq) hown (.cells #[.int .u8 (16 * digitS (s[2 * k]'b1) + digitS (s[2 * k + 1]'b2))] 5)
          go_wp2_with (first | (at_builtin; refine wpList_append_own _ rfl _ _ 60 rfl w.heap.size 5 i5 (.int .u8 0) 1 1 Tryz.underlying60 hi hz0 hz1 hz2 rfl (by decide) _ _ _ rfl ho ⟨wr.heap.size, 0, none⟩ 1 1 [.int .u8 (16 * digitS (s[2 * k]'b1) + digitS (s[2 * k + 1]'b2))] rfl rfl (World.news_of_block (heap_alloc_new (wr.drewN nq) _)) (by simp [Value.oneCell']) (by unfold maxLen; omega) (by omega) (by have := hb.size; simp; omega) ?_))
          intro v2 w2 hown2 hgrow2
          intros
          go_wp2
          go_roundw
          case rel =>
            refine ⟨k + 1, by omega, by go_num, ⟨l ++ [pairByte (s[2 * k]'b1) (s[2 * k + 1]'b2)], unhex_more HL.out c2 hp1 hp2, by rw [List.length_append, HN.out]; rfl, ?_⟩, ?_⟩
            · rw [cellsOf_append, show cellsOf [pairByte (s[2 * k]'b1) (s[2 * k + 1]'b2)] = [.int .u8 (16 * digitS (s[2 * k]'b1) + digitS (s[2 * k + 1]'b2))] from by rw [← pairByte_int _ _ hp1 hp2]; rfl]
              exact hown2
            · exact ((below_drewN hb nq).alloc hb.size _).grown hgrow2 (by have := hb.size; simp; omega) (fun g h => (hown.lt g h).1)
          case measure => simp [intOf]; omega
    · obtain rfl : k = m := by omega
      have hconv := run_string_of_own hown HN.out
      have h := unhexE_some (s := s) (l := l) (by rw [← HL.out, List.take_of_length_le (by rw [size_len]; omega)])
      have H := Lib.hid h
      clear h hown
      go_wp2
      go_ret2
      exact ⟨ret_two H.out.1.symm H.out.2.symm, hb⟩

theorem unhex_r (s : ByteArray) (w : World) (hs : s.size ≤ 4000000000) :
    Calls Tryz.prog 101 #[.string s] w fun e w' => e = .returned (.tuple #[.string (unhexT s), .int .i64 (unhexE s)]) ∧ Below w.heap.size w w' := by
  by_cases h : s.size % 2 = 1
  · exact unhex_r_uneven s w hs h
  · exact unhex_r_even s (s.size / 2) w hs (by omega) (by omega)
end Go.Proofs.YtdpbpdikgcepbaaGreatDoor
