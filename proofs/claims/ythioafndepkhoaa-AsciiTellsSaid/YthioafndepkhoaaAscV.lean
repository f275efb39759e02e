/-
  The document's Hex.
-/
import Derived.Test.YthioafndepkhoaaAscU
namespace Go.Proofs.Ythioafndepkhoaa
open Go.RowKit Oct

set_option maxRecDepth 100000 in
set_option maxHeartbeats 800000 in
theorem hexR_r (s : ByteArray) (w : World) (hs : s.size ≤ 4000000000) :
    Calls Try.prog 27 #[.string s] w fun e w' => e = .returned (.string (hexB s)) ∧ Below w.heap.size w w' := by
  obtain ⟨i5, hi, hz0, hz1, hz2⟩ := info_parts info5
  go_enter Try.func27, Try.ntmps27
  go_wp2_with fail
  go_loopw [4, 5] (fun v i wr => ∃ k : Nat, k ≤ s.size ∧ i = .int .i64 k ∧ wr.ownsRow w.heap.size 5 1 v (2 * k) (cellsOf (hexS (s.data.toList.take k))) ∧ Below w.heap.size w wr) (fun _ i _ => s.size - (intOf i).toNat)
  case atStart => exact ⟨0, by omega, rfl, World.ownsRow_nil _ _ _ _, Below.refl _ _⟩
  case round =>
    obtain ⟨k, hk, rfl, hown, hb⟩ := hrel
    by_cases hlt : k < s.size
    · have hq0 : 0 ≤ (s[k].toNat : Int) / 16 := by omega
      have hq1 : (s[k].toNat : Int) / 16 < 16 := by have := s[k].toNat_lt; omega
      have hr0 : 0 ≤ (s[k].toNat : Int) % 16 := by omega
      have hr1 : (s[k].toNat : Int) % 16 < 16 := by omega
      have hwq : IntKind.u8.wrap ((s[k].toNat : Int) / 16) = (s[k].toNat : Int) / 16 := by rw [IntKind.wrap_u8]; omega
      have hwr : ((s[k].toNat : Int)).tmod 16 = (s[k].toNat : Int) % 16 := Int.tmod_eq_emod_of_nonneg (by omega)
      go_wp2_with fail
      go_region_held3 (fun _ => True) (first | exact trivial)
        ((refine step_append_lies _ (by rfl) _ _ _ (by rfl) w.heap.size 5 i5 _ 1 1 Try.underlying30 hi hz0 hz1 hz2 rfl (by omega) u4 (2 * k) (cellsOf (hexS (s.data.toList.take k))) (by rfl) ((hown.alloc _).drew)
              ⟨wr.heap.size, 0, none⟩ 2 2 [.int .u8 ((dgA[s[k].toNat / 16]'(by have := s[k].toNat_lt; show _ < 16; omega)).toNat : Int), .int .u8 ((dgA[s[k].toNat % 16]'(by show _ < 16; omega)).toNat : Int)] (by rfl) (by rfl) (World.news_of_block (heap_alloc_new wr _)) (by simp [Value.oneCell'])
              (by omega) (by unfold maxLen; omega) (by omega) (by have := hb.size; simp; omega) (wr.heap.size + 1) (by simp) ?_; intro gg cap w2 hown2 hgrow2 hat hlt2))
      all_goals
        go_wp2
        have hmore := hex_cells s k hlt
        go_roundw
        case rel =>
          refine ⟨k + 1, by omega, by go_num, ?_, ?_⟩
          · rw [hmore, show 2 * (k + 1) = 2 * k + 2 from by omega]
            exact hown2
          · exact (((hb.alloc hb.size _).drew).grown hgrow2 (by have := hb.size; simp; omega) (fun g h => (hown.lt g h).1))
        case measure => simp [intOf]; omega
    · obtain rfl : k = s.size := by omega
      have hown' := hown
      rw [List.take_of_length_le (by simp)] at hown'
      have hconv := run_string_of_own hown' (by rw [hexS_length, size_len])
      clear hown hown'
      go_wp2
      go_ret
      exact ⟨rfl, hb⟩

theorem aschexR_any (s : ByteArray) (w : World) (hs : s.size ≤ 4000000) :
    Calls Try.prog 12 #[.string s] w fun e w' => e = .returned (.string (hexB s ++ ⟨#[62]⟩)) ∧ Below w.heap.size w w' := by
  obtain ⟨X, hX⟩ : ∃ X, hexB s = X := ⟨_, rfl⟩
  have hXs : X.size ≤ 8000000 := by
    have : X.data.toList = hexS s.data.toList := by rw [← hX]; rfl
    have e : X.size = X.data.toList.length := by simp
    have e2 : s.data.toList.length = s.size := by simp
    rw [e, this, hexS_length, e2]
    omega
  have HC := Lib.hid (fun W : World => hX ▸ hexR_r s W (by omega))
  rw [hX]
  clear hX
  go_enter Try.func12, Try.ntmps12
  go_wp2_with fail
  refine (HC.out _).mono ?_
  rintro e w' ⟨rfl, hb⟩
  go_wp2_with fail
  go_ret
  exact ⟨rfl, hb⟩
end Go.Proofs.Ythioafndepkhoaa
