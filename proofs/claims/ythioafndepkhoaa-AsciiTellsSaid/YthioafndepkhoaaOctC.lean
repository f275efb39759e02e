/-
  The walk of octet's Hex: it returns what the plain function says; what it makes lies in new memory.
-/
import Derived.Test.YthioafndepkhoaaOctB
import Derived.Laws.IdiomStrings
import Derived.Laws.MakeOwn
import Derived.OwnWalk
import Derived.Lib.BufferRead
import Derived.StillTailTactics
import Derived.Deep.RegionWith
import Derived.Deep.RegionLaw
import Derived.BigQuiet
import Derived.Deep.QuietTactic
import Derived.LoopTactic
import Derived.Deep.RegionHeld3
import Derived.RegionTactic
import Derived.Deep.AppendLies
import Derived.Laws.BitsAllLaws
namespace Go.Proofs.Ythioafndepkhoaa
open Go.RowKit Oct

theorem info5 : (Try.prog.info? 5).map (fun i => (i.zero, i.size, i.bytes)) = some (some (.int .u8 0), 1, 1) := by kernel_rfl

def hexB (s : ByteArray) : ByteArray := ⟨(hexS s.data.toList).toArray⟩
def cellsOf (l : List UInt8) : List Value := l.map fun b => .int .u8 (b.toNat : Int)

theorem and15 (c : UInt8) : bits .and .u8 (c.toNat : Int) 15 = (c.toNat : Int) % 16 := by
  have h := u8_and_nat c.toNat 15 c.toNat_lt (by decide)
  have e : c.toNat &&& 15 = c.toNat % 16 := Nat.and_two_pow_sub_one_eq_mod c.toNat 4
  rw [e] at h
  rw [show ((15 : Nat) : Int) = 15 from rfl] at h
  rw [h]
  omega

theorem cellsOf_append (l m : List UInt8) : cellsOf (l ++ m) = cellsOf l ++ cellsOf m := List.map_append
theorem dg_byte (n : Nat) (h : n < 16) : (dgA[n]'h).toNat = (hexd n).toNat := by
  rw [hexd_nat n h]
  have := dgA_at n h
  omega

theorem dg_cells (c : UInt8) : cellsOf [hexd (c.toNat / 16), hexd (c.toNat % 16)] =
    [.int .u8 ((dgA[c.toNat / 16]'(by have := c.toNat_lt; show _ < 16; omega)).toNat : Int), .int .u8 ((dgA[c.toNat % 16]'(by show _ < 16; omega)).toNat : Int)] := by
  have h1 : ((hexd (c.toNat / 16)).toNat : Int) = ((dgA[c.toNat / 16]'(by have := c.toNat_lt; show _ < 16; omega)).toNat : Int) := congrArg _ (dg_byte _ (by have := c.toNat_lt; omega)).symm
  have h2 : ((hexd (c.toNat % 16)).toNat : Int) = ((dgA[c.toNat % 16]'(by show _ < 16; omega)).toNat : Int) := congrArg _ (dg_byte _ (by omega)).symm
  exact (congrArg (fun a : Int => [Value.int .u8 a, .int .u8 ((hexd (c.toNat % 16)).toNat : Int)]) h1).trans (congrArg (fun b : Int => [Value.int .u8 ((dgA[c.toNat / 16]'(by have := c.toNat_lt; show _ < 16; omega)).toNat : Int), .int .u8 b]) h2)
theorem hex_cells (s : ByteArray) (k : Nat) (h : k < s.size) : cellsOf (hexS (s.data.toList.take (k + 1))) = cellsOf (hexS (s.data.toList.take k)) ++
    [.int .u8 ((dgA[s[k].toNat / 16]'(by have := s[k].toNat_lt; show _ < 16; omega)).toNat : Int), .int .u8 ((dgA[s[k].toNat % 16]'(by show _ < 16; omega)).toNat : Int)] := by
  rw [hexS_more (l := s.data.toList) (by simpa using h), cellsOf_append]
  exact congrArg _ (dg_cells s[k])

/-- 'string(b)' of a row of the call's own. -/
theorem run_string_of_own {w : World} {base : Nat} {v : Value} {n : Nat} {l : List UInt8} (hown : w.ownsRow base 5 1 v n (cellsOf l)) (hn : l.length = n) :
    (convert 30 9 v).run Try.prog w = .ok (.string ⟨l.toArray⟩) w := by
  subst hn
  rcases hown.2 with ⟨rfl, h0⟩ | ⟨g, cap, cur, rfl, _⟩
  · have hl : l = [] := List.eq_nil_of_length_eq_zero h0
    subst hl
    exact Lib.run_convert_nil_bytes w _ _ _ 0 Try.underlying30 Try.underlying5 Try.underlying9
  · refine run_convert_bytes_back w _ _ _ ⟨g, 0, none⟩ cap l Try.underlying30 Try.underlying5 Try.underlying9 fun j hj => ?_
    exact hown.cells (g := g) rfl j _ (by simp [cellsOf, hj])

set_option maxHeartbeats 800000 in
theorem hex_any (s : ByteArray) (w : World) (hs : s.size ≤ 4000000000) :
    Calls Try.prog 26 #[.string s] w fun e w' => e = .returned (.string (hexB s)) ∧ Below w.heap.size w w' := by
  obtain ⟨i5, hi, hz0, hz1, hz2⟩ := info_parts info5
  go_enter Try.func26, Try.ntmps26
  go_wp2_with (first | (at_make; refine wpList_make_own _ rfl _ _ 30 rfl w.heap.size 5 i5 (.int .u8 0) 1 Try.underlying30 hi hz0 hz1 _ _ _ (2 * s.size) rfl rfl (by push_cast; rfl) (by rw [hz2]; omega) (by unfold maxLen; omega) (Nat.le_refl _) ?_))
  intro w1 hown hgrow
  have hb1 : Below w.heap.size w w1 := (Below.refl _ _).grown hgrow (Nat.le_refl _) (fun _ h => by cases h)
  clear hgrow
  go_wp2
  go_loopw [3, 11] (fun v i wr => ∃ k : Nat, k ≤ s.size ∧ i = .int .i64 k ∧ wr.ownsRow w.heap.size 5 1 v (2 * k) (cellsOf (hexS (s.data.toList.take k))) ∧ Below w.heap.size w wr) (fun _ i _ => s.size - (intOf i).toNat)
  case atStart => exact ⟨0, by omega, rfl, hown, hb1⟩
  case round =>
    clear hown hb1
    obtain ⟨k, hk, rfl, hown, hb⟩ := hrel
    by_cases hlt : k < s.size
    · have hq0 : 0 ≤ (s[k].toNat : Int) / 16 := by omega
      have hq1 : (s[k].toNat : Int) / 16 < 16 := by have := s[k].toNat_lt; omega
      have hr0 : 0 ≤ (s[k].toNat : Int) % 16 := by omega
      have hr1 : (s[k].toNat : Int) % 16 < 16 := by omega
      have hbit := and15 s[k]
      go_wp2
      go_region_held3 (fun _ => True) (first | exact trivial)
        ((refine step_append_lies _ (by rfl) _ _ _ (by rfl) w.heap.size 5 i5 _ 1 1 Try.underlying30 hi hz0 hz1 hz2 rfl (by omega) u3 (2 * k) (cellsOf (hexS (s.data.toList.take k))) (by rfl) ((hown.alloc _).drew)
              ⟨wr.heap.size, 0, none⟩ 2 2 [.int .u8 ((dgA[s[k].toNat / 16]'(by have := s[k].toNat_lt; show _ < 16; omega)).toNat : Int), .int .u8 ((dgA[s[k].toNat % 16]'(by show _ < 16; omega)).toNat : Int)] (by rfl) (by rfl) (World.news_of_block (heap_alloc_new wr _)) (by simp [Value.oneCell'])
              (by omega) (by unfold maxLen; omega) (by omega) (by have := hb.size; simp; omega) (wr.heap.size + 1) (by simp) ?_; intro gg cap w2 hown2 hgrow2 hat hlt2))
      all_goals
        go_wp2
        have hmore := hex_cells s k hlt
        go_roundw
        case rel =>
          refine ⟨k + 1, by omega, by go_num, ?_, ?_⟩
          · rw [hmore, show 2 * (k + 1) = 2 * k + 2 from by omega]
            exact hown2
          · exact (((hb.alloc hb.size _).drew).grown hgrow2 (by have := hb.size; simp; omega) (fun g h => (hown.lt g h).1))
        case measure => simp [intOf]; omega
    · obtain rfl : k = s.size := by omega
      have hown' := hown
      rw [List.take_of_length_le (by simp)] at hown'
      have hconv := run_string_of_own hown' (by rw [hexS_length, size_len])
      clear hown hown'
      go_wp2
      go_ret
      exact ⟨rfl, hb⟩

end Go.Proofs.Ythioafndepkhoaa
