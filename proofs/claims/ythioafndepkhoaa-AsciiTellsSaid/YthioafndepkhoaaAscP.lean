/-
  The document's value, bytes and last.
-/
import Derived.Test.YthioafndepkhoaaAscO
namespace Go.Proofs.Ythioafndepkhoaa
open Go.RowKit Oct Asc Go.Shelf
attribute [-go_sem] Builtin.append_

theorem pad_len (l : List UInt8) (h : l.length ≤ 5) : (l ++ List.replicate (5 - l.length) 84).length = 5 := by rw [List.length_append, List.length_replicate]; omega
theorem pad_at (l : List UInt8) (h : l.length ≤ 5) (k : Nat) (hk : k < 5) : (∃ h2 : k < l.length, (l ++ List.replicate (5 - l.length) 84)[k]'(by rw [pad_len l h]; exact hk) = l[k]) ∨ (l.length ≤ k ∧ (l ++ List.replicate (5 - l.length) 84)[k]'(by rw [pad_len l h]; exact hk) = 84) := by
  rcases Nat.lt_or_ge k l.length with h2 | h2
  · exact .inl ⟨h2, by rw [List.getElem_append_left h2]⟩
  · exact .inr ⟨h2, by rw [List.getElem_append_right h2, List.getElem_replicate]⟩
set_option maxRecDepth 100000 in
set_option maxHeartbeats 4000000 in
theorem value_in (l : List UInt8) (q : Nat) (A : Option Addr) (C V B : Nat) (w : World) (hq : l.length = q) (hl : l.length ≤ 5) (hV : val5 l = V) (hown : w.ownsRow B 5 1 (.slice A q C) q (cellsOf l)) :
    Calls Try.prog 23 #[.slice A q C] w fun e w' => e = .returned (.int .u64 (V : Int)) ∧ w = w' := by
  have HV := Lib.hid (show v5 (l ++ List.replicate (5 - l.length) 84) = V from hV)
  have HO := Lib.hid hown
  have HQ := Lib.hid hq
  have hq5 : q ≤ 5 := by omega
  clear hV hown hq
  go_enter Try.func23, Try.ntmps23
  go_wp2_with fail
  go_loopw [3, 4] (fun v i wr => ∃ k n1 : Nat, k ≤ 5 ∧ v = .int .u64 (n1 : Int) ∧ i = .int .i64 (k : Int) ∧ Hid (n1 = v5 ((l ++ List.replicate (5 - l.length) 84).take k)) ∧ n1 + 4 ≤ 4 * 85 ^ k ∧ wr = w) (fun _ i _ => 5 - (intOf i).toNat)
  case atStart => exact ⟨0, 0, by omega, rfl, rfl, Lib.hid rfl, by omega, rfl⟩
  case round =>
    obtain ⟨k, n1, hk, rfl, rfl, HN, hb, rfl⟩ := hrel
    by_cases hlt : k < 5
    · have i0 : (0 : Int) ≤ (k : Int) := by omega
      have i1 : (k : Int) < 5 := by omega
      have hm := v5_more (l ++ List.replicate (5 - l.length) 84) k (by rw [pad_len l hl]; exact hlt)
      rw [← HN.out] at hm
      have hnb : 85 * n1 + 255 + 4 ≤ 4 * 85 ^ (k + 1) := by rw [Nat.pow_succ]; omega
      have hn32 : n1 < 20000000000 := by
        have : 85 ^ k ≤ 85 ^ 5 := Nat.pow_le_pow_right (by decide) (by omega)
        omega
      rcases pad_at l hl k hlt with ⟨h, hg⟩ | ⟨h, hg⟩
      · obtain ⟨c, hc⟩ : ∃ c, l[k] = c := ⟨_, rfl⟩
        rw [hg, hc] at hm
        have i2 : (k : Int) < (q : Int) := by have := HQ.out; omega
        obtain ⟨g1, c1, e1, _⟩ := HO.out.form (by have := HQ.out; omega)
        injection e1 with e1 _ e3
        subst e1 e3
        have x : wr.cell? ⟨g1, k, none⟩ = some (.int .u8 (c.toNat : Int)) := by
          have := HO.out.cellAt k (by have := HQ.out; omega)
          rw [this]
          unfold cellsOf
          rw [List.getElem?_map, List.getElem?_eq_getElem h, hc]
          rfl
        have hc255 : (c.toNat : Int) ≤ 255 := by have := c.toNat_lt; omega
        have HM := Lib.hid hm
        have HNb := Lib.hid hnb
        clear hm hg hnb hc
        go_wp2_with fail
        go_roundw
        case rel => exact ⟨k + 1, 85 * n1 + c.toNat, by omega, by go_num, by go_num, Lib.hid HM.out.symm, by have := HNb.out; omega, trivial⟩
        case measure => simp [intOf]; omega
      · rw [hg] at hm
        have i2 : ¬ (k : Int) < (q : Int) := by have := HQ.out; omega
        have HM := Lib.hid (show v5 ((l ++ List.replicate (5 - l.length) 84).take (k + 1)) = 85 * n1 + 84 from hm)
        have HNb := Lib.hid hnb
        clear hm hg hnb
        go_wp2_with fail
        go_roundw
        case rel => exact ⟨k + 1, 85 * n1 + 84, by omega, by go_num, by go_num, Lib.hid HM.out.symm, by have := HNb.out; omega, trivial⟩
        case measure => simp [intOf]; omega
    · obtain rfl : k = 5 := by omega
      have hn : n1 = V := by rw [HN.out, List.take_of_length_le (by rw [pad_len l hl]; exact Nat.le_refl _)]; exact HV.out
      subst hn
      go_wp2_with fail
      go_ret
      exact ⟨rfl, rfl⟩

theorem cells_bytes4 {n : Nat} (h : n ≤ 4294967295) : cellsOf (bytes4 n) = [.int .u8 ((n : Int) / 16777216), .int .u8 ((n : Int) / 65536 % 256), .int .u8 ((n : Int) / 256 % 256), .int .u8 ((n : Int) % 256)] := by
  have := arr_bytes4 h
  unfold arr5 at this
  injection this with this
  exact congrArg Array.toList this
set_option maxHeartbeats 4000000 in
theorem bytesR_in (n : Nat) (k : Nat) (w : World) (hn : n ≤ 4294967295) (hk : k ≤ 4) :
    Calls Try.prog 24 #[.int .u64 (n : Int), .int .i64 (k : Int)] w fun e w' => e = .returned (.slice (some ⟨w.heap.size, 0, none⟩) k 4) ∧ w' = w.alloc (.cells (cellsOf (bytes4 n)).toArray 5) := by
  have k0 : (0 : Int) ≤ (k : Int) := by omega
  have k4 : (k : Int) ≤ 4 := by omega
  have HC := Lib.hid (cells_bytes4 hn)
  go_enter Try.func24, Try.ntmps24
  go_wp2_with fail
  go_ret
  refine ⟨rfl, ?_⟩
  rw [HC.out]
end Go.Proofs.Ythioafndepkhoaa
