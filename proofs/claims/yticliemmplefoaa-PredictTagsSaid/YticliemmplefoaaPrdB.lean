/-
  predict: rows that are read: at, beside, weight; the document's at and off.
-/
import Derived.Test.YticliemmplefoaaPrdA
namespace Go.Proofs.Yticliemmplefoaa
open Go.RowKit Oct Prd

/-- The slice v reads as the bytes l. -/
def IsRow (W : World) (v : Value) (l : List UInt8) : Prop := ∃ A C, v = .slice A l.length C ∧ ∀ j (h : j < l.length), ∃ b o, A = some ⟨b, o, none⟩ ∧ W.cell? ⟨b, o + j, none⟩ = some (.int .u8 (l[j].toNat : Int))
theorem IsRow.drewN {W : World} {v : Value} {l : List UInt8} (h : IsRow W v l) (k : Nat) : IsRow (W.drewN k) v l := h
theorem IsRow.nil (W : World) : IsRow W (.slice none 0 0) [] := ⟨none, 0, rfl, fun j h => by simp at h⟩
theorem IsRow.below {W W' : World} {v : Value} {l : List UInt8} {N : Nat} (h : IsRow W v l) (hN : W.heap.size ≤ N) (hb : Below N W W') : IsRow W' v l := by
  obtain ⟨A, C, rfl, h2⟩ := h
  refine ⟨A, C, rfl, fun j hj => ?_⟩
  obtain ⟨b, o, h3, h4⟩ := h2 j hj
  exact ⟨b, o, h3, (hb.cell (p := ⟨b, o + j, none⟩) (by have := World.block_lt_of_cell? W _ h4; omega)).trans h4⟩
theorem IsRow.at0 {W : World} {v : Value} {l : List UInt8} (h : IsRow W v l) (hl : 0 < l.length) : ∃ b o C, v = .slice (some ⟨b, o, none⟩) l.length C ∧ ∀ j (h : j < l.length), W.cell? ⟨b, o + j, none⟩ = some (.int .u8 (l[j].toNat : Int)) := by
  obtain ⟨A, C, rfl, h2⟩ := h
  obtain ⟨b, o, rfl, _⟩ := h2 0 hl
  refine ⟨b, o, C, rfl, fun j hj => ?_⟩
  obtain ⟨b', o', h3, h4⟩ := h2 j hj
  injection h3 with h5
  injection h5 with h6 h7
  subst h6 h7
  exact h4

set_option maxRecDepth 100000 in
theorem pat_any (v : Value) (l : List UInt8) (i : Int) (w : World) (h : IsRow w v l) :
    Calls Try.prog 37 #[v, .int .i64 i] w fun e w' => e = .returned (.int .u8 ((rAt l i).toNat : Int)) ∧ w = w' := by
  obtain ⟨n, hn⟩ : ∃ n, l.length = n := ⟨_, rfl⟩
  by_cases h0 : i < 0
  · have HR := Lib.hid (show ((rAt l i).toNat : Int) = 0 by rw [rAt_neg l h0]; rfl)
    rw [HR.out]
    obtain ⟨A, C, rfl, _⟩ := h
    go_enter Try.func37, Try.ntmps37
    go_wp2_with fail
    go_ret
    exact ⟨rfl, rfl⟩
  · by_cases h1 : i < (n : Int)
    · obtain ⟨k, rfl⟩ : ∃ k : Nat, i = (k : Int) := ⟨i.toNat, by omega⟩
      obtain ⟨b, o, C, rfl, h2⟩ := h.at0 (by omega)
      have hk := h2 k (by omega)
      rw [rAt_in l (by omega)]
      obtain ⟨x, hx⟩ : ∃ x : UInt8, l[k]'(by omega) = x := ⟨_, rfl⟩
      rw [hx] at hk ⊢
      rw [hn]
      clear h2 h hx
      go_enter Try.func37, Try.ntmps37
      go_wp2_with fail
      go_ret
      exact ⟨rfl, rfl⟩
    · have HR := Lib.hid (show ((rAt l i).toNat : Int) = 0 by rw [rAt_past l (by omega)]; rfl)
      rw [HR.out]
      obtain ⟨A, C, rfl, _⟩ := h
      rw [hn]
      have h1' : (n : Int) ≤ i := by omega
      go_enter Try.func37, Try.ntmps37
      go_wp2_with fail
      go_ret
      exact ⟨rfl, rfl⟩
/-! ### beside. -/
set_option maxRecDepth 100000 in
set_option maxHeartbeats 1000000 in
theorem beside_any (pv rv : Value) (prev row : List UInt8) (i c : Nat) (w : World) (hp : IsRow w pv prev) (hr : IsRow w rv row) (hi : i ≤ 1000000) (hc : c ≤ 1000000) :
    Calls Try.prog 35 #[pv, rv, .int .i64 (i : Int), .int .i64 (c : Int)] w fun e w' =>
      e = .returned (.tuple #[.int .u8 ((rAt row ((i : Int) - c)).toNat : Int), .int .u8 ((rAt prev i).toNat : Int), .int .u8 ((rAt prev ((i : Int) - c)).toNat : Int)]) ∧ w = w' := by
  have H1 := Lib.hid (pat_any rv row ((i : Int) - c) w hr)
  have H2 := Lib.hid (pat_any pv prev (i : Int) w hp)
  have H3 := Lib.hid (pat_any pv prev ((i : Int) - c) w hp)
  obtain ⟨x, hx⟩ : ∃ x, rAt row ((i : Int) - c) = x := ⟨_, rfl⟩
  obtain ⟨y, hy⟩ : ∃ y, rAt prev (i : Int) = y := ⟨_, rfl⟩
  obtain ⟨z, hz⟩ : ∃ z, rAt prev ((i : Int) - c) = z := ⟨_, rfl⟩
  rw [hx] at H1 ⊢
  rw [hy] at H2 ⊢
  rw [hz] at H3 ⊢
  clear hx hy hz hp hr
  go_enter Try.func35, Try.ntmps35
  go_wp2_with fail
  refine H1.out.mono ?_
  rintro e w1 ⟨rfl, rfl⟩
  go_wp2_with fail
  refine H2.out.mono ?_
  rintro e w1 ⟨rfl, rfl⟩
  go_wp2_with fail
  refine H3.out.mono ?_
  rintro e w1 ⟨rfl, rfl⟩
  go_wp2_with fail
  go_ret3
  exact ⟨rfl, rfl⟩

/-! ### The document's off. -/
/-! ### weight. -/
theorem weight_step (l : List UInt8) (k : Nat) (h : k < l.length) : weightR (l.take (k + 1)) = weightR (l.take k) + absB l[k] := by
  rw [List.take_succ_eq_append_getElem h, weightR_app]
  simp [weightR]
theorem absB_int (d : UInt8) : ((absB d : Nat) : Int) = min (d.toNat : Int) (256 - (d.toNat : Int)) := by
  unfold absB
  have := d.toNat_lt
  omega
set_option maxRecDepth 100000 in
set_option maxHeartbeats 2000000 in
theorem weight_any (v : Value) (l : List UInt8) (w : World) (h : IsRow w v l) (hl : l.length ≤ 1000000) :
    Calls Try.prog 20 #[v] w fun e w' => e = .returned (.int .i64 (weightR l : Nat)) ∧ w = w' := by
  obtain ⟨n, hn⟩ : ∃ n, l.length = n := ⟨_, rfl⟩
  have HI := Lib.hid h
  obtain ⟨A, C, hv, _⟩ := h
  rw [hn] at hv hl
  have HV := Lib.hid hv
  have HN := Lib.hid hn
  subst hv
  go_enter Try.func20, Try.ntmps20
  go_wp2_with fail
  go_loopw [3, 8] (fun s i wr => ∃ k m : Nat, k ≤ n ∧ i = .int .i64 (k : Int) ∧ s = .int .i64 (m : Int) ∧ Hid (m = weightR (l.take k)) ∧ wr = w) (fun _ i _ => n - (intOf i).toNat)
  case atStart => exact ⟨0, 0, by omega, rfl, rfl, Lib.hid rfl, rfl⟩
  case round =>
    obtain ⟨k, m, hk, rfl, rfl, HM, rfl⟩ := hrel
    have hmb : m ≤ 128 * n := by
      rw [HM.out]
      have := weightR_le (l.take k)
      rw [List.length_take] at this
      omega
    by_cases hlt : k < n
    · have hkl : k < l.length := by rw [HN.out]; exact hlt
      obtain ⟨b, o, C', hv2, hcells⟩ := HI.out.at0 (by omega)
      rw [HN.out] at hv2
      injection hv2 with e1 e2 e3
      subst e1 e3
      have hc := hcells k hkl
      obtain ⟨d, hd⟩ : ∃ d : UInt8, l[k] = d := ⟨_, rfl⟩
      rw [hd] at hc
      obtain ⟨d1, d2⟩ := byteR d
      obtain ⟨q, hq⟩ : ∃ q, absB d = q := ⟨_, rfl⟩
      have hq2 : min (d.toNat : Int) (256 - (d.toNat : Int)) = (q : Int) := by rw [← hq]; exact (absB_int d).symm
      have hqb : q ≤ 128 := by rw [← hq]; exact absB_le d
      have HS := Lib.hid (show m + q = weightR (l.take (k + 1)) by rw [weight_step l k hkl, ← HM.out, hd, hq])
      clear hcells hd hq hn
      go_wp2_with fail
      all_goals
        go_roundw
        case rel => exact ⟨k + 1, m + q, by omega, by go_num, by congr 1; omega, HS, trivial⟩
        case measure => simp [intOf]; omega
    · obtain rfl : k = n := by omega
      have HE := Lib.hid (show m = weightR l by rw [HM.out, List.take_of_length_le (by rw [HN.out]; exact Nat.le_refl _)])
      clear hn
      go_wp2_with fail
      go_ret
      exact ⟨by rw [← HE.out]; rfl, rfl⟩
end Go.Proofs.Yticliemmplefoaa
