/-
  The document's Why.
-/
import Derived.Test.YtkcnhdponcbjaaaHntH
import Derived.Test.YtkcnhdponcbjaaaHntQb
namespace Go.Proofs.Ytkcnhdponcbjaaa
open Go.RowKit Bt Hnt

theorem badH_ok {x y z : Int} (h : okH (x, y, z) = true) : decide (x < 0) = false ∧ decide (8191 < x) = false ∧ decide (y < 0) = false ∧ decide (1048576 < y) = false ∧ decide (z < 0) = false ∧ decide (1048576 < z) = false := by
  unfold okH at h
  simp only [Bool.and_eq_true, decide_eq_true_eq] at h
  simp only [decide_eq_false_iff_not]
  omega
theorem badH_no {x y z : Int} (h : okH (x, y, z) = false) :
    (decide (x < 0) = true) ∨
      (decide (x < 0) = false ∧ decide (8191 < x) = true) ∨
      (decide (x < 0) = false ∧ decide (8191 < x) = false ∧ decide (y < 0) = true) ∨
      (decide (x < 0) = false ∧ decide (8191 < x) = false ∧ decide (y < 0) = false ∧ decide (1048576 < y) = true) ∨
      (decide (x < 0) = false ∧ decide (8191 < x) = false ∧ decide (y < 0) = false ∧ decide (1048576 < y) = false ∧ decide (z < 0) = true) ∨
      (decide (x < 0) = false ∧ decide (8191 < x) = false ∧ decide (y < 0) = false ∧ decide (1048576 < y) = false ∧ decide (z < 0) = false ∧ decide (1048576 < z) = true) := by
  unfold okH at h
  simp only [Bool.and_eq_false_iff, decide_eq_false_iff_not] at h
  simp only [decide_eq_false_iff_not, decide_eq_true_eq]
  omega

set_option maxRecDepth 100000 in
set_option maxHeartbeats 4000000 in
theorem why_any (A : Option Addr) (cap : Nat) (l : List H3) (w : World) (h : HAt w A l) (hl : l.length ≤ 1000000000) :
    Calls Try.prog 22 #[.slice A l.length cap] w fun e w' => e = .returned (.int .i64 (textE l)) ∧ Below w.heap.size w w' := by
  obtain ⟨N, hN⟩ : ∃ N, w.heap.size = N := ⟨_, rfl⟩
  obtain ⟨n, hn⟩ : ∃ n, l.length = n := ⟨_, rfl⟩
  have HN := Lib.hid hn
  have HS := Lib.hid hN
  have H0 := Lib.hid (fun (W : World) (hb : Below N w W) => h.below (hN ▸ hb))
  have HB0 := Lib.hid (show Below N w w ∧ N ≤ w.heap.size from ⟨Below.refl _ _, by rw [hN]; exact Nat.le_refl _⟩)
  rw [hN, hn]
  by_cases h0 : l = []
  · have e1 : textE l = 1 := by rw [h0]; rfl
    have n0 : n = 0 := by rw [← hn, h0]; rfl
    subst n0
    rw [e1]
    clear h hl hn hN h0 e1
    go_enter Try.func22, Try.ntmps22
    go_wp2_with fail
    go_ret
    exact ⟨rfl, HB0.out.1⟩
  have np : 0 < l.length := List.length_pos_iff.2 h0
  have n0 : ¬ (n : Int) = 0 := by omega
  have n0' : ¬ n = 0 := by omega
  by_cases h1 : 2048 < l.length
  · have e1 := textE_many h1
    have n1 : (2048 : Int) < (n : Int) := by omega
    rw [e1]
    clear h hl hn hN h0 e1 h1 np
    go_enter Try.func22, Try.ntmps22
    go_wp2_with fail
    go_ret
    exact ⟨rfl, HB0.out.1⟩
  have n1 : ¬ (2048 : Int) < (n : Int) := by omega
  have hnb : (n : Int) ≤ 2048 := by omega
  have HE2 := Lib.hid (fun (hb : l.all okH = false) => textE_range h0 h1 hb)
  have HE0 := Lib.hid (fun (hb : l.all okH = true) => textE_ok h0 h1 hb)
  obtain ⟨E, hE⟩ : ∃ E, textE l = E := ⟨_, rfl⟩
  rw [hE] at HE2 HE0 ⊢
  clear h hl hn hN h0 h1 np hE
  go_enter Try.func22, Try.ntmps22
  go_wp2_with fail
  go_loopw [13] (fun iv wr => ∃ k : Nat, k ≤ n ∧ iv = .int .i64 (k : Int) ∧ Hid (Below N w wr ∧ N ≤ wr.heap.size) ∧ Hid (∀ j (h : j < l.length), j < k → okH l[j] = true)) (fun iv _ => n - (intOf iv).toNat)
  case atStart => exact ⟨0, by omega, rfl, HB0, Lib.hid (fun j _ hj => absurd hj (by omega))⟩
  case round =>
    obtain ⟨k, hk, rfl, HB, HG⟩ := hrel
    by_cases hlt : k < n
    · have hkl : k < l.length := by rw [HN.out]; exact hlt
      have hik : (k : Int) < (n : Int) := by omega
      have hik0 : (0 : Int) ≤ (k : Int) := by omega
      obtain ⟨b, off, rfl, _, c0, c1, c2⟩ := H0.out wr HB.out.1 k hkl
      obtain ⟨x, hx⟩ : ∃ x, l[k].1 = x := ⟨_, rfl⟩
      obtain ⟨y, hy⟩ : ∃ x, l[k].2.1 = x := ⟨_, rfl⟩
      obtain ⟨z, hz⟩ : ∃ x, l[k].2.2 = x := ⟨_, rfl⟩
      have HE := Lib.hid (show l[k] = (x, y, z) by rw [← hx, ← hy, ← hz])
      rw [hx] at c0
      rw [hy] at c1
      rw [hz] at c2
      have HKL := Lib.hid hkl
      clear hx hy hz
      obtain ⟨g, hg⟩ : ∃ g, wr.heap.size = g := ⟨_, rfl⟩
      obtain ⟨W4, hW4⟩ : ∃ W4, wr.alloc (.cells #[.int .i64 x, .int .i64 y, .int .i64 z] 35) = W4 := ⟨_, rfl⟩
      have hS4 : W4.heap.size = g + 1 := by rw [← hW4, World.size_alloc, hg]
      have HB4 := Lib.hid (show Below N w W4 ∧ N ≤ W4.heap.size from ⟨by rw [← hW4]; exact HB.out.1.alloc HB.out.2 _, by have := HB.out.2; omega⟩)
      have HG4 := Lib.hid (show Blk W4 g 35 #[.int .i64 x, .int .i64 y, .int .i64 z] by rw [← hW4, ← hg]; exact Blk.new _ _ _)
      clear hS4
      go_upto_region 8 with fail
      try rw [hW4]
      try rw [hg]
      clear hW4 hg c0 c1 c2
      have d0 := HG4.out.cell 0
      have d1 := HG4.out.cell 1
      have d2 := HG4.out.cell 2
      simp only [List.getElem?_toArray, List.getElem?_cons_zero, List.getElem?_cons_succ] at d0 d1 d2
      by_cases hb : okH (x, y, z) = true
      · have HG2 := Lib.hid (show ∀ j (h : j < l.length), j < k + 1 → okH l[j] = true from fun j h hj => by
          by_cases e : j = k
          · subst e; rw [HE.out]; exact hb
          · exact HG.out j h (by omega))
        obtain ⟨t0, t1, t2, t3, t4, t5⟩ := badH_ok hb
        clear hb
        go_wp2_with fail
        go_roundw
        case rel => exact ⟨k + 1, by omega, by go_num, HB4, HG2⟩
        case measure => simp [intOf]; omega
      · have hb' : okH (x, y, z) = false := by simpa using hb
        obtain rfl := HE2.out (all_no HKL.out HE.out hb')
        rcases badH_no hb' with t0 | ⟨t0, t1⟩ | ⟨t0, t1, t2⟩ | ⟨t0, t1, t2, t3⟩ | ⟨t0, t1, t2, t3, t4⟩ | ⟨t0, t1, t2, t3, t4, t5⟩
        · go_wp2_with fail
          go_ret
          exact ⟨rfl, HB4.out.1⟩
        · go_wp2_with fail
          go_ret
          exact ⟨rfl, HB4.out.1⟩
        · go_wp2_with fail
          go_ret
          exact ⟨rfl, HB4.out.1⟩
        · go_wp2_with fail
          go_ret
          exact ⟨rfl, HB4.out.1⟩
        · go_wp2_with fail
          go_ret
          exact ⟨rfl, HB4.out.1⟩
        · go_wp2_with fail
          go_ret
          exact ⟨rfl, HB4.out.1⟩
    · have hall : l.all okH = true := by
        rw [List.all_eq_true]
        intro x hx
        obtain ⟨j, hj, rfl⟩ := List.getElem_of_mem hx
        exact HG.out j hj (by have := HN.out; omega)
      obtain rfl := HE0.out hall
      clear hall
      go_wp2_with fail
      go_ret
      exact ⟨rfl, HB.out.1⟩
end Go.Proofs.Ytkcnhdponcbjaaa
