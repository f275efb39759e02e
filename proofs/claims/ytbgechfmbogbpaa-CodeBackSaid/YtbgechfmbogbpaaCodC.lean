/-
  code's firsts: the first code of each length.
-/
import Derived.Test.YtbgechfmbogbpaaCodB
namespace Go.Proofs.Ytbgechfmbogbpaa
open Go.RowKit Cod

theorem ag_set (t : Nat → Int) (i : Nat) (v : Int) : (ag t).setIfInBounds i (.int .i64 v) = ag (fun n => if n = i then v else t n) := by
  apply Array.ext_getElem?
  intro n
  by_cases hn : n < 16
  · rw [ag_at _ n hn]
    by_cases e : i = n
    · subst e
      rw [Array.getElem?_setIfInBounds_self, if_pos (show i < (ag t).size from hn), if_pos rfl]
    · rw [Array.getElem?_setIfInBounds_ne e, ag_at _ n hn, if_neg (fun h => e h.symm)]
  · rw [Array.getElem?_eq_none (by rw [Array.size_setIfInBounds]; exact Nat.le_of_not_lt hn), Array.getElem?_eq_none (show (ag _).size ≤ n from Nat.le_of_not_lt hn)]
theorem ag_congr {f g : Nat → Int} (h : ∀ n, n < 16 → f n = g n) : ag f = ag g := by
  unfold ag
  rw [h 0 (by decide), h 1 (by decide), h 2 (by decide), h 3 (by decide), h 4 (by decide), h 5 (by decide), h 6 (by decide), h 7 (by decide), h 8 (by decide), h 9 (by decide), h 10 (by decide), h 11 (by decide), h 12 (by decide), h 13 (by decide), h 14 (by decide), h 15 (by decide)]
/-- The first codes up to a length. -/
def ff (l : List Int) (k j : Nat) : Int := if j ≤ k then (fst1 l j : Int) else 0
def fv (l : List Int) (j : Nat) : Int := (fst1 l j : Int)
theorem ff_start (l : List Int) : ag (ff l 1) = #[.int .i64 0, .int .i64 0, .int .i64 0, .int .i64 0, .int .i64 0, .int .i64 0, .int .i64 0, .int .i64 0, .int .i64 0, .int .i64 0, .int .i64 0, .int .i64 0, .int .i64 0, .int .i64 0, .int .i64 0, .int .i64 0] := by
  rw [ag_congr (g := fun _ => 0) (fun n hn => by
    unfold ff
    by_cases h : n ≤ 1
    · have : n = 0 ∨ n = 1 := by omega
      rcases this with rfl | rfl <;> rfl
    · rw [if_neg h])]
  rfl
theorem ff_step (l : List Int) (k : Nat) (h1 : 1 ≤ k) (v : Int) (hv : v = 2 * (fv l k + tv l k)) : (ag (ff l k)).setIfInBounds (k + 1) (.int .i64 v) = ag (ff l (k + 1)) := by
  rw [ag_set]
  apply ag_congr
  intro n _
  unfold ff
  by_cases h : n = k + 1
  · subst h
    rw [if_pos rfl, if_pos (Nat.le_refl _), hv, fst1_step l k h1]
    unfold fv tv
    push_cast
    rfl
  · rw [if_neg h]
    by_cases h2 : n ≤ k
    · rw [if_pos h2, if_pos (by omega)]
    · rw [if_neg h2, if_neg (by omega)]
theorem ff_end (l : List Int) : ag (ff l 15) = ag (fv l) := ag_congr (fun n hn => by unfold ff; rw [if_pos (by omega)]; rfl)

set_option maxRecDepth 100000 in
set_option maxHeartbeats 4000000 in
theorem firsts_any (l : List Int) (w : World) (hl : l.length ≤ 1000000) :
    Calls Try.prog 28 #[.agg (tc l)] w fun e w' => e = .returned (.agg (ag (fv l))) ∧ Below w.heap.size w w' := by
  rw [tc_ag]
  have HF0 := Lib.hid (ff_start l)
  have HFS := Lib.hid (fun k h v hv => ff_step l k h v hv)
  have HFE := Lib.hid (ff_end l)
  have HTB := Lib.hid (show ∀ n, 0 ≤ tv l n ∧ tv l n ≤ 1000000 from fun n => by unfold tv; have := tl_le l n; omega)
  have HFB := Lib.hid (show ∀ n, n < 15 → 0 ≤ fv l (n + 1) ∧ fv l (n + 1) ≤ 40000000000 from fun n hn => by
    unfold fv
    have h1 := fst1_le l hl n
    have h2 : 2 ^ (n + 1) ≤ 2 ^ 15 := Nat.pow_le_pow_right (by decide) (by omega)
    have h3 : 2 ^ (n + 1) * 1000000 ≤ 2 ^ 15 * 1000000 := Nat.mul_le_mul_right _ h2
    omega)
  obtain ⟨t, ht⟩ : ∃ t, tv l = t := ⟨_, rfl⟩
  obtain ⟨f, hf⟩ : ∃ f, fv l = f := ⟨_, rfl⟩
  rw [ht] at HFS HTB ⊢
  rw [hf] at HFS HFB HFE ⊢
  obtain ⟨N, hN⟩ : ∃ N, w.heap.size = N := ⟨_, rfl⟩
  have HS := Lib.hid hN
  obtain ⟨V, hV⟩ : ∃ V, ((w.alloc (.cells #[.int .i64 (t 0), .int .i64 (t 1), .int .i64 (t 2), .int .i64 (t 3), .int .i64 (t 4), .int .i64 (t 5), .int .i64 (t 6), .int .i64 (t 7), .int .i64 (t 8), .int .i64 (t 9), .int .i64 (t 10), .int .i64 (t 11), .int .i64 (t 12), .int .i64 (t 13), .int .i64 (t 14), .int .i64 (t 15)] 51)).alloc (.cells #[.int .i64 0, .int .i64 0, .int .i64 0, .int .i64 0, .int .i64 0, .int .i64 0, .int .i64 0, .int .i64 0, .int .i64 0, .int .i64 0, .int .i64 0, .int .i64 0, .int .i64 0, .int .i64 0, .int .i64 0, .int .i64 0] 51)).alloc (.cells #[.int .i64 0, .int .i64 0, .int .i64 0, .int .i64 0, .int .i64 0, .int .i64 0, .int .i64 0, .int .i64 0, .int .i64 0, .int .i64 0, .int .i64 0, .int .i64 0, .int .i64 0, .int .i64 0, .int .i64 0, .int .i64 0] 51) = V := ⟨_, rfl⟩
  have hVs : V.heap.size = N + 3 := by rw [← hV, World.size_alloc, World.size_alloc, World.size_alloc, hN]
  have B0 := Lib.hid (show Below N w V ∧ N + 3 ≤ V.heap.size from ⟨by rw [← hV, ← hN]; exact (((Below.refl _ w).alloc (Nat.le_refl _) _).alloc (by simp) _).alloc (by simp; omega) _, by omega⟩)
  have T0 := Lib.hid (show Blk V N 51 (ag t) by rw [← hV, ← hN]; exact ((Blk.new w _ _).alloc _).alloc _)
  have R0 := Lib.hid (show Blk V (N + 1) 51 #[.int .i64 0, .int .i64 0, .int .i64 0, .int .i64 0, .int .i64 0, .int .i64 0, .int .i64 0, .int .i64 0, .int .i64 0, .int .i64 0, .int .i64 0, .int .i64 0, .int .i64 0, .int .i64 0, .int .i64 0, .int .i64 0] by
    rw [← hV]
    have := Blk.new (w.alloc (.cells #[.int .i64 (t 0), .int .i64 (t 1), .int .i64 (t 2), .int .i64 (t 3), .int .i64 (t 4), .int .i64 (t 5), .int .i64 (t 6), .int .i64 (t 7), .int .i64 (t 8), .int .i64 (t 9), .int .i64 (t 10), .int .i64 (t 11), .int .i64 (t 12), .int .i64 (t 13), .int .i64 (t 14), .int .i64 (t 15)] 51)) 51 #[.int .i64 0, .int .i64 0, .int .i64 0, .int .i64 0, .int .i64 0, .int .i64 0, .int .i64 0, .int .i64 0, .int .i64 0, .int .i64 0, .int .i64 0, .int .i64 0, .int .i64 0, .int .i64 0, .int .i64 0, .int .i64 0]
    rw [World.size_alloc, hN] at this
    exact this.alloc _)
  have F0 := Lib.hid (show Blk V (N + 2) 51 (ag (ff l 1)) by
    rw [← hV, HF0.out]
    have := Blk.new ((w.alloc (.cells #[.int .i64 (t 0), .int .i64 (t 1), .int .i64 (t 2), .int .i64 (t 3), .int .i64 (t 4), .int .i64 (t 5), .int .i64 (t 6), .int .i64 (t 7), .int .i64 (t 8), .int .i64 (t 9), .int .i64 (t 10), .int .i64 (t 11), .int .i64 (t 12), .int .i64 (t 13), .int .i64 (t 14), .int .i64 (t 15)] 51)).alloc (.cells #[.int .i64 0, .int .i64 0, .int .i64 0, .int .i64 0, .int .i64 0, .int .i64 0, .int .i64 0, .int .i64 0, .int .i64 0, .int .i64 0, .int .i64 0, .int .i64 0, .int .i64 0, .int .i64 0, .int .i64 0, .int .i64 0] 51)) 51 #[.int .i64 0, .int .i64 0, .int .i64 0, .int .i64 0, .int .i64 0, .int .i64 0, .int .i64 0, .int .i64 0, .int .i64 0, .int .i64 0, .int .i64 0, .int .i64 0, .int .i64 0, .int .i64 0, .int .i64 0, .int .i64 0]
    rw [World.size_alloc, World.size_alloc, hN] at this
    exact this)
  have HVV := Lib.hid hV
  have HV3 := Lib.hid hVs
  rw [hN]
  have HFV := Lib.hid (show ∀ k, ff l k = (fun j => if j ≤ k then f j else 0) from fun k => by rw [← hf]; rfl)
  clear hl ht hf hV hVs hN HF0
  unfold ag
  go_enter Try.func28, Try.ntmps28
  go_wp2_with fail
  rw [HVV.out, HS.out]
  clear HVV
  go_loopw [4] (fun iv wr => ∃ k : Nat, 1 ≤ k ∧ k ≤ 15 ∧ iv = .int .i64 (k : Int) ∧ Hid (Below N w wr ∧ N + 3 ≤ wr.heap.size) ∧ Hid (Blk wr N 51 (ag t)) ∧ Hid (Blk wr (N + 1) 51 #[.int .i64 0, .int .i64 0, .int .i64 0, .int .i64 0, .int .i64 0, .int .i64 0, .int .i64 0, .int .i64 0, .int .i64 0, .int .i64 0, .int .i64 0, .int .i64 0, .int .i64 0, .int .i64 0, .int .i64 0, .int .i64 0]) ∧ Hid (Blk wr (N + 2) 51 (ag (ff l k)))) (fun iv _ => 15 - (intOf iv).toNat)
  case atStart => exact ⟨1, by omega, by omega, rfl, B0, T0, R0, F0⟩
  case round =>
    clear B0 T0 R0 F0
    obtain ⟨k, hk1, hk, rfl, HB, HT, HR, HF⟩ := hrel
    by_cases hlt : k < 15
    · have hik : (k : Int) < 15 := by omega
      have hik0 : (0 : Int) ≤ (k : Int) := by omega
      have a1 := (HT.out.cell k).trans (ag_at t k (by omega))
      have a2 := (HF.out.cell k).trans (ag_at _ k (by omega))
      rw [HFV.out k] at a2
      simp only [Nat.le_refl, if_true] at a2
      have z2 := HF.out.frozen (k + 1)
      have a3 := (HF.out.cell (k + 1)).trans (ag_at _ (k + 1) (by omega))
      have b1 : 0 ≤ t k ∧ t k ≤ 1000000 := HTB.out k
      have b2 : 0 ≤ f k ∧ f k ≤ 40000000000 := by have := HFB.out (k - 1) (by omega); rwa [show k - 1 + 1 = k by omega] at this
      obtain ⟨x, hx⟩ : ∃ x, t k = x := ⟨_, rfl⟩
      obtain ⟨y, hy⟩ : ∃ y, f k = y := ⟨_, rfl⟩
      have HF2 := Lib.hid (show Blk (wr.setCell ⟨N + 2, k + 1, none⟩ (.int .i64 (2 * (y + x)))) (N + 2) 51 (ag (ff l (k + 1))) by
        rw [← HFS.out k hk1 (2 * (y + x)) (by rw [hx, hy])]
        exact HF.out.set_ (k + 1) _)
      have HT2 := Lib.hid (show Blk (wr.setCell ⟨N + 2, k + 1, none⟩ (.int .i64 (2 * (y + x)))) N 51 (ag t) from HT.out.far (by show N ≠ N + 2; omega) _)
      have HR2 := Lib.hid (show Blk (wr.setCell ⟨N + 2, k + 1, none⟩ (.int .i64 (2 * (y + x)))) (N + 1) 51 #[.int .i64 0, .int .i64 0, .int .i64 0, .int .i64 0, .int .i64 0, .int .i64 0, .int .i64 0, .int .i64 0, .int .i64 0, .int .i64 0, .int .i64 0, .int .i64 0, .int .i64 0, .int .i64 0, .int .i64 0, .int .i64 0] from HR.out.far (by show N + 1 ≠ N + 2; omega) _)
      have HB2 := Lib.hid (show Below N w (wr.setCell ⟨N + 2, k + 1, none⟩ (.int .i64 (2 * (y + x)))) ∧ N + 3 ≤ (wr.setCell ⟨N + 2, k + 1, none⟩ (.int .i64 (2 * (y + x)))).heap.size from ⟨HB.out.1.setCell (by show N ≤ N + 2; omega) _, by simpa [World.setCell] using HB.out.2⟩)
      rw [hx] at a1 b1
      rw [hy] at a2 b2
      clear hx hy
      go_wp2_with fail
      go_region
      go_wp2_with fail
      go_roundw
      case rel => exact ⟨k + 1, by omega, by omega, by go_num, Lib.hid ⟨HB2.out.1.drew, HB2.out.2⟩, Lib.hid HT2.out, Lib.hid HR2.out, Lib.hid HF2.out⟩
      case measure => simp [intOf]; omega
    · obtain rfl : k = 15 := by omega
      have HF1 := Lib.hid (show Blk wr (N + 2) 51 (ag f) by rw [← HFE.out]; exact HF.out)
      clear HF
      have c0 := HF1.out.cell 0
      have d0 := HR.out.cell 0
      have f0 := HR.out.frozen 0
      have c1 := HF1.out.cell 1
      have d1 := HR.out.cell 1
      have f1 := HR.out.frozen 1
      have c2 := HF1.out.cell 2
      have d2 := HR.out.cell 2
      have f2 := HR.out.frozen 2
      have c3 := HF1.out.cell 3
      have d3 := HR.out.cell 3
      have f3 := HR.out.frozen 3
      have c4 := HF1.out.cell 4
      have d4 := HR.out.cell 4
      have f4 := HR.out.frozen 4
      have c5 := HF1.out.cell 5
      have d5 := HR.out.cell 5
      have f5 := HR.out.frozen 5
      have c6 := HF1.out.cell 6
      have d6 := HR.out.cell 6
      have f6 := HR.out.frozen 6
      have c7 := HF1.out.cell 7
      have d7 := HR.out.cell 7
      have f7 := HR.out.frozen 7
      have c8 := HF1.out.cell 8
      have d8 := HR.out.cell 8
      have f8 := HR.out.frozen 8
      have c9 := HF1.out.cell 9
      have d9 := HR.out.cell 9
      have f9 := HR.out.frozen 9
      have c10 := HF1.out.cell 10
      have d10 := HR.out.cell 10
      have f10 := HR.out.frozen 10
      have c11 := HF1.out.cell 11
      have d11 := HR.out.cell 11
      have f11 := HR.out.frozen 11
      have c12 := HF1.out.cell 12
      have d12 := HR.out.cell 12
      have f12 := HR.out.frozen 12
      have c13 := HF1.out.cell 13
      have d13 := HR.out.cell 13
      have f13 := HR.out.frozen 13
      have c14 := HF1.out.cell 14
      have d14 := HR.out.cell 14
      have f14 := HR.out.frozen 14
      have c15 := HF1.out.cell 15
      have d15 := HR.out.cell 15
      have f15 := HR.out.frozen 15
      simp only [ag, List.getElem?_toArray, List.getElem?_cons_zero, List.getElem?_cons_succ] at c0 c1 c2 c3 c4 c5 c6 c7 c8 c9 c10 c11 c12 c13 c14 c15 d0 d1 d2 d3 d4 d5 d6 d7 d8 d9 d10 d11 d12 d13 d14 d15
      go_wp2_with fail
      obtain ⟨W9, hW9⟩ : ∃ W, ((((((((((((((((wr).setCell ⟨N + 1, 0, none⟩ (.int .i64 (f 0))).setCell ⟨N + 1, 1, none⟩ (.int .i64 (f 1))).setCell ⟨N + 1, 2, none⟩ (.int .i64 (f 2))).setCell ⟨N + 1, 3, none⟩ (.int .i64 (f 3))).setCell ⟨N + 1, 4, none⟩ (.int .i64 (f 4))).setCell ⟨N + 1, 5, none⟩ (.int .i64 (f 5))).setCell ⟨N + 1, 6, none⟩ (.int .i64 (f 6))).setCell ⟨N + 1, 7, none⟩ (.int .i64 (f 7))).setCell ⟨N + 1, 8, none⟩ (.int .i64 (f 8))).setCell ⟨N + 1, 9, none⟩ (.int .i64 (f 9))).setCell ⟨N + 1, 10, none⟩ (.int .i64 (f 10))).setCell ⟨N + 1, 11, none⟩ (.int .i64 (f 11))).setCell ⟨N + 1, 12, none⟩ (.int .i64 (f 12))).setCell ⟨N + 1, 13, none⟩ (.int .i64 (f 13))).setCell ⟨N + 1, 14, none⟩ (.int .i64 (f 14))).setCell ⟨N + 1, 15, none⟩ (.int .i64 (f 15)) = W := ⟨_, rfl⟩
      have HF := (((((((((((((((((HR.out)).set_ 0 (.int .i64 (f 0))).set_ 1 (.int .i64 (f 1))).set_ 2 (.int .i64 (f 2))).set_ 3 (.int .i64 (f 3))).set_ 4 (.int .i64 (f 4))).set_ 5 (.int .i64 (f 5))).set_ 6 (.int .i64 (f 6))).set_ 7 (.int .i64 (f 7))).set_ 8 (.int .i64 (f 8))).set_ 9 (.int .i64 (f 9))).set_ 10 (.int .i64 (f 10))).set_ 11 (.int .i64 (f 11))).set_ 12 (.int .i64 (f 12))).set_ 13 (.int .i64 (f 13))).set_ 14 (.int .i64 (f 14))).set_ 15 (.int .i64 (f 15))
      rw [hW9] at HF
      have HG : Below N w W9 := by rw [← hW9]; exact (((((((((((((((((HB.out.1)).setCell (p := ⟨N + 1, 0, none⟩) (by show N ≤ N + 1; omega) (.int .i64 (f 0))).setCell (p := ⟨N + 1, 1, none⟩) (by show N ≤ N + 1; omega) (.int .i64 (f 1))).setCell (p := ⟨N + 1, 2, none⟩) (by show N ≤ N + 1; omega) (.int .i64 (f 2))).setCell (p := ⟨N + 1, 3, none⟩) (by show N ≤ N + 1; omega) (.int .i64 (f 3))).setCell (p := ⟨N + 1, 4, none⟩) (by show N ≤ N + 1; omega) (.int .i64 (f 4))).setCell (p := ⟨N + 1, 5, none⟩) (by show N ≤ N + 1; omega) (.int .i64 (f 5))).setCell (p := ⟨N + 1, 6, none⟩) (by show N ≤ N + 1; omega) (.int .i64 (f 6))).setCell (p := ⟨N + 1, 7, none⟩) (by show N ≤ N + 1; omega) (.int .i64 (f 7))).setCell (p := ⟨N + 1, 8, none⟩) (by show N ≤ N + 1; omega) (.int .i64 (f 8))).setCell (p := ⟨N + 1, 9, none⟩) (by show N ≤ N + 1; omega) (.int .i64 (f 9))).setCell (p := ⟨N + 1, 10, none⟩) (by show N ≤ N + 1; omega) (.int .i64 (f 10))).setCell (p := ⟨N + 1, 11, none⟩) (by show N ≤ N + 1; omega) (.int .i64 (f 11))).setCell (p := ⟨N + 1, 12, none⟩) (by show N ≤ N + 1; omega) (.int .i64 (f 12))).setCell (p := ⟨N + 1, 13, none⟩) (by show N ≤ N + 1; omega) (.int .i64 (f 13))).setCell (p := ⟨N + 1, 14, none⟩) (by show N ≤ N + 1; omega) (.int .i64 (f 14))).setCell (p := ⟨N + 1, 15, none⟩) (by show N ≤ N + 1; omega) (.int .i64 (f 15))
      rw [hW9]
      clear hW9 c0 c1 c2 c3 c4 c5 c6 c7 c8 c9 c10 c11 c12 c13 c14 c15 d0 d1 d2 d3 d4 d5 d6 d7 d8 d9 d10 d11 d12 d13 d14 d15 f0 f1 f2 f3 f4 f5 f6 f7 f8 f9 f10 f11 f12 f13 f14 f15
      have e0 : W9.cell? ⟨N + 1, 0, none⟩ = some (.int .i64 (f 0)) := (HF.cell 0).trans (by kernel_rfl)
      have e1 : W9.cell? ⟨N + 1, 1, none⟩ = some (.int .i64 (f 1)) := (HF.cell 1).trans (by kernel_rfl)
      have e2 : W9.cell? ⟨N + 1, 2, none⟩ = some (.int .i64 (f 2)) := (HF.cell 2).trans (by kernel_rfl)
      have e3 : W9.cell? ⟨N + 1, 3, none⟩ = some (.int .i64 (f 3)) := (HF.cell 3).trans (by kernel_rfl)
      have e4 : W9.cell? ⟨N + 1, 4, none⟩ = some (.int .i64 (f 4)) := (HF.cell 4).trans (by kernel_rfl)
      have e5 : W9.cell? ⟨N + 1, 5, none⟩ = some (.int .i64 (f 5)) := (HF.cell 5).trans (by kernel_rfl)
      have e6 : W9.cell? ⟨N + 1, 6, none⟩ = some (.int .i64 (f 6)) := (HF.cell 6).trans (by kernel_rfl)
      have e7 : W9.cell? ⟨N + 1, 7, none⟩ = some (.int .i64 (f 7)) := (HF.cell 7).trans (by kernel_rfl)
      have e8 : W9.cell? ⟨N + 1, 8, none⟩ = some (.int .i64 (f 8)) := (HF.cell 8).trans (by kernel_rfl)
      have e9 : W9.cell? ⟨N + 1, 9, none⟩ = some (.int .i64 (f 9)) := (HF.cell 9).trans (by kernel_rfl)
      have e10 : W9.cell? ⟨N + 1, 10, none⟩ = some (.int .i64 (f 10)) := (HF.cell 10).trans (by kernel_rfl)
      have e11 : W9.cell? ⟨N + 1, 11, none⟩ = some (.int .i64 (f 11)) := (HF.cell 11).trans (by kernel_rfl)
      have e12 : W9.cell? ⟨N + 1, 12, none⟩ = some (.int .i64 (f 12)) := (HF.cell 12).trans (by kernel_rfl)
      have e13 : W9.cell? ⟨N + 1, 13, none⟩ = some (.int .i64 (f 13)) := (HF.cell 13).trans (by kernel_rfl)
      have e14 : W9.cell? ⟨N + 1, 14, none⟩ = some (.int .i64 (f 14)) := (HF.cell 14).trans (by kernel_rfl)
      have e15 : W9.cell? ⟨N + 1, 15, none⟩ = some (.int .i64 (f 15)) := (HF.cell 15).trans (by kernel_rfl)
      clear HF
      refine bodyPost_ret (v := .agg #[.int .i64 (f 0), .int .i64 (f 1), .int .i64 (f 2), .int .i64 (f 3), .int .i64 (f 4), .int .i64 (f 5), .int .i64 (f 6), .int .i64 (f 7), .int .i64 (f 8), .int .i64 (f 9), .int .i64 (f 10), .int .i64 (f 11), .int .i64 (f 12), .int .i64 (f 13), .int .i64 (f 14), .int .i64 (f 15)]) (by simp [results, Try.results28, go_sem, e0, e1, e2, e3, e4, e5, e6, e7, e8, e9, e10, e11, e12, e13, e14, e15]) rfl ⟨rfl, HG⟩
end Go.Proofs.Ytbgechfmbogbpaa
