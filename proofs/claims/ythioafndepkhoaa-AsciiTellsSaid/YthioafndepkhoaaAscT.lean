/-
  The document's Unrun.
-/
import Derived.Test.YthioafndepkhoaaAscS
namespace Go.Proofs.Ythioafndepkhoaa
open Go.RowKit Oct Asc Go.Shelf
attribute [-go_sem] Builtin.append_

/-- The loop of the document's Unrun, at byte k. -/
def UrTo (N : Nat) (w : World) (m : Nat) (F : Int × List UInt8) (l : List UInt8) (k : Nat) (o : List UInt8) (v : Value) (wr : World) : Prop :=
  wr.ownsRow N 5 1 v o.length (cellsOf o) ∧ Below N w wr ∧ F = runD m o (l.drop k) ∧ o.length ≤ m
/-- Its inner loop: j bytes of X are appended. -/
def InTo (N : Nat) (w : World) (o X : List UInt8) (q j : Nat) (v : Value) (wr : World) : Prop :=
  wr.ownsRow N 5 1 v (q + j) (cellsOf (o ++ X.take j)) ∧ Below N w wr
theorem take_more {X : List UInt8} {n j : Nat} (h : X.length = n) (hj : j < n) : X.take (j + 1) = X.take j ++ [X[j]'(by rw [h]; exact hj)] := by
  rw [List.take_succ_eq_append_getElem (by rw [h]; exact hj)]

set_option maxRecDepth 100000 in
set_option maxHeartbeats 8000000 in
theorem unrunR_in (s : ByteArray) (n : Int) (m : Nat) (F : Int × List UInt8) (w : World) (hs : s.size ≤ 4000) (hn : 0 ≤ n) (hm : (min n 1048576).toNat = m) (hF : F = runD m [] s.data.toList) :
    Calls Try.prog 10 #[.string s, .int .i64 n] w (DecodedIs F w) := by
  have hmi : min n 1048576 = (m : Int) := by omega
  have hm2 : m ≤ 1048576 := by omega
  have hn0 : ¬ n < 0 := by omega
  have hl : s.data.toList.length = s.size := by simp
  obtain ⟨N, hN⟩ : ∃ N, w.heap.size = N := ⟨_, rfl⟩
  have HNW := Lib.hid hN
  have h0 := Lib.hid (show UrTo N w m F s.data.toList 0 [] (.slice none 0 0) w from ⟨World.ownsRow_nil _ _ _ _, by rw [← hN]; exact Below.refl _ _, hF, by simp⟩)
  have HL := Lib.hid hl
  unfold DecodedIs
  rw [hN]
  clear hF hl hN hm
  go_enter Try.func10, Try.ntmps10
  go_wp2_with fail
  go_loopw [6, 7] (fun v i wr => ∃ (k : Nat) (o : List UInt8), k ≤ s.size ∧ i = .int .i64 (k : Int) ∧ Hid (UrTo N w m F s.data.toList k o v wr)) (fun _ i _ => s.size - (intOf i).toNat)
  case atStart => exact ⟨0, [], by omega, rfl, h0⟩
  case round =>
    clear h0
    obtain ⟨k, o, hk, rfl, HU⟩ := hrel
    obtain ⟨g1, g2, g3, g4⟩ := HU.out
    obtain ⟨A, C, hv⟩ := own_form g1
    obtain ⟨q, hq⟩ : ∃ q, o.length = q := ⟨_, rfl⟩
    rw [hq] at hv g1 g4
    subst hv
    have HO := Lib.hid g1
    have HB := Lib.hid g2
    have HQ := Lib.hid hq
    clear g1 g2 hq HU
    by_cases hlt : k < s.size
    · have i0 : (0 : Int) ≤ (k : Int) := by omega
      have i1 : (k : Int) < (s.size : Int) := by omega
      obtain ⟨c, hc⟩ : ∃ c, s[k] = c := ⟨_, rfl⟩
      have hdrop : s.data.toList.drop k = c :: s.data.toList.drop (k + 1) := by
        rw [drop_at (by rw [HL.out]; exact hlt)]
        congr 1
      rw [hdrop] at g3
      clear hdrop
      have htl : (s.data.toList.drop (k + 1)).length = s.size - (k + 1) := by rw [List.length_drop, HL.out]
      have hc256 : c.toNat < 256 := c.toNat_lt
      by_cases h128 : c = 128
      · subst h128
        rw [runD_end] at g3
        have hconv := run_string_of_own (l := o) HO.out HQ.out
        have HF := Lib.hid g3
        clear g3 htl hc256
        go_wp2_with fail
        go_ret2
        exact ⟨by rw [HF.out]; rfl, HB.out⟩
      · have h128' : ((c.toNat : Int) == 128) = false := asc_ne h128
        have hne : c.toNat ≠ 128 := fun e => h128 (UInt8.toNat_inj.1 e)
        by_cases hlo : c.toNat < 128
        · have hi : ¬ (128 : Int) < (c.toNat : Int) := by omega
          rw [runD_lit m o _ hlo, htl] at g3
          by_cases hend : s.size - (k + 1) < c.toNat + 1
          · have HF := Lib.hid (g3.trans (if_pos hend))
            have he : (s.size : Int) < (k : Int) + 1 + (c.toNat : Int) + 1 := by omega
            clear g3 htl hend h128 hne
            go_wp2_with fail
            go_ret2
            exact ⟨by rw [HF.out]; rfl, HB.out⟩
          · have hF2 := g3.trans (if_neg hend)
            have he : ¬ (s.size : Int) < (k : Int) + 1 + (c.toNat : Int) + 1 := by omega
            by_cases hfull : m < o.length + (c.toNat + 1)
            · have HF := Lib.hid (hF2.trans (if_pos hfull))
              have hq4 : (m : Int) - (q : Int) < (c.toNat : Int) + 1 := by have := HQ.out; omega
              clear g3 hF2 htl hend h128 hne hfull
              go_wp2_with fail
              go_ret2
              exact ⟨by rw [HF.out]; rfl, HB.out⟩
            · have hF3 := hF2.trans (if_neg hfull)
              have hq4 : ¬ (m : Int) - (q : Int) < (c.toNat : Int) + 1 := by have := HQ.out; omega
              have hq5 : q + (c.toNat + 1) ≤ m := by have := HQ.out; omega
              have hks : k + 1 + (c.toNat + 1) ≤ s.size := by omega
              rw [List.drop_drop] at hF3
              obtain ⟨X, hXe⟩ : ∃ X, (s.data.toList.drop (k + 1)).take (c.toNat + 1) = X := ⟨_, rfl⟩
              rw [hXe] at hF3
              have hX : X.length = c.toNat + 1 := by rw [← hXe, List.length_take, htl]; omega
              have HXat := Lib.hid (show ∀ j (hj : j < X.length) (h : k + 1 + j < s.size), X[j] = s[k + 1 + j] from fun j hj h => by
                subst hXe
                rw [List.getElem_take, List.getElem_drop]
                rfl)
              have HX := Lib.hid hX
              have HF3 := Lib.hid hF3
              clear g3 hF2 hF3 htl hend h128 hne hfull hX hXe
              have h1 := Lib.hid (show InTo N w o X q 0 (.slice A q C) wr from ⟨by rw [List.take_zero, List.append_nil, Nat.add_zero]; exact HO.out, HB.out⟩)
              go_wp2_with fail
              go_loopw [6, 11] (fun v iv wr2 => ∃ j : Nat, j ≤ (c.toNat + 1) ∧ iv = .int .i64 (j : Int) ∧ Hid (InTo N w o X q j v wr2)) (fun _ i _ => (c.toNat + 1) - (intOf i).toNat)
              case atStart => exact ⟨0, by omega, rfl, h1⟩
              case round =>
                clear h1
                obtain ⟨j, hj, rfl, HI⟩ := hrel
                obtain ⟨e1, e2⟩ := HI.out
                obtain ⟨A2, C2, hv2⟩ := own_form e1
                subst hv2
                have hNs : N ≤ wr.heap.size := by have := e2.size; rw [HNW.out] at this; exact this
                by_cases hjn : j < (c.toNat + 1)
                · have j0 : (0 : Int) ≤ (j : Int) := by omega
                  have j1 : (j : Int) < (c.toNat : Int) + 1 := by omega
                  obtain ⟨y, hy⟩ : ∃ y, s[k + 1 + j] = y := ⟨_, rfl⟩
                  have j2 : (k : Int) + 1 + (j : Int) < (s.size : Int) := by omega
                  have j3 : (0 : Int) ≤ (k : Int) + 1 + (j : Int) := by omega
                  have hyX : X[j]'(by rw [HX.out]; exact hjn) = y := by
                    rw [← hy]
                    exact HXat.out j (by rw [HX.out]; exact hjn) (by omega)
                  obtain ⟨g, cap, w3, hrun, hown3, hb3, _⟩ := app_one y wr e1 hNs (by omega)
                  have hN3 := Lib.hid (show InTo N w o X q (j + 1) (.slice (some ⟨g, 0, none⟩) (q + j + 1) cap) w3 from ⟨by rw [take_more HX.out hjn, ← List.append_assoc, hyX]; exact hown3, e2.trans hb3⟩)
                  clear HI e1 e2 hown3 hb3 hyX
                  go_wp2_with fail
                  go_roundw
                  case rel => exact ⟨j + 1, by omega, by go_num, hN3⟩
                  case measure => simp [intOf]; omega
                · have hje : j = (c.toNat + 1) := by omega
                  have j1 : ¬ (j : Int) < (c.toNat : Int) + 1 := by omega
                  have hN3 := Lib.hid (show UrTo N w m F s.data.toList (k + 1 + (c.toNat + 1)) (o ++ X) (.slice A2 (q + j) C2) wr from by
                    have hlen : (o ++ X).length = q + j := by rw [List.length_append, HQ.out, HX.out, hje]
                    have e := e1
                    rw [List.take_of_length_le (by rw [HX.out, hje]; exact Nat.le_refl _)] at e
                    exact ⟨by rw [hlen]; exact e, e2, HF3.out, by rw [hlen]; omega⟩)
                  clear hje
                  clear HI e1 e2
                  go_wp2_with fail
                  go_roundw
                  case rel => exact ⟨(k + 1 + (c.toNat + 1)), _, by omega, by go_num, hN3⟩
                  case measure => simp [intOf]; omega
        · have hi : (128 : Int) < (c.toNat : Int) := by omega
          have hi2 : 128 < c.toNat := by omega
          by_cases hend : k + 1 = s.size
          · rw [List.drop_eq_nil_of_le (by rw [HL.out, hend]; exact Nat.le_refl _), runD_cut m o hi2] at g3
            have HF := Lib.hid g3
            have he : (s.size : Int) < (k : Int) + 2 := by omega
            clear g3 htl hend h128 hne
            go_wp2_with fail
            go_ret2
            exact ⟨by rw [HF.out]; rfl, HB.out⟩
          · have he : ¬ (s.size : Int) < (k : Int) + 2 := by omega
            have hlt2 : k + 1 < s.size := by omega
            obtain ⟨y, hy⟩ : ∃ y, s[k + 1] = y := ⟨_, rfl⟩
            have hdrop : s.data.toList.drop (k + 1) = y :: s.data.toList.drop (k + 2) := by
              rw [drop_at (by rw [HL.out]; exact hlt2)]
              congr 1
            rw [hdrop, runD_run m o y _ hi2] at g3
            obtain ⟨z, hz⟩ : ∃ z, 257 - c.toNat = z := ⟨_, rfl⟩
            have hzi : (257 : Int) - (c.toNat : Int) = (z : Int) := by omega
            rw [hz] at g3
            by_cases hfull : m < o.length + z
            · have HF := Lib.hid (g3.trans (if_pos hfull))
              have hq4 : (m : Int) - (q : Int) < (z : Int) := by have := HQ.out; omega
              clear g3 htl hend h128 hne hfull hdrop hz
              go_wp2_with fail
              go_ret2
              exact ⟨by rw [HF.out]; rfl, HB.out⟩
            · have hF3 := g3.trans (if_neg hfull)
              have hq4 : ¬ (m : Int) - (q : Int) < (z : Int) := by have := HQ.out; omega
              have hq5 : q + z ≤ m := by have := HQ.out; omega
              obtain ⟨X, hXe⟩ : ∃ X, List.replicate z y = X := ⟨_, rfl⟩
              rw [hXe] at hF3
              have hX : X.length = z := by rw [← hXe, List.length_replicate]
              have HXat := Lib.hid (show ∀ j (hj : j < X.length), X[j] = y from fun j hj => by
                subst hXe
                rw [List.getElem_replicate])
              have HX := Lib.hid hX
              have HF3 := Lib.hid hF3
              clear g3 hF3 htl hend h128 hne hfull hX hXe hdrop hz
              have h1 := Lib.hid (show InTo N w o X q 0 (.slice A q C) wr from ⟨by rw [List.take_zero, List.append_nil, Nat.add_zero]; exact HO.out, HB.out⟩)
              go_wp2_with fail
              go_loopw [6, 11] (fun v iv wr2 => ∃ j : Nat, j ≤ z ∧ iv = .int .i64 (j : Int) ∧ Hid (InTo N w o X q j v wr2)) (fun _ i _ => z - (intOf i).toNat)
              case atStart => exact ⟨0, by omega, rfl, h1⟩
              case round =>
                clear h1
                obtain ⟨j, hj, rfl, HI⟩ := hrel
                obtain ⟨e1, e2⟩ := HI.out
                obtain ⟨A2, C2, hv2⟩ := own_form e1
                subst hv2
                have hNs : N ≤ wr.heap.size := by have := e2.size; rw [HNW.out] at this; exact this
                by_cases hjn : j < z
                · have j0 : (0 : Int) ≤ (j : Int) := by omega
                  have j1 : (j : Int) < (z : Int) := by omega
                  have j2 : (k : Int) + 1 < (s.size : Int) := by omega
                  have j3 : (0 : Int) ≤ (k : Int) + 1 := by omega
                  have hyX : X[j]'(by rw [HX.out]; exact hjn) = y := HXat.out j (by rw [HX.out]; exact hjn)
                  obtain ⟨g, cap, w3, hrun, hown3, hb3, _⟩ := app_one y wr e1 hNs (by omega)
                  have hN3 := Lib.hid (show InTo N w o X q (j + 1) (.slice (some ⟨g, 0, none⟩) (q + j + 1) cap) w3 from ⟨by rw [take_more HX.out hjn, ← List.append_assoc, hyX]; exact hown3, e2.trans hb3⟩)
                  clear HI e1 e2 hown3 hb3 hyX
                  go_wp2_with fail
                  go_roundw
                  case rel => exact ⟨j + 1, by omega, by go_num, hN3⟩
                  case measure => simp [intOf]; omega
                · have hje : j = z := by omega
                  have j1 : ¬ (j : Int) < (z : Int) := by omega
                  have hN3 := Lib.hid (show UrTo N w m F s.data.toList (k + 2) (o ++ X) (.slice A2 (q + j) C2) wr from by
                    have hlen : (o ++ X).length = q + j := by rw [List.length_append, HQ.out, HX.out, hje]
                    have e := e1
                    rw [List.take_of_length_le (by rw [HX.out, hje]; exact Nat.le_refl _)] at e
                    exact ⟨by rw [hlen]; exact e, e2, HF3.out, by rw [hlen]; omega⟩)
                  clear hje
                  clear HI e1 e2
                  go_wp2_with fail
                  go_roundw
                  case rel => exact ⟨(k + 2), _, by omega, by go_num, hN3⟩
                  case measure => simp [intOf]; omega
    · obtain rfl : k = s.size := by omega
      rw [List.drop_eq_nil_of_le (by rw [HL.out]; exact Nat.le_refl _), runD_nil] at g3
      have HF := Lib.hid g3
      clear g3
      go_wp2_with fail
      go_ret2
      exact ⟨by rw [HF.out]; rfl, HB.out⟩
end Go.Proofs.Ythioafndepkhoaa
