/-
  slices.Clone of a row of coins; a row of coins put behind another.
-/
import Derived.Test.YtbgechfmbogbpaaCodQ
namespace Go.Proofs.Ytbgechfmbogbpaa
open Go.RowKit Cod

theorem klit0 (W : World) (N : Nat) (hN : N ≤ W.heap.size) : OwnK (W.alloc (.cells #[] 85)) N (.slice (some ⟨W.heap.size, 0, none⟩) 0 0) 0 [] :=
  World.ownsRow_lit W #[] 0 hN (by unfold maxLen; omega) rfl
theorem KAt.news {D : Nat} {w : World} {R : Nat} {l : List C2} (h : KAt D w (some ⟨R, 0, none⟩) l) : ∀ j u, (kC l)[j]? = some u → w.cell? ((⟨R, 0, none⟩ : Addr).add j) = some u := fun j u hu => by
  have hj : j < (kC l).length := by
    rcases Nat.lt_or_ge j (kC l).length with h1 | h1
    · exact h1
    · rw [List.getElem?_eq_none h1] at hu; cases hu
  rw [kC_len] at hj
  have hadd : (⟨R, 0, none⟩ : Addr).add j = ⟨R, j, none⟩ := by unfold Addr.add; split <;> simp_all
  rw [hadd]
  obtain ⟨b, off, e, _, c0, c1⟩ := h (j / 2) (by omega)
  injection e with e
  injection e with e1 e2
  subst e1 e2
  obtain ⟨g0, g1⟩ := kC_at l (j / 2) (by omega)
  rw [Nat.zero_add] at c0 c1
  rcases (show j % 2 = 0 ∨ j % 2 = 1 by omega) with h2 | h2
  · rw [show j / 2 * 2 = j by omega] at g0 c0
    rw [g0] at hu
    injection hu with hu
    rw [← hu]
    exact c0
  · rw [show j / 2 * 2 + 1 = j by omega] at g1 c1
    rw [g1] at hu
    injection hu with hu
    rw [← hu]
    exact c1

set_option maxRecDepth 100000 in
set_option maxHeartbeats 4000000 in
theorem cloneK_any (R cap : Nat) (l : List C2) (w : World) (h : KAt w.heap.size w (some ⟨R, 0, none⟩) l) (hl0 : 0 < l.length) (hl : l.length ≤ 1000) :
    Calls Try.prog 51 #[.slice (some ⟨R, 0, none⟩) l.length cap] w fun e w' => ∃ g c', e = .returned (.slice (some ⟨g, 0, none⟩) l.length c') ∧ OwnK w' w.heap.size (.slice (some ⟨g, 0, none⟩) l.length c') l.length l ∧ Below w.heap.size w w' := by
  obtain ⟨n, hn⟩ : ∃ n, l.length = n := ⟨_, rfl⟩
  have HN := Lib.hid hn
  rw [hn]
  rw [hn] at hl0 hl
  have he : ∀ w : World, (binOp .eql 65 (.slice (some ⟨R, 0, none⟩) n cap) (.slice none 0 0)).run Try.prog w = .ok (.bool false) w := fun _ => rfl
  obtain ⟨i0, hi, hz0, hz1, hz2⟩ := info_parts infoK
  have H0 := Lib.hid (klit0 w w.heap.size (Nat.le_refl _))
  have HB0 := Lib.hid ((Below.refl w.heap.size w).alloc (Nat.le_refl _) (.cells #[] 85))
  have H1 := Lib.hid (h.below HB0.out)
  clear hn h
  go_enter Try.func51, Try.ntmps51
  go_wp2_with (at_builtin; refine wpList_append_lies _ rfl _ _ _ rfl w.heap.size 85 i0 (.agg #[.int .i64 0, .bool false]) 2 16 Try.underlying65 hi hz0 hz1 hz2 rfl (by decide) (.slice (some ⟨w.heap.size, 0, none⟩) 0 0) 0 [] rfl (by exact H0.out) ⟨R, 0, none⟩ n cap (kC l) rfl (by rw [kC_len, HN.out]) (by exact H1.out.news) (kC_one l) hl0 (by unfold maxLen; omega) (by omega) (by simp) (w.heap.size + 1) (by simp) ?_; intro g cap2 w1 hown1 hgrow hat hlt1)
  have HO := Lib.hid (show OwnK w1 w.heap.size (.slice (some ⟨g, 0, none⟩) n cap2) n l by rw [Nat.zero_add] at hown1; exact hown1)
  have HB1 := Lib.hid (HB0.out.grown hgrow (by simp) (fun k hk => by injection hk with hk; show w.heap.size ≤ k; rw [← hk]; exact Nat.le_refl _))
  clear hown1 hgrow hat hlt1
  go_ret
  first | exact ⟨g, ⟨cap2, rfl⟩, HO.out, HB1.out⟩ | exact ⟨g, cap2, rfl, HO.out, HB1.out⟩
end Go.Proofs.Ytbgechfmbogbpaa
