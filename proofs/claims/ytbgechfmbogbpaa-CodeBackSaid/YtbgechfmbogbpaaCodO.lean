/-
  code's rarestFirst: the symbols that occur, the rarest first.
-/
import Derived.Test.YtbgechfmbogbpaaCodN
import Derived.Test.YtbgechfmbogbpaaCodI
namespace Go.Proofs.Ytbgechfmbogbpaa
open Go.RowKit Cod

/-- The symbols that occur among the first k. -/
def sgK (l : List Int) : Nat → List Int
  | 0 => []
  | k + 1 => if 0 < l.getD k 0 then sgK l k ++ [(k : Int)] else sgK l k
theorem sgK_le (l : List Int) : ∀ k, (sgK l k).length ≤ k
  | 0 => Nat.le_refl _
  | k + 1 => by
    have := sgK_le l k
    simp only [sgK]
    split
    · simp; omega
    · omega
theorem sgK_in (l : List Int) : ∀ k, ∀ x ∈ sgK l k, 0 ≤ x ∧ x.toNat < k
  | 0, x, h => by simp [sgK] at h
  | k + 1, x, h => by
    simp only [sgK] at h
    split at h
    · rcases List.mem_append.1 h with h1 | h1
      · have := sgK_in l k x h1; omega
      · simp at h1; subst h1; omega
    · have := sgK_in l k x h; omega
theorem iat_grown {w w' : World} {N R : Nat} {A : Option Addr} {l : List Int} (h : IBelow N w A l) (hg : w.grownBy w' (some R)) (hN : N ≤ R) (hs : N ≤ w.heap.size) : IAt w' A l := fun j hj => by
  obtain ⟨b, off, e, hlt, hc⟩ := h j hj
  exact ⟨b, off, e, by have := hg.size; omega, hg.cell (a := ⟨b, _, none⟩) hc (by show some b ≠ some R; intro q; injection q with q; omega)⟩

set_option maxRecDepth 100000 in
set_option maxHeartbeats 4000000 in
theorem rarest_any (A : Option Addr) (cap : Nat) (l : List Int) (w : World) (h : IAt w A l) (hl : l.length < 20) (hp : 0 < (sgK l l.length).length) :
    Calls Try.prog 39 #[.slice A l.length cap] w fun e w' => ∃ R c : Nat, e = .returned (.slice (some ⟨R, 0, none⟩) (sgK l l.length).length c) ∧
      OwnI w' w.heap.size (.slice (some ⟨R, 0, none⟩) (sgK l l.length).length c) (sgK l l.length).length (insS 0 (fun a b => decide (l.getD a.toNat 0 < l.getD b.toNat 0)) (sgK l l.length)) ∧ Below w.heap.size w w' := by
  obtain ⟨i0, hi, hz0, hz1, hz2⟩ := info_parts infoI
  have HA := Lib.hid h
  have HIn := Lib.hid (sgK_in l l.length)
  have HLe := Lib.hid (sgK_le l)
  have HL := Lib.hid (show l.length < 20 from hl)
  obtain ⟨N, hN⟩ : ∃ N, w.heap.size = N := ⟨_, rfl⟩
  have HS := Lib.hid hN
  obtain ⟨n, hn⟩ : ∃ n, l.length = n := ⟨_, rfl⟩
  have HN := Lib.hid hn
  obtain ⟨V, hV⟩ : ∃ V, w.alloc (.cells #[.slice A n cap] 22) = V := ⟨_, rfl⟩
  have HVV := Lib.hid hV
  have HV0 := Lib.hid (show Below N w V ∧ N + 1 ≤ V.heap.size from ⟨by rw [← hV, ← hN]; exact (Below.refl _ w).alloc (Nat.le_refl _) _, by rw [← hV, World.size_alloc, hN]; exact Nat.le_refl _⟩)
  have HK0 := Lib.hid (show Blk V N 22 #[.slice A n cap] by rw [← hV, ← hN]; exact Blk.new _ _ _)
  have HO0 := Lib.hid (show OwnI V (N + 1) (.slice none 0 0) (sgK l 0).length (sgK l 0) from World.ownsRow_nil _ _ _ _)
  rw [hN]
  rw [hn] at hl HIn hp ⊢
  have hnb : (n : Int) < 20 := by omega
  have hn0 : (0 : Int) ≤ (n : Int) := by omega
  obtain ⟨sF, hsF⟩ : ∃ sF, sgK l n = sF := ⟨_, rfl⟩
  have HSF := Lib.hid hsF
  rw [hsF] at HIn hp ⊢
  obtain ⟨xF, hxF⟩ : ∃ xF, insS 0 (fun a b => decide (l.getD a.toNat 0 < l.getD b.toNat 0)) sF = xF := ⟨_, rfl⟩
  have HXF := Lib.hid hxF
  rw [hxF]
  clear h hV hN hn hsF hxF
  go_enter Try.func39, Try.ntmps39
  go_wp2_with fail
  rw [HVV.out, HS.out]
  clear HVV
  go_loopw [3, 8] (fun v iv wr => ∃ (k : Nat) (A2 : Option Addr) (c2 : Nat), k ≤ n ∧ iv = .int .i64 (k : Int) ∧ v = .slice A2 (sgK l k).length c2 ∧ Hid (Below N w wr ∧ N + 1 ≤ wr.heap.size) ∧ Hid (Blk wr N 22 #[.slice A n cap]) ∧ Hid (OwnI wr (N + 1) (.slice A2 (sgK l k).length c2) (sgK l k).length (sgK l k))) (fun _ iv _ => n - (intOf iv).toNat)
  case atStart => exact ⟨0, none, 0, by omega, rfl, rfl, HV0, HK0, HO0⟩
  case round =>
    clear HV0 HK0 HO0
    obtain ⟨k, A2, c2, hk, rfl, rfl, HB, HK, HO⟩ := hrel
    by_cases hlt : k < n
    · have hkl : k < l.length := by rw [HN.out]; exact hlt
      have hik : (k : Int) < (n : Int) := by omega
      have hik0 : (0 : Int) ≤ (k : Int) := by omega
      obtain ⟨b, off, rfl, _, c0⟩ := (HA.out.below (HS.out ▸ HB.out.1)) k hkl
      have HG := Lib.hid (gd l hkl)
      obtain ⟨x, hx⟩ : ∃ x, l[k] = x := ⟨_, rfl⟩
      have HX := Lib.hid (show l.getD k 0 = x by rw [HG.out, hx])
      rw [hx] at c0
      clear hx
      by_cases hx0 : 0 < x
      · have HSG := Lib.hid (show sgK l (k + 1) = sgK l k ++ [(k : Int)] by simp only [sgK]; rw [HX.out, if_pos hx0])
        obtain ⟨s, hs⟩ : ∃ s, sgK l k = s := ⟨_, rfl⟩
        have hsl : s.length < 20 := by have := HLe.out k; rw [hs] at this; omega
        rw [hs] at HO HSG
        obtain ⟨m, hm⟩ : ∃ m, s.length = m := ⟨_, rfl⟩
        have HM := Lib.hid hm
        rw [hs, hm]
        rw [hm] at HO hsl
        clear hs hm
        have hNs := HB.out.2
        go_wp2_with (at_builtin; refine wpList_append_lies _ rfl _ _ _ rfl (N + 1) 3 i0 (.int .i64 0) 1 8 Try.underlying22 hi hz0 hz1 hz2 rfl (by decide) (.slice A2 m c2) m (iC s) rfl (by exact World.ownsRow.alloc HO.out _) ⟨wr.heap.size, 0, none⟩ 1 1 [.int .i64 (k : Int)] rfl rfl (World.news_of_block (heap_alloc_new wr _)) (by simp [Value.oneCell']) (by omega) (by unfold maxLen; omega) (by omega) (by simp; omega) (wr.heap.size + 1) (by simp) ?_; intro g cap2 w1 hown1 hgrow hat hlt1)
        have hB1 : Below N w (wr.alloc (.cells #[.int .i64 (k : Int)] 3)) := HB.out.1.alloc (by omega) _
        have HB1 := Lib.hid (show Below N w w1 ∧ N + 1 ≤ w1.heap.size from ⟨hB1.grown hgrow (by simp; omega) (fun r hr => by have := (HO.out.lt r hr).1; omega), by have := hgrow.size; simp at this; omega⟩)
        have HK1 := Lib.hid (show Blk w1 N 22 #[.slice (some ⟨b, off, none⟩) n cap] from (HK.out.alloc _).grown hgrow (fun e => by have := (HO.out.lt N e.symm).1; omega))
        have HO1 := Lib.hid (show OwnI w1 (N + 1) (.slice (some ⟨g, 0, none⟩) (sgK l (k + 1)).length cap2) (sgK l (k + 1)).length (sgK l (k + 1)) by
          rw [HSG.out, List.length_append, HM.out]
          unfold OwnI
          rw [iC_snoc]
          exact hown1)
        have HLN := Lib.hid (show (sgK l (k + 1)).length = m + 1 by rw [HSG.out, List.length_append, HM.out]; rfl)
        clear hown1 hgrow hat hlt1 hB1
        go_roundw
        case rel => exact ⟨k + 1, some ⟨g, 0, none⟩, cap2, by omega, by go_num, by rw [HLN.out], HB1, HK1, HO1⟩
        case measure => simp [intOf]; omega
      · have HSG := Lib.hid (show sgK l (k + 1) = sgK l k by simp only [sgK]; rw [HX.out, if_neg hx0])
        obtain ⟨s, hs⟩ : ∃ s, sgK l k = s := ⟨_, rfl⟩
        rw [hs] at HO HSG ⊢
        clear hs
        go_wp2_with fail
        go_roundw
        case rel => exact ⟨k + 1, A2, c2, by omega, by go_num, by rw [HSG.out], HB, HK, by rw [HSG.out]; exact HO⟩
        case measure => simp [intOf]; omega
    · obtain rfl : k = n := by omega
      have hs := HSF.out
      rw [hs] at HO ⊢
      have hsl : sF.length < 20 := by have := HLe.out k; rw [hs] at this; omega
      obtain ⟨R, rfl⟩ : ∃ R, A2 = some ⟨R, 0, none⟩ := by
        rcases HO.out.2 with ⟨_, h2⟩ | ⟨g, c3, _, h1, _⟩
        · omega
        · injection h1 with h1 h2 h3
          exact ⟨g, h1⟩
      obtain ⟨hseg, hNR, hmc, hcm⟩ := seg_own HO.out
      have hIB : IBelow N wr A l := fun j hj => by
        obtain ⟨b, off, e, hlt2, hc⟩ := HA.out j hj
        rw [HS.out] at hlt2
        exact ⟨b, off, e, hlt2, (HB.out.1.cell (p := ⟨b, _, none⟩) hlt2).trans hc⟩
      have HC : ∀ W : World, wr.grownBy W (some R) → ∀ a b : Int, (0 ≤ a ∧ a.toNat < k) → (0 ≤ b ∧ b.toNat < k) → Calls Try.prog 49 #[.int .i64 a, .int .i64 b, .pointer (some ⟨N, 0, none⟩)] W fun e w' => e = .returned (.int .i64 (cmpI (l.getD a.toNat 0) (l.getD b.toNat 0))) ∧ ∃ m, w' = W.drewN m := fun W hg a b ha hb => by
        have hcell : W.cell? ⟨N, 0, none⟩ = some (.slice A l.length cap) := by
          rw [HN.out]
          exact ((HK.out.grown hg (by intro q; injection q with q; omega)).cell 0).trans rfl
        have h1 := rarest1_any A cap N l W (iat_grown hIB hg (by omega) (by have := HB.out.2; omega)) hcell (by have := HL.out; omega) a.toNat b.toNat (by rw [HN.out]; exact ha.2) (by rw [HN.out]; exact hb.2)
        rwa [Int.toNat_of_nonneg ha.1, Int.toNat_of_nonneg hb.1] at h1
      have HSO := Lib.hid (sort_ints R (c2 * 1) N sF (fun a => l.getD a.toNat 0) (fun x => 0 ≤ x ∧ x.toNat < k) wr hseg c2 (by omega) hp hsl HIn.out HC)
      have HXL := Lib.hid (show xF.length = sF.length by rw [← HXF.out]; exact insK_len _ _ _ _)
      rw [HXF.out] at HSO
      clear HC hIB hs hseg HK HO HIn
      go_wp2_with fail
      refine HSO.out.mono ?_
      rintro e w1 ⟨rfl, h1, h2⟩
      have HO1 := Lib.hid (show OwnI w1 N (.slice (some ⟨R, 0, none⟩) sF.length c2) sF.length xF from own_seg h1 (by omega) hmc hcm (by rw [iC_len, HXL.out, Nat.mul_one]))
      have HB1 := Lib.hid (HB.out.1.grown h2 (by have := HB.out.2; omega) (fun r hr => by injection hr with hr; omega))
      clear h1 h2
      go_wp2_with fail
      go_ret
      first | exact ⟨R, ⟨c2, rfl⟩, HO1.out, HB1.out⟩ | exact ⟨R, c2, rfl, HO1.out, HB1.out⟩
end Go.Proofs.Ytbgechfmbogbpaa
