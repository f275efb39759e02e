/-
  value, the document's: Texts, List, Same, where all is equal.
-/
import Derived.Test.YthihmbicalacfaaMatRh
namespace Go.Proofs.Ythihmbicalacfaa
open Go.RowKit Fix Mat

theorem texts_nil (w : World) : Calls Try.prog 50 #[.slice none 0 0, .slice none 0 0] w fun e w' => e = .returned (.bool true) ∧ w = w' := by
  go_enter Try.func50, Try.ntmps50
  go_wp2_with fail
  go_loopw [13] (fun i wr => i = .int .i64 0 ∧ wr = w) (fun i _ => 0)
  case atStart => exact ⟨rfl, rfl⟩
  case round =>
    obtain ⟨rfl, rfl⟩ := hrel
    go_wp2_with fail
    go_ret
    exact ⟨rfl, rfl⟩
theorem list_nil (w : World) : Calls Try.prog 51 #[.slice none 0 0, .slice none 0 0] w fun e w' => e = .returned (.bool true) ∧ w = w' := by
  go_enter Try.func51, Try.ntmps51
  go_wp2_with fail
  go_loopw [13] (fun i wr => i = .int .i64 0 ∧ wr = w) (fun i _ => 0)
  case atStart => exact ⟨rfl, rfl⟩
  case round =>
    obtain ⟨rfl, rfl⟩ := hrel
    go_wp2_with fail
    go_ret
    exact ⟨rfl, rfl⟩

set_option maxRecDepth 100000 in
set_option maxHeartbeats 4000000 in
theorem same_leaf (k n : Int) (w : World) :
    Calls Try.prog 29 #[.agg #[.int .i64 k, .int .i64 n, .int .i64 0, .string ⟨#[]⟩, .slice none 0 0, .slice none 0 0], .agg #[.int .i64 k, .int .i64 n, .int .i64 0, .string ⟨#[]⟩, .slice none 0 0, .slice none 0 0]] w fun e w' => e = .returned (.bool true) ∧ Below w.heap.size w w' := by
  obtain ⟨N, hN⟩ : ∃ N, w.heap.size = N := ⟨_, rfl⟩
  obtain ⟨B, hB⟩ : ∃ B, N + 1 = B := ⟨_, rfl⟩
  obtain ⟨V, hV⟩ : ∃ V, (w.alloc (.cells #[.int .i64 k, .int .i64 n, .int .i64 0, .string ⟨#[]⟩, .slice none 0 0, .slice none 0 0] 31)).alloc (.cells #[.int .i64 k, .int .i64 n, .int .i64 0, .string ⟨#[]⟩, .slice none 0 0, .slice none 0 0] 31) = V := ⟨_, rfl⟩
  have bA : Blk V N 31 #[.int .i64 k, .int .i64 n, .int .i64 0, .string ⟨#[]⟩, .slice none 0 0, .slice none 0 0] := by
    rw [← hV, ← hN]
    exact (Blk.new w _ _).alloc _
  have bB : Blk V B 31 #[.int .i64 k, .int .i64 n, .int .i64 0, .string ⟨#[]⟩, .slice none 0 0, .slice none 0 0] := by
    rw [← hV]
    have := Blk.new (w.alloc (.cells #[.int .i64 k, .int .i64 n, .int .i64 0, .string ⟨#[]⟩, .slice none 0 0, .slice none 0 0] 31)) 31 #[.int .i64 k, .int .i64 n, .int .i64 0, .string ⟨#[]⟩, .slice none 0 0, .slice none 0 0]
    rw [World.size_alloc, hN, hB] at this
    exact this
  have HB := Lib.hid (show Below N w V by rw [← hV, ← hN]; exact ((Below.refl _ w).alloc (Nat.le_refl _) _).alloc (by simp) _)
  have HN := Lib.hid (show N ≤ V.heap.size from Nat.le_of_lt bA.lt)
  obtain ⟨⟨a0, a1, a2, a3, a4, a5⟩, _⟩ := six_cells bA
  obtain ⟨⟨b0, b1, b2, b3, b4, b5⟩, _⟩ := six_cells bB
  rw [hN]
  go_enter Try.func29, Try.ntmps29
  go_upto_region 1 with fail
  clear bA bB hV hN hB
  go_wp2_with fail
  refine (texts_nil V).mono ?_
  rintro e w2 ⟨rfl, rfl⟩
  go_wp2_with fail
  refine (list_nil V).mono ?_
  rintro e w2 ⟨rfl, rfl⟩
  go_wp2_with fail
  go_ret
  exact ⟨rfl, HB.out⟩

set_option maxRecDepth 100000 in
set_option maxHeartbeats 4000000 in
theorem list_row (g1 g2 c1 c2 : Nat) (l : List (Int × Int)) (w : World) (h1 : ORow w g1 l) (h2 : ORow w g2 l) (hl : l.length = 6) :
    Calls Try.prog 51 #[.slice (some ⟨g1, 0, none⟩) 6 c1, .slice (some ⟨g2, 0, none⟩) 6 c2] w fun e w' => e = .returned (.bool true) ∧ Below w.heap.size w w' := by
  have H1 := Lib.hid h1
  have H2 := Lib.hid h2
  have hg1 := h1.lt (by omega)
  have hg2 := h2.lt (by omega)
  obtain ⟨N, hN⟩ : ∃ N, w.heap.size = N := ⟨_, rfl⟩
  rw [hN] at hg1 hg2
  have HG := Lib.hid (And.intro hg1 hg2)
  have HL := Lib.hid hl
  have HR : Hid (Below N w w) := Lib.hid (by rw [← hN]; exact Below.refl _ w)
  have HN := Lib.hid hN
  rw [hN]
  clear h1 h2 hg1 hg2 hl hN
  go_enter Try.func51, Try.ntmps51
  go_wp2_with fail
  go_loopw [13] (fun i wr => ∃ k : Nat, k ≤ 6 ∧ i = .int .i64 (k : Int) ∧ Hid (Below N w wr)) (fun i _ => 6 - (intOf i).toNat)
  case atStart => exact ⟨0, by omega, rfl, HR⟩
  case round =>
    clear HR
    obtain ⟨j, hj, rfl, HI⟩ := hrel
    by_cases hlt : j < 6
    · have hjk : (j : Int) < 6 := by omega
      have hj0 : (0 : Int) ≤ (j : Int) := by omega
      have hjn : (j : Int).toNat = j := by omega
      have hjl : j < l.length := by rw [HL.out]; exact hlt
      obtain ⟨r0, r1, r2, r3, r4, r5⟩ := (H1.out.below HI.out HG.out.1).six hjl
      obtain ⟨s0, s1, s2, s3, s4, s5⟩ := (H2.out.below HI.out HG.out.2).six hjl
      obtain ⟨x, hx⟩ : ∃ x, l[j].1 = x := ⟨_, rfl⟩
      obtain ⟨y, hy⟩ : ∃ y, l[j].2 = y := ⟨_, rfl⟩
      rw [hx] at r0 s0
      rw [hy] at r1 s1
      clear hx hy hjl
      obtain ⟨z, hz⟩ : ∃ z, j * 6 = z := ⟨_, rfl⟩
      rw [hz] at r0 r1 r2 r3 r4 r5 s0 s1 s2 s3 s4 s5
      go_upto_region 6 with fail
      go_still_tail 8, (by kernel_rfl)
      obtain ⟨wd, hwd⟩ : ∃ wd, ({ heap := wr.heap, tape := wr.tape, drawn := wr.drawn + 1, os := wr.os, output := wr.output } : World) = wd := ⟨_, rfl⟩
      have HId := Lib.hid (show Below N w wd by rw [← hwd]; exact below_drewN HI.out 1)
      have e0 : wd.cell? ⟨g1, z, none⟩ = some (.int .i64 x) := by rw [← hwd]; exact r0
      have e1 : wd.cell? ⟨g1, z + 1, none⟩ = some (.int .i64 y) := by rw [← hwd]; exact r1
      have e2 : wd.cell? ⟨g1, z + 2, none⟩ = some (.int .i64 0) := by rw [← hwd]; exact r2
      have e3 : wd.cell? ⟨g1, z + 3, none⟩ = some (.string ⟨#[]⟩) := by rw [← hwd]; exact r3
      have e4 : wd.cell? ⟨g1, z + 4, none⟩ = some (.slice none 0 0) := by rw [← hwd]; exact r4
      have e5 : wd.cell? ⟨g1, z + 5, none⟩ = some (.slice none 0 0) := by rw [← hwd]; exact r5
      have d0 : wd.cell? ⟨g2, z, none⟩ = some (.int .i64 x) := by rw [← hwd]; exact s0
      have d1 : wd.cell? ⟨g2, z + 1, none⟩ = some (.int .i64 y) := by rw [← hwd]; exact s1
      have d2 : wd.cell? ⟨g2, z + 2, none⟩ = some (.int .i64 0) := by rw [← hwd]; exact s2
      have d3 : wd.cell? ⟨g2, z + 3, none⟩ = some (.string ⟨#[]⟩) := by rw [← hwd]; exact s3
      have d4 : wd.cell? ⟨g2, z + 4, none⟩ = some (.slice none 0 0) := by rw [← hwd]; exact s4
      have d5 : wd.cell? ⟨g2, z + 5, none⟩ = some (.slice none 0 0) := by rw [← hwd]; exact s5
      have hwj : IntKind.i64.wrap (j : Int) = (j : Int) := IntWalk.i64_in _ (by omega)
      have hww : IntKind.i64.wrap ((j : Int) + 1) = (j : Int) + 1 := IntWalk.i64_in _ (by omega)
      rw [hwd]
      clear hwd r0 r1 r2 r3 r4 r5 s0 s1 s2 s3 s4 s5
      repeat still_step
      try refine wpStill_nil ?_
      go_wp2_with fail
      refine (same_leaf x y wd).mono ?_
      rintro e w5 ⟨rfl, hb5⟩
      have HI5 := Lib.hid (HId.out.trans (hb5.mono (by rw [← HN.out]; exact HId.out.size)))
      clear hb5 e0 e1 e2 e3 e4 e5 d0 d1 d2 d3 d4 d5 hz
      go_wp2_with fail
      go_roundw
      case rel => exact ⟨j + 1, by omega, by go_num, HI5⟩
      case measure => simp [intOf]; omega
    · obtain rfl : j = 6 := by omega
      rw [show ((6 : Nat) : Int) = 6 from rfl]
      go_wp2_with fail
      go_ret
      exact ⟨rfl, HI.out⟩

set_option maxRecDepth 100000 in
set_option maxHeartbeats 4000000 in
theorem same_row (g1 g2 c1 c2 : Nat) (l : List (Int × Int)) (w : World) (h1 : ORow w g1 l) (h2 : ORow w g2 l) (hl : l.length = 6) :
    Calls Try.prog 29 #[.agg #[.int .i64 6, .int .i64 0, .int .i64 0, .string ⟨#[]⟩, .slice none 0 0, .slice (some ⟨g1, 0, none⟩) 6 c1], .agg #[.int .i64 6, .int .i64 0, .int .i64 0, .string ⟨#[]⟩, .slice none 0 0, .slice (some ⟨g2, 0, none⟩) 6 c2]] w fun e w' => e = .returned (.bool true) ∧ Below w.heap.size w w' := by
  obtain ⟨N, hN⟩ : ∃ N, w.heap.size = N := ⟨_, rfl⟩
  obtain ⟨B, hB⟩ : ∃ B, N + 1 = B := ⟨_, rfl⟩
  obtain ⟨V, hV⟩ : ∃ V, (w.alloc (.cells #[.int .i64 6, .int .i64 0, .int .i64 0, .string ⟨#[]⟩, .slice none 0 0, .slice (some ⟨g1, 0, none⟩) 6 c1] 31)).alloc (.cells #[.int .i64 6, .int .i64 0, .int .i64 0, .string ⟨#[]⟩, .slice none 0 0, .slice (some ⟨g2, 0, none⟩) 6 c2] 31) = V := ⟨_, rfl⟩
  have bA : Blk V N 31 #[.int .i64 6, .int .i64 0, .int .i64 0, .string ⟨#[]⟩, .slice none 0 0, .slice (some ⟨g1, 0, none⟩) 6 c1] := by
    rw [← hV, ← hN]
    exact (Blk.new w _ _).alloc _
  have bB : Blk V B 31 #[.int .i64 6, .int .i64 0, .int .i64 0, .string ⟨#[]⟩, .slice none 0 0, .slice (some ⟨g2, 0, none⟩) 6 c2] := by
    rw [← hV]
    have := Blk.new (w.alloc (.cells #[.int .i64 6, .int .i64 0, .int .i64 0, .string ⟨#[]⟩, .slice none 0 0, .slice (some ⟨g1, 0, none⟩) 6 c1] 31)) 31 #[.int .i64 6, .int .i64 0, .int .i64 0, .string ⟨#[]⟩, .slice none 0 0, .slice (some ⟨g2, 0, none⟩) 6 c2]
    rw [World.size_alloc, hN, hB] at this
    exact this
  have HB := Lib.hid (show Below N w V by rw [← hV, ← hN]; exact ((Below.refl _ w).alloc (Nat.le_refl _) _).alloc (by simp) _)
  have HN := Lib.hid (show N ≤ V.heap.size from Nat.le_of_lt bA.lt)
  have hg1 := h1.lt (by omega)
  have hg2 := h2.lt (by omega)
  rw [hN] at hg1 hg2
  have HLs := Lib.hid (list_row g1 g2 c1 c2 l V (h1.below HB.out hg1) (h2.below HB.out hg2) hl)
  obtain ⟨⟨a0, a1, a2, a3, a4, a5⟩, _⟩ := six_cells bA
  obtain ⟨⟨b0, b1, b2, b3, b4, b5⟩, _⟩ := six_cells bB
  rw [hN]
  go_enter Try.func29, Try.ntmps29
  go_upto_region 1 with fail
  clear bA bB hV hN hB h1 h2 hl hg1 hg2
  go_wp2_with fail
  refine (texts_nil V).mono ?_
  rintro e w2 ⟨rfl, rfl⟩
  go_wp2_with fail
  refine HLs.out.mono ?_
  rintro e w2 ⟨rfl, hb⟩
  have HF := Lib.hid (HB.out.trans (hb.mono HN.out))
  clear hb
  go_wp2_with fail
  go_ret
  exact ⟨rfl, HF.out⟩
end Go.Proofs.Ythihmbicalacfaa
