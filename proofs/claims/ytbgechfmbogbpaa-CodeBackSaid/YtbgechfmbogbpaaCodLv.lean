/-
  What the statements of code sample (lives), where Lengths answers its one sample as it should.
-/
import Derived.Test.YtbgechfmbogbpaaCodJ
import Derived.Test.YtbgechfmbogbpaaCodX
import Derived.Test.YtbgechfmbogbpaaCodW
import Derived.Test.YtbgechfmbogbpaaBitL
namespace Go.Proofs.Ytbgechfmbogbpaa
open Go.RowKit Cod Bt

/-- Lengths of 5, 0, 1, 1. -/
def LenSpec : Prop := ∀ (W : World) (A : Option Addr) (cap : Nat), IAt W A [5, 0, 1, 1] → Calls Try.prog 17 #[.slice A 4 cap, .int .i64 15] W fun e w' => ∃ R : Nat, e = .returned (.tuple #[.slice (some ⟨R, 0, none⟩) 4 4, .int .i64 0]) ∧ W.heap.size ≤ R ∧ IRow w' R [1, 0, 2, 2] ∧ Below W.heap.size W w'
theorem lit_row (W : World) (l : List Int) : IRow (W.alloc (.cells (rI l) 3)) W.heap.size l := Blk.new _ _ _

set_option maxRecDepth 100000 in
set_option maxHeartbeats 8000000 in
theorem lives_of (HLen : LenSpec) (w : World) : Calls Try.prog 8 #[] w fun e w' => e = .returned (.bool true) ∧ Below w.heap.size w w' := by
  have v1 : chkE [2, 1, 3, 3] = 0 := by decide +kernel
  have v2 : codesL [2, 1, 3, 3] = [2, 0, 6, 7] := by decide +kernel
  have v3 : rdS [2, 1, 3, 3] [3] 8 0 (longK [2, 1, 3, 3] 16) 0 = (2, 0, 3) := by decide +kernel
  have v4 : wrS (codeAt [2, 1, 3, 3] 2) 3 ([], 0, 0) 3 = ([3], 3, 1) := by decide +kernel
  have v5 : costK [1, 0, 2, 2] [5, 0, 1, 1] 4 = 9 := by decide +kernel
  have v6 : chkE [1, 1, 1] = 13 := by decide +kernel
  have v7 : chkE [0, 1] = 0 := by decide +kernel
  have v8 : chkE [0, 2] = 13 := by decide +kernel
  have v9 : chkE [16] = 1 := by decide +kernel
  obtain ⟨N, hN⟩ : ∃ N, w.heap.size = N := ⟨_, rfl⟩
  have HLN := Lib.hid HLen
  have HV := Lib.hid (And.intro v1 (And.intro v2 (And.intro v3 (And.intro v4 (And.intro v5 (And.intro v6 (And.intro v7 (And.intro v8 v9))))))))
  have HNN := Lib.hid hN
  rw [hN]
  clear v1 v2 v3 v4 v5 v6 v7 v8 v9 HLen hN
  go_enter Try.func8, Try.ntmps8
  go_wp2_with fail
  -- Codes
  have HB := Lib.hid (show Below N w w ∧ N ≤ w.heap.size from ⟨Below.refl _ _, by rw [HNN.out]; exact Nat.le_refl _⟩)
  obtain ⟨V1, hV⟩ : ∃ V, (w).alloc (.cells #[.int .i64 2, .int .i64 1, .int .i64 3, .int .i64 3] 3) = V := ⟨_, rfl⟩
  have hb : Below (w).heap.size w V1 := by rw [← hV]; exact (Below.refl _ _).alloc (Nat.le_refl _) _
  obtain ⟨Q1, hQ⟩ : ∃ Q, (w).heap.size = Q := ⟨_, rfl⟩
  have HI1 := Lib.hid (show IRow V1 Q1 [2, 1, 3, 3] by rw [← hV, ← hQ]; exact lit_row _ [2, 1, 3, 3])
  rw [hV, hQ]
  replace HB := Lib.hid (show Below N w V1 ∧ N ≤ (V1).heap.size from ⟨HB.out.1.trans (hb.mono HB.out.2), Nat.le_trans HB.out.2 hb.size⟩)
  clear hb hV hQ
  refine (codes_ok (some ⟨Q1, 0, none⟩) 4 [2, 1, 3, 3] V1 (IRow.iat HI1.out) HV.out.1).mono ?_
  rintro e w1 ⟨Ra, rfl, hRa, hIa, hb⟩
  rw [HV.out.2.1] at hIa
  have HIa := Lib.hid hIa
  replace HB := Lib.hid (show Below N w w1 ∧ N ≤ (w1).heap.size from ⟨HB.out.1.trans (hb.mono HB.out.2), Nat.le_trans HB.out.2 hb.size⟩)
  clear hb hIa hRa HI1
  go_wp2_with fail
  obtain ⟨V2, hV⟩ : ∃ V, (w1).alloc (.cells #[.int .i64 5, .int .i64 0, .int .i64 1, .int .i64 1] 3) = V := ⟨_, rfl⟩
  have hb : Below (w1).heap.size w1 V2 := by rw [← hV]; exact (Below.refl _ _).alloc (Nat.le_refl _) _
  obtain ⟨Q2, hQ⟩ : ∃ Q, (w1).heap.size = Q := ⟨_, rfl⟩
  have HI2 := Lib.hid (show IRow V2 Q2 [5, 0, 1, 1] by rw [← hV, ← hQ]; exact lit_row _ [5, 0, 1, 1])
  rw [hV, hQ]
  replace HB := Lib.hid (show Below N w V2 ∧ N ≤ (V2).heap.size from ⟨HB.out.1.trans (hb.mono HB.out.2), Nat.le_trans HB.out.2 hb.size⟩)
  replace HIa := Lib.hid (show IRow V2 Ra [2, 0, 6, 7] from Blk.below HIa.out hb (Blk.lt HIa.out))
  clear hb hV hQ
  refine (HLN.out V2 (some ⟨Q2, 0, none⟩) 4 (IRow.iat HI2.out)).mono ?_
  rintro e w2 ⟨Rm, rfl, hRm, hIm, hb⟩
  have HIm := Lib.hid hIm
  replace HB := Lib.hid (show Below N w w2 ∧ N ≤ (w2).heap.size from ⟨HB.out.1.trans (hb.mono HB.out.2), Nat.le_trans HB.out.2 hb.size⟩)
  replace HIa := Lib.hid (show IRow w2 Ra [2, 0, 6, 7] from Blk.below HIa.out hb (Blk.lt HIa.out))
  clear hb hIm hRm HI2
  go_wp2_with fail
  obtain ⟨V3, hV⟩ : ∃ V, (w2).alloc (.cells #[.int .i64 2, .int .i64 1, .int .i64 3, .int .i64 3] 3) = V := ⟨_, rfl⟩
  have hb : Below (w2).heap.size w2 V3 := by rw [← hV]; exact (Below.refl _ _).alloc (Nat.le_refl _) _
  obtain ⟨Q3, hQ⟩ : ∃ Q, (w2).heap.size = Q := ⟨_, rfl⟩
  have HI3 := Lib.hid (show IRow V3 Q3 [2, 1, 3, 3] by rw [← hV, ← hQ]; exact lit_row _ [2, 1, 3, 3])
  rw [hV, hQ]
  replace HB := Lib.hid (show Below N w V3 ∧ N ≤ (V3).heap.size from ⟨HB.out.1.trans (hb.mono HB.out.2), Nat.le_trans HB.out.2 hb.size⟩)
  replace HIa := Lib.hid (show IRow V3 Ra [2, 0, 6, 7] from Blk.below HIa.out hb (Blk.lt HIa.out))
  replace HIm := Lib.hid (show IRow V3 Rm [1, 0, 2, 2] from Blk.below HIm.out hb (Blk.lt HIm.out))
  clear hb hV hQ
  refine (new_ok (some ⟨Q3, 0, none⟩) 4 [2, 1, 3, 3] V3 (IRow.iat HI3.out) (by intro h; cases h) HV.out.1).mono ?_
  rintro e w3 ⟨b, rfl, hbN, hT, hb⟩
  obtain ⟨D, hD⟩ : ∃ D, w3.heap.size = D := ⟨_, rfl⟩
  rw [hD] at hT
  have HT := Lib.hid hT
  have HDs := Lib.hid (show D ≤ w3.heap.size by omega)
  replace HB := Lib.hid (show Below N w w3 ∧ N ≤ (w3).heap.size from ⟨HB.out.1.trans (hb.mono HB.out.2), Nat.le_trans HB.out.2 hb.size⟩)
  replace HIa := Lib.hid (show IRow w3 Ra [2, 0, 6, 7] from Blk.below HIa.out hb (Blk.lt HIa.out))
  replace HIm := Lib.hid (show IRow w3 Rm [1, 0, 2, 2] from Blk.below HIm.out hb (Blk.lt HIm.out))
  clear hb hT hbN hD HI3
  go_wp2_with fail
  obtain ⟨g, hg⟩ : ∃ g, w3.heap.size = g := ⟨_, rfl⟩
  have HDg := Lib.hid (show D ≤ g by have := HDs.out; omega)
  have HNg := Lib.hid (show N ≤ g by have := HB.out.2; omega)
  have HRg := Lib.hid (show Ra < g ∧ Rm < g from ⟨by have := Blk.lt HIa.out; omega, by have := Blk.lt HIm.out; omega⟩)
  have hnw := wnew_any g w3 (by omega)
  rw [hg] at hnw
  refine hnw.mono ?_
  rintro e w4 ⟨rfl, hgr, hwr, hsz⟩
  have hb : Below w3.heap.size w3 w4 := ⟨hgr.os, hgr.tape, hgr.output, hgr.size, fun k hk => hgr.block k hk (by simp)⟩
  have HWr := Lib.hid (show WrB g w4 g none ([], 0, 0) from hwr)
  have HGs := Lib.hid (show g < w4.heap.size by omega)
  replace HB := Lib.hid (show Below N w w4 ∧ N ≤ (w4).heap.size from ⟨HB.out.1.trans (hb.mono HB.out.2), Nat.le_trans HB.out.2 hb.size⟩)
  replace HIa := Lib.hid (show IRow w4 Ra [2, 0, 6, 7] from Blk.below HIa.out hb (Blk.lt HIa.out))
  replace HIm := Lib.hid (show IRow w4 Rm [1, 0, 2, 2] from Blk.below HIm.out hb (Blk.lt HIm.out))
  replace HT := Lib.hid (show TblAt D w4 b [2, 1, 3, 3] from TblAt.keep HT.out (hb.mono (by have := HDs.out; omega)))
  replace HDs := Lib.hid (show D ≤ (w4).heap.size from Nat.le_trans HDs.out hb.size)
  clear hb hgr hwr hsz hg hnw
  go_wp2_with fail
  refine (write_any b [2, 1, 3, 3] 2 w4 D g g none ([], 0, 0) HT.out HV.out.1 (by decide) (by decide) HWr.out ⟨fit_zero _ _, Or.inl rfl⟩ (by decide) HDg.out (by have := HGs.out; omega)).mono ?_
  rintro e w5 ⟨rfl, hwt⟩
  have hwt2 : WroteB g w4 g none ([3], 3, 1) w5 := by
    have e : wrS (codeAt [2, 1, 3, 3] 2) ([2, 1, 3, 3] : List Int)[2].toNat ([], 0, 0) ([2, 1, 3, 3] : List Int)[2].toNat = ([3], 3, 1) := HV.out.2.2.2.1
    rw [e] at hwt
    exact hwt
  obtain ⟨r5, hr5, hw5, ht5⟩ := hwt2
  replace HIa := Lib.hid (show IRow w5 Ra [2, 0, 6, 7] from ht5.blk HIa.out (by have := HRg.out; omega) (by simp))
  replace HIm := Lib.hid (show IRow w5 Rm [1, 0, 2, 2] from ht5.blk HIm.out (by have := HRg.out; omega) (by simp))
  have hb5 : Below D w4 w5 := ht5.below HDs.out HDg.out (by simp)
  replace HT := Lib.hid (HT.out.keep hb5)
  have hbN : Below N w4 w5 := ht5.below HB.out.2 (HNg.out) (by simp)
  replace HB := Lib.hid (show Below N w w5 ∧ N ≤ w5.heap.size from ⟨HB.out.1.trans hbN, Nat.le_trans HB.out.2 ht5.size⟩)
  replace HDs := Lib.hid (show D ≤ w5.heap.size from Nat.le_trans HDs.out ht5.size)
  replace HWr := Lib.hid (show WrB g w5 g r5 ([3], 3, 1) from hw5)
  replace HGs := Lib.hid (show g < w5.heap.size from Nat.lt_of_lt_of_le HGs.out ht5.size)
  clear hwt hr5 hw5 ht5 hb5 hbN
  go_wp2_with fail
  obtain ⟨g2, hg2⟩ : ∃ g2, w5.heap.size = g2 := ⟨_, rfl⟩
  have hrf := rfrom_any ⟨#[3]⟩ w5
  rw [hg2] at hrf
  have HGG := Lib.hid (show g < g2 ∧ D ≤ g2 ∧ N ≤ g2 from ⟨by have := HGs.out; omega, by have := HDs.out; omega, by have := HB.out.2; omega⟩)
  have HRg2 := Lib.hid (show Ra < g2 ∧ Rm < g2 from ⟨by have := Blk.lt HIa.out; omega, by have := Blk.lt HIm.out; omega⟩)
  have HRr := Lib.hid (show ∀ k, r5 = some k → k < g2 from fun k hk => by have := (Wr.row_in HWr.out k hk).2; omega)
  refine hrf.mono ?_
  rintro e w6 ⟨rfl, hgr, hrd, hsz⟩
  have hb : Below w5.heap.size w5 w6 := ⟨hgr.os, hgr.tape, hgr.output, hgr.size, fun k hk => hgr.block k hk (by simp)⟩
  have HRd := Lib.hid (show Rd 70 w6 g2 ⟨#[3]⟩ 0 0 from hrd)
  replace HB := Lib.hid (show Below N w w6 ∧ N ≤ (w6).heap.size from ⟨HB.out.1.trans (hb.mono HB.out.2), Nat.le_trans HB.out.2 hb.size⟩)
  replace HIa := Lib.hid (show IRow w6 Ra [2, 0, 6, 7] from Blk.below HIa.out hb (Blk.lt HIa.out))
  replace HIm := Lib.hid (show IRow w6 Rm [1, 0, 2, 2] from Blk.below HIm.out hb (Blk.lt HIm.out))
  replace HT := Lib.hid (show TblAt D w6 b [2, 1, 3, 3] from TblAt.keep HT.out (hb.mono (by have := HDs.out; omega)))
  replace HDs := Lib.hid (show D ≤ (w6).heap.size from Nat.le_trans HDs.out hb.size)
  replace HWr := Lib.hid (show WrB g w6 g r5 ([3], 3, 1) from wr_grown' HWr.out ⟨hb.os, hb.tape, hb.output, hb.size, fun k hk _ => hb.block k hk⟩)
  replace HGs := Lib.hid (show g < (w6).heap.size from Nat.le_trans HGs.out hb.size)
  clear hb hgr hrd hsz hg2 hrf
  go_wp2_with fail
  have hrr := read_any D b g2 [2, 1, 3, 3] ⟨#[3]⟩ 0 0 w6 HT.out HRd.out (Or.inl rfl) (by decide) (by decide) HGG.out.2.1 HV.out.1
  have e3 : rdS [2, 1, 3, 3] (⟨#[3]⟩ : ByteArray).data.toList (8 * (⟨#[3]⟩ : ByteArray).size) 0 (longK [2, 1, 3, 3] 16) 0 = (2, 0, 3) := HV.out.2.2.1
  rw [e3] at hrr
  refine hrr.mono ?_
  rintro e w7 ⟨rfl, o7, _, hn7⟩
  have hg7 : w6.grownBy w7 (some g2) := hn7.1
  replace HIa := Lib.hid (show IRow w7 Ra [2, 0, 6, 7] from Blk.grown HIa.out hg7 (by intro q; injection q with q; have := HRg2.out; omega))
  replace HIm := Lib.hid (show IRow w7 Rm [1, 0, 2, 2] from Blk.grown HIm.out hg7 (by intro q; injection q with q; have := HRg2.out; omega))
  replace HB := Lib.hid (show Below N w w7 ∧ N ≤ w7.heap.size from ⟨HB.out.1.grown hg7 HB.out.2 (fun k hk => by injection hk with hk; have := HGG.out; omega), Nat.le_trans HB.out.2 hg7.size⟩)
  replace HWr := Lib.hid (show WrB g w7 g r5 ([3], 3, 1) by
    obtain ⟨v, k1, k2, k3, k4, k5⟩ := HWr.out
    exact ⟨v, k1.grown hg7 (by intro q; injection q with q; have := HGG.out; omega), k2.kept hg7 (by
      rw [k3]
      cases hr : r5 with
      | none => exact Or.inl rfl
      | some k => exact Or.inr (by intro q; injection q with q; have := HRr.out k hr; omega)), k3, k4, k5⟩)
  clear hn7 hg7 hrr e3 HRd HT HDs HGs
  go_wp2_with fail
  obtain ⟨V4, hV⟩ : ∃ V, (w7).alloc (.cells #[.int .i64 1, .int .i64 1, .int .i64 1] 3) = V := ⟨_, rfl⟩
  have hb : Below (w7).heap.size w7 V4 := by rw [← hV]; exact (Below.refl _ _).alloc (Nat.le_refl _) _
  obtain ⟨Q4, hQ⟩ : ∃ Q, (w7).heap.size = Q := ⟨_, rfl⟩
  have HI4 := Lib.hid (show IRow V4 Q4 [1, 1, 1] by rw [← hV, ← hQ]; exact lit_row _ [1, 1, 1])
  rw [hV, hQ]
  replace HB := Lib.hid (show Below N w V4 ∧ N ≤ (V4).heap.size from ⟨HB.out.1.trans (hb.mono HB.out.2), Nat.le_trans HB.out.2 hb.size⟩)
  replace HIa := Lib.hid (show IRow V4 Ra [2, 0, 6, 7] from Blk.below HIa.out hb (Blk.lt HIa.out))
  replace HIm := Lib.hid (show IRow V4 Rm [1, 0, 2, 2] from Blk.below HIm.out hb (Blk.lt HIm.out))
  replace HWr := Lib.hid (show WrB g V4 g r5 ([3], 3, 1) from wr_grown' HWr.out ⟨hb.os, hb.tape, hb.output, hb.size, fun k hk _ => hb.block k hk⟩)
  clear hb hV hQ
  refine (new_no (some ⟨Q4, 0, none⟩) 3 [1, 1, 1] V4 (IRow.iat HI4.out) (by decide) 13 HV.out.2.2.2.2.2.1 (by decide)).mono ?_
  rintro e w8 ⟨rfl, hb⟩
  replace HB := Lib.hid (show Below N w w8 ∧ N ≤ (w8).heap.size from ⟨HB.out.1.trans (hb.mono HB.out.2), Nat.le_trans HB.out.2 hb.size⟩)
  replace HIa := Lib.hid (show IRow w8 Ra [2, 0, 6, 7] from Blk.below HIa.out hb (Blk.lt HIa.out))
  replace HIm := Lib.hid (show IRow w8 Rm [1, 0, 2, 2] from Blk.below HIm.out hb (Blk.lt HIm.out))
  replace HWr := Lib.hid (show WrB g w8 g r5 ([3], 3, 1) from wr_grown' HWr.out ⟨hb.os, hb.tape, hb.output, hb.size, fun k hk _ => hb.block k hk⟩)
  clear hb HI4
  have m1 : w8.cell? ⟨Rm, 1, none⟩ = some (.int .i64 0) := IRow.cell HIm.out 1 (by decide)
  go_wp2_with fail
  obtain ⟨V5, hV⟩ : ∃ V, (w8).alloc (.cells #[.int .i64 2, .int .i64 0, .int .i64 6, .int .i64 7] 3) = V := ⟨_, rfl⟩
  have hb : Below (w8).heap.size w8 V5 := by rw [← hV]; exact (Below.refl _ _).alloc (Nat.le_refl _) _
  obtain ⟨Q5, hQ⟩ : ∃ Q, (w8).heap.size = Q := ⟨_, rfl⟩
  have HI5 := Lib.hid (show IRow V5 Q5 [2, 0, 6, 7] by rw [← hV, ← hQ]; exact lit_row _ [2, 0, 6, 7])
  rw [hV, hQ]
  replace HB := Lib.hid (show Below N w V5 ∧ N ≤ (V5).heap.size from ⟨HB.out.1.trans (hb.mono HB.out.2), Nat.le_trans HB.out.2 hb.size⟩)
  replace HIa := Lib.hid (show IRow V5 Ra [2, 0, 6, 7] from Blk.below HIa.out hb (Blk.lt HIa.out))
  replace HIm := Lib.hid (show IRow V5 Rm [1, 0, 2, 2] from Blk.below HIm.out hb (Blk.lt HIm.out))
  replace HWr := Lib.hid (show WrB g V5 g r5 ([3], 3, 1) from wr_grown' HWr.out ⟨hb.os, hb.tape, hb.output, hb.size, fun k hk _ => hb.block k hk⟩)
  clear hb hV hQ
  refine (same_any (some ⟨Ra, 0, none⟩) (some ⟨Q5, 0, none⟩) 4 4 [2, 0, 6, 7] [2, 0, 6, 7] V5 (IRow.iat HIa.out) (IRow.iat HI5.out) (by decide) (by decide)).mono ?_
  rintro e w9 ⟨rfl, hb⟩
  replace HB := Lib.hid (show Below N w w9 ∧ N ≤ (w9).heap.size from ⟨HB.out.1.trans (hb.mono HB.out.2), Nat.le_trans HB.out.2 hb.size⟩)
  replace HIa := Lib.hid (show IRow w9 Ra [2, 0, 6, 7] from Blk.below HIa.out hb (Blk.lt HIa.out))
  replace HIm := Lib.hid (show IRow w9 Rm [1, 0, 2, 2] from Blk.below HIm.out hb (Blk.lt HIm.out))
  replace HWr := Lib.hid (show WrB g w9 g r5 ([3], 3, 1) from wr_grown' HWr.out ⟨hb.os, hb.tape, hb.output, hb.size, fun k hk _ => hb.block k hk⟩)
  clear hb HI5 m1
  have m1 : w9.cell? ⟨Rm, 1, none⟩ = some (.int .i64 0) := IRow.cell HIm.out 1 (by decide)
  rw [decide_eq_true (rfl : ([2, 0, 6, 7] : List Int) = [2, 0, 6, 7])]
  go_wp2_with fail
  obtain ⟨V6, hV⟩ : ∃ V, (w9).alloc (.cells #[.int .i64 5, .int .i64 0, .int .i64 1, .int .i64 1] 3) = V := ⟨_, rfl⟩
  have hb : Below (w9).heap.size w9 V6 := by rw [← hV]; exact (Below.refl _ _).alloc (Nat.le_refl _) _
  obtain ⟨Q6, hQ⟩ : ∃ Q, (w9).heap.size = Q := ⟨_, rfl⟩
  have HI6 := Lib.hid (show IRow V6 Q6 [5, 0, 1, 1] by rw [← hV, ← hQ]; exact lit_row _ [5, 0, 1, 1])
  rw [hV, hQ]
  replace HB := Lib.hid (show Below N w V6 ∧ N ≤ (V6).heap.size from ⟨HB.out.1.trans (hb.mono HB.out.2), Nat.le_trans HB.out.2 hb.size⟩)
  replace HIa := Lib.hid (show IRow V6 Ra [2, 0, 6, 7] from Blk.below HIa.out hb (Blk.lt HIa.out))
  replace HIm := Lib.hid (show IRow V6 Rm [1, 0, 2, 2] from Blk.below HIm.out hb (Blk.lt HIm.out))
  replace HWr := Lib.hid (show WrB g V6 g r5 ([3], 3, 1) from wr_grown' HWr.out ⟨hb.os, hb.tape, hb.output, hb.size, fun k hk _ => hb.block k hk⟩)
  clear hb hV hQ
  have hct := cost_any (some ⟨Rm, 0, none⟩) (some ⟨Q6, 0, none⟩) 4 4 [1, 0, 2, 2] [5, 0, 1, 1] V6 (IRow.iat HIm.out) (IRow.iat HI6.out) (by decide) (by decide)
  rw [show costK [1, 0, 2, 2] [5, 0, 1, 1] (min ([1, 0, 2, 2] : List Int).length ([5, 0, 1, 1] : List Int).length) = 9 from HV.out.2.2.2.2.1] at hct
  refine (hct).mono ?_
  rintro e w10 ⟨rfl, hb⟩
  replace HB := Lib.hid (show Below N w w10 ∧ N ≤ (w10).heap.size from ⟨HB.out.1.trans (hb.mono HB.out.2), Nat.le_trans HB.out.2 hb.size⟩)
  replace HIa := Lib.hid (show IRow w10 Ra [2, 0, 6, 7] from Blk.below HIa.out hb (Blk.lt HIa.out))
  replace HIm := Lib.hid (show IRow w10 Rm [1, 0, 2, 2] from Blk.below HIm.out hb (Blk.lt HIm.out))
  replace HWr := Lib.hid (show WrB g w10 g r5 ([3], 3, 1) from wr_grown' HWr.out ⟨hb.os, hb.tape, hb.output, hb.size, fun k hk _ => hb.block k hk⟩)
  clear hb HI6 m1 hct
  go_wp2_with fail
  refine (wtext_any g g r5 [3] 3 1 w10 HWr.out).mono ?_
  rintro e w11 ⟨rfl, rfl⟩
  go_wp2_with fail
  obtain ⟨V7, hV⟩ : ∃ V, (w10).alloc (.cells #[.int .i64 0, .int .i64 1] 3) = V := ⟨_, rfl⟩
  have hb : Below (w10).heap.size w10 V7 := by rw [← hV]; exact (Below.refl _ _).alloc (Nat.le_refl _) _
  obtain ⟨Q7, hQ⟩ : ∃ Q, (w10).heap.size = Q := ⟨_, rfl⟩
  have HI7 := Lib.hid (show IRow V7 Q7 [0, 1] by rw [← hV, ← hQ]; exact lit_row _ [0, 1])
  rw [hV, hQ]
  replace HB := Lib.hid (show Below N w V7 ∧ N ≤ (V7).heap.size from ⟨HB.out.1.trans (hb.mono HB.out.2), Nat.le_trans HB.out.2 hb.size⟩)
  replace HIa := Lib.hid (show IRow V7 Ra [2, 0, 6, 7] from Blk.below HIa.out hb (Blk.lt HIa.out))
  replace HIm := Lib.hid (show IRow V7 Rm [1, 0, 2, 2] from Blk.below HIm.out hb (Blk.lt HIm.out))
  replace HWr := Lib.hid (show WrB g V7 g r5 ([3], 3, 1) from wr_grown' HWr.out ⟨hb.os, hb.tape, hb.output, hb.size, fun k hk _ => hb.block k hk⟩)
  clear hb hV hQ
  have hck := check_any (some ⟨Q7, 0, none⟩) 2 [0, 1] V7 (IRow.iat HI7.out) (by decide)
  rw [HV.out.2.2.2.2.2.2.1] at hck
  refine (hck).mono ?_
  rintro e w12 ⟨rfl, hb⟩
  replace HB := Lib.hid (show Below N w w12 ∧ N ≤ (w12).heap.size from ⟨HB.out.1.trans (hb.mono HB.out.2), Nat.le_trans HB.out.2 hb.size⟩)
  replace HIa := Lib.hid (show IRow w12 Ra [2, 0, 6, 7] from Blk.below HIa.out hb (Blk.lt HIa.out))
  replace HIm := Lib.hid (show IRow w12 Rm [1, 0, 2, 2] from Blk.below HIm.out hb (Blk.lt HIm.out))
  replace HWr := Lib.hid (show WrB g w12 g r5 ([3], 3, 1) from wr_grown' HWr.out ⟨hb.os, hb.tape, hb.output, hb.size, fun k hk _ => hb.block k hk⟩)
  clear hb hck HI7
  go_wp2_with fail
  obtain ⟨V8, hV⟩ : ∃ V, (w12).alloc (.cells #[.int .i64 0, .int .i64 2] 3) = V := ⟨_, rfl⟩
  have hb : Below (w12).heap.size w12 V8 := by rw [← hV]; exact (Below.refl _ _).alloc (Nat.le_refl _) _
  obtain ⟨Q8, hQ⟩ : ∃ Q, (w12).heap.size = Q := ⟨_, rfl⟩
  have HI8 := Lib.hid (show IRow V8 Q8 [0, 2] by rw [← hV, ← hQ]; exact lit_row _ [0, 2])
  rw [hV, hQ]
  replace HB := Lib.hid (show Below N w V8 ∧ N ≤ (V8).heap.size from ⟨HB.out.1.trans (hb.mono HB.out.2), Nat.le_trans HB.out.2 hb.size⟩)
  replace HIa := Lib.hid (show IRow V8 Ra [2, 0, 6, 7] from Blk.below HIa.out hb (Blk.lt HIa.out))
  replace HIm := Lib.hid (show IRow V8 Rm [1, 0, 2, 2] from Blk.below HIm.out hb (Blk.lt HIm.out))
  replace HWr := Lib.hid (show WrB g V8 g r5 ([3], 3, 1) from wr_grown' HWr.out ⟨hb.os, hb.tape, hb.output, hb.size, fun k hk _ => hb.block k hk⟩)
  clear hb hV hQ
  have hck := check_any (some ⟨Q8, 0, none⟩) 2 [0, 2] V8 (IRow.iat HI8.out) (by decide)
  rw [HV.out.2.2.2.2.2.2.2.1] at hck
  refine (hck).mono ?_
  rintro e w13 ⟨rfl, hb⟩
  replace HB := Lib.hid (show Below N w w13 ∧ N ≤ (w13).heap.size from ⟨HB.out.1.trans (hb.mono HB.out.2), Nat.le_trans HB.out.2 hb.size⟩)
  replace HIa := Lib.hid (show IRow w13 Ra [2, 0, 6, 7] from Blk.below HIa.out hb (Blk.lt HIa.out))
  replace HIm := Lib.hid (show IRow w13 Rm [1, 0, 2, 2] from Blk.below HIm.out hb (Blk.lt HIm.out))
  replace HWr := Lib.hid (show WrB g w13 g r5 ([3], 3, 1) from wr_grown' HWr.out ⟨hb.os, hb.tape, hb.output, hb.size, fun k hk _ => hb.block k hk⟩)
  clear hb hck HI8
  go_wp2_with fail
  obtain ⟨V9, hV⟩ : ∃ V, (w13).alloc (.cells #[.int .i64 16] 3) = V := ⟨_, rfl⟩
  have hb : Below (w13).heap.size w13 V9 := by rw [← hV]; exact (Below.refl _ _).alloc (Nat.le_refl _) _
  obtain ⟨Q9, hQ⟩ : ∃ Q, (w13).heap.size = Q := ⟨_, rfl⟩
  have HI9 := Lib.hid (show IRow V9 Q9 [16] by rw [← hV, ← hQ]; exact lit_row _ [16])
  rw [hV, hQ]
  replace HB := Lib.hid (show Below N w V9 ∧ N ≤ (V9).heap.size from ⟨HB.out.1.trans (hb.mono HB.out.2), Nat.le_trans HB.out.2 hb.size⟩)
  replace HIa := Lib.hid (show IRow V9 Ra [2, 0, 6, 7] from Blk.below HIa.out hb (Blk.lt HIa.out))
  replace HIm := Lib.hid (show IRow V9 Rm [1, 0, 2, 2] from Blk.below HIm.out hb (Blk.lt HIm.out))
  replace HWr := Lib.hid (show WrB g V9 g r5 ([3], 3, 1) from wr_grown' HWr.out ⟨hb.os, hb.tape, hb.output, hb.size, fun k hk _ => hb.block k hk⟩)
  clear hb hV hQ
  have hck := check_any (some ⟨Q9, 0, none⟩) 1 [16] V9 (IRow.iat HI9.out) (by decide)
  rw [HV.out.2.2.2.2.2.2.2.2] at hck
  refine (hck).mono ?_
  rintro e w14 ⟨rfl, hb⟩
  replace HB := Lib.hid (show Below N w w14 ∧ N ≤ (w14).heap.size from ⟨HB.out.1.trans (hb.mono HB.out.2), Nat.le_trans HB.out.2 hb.size⟩)
  replace HIa := Lib.hid (show IRow w14 Ra [2, 0, 6, 7] from Blk.below HIa.out hb (Blk.lt HIa.out))
  replace HIm := Lib.hid (show IRow w14 Rm [1, 0, 2, 2] from Blk.below HIm.out hb (Blk.lt HIm.out))
  replace HWr := Lib.hid (show WrB g w14 g r5 ([3], 3, 1) from wr_grown' HWr.out ⟨hb.os, hb.tape, hb.output, hb.size, fun k hk _ => hb.block k hk⟩)
  clear hb hck HI9
  go_wp2_with fail
  go_ret
  exact ⟨rfl, HB.out.1⟩
end Go.Proofs.Ytbgechfmbogbpaa
