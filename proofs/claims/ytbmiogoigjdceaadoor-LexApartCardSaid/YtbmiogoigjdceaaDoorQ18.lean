/-
  Lemmas and walks, joined: LexLv.
-/
import Derived.Test.YtbmiogoigjdceaaDoorQ11
import Derived.Test.YtbmiogoigjdceaaDoorQ17
namespace Go.Proofs.YtbmiogoigjdceaaDoor
open Go.RowKit Oct Fix Lex

theorem lv_next2 (w : World) (hm : MaxLenAt w) : Calls Tryd.prog 9 #[.string ⟨#[55, 46]⟩, .int .i64 0] w fun e w' => e = .returned (.tuple #[.agg #[.int .i64 2, .int .i64 0, .int .i64 2, .int .i64 70000, .string ⟨#[]⟩], .int .i64 0]) ∧ Below w.heap.size w w' := by
  have h := lexNext_any ⟨#[55, 46]⟩ 0 w (by decide) hm
  have h1 : nxI (⟨#[55, 46]⟩ : ByteArray).data.toList 0 = 0 := by kernel_rfl
  have h2 : nxR (⟨#[55, 46]⟩ : ByteArray).data.toList 0 = ⟨0, 2, 2, 70000, []⟩ := by kernel_rfl
  rw [h1, h2] at h
  exact h
theorem lv_next3 (w : World) (hm : MaxLenAt w) : Calls Tryd.prog 9 #[.string ⟨#[32, 55, 120]⟩, .int .i64 0] w fun e w' => e = .returned (.tuple #[.agg #[.int .i64 5, .int .i64 1, .int .i64 3, .int .i64 0, .string ⟨#[55, 120]⟩], .int .i64 0]) ∧ Below w.heap.size w w' := by
  have h := lexNext_any ⟨#[32, 55, 120]⟩ 0 w (by decide) hm
  have h1 : nxI (⟨#[32, 55, 120]⟩ : ByteArray).data.toList 0 = 1 := by kernel_rfl
  have h2 : nxR (⟨#[32, 55, 120]⟩ : ByteArray).data.toList 0 = ⟨0, 5, 2, 0, [55, 120]⟩ := by kernel_rfl
  rw [h1, h2] at h
  exact h
theorem lv_next4 (w : World) (hm : MaxLenAt w) : Calls Tryd.prog 9 #[.string ⟨#[45, 48]⟩, .int .i64 0] w fun e w' => e = .returned (.tuple #[.agg #[.int .i64 1, .int .i64 0, .int .i64 2, .int .i64 0, .string ⟨#[]⟩], .int .i64 0]) ∧ Below w.heap.size w w' := by
  have h := lexNext_any ⟨#[45, 48]⟩ 0 w (by decide) hm
  have h1 : nxI (⟨#[45, 48]⟩ : ByteArray).data.toList 0 = 0 := by kernel_rfl
  have h2 : nxR (⟨#[45, 48]⟩ : ByteArray).data.toList 0 = ⟨0, 1, 2, 0, []⟩ := by kernel_rfl
  rw [h1, h2] at h
  exact h
theorem lv_next5 (w : World) (hm : MaxLenAt w) : Calls Tryd.prog 9 #[.string ⟨#[41]⟩, .int .i64 0] w fun e w' => e = .returned (.tuple #[.agg #[.int .i64 0, .int .i64 0, .int .i64 0, .int .i64 0, .string ⟨#[]⟩], .int .i64 3]) ∧ Below w.heap.size w w' := by
  have h := lexNext_any ⟨#[41]⟩ 0 w (by decide) hm
  have h1 : nxI (⟨#[41]⟩ : ByteArray).data.toList 0 = 0 := by kernel_rfl
  have h2 : nxR (⟨#[41]⟩ : ByteArray).data.toList 0 = bad 3 := by kernel_rfl
  rw [h1, h2] at h
  exact h
theorem lv_next6 (w : World) (hm : MaxLenAt w) : Calls Tryd.prog 9 #[.string ⟨#[40, 97]⟩, .int .i64 0] w fun e w' => e = .returned (.tuple #[.agg #[.int .i64 0, .int .i64 0, .int .i64 0, .int .i64 0, .string ⟨#[]⟩], .int .i64 4]) ∧ Below w.heap.size w w' := by
  have h := lexNext_any ⟨#[40, 97]⟩ 0 w (by decide) hm
  have h1 : nxI (⟨#[40, 97]⟩ : ByteArray).data.toList 0 = 0 := by kernel_rfl
  have h2 : nxR (⟨#[40, 97]⟩ : ByteArray).data.toList 0 = bad 4 := by kernel_rfl
  rw [h1, h2] at h
  exact h
def All1End (w : World) (e : Ending) (w' : World) : Prop := ∃ (g C : Nat), e = .returned (.tuple #[.slice (some ⟨g, 0, none⟩) 3 C, .agg #[.int .i64 0, .int .i64 0]]) ∧ w'.ownsRow w.heap.size 24 5 (.slice (some ⟨g, 0, none⟩) 3 C) 3 [.int .i64 4, .int .i64 0, .int .i64 6, .int .i64 0, .string ⟨#[65, 32, 98]⟩, .int .i64 3, .int .i64 6, .int .i64 13, .int .i64 0, .string ⟨#[120, 41]⟩, .int .i64 3, .int .i64 13, .int .i64 16, .int .i64 0, .string ⟨#[64]⟩] ∧ Below w.heap.size w w'
theorem lv_all1 (w : World) (hm : MaxLenAt w) : Calls Tryd.prog 11 #[.string ⟨#[47, 65, 35, 50, 48, 98, 40, 120, 92, 48, 53, 49, 41, 60, 52, 62]⟩] w (All1End w) := by
  have hr : uptoI (⟨#[47, 65, 35, 50, 48, 98, 40, 120, 92, 48, 53, 49, 41, 60, 52, 62]⟩ : ByteArray).data.toList 0 1048576 = ([⟨4, 0, 6, 0, [65, 32, 98]⟩, ⟨3, 6, 13, 0, [120, 41]⟩, ⟨3, 13, 16, 0, [64]⟩], 0, 0) := by kernel_rfl
  refine (all_any ⟨#[47, 65, 35, 50, 48, 98, 40, 120, 92, 48, 53, 49, 41, 60, 52, 62]⟩ _ w (by decide) hm hr).mono ?_
  rintro e w' ⟨A, C, rfl, hown, hb⟩
  obtain ⟨g, cap, hv, _⟩ := hown.form (by decide)
  injection hv with h1 h2 h3
  subst h1
  exact ⟨g, C, rfl, hown, hb⟩
theorem lv_all2 (w : World) (hm : MaxLenAt w) : Calls Tryd.prog 11 #[.string ⟨#[97, 32, 41]⟩] w (UptoEnd ([], 2, 3) w) := by
  have hr : uptoI (⟨#[97, 32, 41]⟩ : ByteArray).data.toList 0 1048576 = ([], 2, 3) := by kernel_rfl
  exact all_any ⟨#[97, 32, 41]⟩ _ w (by decide) hm hr

set_option maxRecDepth 100000 in
set_option maxHeartbeats 16000000 in
theorem lives_ok : LivesOk := by
  intro w hm
  have HM0 := Lib.hid hm
  clear hm
  go_enter Tryd.func8, Tryd.ntmps8
  go_wp2_with fail
  refine (lv_all1 _ HM0.out).mono ?_
  rintro e v1 ⟨g, C, rfl, hown, hb⟩
  go_upto_region 2 with (fail)
  obtain ⟨w1, hw1⟩ : ∃ w1, v1.alloc (.cells #[.int .i64 0, .int .i64 0] 31) = w1 := ⟨_, rfl⟩
  have HF1 := Lib.hid (show Blk w1 v1.heap.size 31 #[.int .i64 0, .int .i64 0] by rw [← hw1]; exact Blk.new _ _ _)
  have HO1 := Lib.hid (show w1.ownsRow w.heap.size 24 5 (.slice (some ⟨g, 0, none⟩) 3 C) 3 [.int .i64 4, .int .i64 0, .int .i64 6, .int .i64 0, .string ⟨#[65, 32, 98]⟩, .int .i64 3, .int .i64 6, .int .i64 13, .int .i64 0, .string ⟨#[120, 41]⟩, .int .i64 3, .int .i64 13, .int .i64 16, .int .i64 0, .string ⟨#[64]⟩] by rw [← hw1]; exact hown.alloc _)
  have HB1 := Lib.hid (show Below w.heap.size w w1 by rw [← hw1]; exact hb.alloc hb.size _)
  rw [hw1]
  clear hw1 hb hown
  obtain ⟨b1, hb1⟩ : ∃ b1, v1.heap.size = b1 := ⟨_, rfl⟩
  rw [hb1] at HF1
  simp only [hb1]
  clear hb1
  have HM1 : Hid (MaxLenAt w1) := Lib.hid (HM0.out.upto HB1.out (Nat.le_refl _))
  go_wp2_with fail
  refine (lv_next2 _ HM1.out).mono ?_
  rintro e v2 ⟨rfl, hb⟩
  go_upto_region 3 with (fail)
  obtain ⟨w2, hw2⟩ : ∃ w2, v2.alloc (.cells #[.int .i64 2, .int .i64 0, .int .i64 2, .int .i64 70000, .string ⟨#[]⟩] 24) = w2 := ⟨_, rfl⟩
  have HX2_2 := Lib.hid (show Blk w2 v2.heap.size 24 #[.int .i64 2, .int .i64 0, .int .i64 2, .int .i64 70000, .string ⟨#[]⟩] by rw [← hw2]; exact Blk.new _ _ _)
  have HO2 := Lib.hid (show w2.ownsRow w.heap.size 24 5 (.slice (some ⟨g, 0, none⟩) 3 C) 3 [.int .i64 4, .int .i64 0, .int .i64 6, .int .i64 0, .string ⟨#[65, 32, 98]⟩, .int .i64 3, .int .i64 6, .int .i64 13, .int .i64 0, .string ⟨#[120, 41]⟩, .int .i64 3, .int .i64 13, .int .i64 16, .int .i64 0, .string ⟨#[64]⟩] by rw [← hw2]; exact (own_below HO1.out hb (Nat.le_refl _)).alloc _)
  have HF2 := Lib.hid (show Blk w2 b1 31 #[.int .i64 0, .int .i64 0] by rw [← hw2]; exact (HF1.out.below hb HF1.out.lt).alloc _)
  have HB2 := Lib.hid (show Below w.heap.size w w2 by rw [← hw2]; exact (HB1.out.trans (hb.mono HB1.out.size)).alloc (Nat.le_trans HB1.out.size hb.size) _)
  rw [hw2]
  clear hw2 hb
  obtain ⟨b2, hb2⟩ : ∃ b2, v2.heap.size = b2 := ⟨_, rfl⟩
  rw [hb2] at HX2_2
  simp only [hb2]
  clear hb2
  have HM2 : Hid (MaxLenAt w2) := Lib.hid (HM0.out.upto HB2.out (Nat.le_refl _))
  go_wp2_with fail
  refine (lv_next3 _ HM2.out).mono ?_
  rintro e v3 ⟨rfl, hb⟩
  go_upto_region 4 with (fail)
  obtain ⟨w3, hw3⟩ : ∃ w3, v3.alloc (.cells #[.int .i64 5, .int .i64 1, .int .i64 3, .int .i64 0, .string ⟨#[55, 120]⟩] 24) = w3 := ⟨_, rfl⟩
  have HX3_3 := Lib.hid (show Blk w3 v3.heap.size 24 #[.int .i64 5, .int .i64 1, .int .i64 3, .int .i64 0, .string ⟨#[55, 120]⟩] by rw [← hw3]; exact Blk.new _ _ _)
  have HO3 := Lib.hid (show w3.ownsRow w.heap.size 24 5 (.slice (some ⟨g, 0, none⟩) 3 C) 3 [.int .i64 4, .int .i64 0, .int .i64 6, .int .i64 0, .string ⟨#[65, 32, 98]⟩, .int .i64 3, .int .i64 6, .int .i64 13, .int .i64 0, .string ⟨#[120, 41]⟩, .int .i64 3, .int .i64 13, .int .i64 16, .int .i64 0, .string ⟨#[64]⟩] by rw [← hw3]; exact (own_below HO2.out hb (Nat.le_refl _)).alloc _)
  have HF3 := Lib.hid (show Blk w3 b1 31 #[.int .i64 0, .int .i64 0] by rw [← hw3]; exact (HF2.out.below hb HF2.out.lt).alloc _)
  have HB3 := Lib.hid (show Below w.heap.size w w3 by rw [← hw3]; exact (HB2.out.trans (hb.mono HB2.out.size)).alloc (Nat.le_trans HB2.out.size hb.size) _)
  have HX2_3 := Lib.hid (show Blk w3 b2 24 #[.int .i64 2, .int .i64 0, .int .i64 2, .int .i64 70000, .string ⟨#[]⟩] by rw [← hw3]; exact (HX2_2.out.below hb HX2_2.out.lt).alloc _)
  rw [hw3]
  clear hw3 hb
  obtain ⟨b3, hb3⟩ : ∃ b3, v3.heap.size = b3 := ⟨_, rfl⟩
  rw [hb3] at HX3_3
  simp only [hb3]
  clear hb3
  have HM3 : Hid (MaxLenAt w3) := Lib.hid (HM0.out.upto HB3.out (Nat.le_refl _))
  go_wp2_with fail
  refine (lv_next4 _ HM3.out).mono ?_
  rintro e v4 ⟨rfl, hb⟩
  go_upto_region 5 with (fail)
  obtain ⟨w4, hw4⟩ : ∃ w4, v4.alloc (.cells #[.int .i64 1, .int .i64 0, .int .i64 2, .int .i64 0, .string ⟨#[]⟩] 24) = w4 := ⟨_, rfl⟩
  have HX4_4 := Lib.hid (show Blk w4 v4.heap.size 24 #[.int .i64 1, .int .i64 0, .int .i64 2, .int .i64 0, .string ⟨#[]⟩] by rw [← hw4]; exact Blk.new _ _ _)
  have HO4 := Lib.hid (show w4.ownsRow w.heap.size 24 5 (.slice (some ⟨g, 0, none⟩) 3 C) 3 [.int .i64 4, .int .i64 0, .int .i64 6, .int .i64 0, .string ⟨#[65, 32, 98]⟩, .int .i64 3, .int .i64 6, .int .i64 13, .int .i64 0, .string ⟨#[120, 41]⟩, .int .i64 3, .int .i64 13, .int .i64 16, .int .i64 0, .string ⟨#[64]⟩] by rw [← hw4]; exact (own_below HO3.out hb (Nat.le_refl _)).alloc _)
  have HF4 := Lib.hid (show Blk w4 b1 31 #[.int .i64 0, .int .i64 0] by rw [← hw4]; exact (HF3.out.below hb HF3.out.lt).alloc _)
  have HB4 := Lib.hid (show Below w.heap.size w w4 by rw [← hw4]; exact (HB3.out.trans (hb.mono HB3.out.size)).alloc (Nat.le_trans HB3.out.size hb.size) _)
  have HX2_4 := Lib.hid (show Blk w4 b2 24 #[.int .i64 2, .int .i64 0, .int .i64 2, .int .i64 70000, .string ⟨#[]⟩] by rw [← hw4]; exact (HX2_3.out.below hb HX2_3.out.lt).alloc _)
  have HX3_4 := Lib.hid (show Blk w4 b3 24 #[.int .i64 5, .int .i64 1, .int .i64 3, .int .i64 0, .string ⟨#[55, 120]⟩] by rw [← hw4]; exact (HX3_3.out.below hb HX3_3.out.lt).alloc _)
  rw [hw4]
  clear hw4 hb
  obtain ⟨b4, hb4⟩ : ∃ b4, v4.heap.size = b4 := ⟨_, rfl⟩
  rw [hb4] at HX4_4
  simp only [hb4]
  clear hb4
  have HM4 : Hid (MaxLenAt w4) := Lib.hid (HM0.out.upto HB4.out (Nat.le_refl _))
  go_wp2_with fail
  refine (lv_next5 _ HM4.out).mono ?_
  rintro e v5 ⟨rfl, hb⟩
  go_upto_region 6 with (fail)
  obtain ⟨w5, hw5⟩ : ∃ w5, v5.alloc (.cells #[.int .i64 0, .int .i64 0, .int .i64 0, .int .i64 0, .string ⟨#[]⟩] 24) = w5 := ⟨_, rfl⟩
  have HX5_5 := Lib.hid (show Blk w5 v5.heap.size 24 #[.int .i64 0, .int .i64 0, .int .i64 0, .int .i64 0, .string ⟨#[]⟩] by rw [← hw5]; exact Blk.new _ _ _)
  have HO5 := Lib.hid (show w5.ownsRow w.heap.size 24 5 (.slice (some ⟨g, 0, none⟩) 3 C) 3 [.int .i64 4, .int .i64 0, .int .i64 6, .int .i64 0, .string ⟨#[65, 32, 98]⟩, .int .i64 3, .int .i64 6, .int .i64 13, .int .i64 0, .string ⟨#[120, 41]⟩, .int .i64 3, .int .i64 13, .int .i64 16, .int .i64 0, .string ⟨#[64]⟩] by rw [← hw5]; exact (own_below HO4.out hb (Nat.le_refl _)).alloc _)
  have HF5 := Lib.hid (show Blk w5 b1 31 #[.int .i64 0, .int .i64 0] by rw [← hw5]; exact (HF4.out.below hb HF4.out.lt).alloc _)
  have HB5 := Lib.hid (show Below w.heap.size w w5 by rw [← hw5]; exact (HB4.out.trans (hb.mono HB4.out.size)).alloc (Nat.le_trans HB4.out.size hb.size) _)
  have HX2_5 := Lib.hid (show Blk w5 b2 24 #[.int .i64 2, .int .i64 0, .int .i64 2, .int .i64 70000, .string ⟨#[]⟩] by rw [← hw5]; exact (HX2_4.out.below hb HX2_4.out.lt).alloc _)
  have HX3_5 := Lib.hid (show Blk w5 b3 24 #[.int .i64 5, .int .i64 1, .int .i64 3, .int .i64 0, .string ⟨#[55, 120]⟩] by rw [← hw5]; exact (HX3_4.out.below hb HX3_4.out.lt).alloc _)
  have HX4_5 := Lib.hid (show Blk w5 b4 24 #[.int .i64 1, .int .i64 0, .int .i64 2, .int .i64 0, .string ⟨#[]⟩] by rw [← hw5]; exact (HX4_4.out.below hb HX4_4.out.lt).alloc _)
  rw [hw5]
  clear hw5 hb
  obtain ⟨b5, hb5⟩ : ∃ b5, v5.heap.size = b5 := ⟨_, rfl⟩
  rw [hb5] at HX5_5
  simp only [hb5]
  clear hb5
  have HM5 : Hid (MaxLenAt w5) := Lib.hid (HM0.out.upto HB5.out (Nat.le_refl _))
  go_wp2_with fail
  refine (lv_next6 _ HM5.out).mono ?_
  rintro e v6 ⟨rfl, hb⟩
  go_upto_region 7 with (fail)
  obtain ⟨w6, hw6⟩ : ∃ w6, v6.alloc (.cells #[.int .i64 0, .int .i64 0, .int .i64 0, .int .i64 0, .string ⟨#[]⟩] 24) = w6 := ⟨_, rfl⟩
  have HX6_6 := Lib.hid (show Blk w6 v6.heap.size 24 #[.int .i64 0, .int .i64 0, .int .i64 0, .int .i64 0, .string ⟨#[]⟩] by rw [← hw6]; exact Blk.new _ _ _)
  have HO6 := Lib.hid (show w6.ownsRow w.heap.size 24 5 (.slice (some ⟨g, 0, none⟩) 3 C) 3 [.int .i64 4, .int .i64 0, .int .i64 6, .int .i64 0, .string ⟨#[65, 32, 98]⟩, .int .i64 3, .int .i64 6, .int .i64 13, .int .i64 0, .string ⟨#[120, 41]⟩, .int .i64 3, .int .i64 13, .int .i64 16, .int .i64 0, .string ⟨#[64]⟩] by rw [← hw6]; exact (own_below HO5.out hb (Nat.le_refl _)).alloc _)
  have HF6 := Lib.hid (show Blk w6 b1 31 #[.int .i64 0, .int .i64 0] by rw [← hw6]; exact (HF5.out.below hb HF5.out.lt).alloc _)
  have HB6 := Lib.hid (show Below w.heap.size w w6 by rw [← hw6]; exact (HB5.out.trans (hb.mono HB5.out.size)).alloc (Nat.le_trans HB5.out.size hb.size) _)
  have HX2_6 := Lib.hid (show Blk w6 b2 24 #[.int .i64 2, .int .i64 0, .int .i64 2, .int .i64 70000, .string ⟨#[]⟩] by rw [← hw6]; exact (HX2_5.out.below hb HX2_5.out.lt).alloc _)
  have HX3_6 := Lib.hid (show Blk w6 b3 24 #[.int .i64 5, .int .i64 1, .int .i64 3, .int .i64 0, .string ⟨#[55, 120]⟩] by rw [← hw6]; exact (HX3_5.out.below hb HX3_5.out.lt).alloc _)
  have HX4_6 := Lib.hid (show Blk w6 b4 24 #[.int .i64 1, .int .i64 0, .int .i64 2, .int .i64 0, .string ⟨#[]⟩] by rw [← hw6]; exact (HX4_5.out.below hb HX4_5.out.lt).alloc _)
  have HX5_6 := Lib.hid (show Blk w6 b5 24 #[.int .i64 0, .int .i64 0, .int .i64 0, .int .i64 0, .string ⟨#[]⟩] by rw [← hw6]; exact (HX5_5.out.below hb HX5_5.out.lt).alloc _)
  rw [hw6]
  clear hw6 hb
  obtain ⟨b6, hb6⟩ : ∃ b6, v6.heap.size = b6 := ⟨_, rfl⟩
  rw [hb6] at HX6_6
  simp only [hb6]
  clear hb6
  have HM6 : Hid (MaxLenAt w6) := Lib.hid (HM0.out.upto HB6.out (Nat.le_refl _))
  go_wp2_with fail
  refine (lv_all2 _ HM6.out).mono ?_
  rintro e v7 ⟨A7, C7, rfl, hown7, hb⟩
  go_upto_region 8 with (fail)
  clear hown7
  obtain ⟨w7, hw7⟩ : ∃ w7, v7.alloc (.cells #[.int .i64 2, .int .i64 3] 31) = w7 := ⟨_, rfl⟩
  have hY : Blk w7 v7.heap.size 31 #[.int .i64 2, .int .i64 3] := by rw [← hw7]; exact Blk.new _ _ _
  have hO : w7.ownsRow w.heap.size 24 5 (.slice (some ⟨g, 0, none⟩) 3 C) 3 [.int .i64 4, .int .i64 0, .int .i64 6, .int .i64 0, .string ⟨#[65, 32, 98]⟩, .int .i64 3, .int .i64 6, .int .i64 13, .int .i64 0, .string ⟨#[120, 41]⟩, .int .i64 3, .int .i64 13, .int .i64 16, .int .i64 0, .string ⟨#[64]⟩] := by rw [← hw7]; exact (own_below HO6.out hb (Nat.le_refl _)).alloc _
  have hF : Blk w7 b1 31 #[.int .i64 0, .int .i64 0] := by rw [← hw7]; exact (HF6.out.below hb HF6.out.lt).alloc _
  have HB7 := Lib.hid (show Below w.heap.size w w7 by rw [← hw7]; exact (HB6.out.trans (hb.mono HB6.out.size)).alloc (Nat.le_trans HB6.out.size hb.size) _)
  have hX2 : Blk w7 b2 24 #[.int .i64 2, .int .i64 0, .int .i64 2, .int .i64 70000, .string ⟨#[]⟩] := by rw [← hw7]; exact (HX2_6.out.below hb HX2_6.out.lt).alloc _
  have hX3 : Blk w7 b3 24 #[.int .i64 5, .int .i64 1, .int .i64 3, .int .i64 0, .string ⟨#[55, 120]⟩] := by rw [← hw7]; exact (HX3_6.out.below hb HX3_6.out.lt).alloc _
  have hX4 : Blk w7 b4 24 #[.int .i64 1, .int .i64 0, .int .i64 2, .int .i64 0, .string ⟨#[]⟩] := by rw [← hw7]; exact (HX4_6.out.below hb HX4_6.out.lt).alloc _
  rw [hw7]
  clear hw7 hb
  obtain ⟨b7, hb7⟩ : ∃ b7, v7.heap.size = b7 := ⟨_, rfl⟩
  rw [hb7] at hY
  simp only [hb7]
  clear hb7
  have r0 := (hO.cellAt 0 (by decide))
  have r1 := (hO.cellAt 1 (by decide))
  have r2 := (hO.cellAt 2 (by decide))
  have r3 := (hO.cellAt 3 (by decide))
  have r4 := (hO.cellAt 4 (by decide))
  have r5 := (hO.cellAt 5 (by decide))
  have r6 := (hO.cellAt 6 (by decide))
  have r7 := (hO.cellAt 7 (by decide))
  have r8 := (hO.cellAt 8 (by decide))
  have r9 := (hO.cellAt 9 (by decide))
  have r10 := (hO.cellAt 10 (by decide))
  have r11 := (hO.cellAt 11 (by decide))
  have r12 := (hO.cellAt 12 (by decide))
  have r13 := (hO.cellAt 13 (by decide))
  have r14 := (hO.cellAt 14 (by decide))
  have q1 := (hF.cell 1)
  have q2 := (hY.cell 0)
  have q3 := (hY.cell 1)
  have t2_0 := (hX2.cell 0)
  have t2_1 := (hX2.cell 1)
  have t2_2 := (hX2.cell 2)
  have t2_3 := (hX2.cell 3)
  have t2_4 := (hX2.cell 4)
  have t3_0 := (hX3.cell 0)
  have t3_1 := (hX3.cell 1)
  have t3_2 := (hX3.cell 2)
  have t3_3 := (hX3.cell 3)
  have t3_4 := (hX3.cell 4)
  have t4_0 := (hX4.cell 0)
  have t4_1 := (hX4.cell 1)
  have t4_2 := (hX4.cell 2)
  have t4_3 := (hX4.cell 3)
  have t4_4 := (hX4.cell 4)
  simp only [List.getElem?_toArray, List.getElem?_cons_zero, List.getElem?_cons_succ] at r0 r1 r2 r3 r4 r5 r6 r7 r8 r9 r10 r11 r12 r13 r14 q1 q2 q3 t2_0 t2_1 t2_2 t2_3 t2_4 t3_0 t3_1 t3_2 t3_3 t3_4 t4_0 t4_1 t4_2 t4_3 t4_4
  clear hO hF hY hX2 hX3 hX4
  go_wp2_with fail
  go_ret
  exact ⟨rfl, HB7.out⟩
end Go.Proofs.YtbmiogoigjdceaaDoor
