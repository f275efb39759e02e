/-
  The walk of lives.
-/
import Derived.Test.YtmimeconkmfkfaaDoorFixLa
namespace Go.Proofs.YtmimeconkmfkfaaDoor
open Go.RowKit Fix

theorem root_20000 : rootN 20000 = 14142 := by
  have h := rootS_spec 200000000 (by decide)
  show rootS (20000 * 10000) = 14142
  exact root_unique 200000000 _ _ h.1 (by decide) h.2.1 h.2.2 (by decide) (by decide)

theorem wholes (n r : Int) (h : nearS n 10000 = r) (h1 : -9223372036854775808 ≤ n := by decide) (h2 : n ≤ 9223372036854775807 := by decide) : ∀ w : World,
    Calls Tryd.prog 17 #[.int .i64 n] w fun e w' => e = .returned (.int .i64 r) ∧ ∃ k, w' = w.drewN k := fun w => h ▸ whole_any n w h1 h2

set_option maxRecDepth 100000 in
set_option maxHeartbeats 4000000 in
theorem lives_any (w0 : World) (hl : Live w0) :
    Calls Tryd.prog 8 #[] w0 fun e w' => e = .returned (.bool true) ∧ Below w0.heap.size w0 w' := by
  have HL0 := Lib.hid hl
  have HB0 := Lib.hid (Below.refl w0.heap.size w0)
  clear hl
  go_enter Tryd.func8, Tryd.ntmps8
  go_wp2_with fail
  refine (read_c _ (-2500) 0 w0 (by decide) HL0.out (by decide +kernel) (by decide +kernel)).mono ?_
  rintro e w1 ⟨rfl, hb⟩
  have HB1 := Lib.hid (HB0.out.trans (hb.mono HB0.out.size))
  have HL1 : Hid (Live w1) := Lib.hid (HL0.out.below hb (Nat.le_refl _))
  clear hb
  go_wp2_with fail
  refine (read_c _ 1 0 w1 (by decide) HL1.out (by decide +kernel) (by decide +kernel)).mono ?_
  rintro e w2 ⟨rfl, hb⟩
  have HB2 := Lib.hid (HB1.out.trans (hb.mono HB1.out.size))
  have HL2 : Hid (Live w2) := Lib.hid (HL1.out.below hb (Nat.le_refl _))
  clear hb
  go_wp2_with fail
  refine (read_c _ 0 0 w2 (by decide) HL2.out (by decide +kernel) (by decide +kernel)).mono ?_
  rintro e w3 ⟨rfl, hb⟩
  have HB3 := Lib.hid (HB2.out.trans (hb.mono HB2.out.size))
  have HL3 : Hid (Live w3) := Lib.hid (HL2.out.below hb (Nat.le_refl _))
  clear hb
  go_wp2_with fail
  refine (read_c _ 0 3 w3 (by decide) HL3.out (by decide +kernel) (by decide +kernel)).mono ?_
  rintro e w4 ⟨rfl, hb⟩
  have HB4 := Lib.hid (HB3.out.trans (hb.mono HB3.out.size))
  have HL4 : Hid (Live w4) := Lib.hid (HL3.out.below hb (Nat.le_refl _))
  clear hb
  go_wp2_with fail
  refine (read_c _ 0 2 w4 (by decide) HL4.out (by decide +kernel) (by decide +kernel)).mono ?_
  rintro e w5 ⟨rfl, hb⟩
  have HB5 := Lib.hid (HB4.out.trans (hb.mono HB4.out.size))
  have HL5 : Hid (Live w5) := Lib.hid (HL4.out.below hb (Nat.le_refl _))
  clear hb
  go_wp2_with fail
  refine (text_c 30000 ⟨#[51, 46, 48]⟩ w5 HL5.out text_30000).mono ?_
  rintro e w6 ⟨rfl, hb⟩
  have HB6 := Lib.hid (HB5.out.trans (hb.mono HB5.out.size))
  have HL6 : Hid (Live w6) := Lib.hid (HL5.out.below hb (Nat.le_refl _))
  clear hb
  go_wp2_with fail
  refine (text_c 1 ⟨#[48, 46, 48, 48, 48, 49]⟩ w6 HL6.out text_1).mono ?_
  rintro e w7 ⟨rfl, hb⟩
  have HB7 := Lib.hid (HB6.out.trans (hb.mono HB6.out.size))
  have HL7 : Hid (Live w7) := Lib.hid (HL6.out.below hb (Nat.le_refl _))
  clear hb
  go_wp2_with fail
  refine (text_c 0 ⟨#[48, 46, 48]⟩ w7 HL7.out text_0).mono ?_
  rintro e w8 ⟨rfl, hb⟩
  have HB8 := Lib.hid (HB7.out.trans (hb.mono HB7.out.size))
  have HL8 : Hid (Live w8) := Lib.hid (HL7.out.below hb (Nat.le_refl _))
  clear hb
  go_wp2_with fail
  refine (near_c (-5) 2 (-2) 0 w8 (by decide) (by decide +kernel) (by decide +kernel)).mono ?_
  rintro e w9 ⟨rfl, hb⟩
  have HB9 := Lib.hid (HB8.out.trans (hb.mono HB8.out.size))
  have HL9 : Hid (Live w9) := Lib.hid (HL8.out.below hb (Nat.le_refl _))
  clear hb
  go_wp2_with fail
  refine (mul_c 15000 15000 22500 0 w9 (by decide +kernel) (by decide +kernel)).mono ?_
  rintro e w10 ⟨rfl, hb⟩
  have HB10 := Lib.hid (HB9.out.trans (hb.mono HB9.out.size))
  have HL10 : Hid (Live w10) := Lib.hid (HL9.out.below hb (Nat.le_refl _))
  clear hb
  go_wp2_with fail
  refine (div_c 10000 30000 3333 0 w10 (by decide +kernel) (by decide +kernel)).mono ?_
  rintro e w11 ⟨rfl, hb⟩
  have HB11 := Lib.hid (HB10.out.trans (hb.mono HB10.out.size))
  have HL11 : Hid (Live w11) := Lib.hid (HL10.out.below hb (Nat.le_refl _))
  clear hb
  go_wp2_with fail
  refine (dot_c _ 4 [5000, 1, 5000, 1] 1 0 _ (by decide) (reads_new w11 [5000, 1, 5000, 1] _) (by decide +kernel) (by decide +kernel)).mono ?_
  rintro e w12 ⟨rfl, hb⟩
  have HB12 := Lib.hid ((HB11.out.alloc HB11.out.size _).trans (hb.mono (Nat.le_trans HB11.out.size (by simp))))
  have HL12 : Hid (Live w12) := Lib.hid ((HL11.out.alloc _).below hb (Nat.le_refl _))
  clear hb
  go_wp2_with fail
  refine (root_c 20000 14142 0 w12 root_20000 (by decide +kernel)).mono ?_
  rintro e w13 ⟨rfl, hb⟩
  have HB13 := Lib.hid (HB12.out.trans (hb.mono HB12.out.size))
  have HL13 : Hid (Live w13) := Lib.hid (HL12.out.below hb (Nat.le_refl _))
  clear hb
  go_wp2_with fail
  refine (sum_c _ 2 [3, 4] 7 0 _ (by decide) (reads_new w13 [3, 4] _) (by decide +kernel) (by decide +kernel)).mono ?_
  rintro e w14 ⟨rfl, hb⟩
  have HB14 := Lib.hid ((HB13.out.alloc HB13.out.size _).trans (hb.mono (Nat.le_trans HB13.out.size (by simp))))
  have HL14 : Hid (Live w14) := Lib.hid ((HL13.out.alloc _).below hb (Nat.le_refl _))
  clear hb
  go_wp2_with fail
  refine (div_c 1 0 0 1 w14 (by decide +kernel) (by decide +kernel)).mono ?_
  rintro e w15 ⟨rfl, hb⟩
  have HB15 := Lib.hid (HB14.out.trans (hb.mono HB14.out.size))
  have HL15 : Hid (Live w15) := Lib.hid (HL14.out.below hb (Nat.le_refl _))
  clear hb
  have hq := wholes 15000 2 (by decide +kernel)
  have HQ := Lib.hid hq
  clear hq
  go_wp2_with fail
  refine (HQ.out w15).mono ?_
  rintro e w16 ⟨rfl, kk, rfl⟩
  go_wp2_with fail
  go_ret
  exact ⟨rfl, below_drewN HB15.out _⟩
end Go.Proofs.YtmimeconkmfkfaaDoor
