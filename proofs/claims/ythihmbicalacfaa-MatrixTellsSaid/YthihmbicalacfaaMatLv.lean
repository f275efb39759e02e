/-
  matrix: lives: the sample results, in every world.
-/
import Derived.Test.YthihmbicalacfaaMatF
import Derived.Test.YthihmbicalacfaaMatK
namespace Go.Proofs.Ythihmbicalacfaa
open Go.RowKit Fix Mat

theorem lives_len : LenIs ⟨30000, 0, 0, 40000, 0, 0⟩ 10 10 50 0 := .inl ⟨by kernel_rfl, 50, ⟨by decide, by decide +kernel, by decide +kernel⟩, .inl ⟨by decide, rfl, rfl⟩⟩
theorem lives_obj : objL ⟨15000, 0, 0, 0, 0, (-20000)⟩ 6 = [(3, 15000), (2, 0), (2, 0), (2, 0), (2, 0), (2, -2)] := by kernel_rfl
theorem lives_chk : chkM ⟨10000, 0, 0, 10000, 0, 0⟩ = 0 := by kernel_rfl
theorem lives_readQ : readQ [(3, 15000), (2, 0), (2, 0), (2, 0), (2, 0), (2, -2)] = ⟨15000, 0, 0, 0, 0, (-20000)⟩ := by kernel_rfl
theorem lives_readX : readX [(3, 15000), (2, 0), (2, 0), (2, 0), (2, 0), (2, -2)] = 0 := by kernel_rfl

set_option maxRecDepth 100000 in
set_option maxHeartbeats 16000000 in
theorem matLives (w : World) : Calls Try.prog 10 #[] w fun e w' => e = .returned (.bool true) ∧ Below w.heap.size w w' := by
  obtain ⟨N, hN⟩ : ∃ N, w.heap.size = N := ⟨_, rfl⟩
  have HB := Lib.hid (Below.refl w.heap.size w)
  have HS := Lib.hid (Nat.le_refl w.heap.size)
  rw [hN] at HB
  have HS : Hid (N ≤ w.heap.size) := Lib.hid (Nat.le_of_eq hN.symm)
  have A1 : Hid (∀ W : World, Calls Try.prog 25 #[.int .i64 1, .int .i64 2] W fun e w' => e = .returned (.agg #[.int .i64 10000, .int .i64 0, .int .i64 0, .int .i64 10000, .int .i64 1, .int .i64 2]) ∧ Below W.heap.size W w') := Lib.hid (fun W => move_any 1 2 W)
  have A2 : Hid (∀ W : World, Calls Try.prog 27 #[.int .i64 20000, .int .i64 30000] W fun e w' => e = .returned (.agg #[.int .i64 20000, .int .i64 0, .int .i64 0, .int .i64 30000, .int .i64 0, .int .i64 0]) ∧ Below W.heap.size W w') := Lib.hid (fun W => scale_any 20000 30000 W)
  have A3 : Hid (∀ W : World, Calls Try.prog 11 #[.agg #[.int .i64 10000, .int .i64 0, .int .i64 0, .int .i64 10000, .int .i64 1, .int .i64 2], .agg #[.int .i64 20000, .int .i64 0, .int .i64 0, .int .i64 30000, .int .i64 0, .int .i64 0]] W fun e w' => e = .returned (.tuple #[.agg #[.int .i64 20000, .int .i64 0, .int .i64 0, .int .i64 30000, .int .i64 2, .int .i64 6], .int .i64 0]) ∧ Below W.heap.size W w') := Lib.hid (fun W => mul_mx ⟨10000, 0, 0, 10000, 1, 2⟩ ⟨20000, 0, 0, 30000, 0, 0⟩ ⟨20000, 0, 0, 30000, 2, 6⟩ 0 W (by kernel_rfl) (by kernel_rfl))
  have A4 : Hid (∀ W : World, Calls Try.prog 13 #[.agg #[.int .i64 0, .int .i64 10000, .int .i64 (-10000), .int .i64 0, .int .i64 0, .int .i64 0], .agg #[.int .i64 5, .int .i64 7]] W fun e w' => e = .returned (.tuple #[.agg #[.int .i64 (-7), .int .i64 5], .int .i64 0]) ∧ Below W.heap.size W w') := Lib.hid (fun W => apply_pt ⟨0, 10000, (-10000), 0, 0, 0⟩ 5 7 (-7) 5 0 W (by kernel_rfl) (by kernel_rfl))
  have A5 : Hid (∀ W : World, Calls Try.prog 27 #[.int .i64 30000, .int .i64 40000] W fun e w' => e = .returned (.agg #[.int .i64 30000, .int .i64 0, .int .i64 0, .int .i64 40000, .int .i64 0, .int .i64 0]) ∧ Below W.heap.size W w') := Lib.hid (fun W => scale_any 30000 40000 W)
  have A6 : Hid (∀ W : World, Calls Try.prog 15 #[.agg #[.int .i64 30000, .int .i64 0, .int .i64 0, .int .i64 40000, .int .i64 0, .int .i64 0], .agg #[.int .i64 10, .int .i64 10]] W fun e w' => e = .returned (.tuple #[.int .i64 50, .int .i64 0]) ∧ Below W.heap.size W w') := Lib.hid (fun W => length_any ⟨30000, 0, 0, 40000, 0, 0⟩ 10 10 50 0 W lives_len)
  have A7 : Hid (∀ W : World, Calls Try.prog 27 #[.int .i64 (-10000), .int .i64 10000] W fun e w' => e = .returned (.agg #[.int .i64 (-10000), .int .i64 0, .int .i64 0, .int .i64 10000, .int .i64 0, .int .i64 0]) ∧ Below W.heap.size W w') := Lib.hid (fun W => scale_any (-10000) 10000 W)
  have A8 : Hid (∀ W : World, Calls Try.prog 17 #[.agg #[.int .i64 (-10000), .int .i64 0, .int .i64 0, .int .i64 10000, .int .i64 0, .int .i64 0], .agg #[.int .i64 1, .int .i64 2, .int .i64 3, .int .i64 4]] W fun e w' => e = .returned (.tuple #[.agg #[.int .i64 (-3), .int .i64 2, .int .i64 (-1), .int .i64 4], .int .i64 0]) ∧ Below W.heap.size W w') := Lib.hid (fun W => box_rc ⟨(-10000), 0, 0, 10000, 0, 0⟩ ⟨1, 2, 3, 4⟩ ⟨-3, 2, -1, 4⟩ 0 W (by kernel_rfl) (by kernel_rfl))
  have A9 : Hid (∀ W : World, Calls Try.prog 21 #[] W fun e w' => e = .returned (.agg #[.int .i64 10000, .int .i64 0, .int .i64 0, .int .i64 10000, .int .i64 0, .int .i64 0]) ∧ Below W.heap.size W w') := Lib.hid (fun W => one_any W)
  have A10 : Hid (∀ W : World, Calls Try.prog 11 #[.agg #[.int .i64 1073741825, .int .i64 0, .int .i64 0, .int .i64 0, .int .i64 0, .int .i64 0], .agg #[.int .i64 10000, .int .i64 0, .int .i64 0, .int .i64 10000, .int .i64 0, .int .i64 0]] W fun e w' => e = .returned (.tuple #[.agg #[.int .i64 0, .int .i64 0, .int .i64 0, .int .i64 0, .int .i64 0, .int .i64 0], .int .i64 2]) ∧ Below W.heap.size W w') := Lib.hid (fun W => mul_mx ⟨1073741825, 0, 0, 0, 0, 0⟩ ⟨10000, 0, 0, 10000, 0, 0⟩ ⟨0, 0, 0, 0, 0, 0⟩ 2 W (by kernel_rfl) (by kernel_rfl))
  have A11 : Hid (∀ W : World, Calls Try.prog 13 #[.agg #[.int .i64 10000, .int .i64 0, .int .i64 0, .int .i64 10000, .int .i64 0, .int .i64 0], .agg #[.int .i64 1073741825, .int .i64 0]] W fun e w' => e = .returned (.tuple #[.agg #[.int .i64 0, .int .i64 0], .int .i64 2]) ∧ Below W.heap.size W w') := Lib.hid (fun W => apply_pt ⟨10000, 0, 0, 10000, 0, 0⟩ 1073741825 0 0 0 2 W (by kernel_rfl) (by kernel_rfl))
  have A12 : Hid (∀ W : World, Calls Try.prog 25 #[.int .i64 1, .int .i64 0] W fun e w' => e = .returned (.agg #[.int .i64 10000, .int .i64 0, .int .i64 0, .int .i64 10000, .int .i64 1, .int .i64 0]) ∧ Below W.heap.size W w') := Lib.hid (fun W => move_any 1 0 W)
  have A13 : Hid (∀ W : World, Calls Try.prog 13 #[.agg #[.int .i64 10000, .int .i64 0, .int .i64 0, .int .i64 10000, .int .i64 1, .int .i64 0], .agg #[.int .i64 1073741824, .int .i64 0]] W fun e w' => e = .returned (.tuple #[.agg #[.int .i64 0, .int .i64 0], .int .i64 2]) ∧ Below W.heap.size W w') := Lib.hid (fun W => apply_pt ⟨10000, 0, 0, 10000, 1, 0⟩ 1073741824 0 0 0 2 W (by kernel_rfl) (by kernel_rfl))
  have A14 : Hid (∀ W : World, Calls Try.prog 19 #[.agg #[.int .i64 0, .int .i64 0, .int .i64 0, .string ⟨#[]⟩, .slice none 0 0, .slice none 0 0]] W fun e w' => e = .returned (.tuple #[.agg #[.int .i64 0, .int .i64 0, .int .i64 0, .int .i64 0, .int .i64 0, .int .i64 0], .int .i64 10]) ∧ Below W.heap.size W w') := Lib.hid (fun W => read_kind 0 0 0 ⟨#[]⟩ (.slice none 0 0) (.slice none 0 0) W (by decide))
  have A15 : Hid (∀ W : World, Calls Try.prog 19 #[.agg #[.int .i64 6, .int .i64 0, .int .i64 0, .string ⟨#[]⟩, .slice none 0 0, .slice none 0 0]] W fun e w' => e = .returned (.tuple #[.agg #[.int .i64 0, .int .i64 0, .int .i64 0, .int .i64 0, .int .i64 0, .int .i64 0], .int .i64 3]) ∧ Below W.heap.size W w') := Lib.hid (fun W => read_form 0 0 ⟨#[]⟩ (.slice none 0 0) none 0 0 W (by decide))
  have A16 : Hid (∀ W : World, Calls Try.prog 30 #[.agg #[.int .i64 15000, .int .i64 0, .int .i64 0, .int .i64 0, .int .i64 0, .int .i64 (-20000)]] W fun e w' => ∃ g c', e = .returned (.agg #[.int .i64 6, .int .i64 0, .int .i64 0, .string ⟨#[]⟩, .slice none 0 0, .slice (some ⟨g, 0, none⟩) 6 c']) ∧ ORow w' g [(3, 15000), (2, 0), (2, 0), (2, 0), (2, 0), (2, -2)] ∧ W.heap.size ≤ g ∧ Below W.heap.size W w') := Lib.hid (fun W => lives_obj ▸ object_any ⟨15000, 0, 0, 0, 0, (-20000)⟩ W (by kernel_rfl))
  have A17 : Hid (∀ W : World, Calls Try.prog 23 #[.agg #[.int .i64 10000, .int .i64 0, .int .i64 0, .int .i64 10000, .int .i64 0, .int .i64 0]] W fun e w' => e = .returned (.int .i64 0) ∧ Below W.heap.size W w') := Lib.hid (fun W => lives_chk ▸ check_any ⟨10000, 0, 0, 10000, 0, 0⟩ W)
  rw [hN]
  go_enter Try.func10, Try.ntmps10
  go_upto_region 1 with fail
  clear hN
  go_wp2_with fail
  refine (A1.out w).mono ?_
  rintro e U1 ⟨rfl, hb⟩
  have HB := Lib.hid (HB.out.trans (hb.mono HS.out))
  have HS := Lib.hid (Nat.le_trans HS.out hb.size)
  clear hb
  go_wp2_with fail
  refine (A2.out U1).mono ?_
  rintro e U2 ⟨rfl, hb⟩
  have HB := Lib.hid (HB.out.trans (hb.mono HS.out))
  have HS := Lib.hid (Nat.le_trans HS.out hb.size)
  clear hb
  go_wp2_with fail
  refine (A3.out U2).mono ?_
  rintro e U3 ⟨rfl, hb⟩
  have HB := Lib.hid (HB.out.trans (hb.mono HS.out))
  have HS := Lib.hid (Nat.le_trans HS.out hb.size)
  clear hb
  obtain ⟨Gm, hG⟩ : ∃ G, U3.heap.size = G := ⟨_, rfl⟩
  go_upto_region 2 with fail
  obtain ⟨U4, hU⟩ : ∃ X, U3.alloc (.cells #[.int .i64 20000, .int .i64 0, .int .i64 0, .int .i64 30000, .int .i64 2, .int .i64 6] 23) = X := ⟨_, rfl⟩
  have Lm : Hid (Blk U4 Gm 23 #[.int .i64 20000, .int .i64 0, .int .i64 0, .int .i64 30000, .int .i64 2, .int .i64 6]) := Lib.hid (by rw [← hU, ← hG]; exact Blk.new U3 _ _)
  have HB := Lib.hid (HB.out.alloc HS.out (.cells #[.int .i64 20000, .int .i64 0, .int .i64 0, .int .i64 30000, .int .i64 2, .int .i64 6] 23))
  rw [hU] at HB
  have HS : Hid (N ≤ U4.heap.size) := Lib.hid (Nat.le_trans HS.out (by rw [← hU, World.size_alloc]; exact Nat.le_succ _))
  rw [hU]
  clear hU hG
  go_wp2_with fail
  refine (A4.out U4).mono ?_
  rintro e U5 ⟨rfl, hb⟩
  have Lm := Lib.hid (Lm.out.below hb Lm.out.lt)
  have HB := Lib.hid (HB.out.trans (hb.mono HS.out))
  have HS := Lib.hid (Nat.le_trans HS.out hb.size)
  clear hb
  obtain ⟨Gp, hG⟩ : ∃ G, U5.heap.size = G := ⟨_, rfl⟩
  go_upto_region 3 with fail
  obtain ⟨U6, hU⟩ : ∃ X, U5.alloc (.cells #[.int .i64 (-7), .int .i64 5] 25) = X := ⟨_, rfl⟩
  have Lm := Lib.hid (Lm.out.alloc (.cells #[.int .i64 (-7), .int .i64 5] 25))
  rw [hU] at Lm
  have Lp : Hid (Blk U6 Gp 25 #[.int .i64 (-7), .int .i64 5]) := Lib.hid (by rw [← hU, ← hG]; exact Blk.new U5 _ _)
  have HB := Lib.hid (HB.out.alloc HS.out (.cells #[.int .i64 (-7), .int .i64 5] 25))
  rw [hU] at HB
  have HS : Hid (N ≤ U6.heap.size) := Lib.hid (Nat.le_trans HS.out (by rw [← hU, World.size_alloc]; exact Nat.le_succ _))
  rw [hU]
  clear hU hG
  go_wp2_with fail
  refine (A5.out U6).mono ?_
  rintro e U7 ⟨rfl, hb⟩
  have Lm := Lib.hid (Lm.out.below hb Lm.out.lt)
  have Lp := Lib.hid (Lp.out.below hb Lp.out.lt)
  have HB := Lib.hid (HB.out.trans (hb.mono HS.out))
  have HS := Lib.hid (Nat.le_trans HS.out hb.size)
  clear hb
  go_wp2_with fail
  refine (A6.out U7).mono ?_
  rintro e U8 ⟨rfl, hb⟩
  have Lm := Lib.hid (Lm.out.below hb Lm.out.lt)
  have Lp := Lib.hid (Lp.out.below hb Lp.out.lt)
  have HB := Lib.hid (HB.out.trans (hb.mono HS.out))
  have HS := Lib.hid (Nat.le_trans HS.out hb.size)
  clear hb
  go_upto_region 4 with fail
  go_wp2_with fail
  refine (A7.out U8).mono ?_
  rintro e U9 ⟨rfl, hb⟩
  have Lm := Lib.hid (Lm.out.below hb Lm.out.lt)
  have Lp := Lib.hid (Lp.out.below hb Lp.out.lt)
  have HB := Lib.hid (HB.out.trans (hb.mono HS.out))
  have HS := Lib.hid (Nat.le_trans HS.out hb.size)
  clear hb
  go_wp2_with fail
  refine (A8.out U9).mono ?_
  rintro e U10 ⟨rfl, hb⟩
  have Lm := Lib.hid (Lm.out.below hb Lm.out.lt)
  have Lp := Lib.hid (Lp.out.below hb Lp.out.lt)
  have HB := Lib.hid (HB.out.trans (hb.mono HS.out))
  have HS := Lib.hid (Nat.le_trans HS.out hb.size)
  clear hb
  obtain ⟨Gb, hG⟩ : ∃ G, U10.heap.size = G := ⟨_, rfl⟩
  go_upto_region 5 with fail
  obtain ⟨U11, hU⟩ : ∃ X, U10.alloc (.cells #[.int .i64 (-3), .int .i64 2, .int .i64 (-1), .int .i64 4] 27) = X := ⟨_, rfl⟩
  have Lm := Lib.hid (Lm.out.alloc (.cells #[.int .i64 (-3), .int .i64 2, .int .i64 (-1), .int .i64 4] 27))
  rw [hU] at Lm
  have Lp := Lib.hid (Lp.out.alloc (.cells #[.int .i64 (-3), .int .i64 2, .int .i64 (-1), .int .i64 4] 27))
  rw [hU] at Lp
  have Lb : Hid (Blk U11 Gb 27 #[.int .i64 (-3), .int .i64 2, .int .i64 (-1), .int .i64 4]) := Lib.hid (by rw [← hU, ← hG]; exact Blk.new U10 _ _)
  have HB := Lib.hid (HB.out.alloc HS.out (.cells #[.int .i64 (-3), .int .i64 2, .int .i64 (-1), .int .i64 4] 27))
  rw [hU] at HB
  have HS : Hid (N ≤ U11.heap.size) := Lib.hid (Nat.le_trans HS.out (by rw [← hU, World.size_alloc]; exact Nat.le_succ _))
  rw [hU]
  clear hU hG
  go_wp2_with fail
  refine (A9.out U11).mono ?_
  rintro e U12 ⟨rfl, hb⟩
  have Lm := Lib.hid (Lm.out.below hb Lm.out.lt)
  have Lp := Lib.hid (Lp.out.below hb Lp.out.lt)
  have Lb := Lib.hid (Lb.out.below hb Lb.out.lt)
  have HB := Lib.hid (HB.out.trans (hb.mono HS.out))
  have HS := Lib.hid (Nat.le_trans HS.out hb.size)
  clear hb
  go_wp2_with fail
  refine (A10.out U12).mono ?_
  rintro e U13 ⟨rfl, hb⟩
  have Lm := Lib.hid (Lm.out.below hb Lm.out.lt)
  have Lp := Lib.hid (Lp.out.below hb Lp.out.lt)
  have Lb := Lib.hid (Lb.out.below hb Lb.out.lt)
  have HB := Lib.hid (HB.out.trans (hb.mono HS.out))
  have HS := Lib.hid (Nat.le_trans HS.out hb.size)
  clear hb
  obtain ⟨Gx, hG⟩ : ∃ G, U13.heap.size = G := ⟨_, rfl⟩
  go_upto_region 6 with fail
  obtain ⟨U14, hU⟩ : ∃ X, U13.alloc (.cells #[.int .i64 0, .int .i64 0, .int .i64 0, .int .i64 0, .int .i64 0, .int .i64 0] 23) = X := ⟨_, rfl⟩
  have Lm := Lib.hid (Lm.out.alloc (.cells #[.int .i64 0, .int .i64 0, .int .i64 0, .int .i64 0, .int .i64 0, .int .i64 0] 23))
  rw [hU] at Lm
  have Lp := Lib.hid (Lp.out.alloc (.cells #[.int .i64 0, .int .i64 0, .int .i64 0, .int .i64 0, .int .i64 0, .int .i64 0] 23))
  rw [hU] at Lp
  have Lb := Lib.hid (Lb.out.alloc (.cells #[.int .i64 0, .int .i64 0, .int .i64 0, .int .i64 0, .int .i64 0, .int .i64 0] 23))
  rw [hU] at Lb
  have Lx : Hid (Blk U14 Gx 23 #[.int .i64 0, .int .i64 0, .int .i64 0, .int .i64 0, .int .i64 0, .int .i64 0]) := Lib.hid (by rw [← hU, ← hG]; exact Blk.new U13 _ _)
  have HB := Lib.hid (HB.out.alloc HS.out (.cells #[.int .i64 0, .int .i64 0, .int .i64 0, .int .i64 0, .int .i64 0, .int .i64 0] 23))
  rw [hU] at HB
  have HS : Hid (N ≤ U14.heap.size) := Lib.hid (Nat.le_trans HS.out (by rw [← hU, World.size_alloc]; exact Nat.le_succ _))
  rw [hU]
  clear hU hG
  clear Lx
  go_wp2_with fail
  refine (A9.out U14).mono ?_
  rintro e U15 ⟨rfl, hb⟩
  have Lm := Lib.hid (Lm.out.below hb Lm.out.lt)
  have Lp := Lib.hid (Lp.out.below hb Lp.out.lt)
  have Lb := Lib.hid (Lb.out.below hb Lb.out.lt)
  have HB := Lib.hid (HB.out.trans (hb.mono HS.out))
  have HS := Lib.hid (Nat.le_trans HS.out hb.size)
  clear hb
  go_wp2_with fail
  refine (A11.out U15).mono ?_
  rintro e U16 ⟨rfl, hb⟩
  have Lm := Lib.hid (Lm.out.below hb Lm.out.lt)
  have Lp := Lib.hid (Lp.out.below hb Lp.out.lt)
  have Lb := Lib.hid (Lb.out.below hb Lb.out.lt)
  have HB := Lib.hid (HB.out.trans (hb.mono HS.out))
  have HS := Lib.hid (Nat.le_trans HS.out hb.size)
  clear hb
  obtain ⟨Gx, hG⟩ : ∃ G, U16.heap.size = G := ⟨_, rfl⟩
  go_upto_region 7 with fail
  obtain ⟨U17, hU⟩ : ∃ X, U16.alloc (.cells #[.int .i64 0, .int .i64 0] 25) = X := ⟨_, rfl⟩
  have Lm := Lib.hid (Lm.out.alloc (.cells #[.int .i64 0, .int .i64 0] 25))
  rw [hU] at Lm
  have Lp := Lib.hid (Lp.out.alloc (.cells #[.int .i64 0, .int .i64 0] 25))
  rw [hU] at Lp
  have Lb := Lib.hid (Lb.out.alloc (.cells #[.int .i64 0, .int .i64 0] 25))
  rw [hU] at Lb
  have Lx : Hid (Blk U17 Gx 25 #[.int .i64 0, .int .i64 0]) := Lib.hid (by rw [← hU, ← hG]; exact Blk.new U16 _ _)
  have HB := Lib.hid (HB.out.alloc HS.out (.cells #[.int .i64 0, .int .i64 0] 25))
  rw [hU] at HB
  have HS : Hid (N ≤ U17.heap.size) := Lib.hid (Nat.le_trans HS.out (by rw [← hU, World.size_alloc]; exact Nat.le_succ _))
  rw [hU]
  clear hU hG
  clear Lx
  go_wp2_with fail
  refine (A12.out U17).mono ?_
  rintro e U18 ⟨rfl, hb⟩
  have Lm := Lib.hid (Lm.out.below hb Lm.out.lt)
  have Lp := Lib.hid (Lp.out.below hb Lp.out.lt)
  have Lb := Lib.hid (Lb.out.below hb Lb.out.lt)
  have HB := Lib.hid (HB.out.trans (hb.mono HS.out))
  have HS := Lib.hid (Nat.le_trans HS.out hb.size)
  clear hb
  go_wp2_with fail
  refine (A13.out U18).mono ?_
  rintro e U19 ⟨rfl, hb⟩
  have Lm := Lib.hid (Lm.out.below hb Lm.out.lt)
  have Lp := Lib.hid (Lp.out.below hb Lp.out.lt)
  have Lb := Lib.hid (Lb.out.below hb Lb.out.lt)
  have HB := Lib.hid (HB.out.trans (hb.mono HS.out))
  have HS := Lib.hid (Nat.le_trans HS.out hb.size)
  clear hb
  obtain ⟨Gx, hG⟩ : ∃ G, U19.heap.size = G := ⟨_, rfl⟩
  go_upto_region 8 with fail
  obtain ⟨U20, hU⟩ : ∃ X, U19.alloc (.cells #[.int .i64 0, .int .i64 0] 25) = X := ⟨_, rfl⟩
  have Lm := Lib.hid (Lm.out.alloc (.cells #[.int .i64 0, .int .i64 0] 25))
  rw [hU] at Lm
  have Lp := Lib.hid (Lp.out.alloc (.cells #[.int .i64 0, .int .i64 0] 25))
  rw [hU] at Lp
  have Lb := Lib.hid (Lb.out.alloc (.cells #[.int .i64 0, .int .i64 0] 25))
  rw [hU] at Lb
  have Lx : Hid (Blk U20 Gx 25 #[.int .i64 0, .int .i64 0]) := Lib.hid (by rw [← hU, ← hG]; exact Blk.new U19 _ _)
  have HB := Lib.hid (HB.out.alloc HS.out (.cells #[.int .i64 0, .int .i64 0] 25))
  rw [hU] at HB
  have HS : Hid (N ≤ U20.heap.size) := Lib.hid (Nat.le_trans HS.out (by rw [← hU, World.size_alloc]; exact Nat.le_succ _))
  rw [hU]
  clear hU hG
  clear Lx
  go_wp2_with fail
  refine (A14.out U20).mono ?_
  rintro e U21 ⟨rfl, hb⟩
  have Lm := Lib.hid (Lm.out.below hb Lm.out.lt)
  have Lp := Lib.hid (Lp.out.below hb Lp.out.lt)
  have Lb := Lib.hid (Lb.out.below hb Lb.out.lt)
  have HB := Lib.hid (HB.out.trans (hb.mono HS.out))
  have HS := Lib.hid (Nat.le_trans HS.out hb.size)
  clear hb
  obtain ⟨Gx, hG⟩ : ∃ G, U21.heap.size = G := ⟨_, rfl⟩
  go_upto_region 9 with fail
  obtain ⟨U22, hU⟩ : ∃ X, U21.alloc (.cells #[.int .i64 0, .int .i64 0, .int .i64 0, .int .i64 0, .int .i64 0, .int .i64 0] 23) = X := ⟨_, rfl⟩
  have Lm := Lib.hid (Lm.out.alloc (.cells #[.int .i64 0, .int .i64 0, .int .i64 0, .int .i64 0, .int .i64 0, .int .i64 0] 23))
  rw [hU] at Lm
  have Lp := Lib.hid (Lp.out.alloc (.cells #[.int .i64 0, .int .i64 0, .int .i64 0, .int .i64 0, .int .i64 0, .int .i64 0] 23))
  rw [hU] at Lp
  have Lb := Lib.hid (Lb.out.alloc (.cells #[.int .i64 0, .int .i64 0, .int .i64 0, .int .i64 0, .int .i64 0, .int .i64 0] 23))
  rw [hU] at Lb
  have Lx : Hid (Blk U22 Gx 23 #[.int .i64 0, .int .i64 0, .int .i64 0, .int .i64 0, .int .i64 0, .int .i64 0]) := Lib.hid (by rw [← hU, ← hG]; exact Blk.new U21 _ _)
  have HB := Lib.hid (HB.out.alloc HS.out (.cells #[.int .i64 0, .int .i64 0, .int .i64 0, .int .i64 0, .int .i64 0, .int .i64 0] 23))
  rw [hU] at HB
  have HS : Hid (N ≤ U22.heap.size) := Lib.hid (Nat.le_trans HS.out (by rw [← hU, World.size_alloc]; exact Nat.le_succ _))
  rw [hU]
  clear hU hG
  clear Lx
  go_wp2_with fail
  refine (A15.out U22).mono ?_
  rintro e U23 ⟨rfl, hb⟩
  have Lm := Lib.hid (Lm.out.below hb Lm.out.lt)
  have Lp := Lib.hid (Lp.out.below hb Lp.out.lt)
  have Lb := Lib.hid (Lb.out.below hb Lb.out.lt)
  have HB := Lib.hid (HB.out.trans (hb.mono HS.out))
  have HS := Lib.hid (Nat.le_trans HS.out hb.size)
  clear hb
  obtain ⟨Gx, hG⟩ : ∃ G, U23.heap.size = G := ⟨_, rfl⟩
  go_upto_region 10 with fail
  obtain ⟨U24, hU⟩ : ∃ X, U23.alloc (.cells #[.int .i64 0, .int .i64 0, .int .i64 0, .int .i64 0, .int .i64 0, .int .i64 0] 23) = X := ⟨_, rfl⟩
  have Lm := Lib.hid (Lm.out.alloc (.cells #[.int .i64 0, .int .i64 0, .int .i64 0, .int .i64 0, .int .i64 0, .int .i64 0] 23))
  rw [hU] at Lm
  have Lp := Lib.hid (Lp.out.alloc (.cells #[.int .i64 0, .int .i64 0, .int .i64 0, .int .i64 0, .int .i64 0, .int .i64 0] 23))
  rw [hU] at Lp
  have Lb := Lib.hid (Lb.out.alloc (.cells #[.int .i64 0, .int .i64 0, .int .i64 0, .int .i64 0, .int .i64 0, .int .i64 0] 23))
  rw [hU] at Lb
  have Lx : Hid (Blk U24 Gx 23 #[.int .i64 0, .int .i64 0, .int .i64 0, .int .i64 0, .int .i64 0, .int .i64 0]) := Lib.hid (by rw [← hU, ← hG]; exact Blk.new U23 _ _)
  have HB := Lib.hid (HB.out.alloc HS.out (.cells #[.int .i64 0, .int .i64 0, .int .i64 0, .int .i64 0, .int .i64 0, .int .i64 0] 23))
  rw [hU] at HB
  have HS : Hid (N ≤ U24.heap.size) := Lib.hid (Nat.le_trans HS.out (by rw [← hU, World.size_alloc]; exact Nat.le_succ _))
  rw [hU]
  clear hU hG
  clear Lx
  go_wp2_with fail
  refine (A16.out U24).mono ?_
  rintro e U25 ⟨g, c', rfl, hrow, _, hb⟩
  have Lm := Lib.hid (Lm.out.below hb Lm.out.lt)
  have Lp := Lib.hid (Lp.out.below hb Lp.out.lt)
  have Lb := Lib.hid (Lb.out.below hb Lb.out.lt)
  have HB := Lib.hid (HB.out.trans (hb.mono HS.out))
  have HS := Lib.hid (Nat.le_trans HS.out hb.size)
  have Lo2 := Lib.hid hrow
  clear hrow
  clear hb
  obtain ⟨Go, hG⟩ : ∃ G, U25.heap.size = G := ⟨_, rfl⟩
  go_upto_region 11 with fail
  obtain ⟨U26, hU⟩ : ∃ X, U25.alloc (.cells #[.int .i64 6, .int .i64 0, .int .i64 0, .string ⟨#[]⟩, .slice none 0 0, .slice (some ⟨g, 0, none⟩) 6 c'] 31) = X := ⟨_, rfl⟩
  have Lm := Lib.hid (Lm.out.alloc (.cells #[.int .i64 6, .int .i64 0, .int .i64 0, .string ⟨#[]⟩, .slice none 0 0, .slice (some ⟨g, 0, none⟩) 6 c'] 31))
  rw [hU] at Lm
  have Lp := Lib.hid (Lp.out.alloc (.cells #[.int .i64 6, .int .i64 0, .int .i64 0, .string ⟨#[]⟩, .slice none 0 0, .slice (some ⟨g, 0, none⟩) 6 c'] 31))
  rw [hU] at Lp
  have Lb := Lib.hid (Lb.out.alloc (.cells #[.int .i64 6, .int .i64 0, .int .i64 0, .string ⟨#[]⟩, .slice none 0 0, .slice (some ⟨g, 0, none⟩) 6 c'] 31))
  rw [hU] at Lb
  have Lo : Hid (Blk U26 Go 31 #[.int .i64 6, .int .i64 0, .int .i64 0, .string ⟨#[]⟩, .slice none 0 0, .slice (some ⟨g, 0, none⟩) 6 c']) := Lib.hid (by rw [← hU, ← hG]; exact Blk.new U25 _ _)
  have HB := Lib.hid (HB.out.alloc HS.out (.cells #[.int .i64 6, .int .i64 0, .int .i64 0, .string ⟨#[]⟩, .slice none 0 0, .slice (some ⟨g, 0, none⟩) 6 c'] 31))
  rw [hU] at HB
  have HS : Hid (N ≤ U26.heap.size) := Lib.hid (Nat.le_trans HS.out (by rw [← hU, World.size_alloc]; exact Nat.le_succ _))
  have Lo2 := Lib.hid (Lo2.out.below (B := U25.heap.size) (show Below U25.heap.size U25 U26 by rw [← hU]; exact (Below.refl _ _).alloc (Nat.le_refl _) _) (Lo2.out.lt (by decide)))
  rw [hU]
  clear hU hG
  obtain ⟨oc0, oc1, oc2, oc3, oc4, oc5⟩ := (six_cells Lo.out).1
  have HR := Lib.hid (read_six 0 0 ⟨#[]⟩ (.slice none 0 0) (some ⟨g, 0, none⟩) c' _ U26 rfl (NumRow.of_row Lo2.out))
  rw [lives_readQ, lives_readX] at HR
  unfold mxR mxV at HR
  go_wp2_with fail
  refine (HR.out).mono ?_
  rintro e U27 ⟨rfl, hb⟩
  have Lm := Lib.hid (Lm.out.below hb Lm.out.lt)
  have Lp := Lib.hid (Lp.out.below hb Lp.out.lt)
  have Lb := Lib.hid (Lb.out.below hb Lb.out.lt)
  have Lo := Lib.hid (Lo.out.below hb Lo.out.lt)
  have HB := Lib.hid (HB.out.trans (hb.mono HS.out))
  have HS := Lib.hid (Nat.le_trans HS.out hb.size)
  have Lo2 := Lib.hid (Lo2.out.below hb (Lo2.out.lt (by decide)))
  clear hb
  clear oc0 oc1 oc2 oc3 oc4 oc5
  clear HR
  obtain ⟨Gx, hG⟩ : ∃ G, U27.heap.size = G := ⟨_, rfl⟩
  go_upto_region 12 with fail
  obtain ⟨U28, hU⟩ : ∃ X, U27.alloc (.cells #[.int .i64 15000, .int .i64 0, .int .i64 0, .int .i64 0, .int .i64 0, .int .i64 (-20000)] 23) = X := ⟨_, rfl⟩
  have Lm := Lib.hid (Lm.out.alloc (.cells #[.int .i64 15000, .int .i64 0, .int .i64 0, .int .i64 0, .int .i64 0, .int .i64 (-20000)] 23))
  rw [hU] at Lm
  have Lp := Lib.hid (Lp.out.alloc (.cells #[.int .i64 15000, .int .i64 0, .int .i64 0, .int .i64 0, .int .i64 0, .int .i64 (-20000)] 23))
  rw [hU] at Lp
  have Lb := Lib.hid (Lb.out.alloc (.cells #[.int .i64 15000, .int .i64 0, .int .i64 0, .int .i64 0, .int .i64 0, .int .i64 (-20000)] 23))
  rw [hU] at Lb
  have Lo := Lib.hid (Lo.out.alloc (.cells #[.int .i64 15000, .int .i64 0, .int .i64 0, .int .i64 0, .int .i64 0, .int .i64 (-20000)] 23))
  rw [hU] at Lo
  have Lx : Hid (Blk U28 Gx 23 #[.int .i64 15000, .int .i64 0, .int .i64 0, .int .i64 0, .int .i64 0, .int .i64 (-20000)]) := Lib.hid (by rw [← hU, ← hG]; exact Blk.new U27 _ _)
  have HB := Lib.hid (HB.out.alloc HS.out (.cells #[.int .i64 15000, .int .i64 0, .int .i64 0, .int .i64 0, .int .i64 0, .int .i64 (-20000)] 23))
  rw [hU] at HB
  have HS : Hid (N ≤ U28.heap.size) := Lib.hid (Nat.le_trans HS.out (by rw [← hU, World.size_alloc]; exact Nat.le_succ _))
  have Lo2 := Lib.hid (Lo2.out.below (B := U27.heap.size) (show Below U27.heap.size U27 U28 by rw [← hU]; exact (Below.refl _ _).alloc (Nat.le_refl _) _) (Lo2.out.lt (by decide)))
  rw [hU]
  clear hU hG
  obtain ⟨mc0, mc1, mc2, mc3, mc4, mc5⟩ := (six_cells Lm.out).1
  obtain ⟨pc0, pc1⟩ := two_cells Lp.out
  obtain ⟨bc0, bc1, bc2, bc3⟩ := (four_cells Lb.out).1
  go_upto_region 14 with fail
  clear mc0 mc1 mc2 mc3 mc4 mc5 pc0 pc1 bc0 bc1 bc2 bc3
  obtain ⟨oc0, oc1, oc2, oc3, oc4, oc5⟩ := (six_cells Lo.out).1
  obtain ⟨xc0, xc1, xc2, xc3, xc4, xc5⟩ := (six_cells Lx.out).1
  obtain ⟨r0, r1, _, _, _, _⟩ := ORow.six Lo2.out (show 0 < 6 by decide)
  obtain ⟨s0, s1, _, _, _, _⟩ := ORow.six Lo2.out (show 5 < 6 by decide)
  replace r0 : U28.cell? ⟨g, 0, none⟩ = some (.int .i64 3) := r0
  replace r1 : U28.cell? ⟨g, 1, none⟩ = some (.int .i64 15000) := r1
  replace s0 : U28.cell? ⟨g, 30, none⟩ = some (.int .i64 2) := s0
  replace s1 : U28.cell? ⟨g, 31, none⟩ = some (.int .i64 (-2)) := s1
  go_wp2_with fail
  refine (A9.out U28).mono ?_
  rintro e U29 ⟨rfl, hb⟩
  have Lm := Lib.hid (Lm.out.below hb Lm.out.lt)
  have Lp := Lib.hid (Lp.out.below hb Lp.out.lt)
  have Lb := Lib.hid (Lb.out.below hb Lb.out.lt)
  have Lo := Lib.hid (Lo.out.below hb Lo.out.lt)
  have Lx := Lib.hid (Lx.out.below hb Lx.out.lt)
  have HB := Lib.hid (HB.out.trans (hb.mono HS.out))
  have HS := Lib.hid (Nat.le_trans HS.out hb.size)
  clear hb
  go_wp2_with fail
  refine (A17.out U29).mono ?_
  rintro e U30 ⟨rfl, hb⟩
  have Lm := Lib.hid (Lm.out.below hb Lm.out.lt)
  have Lp := Lib.hid (Lp.out.below hb Lp.out.lt)
  have Lb := Lib.hid (Lb.out.below hb Lb.out.lt)
  have Lo := Lib.hid (Lo.out.below hb Lo.out.lt)
  have Lx := Lib.hid (Lx.out.below hb Lx.out.lt)
  have HB := Lib.hid (HB.out.trans (hb.mono HS.out))
  have HS := Lib.hid (Nat.le_trans HS.out hb.size)
  clear hb
  go_wp2_with fail
  go_ret
  exact ⟨rfl, HB.out⟩
end Go.Proofs.Ythihmbicalacfaa
