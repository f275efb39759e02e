/-
  The sample results of ascii's laws.
-/
import Derived.Test.YthioafndepkhoaaAscM
namespace Go.Proofs.Ythioafndepkhoaa
open Go.RowKit Oct Asc Go.Shelf

theorem alv_d0 (w : World) : Calls Try.prog 5 #[.string ⟨#[54, 32, 49, 32, 55, 62, 120]⟩, .int .i64 2] w fun e w' => e = .returned (.tuple #[.string ⟨#[97, 112]⟩, .int .i64 0]) ∧ Below w.heap.size w w' :=
  (aunhex_any ⟨#[54, 32, 49, 32, 55, 62, 120]⟩ 2 w (by decide)).mono fun e w' ⟨h1, h2⟩ => ⟨h1.trans (by kernel_rfl), h2⟩
theorem alv_d1 (w : World) : Calls Try.prog 5 #[.string ⟨#[54, 32, 49, 32, 55, 62]⟩, .int .i64 1] w fun e w' => e = .returned (.tuple #[.string ⟨#[]⟩, .int .i64 5]) ∧ Below w.heap.size w w' :=
  (aunhex_any ⟨#[54, 32, 49, 32, 55, 62]⟩ 1 w (by decide)).mono fun e w' ⟨h1, h2⟩ => ⟨h1.trans (by kernel_rfl), h2⟩
theorem alv_d2 (w : World) : Calls Try.prog 5 #[.string ⟨#[54, 49]⟩, .int .i64 9] w fun e w' => e = .returned (.tuple #[.string ⟨#[]⟩, .int .i64 4]) ∧ Below w.heap.size w w' :=
  (aunhex_any ⟨#[54, 49]⟩ 9 w (by decide)).mono fun e w' ⟨h1, h2⟩ => ⟨h1.trans (by kernel_rfl), h2⟩
theorem alv_d3 (w : World) : Calls Try.prog 5 #[.string ⟨#[54, 103, 62]⟩, .int .i64 9] w fun e w' => e = .returned (.tuple #[.string ⟨#[]⟩, .int .i64 3]) ∧ Below w.heap.size w w' :=
  (aunhex_any ⟨#[54, 103, 62]⟩ 9 w (by decide)).mono fun e w' ⟨h1, h2⟩ => ⟨h1.trans (by kernel_rfl), h2⟩
theorem alv_d4 (w : World) : Calls Try.prog 7 #[.string ⟨#[64, 47, 126, 62]⟩, .int .i64 1] w fun e w' => e = .returned (.tuple #[.string ⟨#[97]⟩, .int .i64 0]) ∧ Below w.heap.size w w' :=
  (aunfive_any ⟨#[64, 47, 126, 62]⟩ 1 w (by decide)).mono fun e w' ⟨h1, h2⟩ => ⟨h1.trans (by kernel_rfl), h2⟩
theorem alv_d5 (w : World) : Calls Try.prog 7 #[.string ⟨#[32, 122, 32, 126, 62]⟩, .int .i64 4] w fun e w' => e = .returned (.tuple #[.string ⟨#[0, 0, 0, 0]⟩, .int .i64 0]) ∧ Below w.heap.size w w' :=
  (aunfive_any ⟨#[32, 122, 32, 126, 62]⟩ 4 w (by decide)).mono fun e w' ⟨h1, h2⟩ => ⟨h1.trans (by kernel_rfl), h2⟩
theorem alv_d6 (w : World) : Calls Try.prog 7 #[.string ⟨#[64, 122, 126, 62]⟩, .int .i64 9] w fun e w' => e = .returned (.tuple #[.string ⟨#[]⟩, .int .i64 3]) ∧ Below w.heap.size w w' :=
  (aunfive_any ⟨#[64, 122, 126, 62]⟩ 9 w (by decide)).mono fun e w' ⟨h1, h2⟩ => ⟨h1.trans (by kernel_rfl), h2⟩
theorem alv_d7 (w : World) : Calls Try.prog 7 #[.string ⟨#[64, 126, 62]⟩, .int .i64 9] w fun e w' => e = .returned (.tuple #[.string ⟨#[]⟩, .int .i64 3]) ∧ Below w.heap.size w w' :=
  (aunfive_any ⟨#[64, 126, 62]⟩ 9 w (by decide)).mono fun e w' ⟨h1, h2⟩ => ⟨h1.trans (by kernel_rfl), h2⟩
theorem alv_d8 (w : World) : Calls Try.prog 7 #[.string ⟨#[64, 47, 126]⟩, .int .i64 9] w fun e w' => e = .returned (.tuple #[.string ⟨#[]⟩, .int .i64 4]) ∧ Below w.heap.size w w' :=
  (aunfive_any ⟨#[64, 47, 126]⟩ 9 w (by decide)).mono fun e w' ⟨h1, h2⟩ => ⟨h1.trans (by kernel_rfl), h2⟩
theorem alv_d9 (w : World) : Calls Try.prog 7 #[.string ⟨#[117, 117, 117, 117, 117, 126, 62]⟩, .int .i64 9] w fun e w' => e = .returned (.tuple #[.string ⟨#[]⟩, .int .i64 3]) ∧ Below w.heap.size w w' :=
  (aunfive_any ⟨#[117, 117, 117, 117, 117, 126, 62]⟩ 9 w (by decide)).mono fun e w' ⟨h1, h2⟩ => ⟨h1.trans (by kernel_rfl), h2⟩
theorem alv_d10 (w : World) : Calls Try.prog 7 #[.string ⟨#[122, 126, 62]⟩, .int .i64 3] w fun e w' => e = .returned (.tuple #[.string ⟨#[]⟩, .int .i64 5]) ∧ Below w.heap.size w w' :=
  (aunfive_any ⟨#[122, 126, 62]⟩ 3 w (by decide)).mono fun e w' ⟨h1, h2⟩ => ⟨h1.trans (by kernel_rfl), h2⟩
theorem alv_d11 (w : World) : Calls Try.prog 9 #[.string ⟨#[254, 97, 0, 98, 128, 120]⟩, .int .i64 4] w fun e w' => e = .returned (.tuple #[.string ⟨#[97, 97, 97, 98]⟩, .int .i64 0]) ∧ Below w.heap.size w w' :=
  (aunrun_any ⟨#[254, 97, 0, 98, 128, 120]⟩ 4 w (by decide)).mono fun e w' ⟨h1, h2⟩ => ⟨h1.trans (by kernel_rfl), h2⟩
theorem alv_d12 (w : World) : Calls Try.prog 9 #[.string ⟨#[254, 97]⟩, .int .i64 9] w fun e w' => e = .returned (.tuple #[.string ⟨#[]⟩, .int .i64 4]) ∧ Below w.heap.size w w' :=
  (aunrun_any ⟨#[254, 97]⟩ 9 w (by decide)).mono fun e w' ⟨h1, h2⟩ => ⟨h1.trans (by kernel_rfl), h2⟩
theorem alv_d13 (w : World) : Calls Try.prog 9 #[.string ⟨#[254, 97, 128]⟩, .int .i64 2] w fun e w' => e = .returned (.tuple #[.string ⟨#[]⟩, .int .i64 5]) ∧ Below w.heap.size w w' :=
  (aunrun_any ⟨#[254, 97, 128]⟩ 2 w (by decide)).mono fun e w' ⟨h1, h2⟩ => ⟨h1.trans (by kernel_rfl), h2⟩
theorem alv_d14 (w : World) : Calls Try.prog 9 #[.string ⟨#[1, 97, 128]⟩, .int .i64 2] w fun e w' => e = .returned (.tuple #[.string ⟨#[]⟩, .int .i64 4]) ∧ Below w.heap.size w w' :=
  (aunrun_any ⟨#[1, 97, 128]⟩ 2 w (by decide)).mono fun e w' ⟨h1, h2⟩ => ⟨h1.trans (by kernel_rfl), h2⟩
theorem alv_d15 (w : World) : Calls Try.prog 9 #[.string ⟨#[128]⟩, .int .i64 (-1)] w fun e w' => e = .returned (.tuple #[.string ⟨#[]⟩, .int .i64 1]) ∧ Below w.heap.size w w' :=
  (aunrun_any ⟨#[128]⟩ (-1) w (by decide)).mono fun e w' ⟨h1, h2⟩ => ⟨h1.trans (by kernel_rfl), h2⟩
theorem alv_e0 (w : World) : Calls Try.prog 11 #[.string ⟨#[97, 98]⟩] w fun e w' => e = .returned (.string ⟨#[54, 49, 54, 50, 62]⟩) ∧ Below w.heap.size w w' :=
  (aschex_any ⟨#[97, 98]⟩ w (by decide)).mono fun e w' ⟨h1, h2⟩ => ⟨h1.trans (by kernel_rfl), h2⟩
theorem alv_e1 (w : World) : Calls Try.prog 13 #[.string ⟨#[0, 0, 0, 0]⟩] w fun e w' => e = .returned (.string ⟨#[122, 126, 62]⟩) ∧ Below w.heap.size w w' :=
  (five_any ⟨#[0, 0, 0, 0]⟩ w (by decide)).mono fun e w' ⟨h1, h2⟩ => ⟨h1.trans (by kernel_rfl), h2⟩
theorem alv_e2 (w : World) : Calls Try.prog 13 #[.string ⟨#[97]⟩] w fun e w' => e = .returned (.string ⟨#[64, 47, 126, 62]⟩) ∧ Below w.heap.size w w' :=
  (five_any ⟨#[97]⟩ w (by decide)).mono fun e w' ⟨h1, h2⟩ => ⟨h1.trans (by kernel_rfl), h2⟩
theorem alv_e3 (w : World) : Calls Try.prog 13 #[.string ⟨#[]⟩] w fun e w' => e = .returned (.string ⟨#[126, 62]⟩) ∧ Below w.heap.size w w' :=
  (five_any ⟨#[]⟩ w (by decide)).mono fun e w' ⟨h1, h2⟩ => ⟨h1.trans (by kernel_rfl), h2⟩
theorem alv_e4 (w : World) : Calls Try.prog 15 #[.string ⟨#[97, 97, 97, 98]⟩] w fun e w' => e = .returned (.string ⟨#[254, 97, 0, 98, 128]⟩) ∧ Below w.heap.size w w' :=
  (run_any ⟨#[97, 97, 97, 98]⟩ w (by decide)).mono fun e w' ⟨h1, h2⟩ => ⟨h1.trans (by kernel_rfl), h2⟩
theorem alv_e5 (w : World) : Calls Try.prog 15 #[.string ⟨#[97, 97, 98]⟩] w fun e w' => e = .returned (.string ⟨#[2, 97, 97, 98, 128]⟩) ∧ Below w.heap.size w w' :=
  (run_any ⟨#[97, 97, 98]⟩ w (by decide)).mono fun e w' ⟨h1, h2⟩ => ⟨h1.trans (by kernel_rfl), h2⟩
theorem alv_e6 (w : World) : Calls Try.prog 15 #[.string ⟨#[]⟩] w fun e w' => e = .returned (.string ⟨#[128]⟩) ∧ Below w.heap.size w w' :=
  (run_any ⟨#[]⟩ w (by decide)).mono fun e w' ⟨h1, h2⟩ => ⟨h1.trans (by kernel_rfl), h2⟩

set_option maxRecDepth 100000 in
set_option maxHeartbeats 16000000 in
theorem ascLives_any (w : World) : Calls Try.prog 4 #[] w fun e w' => e = .returned (.bool true) ∧ Below w.heap.size w w' := by
  have HB0 := Lib.hid (Below.refl w.heap.size w)
  go_enter Try.func4, Try.ntmps4
  go_wp2_with fail
  refine (alv_d0 _).mono ?_
  rintro e w1 ⟨rfl, hb⟩
  have HB1 := Lib.hid (HB0.out.trans (hb.mono HB0.out.size))
  clear hb
  go_wp2_with fail
  refine (alv_d1 _).mono ?_
  rintro e w2 ⟨rfl, hb⟩
  have HB2 := Lib.hid (HB1.out.trans (hb.mono HB1.out.size))
  clear hb
  go_wp2_with fail
  refine (alv_d2 _).mono ?_
  rintro e w3 ⟨rfl, hb⟩
  have HB3 := Lib.hid (HB2.out.trans (hb.mono HB2.out.size))
  clear hb
  go_wp2_with fail
  refine (alv_d3 _).mono ?_
  rintro e w4 ⟨rfl, hb⟩
  have HB4 := Lib.hid (HB3.out.trans (hb.mono HB3.out.size))
  clear hb
  go_wp2_with fail
  refine (alv_d4 _).mono ?_
  rintro e w5 ⟨rfl, hb⟩
  have HB5 := Lib.hid (HB4.out.trans (hb.mono HB4.out.size))
  clear hb
  go_wp2_with fail
  refine (alv_d5 _).mono ?_
  rintro e w6 ⟨rfl, hb⟩
  have HB6 := Lib.hid (HB5.out.trans (hb.mono HB5.out.size))
  clear hb
  go_wp2_with fail
  refine (alv_d6 _).mono ?_
  rintro e w7 ⟨rfl, hb⟩
  have HB7 := Lib.hid (HB6.out.trans (hb.mono HB6.out.size))
  clear hb
  go_wp2_with fail
  refine (alv_d7 _).mono ?_
  rintro e w8 ⟨rfl, hb⟩
  have HB8 := Lib.hid (HB7.out.trans (hb.mono HB7.out.size))
  clear hb
  go_wp2_with fail
  refine (alv_d8 _).mono ?_
  rintro e w9 ⟨rfl, hb⟩
  have HB9 := Lib.hid (HB8.out.trans (hb.mono HB8.out.size))
  clear hb
  go_wp2_with fail
  refine (alv_d9 _).mono ?_
  rintro e w10 ⟨rfl, hb⟩
  have HB10 := Lib.hid (HB9.out.trans (hb.mono HB9.out.size))
  clear hb
  go_wp2_with fail
  refine (alv_d10 _).mono ?_
  rintro e w11 ⟨rfl, hb⟩
  have HB11 := Lib.hid (HB10.out.trans (hb.mono HB10.out.size))
  clear hb
  go_wp2_with fail
  refine (alv_d11 _).mono ?_
  rintro e w12 ⟨rfl, hb⟩
  have HB12 := Lib.hid (HB11.out.trans (hb.mono HB11.out.size))
  clear hb
  go_wp2_with fail
  refine (alv_d12 _).mono ?_
  rintro e w13 ⟨rfl, hb⟩
  have HB13 := Lib.hid (HB12.out.trans (hb.mono HB12.out.size))
  clear hb
  go_wp2_with fail
  refine (alv_d13 _).mono ?_
  rintro e w14 ⟨rfl, hb⟩
  have HB14 := Lib.hid (HB13.out.trans (hb.mono HB13.out.size))
  clear hb
  go_wp2_with fail
  refine (alv_d14 _).mono ?_
  rintro e w15 ⟨rfl, hb⟩
  have HB15 := Lib.hid (HB14.out.trans (hb.mono HB14.out.size))
  clear hb
  go_wp2_with fail
  refine (alv_d15 _).mono ?_
  rintro e w16 ⟨rfl, hb⟩
  have HB16 := Lib.hid (HB15.out.trans (hb.mono HB15.out.size))
  clear hb
  go_wp2_with fail
  refine (alv_e0 _).mono ?_
  rintro e w17 ⟨rfl, hb⟩
  have HB17 := Lib.hid (HB16.out.trans (hb.mono HB16.out.size))
  clear hb
  go_wp2_with fail
  refine (alv_e1 _).mono ?_
  rintro e w18 ⟨rfl, hb⟩
  have HB18 := Lib.hid (HB17.out.trans (hb.mono HB17.out.size))
  clear hb
  go_wp2_with fail
  refine (alv_e2 _).mono ?_
  rintro e w19 ⟨rfl, hb⟩
  have HB19 := Lib.hid (HB18.out.trans (hb.mono HB18.out.size))
  clear hb
  go_wp2_with fail
  refine (alv_e3 _).mono ?_
  rintro e w20 ⟨rfl, hb⟩
  have HB20 := Lib.hid (HB19.out.trans (hb.mono HB19.out.size))
  clear hb
  go_wp2_with fail
  refine (alv_e4 _).mono ?_
  rintro e w21 ⟨rfl, hb⟩
  have HB21 := Lib.hid (HB20.out.trans (hb.mono HB20.out.size))
  clear hb
  go_wp2_with fail
  refine (alv_e5 _).mono ?_
  rintro e w22 ⟨rfl, hb⟩
  have HB22 := Lib.hid (HB21.out.trans (hb.mono HB21.out.size))
  clear hb
  go_wp2_with fail
  refine (alv_e6 _).mono ?_
  rintro e w23 ⟨rfl, hb⟩
  have HB23 := Lib.hid (HB22.out.trans (hb.mono HB22.out.size))
  clear hb
  go_wp2_with fail
  go_ret
  exact ⟨rfl, HB23.out⟩
end Go.Proofs.Ythioafndepkhoaa
