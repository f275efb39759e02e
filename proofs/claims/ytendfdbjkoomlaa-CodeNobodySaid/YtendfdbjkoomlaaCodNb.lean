/-
  CodeNobody's walk, over lives.
-/
import Derived.Test.YtendfdbjkoomlaaCodLv
namespace Go.Proofs.Ytendfdbjkoomlaa
open Go.RowKit Cod Bt

set_option maxRecDepth 100000 in
theorem read_nil1 (q : Option Addr) (w : World) : Calls Try.prog 21 #[.pointer none, .pointer q] w fun e w' => e = .returned (.tuple #[.int .i64 0, .int .i64 1]) ∧ w = w' := by
  go_enter Try.func21, Try.ntmps21
  go_wp2_with fail
  go_ret2
  exact ⟨rfl, rfl⟩
set_option maxRecDepth 100000 in
theorem read_nil2 (p : Addr) (w : World) : Calls Try.prog 21 #[.pointer (some p), .pointer none] w fun e w' => e = .returned (.tuple #[.int .i64 0, .int .i64 1]) ∧ w = w' := by
  go_enter Try.func21, Try.ntmps21
  go_wp2_with fail
  go_ret2
  exact ⟨rfl, rfl⟩
set_option maxRecDepth 100000 in
theorem write_nil1 (q : Option Addr) (x : Int) (w : World) : Calls Try.prog 25 #[.pointer none, .pointer q, .int .i64 x] w fun e w' => e = .returned (.int .i64 1) ∧ w = w' := by
  go_enter Try.func25, Try.ntmps25
  go_wp2_with fail
  go_ret
  exact ⟨rfl, rfl⟩
set_option maxRecDepth 100000 in
theorem write_nil2 (p : Addr) (x : Int) (w : World) : Calls Try.prog 25 #[.pointer (some p), .pointer none, .int .i64 x] w fun e w' => e = .returned (.int .i64 1) ∧ w = w' := by
  go_enter Try.func25, Try.ntmps25
  go_wp2_with fail
  go_ret
  exact ⟨rfl, rfl⟩

set_option maxRecDepth 100000 in
set_option maxHeartbeats 8000000 in
theorem nobody_of (HLen : LenSpec) (s : ByteArray) (x : Int) (w : World) (_hs : s.size ≤ maxLen) : Calls Try.prog 7 #[.string s, .int .i64 x] w fun e w' => e = .returned (.bool true) ∧ Below w.heap.size w w' := by
  have HLV := Lib.hid (fun W => lives_of HLen W)
  by_cases h1 : 100 < s.size
  · have h1' : (100 : Int) < (s.size : Int) := by omega
    have HL := Lib.hid (HLV.out w)
    clear HLen h1 HLV
    go_enter Try.func7, Try.ntmps7
    go_wp2_with fail
    refine HL.out.mono ?_
    rintro e w1 ⟨rfl, hb⟩
    have HB := Lib.hid hb
    clear hb
    go_wp2_with fail
    go_ret
    exact ⟨rfl, HB.out⟩
  · have h1' : ¬ (100 : Int) < (s.size : Int) := by omega
    have v1 : chkE [1, 1] = 0 := by decide +kernel
    have HV := Lib.hid v1
    obtain ⟨N, hN⟩ : ∃ N, w.heap.size = N := ⟨_, rfl⟩
    have HNN := Lib.hid hN
    have hrf := rfrom_any s w
    rw [hN] at hrf ⊢
    have HRF := Lib.hid hrf
    have hsz8 : (s.size : Int) ≤ 100 := by omega
    clear HLen h1 v1 hN hrf
    go_enter Try.func7, Try.ntmps7
    go_wp2_with fail
    refine HRF.out.mono ?_
    rintro e w1 ⟨rfl, hgr, hrd, hsz⟩
    have HB1 := Lib.hid (show Below N w w1 ∧ w1.heap.size = N + 1 from ⟨⟨hgr.os, hgr.tape, hgr.output, hgr.size, fun k hk => hgr.block k (by rw [HNN.out]; exact hk) (by simp)⟩, hsz⟩)
    have HRd := Lib.hid hrd
    clear hgr hrd hsz
    go_wp2_with fail
    have hnw := wnew_any (N + 1) w1 (by rw [HB1.out.2]; exact Nat.le_refl _)
    rw [HB1.out.2] at hnw
    refine hnw.mono ?_
    rintro e w2 ⟨rfl, hgr, hwr, hsz⟩
    have hb2 : Below (N + 1) w1 w2 := ⟨hgr.os, hgr.tape, hgr.output, hgr.size, fun k hk => hgr.block k (by rw [HB1.out.2]; exact hk) (by simp)⟩
    have HB2 := Lib.hid (show Below N w w2 ∧ w2.heap.size = N + 1 + 1 from ⟨HB1.out.1.trans (hb2.mono (by omega)), hsz⟩)
    have HRd2 := Lib.hid (show Rd 70 w2 N s 0 0 from Blk.below HRd.out hb2 (by omega))
    have HWr := Lib.hid (show WrB (N + 1) w2 (N + 1) none ([], 0, 0) from hwr)
    clear hgr hwr hsz hb2 hnw HRd HB1
    go_wp2_with fail
    obtain ⟨V, hV⟩ : ∃ V, w2.alloc (.cells #[.int .i64 1, .int .i64 1] 3) = V := ⟨_, rfl⟩
    have HI := Lib.hid (show IRow V (N + 1 + 1) [1, 1] by rw [← hV, ← HB2.out.2]; exact lit_row _ [1, 1])
    have hb3 : Below (N + 1 + 1) w2 V := by rw [← hV, ← HB2.out.2]; exact (Below.refl _ _).alloc (Nat.le_refl _) _
    have HVs := Lib.hid (show N + 1 + 1 ≤ V.heap.size by rw [← hV, World.size_alloc, HB2.out.2]; omega)
    have HB3 := Lib.hid (HB2.out.1.trans (hb3.mono (by omega)))
    have HRd3 := Lib.hid (show Rd 70 V N s 0 0 from Blk.below HRd2.out hb3 (by omega))
    have HWr3 := Lib.hid (show WrB (N + 1) V (N + 1) none ([], 0, 0) by
      have hb4 : Below w2.heap.size w2 V := by rw [HB2.out.2]; exact hb3
      exact wr_grown' HWr.out ⟨hb4.os, hb4.tape, hb4.output, hb4.size, fun k hk _ => hb4.block k hk⟩)
    rw [hV, HB2.out.2]
    clear hV hb3 HB2 HRd2 HWr
    refine (new_ok (some ⟨N + 1 + 1, 0, none⟩) 2 [1, 1] V HI.out.iat (by intro h; cases h) HV.out).mono ?_
    rintro e w3 ⟨b, rfl, hbN, hT, hb⟩
    have HB4 := Lib.hid (show Below N w w3 ∧ N + 1 + 1 ≤ w3.heap.size from ⟨HB3.out.trans (hb.mono (by have := HVs.out; omega)), Nat.le_trans HVs.out hb.size⟩)
    have HRd4 := Lib.hid (show Rd 70 w3 N s 0 0 from Blk.below HRd3.out hb (Blk.lt HRd3.out))
    have HWr4 := Lib.hid (show WrB (N + 1) w3 (N + 1) none ([], 0, 0) from wr_grown' HWr3.out ⟨hb.os, hb.tape, hb.output, hb.size, fun k hk _ => hb.block k hk⟩)
    clear hb hT hbN HB3 HRd3 HWr3 HVs HI
    go_wp2_with fail
    refine (read_nil1 _ _).mono ?_
    rintro e w4 ⟨rfl, rfl⟩
    go_wp2_with fail
    refine (read_nil2 _ _).mono ?_
    rintro e w4 ⟨rfl, rfl⟩
    go_wp2_with fail
    refine (write_nil1 _ _ _).mono ?_
    rintro e w4 ⟨rfl, rfl⟩
    go_wp2_with fail
    refine (write_nil2 _ _ _).mono ?_
    rintro e w4 ⟨rfl, rfl⟩
    go_wp2_with fail
    refine (rleft_any N s 0 0 w3 HRd4.out (by omega) (by omega)).mono ?_
    rintro e w4 ⟨rfl, q, rfl⟩
    have HB5 := Lib.hid (show Below N w (w3.drewN q) ∧ N + 1 + 1 ≤ (w3.drewN q).heap.size from ⟨below_drewN HB4.out.1 q, HB4.out.2⟩)
    have HWr5 := Lib.hid (show WrB (N + 1) (w3.drewN q) (N + 1) none ([], 0, 0) from wr_grown' HWr4.out (grown_drewN (World.grownBy.refl _ _) q))
    have hleft : (((8 * s.size : Nat) : Int) - ((0 : Nat) : Int)) = 8 * (s.size : Int) := by push_cast; omega
    rw [hleft]
    clear hleft
    go_wp2_with fail
    refine (wlen_any (N + 1) (N + 1) none [] 0 0 _ HWr5.out).mono ?_
    rintro e w4 ⟨rfl, rfl⟩
    go_wp2_with fail
    refine (HLV.out _).mono ?_
    rintro e w5 ⟨rfl, hb⟩
    have HB6 := Lib.hid (HB5.out.1.trans (hb.mono (by have := HB5.out.2; omega)))
    clear hb
    go_wp2_with fail
    go_ret
    exact ⟨rfl, HB6.out⟩
end Go.Proofs.Ytendfdbjkoomlaa
