/-
  BitReads: for every s and l the law returns true: every sequence of calls on a reader answers as the document says (no condition on s and l).
-/
import Derived.Test.YtcgejhlhbokpiaaBitQ
import Derived.Test.YtcgejhlhbokpiaaRowKeep
import Derived.HandedShaped
namespace Go.Proofs.Ytcgejhlhbokpiaa
open Go.ChangeShapes Go.WideShapes Go.ChangeAt Go.RowKit Go.Deep Bt

set_option maxRecDepth 100000 in
set_option maxHeartbeats 2000000 in
theorem reads_long (s : ByteArray) (A : Option Addr) (cap : Nat) (xs : List Call) (w : World) (h : 300 < s.size) :
    Calls Try.prog 3 #[.string s, .slice A xs.length cap] w fun e w' => e = .returned (.bool true) ∧ Below w.heap.size w w' := by
  go_enter Try.func3, Try.ntmps3
  go_wp2_with fail
  refine (lives_any _).mono ?_
  rintro e w1 ⟨rfl, hb⟩
  go_wp2_with fail
  go_ret
  exact ⟨rfl, hb⟩
set_option maxRecDepth 100000 in
set_option maxHeartbeats 2000000 in
theorem reads_many (s : ByteArray) (A : Option Addr) (cap : Nat) (xs : List Call) (w : World) (h : s.size ≤ 300) (h2 : 60 < xs.length) :
    Calls Try.prog 3 #[.string s, .slice A xs.length cap] w fun e w' => e = .returned (.bool true) ∧ Below w.heap.size w w' := by
  go_enter Try.func3, Try.ntmps3
  go_wp2_with fail
  refine (lives_any _).mono ?_
  rintro e w1 ⟨rfl, hb⟩
  go_wp2_with fail
  go_ret
  exact ⟨rfl, hb⟩

set_option maxRecDepth 100000 in
set_option maxHeartbeats 16000000 in
theorem reads_short (s : ByteArray) (A : Option Addr) (cap : Nat) (xs : List Call) (w0 : World) (h : s.size ≤ 300) (h2 : xs.length ≤ 60) (hx : Asked w0 A xs) :
    Calls Try.prog 3 #[.string s, .slice A xs.length cap] w0 fun e w' => e = .returned (.bool true) ∧ Below w0.heap.size w0 w' := by
  obtain ⟨N, hN⟩ : ∃ N, w0.heap.size = N := ⟨_, rfl⟩
  have HB0 := Lib.hid (show Below N w0 w0 from Below.refl _ _)
  have HN0 := Lib.hid hN
  have HXs := Lib.hid hx
  rw [hN]
  clear hN hx
  go_enter Try.func3, Try.ntmps3
  go_wp2_with fail
  refine (rfrom_c _ N w0 HN0.out).mono ?_
  rintro e w1 ⟨rfl, hg, hr, hz⟩
  have HB1 := Lib.hid (HB0.out.grown hg (Nat.le_of_eq HN0.out.symm) (fun k e => by cases e))
  have HR1 := Lib.hid hr
  have HN1 := Lib.hid hz
  clear hg hr hz
  go_wp2_with fail
  refine (qfrom_c _ (N + 1) w1 HN1.out).mono ?_
  rintro e w2 ⟨rfl, hg, hr, hz⟩
  have HB2 := Lib.hid (HB1.out.grown hg (by rw [HN1.out]; omega) (fun k e => by cases e))
  have HR2 := Lib.hid (HR1.out.grown hg (by simp))
  have HQ2 := Lib.hid hr
  have HN2 := Lib.hid (show N + 2 ≤ w2.heap.size by rw [hz]; omega)
  clear hg hr hz
  go_wp2_with fail
  go_loopw [7] (fun i wr => ∃ (k a : Nat) (o : Int), k ≤ xs.length ∧ i = .int .i64 k ∧ a ≤ 8 * s.size ∧ (o = 0 ∨ o = 1 ∨ o = 2) ∧ Below N w0 wr ∧ N + 2 ≤ wr.heap.size ∧ Rd 51 wr N s a o ∧ Rd 53 wr (N + 1) s a o) (fun i _ => xs.length - (intOf i).toNat)
  case atStart => exact ⟨0, 0, 0, Nat.zero_le _, rfl, Nat.zero_le _, Or.inl rfl, HB2.out, HN2.out, HR2.out, HQ2.out⟩
  case round =>
    clear HB0 HB1 HB2 HR1 HR2 HQ2 HN1 HN2
    obtain ⟨k, a, o, hk, rfl, ha, ho, hb, hz, hr, hq⟩ := hrel
    have HO := Lib.hid ho
    have HB0 := Lib.hid hb
    have HZ0 := Lib.hid hz
    have HR0 := Lib.hid hr
    have HQ0 := Lib.hid hq
    clear ho hb hz hr hq
    by_cases hlt : k < xs.length
    · obtain ⟨b, off, hA, hbl, e0, e1, e2, e3⟩ := HXs.out k hlt
      subst hA
      have hbN : b < N := by rw [← HN0.out]; exact hbl
      obtain ⟨d, hd⟩ : ∃ d, (xs[k]'hlt).d = d := ⟨_, rfl⟩
      obtain ⟨n, hn⟩ : ∃ n, (xs[k]'hlt).n = n := ⟨_, rfl⟩
      rw [hd] at e0
      rw [hn] at e1
      have c0 : wr.cell? ⟨b, off + k * 4, none⟩ = some (.int .i64 d) := (HB0.out.cell (p := ⟨b, _, none⟩) hbN).trans e0
      have c1 : wr.cell? ⟨b, off + k * 4 + 1, none⟩ = some (.int .i64 n) := (HB0.out.cell (p := ⟨b, _, none⟩) hbN).trans e1
      clear e0 e1 e2 e3 hd hn hbl
      by_cases hd0 : d = 0
      · subst hd0
        obtain ⟨V, hV⟩ : ∃ V, rdV s.data.toList (8 * s.size) a o n 1 = V := ⟨_, rfl⟩
        obtain ⟨E, hE⟩ : ∃ E, rdE (8 * s.size) a o n 1 = E := ⟨_, rfl⟩
        obtain ⟨a2, hA⟩ : ∃ a2, rdAt (8 * s.size) a o n 1 = a2 := ⟨_, rfl⟩
        obtain ⟨o2, hO⟩ : ∃ o2, rdOrd (8 * s.size) a o n 1 = o2 := ⟨_, rfl⟩
        have HA2 : Hid (a2 ≤ 8 * s.size) := Lib.hid (by rw [← hA]; exact rdAt_le ha)
        have HO2 : Hid (o2 = 0 ∨ o2 = 1 ∨ o2 = 2) := Lib.hid (by rw [← hO]; exact rdOrd_in HO.out (Or.inl rfl))
        have Hv := Lib.hid hV
        have He := Lib.hid hE
        have Ha := Lib.hid hA
        have Ho := Lib.hid hO
        clear hV hE hA hO
        go_wp2_with fail
        refine (low_c N s a o n V E a2 o2 _ HR0.out ha (by omega) Hv.out He.out Ha.out Ho.out).mono ?_
        rintro e w1 ⟨rfl, hn⟩
        have HB1 := Lib.hid (Now.below HB0.out hn (by have := HZ0.out; omega) (by omega))
        have HR1 := Lib.hid hn.2
        have HQ1 := Lib.hid (HQ0.out.now hn (by omega))
        have HZ1 := Lib.hid (Nat.le_trans HZ0.out hn.1.size)
        clear hn
        go_wp2_with fail
        refine (qlow_c (N + 1) s a o n V E a2 o2 _ HQ1.out ha (by omega) Hv.out He.out Ha.out Ho.out).mono ?_
        rintro e w2 ⟨rfl, hn⟩
        have HB2 := Lib.hid (Now.below HB1.out hn (by have := HZ1.out; omega) (by omega))
        have HR2 := Lib.hid (HR1.out.now hn (by omega))
        have HQ2 := Lib.hid hn.2
        have HZ2 := Lib.hid (Nat.le_trans HZ1.out hn.1.size)
        clear hn
        obtain ⟨x, hx⟩ : ∃ x, (a2 + 7) / 8 = x := ⟨_, rfl⟩
        obtain ⟨y, hy⟩ : ∃ y, 8 * s.size - a2 = y := ⟨_, rfl⟩
        have HX := Lib.hid hx
        have HY := Lib.hid hy
        clear hx hy
        go_wp2_with fail
        refine (rat_c N s a2 x _ _ HR2.out (by have := HA2.out; omega) HX.out).mono ?_
        rintro e w' ⟨rfl, rfl⟩
        go_wp2_with fail
        refine (qat_c (N + 1) s a2 x _ _ HQ2.out (by have := HA2.out; omega) HX.out).mono ?_
        rintro e w' ⟨rfl, rfl⟩
        go_wp2_with fail
        refine (rleft_c N s a2 y _ _ HR2.out HA2.out (by omega) HY.out).mono ?_
        rintro e w' ⟨rfl, k1, rfl⟩
        go_wp2_with fail
        refine (qleft_c (N + 1) s a2 y _ _ (Blk.drewN HQ2.out k1) HA2.out (by omega) HY.out).mono ?_
        rintro e w' ⟨rfl, k2, rfl⟩
        go_wp2_with fail
        go_roundw
        case rel => exact ⟨k + 1, a2, _, by omega, by go_num, HA2.out, HO2.out, below_drewN HB2.out _, HZ2.out, Blk.drewN HR2.out _, Blk.drewN HQ2.out _⟩
        case measure => simp [intOf]; omega
      by_cases hd1 : d = 1
      · subst hd1
        obtain ⟨V, hV⟩ : ∃ V, rdV s.data.toList (8 * s.size) a o n 2 = V := ⟨_, rfl⟩
        obtain ⟨E, hE⟩ : ∃ E, rdE (8 * s.size) a o n 2 = E := ⟨_, rfl⟩
        obtain ⟨a2, hA⟩ : ∃ a2, rdAt (8 * s.size) a o n 2 = a2 := ⟨_, rfl⟩
        obtain ⟨o2, hO⟩ : ∃ o2, rdOrd (8 * s.size) a o n 2 = o2 := ⟨_, rfl⟩
        have HA2 : Hid (a2 ≤ 8 * s.size) := Lib.hid (by rw [← hA]; exact rdAt_le ha)
        have HO2 : Hid (o2 = 0 ∨ o2 = 1 ∨ o2 = 2) := Lib.hid (by rw [← hO]; exact rdOrd_in HO.out (Or.inr rfl))
        have Hv := Lib.hid hV
        have He := Lib.hid hE
        have Ha := Lib.hid hA
        have Ho := Lib.hid hO
        clear hV hE hA hO
        go_wp2_with fail
        refine (high_c N s a o n V E a2 o2 _ HR0.out ha (by omega) Hv.out He.out Ha.out Ho.out).mono ?_
        rintro e w1 ⟨rfl, hn⟩
        have HB1 := Lib.hid (Now.below HB0.out hn (by have := HZ0.out; omega) (by omega))
        have HR1 := Lib.hid hn.2
        have HQ1 := Lib.hid (HQ0.out.now hn (by omega))
        have HZ1 := Lib.hid (Nat.le_trans HZ0.out hn.1.size)
        clear hn
        go_wp2_with fail
        refine (qhigh_c (N + 1) s a o n V E a2 o2 _ HQ1.out ha (by omega) Hv.out He.out Ha.out Ho.out).mono ?_
        rintro e w2 ⟨rfl, hn⟩
        have HB2 := Lib.hid (Now.below HB1.out hn (by have := HZ1.out; omega) (by omega))
        have HR2 := Lib.hid (HR1.out.now hn (by omega))
        have HQ2 := Lib.hid hn.2
        have HZ2 := Lib.hid (Nat.le_trans HZ1.out hn.1.size)
        clear hn
        obtain ⟨x, hx⟩ : ∃ x, (a2 + 7) / 8 = x := ⟨_, rfl⟩
        obtain ⟨y, hy⟩ : ∃ y, 8 * s.size - a2 = y := ⟨_, rfl⟩
        have HX := Lib.hid hx
        have HY := Lib.hid hy
        clear hx hy
        go_wp2_with fail
        refine (rat_c N s a2 x _ _ HR2.out (by have := HA2.out; omega) HX.out).mono ?_
        rintro e w' ⟨rfl, rfl⟩
        go_wp2_with fail
        refine (qat_c (N + 1) s a2 x _ _ HQ2.out (by have := HA2.out; omega) HX.out).mono ?_
        rintro e w' ⟨rfl, rfl⟩
        go_wp2_with fail
        refine (rleft_c N s a2 y _ _ HR2.out HA2.out (by omega) HY.out).mono ?_
        rintro e w' ⟨rfl, k1, rfl⟩
        go_wp2_with fail
        refine (qleft_c (N + 1) s a2 y _ _ (Blk.drewN HQ2.out k1) HA2.out (by omega) HY.out).mono ?_
        rintro e w' ⟨rfl, k2, rfl⟩
        go_wp2_with fail
        go_roundw
        case rel => exact ⟨k + 1, a2, _, by omega, by go_num, HA2.out, HO2.out, below_drewN HB2.out _, HZ2.out, Blk.drewN HR2.out _, Blk.drewN HQ2.out _⟩
        case measure => simp [intOf]; omega
      by_cases hd2 : d = 2
      · subst hd2
        obtain ⟨a2, hA⟩ : ∃ a2, alg a = a2 := ⟨_, rfl⟩
        have HA2 : Hid (a2 ≤ 8 * s.size) := Lib.hid (by rw [← hA]; exact alg_le ha)
        have Ha := Lib.hid hA
        clear hA
        go_wp2_with fail
        refine (ralign_any N s a o _ HR0.out (by omega)).mono ?_
        rintro e w1 ⟨rfl, hn⟩
        rw [Ha.out] at hn
        have HB1 := Lib.hid (Now.below HB0.out hn (by have := HZ0.out; omega) (by omega))
        have HR1 := Lib.hid hn.2
        have HQ1 := Lib.hid (HQ0.out.now hn (by omega))
        have HZ1 := Lib.hid (Nat.le_trans HZ0.out hn.1.size)
        clear hn
        go_wp2_with fail
        refine (qalign_any (N + 1) s a o _ HQ1.out (by omega)).mono ?_
        rintro e w2 ⟨rfl, hn⟩
        rw [Ha.out] at hn
        have HB2 := Lib.hid (Now.below HB1.out hn (by have := HZ1.out; omega) (by omega))
        have HR2 := Lib.hid (HR1.out.now hn (by omega))
        have HQ2 := Lib.hid hn.2
        have HZ2 := Lib.hid (Nat.le_trans HZ1.out hn.1.size)
        clear hn
        obtain ⟨x, hx⟩ : ∃ x, (a2 + 7) / 8 = x := ⟨_, rfl⟩
        obtain ⟨y, hy⟩ : ∃ y, 8 * s.size - a2 = y := ⟨_, rfl⟩
        have HX := Lib.hid hx
        have HY := Lib.hid hy
        clear hx hy
        go_wp2_with fail
        refine (rat_c N s a2 x _ _ HR2.out (by have := HA2.out; omega) HX.out).mono ?_
        rintro e w' ⟨rfl, rfl⟩
        go_wp2_with fail
        refine (qat_c (N + 1) s a2 x _ _ HQ2.out (by have := HA2.out; omega) HX.out).mono ?_
        rintro e w' ⟨rfl, rfl⟩
        go_wp2_with fail
        refine (rleft_c N s a2 y _ _ HR2.out HA2.out (by omega) HY.out).mono ?_
        rintro e w' ⟨rfl, k1, rfl⟩
        go_wp2_with fail
        refine (qleft_c (N + 1) s a2 y _ _ (Blk.drewN HQ2.out k1) HA2.out (by omega) HY.out).mono ?_
        rintro e w' ⟨rfl, k2, rfl⟩
        go_wp2_with fail
        go_roundw
        case rel => exact ⟨k + 1, a2, 0, by omega, by go_num, HA2.out, Or.inl rfl, below_drewN HB2.out _, HZ2.out, Blk.drewN HR2.out _, Blk.drewN HQ2.out _⟩
        case measure => simp [intOf]; omega
      by_cases hd3 : d = 3
      · subst hd3
        obtain ⟨V, hV⟩ : ∃ V, rawB s a n = V := ⟨_, rfl⟩
        obtain ⟨E, hE⟩ : ∃ E, rawE s.size a n = E := ⟨_, rfl⟩
        obtain ⟨a2, hA⟩ : ∃ a2, rawAt s.size a n = a2 := ⟨_, rfl⟩
        have HA2 : Hid (a2 ≤ 8 * s.size) := Lib.hid (by rw [← hA]; exact rawAt_le ha)
        have HO2 := HO
        have Hv := Lib.hid hV
        have He := Lib.hid hE
        have Ha := Lib.hid hA
        clear hV hE hA
        go_wp2_with fail
        refine (rraw_c N s V a o n E a2 _ HR0.out ha (by omega) Hv.out He.out Ha.out).mono ?_
        rintro e w1 ⟨rfl, hn⟩
        have HB1 := Lib.hid (Now.below HB0.out hn (by have := HZ0.out; omega) (by omega))
        have HR1 := Lib.hid hn.2
        have HQ1 := Lib.hid (HQ0.out.now hn (by omega))
        have HZ1 := Lib.hid (Nat.le_trans HZ0.out hn.1.size)
        clear hn
        go_wp2_with fail
        refine (qraw_c (N + 1) s V a o n E a2 _ HQ1.out ha (by omega) Hv.out He.out Ha.out).mono ?_
        rintro e w2 ⟨rfl, hn⟩
        have HB2 := Lib.hid (Now.below HB1.out hn (by have := HZ1.out; omega) (by omega))
        have HR2 := Lib.hid (HR1.out.now hn (by omega))
        have HQ2 := Lib.hid hn.2
        have HZ2 := Lib.hid (Nat.le_trans HZ1.out hn.1.size)
        clear hn
        obtain ⟨x, hx⟩ : ∃ x, (a2 + 7) / 8 = x := ⟨_, rfl⟩
        obtain ⟨y, hy⟩ : ∃ y, 8 * s.size - a2 = y := ⟨_, rfl⟩
        have HX := Lib.hid hx
        have HY := Lib.hid hy
        clear hx hy
        go_wp2_with fail
        refine (rat_c N s a2 x _ _ HR2.out (by have := HA2.out; omega) HX.out).mono ?_
        rintro e w' ⟨rfl, rfl⟩
        go_wp2_with fail
        refine (qat_c (N + 1) s a2 x _ _ HQ2.out (by have := HA2.out; omega) HX.out).mono ?_
        rintro e w' ⟨rfl, rfl⟩
        go_wp2_with fail
        refine (rleft_c N s a2 y _ _ HR2.out HA2.out (by omega) HY.out).mono ?_
        rintro e w' ⟨rfl, k1, rfl⟩
        go_wp2_with fail
        refine (qleft_c (N + 1) s a2 y _ _ (Blk.drewN HQ2.out k1) HA2.out (by omega) HY.out).mono ?_
        rintro e w' ⟨rfl, k2, rfl⟩
        go_wp2_with fail
        go_roundw
        case rel => exact ⟨k + 1, a2, _, by omega, by go_num, HA2.out, HO2.out, below_drewN HB2.out _, HZ2.out, Blk.drewN HR2.out _, Blk.drewN HQ2.out _⟩
        case measure => simp [intOf]; omega
      have b0 : (d == 0) = false := by simpa using hd0
      have b1 : (d == 1) = false := by simpa using hd1
      have b2 : (d == 2) = false := by simpa using hd2
      have b3 : (d == 3) = false := by simpa using hd3
      have HA2 := Lib.hid ha
      have HO2 := HO
      clear hd0 hd1 hd2 hd3
      obtain ⟨x, hx⟩ : ∃ x, (a + 7) / 8 = x := ⟨_, rfl⟩
      obtain ⟨y, hy⟩ : ∃ y, 8 * s.size - a = y := ⟨_, rfl⟩
      have HX := Lib.hid hx
      have HY := Lib.hid hy
      clear hx hy
      go_wp2_with fail
      refine (rat_c N s a x _ _ HR0.out (by have := HA2.out; omega) HX.out).mono ?_
      rintro e w' ⟨rfl, rfl⟩
      go_wp2_with fail
      refine (qat_c (N + 1) s a x _ _ HQ0.out (by have := HA2.out; omega) HX.out).mono ?_
      rintro e w' ⟨rfl, rfl⟩
      go_wp2_with fail
      refine (rleft_c N s a y _ _ HR0.out HA2.out (by omega) HY.out).mono ?_
      rintro e w' ⟨rfl, k1, rfl⟩
      go_wp2_with fail
      refine (qleft_c (N + 1) s a y _ _ (Blk.drewN HQ0.out k1) HA2.out (by omega) HY.out).mono ?_
      rintro e w' ⟨rfl, k2, rfl⟩
      go_wp2_with fail
      go_roundw
      case rel => exact ⟨k + 1, a, _, by omega, by go_num, HA2.out, HO2.out, below_drewN HB0.out _, HZ0.out, Blk.drewN HR0.out _, Blk.drewN HQ0.out _⟩
      case measure => simp [intOf]; omega
    · obtain rfl : k = xs.length := by omega
      go_wp2_with fail
      refine (lives_any _).mono ?_
      rintro e w9 ⟨rfl, hb⟩
      go_wp2_with fail
      go_ret
      exact ⟨rfl, HB0.out.trans (hb.mono (by have := HZ0.out; omega))⟩

theorem reads_any (s : ByteArray) (A : Option Addr) (cap : Nat) (xs : List Call) (w0 : World) (hx : Asked w0 A xs) :
    Calls Try.prog 3 #[.string s, .slice A xs.length cap] w0 fun e w' => e = .returned (.bool true) ∧ Below w0.heap.size w0 w' := by
  by_cases h : s.size ≤ 300
  · by_cases h2 : xs.length ≤ 60
    · exact reads_short s A cap xs w0 h h2 hx
    · exact reads_many s A cap xs w0 h (by omega)
  · exact reads_long s A cap xs w0 (by omega)

/-! ### The row. -/
theorem bitReads_laidOut : laidOutB Try.prog = true := by kernel_rfl
theorem bitReads_own : ownKnob Try.prog.godebug = none := by kernel_rfl
theorem bitReads_types (t : TypeId) (ht : t ∈ Try.f3.params.toList) : Try.prog.readableRec t = true ∧ t < Try.prog.types.size := by
  rw [Try.params3] at ht
  simp only [List.mem_cons, List.not_mem_nil, or_false] at ht
  rcases ht with rfl | rfl
  · exact ⟨by kernel_rfl, of_decide_eq_true (by kernel_rfl)⟩
  · exact ⟨by kernel_rfl, of_decide_eq_true (by kernel_rfl)⟩
theorem bitReads_fn {H : Type} (ds' : List (DataW H)) (h : ds'.length = Try.f3.params.size) : Rows.bitReadsSpec.fn H ds' = { results := [.lit (.bool true)], args := ds' } := by
  have h' : ds'.length = 2 := h.trans (by kernel_rfl)
  match ds', h' with
  | [_, _], _ => rfl

set_option maxRecDepth 100000 in
theorem bitReads_lifted (os : Os) (started : os.Started) (H : Type) (enc : TypeId × Value → H) :
    ReturnsInHanded {} Try.checked os 3 .any (Rows.bitReadsSpec.pre6 enc Try.prog Try.f3 Rows.bitReadsRow.domain false) (Rows.bitReadsSpec.post enc Try.prog Try.f3 false true false false) := by
  refine returnsInHanded_of_change_shaped (C := Try.checked) bitReads_own started (by kernel_rfl) Try.func3
    (ChangeSpec.witness6 (enc := enc) (C := Try.checked) false ⟨#[], #[.string ⟨#[]⟩, .slice none 0 0], []⟩ 8 (by kernel_rfl) (by kernel_rfl) (by kernel_rfl) (by kernel_rfl)) ?_
  intro W base args ds gs before hval0 hW hcnd0 _ hsh _
  have hval : ∀ (j : Nat) t v, Try.f3.params[j]? = some t → args[j]? = some v → Value.okWide Try.prog W .any base t v := hval0
  have hW' := hW
  obtain ⟨p, q, hA0, hV, rfl, hfz, hnd⟩ := hW
  have hA : DataW.TrodAll enc Try.prog W 0 (fun _ => true) true Try.f3.params.toList args.toList ds p := hA0
  rw [Try.params3] at hA hval
  obtain ⟨v0, vs0, d0, ds0, p0, q0, hargs, rfl, rfl, h0, r0⟩ := trodAll_cons hA
  obtain ⟨v1, vs1, d1, ds1, p1, q1, rfl, rfl, rfl, h1, r1⟩ := trodAll_cons r0
  obtain ⟨rfl, rfl, rfl⟩ := trodAll_nil r1
  obtain rfl : args = #[v0, v1] := by cases args; simp_all
  obtain ⟨rfl, rfl⟩ := trodVars_none hV
  obtain ⟨a0, rfl, rfl, rfl, w0⟩ := Go.ChangeMaps.open_string Try.underlying9 (hval 0 9 v0 rfl rfl) h0
  obtain ⟨A1, cap1, xs1, rfl, rd1⟩ := asked_of (hval 1 22 v1 rfl rfl) h1
  clear hA0 hval0
  refine (reads_any a0 A1 cap1 xs1 W rd1).mono fun e W' ⟨he, hb⟩ => ?_
  subst he
  exact ⟨_, rfl, post_keep bitReads_laidOut (fun t ht => bitReads_types t ht) rfl hW' (fun ds' hds => bitReads_fn ds' hds) (by kernel_rfl) Try.underlying4 hb⟩

theorem bitReads_holds : Rows.BitReadsSaid :=
  OpenClaim.holds_of_wide 3 Try.f3 rfl rfl rfl rfl rfl rfl rfl ⟨rfl, rfl, rfl, rfl, rfl⟩ rfl rfl rfl rfl rfl (by kernel_rfl) Try.func3 (by kernel_rfl)
    (of_decide_eq_true (by kernel_rfl)) (by unfold Func.isWrapper; first | (rw [if_pos (by decide +kernel)]; kernel_rfl) | (rw [if_neg (by decide +kernel)]; exact ⟨rfl, rfl⟩))
    (fun os started H enc _ => bitReads_lifted os started H enc)
end Go.Proofs.Ytcgejhlhbokpiaa
