/-
  The walks of a writer of bit's: begin, Low, High, Align, Len, Text, New.
-/
import Derived.Test.YtbgechfmbogbpaaBitI
namespace Go.Proofs.Ytbgechfmbogbpaa
open Go.RowKit Bt

theorem two_pow_le {m : Nat} (h : m ≤ 24) : (2 : Int) ^ m ≤ 16777216 ∧ (1 : Int) ≤ 2 ^ m := by
  have h1 : 2 ^ m ≤ 2 ^ 24 := Nat.pow_le_pow_right (by decide) h
  have h2 : 1 ≤ 2 ^ m := Nat.one_le_two_pow
  have e : ((2 : Int) ^ m) = ((2 ^ m : Nat) : Int) := (Int.natCast_pow 2 m).symm
  have h3 : (2 : Nat) ^ 24 = 16777216 := by decide
  omega

set_option maxHeartbeats 1000000 in
theorem wbegin_any (B g : Nat) (r : Option Nat) (l : List UInt8) (p : Nat) (ord v n o : Int) (w : World) (h : Wr 77 B w g r l p ord) :
    Calls Try.prog 59 #[.pointer (some ⟨g, 0, none⟩), .int .i64 v, .int .i64 n, .int .i64 o] w fun e w' => e = .returned (.int .i64 (wrE ord v n o)) ∧ Wrote 77 B w g r l p (wrO ord v n o) w' := by
  obtain ⟨val, hB⟩ : ∃ val, Blk w g 77 #[val, .int .i64 (p : Int), .int .i64 ord] := ⟨_, h.choose_spec.1⟩
  have c2 : w.cell? ⟨g, 2, none⟩ = some (.int .i64 ord) := (hB.cell 2).trans rfl
  have f2 : w.frozen? ⟨g, 2, none⟩ = false := hB.frozen 2
  have H := Lib.hid h
  clear h hB
  by_cases hb : bad ord n o = true
  · have R := Lib.hid (wr_bad (v := v) (by unfold wbad; rw [hb]; rfl) l p : _ ∧ _ ∧ _ ∧ wrO ord v n o = ord)
    go_enter Try.func59, Try.ntmps59
    go_wp2_with (go_at_call 66; refine (fits_any _ _ _ _).mono ?_; rintro e w' ⟨rfl, rfl⟩)
    go_ret
    rw [R.out.1, R.out.2.2.2]
    exact ⟨rfl, Wrote.same H.out⟩
  have hb' : bad ord n o = false := by simpa using hb
  clear hb
  have hn := bad_no hb'
  obtain ⟨m, rfl⟩ := Int.eq_ofNat_of_zero_le hn.1
  have h2p := two_pow_le (m := m) (by omega)
  by_cases hv : v < 0
  · have R := Lib.hid (wr_bad (v := v) (by unfold wbad; rw [decide_eq_true hv]; simp) l p : _ ∧ _ ∧ _ ∧ wrO ord v m o = ord)
    clear h2p
    go_enter Try.func59, Try.ntmps59
    go_wp2_with (go_at_call 66; refine (fits_any _ _ _ _).mono ?_; rintro e w' ⟨rfl, rfl⟩)
    go_ret
    rw [R.out.1, R.out.2.2.2]
    exact ⟨rfl, Wrote.same H.out⟩
  obtain ⟨X, hX⟩ : ∃ X : Int, 2 ^ m = X := ⟨_, rfl⟩
  rw [hX] at h2p
  have hw64 : wrap64 ((2 : Int) ^ m) = X := by rw [hX]; exact IntWalk.wrap64_in _ (by omega)
  have hi64 : IntKind.i64.wrap ((2 : Int) ^ m) = X := by rw [hX]; exact IntWalk.i64_in _ (by omega)
  have HX := Lib.hid hX
  clear hX
  by_cases hl : X ≤ v
  · have R := Lib.hid (wr_bad (v := v) (by unfold wbad; rw [show (2 : Int) ^ ((m : Nat) : Int).toNat = X from HX.out, decide_eq_true hl]; simp) l p : _ ∧ _ ∧ _ ∧ wrO ord v m o = ord)
    go_enter Try.func59, Try.ntmps59
    go_wp2_with (go_at_call 66; refine (fits_any _ _ _ _).mono ?_; rintro e w' ⟨rfl, rfl⟩)
    go_ret
    rw [R.out.1, R.out.2.2.2]
    exact ⟨rfl, Wrote.same H.out⟩
  have R := Lib.hid (wr_ok (v := v) (by unfold wbad; rw [hb', show (2 : Int) ^ ((m : Nat) : Int).toNat = X from HX.out, decide_eq_false hl, decide_eq_false hv]; rfl) l p : _ ∧ _ ∧ _ ∧ wrO ord v m o = _)
  by_cases h0 : 0 < m
  · go_enter Try.func59, Try.ntmps59
    go_wp2_with (go_at_call 66; refine (fits_any _ _ _ _).mono ?_; rintro e w' ⟨rfl, rfl⟩)
    go_ret
    rw [R.out.1, R.out.2.2.2, if_pos (by omega)]
    exact ⟨rfl, (Wrote.same H.out).ord o⟩
  · go_enter Try.func59, Try.ntmps59
    go_wp2_with (go_at_call 66; refine (fits_any _ _ _ _).mono ?_; rintro e w' ⟨rfl, rfl⟩)
    go_ret
    rw [R.out.1, R.out.2.2.2, if_neg (by omega)]
    exact ⟨rfl, Wrote.same H.out⟩
end Go.Proofs.Ytbgechfmbogbpaa
