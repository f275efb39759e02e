/-
  predict's recoded, as Encode and Decode call it.
-/
import Derived.Test.YticliemmplefoaaPrdQ
import Derived.Test.YticliemmplefoaaPrdS
import Derived.Test.YticliemmplefoaaPrdT
import Derived.Test.YticliemmplefoaaPrdH
namespace Go.Proofs.Yticliemmplefoaa
open Go.RowKit Oct Prd

/-- How a coder's work comes out. -/
def Out (r : Int × List UInt8) (e : Ending) : Prop := r.1 = 0 ∧ e = .returned (.string ⟨r.2.toArray⟩) ∨ r.1 ≠ 0 ∧ r.2 = [] ∧ e = gUp r.1
def CoderBlk (W : World) (bp ba bn : Nat) (pr co cl : Int) : Prop :=
  Blk W bp 23 #[.int .i64 pr, .int .i64 co, .int .i64 cl] ∧ Blk W ba 45 #[.func (.func (filN 0)) #[] #[], .func (.func (filN 1)) #[] #[], .func (.func (filN 2)) #[] #[], .func (.func (filN 3)) #[] #[], .func (.func (filN 4)) #[] #[]] ∧ Blk W bn 42 #[.slice none 0 0]
theorem tgs_eq (p : Nat) : tgsI (p : Int) = (tgs p : Int) := by
  unfold tgsI tgs
  split <;> split <;> first | rfl | omega
theorem tgs_le (p : Nat) : tgs p ≤ 1 := by unfold tgs; split <;> omega

theorem recoded_enc (s : ByteArray) (l : List UInt8) (pr co cl : Int) (bp ba bn : Nat) (W : World) (hl : s.data.toList = l) (hs : s.size ≤ 4000) (h0 : I64 pr) (h1 : I64 co) (h2 : I64 cl) (hne : bp ≠ bn ∧ ba ≠ bn) (hC : CoderBlk W bp ba bn pr co cl) :
    Calls Try.prog 14 #[parmsV pr co cl, .string s, .int .i64 0, .int .i64 (tgsI pr), .func (.func 27) #[] #[.pointer (some ⟨bp, 0, none⟩), .pointer (some ⟨bn, 0, none⟩), .pointer (some ⟨ba, 0, none⟩)]] W fun e W' => Out (encF pr co cl l) e ∧ Two W W' bn none := by
  have hll : l.length = s.size := by rw [← hl]; simp
  unfold encF
  by_cases hok : okP pr co cl = false
  · rw [if_pos hok]
    refine (recoded_bad s pr co cl 0 (tgsI pr) _ _ W h0 h1 h2 hok).mono ?_
    rintro e W' ⟨rfl, hb⟩
    exact ⟨.inr ⟨by decide, rfl, rfl⟩, two_below hb bn none⟩
  · rw [if_neg hok]
    have hok' : okP pr co cl = true := by simpa using hok
    by_cases hp : pr = 1
    · rw [if_pos hp]
      refine (recoded_one s pr co cl 0 (tgsI pr) _ _ W h0 h1 h2 hok' hp hs).mono ?_
      rintro e W' ⟨rfl, hb⟩
      exact ⟨.inl ⟨rfl, by rw [list_arr hl]⟩, two_below hb bn none⟩
    · rw [if_neg hp]
      obtain ⟨p, c, k, n, rfl, rfl, rfl, hn, hn', hn1, hn2, hc1, hc2, hk2, hpp⟩ := ok_parts hok'
      have hpr : p = 2 ∨ 10 ≤ p ∧ p ≤ 15 := by omega
      rw [hn', tgs_eq]
      by_cases hm : l.length % n = 0
      · rw [if_neg (by omega)]
        obtain ⟨m, hm'⟩ : ∃ m, l.length / n = m := ⟨_, rfl⟩
        have hlm : l.length = n * m := by rw [← hm']; exact (Nat.mul_div_cancel' (Nat.dvd_of_mod_eq_zero hm)).symm
        rw [hm', Int.toNat_natCast, Int.toNat_natCast]
        refine (recoded_rows s l p c k n n m 0 (tgs p) _ _ bp ba bn (fun k => some (prevR n l k, encR p c n l k)) W hl hpr hok' hn (by omega) (tgs_le p) (by omega) (by rw [← hll, hlm]) hs hc2 hk2 ⟨hC.1, hC.2.1, hC.2.2, IsRow.nil _⟩ hne (enters_of Try.func27 (by kernel_rfl) rfl) rfl (enc_spec p c k n m bp ba bn l hpr hc1 hc2 hn1 hn2 hne hlm)).mono ?_
        rintro e W' ⟨⟨prev, all, h, rfl⟩ | ⟨⟨j, _, h⟩, _⟩, hT⟩
        · simp only [Option.some.injEq, Prod.mk.injEq] at h
          exact ⟨.inl ⟨rfl, by rw [h.2]⟩, hT⟩
        · cases h
      · rw [if_pos (by omega)]
        refine (recoded_uneven s p c k n n 0 (tgs p) _ _ W hpr hok' hn (by omega) (by omega) (by rw [← hll]; omega) hs hc2 hk2).mono ?_
        rintro e W' ⟨rfl, hb⟩
        exact ⟨.inr ⟨by decide, rfl, rfl⟩, two_below hb bn none⟩

theorem recoded_dec (s : ByteArray) (l : List UInt8) (pr co cl : Int) (bp ba bn : Nat) (W : World) (hl : s.data.toList = l) (hs : s.size ≤ 4000) (h0 : I64 pr) (h1 : I64 co) (h2 : I64 cl) (hne : bp ≠ bn ∧ ba ≠ bn) (hC : CoderBlk W bp ba bn pr co cl) :
    Calls Try.prog 14 #[parmsV pr co cl, .string s, .int .i64 (tgsI pr), .int .i64 0, .func (.func 29) #[] #[.pointer (some ⟨bp, 0, none⟩), .pointer (some ⟨ba, 0, none⟩), .pointer (some ⟨bn, 0, none⟩)]] W fun e W' => Out (decF pr co cl l) e ∧ Two W W' bn none := by
  have hll : l.length = s.size := by rw [← hl]; simp
  unfold decF
  by_cases hok : okP pr co cl = false
  · rw [if_pos hok]
    refine (recoded_bad s pr co cl (tgsI pr) 0 _ _ W h0 h1 h2 hok).mono ?_
    rintro e W' ⟨rfl, hb⟩
    exact ⟨.inr ⟨by decide, rfl, rfl⟩, two_below hb bn none⟩
  · rw [if_neg hok]
    have hok' : okP pr co cl = true := by simpa using hok
    by_cases hp : pr = 1
    · rw [if_pos hp]
      refine (recoded_one s pr co cl (tgsI pr) 0 _ _ W h0 h1 h2 hok' hp hs).mono ?_
      rintro e W' ⟨rfl, hb⟩
      exact ⟨.inl ⟨rfl, by rw [list_arr hl]⟩, two_below hb bn none⟩
    · rw [if_neg hp]
      obtain ⟨p, c, k, n, rfl, rfl, rfl, hn, hn', hn1, hn2, hc1, hc2, hk2, hpp⟩ := ok_parts hok'
      have hpr : p = 2 ∨ 10 ≤ p ∧ p ≤ 15 := by omega
      rw [hn', tgs_eq, Int.toNat_natCast, Int.toNat_natCast]
      obtain ⟨q, hq⟩ : ∃ q, n + tgs p = q := ⟨_, rfl⟩
      have htl := tgs_le p
      rw [hq]
      by_cases hm : l.length % q = 0
      · rw [if_neg (by omega)]
        obtain ⟨m, hm'⟩ : ∃ m, l.length / q = m := ⟨_, rfl⟩
        have hlm : l.length = q * m := by rw [← hm']; exact (Nat.mul_div_cancel' (Nat.dvd_of_mod_eq_zero hm)).symm
        rw [hm']
        refine (recoded_rows s l p c k n q m (tgs p) 0 _ _ bp ba bn (decR p c q l) W hl hpr hok' hn (by omega) (by omega) (tgs_le p) (by rw [← hll, hlm]) hs hc2 hk2 ⟨hC.1, hC.2.1, hC.2.2, IsRow.nil _⟩ hne (enters_of Try.func29 (by kernel_rfl) rfl) rfl (dec_spec p c k n q m bp ba bn l hpr hc1 hc2 hn1 hn2 hq hne hlm)).mono ?_
        rintro e W' ⟨⟨prev, all, h, rfl⟩ | ⟨⟨j, hj, h⟩, rfl⟩, hT⟩
        · rw [h]
          exact ⟨.inl ⟨rfl, rfl⟩, hT⟩
        · rw [decR_none h m (by omega)]
          exact ⟨.inr ⟨by decide, rfl, rfl⟩, hT⟩
      · rw [if_pos (by omega)]
        refine (recoded_uneven s p c k n q (tgs p) 0 _ _ W hpr hok' hn (by omega) (tgs_le p) (by rw [← hll]; omega) hs hc2 hk2).mono ?_
        rintro e W' ⟨rfl, hb⟩
        exact ⟨.inr ⟨by decide, rfl, rfl⟩, two_below hb bn none⟩
end Go.Proofs.Yticliemmplefoaa
