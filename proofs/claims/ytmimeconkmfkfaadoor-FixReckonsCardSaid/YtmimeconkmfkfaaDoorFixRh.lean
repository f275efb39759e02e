/-
  The reference's Read, for all strings.
-/
import Derived.Test.YtmimeconkmfkfaaDoorFixRg
namespace Go.Proofs.YtmimeconkmfkfaaDoor
open Go.RowKit Fix

theorem form_yes (s A B : ByteArray) (m : Bool) (hg : goodR s.data.toList = true) (hA : A.data.toList = befL s.data.toList) (hB : B.data.toList = aftL s.data.toList) (hm : minusL s.data.toList = m) (w : World) :
    Calls Tryd.prog 35 #[.string s] w fun e w' => e = .returned (.tuple #[.string A, .string B, .bool m, .bool true]) ∧ w = w' :=
  (form_any s w).mono fun _ _ ⟨⟨A', B', m', ok, he, hok, hall⟩, hw⟩ => ⟨by
    obtain rfl : ok = true := by rw [← hok]; exact hg
    obtain ⟨h1, h2, h3⟩ := hall rfl
    rw [he, bytes_eq (h1.trans hA.symm), bytes_eq (h2.trans hB.symm), h3, hm], hw⟩
def FormNo (w : World) (e : Ending) (w' : World) : Prop := (∃ (A B : ByteArray) (m : Bool), e = .returned (.tuple #[.string A, .string B, .bool m, .bool false])) ∧ w = w'
theorem form_no (s : ByteArray) (hg : goodR s.data.toList = false) (w : World) : Calls Tryd.prog 35 #[.string s] w (FormNo w) :=
  (form_any s w).mono fun _ _ ⟨⟨A', B', m', ok, he, hok, _⟩, hw⟩ => ⟨⟨A', B', m', by
    obtain rfl : ok = false := by rw [← hok]; exact hg
    exact he⟩, hw⟩

theorem readR_bad (s : ByteArray) (w : World) (hg : goodR s.data.toList = false) :
    Calls Tryd.prog 10 #[.string s] w (ReadEnd s.data.toList w) := by
  have HG := Lib.hid hg
  clear hg
  go_enter Tryd.func10, Tryd.ntmps10
  go_wp2_with fail
  refine (form_no _ HG.out _).mono ?_
  rintro e w' ⟨⟨A, B, m, rfl⟩, rfl⟩
  go_wp2_with fail
  go_ret2
  refine ⟨?_, rfl⟩
  unfold readN readE
  rw [if_neg (by rw [HG.out]; decide), if_neg (by rw [HG.out]; decide)]
  rfl

theorem readR_any (s : ByteArray) (w : World) :
    Calls Tryd.prog 10 #[.string s] w (ReadEnd s.data.toList w) := by
  by_cases hg : goodR s.data.toList = true
  · obtain ⟨A, hA⟩ := mk_bytes (befL s.data.toList)
    obtain ⟨B, hB⟩ := mk_bytes (aftL s.data.toList)
    obtain ⟨g1, g2, g3, g4⟩ := goodR_parts hg
    have hl1 := split_len (bodyL s.data.toList)
    have hl2 := body_len s.data.toList
    have hAs : A.size ≤ 40 := by rw [← size_list, hA]; unfold befL; omega
    have hBs : B.size ≤ 40 := by rw [← size_list, hB]; unfold aftL; omega
    have mk : ∀ R : ByteArray, R.data.toList = (aftL s.data.toList).drop 4 → Hid (Parts s A B (A ++ (B ++ ⟨#[48, 48, 48, 48]⟩).extract 0 4) R (minusL s.data.toList) (valM 0 (headL s.data.toList))) := fun R hR => Lib.hid
      { good := hg
        head := by
          simp only [ByteArray.data_append, Array.toList_append]
          rw [extract_take]
          simp only [ByteArray.data_append, Array.toList_append]
          rw [hA, hB]
          rfl
        sum := rfl
        rest := hR
        minus := rfl
        val := rfl
        form := form_yes s A B _ hg hA hB rfl
        a40 := hAs
        b40 := hBs
        h60 := by simp; omega }
    by_cases h4 : B.size ≤ 4
    · have hR : (⟨#[]⟩ : ByteArray).data.toList = (aftL s.data.toList).drop 4 := by
        rw [← hB, List.drop_of_length_le (by rw [size_list]; omega)]
      have P := mk _ hR
      by_cases hm : minusL s.data.toList = true
      · rw [hm] at P
        exact readR_shortm _ _ _ _ _ _ _ P rfl h4
      · rw [Bool.eq_false_iff.2 hm] at P
        exact readR_shortp _ _ _ _ _ _ _ P rfl h4
    · have hR : (B.extract 4 B.size).data.toList = (aftL s.data.toList).drop 4 := by
        rw [Lib.extract_data, List.take_of_length_le (by rw [List.length_drop, size_list]; omega), hB]
      have P := mk _ hR
      by_cases h5 : fiveUp (B.extract 4 B.size).data.toList = true
      · by_cases hm : minusL s.data.toList = true
        · rw [hm] at P
          exact readR_highm _ _ _ _ _ _ _ P rfl (by omega) h5
        · rw [Bool.eq_false_iff.2 hm] at P
          exact readR_highp _ _ _ _ _ _ _ P rfl (by omega) h5
      · by_cases hm : minusL s.data.toList = true
        · rw [hm] at P
          exact readR_lowm _ _ _ _ _ _ _ P rfl (by omega) (Bool.eq_false_iff.2 h5)
        · rw [Bool.eq_false_iff.2 hm] at P
          exact readR_lowp _ _ _ _ _ _ _ P rfl (by omega) (Bool.eq_false_iff.2 h5)
  · exact readR_bad s w (Bool.eq_false_iff.2 hg)
end Go.Proofs.YtmimeconkmfkfaaDoor
