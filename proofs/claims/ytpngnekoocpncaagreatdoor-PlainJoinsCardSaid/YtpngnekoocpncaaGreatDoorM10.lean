/-
  Lemmas and walks, joined: FixX.
-/
import Derived.Test.YtpngnekoocpncaaGreatDoorM05
namespace Go.Proofs.YtpngnekoocpncaaGreatDoor
open Go.RowKit Fix

theorem below_grow {w : World} (k : Nat) (os : Array Obj) : Below w.heap.size w (Go.Sort.grow (w.drewN k) os) :=
  ⟨rfl, rfl, rfl, by show w.heap.size ≤ (w.heap ++ os).size; rw [Array.size_append]; omega, fun i hi => by show (w.heap ++ os)[i]? = _; rw [Array.getElem?_append_left hi]⟩

/-- The powers of ten stand in their variable. -/
def Tab10 (w : World) : Prop := Lib.TabIs Tryz.prog w "internal/strconv.uint64pow10" .u64 Lib.pow10Tab
theorem tab10_below {B : Nat} {w w' : World} (h : Tab10 w) (hb : Below B w w') (hB : w.heap.size ≤ B) : Tab10 w' := by
  unfold Tab10 Lib.TabIs World.var? at h ⊢
  cases hg : Tryz.prog.globalNamed "internal/strconv.uint64pow10" with
  | none => rw [hg] at h; cases h
  | some g =>
    rw [hg] at h
    simp only [Option.bind_some] at h ⊢
    have hlt : g < w.heap.size := by
      by_cases hh : g < w.heap.size
      · exact hh
      · rw [Array.getElem?_eq_none (by omega)] at h
        cases h
    rw [hb.block g (by omega)]
    exact h

theorem fmt_any (n : Int) (w : World) (h0 : -9223372036854775808 ≤ n) (h1 : n ≤ 9223372036854775807) (ht : Tab10 w) :
    Calls Tryz.prog 16 #[.int .i64 n, .int .i64 10] w fun e w' => e = .returned (.string ⟨(Lib.itoa n).toArray⟩) ∧ Below w.heap.size w w' :=
  (Tryz.strconv_FormatInt_10 n h0 h1 w ht).mono fun _ _ ⟨h1, k, os, h2⟩ => ⟨h1, by rw [h2]; exact below_grow k os⟩
theorem fmt_c (n : Int) (m : Nat) (hm : n = m) (F : ByteArray) (hF : F.data.toList = Lib.decDigits m) (w : World) (h1 : m ≤ 9223372036854775807) (ht : Tab10 w) :
    Calls Tryz.prog 16 #[.int .i64 n, .int .i64 10] w fun e w' => e = .returned (.string F) ∧ Below w.heap.size w w' := by
  subst hm
  refine (fmt_any m w (by omega) (by omega) ht).mono fun _ _ ⟨h1, h2⟩ => ⟨?_, h2⟩
  rw [h1, Lib.itoa, if_neg (by omega), show ((m : Int)).toNat = m by omega, ← hF]
theorem trim_c (s T : ByteArray) (hT : T.data.toList = Lib.trimRightB s.data.toList 48) (w : World) (hs : s.size ≤ 1000000) :
    Calls Tryz.prog 36 #[.string s, .string ⟨#[48]⟩] w fun e w' => e = .returned (.string T) ∧ w' = w :=
  (Tryz.strings_TrimRight_one s 48 (by decide) w (by omega)).mono fun _ _ ⟨h1, h2⟩ => ⟨by rw [h1, ← hT], h2⟩

theorem bytes_eq {a b : ByteArray} (h : a.data.toList = b.data.toList) : a = b := by
  obtain ⟨⟨a⟩⟩ := a
  obtain ⟨⟨b⟩⟩ := b
  cases h
  rfl
theorem ret_string {a b : ByteArray} (h : a.data.toList = b.data.toList) : Ending.returned (.string a) = .returned (.string b) := by rw [bytes_eq h]
theorem mk_bytes (l : List UInt8) : ∃ s : ByteArray, s.data.toList = l := ⟨⟨l.toArray⟩, rfl⟩
theorem size_list (s : ByteArray) : s.data.toList.length = s.size := by simp
theorem drop1 (s : ByteArray) : (s.extract 1 s.size).data.toList = s.data.toList.drop 1 := by
  rw [Lib.extract_data]
  simp [List.take_of_length_le]

theorem textL_in (n : Int) (h1 : -1073741824 ≤ n) (h2 : n ≤ 1073741824) : textL n = (if n < 0 then [45] else []) ++ Lib.decDigits (n.natAbs / 10000) ++ [46] ++ fracL (n.natAbs % 10000) := by
  unfold textL
  rw [if_neg (by omega), if_neg (by omega)]

theorem text_out (n : Int) (w : World) (h : n < -1073741824 ∨ 1073741824 < n) :
    Calls Tryz.prog 17 #[.int .i64 n] w fun e w' => e = .returned (.string ⟨(textL n).toArray⟩) ∧ Below w.heap.size w w' := by
  have he : textL n = [] := by unfold textL; rcases h with h | h; rw [if_pos h]; rw [if_neg (by omega), if_pos h]
  rw [he]
  rcases h with h | h
  · go_enter Tryz.func17, Tryz.ntmps17
    go_wp2
    go_ret
    exact ⟨rfl, Below.refl _ _⟩
  · have h' : ¬ n < -1073741824 := by omega
    go_enter Tryz.func17, Tryz.ntmps17
    go_wp2
    go_ret
    exact ⟨rfl, Below.refl _ _⟩

/-- What the walk's last row makes, and what is asked of it. -/
theorem text_end {n : Int} {sg : List UInt8} {S Q D : ByteArray} (q r : Nat) (h : textL n = sg ++ Lib.decDigits q ++ [46] ++ fracL r) (hS : S.data.toList = sg) (hQ : Q.data.toList = Lib.decDigits q) (hD : D.data.toList = fracL r) :
    Ending.returned (.string (S ++ Q ++ ⟨#[46]⟩ ++ D)) = .returned (.string ⟨(textL n).toArray⟩) :=
  ret_string (by simp [h, hS, hQ, hD])
theorem frac_some {r : Nat} {T : ByteArray} (hT : T.data.toList = Lib.trimRightB (digitsL r 4) 48) (hz : ¬ T.data.toList = []) : T.data.toList = fracL r := by
  unfold fracL
  rw [← hT, if_neg hz]
theorem frac_none {r : Nat} {T : ByteArray} (hT : T.data.toList = Lib.trimRightB (digitsL r 4) 48) (hz : T.data.toList = []) : (⟨#[48]⟩ : ByteArray).data.toList = fracL r := by
  unfold fracL
  rw [← hT, if_pos hz]

set_option maxHeartbeats 1600000 in
theorem text_in (n : Int) (m : Nat) (w : World) (h2 : m ≤ 1073741824) (hn : n = m ∨ (n = -(m : Int) ∧ 1 ≤ m)) (ht : Tab10 w) :
    Calls Tryz.prog 17 #[.int .i64 n] w fun e w' => e = .returned (.string ⟨(textL n).toArray⟩) ∧ Below w.heap.size w w' := by
  have HT := Lib.hid ht
  clear ht
  obtain ⟨F, hF⟩ := mk_bytes (Lib.decDigits (10000 + m % 10000))
  obtain ⟨Q, hQ⟩ := mk_bytes (Lib.decDigits (m / 10000))
  have hF' : F.data.toList = 49 :: digitsL (m % 10000) 4 := by rw [hF, dec_padded _ (by omega)]
  have hFs : F.size = 5 := by rw [← size_list, hF', List.length_cons, digits4_length _ (by omega)]
  have hx : (F.extract 1 F.size).data.toList = digitsL (m % 10000) 4 := by rw [drop1, hF']; rfl
  obtain ⟨T, hT⟩ := mk_bytes (Lib.trimRightB (digitsL (m % 10000) 4) 48)
  have HF := Lib.hid (And.intro hF (And.intro hQ (And.intro hx hT)))
  have hFz : (1 : Int) ≤ (F.size : Int) := by omega
  have hFz2 : 1 ≤ F.size := by omega
  have HFS := Lib.hid hFs
  have hQs : Q.size ≤ 20 := by rw [← size_list, hQ, Lib.decDigits_length]; exact Lib.nDigits_le20 _ (by omega)
  have hTs : T.size ≤ 4 := by
    rw [← size_list, hT]
    have h4 := digits4_length (m % 10000) (by omega)
    unfold Lib.trimRightB
    rw [List.length_reverse]
    have := (List.dropWhile_suffix (p := (· == (48 : UInt8))) (l := (digitsL (m % 10000) 4).reverse)).length_le
    rw [List.length_reverse] at this
    omega
  have hin := textL_in n (by omega) (by omega)
  rw [show n.natAbs = m by omega] at hin
  have HIN := Lib.hid hin
  clear hF hQ hF' hFs hx hT hin
  rcases hn with rfl | ⟨rfl, hm1⟩
  all_goals by_cases hz : T.data.toList = []
  all_goals
    have HZ := Lib.hid hz
    have hz2 : T.toList.isEmpty = T.data.toList.isEmpty := by rw [Lib.toList_data]
    try rw [List.isEmpty_eq_false_iff.2 hz] at hz2
    try rw [hz] at hz2
    clear hz
    go_enter Tryz.func17, Tryz.ntmps17
    go_wp2_with fail
    refine (fmt_c _ (10000 + m % 10000) (by omega) F HF.out.1 _ (by omega) HT.out).mono ?_
    rintro e w1 ⟨rfl, hb1⟩
    have HB := Lib.hid hb1
    clear hb1
    go_wp2_with fail
    refine (trim_c _ T (by rw [HF.out.2.2.1, HF.out.2.2.2]) _ (by have := HFS.out; simp; omega)).mono ?_
    rintro e w' ⟨rfl, rfl⟩
    go_wp2_with fail
    refine (fmt_c _ (m / 10000) (by omega) Q HF.out.2.1 _ (by omega) (tab10_below HT.out HB.out (Nat.le_refl _))).mono ?_
    rintro e w2 ⟨rfl, hb2⟩
    have HB2 := Lib.hid hb2
    clear hb2
    go_wp2_with fail
    go_ret
    refine ⟨?_, HB.out.trans (HB2.out.mono HB.out.size)⟩
    first
      | exact text_end _ _ (HIN.out.trans (by rw [if_pos (by omega)])) rfl HF.out.2.1 (frac_none HF.out.2.2.2 HZ.out)
      | exact text_end _ _ (HIN.out.trans (by rw [if_neg (by omega)])) rfl HF.out.2.1 (frac_none HF.out.2.2.2 HZ.out)
      | exact text_end _ _ (HIN.out.trans (by rw [if_pos (by omega)])) rfl HF.out.2.1 (frac_some HF.out.2.2.2 HZ.out)
      | exact text_end _ _ (HIN.out.trans (by rw [if_neg (by omega)])) rfl HF.out.2.1 (frac_some HF.out.2.2.2 HZ.out)

theorem text_any (n : Int) (w : World) (ht : Tab10 w) :
    Calls Tryz.prog 17 #[.int .i64 n] w fun e w' => e = .returned (.string ⟨(textL n).toArray⟩) ∧ Below w.heap.size w w' := by
  by_cases h : n < -1073741824 ∨ 1073741824 < n
  · exact text_out n w h
  · exact text_in n n.natAbs w (by omega) (by omega) ht
end Go.Proofs.YtpngnekoocpncaaGreatDoor
