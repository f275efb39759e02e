/-
  Lemmas and walks, joined: FixX.
-/
import Derived.Test.YtdpbpdikgcepbaaGreatDoorHz05
namespace Go.Proofs.YtdpbpdikgcepbaaGreatDoor
open Go.RowKit Fix

theorem below_grow {w : World} (k : Nat) (os : Array Obj) : Below w.heap.size w (Go.Sort.grow (w.drewN k) os) :=
  ⟨rfl, rfl, rfl, by show w.heap.size ≤ (w.heap ++ os).size; rw [Array.size_append]; omega, fun i hi => by show (w.heap ++ os)[i]? = _; rw [Array.getElem?_append_left hi]⟩

/-- The powers of ten stand in their variable. -/
def Tab10 (w : World) : Prop := Lib.TabIs Tryz.prog w "internal/strconv.uint64pow10" .u64 Lib.pow10Tab
theorem tab10_below {B : Nat} {w w' : World} (h : Tab10 w) (hb : Below B w w') (hB : w.heap.size ≤ B) : Tab10 w' := by
  unfold Tab10 Lib.TabIs World.var? at h ⊢
  cases hg : Tryz.prog.globalNamed "internal/strconv.uint64pow10" with
  | none => rw [hg] at h; cases h
  | some g =>
    rw [hg] at h
    simp only [Option.bind_some] at h ⊢
    have hlt : g < w.heap.size := by
      by_cases hh : g < w.heap.size
      · exact hh
      · rw [Array.getElem?_eq_none (by omega)] at h
        cases h
    rw [hb.block g (by omega)]
    exact h

theorem fmt_any (n : Int) (w : World) (h0 : -9223372036854775808 ≤ n) (h1 : n ≤ 9223372036854775807) (ht : Tab10 w) :
    Calls Tryz.prog 46 #[.int .i64 n, .int .i64 10] w fun e w' => e = .returned (.string ⟨(Lib.itoa n).toArray⟩) ∧ Below w.heap.size w w' :=
  (Tryz.strconv_FormatInt_10 n h0 h1 w ht).mono fun _ _ ⟨h1, k, os, h2⟩ => ⟨h1, by rw [h2]; exact below_grow k os⟩
theorem fmt_c (n : Int) (m : Nat) (hm : n = m) (F : ByteArray) (hF : F.data.toList = Lib.decDigits m) (w : World) (h1 : m ≤ 9223372036854775807) (ht : Tab10 w) :
    Calls Tryz.prog 46 #[.int .i64 n, .int .i64 10] w fun e w' => e = .returned (.string F) ∧ Below w.heap.size w w' := by
  subst hm
  refine (fmt_any m w (by omega) (by omega) ht).mono fun _ _ ⟨h1, h2⟩ => ⟨?_, h2⟩
  rw [h1, Lib.itoa, if_neg (by omega), show ((m : Int)).toNat = m by omega, ← hF]
theorem trim_c (s T : ByteArray) (hT : T.data.toList = Lib.trimRightB s.data.toList 48) (w : World) (hs : s.size ≤ 1000000) :
    Calls Tryz.prog 119 #[.string s, .string ⟨#[48]⟩] w fun e w' => e = .returned (.string T) ∧ w' = w :=
  (Tryz.strings_TrimRight_one s 48 (by decide) w (by omega)).mono fun _ _ ⟨h1, h2⟩ => ⟨by rw [h1, ← hT], h2⟩

theorem bytes_eq {a b : ByteArray} (h : a.data.toList = b.data.toList) : a = b := by
  obtain ⟨⟨a⟩⟩ := a
  obtain ⟨⟨b⟩⟩ := b
  cases h
  rfl
theorem ret_string {a b : ByteArray} (h : a.data.toList = b.data.toList) : Ending.returned (.string a) = .returned (.string b) := by rw [bytes_eq h]
theorem mk_bytes (l : List UInt8) : ∃ s : ByteArray, s.data.toList = l := ⟨⟨l.toArray⟩, rfl⟩
theorem size_list (s : ByteArray) : s.data.toList.length = s.size := by simp
theorem drop1 (s : ByteArray) : (s.extract 1 s.size).data.toList = s.data.toList.drop 1 := by
  rw [Lib.extract_data]
  simp [List.take_of_length_le]

theorem textL_in (n : Int) (h1 : -1073741824 ≤ n) (h2 : n ≤ 1073741824) : textL n = (if n < 0 then [45] else []) ++ Lib.decDigits (n.natAbs / 10000) ++ [46] ++ fracL (n.natAbs % 10000) := by
  unfold textL
  rw [if_neg (by omega), if_neg (by omega)]

/-- What the walk's last row makes, and what is asked of it. -/
theorem text_end {n : Int} {sg : List UInt8} {S Q D : ByteArray} (q r : Nat) (h : textL n = sg ++ Lib.decDigits q ++ [46] ++ fracL r) (hS : S.data.toList = sg) (hQ : Q.data.toList = Lib.decDigits q) (hD : D.data.toList = fracL r) :
    Ending.returned (.string (S ++ Q ++ ⟨#[46]⟩ ++ D)) = .returned (.string ⟨(textL n).toArray⟩) :=
  ret_string (by simp [h, hS, hQ, hD])
theorem frac_some {r : Nat} {T : ByteArray} (hT : T.data.toList = Lib.trimRightB (digitsL r 4) 48) (hz : ¬ T.data.toList = []) : T.data.toList = fracL r := by
  unfold fracL
  rw [← hT, if_neg hz]
theorem frac_none {r : Nat} {T : ByteArray} (hT : T.data.toList = Lib.trimRightB (digitsL r 4) 48) (hz : T.data.toList = []) : (⟨#[48]⟩ : ByteArray).data.toList = fracL r := by
  unfold fracL
  rw [← hT, if_pos hz]

end Go.Proofs.YtdpbpdikgcepbaaGreatDoor
