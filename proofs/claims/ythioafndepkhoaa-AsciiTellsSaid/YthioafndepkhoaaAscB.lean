/-
  ascii's decoder: visible and hexDigit.
-/
import Derived.Test.YthioafndepkhoaaAscA
namespace Go.Proofs.Ythioafndepkhoaa
open Go.RowKit Oct

def restAt (w : World) (g : Nat) : Nat := match w.cell? ⟨g, 0, none⟩ with | some (.string b) => b.size | _ => 0
theorem restAt_of {w : World} {g : Nat} {t : TypeId} {r : ByteArray} {v u : Value} (h : Blk w g t #[.string r, v, u]) : restAt w g = r.size := by
  unfold restAt
  rw [h.cell 0]
  rfl
theorem rest_cons (r : ByteArray) (h : 0 < r.size) : r.data.toList = r[0] :: (r.extract 1 r.size).data.toList := by
  have hl : 0 < r.data.toList.length := by simpa using h
  rw [ByteArray.data_extract, Array.toList_extract, List.extract_eq_take_drop]
  have h1 := List.drop_eq_getElem_cons hl
  rw [List.drop_zero] at h1
  rw [h1]
  have : (r.data.toList.drop 1).take (r.size - 1) = r.data.toList.drop 1 := List.take_of_length_le (by rw [List.length_drop]; simp)
  rw [← h1, this]
  exact h1
theorem take_c (g : Nat) (r P : ByteArray) (v : Value) (m : Int) (w : World) (hr : r.size ≤ 4000000000) (hn : 0 < r.size) (hP : r.extract 0 1 = P) (hX : Blk w g 44 #[.string r, v, .int .i64 m]) :
    Calls Try.prog 39 #[.pointer (some ⟨g, 0, none⟩), .int .i64 1] w fun e w' => e = .returned (.string P) ∧ Blk w' g 44 #[.string (r.extract 1 r.size), v, .int .i64 m] ∧ w.grownBy w' (some g) := hP ▸ take_ok 1 g r v m w hr hn hX

/-- The first byte that is not white, and what is behind it; the decoder's rest is that. -/
def VisOk (g : Nat) (c : UInt8) (t : List UInt8) (v : Value) (m : Int) (w : World) (e : Ending) (w' : World) : Prop :=
  e = .returned (.int .u8 (c.toNat : Int)) ∧ (∃ r : ByteArray, r.data.toList = t ∧ Blk w' g 44 #[.string r, v, .int .i64 m]) ∧ w.grownBy w' (some g)

set_option maxRecDepth 100000 in
set_option maxHeartbeats 4000000 in
theorem visible_ok (g : Nat) (r0 : ByteArray) (c : UInt8) (t : List UInt8) (v : Value) (m : Int) (w : World) (hr : r0.size ≤ 4000000000) (hd : r0.data.toList.dropWhile whiteS = c :: t) (hX : Blk w g 44 #[.string r0, v, .int .i64 m]) :
    Calls Try.prog 35 #[.pointer (some ⟨g, 0, none⟩)] w (VisOk g c t v m w) := by
  have HD := Lib.hid hd
  have HX := Lib.hid hX
  clear hd hX
  go_enter Try.func35, Try.ntmps35
  go_wp2_with fail
  go_loopw [] (fun wr => ∃ r : ByteArray, r.size ≤ r0.size ∧ r.data.toList.dropWhile whiteS = c :: t ∧ Blk wr g 44 #[.string r, v, .int .i64 m] ∧ w.grownBy wr (some g)) (fun wr => restAt wr g)
  case atStart => exact ⟨r0, Nat.le_refl _, HD.out, HX.out, grown_refl w _⟩
  case round =>
    obtain ⟨r, hrs, hd, hX, hg⟩ := hrel
    have hpos : 0 < r.size := by
      rcases Nat.eq_zero_or_pos r.size with h | h
      · have he : r.data.toList = [] := List.eq_nil_of_length_eq_zero (by have e : r.data.toList.length = r.size := (by simp); omega)
        rw [he] at hd
        cases hd
      · exact h
    have hm1 := restAt_of hX
    obtain ⟨P, hP⟩ : ∃ P, r.extract 0 1 = P := ⟨_, rfl⟩
    obtain ⟨p1, p2⟩ := take_one r hpos
    rw [hP] at p1
    have p0 : 0 < P.size := by omega
    have p3 : P[0] = r[0] := by subst hP; exact p2 p0
    have hrc := rest_cons r hpos
    have HT := Lib.hid (take_c g r P v m wr (by omega) hpos hP hX)
    rw [hrc, List.dropWhile_cons] at hd
    rw [← p3] at hd
    have HG := Lib.hid hg
    have hes : (r.extract 1 r.size).size < r.size := by rw [ByteArray.size_extract]; omega
    clear hX hg hP p2 p3 hrc
    by_cases hw : whiteS P[0] = true
    · rw [if_pos hw] at hd
      have HD2 := Lib.hid hd
      have HM := Lib.hid hm1
      have HES := Lib.hid hes
      clear hd hm1 hes p1
      go_wp2_with fail
      refine HT.out.mono ?_
      rintro e w2 ⟨rfl, hX2, hg2⟩
      have HX2 := Lib.hid hX2
      have HG2 := Lib.hid (HG.out.trans hg2)
      clear hX2 hg2
      go_wp2_with (go_at_call 44; refine (white_any _ _).mono ?_; rintro e w' ⟨rfl, rfl⟩)
      go_roundw
      case rel => exact ⟨r.extract 1 r.size, by have := HES.out; omega, HD2.out, HX2.out, HG2.out⟩
      case measure => rw [HM.out, restAt_of HX2.out]; exact HES.out
    · have hw' : whiteS P[0] = false := by simpa using hw
      rw [if_neg hw] at hd
      injection hd with h1 h2
      have H1 := Lib.hid h1
      have H2 := Lib.hid h2
      clear h1 h2 hm1 hes hw p1
      go_wp2_with fail
      refine HT.out.mono ?_
      rintro e w2 ⟨rfl, hX2, hg2⟩
      have HX2 := Lib.hid hX2
      have HG2 := Lib.hid (HG.out.trans hg2)
      clear hX2 hg2
      go_wp2_with (go_at_call 44; refine (white_any _ _).mono ?_; rintro e w' ⟨rfl, rfl⟩)
      go_ret
      exact ⟨by rw [← H1.out]; rfl, ⟨_, H2.out, HX2.out⟩, HG2.out⟩

/-- The decoder gives up at the end of its bytes. -/
def VisNo (g : Nat) (v : Value) (m : Int) (w : World) (e : Ending) (w' : World) : Prop :=
  e = gUp 4 ∧ (∃ r : ByteArray, Blk w' g 44 #[.string r, v, .int .i64 m]) ∧ w.grownBy w' (some g)

set_option maxRecDepth 100000 in
set_option maxHeartbeats 4000000 in
theorem visible_no (g : Nat) (r0 : ByteArray) (v : Value) (m : Int) (w : World) (hr : r0.size ≤ 4000000000) (hd : r0.data.toList.dropWhile whiteS = []) (hX : Blk w g 44 #[.string r0, v, .int .i64 m]) :
    Calls Try.prog 35 #[.pointer (some ⟨g, 0, none⟩)] w (VisNo g v m w) := by
  have HD := Lib.hid hd
  have HX := Lib.hid hX
  clear hd hX
  go_enter Try.func35, Try.ntmps35
  go_wp2_with fail
  go_loopw [] (fun wr => ∃ r : ByteArray, r.size ≤ r0.size ∧ r.data.toList.dropWhile whiteS = [] ∧ Blk wr g 44 #[.string r, v, .int .i64 m] ∧ w.grownBy wr (some g)) (fun wr => restAt wr g)
  case atStart => exact ⟨r0, Nat.le_refl _, HD.out, HX.out, grown_refl w _⟩
  case round =>
    obtain ⟨r, hrs, hd, hX, hg⟩ := hrel
    have HG := Lib.hid hg
    have hm1 := restAt_of hX
    clear hg
    rcases Nat.eq_zero_or_pos r.size with hz | hpos
    · have HT := Lib.hid (take_no 1 g r v m wr (by omega) (by omega) hX)
      have HX1 := Lib.hid hX
      clear hX hd hm1
      go_wp2_with fail
      refine HT.out.mono ?_
      rintro e w2 ⟨rfl, rfl⟩
      exact ⟨rfl, rfl, ⟨r, HX1.out⟩, HG.out⟩
    · obtain ⟨P, hP⟩ : ∃ P, r.extract 0 1 = P := ⟨_, rfl⟩
      obtain ⟨p1, p2⟩ := take_one r hpos
      rw [hP] at p1
      have p0 : 0 < P.size := by omega
      have p3 : P[0] = r[0] := by subst hP; exact p2 p0
      have hrc := rest_cons r hpos
      have HT := Lib.hid (take_c g r P v m wr (by omega) hpos hP hX)
      rw [hrc, List.dropWhile_cons] at hd
      rw [← p3] at hd
      have hes : (r.extract 1 r.size).size < r.size := by rw [ByteArray.size_extract]; omega
      have hw : whiteS P[0] = true := by
        cases h : whiteS P[0] with
        | true => rfl
        | false => rw [if_neg (by rw [h]; decide)] at hd; cases hd
      rw [if_pos hw] at hd
      have HD2 := Lib.hid hd
      have HM := Lib.hid hm1
      have HES := Lib.hid hes
      clear hX hP p2 p3 hrc hd hm1 hes p1
      go_wp2_with fail
      refine HT.out.mono ?_
      rintro e w2 ⟨rfl, hX2, hg2⟩
      have HX2 := Lib.hid hX2
      have HG2 := Lib.hid (HG.out.trans hg2)
      clear hX2 hg2
      go_wp2_with (go_at_call 44; refine (white_any _ _).mono ?_; rintro e w' ⟨rfl, rfl⟩)
      go_roundw
      case rel => exact ⟨r.extract 1 r.size, by have := HES.out; omega, HD2.out, HX2.out, HG2.out⟩
      case measure => rw [HM.out, restAt_of HX2.out]; exact HES.out

set_option maxHeartbeats 1000000 in
theorem hexDigit_ok (c : UInt8) (w : World) (h : 0 ≤ digitS c) : Calls Try.prog 36 #[.int .u8 (c.toNat : Int)] w fun e w' => e = .returned (.int .u8 (digitS c)) ∧ w = w' := by
  have hl := digit_le c
  have hn : ¬ digitS c < 0 := by omega
  go_enter Try.func36, Try.ntmps36
  go_wp2_with (go_at_call 45; refine (digit_any _ _).mono ?_; rintro e w' ⟨rfl, rfl⟩)
  go_ret
  exact ⟨rfl, rfl⟩
set_option maxHeartbeats 1000000 in
theorem hexDigit_no (c : UInt8) (w : World) (h : digitS c < 0) : Calls Try.prog 36 #[.int .u8 (c.toNat : Int)] w fun e w' => e = gUp 3 ∧ w = w' := by
  go_enter Try.func36, Try.ntmps36
  go_wp2_with fail
  refine (digit_any _ _).mono ?_
  rintro e w' ⟨rfl, rfl⟩
  go_wp2_with fail
  refine (up_any _ _).mono ?_
  rintro e w' ⟨rfl, rfl⟩
  exact ⟨rfl, rfl, rfl⟩
end Go.Proofs.Ythioafndepkhoaa
