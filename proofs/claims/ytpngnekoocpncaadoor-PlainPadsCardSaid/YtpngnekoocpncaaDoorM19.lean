/-
  Lemmas and walks, joined: FixWi, FixY.
-/
import Derived.Test.YtpngnekoocpncaaDoorM05
import Derived.Test.YtpngnekoocpncaaDoorM10
namespace Go.Proofs.YtpngnekoocpncaaDoor
open Go.RowKit Fix

theorem withinR_yes (n : Int) (w : World) (h : inRange n = true) :
    Calls Tryd.prog 45 #[.int .i64 n] w fun e w' => e = .returned (.bool true) ∧ w = w' := by
  obtain ⟨h1, h2⟩ := inRange_yes h
  clear h
  go_enter Tryd.func45, Tryd.ntmps45
  go_wp2
  go_ret
  exact ⟨rfl, rfl⟩
theorem withinR_no (n : Int) (w : World) (h : ¬ inRange n = true) :
    Calls Tryd.prog 45 #[.int .i64 n] w fun e w' => e = .returned (.bool false) ∧ w = w' := by
  rcases inRange_no h with h1 | h1
  · clear h
    have h2 : ¬ -1073741824 ≤ n := by omega
    go_enter Tryd.func45, Tryd.ntmps45
    go_wp2
    go_ret
    exact ⟨rfl, rfl⟩
  · clear h
    have h2 : -1073741824 ≤ n := by omega
    have h3 : ¬ n ≤ 1073741824 := by omega
    go_enter Tryd.func45, Tryd.ntmps45
    go_wp2
    go_ret
    exact ⟨rfl, rfl⟩
end Go.Proofs.YtpngnekoocpncaaDoor
namespace Go.Proofs.YtpngnekoocpncaaDoor
open Go.RowKit Fix

theorem digitsR_c (n least : Nat) (z : Int) (hz : z = n) (F : ByteArray) (hF : F.data.toList = digitsL n least) (w : World) (hn : n ≤ 9000000000000000000) (hl : least ≤ 1000) (hlen : (digitsL n least).length ≤ 100000) :
    Calls Tryd.prog 46 #[.int .i64 z, .int .i64 least] w fun e w' => e = .returned (.string F) ∧ Below w.heap.size w w' := by
  subst hz
  exact (digits_any n least w hn hl hlen).mono fun _ _ ⟨h1, h2⟩ => ⟨by rw [h1, ← hF], h2⟩

def TailOk (r : Nat) (t : ByteArray) : Prop := 1 ≤ t.size ∧ t.size ≤ 4 ∧ t.data.toList = (digitsL r 4).take t.size ∧ ∀ (j : Nat) b, t.size ≤ j → (digitsL r 4)[j]? = some b → b = 48

theorem textR_out (n : Int) (w : World) (h : ¬ inRange n = true) :
    Calls Tryd.prog 28 #[.int .i64 n] w fun e w' => e = .returned (.string ⟨(textL n).toArray⟩) ∧ Below w.heap.size w w' := by
  have he : textL n = [] := by
    unfold textL
    rcases inRange_no h with h | h
    · rw [if_pos h]
    · rw [if_neg (by omega), if_pos h]
  rw [he]
  have HB := Lib.hid h
  clear h
  go_enter Tryd.func28, Tryd.ntmps28
  go_wp2_with fail
  refine (withinR_no _ _ HB.out).mono ?_
  rintro e w' ⟨rfl, rfl⟩
  go_wp2
  go_ret
  exact ⟨rfl, Below.refl _ _⟩

theorem tail_less (r : Nat) (t : ByteArray) (h : TailOk r t) (h1 : 1 < t.size) (hb : t[t.size - 1] = 48) : TailOk r (t.extract 0 (t.size - 1)) := by
  obtain ⟨a, b, c, d⟩ := h
  have hs : (t.extract 0 (t.size - 1)).size = t.size - 1 := by simp
  have ht : (t.extract 0 (t.size - 1)).data.toList = t.data.toList.take (t.size - 1) := by rw [Lib.extract_data]; simp
  refine ⟨by omega, by omega, ?_, fun j x hj hx => ?_⟩
  · rw [hs, ht, c, List.take_take, show min (t.size - 1) t.size = t.size - 1 by omega]
  · rw [hs] at hj
    by_cases hj2 : t.size ≤ j
    · exact d j x hj2 hx
    · obtain rfl : j = t.size - 1 := by omega
      have e : t.data.toList[t.size - 1]? = some x := by rw [c, List.getElem?_take_of_lt (by omega)]; exact hx
      rw [List.getElem?_eq_getElem (by rw [size_list]; omega)] at e
      have e2 : t.data.toList[t.size - 1]'(by rw [size_list]; omega) = t[t.size - 1] := rfl
      rw [e2, hb] at e
      cases e
      rfl
theorem tail_done (r : Nat) (t : ByteArray) (hr : r < 10000) (h : TailOk r t) (hb : t.size = 1 ∨ t[t.size - 1]? ≠ some 48) : t.data.toList = fracL r := by
  obtain ⟨a, b, c, d⟩ := h
  have h4 := digits4_length r hr
  rw [c]
  refine frac_take r t.size a (by omega) d ?_
  rcases hb with hb | hb
  · exact Or.inl hb
  · refine Or.inr fun x hx e => hb ?_
    subst e
    have e : t.data.toList[t.size - 1]? = some 48 := by rw [c, List.getElem?_take_of_lt (by omega)]; exact hx
    rw [List.getElem?_eq_getElem (by rw [size_list]; omega)] at e
    rw [ByteArray.getElem?_lt' t _ (by omega)]
    exact e

set_option maxHeartbeats 1600000 in
theorem textR_in (n : Int) (m : Nat) (w : World) (h2 : m ≤ 1073741824) (hn : n = m ∨ (n = -(m : Int) ∧ 1 ≤ m)) :
    Calls Tryd.prog 28 #[.int .i64 n] w fun e w' => e = .returned (.string ⟨(textL n).toArray⟩) ∧ Below w.heap.size w w' := by
  obtain ⟨F, hF⟩ := mk_bytes (digitsL (m % 10000) 4)
  obtain ⟨Q, hQ⟩ := mk_bytes (Lib.decDigits (m / 10000))
  have hFs : F.size = 4 := by rw [← size_list, hF, digits4_length _ (by omega)]
  have hQs : Q.size ≤ 20 := by rw [← size_list, hQ, Lib.decDigits_length]; exact Lib.nDigits_le20 _ (by omega)
  have hQl : (digitsL (m / 10000) 1).length ≤ 100000 := by rw [digitsL_one, ← hQ, size_list]; omega
  have hin := textL_in n (by omega) (by omega)
  rw [show n.natAbs = m by omega] at hin
  have HIN := Lib.hid hin
  have HR := Lib.hid (show inRange n = true by unfold inRange; simp; omega)
  have hT0 : TailOk (m % 10000) F := ⟨by omega, by omega, by rw [hF, hFs, List.take_of_length_le (by rw [digits4_length _ (by omega)]; omega)], fun j b hj hb => by
    rw [List.getElem?_eq_none (by rw [digits4_length _ (by omega)]; omega)] at hb; cases hb⟩
  have HF := Lib.hid (And.intro hF (And.intro hQ (And.intro hQl hT0)))
  clear hF hQ hFs hin hQl hT0
  rcases hn with rfl | ⟨rfl, hm1⟩
  all_goals
    go_enter Tryd.func28, Tryd.ntmps28
    go_wp2_with fail
    refine (withinR_yes _ _ HR.out).mono ?_
    rintro e w' ⟨rfl, rfl⟩
    go_wp2_with fail
    refine (digitsR_c (m % 10000) 4 _ (by omega) F HF.out.1 _ (by omega) (by omega) (by rw [digits4_length _ (by omega)]; omega)).mono ?_
    rintro e w1 ⟨rfl, hb1⟩
    have HB := Lib.hid hb1
    clear hb1
    go_wp2_with fail
    go_loop [4] (fun p => ∃ t : ByteArray, p = .string t ∧ Hid (TailOk (m % 10000) t)) (fun p => match p with | .string t => t.size | _ => 0)
    case atStart => exact ⟨F, rfl, Lib.hid HF.out.2.2.2⟩
    case round =>
      obtain ⟨t, rfl, ht⟩ := hrel
      have t1 : 1 ≤ t.size := ht.out.1
      have t4 : t.size ≤ 4 := ht.out.2.1
      by_cases hk : 1 < t.size
      · have hk' : (1 : Int) < (t.size : Int) := by omega
        by_cases hb : t[t.size - 1] = 48
        · have HX := Lib.hid (tail_less _ t ht.out hk hb)
          have hb' : ((t[t.size - 1].toNat : Int) == 48) = true := by rw [hb]; rfl
          clear hb
          go_wp2
          go_round
          case rel => exact ⟨_, rfl, Lib.hid HX.out⟩
          case measure => simp; omega
        · have HX := Lib.hid (tail_done _ t (by omega) ht.out (Or.inr (by rw [ByteArray.getElem?_lt' t _ (by omega)]; exact fun e => hb (Option.some.inj e))))
          have hb' : ((t[t.size - 1].toNat : Int) == 48) = false := by
            simp only [beq_eq_false_iff_ne, ne_eq]
            intro e
            exact hb (UInt8.toNat_inj.1 (show _ = 48 by omega))
          clear hb
          go_wp2_with fail
          refine (digitsR_c (m / 10000) 1 _ (by omega) Q (by rw [digitsL_one]; exact HF.out.2.1) _ (by omega) (by omega) HF.out.2.2.1).mono ?_
          rintro e w2 ⟨rfl, hb2⟩
          have HB2 := Lib.hid hb2
          clear hb2
          go_wp2_with fail
          go_ret
          refine ⟨?_, HB.out.trans (HB2.out.mono HB.out.size)⟩
          first
            | exact text_end _ _ (HIN.out.trans (by rw [if_pos (by omega)])) rfl HF.out.2.1 HX.out
            | exact text_end _ _ (HIN.out.trans (by rw [if_neg (by omega)])) rfl HF.out.2.1 HX.out
      · have HX := Lib.hid (tail_done _ t (by omega) ht.out (Or.inl (by omega)))
        have hk' : ¬ (1 : Int) < (t.size : Int) := by omega
        go_wp2_with fail
        refine (digitsR_c (m / 10000) 1 _ (by omega) Q (by rw [digitsL_one]; exact HF.out.2.1) _ (by omega) (by omega) HF.out.2.2.1).mono ?_
        rintro e w2 ⟨rfl, hb2⟩
        have HB2 := Lib.hid hb2
        clear hb2
        go_wp2_with fail
        go_ret
        refine ⟨?_, HB.out.trans (HB2.out.mono HB.out.size)⟩
        first
          | exact text_end _ _ (HIN.out.trans (by rw [if_pos (by omega)])) rfl HF.out.2.1 HX.out
          | exact text_end _ _ (HIN.out.trans (by rw [if_neg (by omega)])) rfl HF.out.2.1 HX.out

theorem textR_any (n : Int) (w : World) :
    Calls Tryd.prog 28 #[.int .i64 n] w fun e w' => e = .returned (.string ⟨(textL n).toArray⟩) ∧ Below w.heap.size w w' := by
  by_cases h : inRange n = true
  · have := inRange_yes h
    exact textR_in n n.natAbs w (by omega) (by omega)
  · exact textR_out n w h
end Go.Proofs.YtpngnekoocpncaaDoor
