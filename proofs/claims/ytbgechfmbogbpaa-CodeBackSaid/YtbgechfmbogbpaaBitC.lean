/-
  The walks of a reader of bit's: Low, High.
-/
import Derived.Test.YtbgechfmbogbpaaBitB
namespace Go.Proofs.Ytbgechfmbogbpaa
open Go.RowKit Bt

theorem begin_c (g : Nat) (s : ByteArray) (a : Nat) (ord n o E P : Int) (w : World) (h : Rd 70 w g s a ord) (h1 : a ≤ 8 * s.size) (hs : s.size ≤ 1000000000000000000) (hE : rdE (8 * s.size) a ord n o = E) (hP : rdOrd (8 * s.size) a ord n o = P) :
    Calls Try.prog 57 #[.pointer (some ⟨g, 0, none⟩), .int .i64 n, .int .i64 o] w fun e w' => e = .returned (.int .i64 E) ∧ Now 70 w g s a P w' := by
  subst hE hP
  exact begin_any g s a ord n o w h h1 hs

/-- What Low (o = 1) and High (o = 2) come to. -/
def Took (T : TypeId) (w : World) (g : Nat) (s : ByteArray) (a : Nat) (ord n o : Int) (e : Ending) (w' : World) : Prop :=
  e = .returned (.tuple #[.int .i64 (rdV s.data.toList (8 * s.size) a ord n o), .int .i64 (rdE (8 * s.size) a ord n o)]) ∧ Now T w g s (rdAt (8 * s.size) a ord n o) (rdOrd (8 * s.size) a ord n o) w'
theorem took_of {T : TypeId} {w w' : World} {g : Nat} {s : ByteArray} {a b : Nat} {ord n o v x p : Int} (hE : rdE (8 * s.size) a ord n o = x) (hV : rdV s.data.toList (8 * s.size) a ord n o = v) (hA : rdAt (8 * s.size) a ord n o = b) (hO : rdOrd (8 * s.size) a ord n o = p)
    (h : Now T w g s b p w') : Took T w g s a ord n o (.returned (.tuple #[.int .i64 v, .int .i64 x])) w' := by
  subst hE hV hA hO
  exact ⟨rfl, h⟩

set_option maxHeartbeats 1000000 in
theorem low_any (g : Nat) (s : ByteArray) (a : Nat) (ord n : Int) (w : World) (h : Rd 70 w g s a ord) (h1 : a ≤ 8 * s.size) (hs : s.size ≤ 1000000000000000000) :
    Calls Try.prog 43 #[.pointer (some ⟨g, 0, none⟩), .int .i64 n] w (Took 70 w g s a ord n 1) := by
  have H := Lib.hid h
  clear h
  by_cases hb : bad ord n 1 = true
  · have R := Lib.hid (rd_bad (tot := 8 * s.size) (at_ := a) (l := s.data.toList) hb)
    clear hb
    go_enter Try.func43, Try.ntmps43
    go_wp2_with fail
    refine (begin_c g s a ord n 1 1 ord w H.out h1 hs R.out.1 R.out.2.2.2).mono ?_
    rintro e w1 ⟨rfl, hn⟩
    have HN := Lib.hid hn
    clear hn
    go_wp2
    go_ret2
    exact took_of R.out.1 R.out.2.1 R.out.2.2.1 R.out.2.2.2 HN.out
  · have hb' : bad ord n 1 = false := by simpa using hb
    clear hb
    have hn := bad_no hb'
    by_cases hl : ((8 * s.size : Nat) : Int) - a < n
    · have R := Lib.hid (rd_end (tot := 8 * s.size) (at_ := a) (l := s.data.toList) hb' hl)
      clear hb'
      go_enter Try.func43, Try.ntmps43
      go_wp2_with fail
      refine (begin_c g s a ord n 1 4 ord w H.out h1 hs R.out.1 R.out.2.2.2).mono ?_
      rintro e w1 ⟨rfl, hn⟩
      have HN := Lib.hid hn
      clear hn
      go_wp2
      go_ret2
      exact took_of R.out.1 R.out.2.1 R.out.2.2.1 R.out.2.2.2 HN.out
    · have R := Lib.hid (rd_ok (tot := 8 * s.size) (at_ := a) (l := s.data.toList) hb' (by omega))
      obtain ⟨hn0, hn1, hor⟩ := hn
      obtain ⟨m, rfl⟩ := Int.eq_ofNat_of_zero_le hn0
      obtain ⟨p, hp⟩ : ∃ p : Int, (if 0 < ((m : Nat) : Int) then (1 : Int) else ord) = p := ⟨_, rfl⟩
      have hp1 : 0 < m → p = 1 := fun h => by rw [← hp, if_pos (by omega)]
      have HP := Lib.hid hp1
      have R4 := Lib.hid (R.out.2.2.2.trans hp)
      clear hb' hp hp1 hor
      go_enter Try.func43, Try.ntmps43
      go_wp2_with fail
      refine (begin_c g s a ord m 1 0 p w H.out h1 hs R.out.1 R4.out).mono ?_
      rintro e w1 ⟨rfl, hn⟩
      have HN := Lib.hid hn
      clear hn
      go_wp2
      go_loopw [7, 16] (fun v i wr => ∃ k : Nat, k ≤ m ∧ i = .int .i64 k ∧ v = .int .i64 (valL s.data.toList a k : Nat) ∧ Now 70 w g s (a + k) p wr) (fun _ i _ => m - (intOf i).toNat)
      case atStart => exact ⟨0, Nat.zero_le _, rfl, rfl, HN.out⟩
      case round =>
        obtain ⟨k, hk, rfl, rfl, hnow⟩ := hrel
        have HW := Lib.hid hnow
        clear hnow
        by_cases hlt : k < m
        · have HP1 := Lib.hid (HP.out (by omega))
          go_wp2_with (go_at_call 58; refine (next_any g s (a + k) p _ HW.out.2 (by omega) hs).mono ?_; rintro e w2 ⟨rfl, hn2⟩; have HX := Lib.hid hn2; clear hn2)
          go_roundw
          case rel =>
            refine ⟨k + 1, by omega, by go_num, ?_, (HW.out.trans HX.out)⟩
            rw [HP1.out, low_step _ _ _ (by omega)]
          case measure => simp [intOf]; omega
        · obtain rfl : k = m := by omega
          go_wp2
          go_ret2
          exact took_of R.out.1 (R.out.2.1.trans rfl) (R.out.2.2.1.trans rfl) R4.out HW.out

end Go.Proofs.Ytbgechfmbogbpaa
