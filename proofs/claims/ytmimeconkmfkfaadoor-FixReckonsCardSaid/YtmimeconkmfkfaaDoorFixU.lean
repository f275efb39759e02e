/-
  count: the number with the given digits; it gives up as soon as it is out of range.
-/
import Derived.Test.YtmimeconkmfkfaaDoorFixT
namespace Go.Proofs.YtmimeconkmfkfaaDoor
open Go.RowKit Fix

/-- The number that the digits of l make behind n. -/
def valL (n : Int) : List UInt8 → Int
  | [] => n
  | b :: l => valL (10 * n + ((b.toNat : Int) - 48)) l
theorem valL_append (n : Int) (l m : List UInt8) : valL n (l ++ m) = valL (valL n l) m := by
  induction l generalizing n with
  | nil => rfl
  | cons b l ih => exact ih _
theorem valL_more (l : List UInt8) (k : Nat) (h : k < l.length) : valL 0 (l.take (k + 1)) = 10 * valL 0 (l.take k) + ((l[k].toNat : Int) - 48) := by
  rw [List.take_succ_eq_append_getElem h, valL_append]
  rfl
theorem valL_ge (n : Int) (l : List UInt8) (hn : 0 ≤ n) (h : l.all isDig = true) : n ≤ valL n l := by
  induction l generalizing n with
  | nil => exact Int.le_refl _
  | cons b l ih =>
    rw [List.all_cons, Bool.and_eq_true] at h
    have hb := isDig_yes h.1
    have := ih (10 * n + ((b.toNat : Int) - 48)) (by omega) h.2
    show n ≤ valL (10 * n + ((b.toNat : Int) - 48)) l
    omega
/-- A prefix makes no greater number than the whole. -/
theorem valL_take (l : List UInt8) (k : Nat) (h : l.all isDig = true) : 0 ≤ valL 0 (l.take k) ∧ valL 0 (l.take k) ≤ valL 0 l := by
  have ht : (l.take k).all isDig = true ∧ (l.drop k).all isDig = true := by
    rw [← Bool.and_eq_true, ← List.all_append, List.take_append_drop]; exact h
  have h0 := valL_ge 0 (l.take k) (by decide) ht.1
  refine ⟨h0, ?_⟩
  have := valL_ge (valL 0 (l.take k)) (l.drop k) h0 ht.2
  rwa [← valL_append, List.take_append_drop] at this

def countEnd (l : List UInt8) : Ending := if valL 0 l ≤ 1073741824 then .returned (.int .i64 (valL 0 l)) else gaveUp 2

set_option maxHeartbeats 1600000 in
theorem count_any (s : ByteArray) (w : World) (hs : s.size ≤ 4000000000) (hd : s.data.toList.all isDig = true) :
    Calls Tryd.prog 32 #[.string s] w fun e w' => e = countEnd s.data.toList ∧ w' = w := by
  have HD := Lib.hid hd
  clear hd
  have hlen : s.data.toList.length = s.size := by simp
  go_enter Tryd.func32, Tryd.ntmps32
  go_wp2
  go_loopw [3, 7] (fun v i wr => ∃ (k : Nat) (n : Int), k ≤ s.size ∧ v = .int .i64 n ∧ i = .int .i64 k ∧ Hid (n = valL 0 (s.data.toList.take k)) ∧ 0 ≤ n ∧ n ≤ 1073741824 ∧ wr = w) (fun _ i _ => s.size - (intOf i).toNat)
  case atStart => exact ⟨0, 0, by omega, rfl, rfl, Lib.hid rfl, by decide, by decide, rfl⟩
  case round =>
    obtain ⟨k, n, hk, rfl, rfl, hinv, n0, n1, rfl⟩ := hrel
    by_cases hlt : k < s.size
    · have hm : isDig s[k] = true := (List.all_eq_true.1 HD.out) s[k] (by rw [Array.mem_toList_iff]; exact Array.getElem_mem hlt)
      obtain ⟨d1, d2⟩ := isDig_yes hm
      have hnext := valL_more s.data.toList k (by rw [hlen]; exact hlt)
      rw [← hinv.out] at hnext
      have hnext' : valL 0 (s.data.toList.take (k + 1)) = 10 * n + ((s[k].toNat : Int) - 48) := hnext
      have HNX := Lib.hid hnext'
      have htop := (valL_take s.data.toList (k + 1) HD.out).2
      have hw1 : IntKind.i64.wrap (10 * n) = 10 * n := IntWalk.i64_in _ (by omega)
      have hw2 : IntKind.u8.wrap ((s[k].toNat : Int) - 48) = (s[k].toNat : Int) - 48 := by
        rw [show (s[k].toNat : Int) - 48 = ((s[k].toNat - 48 : Nat) : Int) by omega]
        exact IntWalk.u8_in _ (by omega)
      have hw3 : IntKind.i64.wrap ((s[k].toNat : Int) - 48) = (s[k].toNat : Int) - 48 := IntWalk.i64_in _ (by omega)
      have hw4 : IntKind.i64.wrap (10 * n + ((s[k].toNat : Int) - 48)) = 10 * n + ((s[k].toNat : Int) - 48) := IntWalk.i64_in _ (by omega)
      by_cases hc : 10 * n + ((s[k].toNat : Int) - 48) ≤ 1073741824
      · have HC := Lib.hid (And.intro hc (And.intro d1 d2))
        clear hc d1 d2 hnext hnext' htop hm
        go_wp2_with fail
        refine (sized_ok _ _ (by have := HC.out; omega) HC.out.1).mono ?_
        rintro e w' ⟨rfl, rfl⟩
        go_wp2
        go_roundw
        case rel =>
          exact ⟨k + 1, _, by omega, rfl, by go_num, Lib.hid HNX.out.symm, by have := HC.out; omega, HC.out.1, trivial⟩
        case measure => simp [intOf]; omega
      · have HC := Lib.hid (show 10 * n + ((s[k].toNat : Int) - 48) < -1073741824 ∨ 1073741824 < 10 * n + ((s[k].toNat : Int) - 48) from Or.inr (by omega))
        have he : countEnd s.data.toList = gaveUp 2 := by unfold countEnd; rw [if_neg (by omega)]
        have HE := Lib.hid he
        clear hc d1 d2 hnext hnext' htop hm he
        go_wp2_with fail
        refine (sized_no _ _ HC.out).mono ?_
        rintro e w' ⟨rfl, rfl⟩
        exact ⟨rfl, HE.out.symm, rfl⟩
    · have hkk : k = s.size := by omega
      have hi := hinv.out
      rw [List.take_of_length_le (by omega)] at hi
      have he : countEnd s.data.toList = .returned (.int .i64 n) := by unfold countEnd; rw [← hi, if_pos n1]
      have HE := Lib.hid he
      subst hkk
      clear hinv hi he
      go_wp2
      go_ret
      exact ⟨HE.out.symm, rfl⟩
end Go.Proofs.YtmimeconkmfkfaaDoor
