/-
  The reference's Read: its walks.
-/
import Derived.Test.YtmimeconkmfkfaaDoorFixRe
namespace Go.Proofs.YtmimeconkmfkfaaDoor
open Go.RowKit Fix

/-- What the walks of Read are handed: the parts of a well-formed number. -/
structure Parts (s A B H R : ByteArray) (m : Bool) (v : Int) : Prop where
  good : goodR s.data.toList = true
  head : H.data.toList = headL s.data.toList
  sum : H = A ++ (B ++ ⟨#[48, 48, 48, 48]⟩).extract 0 4
  rest : R.data.toList = (aftL s.data.toList).drop 4
  minus : minusL s.data.toList = m
  val : valM 0 (headL s.data.toList) = v
  form : ∀ w : World, Calls Tryd.prog 35 #[.string s] w fun e w' => e = .returned (.tuple #[.string A, .string B, .bool m, .bool true]) ∧ w = w'
  a40 : A.size ≤ 40
  b40 : B.size ≤ 40
  h60 : H.size ≤ 60
def ReadEnd (l : List UInt8) (w : World) (e : Ending) (w' : World) : Prop := e = .returned (.tuple #[.int .i64 (readN l), .int .i64 (readE l)]) ∧ w = w'
theorem readEnd_yes {l : List UInt8} {w : World} {x : Int} (hg : goodR l = true) (hx : refX l = x) (hr : inRange x = true) : ReadEnd l w (.returned (.tuple #[.int .i64 x, .int .i64 0])) w := by
  obtain ⟨h1, h2⟩ := ref_range hg
  have hb : readBig l = false := by
    have h3 : (!readBig l) = true := by rw [← h1, hx]; exact hr
    simpa using h3
  refine ⟨?_, rfl⟩
  unfold readN readE
  rw [if_pos hg, if_pos hg, hb, ← hx, h2 hb]
  rfl
theorem readEnd_no {l : List UInt8} {w : World} {x : Int} (hg : goodR l = true) (hx : refX l = x) (hr : ¬ inRange x = true) : ReadEnd l w (.returned (.tuple #[.int .i64 0, .int .i64 2])) w := by
  obtain ⟨h1, h2⟩ := ref_range hg
  have hb : readBig l = true := by
    have h3 : (!readBig l) = false := by rw [← h1, hx]; exact Bool.eq_false_iff.2 hr
    simpa using h3
  refine ⟨?_, rfl⟩
  unfold readN readE
  rw [if_pos hg, if_pos hg, hb]
  rfl
theorem refX_of {l : List UInt8} {m u : Bool} {v x : Int} (hm : minusL l = m) (hu : upL l = u) (hv : valM 0 (headL l) = v) (hx : (if m then -(if u then v + 1 else v) else (if u then v + 1 else v)) = x) : refX l = x := by
  unfold refX
  rw [hm, hu, hv, hx]
theorem up_of {s A B H R : ByteArray} {m : Bool} {v : Int} (P : Parts s A B H R m v) : upL s.data.toList = moreR R.data.toList m := by
  rw [up_eq P.good, P.minus, ← P.rest]

set_option maxHeartbeats 3200000 in
theorem readR_shortp (s A B H R : ByteArray) (v : Int) (w : World) (P : Hid (Parts s A B H R false v)) (h0 : R.data.toList = []) (hR : B.size ≤ 4) :
    Calls Tryd.prog 10 #[.string s] w (ReadEnd s.data.toList w) := by
  have a40 := P.out.a40
  have b40 := P.out.b40
  have h60 := P.out.h60
  have hR' : ¬ (4 : Int) < (B.size : Int) := by omega
  have HU : Hid (moreR R.data.toList false = false) := Lib.hid (by rw [h0]; rfl)
  clear h0
  go_enter Tryd.func10, Tryd.ntmps10
  go_wp2_with fail
  refine (P.out.form _).mono ?_
  rintro e w' ⟨rfl, rfl⟩
  go_wp2_with fail
  rw [← P.out.sum]
  go_loop [8, 10] (fun a i => ∃ (k : Nat) (n : Int), k ≤ H.size ∧ a = .int .i64 n ∧ i = .int .i64 k ∧ 0 ≤ n ∧ n ≤ 1099511627776 ∧ Hid (n = valM 0 (H.data.toList.take k))) (fun _ i => H.size - (intOf i).toNat)
  case atStart => exact ⟨0, 0, by omega, rfl, rfl, by omega, by omega, Lib.hid rfl⟩
  case round =>
    obtain ⟨k, n, hk, rfl, rfl, n0, n1, hn⟩ := hrel
    by_cases hlt : k < H.size
    · have hm : isDig H[k] = true := (List.all_eq_true.1 (by rw [P.out.head]; exact head_dig P.out.good : H.data.toList.all isDig = true)) H[k] (by rw [Array.mem_toList_iff]; exact Array.getElem_mem hlt)
      obtain ⟨d1, d2⟩ := isDig_yes hm
      have HNX := Lib.hid (valM_next H k hlt n hn.out)
      have hw2 : IntKind.u8.wrap ((H[k].toNat : Int) - 48) = (H[k].toNat : Int) - 48 := by
        rw [show (H[k].toNat : Int) - 48 = ((H[k].toNat - 48 : Nat) : Int) by omega]
        exact IntWalk.u8_in _ (by omega)
      have hw3 : IntKind.i64.wrap ((H[k].toNat : Int) - 48) = (H[k].toNat : Int) - 48 := IntWalk.i64_in _ (by omega)
      clear hm
      go_wp2
      go_round
      case rel => exact ⟨k + 1, _, by omega, rfl, by go_num, by omega, by omega, Lib.hid HNX.out⟩
      case measure => simp [intOf]; omega
    · have hnv : n = v := by rw [hn.out, List.take_of_length_le (by rw [size_list]; omega), P.out.head]; exact P.out.val
      subst hnv
      clear hn
      have HX := Lib.hid (refX_of (x := n) P.out.minus ((up_of P.out).trans HU.out) P.out.val rfl)
      by_cases hr : inRange n = true
      · have HR := Lib.hid hr
        clear hr
        go_wp2_with fail
        refine (withinR_yes _ _ HR.out).mono ?_
        rintro e w' ⟨rfl, rfl⟩
        go_wp2_with fail
        go_ret2
        exact readEnd_yes P.out.good HX.out HR.out
      · have HR := Lib.hid hr
        clear hr
        go_wp2_with fail
        refine (withinR_no _ _ HR.out).mono ?_
        rintro e w' ⟨rfl, rfl⟩
        go_wp2_with fail
        go_ret2
        exact readEnd_no P.out.good HX.out HR.out

set_option maxHeartbeats 3200000 in
theorem readR_shortm (s A B H R : ByteArray) (v : Int) (w : World) (P : Hid (Parts s A B H R true v)) (h0 : R.data.toList = []) (hR : B.size ≤ 4) :
    Calls Tryd.prog 10 #[.string s] w (ReadEnd s.data.toList w) := by
  have a40 := P.out.a40
  have b40 := P.out.b40
  have h60 := P.out.h60
  have hR' : ¬ (4 : Int) < (B.size : Int) := by omega
  have HU : Hid (moreR R.data.toList true = false) := Lib.hid (by rw [h0]; rfl)
  clear h0
  go_enter Tryd.func10, Tryd.ntmps10
  go_wp2_with fail
  refine (P.out.form _).mono ?_
  rintro e w' ⟨rfl, rfl⟩
  go_wp2_with fail
  rw [← P.out.sum]
  go_loop [8, 10] (fun a i => ∃ (k : Nat) (n : Int), k ≤ H.size ∧ a = .int .i64 n ∧ i = .int .i64 k ∧ 0 ≤ n ∧ n ≤ 1099511627776 ∧ Hid (n = valM 0 (H.data.toList.take k))) (fun _ i => H.size - (intOf i).toNat)
  case atStart => exact ⟨0, 0, by omega, rfl, rfl, by omega, by omega, Lib.hid rfl⟩
  case round =>
    obtain ⟨k, n, hk, rfl, rfl, n0, n1, hn⟩ := hrel
    by_cases hlt : k < H.size
    · have hm : isDig H[k] = true := (List.all_eq_true.1 (by rw [P.out.head]; exact head_dig P.out.good : H.data.toList.all isDig = true)) H[k] (by rw [Array.mem_toList_iff]; exact Array.getElem_mem hlt)
      obtain ⟨d1, d2⟩ := isDig_yes hm
      have HNX := Lib.hid (valM_next H k hlt n hn.out)
      have hw2 : IntKind.u8.wrap ((H[k].toNat : Int) - 48) = (H[k].toNat : Int) - 48 := by
        rw [show (H[k].toNat : Int) - 48 = ((H[k].toNat - 48 : Nat) : Int) by omega]
        exact IntWalk.u8_in _ (by omega)
      have hw3 : IntKind.i64.wrap ((H[k].toNat : Int) - 48) = (H[k].toNat : Int) - 48 := IntWalk.i64_in _ (by omega)
      clear hm
      go_wp2
      go_round
      case rel => exact ⟨k + 1, _, by omega, rfl, by go_num, by omega, by omega, Lib.hid HNX.out⟩
      case measure => simp [intOf]; omega
    · have hnv : n = v := by rw [hn.out, List.take_of_length_le (by rw [size_list]; omega), P.out.head]; exact P.out.val
      subst hnv
      clear hn
      have HX := Lib.hid (refX_of (x := (-n)) P.out.minus ((up_of P.out).trans HU.out) P.out.val rfl)
      by_cases hr : inRange (-n) = true
      · have HR := Lib.hid hr
        clear hr
        go_wp2_with fail
        refine (withinR_yes _ _ HR.out).mono ?_
        rintro e w' ⟨rfl, rfl⟩
        go_wp2_with fail
        go_ret2
        exact readEnd_yes P.out.good HX.out HR.out
      · have HR := Lib.hid hr
        clear hr
        go_wp2_with fail
        refine (withinR_no _ _ HR.out).mono ?_
        rintro e w' ⟨rfl, rfl⟩
        go_wp2_with fail
        go_ret2
        exact readEnd_no P.out.good HX.out HR.out
end Go.Proofs.YtmimeconkmfkfaaDoor
