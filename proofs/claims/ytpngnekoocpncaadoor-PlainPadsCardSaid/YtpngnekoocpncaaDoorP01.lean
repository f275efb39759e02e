/-
  Lemmas and walks, joined: PlnPd.
-/
import Derived.Test.YtpngnekoocpncaaDoorM20
import Derived.IntWalk
namespace Go.Proofs.YtpngnekoocpncaaDoor
open Go.RowKit Oct Fix Lex

theorem padL_size (n k : Int) : (padL n k).length ≤ 20 := by
  unfold padL
  split
  · simp
  · split
    · simp
    · rw [List.length_append, List.length_replicate]; omega
theorem pad_c (n k : Int) (P : ByteArray) (w : World) (hn : n ≤ 9223372036854775807) (ht : Tab10 w) (h : P.data.toList = padL n k) :
    Calls Tryd.prog 21 #[.int .i64 n, .int .i64 k] w fun e w' => e = .returned (.string P) ∧ Below w.heap.size w w' :=
  (plnPad_any n k w hn ht).mono fun e w' ⟨h1, h2⟩ => ⟨h1.trans (ret_string h.symm), h2⟩
theorem int_c (m : Nat) (Q : ByteArray) (w : World) (hm : m ≤ 2147483647) (ht : Tab10 w) (h : Q.data.toList = Lib.decDigits m) :
    Calls Tryd.prog 9 #[.int .i64 (m : Int)] w fun e w' => e = .returned (.tuple #[.string Q, .int .i64 0]) ∧ Below w.heap.size w w' := by
  have h1 := plnInt_any m w ht
  obtain ⟨e1, e2⟩ := pInt_in (n := (m : Int)) (by omega)
  rw [e2] at h1
  refine h1.mono fun e w' ⟨h1, h2⟩ => ⟨h1.trans (ret_sn ?_ rfl), h2⟩
  rw [bOf_list, e1, itoa_sign, decide_eq_false (by omega), h]
  rfl

set_option maxRecDepth 100000 in
set_option maxHeartbeats 4000000 in
theorem pads_out (n k : Int) (w : World) (hw : PLive w) (hn : n ≤ 9223372036854775807) (h : n < 0 ∨ 2147483647 < n ∨ k < 1 ∨ 19 < k) :
    Calls Tryd.prog 5 #[.int .i64 n, .int .i64 k] w fun e w' => e = .returned (.bool true) ∧ Below w.heap.size w w' := by
  have HL0 := Lib.hid hw
  obtain ⟨P, hP⟩ := mk_bytes (padL n k)
  have hPs : P.size ≤ 20 := by rw [← size_len, hP]; exact padL_size n k
  have HP := Lib.hid (fun W ht => pad_c n k P W hn ht hP)
  clear hw hP
  rcases (by omega : n < 0 ∨ (¬ n < 0 ∧ 2147483647 < n) ∨ (¬ n < 0 ∧ ¬ 2147483647 < n ∧ k < 1) ∨ (¬ n < 0 ∧ ¬ 2147483647 < n ∧ ¬ k < 1 ∧ 19 < k)) with h | ⟨h1, h⟩ | ⟨h1, h2, h⟩ | ⟨h1, h2, h3, h⟩
  all_goals
    go_enter Tryd.func5, Tryd.ntmps5
    go_wp2_with fail
    refine (plnLives_any _ HL0.out.2).mono ?_
    rintro e w1 ⟨rfl, hb⟩
    have HB1 := Lib.hid hb
    have HL1 := Lib.hid (HL0.out.below HB1.out (Nat.le_refl _))
    clear hb
    go_wp2_with fail
    refine (HP.out _ HL1.out.2).mono ?_
    rintro e w2 ⟨rfl, hb⟩
    have HB2 := Lib.hid (HB1.out.trans (hb.mono HB1.out.size))
    clear hb
    go_wp2_with fail
    go_ret
    exact ⟨by simp [hPs]; try omega, HB2.out⟩

set_option maxRecDepth 100000 in
set_option maxHeartbeats 8000000 in
theorem pads_in (m k : Nat) (w : World) (hw : PLive w) (hm : m ≤ 2147483647) (hk1 : 1 ≤ k) (hk2 : k ≤ 19) :
    Calls Tryd.prog 5 #[.int .i64 (m : Int), .int .i64 (k : Int)] w fun e w' => e = .returned (.bool true) ∧ Below w.heap.size w w' := by
  have HL0 := Lib.hid hw
  obtain ⟨Q, hQ⟩ := mk_bytes (Lib.decDigits m)
  have hQs : Q.size ≤ 20 := by rw [← size_len, hQ]; exact dec_bound m (by omega)
  have hQl : (Lib.decDigits m).length = Q.size := by rw [← hQ, size_len]
  have HI := Lib.hid (fun W ht => int_c m Q W hm ht hQ)
  have h1 : ¬ (m : Int) < 0 := by omega
  have h2 : ¬ 2147483647 < (m : Int) := by omega
  have h3 : ¬ (k : Int) < 1 := by omega
  have h4 : ¬ 19 < (k : Int) := by omega
  clear hw
  by_cases hq : (k : Int) < (Q.size : Int)
  · have HP := Lib.hid (fun W ht => pad_c m k ⟨#[]⟩ W (by omega) ht (by rw [pad_short (by omega) (by rw [hQl]; exact hq)]))
    clear hQ hQl
    go_enter Tryd.func5, Tryd.ntmps5
    go_wp2_with fail
    refine (plnLives_any _ HL0.out.2).mono ?_
    rintro e w1 ⟨rfl, hb⟩
    have HB1 := Lib.hid hb
    have HL1 := Lib.hid (HL0.out.below HB1.out (Nat.le_refl _))
    clear hb
    go_wp2_with fail
    refine (HP.out _ HL1.out.2).mono ?_
    rintro e w2 ⟨rfl, hb⟩
    have HB2 := Lib.hid (HB1.out.trans (hb.mono HB1.out.size))
    have HL2 := Lib.hid (HL0.out.below HB2.out (Nat.le_refl _))
    clear hb
    go_wp2_with fail
    refine (HI.out _ HL2.out.2).mono ?_
    rintro e w3 ⟨rfl, hb⟩
    have HB3 := Lib.hid (HB2.out.trans (hb.mono HB2.out.size))
    clear hb
    go_wp2_with fail
    go_ret
    exact ⟨rfl, HB3.out⟩
  · obtain ⟨c, hc⟩ : ∃ c : Nat, (k : Int) - (Q.size : Int) = (c : Int) := ⟨k - Q.size, by omega⟩
    have hpad := pad_good (m := m) (k := k) (by omega) (by rw [hQl]; exact hq)
    have hpad2 := pad_good (m := m) (k := k + 1) (by omega) (by rw [hQl]; omega)
    rw [hQl, show k - Q.size = c by omega] at hpad
    rw [hQl, show k + 1 - Q.size = c + 1 by omega] at hpad2
    obtain ⟨P, hP⟩ := mk_bytes (padL m k)
    have hPd : P.data.toList = List.replicate c 48 ++ Q.data.toList := by rw [hP, hpad, hQ]
    have hPs : P.size = k := by rw [← size_len, hPd, List.length_append, List.length_replicate, size_len]; omega
    have hP2 : (⟨#[48]⟩ ++ P : ByteArray).data.toList = padL m ((k + 1 : Nat) : Int) := by rw [hpad2, ByteArray.data_append, Array.toList_append, hPd, hQ, List.replicate_succ]; rfl
    have hx : P.extract c P.size = Q := by
      refine bytes_eq ?_
      rw [Lib.extract_data, hPd]
      rw [List.drop_left' List.length_replicate, List.take_of_length_le]
      rw [size_len]
      omega
    have hat : ∀ i (hi : i < P.size), i < c → P[i] = 48 := fun i hi hic => by
      have h0 : P.data.toList[i]? = some 48 := by rw [hPd, List.getElem?_append_left (by rw [List.length_replicate]; exact hic), List.getElem?_replicate, if_pos hic]
      have h1 : P.data.toList[i]'(by rw [size_len]; exact hi) = 48 := by
        rw [List.getElem?_eq_getElem (by rw [size_len]; exact hi)] at h0
        exact Option.some.inj h0
      exact h1
    have HP := Lib.hid (fun W ht => pad_c m k P W (by omega) ht hP)
    have HP2 := Lib.hid (fun W ht => pad_c m ((k + 1 : Nat) : Int) (⟨#[48]⟩ ++ P) W (by omega) ht hP2)
    have HAT := Lib.hid hat
    have HX := Lib.hid hx
    have hcs : (c : Int) ≤ (P.size : Int) := by omega
    have hcs2 : c ≤ P.size := by omega
    have hps : (P.size : Int) = (k : Int) := by omega
    have HPS := Lib.hid hps
    have hP19 : P.size ≤ 19 := by omega
    clear hQ hQl hpad hpad2 hP hPd hPs hP2 hx hat hps
    go_enter Tryd.func5, Tryd.ntmps5
    go_wp2_with fail
    refine (plnLives_any _ HL0.out.2).mono ?_
    rintro e w1 ⟨rfl, hb⟩
    have HB1 := Lib.hid hb
    have HL1 := Lib.hid (HL0.out.below HB1.out (Nat.le_refl _))
    clear hb
    go_wp2_with fail
    refine (HP.out _ HL1.out.2).mono ?_
    rintro e w2 ⟨rfl, hb⟩
    have HB2 := Lib.hid (HB1.out.trans (hb.mono HB1.out.size))
    have HL2 := Lib.hid (HL0.out.below HB2.out (Nat.le_refl _))
    clear hb
    go_wp2_with fail
    refine (HI.out _ HL2.out.2).mono ?_
    rintro e w3 ⟨rfl, hb⟩
    have HB3 := Lib.hid (HB2.out.trans (hb.mono HB2.out.size))
    have HL3 := Lib.hid (HL0.out.below HB3.out (Nat.le_refl _))
    clear hb
    go_wp2_with fail
    go_loop [8] (fun i => ∃ j : Nat, j ≤ c ∧ i = .int .i64 (j : Int)) (fun i => c - (intOf i).toNat)
    case atStart => exact ⟨0, by omega, rfl⟩
    case round =>
      obtain ⟨j, hj, rfl⟩ := hrel
      by_cases hlt : j < c
      · have j0 : (0 : Int) ≤ (j : Int) := by omega
        have j1 : (j : Int) < (c : Int) := by omega
        have j2 : (j : Int) < (P.size : Int) := by omega
        have hjP : j < P.size := by omega
        have hv := HAT.out j hjP hlt
        go_wp2_with fail
        go_round
        case rel => exact ⟨j + 1, by omega, by go_num⟩
        case measure => simp [intOf]; omega
      · have j1 : ¬ (j : Int) < (c : Int) := by omega
        have hps : ((P.size : Int) == (k : Int)) = true := by rw [HPS.out]; exact beq_self_eq_true _
        have c0 : (0 : Int) ≤ (c : Int) := by omega
        have hx := HX.out
        have w5 : IntKind.i64.wrap ((k : Int) + 1) = ((k + 1 : Nat) : Int) := by rw [IntWalk.i64_in _ (by omega)]; push_cast; rfl
        go_wp2_with fail
        refine (HP2.out _ HL3.out.2).mono ?_
        rintro e w4 ⟨rfl, hb⟩
        have HB4 := Lib.hid (HB3.out.trans (hb.mono HB3.out.size))
        clear hb w5
        go_wp2_with fail
        go_ret
        exact ⟨rfl, HB4.out⟩

theorem padsWalk (n k : Int) (w : World) (hw : PLive w) (wn : (Lit.int .i64 n).wf = true) :
    Calls Tryd.prog 5 #[.int .i64 n, .int .i64 k] w fun e w' => e = .returned (.bool true) ∧ Below w.heap.size w w' := by
  have hn : n ≤ 9223372036854775807 := by
    simp [Lit.wf, IntKind.min, IntKind.max, IntKind.signed, IntKind.bits] at wn
    omega
  by_cases h : n < 0 ∨ 2147483647 < n ∨ k < 1 ∨ 19 < k
  · exact pads_out n k w hw hn h
  · obtain ⟨m, rfl⟩ : ∃ m : Nat, n = (m : Int) := ⟨n.toNat, by omega⟩
    obtain ⟨j, rfl⟩ : ∃ j : Nat, k = (j : Int) := ⟨k.toNat, by omega⟩
    exact pads_in m j w hw (by omega) (by omega) (by omega)
end Go.Proofs.YtpngnekoocpncaaDoor
