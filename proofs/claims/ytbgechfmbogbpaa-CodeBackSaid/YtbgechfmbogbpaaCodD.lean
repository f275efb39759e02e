/-
  code's Check: slices.ContainsFunc over a row of numbers, and what it answers.
-/
import Derived.Test.YtbgechfmbogbpaaCodB
namespace Go.Proofs.Ytbgechfmbogbpaa
open Go.RowKit Cod

def okN (m : Int) (x : Int) : Bool := decide (0 ≤ x) && decide (x ≤ m)
theorem rangeOk_eq (l : List Int) : rangeOk l = l.all (okN 15) := rfl
theorem all_no' {l : List Int} {k : Nat} {p : Int → Bool} (h : k < l.length) (h1 : p l[k] = false) : l.all p = false := by
  rw [List.all_eq_false]
  exact ⟨l[k], List.getElem_mem h, by rw [h1]; decide⟩

set_option maxRecDepth 100000 in
theorem Ckfn_any (n : Int) (w : World) : Calls Try.prog 33 #[.int .i64 n] w fun e w' => e = .returned (.bool (!okN 15 n)) ∧ w = w' := by
  have H := Lib.hid (upTo_any n 15)
  unfold okN
  obtain ⟨b, hb⟩ : ∃ b, (decide (0 ≤ n) && decide (n ≤ 15)) = b := ⟨_, rfl⟩
  rw [hb] at H ⊢
  clear hb
  go_enter Try.func33, Try.ntmps33
  go_wp2_with fail
  refine (H.out _).mono ?_
  rintro e w1 ⟨rfl, rfl⟩
  go_wp2_with fail
  go_ret
  exact ⟨rfl, rfl⟩

set_option maxRecDepth 100000 in
set_option maxHeartbeats 4000000 in
theorem Ckindex_any (A : Option Addr) (cap : Nat) (l : List Int) (w : World) (h : IAt w A l) (hl : l.length ≤ 1000000000) :
    Calls Try.prog 47 #[.slice A l.length cap, .func (.func 33) #[] #[]] w fun e w' => ∃ r : Int, e = .returned (.int .i64 r) ∧ Hid (decide (0 ≤ r) = !l.all (okN 15)) ∧ w = w' := by
  obtain ⟨n, hn⟩ : ∃ n, l.length = n := ⟨_, rfl⟩
  have HN := Lib.hid hn
  have H0 := Lib.hid h
  have hnb : (n : Int) ≤ 1000000000 := by omega
  rw [hn]
  clear h hl hn
  go_enter Try.func47, Try.ntmps47
  go_wp2_with fail
  go_loopw [8] (fun i wr => ∃ k : Nat, k ≤ n ∧ i = .int .i64 (k : Int) ∧ wr = w ∧ Hid (∀ j (h : j < l.length), j < k → okN 15 l[j] = true)) (fun i _ => n - (intOf i).toNat)
  case atStart => exact ⟨0, by omega, rfl, rfl, Lib.hid (fun j _ hj => absurd hj (by omega))⟩
  case round =>
    obtain ⟨k, hk, rfl, rfl, HG⟩ := hrel
    by_cases hlt : k < n
    · have hkl : k < l.length := by rw [HN.out]; exact hlt
      obtain ⟨b, off, rfl, hbs, c0⟩ := H0.out k hkl
      obtain ⟨x, hx⟩ : ∃ x, l[k] = x := ⟨_, rfl⟩
      have HE := Lib.hid hx
      rw [hx] at c0
      have HT := Lib.hid (fun W : World => Ckfn_any x W)
      have hik : (k : Int) < (n : Int) := by omega
      clear hx hbs
      by_cases hb : okN 15 x = true
      · rw [hb] at HT
        have HG2 := Lib.hid (show ∀ j (h : j < l.length), j < k + 1 → okN 15 l[j] = true from fun j h hj => by
          by_cases e : j = k
          · subst e; rw [HE.out]; exact hb
          · exact HG.out j h (by omega))
        clear hb
        go_wp2_with fail
        refine (HT.out _).mono ?_
        rintro e w1 ⟨rfl, rfl⟩
        go_wp2_with fail
        go_roundw
        case rel => exact ⟨k + 1, by omega, by go_num, trivial, HG2⟩
        case measure => simp [intOf]; omega
      · have hb' : okN 15 x = false := by simpa using hb
        rw [hb'] at HT
        have HBd := Lib.hid (show decide ((0 : Int) ≤ (k : Int)) = !l.all (okN 15) by
          rw [decide_eq_true (by omega)]
          have : l.all (okN 15) = false := all_no' hkl (by rw [HE.out]; exact hb')
          rw [this]
          rfl)
        clear hb hb'
        go_wp2_with fail
        refine (HT.out _).mono ?_
        rintro e w1 ⟨rfl, rfl⟩
        go_wp2_with fail
        go_ret
        exact ⟨_, rfl, HBd, rfl⟩
    · obtain rfl : k = n := by omega
      have HBd := Lib.hid (show decide ((0 : Int) ≤ -1) = !l.all (okN 15) by
        have : l.all (okN 15) = true := by
          rw [List.all_eq_true]
          intro x hx
          obtain ⟨j, hj, rfl⟩ := List.getElem_of_mem hx
          exact HG.out j hj (by rw [← HN.out]; exact hj)
        rw [this]
        rfl)
      go_wp2_with fail
      go_ret
      exact ⟨_, rfl, HBd, rfl⟩

set_option maxRecDepth 100000 in
set_option maxHeartbeats 4000000 in
theorem Ckcontains_any (A : Option Addr) (cap : Nat) (l : List Int) (w : World) (h : IAt w A l) (hl : l.length ≤ 1000000000) :
    Calls Try.prog 32 #[.slice A l.length cap, .func (.func 33) #[] #[]] w fun e w' => e = .returned (.bool (!l.all (okN 15))) ∧ w = w' := by
  have HI := Lib.hid (Ckindex_any A cap l w h hl)
  obtain ⟨n, hn⟩ : ∃ n, l.length = n := ⟨_, rfl⟩
  rw [hn] at HI ⊢
  obtain ⟨b, hb⟩ : ∃ b, (!l.all (okN 15)) = b := ⟨_, rfl⟩
  rw [hb] at HI ⊢
  clear h hl hn hb
  go_enter Try.func32, Try.ntmps32
  go_wp2_with fail
  refine HI.out.mono ?_
  rintro e w' ⟨r, rfl, HR, rfl⟩
  have hr := HR.out
  by_cases h0 : 0 ≤ r
  · rw [decide_eq_true h0] at hr
    subst hr
    go_wp2_with fail
    go_ret
    exact ⟨rfl, rfl⟩
  · rw [decide_eq_false h0] at hr
    subst hr
    have H0 := Lib.hid h0
    go_wp2_with fail
    go_ret
    exact ⟨ret_bool (decide_eq_false (by have := H0.out; omega)), rfl⟩

set_option maxRecDepth 100000 in
theorem Lnfn_any (n : Int) (w : World) : Calls Try.prog 38 #[.int .i64 n] w fun e w' => e = .returned (.bool (!okN 2147483647 n)) ∧ w = w' := by
  have H := Lib.hid (upTo_any n 2147483647)
  unfold okN
  obtain ⟨b, hb⟩ : ∃ b, (decide (0 ≤ n) && decide (n ≤ 2147483647)) = b := ⟨_, rfl⟩
  rw [hb] at H ⊢
  clear hb
  go_enter Try.func38, Try.ntmps38
  go_wp2_with fail
  refine (H.out _).mono ?_
  rintro e w1 ⟨rfl, rfl⟩
  go_wp2_with fail
  go_ret
  exact ⟨rfl, rfl⟩

set_option maxRecDepth 100000 in
set_option maxHeartbeats 4000000 in
theorem Lnindex_any (A : Option Addr) (cap : Nat) (l : List Int) (w : World) (h : IAt w A l) (hl : l.length ≤ 1000000000) :
    Calls Try.prog 47 #[.slice A l.length cap, .func (.func 38) #[] #[]] w fun e w' => ∃ r : Int, e = .returned (.int .i64 r) ∧ Hid (decide (0 ≤ r) = !l.all (okN 2147483647)) ∧ w = w' := by
  obtain ⟨n, hn⟩ : ∃ n, l.length = n := ⟨_, rfl⟩
  have HN := Lib.hid hn
  have H0 := Lib.hid h
  have hnb : (n : Int) ≤ 1000000000 := by omega
  rw [hn]
  clear h hl hn
  go_enter Try.func47, Try.ntmps47
  go_wp2_with fail
  go_loopw [8] (fun i wr => ∃ k : Nat, k ≤ n ∧ i = .int .i64 (k : Int) ∧ wr = w ∧ Hid (∀ j (h : j < l.length), j < k → okN 2147483647 l[j] = true)) (fun i _ => n - (intOf i).toNat)
  case atStart => exact ⟨0, by omega, rfl, rfl, Lib.hid (fun j _ hj => absurd hj (by omega))⟩
  case round =>
    obtain ⟨k, hk, rfl, rfl, HG⟩ := hrel
    by_cases hlt : k < n
    · have hkl : k < l.length := by rw [HN.out]; exact hlt
      obtain ⟨b, off, rfl, hbs, c0⟩ := H0.out k hkl
      obtain ⟨x, hx⟩ : ∃ x, l[k] = x := ⟨_, rfl⟩
      have HE := Lib.hid hx
      rw [hx] at c0
      have HT := Lib.hid (fun W : World => Lnfn_any x W)
      have hik : (k : Int) < (n : Int) := by omega
      clear hx hbs
      by_cases hb : okN 2147483647 x = true
      · rw [hb] at HT
        have HG2 := Lib.hid (show ∀ j (h : j < l.length), j < k + 1 → okN 2147483647 l[j] = true from fun j h hj => by
          by_cases e : j = k
          · subst e; rw [HE.out]; exact hb
          · exact HG.out j h (by omega))
        clear hb
        go_wp2_with fail
        refine (HT.out _).mono ?_
        rintro e w1 ⟨rfl, rfl⟩
        go_wp2_with fail
        go_roundw
        case rel => exact ⟨k + 1, by omega, by go_num, trivial, HG2⟩
        case measure => simp [intOf]; omega
      · have hb' : okN 2147483647 x = false := by simpa using hb
        rw [hb'] at HT
        have HBd := Lib.hid (show decide ((0 : Int) ≤ (k : Int)) = !l.all (okN 2147483647) by
          rw [decide_eq_true (by omega)]
          have : l.all (okN 2147483647) = false := all_no' hkl (by rw [HE.out]; exact hb')
          rw [this]
          rfl)
        clear hb hb'
        go_wp2_with fail
        refine (HT.out _).mono ?_
        rintro e w1 ⟨rfl, rfl⟩
        go_wp2_with fail
        go_ret
        exact ⟨_, rfl, HBd, rfl⟩
    · obtain rfl : k = n := by omega
      have HBd := Lib.hid (show decide ((0 : Int) ≤ -1) = !l.all (okN 2147483647) by
        have : l.all (okN 2147483647) = true := by
          rw [List.all_eq_true]
          intro x hx
          obtain ⟨j, hj, rfl⟩ := List.getElem_of_mem hx
          exact HG.out j hj (by rw [← HN.out]; exact hj)
        rw [this]
        rfl)
      go_wp2_with fail
      go_ret
      exact ⟨_, rfl, HBd, rfl⟩

set_option maxRecDepth 100000 in
set_option maxHeartbeats 4000000 in
theorem Lncontains_any (A : Option Addr) (cap : Nat) (l : List Int) (w : World) (h : IAt w A l) (hl : l.length ≤ 1000000000) :
    Calls Try.prog 32 #[.slice A l.length cap, .func (.func 38) #[] #[]] w fun e w' => e = .returned (.bool (!l.all (okN 2147483647))) ∧ w = w' := by
  have HI := Lib.hid (Lnindex_any A cap l w h hl)
  obtain ⟨n, hn⟩ : ∃ n, l.length = n := ⟨_, rfl⟩
  rw [hn] at HI ⊢
  obtain ⟨b, hb⟩ : ∃ b, (!l.all (okN 2147483647)) = b := ⟨_, rfl⟩
  rw [hb] at HI ⊢
  clear h hl hn hb
  go_enter Try.func32, Try.ntmps32
  go_wp2_with fail
  refine HI.out.mono ?_
  rintro e w' ⟨r, rfl, HR, rfl⟩
  have hr := HR.out
  by_cases h0 : 0 ≤ r
  · rw [decide_eq_true h0] at hr
    subst hr
    go_wp2_with fail
    go_ret
    exact ⟨rfl, rfl⟩
  · rw [decide_eq_false h0] at hr
    subst hr
    have H0 := Lib.hid h0
    go_wp2_with fail
    go_ret
    exact ⟨ret_bool (decide_eq_false (by have := H0.out; omega)), rfl⟩

set_option maxRecDepth 100000 in
set_option maxHeartbeats 4000000 in
theorem check_any (A : Option Addr) (cap : Nat) (l : List Int) (w : World) (h : IAt w A l) (hl : l.length ≤ 1000000) :
    Calls Try.prog 13 #[.slice A l.length cap] w fun e w' => e = .returned (.int .i64 (chkE l)) ∧ Below w.heap.size w w' := by
  have HC := Lib.hid (Ckcontains_any A cap l w h (by omega))
  have HT := Lib.hid (fun hr => count_any A cap l w h hr hl)
  have HV := Lib.hid (fun hr W => valid_any l W hr hl)
  obtain ⟨n, hn⟩ : ∃ n, l.length = n := ⟨_, rfl⟩
  have hr1 := rangeOk_eq l
  obtain ⟨v, hv⟩ : ∃ v, chkE l = v := ⟨_, rfl⟩
  have HE := Lib.hid hv
  rw [hv]
  rw [hn] at HC HT ⊢
  clear hv
  unfold chkE at HE
  rw [hn] at HE
  have hnb : (n : Int) ≤ 1000000 := by omega
  have hn0 : (0 : Int) ≤ (n : Int) := by omega
  clear h hl hn
  by_cases h1 : 288 < n
  · have h1' : (288 : Int) < (n : Int) := by omega
    have he := HE.out
    rw [if_pos h1] at he
    subst he
    clear HE h1 hr1
    go_enter Try.func13, Try.ntmps13
    go_wp2_with fail
    go_ret
    exact ⟨rfl, Below.refl _ _⟩
  · have h1' : ¬ (288 : Int) < (n : Int) := by omega
    have he := HE.out
    rw [if_neg h1] at he
    clear HE h1
    by_cases h2 : rangeOk l = true
    · rw [if_neg (by rw [h2]; decide)] at he
      rw [← hr1, h2] at HC
      have HT2 := Lib.hid (HT.out h2)
      have HV2 := Lib.hid (HV.out h2)
      clear HT HV hr1 h2
      obtain ⟨b, hb⟩ : ∃ b, validL l = b := ⟨_, rfl⟩
      rw [hb] at he HV2
      clear hb
      cases b
      · rw [if_pos rfl] at he
        subst he
        go_enter Try.func13, Try.ntmps13
        go_wp2_with fail
        refine HC.out.mono ?_
        rintro e w1 ⟨rfl, rfl⟩
        go_wp2_with fail
        refine HT2.out.mono ?_
        rintro e w1 ⟨rfl, hb⟩
        have HB1 := Lib.hid hb
        clear hb
        go_wp2_with fail
        refine (HV2.out _).mono ?_
        rintro e w2 ⟨rfl, hb⟩
        have HB2 := Lib.hid (HB1.out.trans (hb.mono HB1.out.size))
        clear hb
        go_wp2_with fail
        go_ret
        exact ⟨rfl, HB2.out⟩
      · rw [if_neg (by decide)] at he
        subst he
        go_enter Try.func13, Try.ntmps13
        go_wp2_with fail
        refine HC.out.mono ?_
        rintro e w1 ⟨rfl, rfl⟩
        go_wp2_with fail
        refine HT2.out.mono ?_
        rintro e w1 ⟨rfl, hb⟩
        have HB1 := Lib.hid hb
        clear hb
        go_wp2_with fail
        refine (HV2.out _).mono ?_
        rintro e w2 ⟨rfl, hb⟩
        have HB2 := Lib.hid (HB1.out.trans (hb.mono HB1.out.size))
        clear hb
        go_wp2_with fail
        go_ret
        exact ⟨rfl, HB2.out⟩
    · have h2' : rangeOk l = false := by simpa using h2
      rw [if_pos h2'] at he
      rw [← hr1, h2'] at HC
      subst he
      clear HT HV hr1 h2 h2'
      go_enter Try.func13, Try.ntmps13
      go_wp2_with fail
      refine HC.out.mono ?_
      rintro e w1 ⟨rfl, rfl⟩
      go_wp2_with fail
      go_ret
      exact ⟨rfl, Below.refl _ _⟩
end Go.Proofs.Ytbgechfmbogbpaa
