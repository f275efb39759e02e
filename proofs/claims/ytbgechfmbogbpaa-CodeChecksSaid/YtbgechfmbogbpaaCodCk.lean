/-
  CodeChecks' walk: Codes, New, Check and Cost against the document's.
-/
import Derived.Test.YtbgechfmbogbpaaCodRb
import Derived.Test.YtbgechfmbogbpaaCodLn
namespace Go.Proofs.Ytbgechfmbogbpaa
open Go.RowKit Bt Cod

theorem code_lives (W : World) : Calls Try.prog 8 #[] W fun e w' => e = .returned (.bool true) ∧ Below W.heap.size W w' := lives_of lengths_example W
theorem same_nil (W : World) : Calls Try.prog 12 #[.slice none 0 0, .slice none 0 0] W fun e w' => e = .returned (.bool true) ∧ Below W.heap.size W w' :=
  same_any none none 0 0 [] [] W (IAt.nil _ _) (IAt.nil _ _) (by decide) (by decide)

set_option maxRecDepth 100000 in
set_option maxHeartbeats 8000000 in
theorem checks_any (A B : Option Addr) (ca cb : Nat) (l m : List Int) (w : World) (hA : IAt w A l) (hB : IAt w B m) (hAn : A = none → l.length = 0 ∧ ca = 0) :
    Calls Try.prog 3 #[.slice A l.length ca, .slice B m.length cb] w fun e w' => e = .returned (.bool true) ∧ Below w.heap.size w w' := by
  have HLV := Lib.hid code_lives
  obtain ⟨N, hN⟩ : ∃ N, w.heap.size = N := ⟨_, rfl⟩
  have HNN := Lib.hid hN
  have HB := Lib.hid (hN ▸ Below.refl w.heap.size w : Below N w w)
  have HS := Lib.hid (Nat.le_of_eq hN.symm : N ≤ w.heap.size)
  have HA := Lib.hid (fun W (hb : Below N w W) => IAt.below hA (by rw [hN]; exact hb))
  have HBB := Lib.hid (fun W (hb : Below N w W) => IAt.below hB (by rw [hN]; exact hb))
  have HAN := Lib.hid hAn
  clear hA hB hAn
  rw [hN]
  clear hN
  obtain ⟨n, hn⟩ : ∃ n, l.length = n := ⟨_, rfl⟩
  obtain ⟨q, hq⟩ : ∃ q, m.length = q := ⟨_, rfl⟩
  have HN := Lib.hid hn
  have HQ := Lib.hid hq
  by_cases h1 : 400 < n
  · have h1I : (400 : Int) < (n : Int) := by omega
    rw [hn, hq]
    clear hn hq h1
    go_enter Try.func3, Try.ntmps3
    go_wp2_with fail
    refine (HLV.out w).mono ?_
    rintro e U1 ⟨rfl, hb⟩
    have HB := Lib.hid (HB.out.trans (hb.mono HS.out))
    have HS := Lib.hid (Nat.le_trans HS.out hb.size)
    clear hb
    go_wp2_with fail
    go_ret
    exact ⟨rfl, HB.out⟩
  · have h1I : (n : Int) ≤ 400 := by omega
    by_cases h2 : 400 < q
    · have h2I : (400 : Int) < (q : Int) := by omega
      rw [hn, hq]
      clear hn hq h1 h2
      go_enter Try.func3, Try.ntmps3
      go_wp2_with fail
      refine (HLV.out w).mono ?_
      rintro e U1 ⟨rfl, hb⟩
      have HB := Lib.hid (HB.out.trans (hb.mono HS.out))
      have HS := Lib.hid (Nat.le_trans HS.out hb.size)
      clear hb
      go_wp2_with fail
      go_ret
      exact ⟨rfl, HB.out⟩
    · have h2I : (q : Int) ≤ 400 := by omega
      have hln : l.length ≤ 1000000 := by omega
      have hlm : m.length ≤ 1000000 := by omega
      obtain ⟨z, hz⟩ : ∃ z, chkE l = z := ⟨_, rfl⟩
      obtain ⟨c, hc⟩ : ∃ c, costK l m (min l.length m.length) = c := ⟨_, rfl⟩
      have HK1 : Hid (∀ W, Below N w W → Calls Try.prog 13 #[.slice A n ca] W fun e w' => e = .returned (.int .i64 z) ∧ Below W.heap.size W w') := Lib.hid (fun W hb => by have h := check_any A ca l W (HA.out W hb) hln; rw [hz, hn] at h; exact h)
      have HK2 : Hid (∀ W, Below N w W → Calls Try.prog 14 #[.slice A n ca] W fun e w' => e = .returned (.int .i64 z) ∧ Below W.heap.size W w') := Lib.hid (fun W hb => by have h := check10 A ca l W (HA.out W hb) hln; rw [hz, hn] at h; exact h.mono (fun e w' h => ⟨h.1, h.2 ▸ Below.refl _ _⟩))
      have HC1 : Hid (∀ W, Below N w W → Calls Try.prog 15 #[.slice A n ca, .slice B q cb] W fun e w' => e = .returned (.int .i64 c) ∧ Below W.heap.size W w') := Lib.hid (fun W hb => by have h := cost_any A B ca cb l m W (HA.out W hb) (HBB.out W hb) hln hlm; rw [hc, hn, hq] at h; exact h)
      have HC2 : Hid (∀ W, Below N w W → Calls Try.prog 16 #[.slice A n ca, .slice B q cb] W fun e w' => e = .returned (.int .i64 c) ∧ Below W.heap.size W w') := Lib.hid (fun W hb => by have h := cost10 A B ca cb l m W (HA.out W hb) (HBB.out W hb) hln hlm; rw [hc, hn, hq] at h; exact h)
      by_cases h0 : z = 0
      · subst h0
        have HO1 : Hid (∀ W, Below N w W → Calls Try.prog 9 #[.slice A n ca] W fun e w' => ∃ R : Nat, e = .returned (.tuple #[.slice (some ⟨R, 0, none⟩) n n, .int .i64 0]) ∧ W.heap.size ≤ R ∧ IRow w' R (codesL l) ∧ Below W.heap.size W w') := Lib.hid (fun W hb => by have h := codes_ok A ca l W (HA.out W hb) hz; rw [hn] at h; exact h)
        have HO2 : Hid (∀ W, Below N w W → Calls Try.prog 10 #[.slice A n ca] W fun e w' => ∃ R : Nat, e = .returned (.tuple #[.slice (some ⟨R, 0, none⟩) n n, .int .i64 0]) ∧ W.heap.size ≤ R ∧ IRow w' R (codesL l) ∧ Below W.heap.size W w') := Lib.hid (fun W hb => by have h := codes10_ok A ca l W (HA.out W hb) hz; rw [hn] at h; exact h)
        have HO3 : Hid (∀ W, Below N w W → Calls Try.prog 11 #[.slice A n ca] W fun e w' => ∃ b : Nat, e = .returned (.tuple #[.pointer (some ⟨b, 0, none⟩), .int .i64 0]) ∧ Below W.heap.size W w') := Lib.hid (fun W hb => by have h := new_ok A ca l W (HA.out W hb) HAN.out hz; rw [hn] at h; exact h.mono (fun e w' ⟨b, h1, _, _, h4⟩ => ⟨b, h1, h4⟩))
        have HSm : Hid (∀ W R1 R2, IRow W R1 (codesL l) → IRow W R2 (codesL l) → Calls Try.prog 12 #[.slice (some ⟨R1, 0, none⟩) n n, .slice (some ⟨R2, 0, none⟩) n n] W fun e w' => e = .returned (.bool true) ∧ Below W.heap.size W w') := Lib.hid (fun W R1 R2 k1 k2 => by
          have h := same_any (some ⟨R1, 0, none⟩) (some ⟨R2, 0, none⟩) n n (codesL l) (codesL l) W k1.iat k2.iat (by rw [show (codesL l).length = l.length from codesK_len _ _]; exact hln) (by rw [show (codesL l).length = l.length from codesK_len _ _]; exact hln)
          rw [show (codesL l).length = l.length from codesK_len _ _, hn, decide_eq_true rfl] at h
          exact h)
        rw [hn, hq]
        clear hn hq h1 h2 hln hlm hz hc
        go_enter Try.func3, Try.ntmps3
        go_wp2_with fail
        refine (HO1.out w HB.out).mono ?_
        rintro e U1 ⟨R1, rfl, _, hr1, hb⟩
        have HB := Lib.hid (HB.out.trans (hb.mono HS.out))
        have HS := Lib.hid (Nat.le_trans HS.out hb.size)
        have HR1 := Lib.hid hr1
        clear hb
        clear hr1
        go_wp2_with fail
        refine (HO2.out U1 HB.out).mono ?_
        rintro e U2 ⟨R2, rfl, _, hr2, hb⟩
        have HB := Lib.hid (HB.out.trans (hb.mono HS.out))
        have HS := Lib.hid (Nat.le_trans HS.out hb.size)
        have HR2 := Lib.hid hr2
        have HR1 := Lib.hid (Blk.below HR1.out hb (Blk.lt HR1.out))
        clear hb
        clear hr2
        go_wp2_with fail
        refine (HO3.out U2 HB.out).mono ?_
        rintro e U3 ⟨bt, rfl, hb⟩
        have HB := Lib.hid (HB.out.trans (hb.mono HS.out))
        have HS := Lib.hid (Nat.le_trans HS.out hb.size)
        have HR2 := Lib.hid (Blk.below HR2.out hb (Blk.lt HR2.out))
        have HR1 := Lib.hid (Blk.below HR1.out hb (Blk.lt HR1.out))
        clear hb
        go_wp2_with fail
        refine (HSm.out U3 R1 R2 HR1.out HR2.out).mono ?_
        rintro e U4 ⟨rfl, hb⟩
        have HB := Lib.hid (HB.out.trans (hb.mono HS.out))
        have HS := Lib.hid (Nat.le_trans HS.out hb.size)
        clear hb
        go_wp2_with fail
        refine (HK1.out U4 HB.out).mono ?_
        rintro e U5 ⟨rfl, hb⟩
        have HB := Lib.hid (HB.out.trans (hb.mono HS.out))
        have HS := Lib.hid (Nat.le_trans HS.out hb.size)
        clear hb
        go_wp2_with fail
        refine (HK2.out U5 HB.out).mono ?_
        rintro e U6 ⟨rfl, hb⟩
        have HB := Lib.hid (HB.out.trans (hb.mono HS.out))
        have HS := Lib.hid (Nat.le_trans HS.out hb.size)
        clear hb
        go_wp2_with fail
        refine (HC1.out U6 HB.out).mono ?_
        rintro e U7 ⟨rfl, hb⟩
        have HB := Lib.hid (HB.out.trans (hb.mono HS.out))
        have HS := Lib.hid (Nat.le_trans HS.out hb.size)
        clear hb
        go_wp2_with fail
        refine (HC2.out U7 HB.out).mono ?_
        rintro e U8 ⟨rfl, hb⟩
        have HB := Lib.hid (HB.out.trans (hb.mono HS.out))
        have HS := Lib.hid (Nat.le_trans HS.out hb.size)
        clear hb
        go_wp2_with fail
        refine (HLV.out U8).mono ?_
        rintro e U9 ⟨rfl, hb⟩
        have HB := Lib.hid (HB.out.trans (hb.mono HS.out))
        have HS := Lib.hid (Nat.le_trans HS.out hb.size)
        clear hb
        go_wp2_with fail
        go_ret
        exact ⟨rfl, HB.out⟩
      · have h0b : (z == 0) = false := by simpa using h0
        have HO1 : Hid (∀ W, Below N w W → Calls Try.prog 9 #[.slice A n ca] W fun e w' => e = .returned (.tuple #[.slice none 0 0, .int .i64 z]) ∧ Below W.heap.size W w') := Lib.hid (fun W hb => by have h := codes_no A ca l W (HA.out W hb) hln z hz h0; rw [hn] at h; exact h)
        have HO2 : Hid (∀ W, Below N w W → Calls Try.prog 10 #[.slice A n ca] W fun e w' => e = .returned (.tuple #[.slice none 0 0, .int .i64 z]) ∧ Below W.heap.size W w') := Lib.hid (fun W hb => by have h := codes10_no A ca l W (HA.out W hb) hln z hz h0; rw [hn] at h; exact h.mono (fun e w' h => ⟨h.1, h.2 ▸ Below.refl _ _⟩))
        have HO3 : Hid (∀ W, Below N w W → Calls Try.prog 11 #[.slice A n ca] W fun e w' => e = .returned (.tuple #[.pointer none, .int .i64 z]) ∧ Below W.heap.size W w') := Lib.hid (fun W hb => by have h := new_no A ca l W (HA.out W hb) hln z hz h0; rw [hn] at h; exact h)
        have HSm := Lib.hid same_nil
        rw [hn, hq]
        clear hn hq h1 h2 hln hlm hz hc
        go_enter Try.func3, Try.ntmps3
        go_wp2_with fail
        refine (HO1.out w HB.out).mono ?_
        rintro e U1 ⟨rfl, hb⟩
        have HB := Lib.hid (HB.out.trans (hb.mono HS.out))
        have HS := Lib.hid (Nat.le_trans HS.out hb.size)
        clear hb
        go_wp2_with fail
        refine (HO2.out U1 HB.out).mono ?_
        rintro e U2 ⟨rfl, hb⟩
        have HB := Lib.hid (HB.out.trans (hb.mono HS.out))
        have HS := Lib.hid (Nat.le_trans HS.out hb.size)
        clear hb
        go_wp2_with fail
        refine (HO3.out U2 HB.out).mono ?_
        rintro e U3 ⟨rfl, hb⟩
        have HB := Lib.hid (HB.out.trans (hb.mono HS.out))
        have HS := Lib.hid (Nat.le_trans HS.out hb.size)
        clear hb
        go_wp2_with fail
        refine (HSm.out U3).mono ?_
        rintro e U4 ⟨rfl, hb⟩
        have HB := Lib.hid (HB.out.trans (hb.mono HS.out))
        have HS := Lib.hid (Nat.le_trans HS.out hb.size)
        clear hb
        go_wp2_with fail
        refine (HK1.out U4 HB.out).mono ?_
        rintro e U5 ⟨rfl, hb⟩
        have HB := Lib.hid (HB.out.trans (hb.mono HS.out))
        have HS := Lib.hid (Nat.le_trans HS.out hb.size)
        clear hb
        go_wp2_with fail
        refine (HK2.out U5 HB.out).mono ?_
        rintro e U6 ⟨rfl, hb⟩
        have HB := Lib.hid (HB.out.trans (hb.mono HS.out))
        have HS := Lib.hid (Nat.le_trans HS.out hb.size)
        clear hb
        go_wp2_with fail
        refine (HC1.out U6 HB.out).mono ?_
        rintro e U7 ⟨rfl, hb⟩
        have HB := Lib.hid (HB.out.trans (hb.mono HS.out))
        have HS := Lib.hid (Nat.le_trans HS.out hb.size)
        clear hb
        go_wp2_with fail
        refine (HC2.out U7 HB.out).mono ?_
        rintro e U8 ⟨rfl, hb⟩
        have HB := Lib.hid (HB.out.trans (hb.mono HS.out))
        have HS := Lib.hid (Nat.le_trans HS.out hb.size)
        clear hb
        go_wp2_with fail
        refine (HLV.out U8).mono ?_
        rintro e U9 ⟨rfl, hb⟩
        have HB := Lib.hid (HB.out.trans (hb.mono HS.out))
        have HS := Lib.hid (Nat.le_trans HS.out hb.size)
        clear hb
        go_wp2_with fail
        go_ret
        exact ⟨rfl, HB.out⟩
end Go.Proofs.Ytbgechfmbogbpaa
