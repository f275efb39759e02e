/-
  Lemmas and walks, joined: FixBm.
-/
import Derived.Test.YtdpbpdikgcepbaaGreatDoorHz05
import Derived.Test.YtdpbpdikgcepbaaGreatDoorHz10
namespace Go.Proofs.YtdpbpdikgcepbaaGreatDoor
open Go.RowKit Fix

theorem digit_isDig (m : Nat) : isDig (48 + UInt8.ofNat (m % 10)) = true := by
  have := digit_val m
  unfold isDig
  rw [decide_eq_true (by omega), decide_eq_true (by omega)]; rfl
theorem dec_dig (q : Nat) : (Lib.decDigits q).all isDig = true := by
  induction q using Nat.strongRecOn with
  | _ q ih =>
    rw [← digitsL_one, digitsL_more q 1 (Or.inr (by decide)), List.all_append]
    have h1 : [(48 + UInt8.ofNat (q % 10) : UInt8)].all isDig = true := by simp [digit_isDig]
    rw [h1, Bool.and_true]
    by_cases h : q / 10 = 0
    · rw [h, digitsL_zero]; rfl
    · rw [digitsL_free _ (by omega), digitsL_one]; exact ih (q / 10) (by omega)
theorem dec_ne (q : Nat) : Lib.decDigits q ≠ [] := by
  rw [← digitsL_one, digitsL_more q 1 (Or.inr (by decide))]
  simp
theorem dec_val (q : Nat) : valL 0 (Lib.decDigits q) = q := by
  induction q using Nat.strongRecOn with
  | _ q ih =>
    rw [← digitsL_one, digitsL_more q 1 (Or.inr (by decide)), valL_append]
    have hd := digit_val q
    show 10 * valL 0 (digitsL (q / 10) 0) + (((48 + UInt8.ofNat (q % 10) : UInt8).toNat : Int) - 48) = q
    by_cases h : q / 10 = 0
    · rw [h, digitsL_zero, hd]; show 10 * 0 + _ = _; omega
    · rw [digitsL_free _ (by omega), digitsL_one, ih (q / 10) (by omega), hd]; omega
theorem digits4 (r : Nat) : digitsL r 4 = digitsL (r / 10000) 0 ++ [48 + UInt8.ofNat (r / 1000 % 10), 48 + UInt8.ofNat (r / 100 % 10), 48 + UInt8.ofNat (r / 10 % 10), 48 + UInt8.ofNat (r % 10)] := by
  rw [digitsL_more r 4 (Or.inr (by decide)), digitsL_more _ 3 (Or.inr (by decide)), digitsL_more _ 2 (Or.inr (by decide)), digitsL_more _ 1 (Or.inr (by decide))]
  rw [show r / 10 / 10 / 10 / 10 = r / 10000 by omega, show r / 10 / 10 / 10 % 10 = r / 1000 % 10 by omega, show r / 10 / 10 % 10 = r / 100 % 10 by omega]
  simp
theorem digits4_dig (r : Nat) (h : r < 10000) : (digitsL r 4).all isDig = true := by
  rw [digits4, show r / 10000 = 0 by omega, digitsL_zero]
  simp only [List.nil_append, List.all_cons, List.all_nil, digit_isDig, Bool.and_true]
theorem digits4_val (n : Int) (r : Nat) (h : r < 10000) : valL n (digitsL r 4) = 10000 * n + r := by
  rw [digits4, show r / 10000 = 0 by omega, digitsL_zero]
  have h1 := digit_val (r / 1000)
  have h2 := digit_val (r / 100)
  have h3 := digit_val (r / 10)
  have h4 := digit_val r
  simp only [List.nil_append, valL]
  rw [h1, h2, h3, h4]
  omega
theorem trim_pad (l : List UInt8) : ∃ k, l = Lib.trimRightB l 48 ++ List.replicate k 48 := by
  induction l with
  | nil => exact ⟨0, rfl⟩
  | cons c l ih =>
    obtain ⟨k, hk⟩ := ih
    rw [trim_cons]
    by_cases h0 : Lib.trimRightB l 48 = []
    · rw [if_pos h0]
      rw [h0, List.nil_append] at hk
      by_cases h1 : c = 48
      · rw [if_pos h1]
        exact ⟨k + 1, by rw [List.nil_append, List.replicate_succ, ← hk, h1]⟩
      · rw [if_neg h1]
        exact ⟨k, by rw [List.singleton_append, ← hk]⟩
    · rw [if_neg h0]
      exact ⟨k, by rw [List.cons_append, ← hk]⟩
theorem frac_pad (r : Nat) (h : r < 10000) : ∃ k, k ≤ 4 ∧ fracL r ++ List.replicate k 48 = digitsL r 4 := by
  obtain ⟨k, hk⟩ := trim_pad (digitsL r 4)
  have h4 := digits4_length r h
  unfold fracL
  by_cases h0 : Lib.trimRightB (digitsL r 4) 48 = []
  · rw [if_pos h0]
    rw [h0, List.nil_append] at hk
    have hk4 : k = 4 := by rw [hk, List.length_replicate] at h4; exact h4
    subst hk4
    exact ⟨3, by omega, by rw [hk]; rfl⟩
  · rw [if_neg h0]
    refine ⟨k, ?_, hk.symm⟩
    have := congrArg List.length hk
    rw [List.length_append, List.length_replicate] at this
    omega
theorem frac_dig (r : Nat) (h : r < 10000) : (fracL r).all isDig = true := by
  obtain ⟨k, _, hk⟩ := frac_pad r h
  have := digits4_dig r h
  rw [← hk, List.all_append, Bool.and_eq_true] at this
  exact this.1
theorem split_dig (l : List UInt8) (h : l.all isDig = true) : splitP l = (l, [], false) := by
  induction l with
  | nil => rfl
  | cons c l ih =>
    rw [List.all_cons, Bool.and_eq_true] at h
    rw [splitP_cons, if_neg (by rintro rfl; cases h.1), ih h.2]
theorem body_dig (B X : List UInt8) (h : B.all isDig = true) (hne : B ≠ []) : bodyL (B ++ X) = B ++ X ∧ minusL (B ++ X) = false := by
  cases B with
  | nil => exact absurd rfl hne
  | cons c t =>
    rw [List.all_cons, Bool.and_eq_true] at h
    have h1 : c ≠ 45 := by rintro rfl; cases h.1
    have h2 : c ≠ 43 := by rintro rfl; cases h.1
    unfold bodyL minusL
    simp [h1, h2]
theorem up_zeros (k : Nat) : upPlus (List.replicate k 48) = false ∧ upMinus (List.replicate k 48) = false := by
  have ht : ∀ k, Lib.trimRightB (List.replicate k (48 : UInt8)) 48 = [] := by
    intro k
    induction k with
    | zero => rfl
    | succ k ih => rw [List.replicate_succ, trim_cons, if_pos ih, if_pos rfl]
  refine ⟨?_, by unfold upMinus; rw [ht]; rfl⟩
  rw [up_plus_eq]
  cases k with
  | zero => rfl
  | succ k => rfl

/-- What Read makes of digits, a point and decimals. -/
theorem read_back (l B : List UInt8) (q r j : Nat) (neg : Bool) (hr : r < 10000) (hbody : bodyL l = B ++ 46 :: (fracL r ++ List.replicate j 48)) (hneg : minusL l = neg) (hB : B.all isDig = true) (hne : B ≠ []) (hv : valL 0 B = q) (hlen : l.length ≤ 40) (hbig : 10000 * q + r ≤ 1073741824) :
    readN l = (if neg then -((10000 * q + r : Nat) : Int) else ((10000 * q + r : Nat) : Int)) ∧ readE l = 0 := by
  have hs : splitP (bodyL l) = (B, fracL r ++ List.replicate j 48, true) := by
    rw [hbody, split_append, split_dig B hB, if_neg (by simp), splitP_cons, if_pos rfl]
    simp
  have hbef : befL l = B := by unfold befL; rw [hs]
  have haft : aftL l = fracL r ++ List.replicate j 48 := by unfold aftL; rw [hs]
  have hz : (List.replicate j (48 : UInt8)).all isDig = true := by
    rw [List.all_eq_true]
    intro x hx
    rw [(List.mem_replicate.1 hx).2]
    decide
  have hg : goodR l = true := by
    unfold goodR
    rw [hbef, haft, hB, List.all_append, frac_dig r hr, hz, decide_eq_true hlen]
    cases B with
    | nil => exact absurd rfl hne
    | cons c t => rfl
  obtain ⟨k, hk4, hk⟩ := frac_pad r hr
  have hpad : aftL l ++ zeros4 = digitsL r 4 ++ List.replicate (j + 4 - k) 48 := by
    rw [haft, List.append_assoc, show zeros4 = List.replicate 4 48 from rfl, List.replicate_append_replicate, ← hk, List.append_assoc, List.replicate_append_replicate, show k + (j + 4 - k) = j + 4 by omega]
  have h4 := digits4_length r hr
  have hhead : headL l = B ++ digitsL r 4 := by
    unfold headL
    rw [hbef, hpad, List.take_append_of_le_length (by omega), List.take_of_length_le (by omega)]
  have hrest : restL l = List.replicate (j + 4 - k) 48 := by
    unfold restL
    rw [hpad, List.drop_append_of_le_length (by omega), List.drop_of_length_le (by omega), List.nil_append]
  have hup : upL l = false := by
    unfold upL
    rw [hrest, (up_zeros _).1, (up_zeros _).2]
    simp
  have hval : valL 0 (headL l) = ((10000 * q + r : Nat) : Int) := by
    rw [hhead, valL_append, hv, digits4_val _ _ hr]
    omega
  have hx : readX l = if neg then -((10000 * q + r : Nat) : Int) else ((10000 * q + r : Nat) : Int) := by
    unfold readX
    rw [hneg, hup, hval]
    rfl
  have hb : readBig l = false := by
    unfold readBig
    rw [hval, decide_eq_false (by omega), Bool.false_or, hx]
    unfold inRange
    cases neg <;> simp <;> omega
  unfold readN readE
  rw [if_pos hg, if_pos hg, hb, hx]
  exact ⟨rfl, rfl⟩

theorem dec_len (q : Nat) (h : q ≤ 1073741824) : (Lib.decDigits q).length ≤ 20 := by
  rw [Lib.decDigits_length]
  exact Lib.nDigits_le20 _ (by omega)
/-- Read reverses Text; zeros behind change nothing. -/
theorem text_back (n : Int) (j : Nat) (hj : j ≤ 3) (h1 : -1073741824 ≤ n) (h2 : n ≤ 1073741824) : readN (textL n ++ List.replicate j 48) = n ∧ readE (textL n ++ List.replicate j 48) = 0 := by
  have hl := frac_length (n.natAbs % 10000) (by omega)
  have hd := dec_len (n.natAbs / 10000) (by omega)
  rw [textL_in n h1 h2]
  by_cases h : n < 0
  · rw [if_pos h]
    have hb := read_back ([45] ++ Lib.decDigits (n.natAbs / 10000) ++ [46] ++ fracL (n.natAbs % 10000) ++ List.replicate j 48) (Lib.decDigits (n.natAbs / 10000)) (n.natAbs / 10000) (n.natAbs % 10000) j true (by omega)
      (by simp [bodyL]) rfl (dec_dig _) (dec_ne _) (dec_val _) (by simp; omega) (by omega)
    rw [hb.1, hb.2]
    exact ⟨by rw [if_pos rfl]; omega, rfl⟩
  · rw [if_neg h]
    have hbd := body_dig (Lib.decDigits (n.natAbs / 10000)) ([46] ++ (fracL (n.natAbs % 10000) ++ List.replicate j 48)) (dec_dig _) (dec_ne _)
    have e : [] ++ Lib.decDigits (n.natAbs / 10000) ++ [46] ++ fracL (n.natAbs % 10000) ++ List.replicate j 48 = Lib.decDigits (n.natAbs / 10000) ++ ([46] ++ (fracL (n.natAbs % 10000) ++ List.replicate j 48)) := by simp
    rw [e]
    have hb := read_back _ (Lib.decDigits (n.natAbs / 10000)) (n.natAbs / 10000) (n.natAbs % 10000) j false (by omega) (hbd.1.trans (by simp)) hbd.2 (dec_dig _) (dec_ne _) (dec_val _) (by simp; omega) (by omega)
    rw [hb.1, hb.2]
    exact ⟨by rw [if_neg (by decide)]; omega, rfl⟩
/-- A plus sign and a zero ahead change nothing. -/
theorem text_plus (n : Int) (h1 : 0 ≤ n) (h2 : n ≤ 1073741824) : readN ([43, 48] ++ textL n) = n ∧ readE ([43, 48] ++ textL n) = 0 := by
  have hl := frac_length (n.natAbs % 10000) (by omega)
  have hd := dec_len (n.natAbs / 10000) (by omega)
  rw [textL_in n (by omega) h2, if_neg (by omega)]
  have hb := read_back ([43, 48] ++ ([] ++ Lib.decDigits (n.natAbs / 10000) ++ [46] ++ fracL (n.natAbs % 10000))) (48 :: Lib.decDigits (n.natAbs / 10000)) (n.natAbs / 10000) (n.natAbs % 10000) 0 false (by omega)
    (by simp [bodyL]) rfl (by rw [List.all_cons, dec_dig]; decide) (by simp) (dec_val _) (by simp; omega) (by omega)
  rw [hb.1, hb.2]
  exact ⟨by rw [if_neg (by decide)]; omega, rfl⟩
end Go.Proofs.YtdpbpdikgcepbaaGreatDoor
