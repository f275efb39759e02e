/-
  BitJoins: for every s, ahead, n and m the law returns true: two numbers read one after the other are one longer number (no condition on the arguments).
-/
import Derived.Test.YtcgejhlhbokpiaaBitP
import Derived.Test.YtcgejhlhbokpiaaRowKeep
import Derived.HandedShaped
import Derived.OpenShut
import Derived.ChangeMaps5
namespace Go.Proofs.Ytcgejhlhbokpiaa
open Go.ChangeShapes Go.WideShapes Go.ChangeAt Go.RowKit Bt

/-- A number is there: what a call comes to. -/
theorem rd_there {tot a n : Nat} {ord o : Int} (l : List UInt8) (ho : ord = 0 ∨ ord = o) (hn : n ≤ 24) (ht : a + n ≤ tot) :
    rdV l tot a ord (n : Int) o = (valO o l a n : Nat) ∧ rdE tot a ord (n : Int) o = 0 ∧ rdAt tot a ord (n : Int) o = a + n ∧ (rdOrd tot a ord (n : Int) o = 0 ∨ rdOrd tot a ord (n : Int) o = o) := by
  have hb : bad ord (n : Int) o = false := by unfold bad; simp; omega
  obtain ⟨h1, h2, h3, h4⟩ := rd_ok (tot := tot) (at_ := a) (l := l) hb (by omega)
  refine ⟨h2, h1, h3, ?_⟩
  rw [h4]
  split
  · exact Or.inr rfl
  · exact ho

theorem join_low (l : List UInt8) (p a b : Nat) (ha : a ≤ 12) (hb : b ≤ 12) : wrap64 (wrap64 ((valO 1 l (p + a) b : Nat) * 2 ^ a) + (valO 1 l p a : Nat)) = ((valO 1 l p (a + b) : Nat) : Int) := by
  have e : ∀ q n, valO 1 l q n = valL l q n := fun q n => by unfold valO; rw [if_neg (by decide)]
  rw [e, e, e, valL_add]
  have h1 := valL_lt l p a
  have h2 := valL_lt l (p + a) b
  have h3 : 2 ^ a ≤ 2 ^ 12 := Nat.pow_le_pow_right (by decide) ha
  have h4 : 2 ^ b ≤ 2 ^ 12 := Nat.pow_le_pow_right (by decide) hb
  have h5 : (2 : Nat) ^ 12 = 4096 := by decide
  have h6 : valL l (p + a) b * 2 ^ a ≤ 4096 * 4096 := Nat.mul_le_mul (by omega) (by omega)
  have ec : ((valL l (p + a) b : Nat) : Int) * 2 ^ a = ((valL l (p + a) b * 2 ^ a : Nat) : Int) := by rw [Int.natCast_mul]; congr 1
  rw [ec]
  generalize valL l (p + a) b * 2 ^ a = y at *
  rw [IntWalk.wrap64_in (y : Int) (by omega), IntWalk.wrap64_in _ (by omega)]
  omega
theorem join_high (l : List UInt8) (p a b : Nat) (ha : a ≤ 12) (hb : b ≤ 12) : wrap64 (wrap64 ((valO 2 l p a : Nat) * 2 ^ b) + (valO 2 l (p + a) b : Nat)) = ((valO 2 l p (a + b) : Nat) : Int) := by
  have e : ∀ q n, valO 2 l q n = valH l q n := fun q n => by unfold valO; rw [if_pos rfl]
  rw [e, e, e, valH_add]
  have h1 := valH_lt l p a
  have h2 := valH_lt l (p + a) b
  have h3 : 2 ^ a ≤ 2 ^ 12 := Nat.pow_le_pow_right (by decide) ha
  have h4 : 2 ^ b ≤ 2 ^ 12 := Nat.pow_le_pow_right (by decide) hb
  have h5 : (2 : Nat) ^ 12 = 4096 := by decide
  have h6 : valH l p a * 2 ^ b ≤ 4096 * 4096 := Nat.mul_le_mul (by omega) (by omega)
  have ec : ((valH l p a : Nat) : Int) * 2 ^ b = ((valH l p a * 2 ^ b : Nat) : Int) := by rw [Int.natCast_mul]; congr 1
  rw [ec]
  generalize valH l p a * 2 ^ b = y at *
  rw [IntWalk.wrap64_in (y : Int) (by omega), IntWalk.wrap64_in _ (by omega)]
  omega

theorem low_t (g : Nat) (s : ByteArray) (a n V : Nat) (nI ord : Int) (w : World) (h : Rd 51 w g s a ord) (hs : s.size ≤ 300) (ho : ord = 0 ∨ ord = 1) (hn : n ≤ 24) (ht : a + n ≤ 8 * s.size) (hV : valO 1 s.data.toList a n = V) (hI : nI = (n : Nat)) :
    Calls Try.prog 11 #[.pointer (some ⟨g, 0, none⟩), .int .i64 nI] w fun e w' => e = .returned (.tuple #[.int .i64 (V : Int), .int .i64 0]) ∧ ∃ O : Int, (O = 0 ∨ O = 1) ∧ Now 51 w g s (a + n) O w' := by
  subst hI
  obtain ⟨h1, h2, h3, h4⟩ := rd_there s.data.toList ho hn ht
  rw [hV] at h1
  exact (low_c g s a ord n V 0 (a + n) _ w h (by omega) (by omega) h1 h2 h3 rfl).mono fun e w' ⟨he, hn⟩ => ⟨he, _, h4, hn⟩
theorem high_t (g : Nat) (s : ByteArray) (a n V : Nat) (nI ord : Int) (w : World) (h : Rd 51 w g s a ord) (hs : s.size ≤ 300) (ho : ord = 0 ∨ ord = 2) (hn : n ≤ 24) (ht : a + n ≤ 8 * s.size) (hV : valO 2 s.data.toList a n = V) (hI : nI = (n : Nat)) :
    Calls Try.prog 13 #[.pointer (some ⟨g, 0, none⟩), .int .i64 nI] w fun e w' => e = .returned (.tuple #[.int .i64 (V : Int), .int .i64 0]) ∧ ∃ O : Int, (O = 0 ∨ O = 2) ∧ Now 51 w g s (a + n) O w' := by
  subst hI
  obtain ⟨h1, h2, h3, h4⟩ := rd_there s.data.toList ho hn ht
  rw [hV] at h1
  exact (high_c g s a ord n V 0 (a + n) _ w h (by omega) (by omega) h1 h2 h3 rfl).mono fun e w' ⟨he, hn⟩ => ⟨he, _, h4, hn⟩

set_option maxRecDepth 100000 in
set_option maxHeartbeats 2000000 in
theorem joins_long (s : ByteArray) (c n m : Nat) (w : World) (h : 300 < s.size) :
    Calls Try.prog 6 #[.string s, .int .u8 (c : Int), .int .u8 (n : Int), .int .u8 (m : Int)] w fun e w' => e = .returned (.bool true) ∧ Below w.heap.size w w' := by
  go_enter Try.func6, Try.ntmps6
  go_wp2_with fail
  refine (lives_any _).mono ?_
  rintro e w1 ⟨rfl, hb⟩
  go_wp2_with fail
  go_ret
  exact ⟨rfl, hb⟩

/-- Four readers of the string, one behind the other, and what stands besides. -/
def Four (w0 w : World) (N : Nat) (s : ByteArray) (a b c d : Nat) (o p q r : Int) : Prop :=
  Below N w0 w ∧ N + 4 ≤ w.heap.size ∧ Rd 51 w N s a o ∧ Rd 51 w (N + 1) s b p ∧ Rd 51 w (N + 2) s c q ∧ Rd 51 w (N + 3) s d r

set_option maxRecDepth 100000 in
set_option maxHeartbeats 8000000 in
theorem joins_fit (s : ByteArray) (c n m K A B : Nat) (w0 : World) (h : s.size ≤ 300) (hK : (c : Int) % 8 = (K : Int)) (hA : (n : Int) % 13 = (A : Int)) (hB : (m : Int) % 13 = (B : Int)) (k7 : K ≤ 7) (a12 : A ≤ 12) (b12 : B ≤ 12) (hfit : K + A + B ≤ 8 * s.size) :
    Calls Try.prog 6 #[.string s, .int .u8 (c : Int), .int .u8 (n : Int), .int .u8 (m : Int)] w0 fun e w' => e = .returned (.bool true) ∧ Below w0.heap.size w0 w' := by
  obtain ⟨N, hN⟩ : ∃ N, w0.heap.size = N := ⟨_, rfl⟩
  have HB0 := Lib.hid (show Below N w0 w0 from Below.refl _ _)
  have HN0 := Lib.hid hN
  rw [hN]
  clear hN
  obtain ⟨K1, hk1⟩ : ∃ V, valO 1 s.data.toList 0 K = V := ⟨_, rfl⟩
  obtain ⟨K2, hk2⟩ : ∃ V, valO 2 s.data.toList 0 K = V := ⟨_, rfl⟩
  obtain ⟨X, hx⟩ : ∃ V, valO 1 s.data.toList (0 + K) A = V := ⟨_, rfl⟩
  obtain ⟨Y, hy⟩ : ∃ V, valO 1 s.data.toList (0 + K + A) B = V := ⟨_, rfl⟩
  obtain ⟨Z, hz⟩ : ∃ V, valO 1 s.data.toList (0 + K) (A + B) = V := ⟨_, rfl⟩
  obtain ⟨U, hu⟩ : ∃ V, valO 2 s.data.toList (0 + K) A = V := ⟨_, rfl⟩
  obtain ⟨V, hv⟩ : ∃ V, valO 2 s.data.toList (0 + K + A) B = V := ⟨_, rfl⟩
  obtain ⟨W, hw⟩ : ∃ V, valO 2 s.data.toList (0 + K) (A + B) = V := ⟨_, rfl⟩
  have j1 := join_low s.data.toList (0 + K) A B a12 b12
  have j2 := join_high s.data.toList (0 + K) A B a12 b12
  rw [hx, hy, hz] at j1
  rw [hu, hv, hw] at j2
  have HJ1 := Lib.hid j1
  have HJ2 := Lib.hid j2
  have Hk1 := Lib.hid hk1
  have Hk2 := Lib.hid hk2
  have Hx := Lib.hid hx
  have Hy := Lib.hid hy
  have Hz := Lib.hid hz
  have Hu := Lib.hid hu
  have Hv := Lib.hid hv
  have Hw := Lib.hid hw
  have HF := Lib.hid hfit
  clear j1 j2 hk1 hk2 hx hy hz hu hv hw
  go_enter Try.func6, Try.ntmps6
  go_wp2_with fail
  refine (rfrom_c _ N w0 HN0.out).mono ?_
  rintro e w1 ⟨rfl, hg, hr, hz⟩
  have HB1 := Lib.hid (HB0.out.grown hg (Nat.le_of_eq HN0.out.symm) (fun k e => by cases e))
  have HL1 := Lib.hid hr
  have HN1 := Lib.hid hz
  clear hg hr hz
  go_wp2_with fail
  refine (rfrom_c _ (N + 1) w1 HN1.out).mono ?_
  rintro e w2 ⟨rfl, hg, hr, hz⟩
  have HB2 := Lib.hid (HB1.out.grown hg (by rw [HN1.out]; omega) (fun k e => by cases e))
  have HL2 := Lib.hid (HL1.out.grown hg (by simp))
  have HH2 := Lib.hid hr
  have HN2 := Lib.hid (show w2.heap.size = N + 2 from hz)
  clear hg hr hz
  go_wp2_with fail
  refine (rfrom_c _ (N + 2) w2 HN2.out).mono ?_
  rintro e w3 ⟨rfl, hg, hr, hz⟩
  have HB3 := Lib.hid (HB2.out.grown hg (by rw [HN2.out]; omega) (fun k e => by cases e))
  have HL3 := Lib.hid (HL2.out.grown hg (by simp))
  have HH3 := Lib.hid (HH2.out.grown hg (by simp))
  have HP3 := Lib.hid hr
  have HN3 := Lib.hid (show w3.heap.size = N + 3 from hz)
  clear hg hr hz
  go_wp2_with fail
  refine (rfrom_c _ (N + 3) w3 HN3.out).mono ?_
  rintro e w4 ⟨rfl, hg, hr, hz⟩
  have HB4 := Lib.hid (HB3.out.grown hg (by rw [HN3.out]; omega) (fun k e => by cases e))
  have HL4 := Lib.hid (HL3.out.grown hg (by simp))
  have HH4 := Lib.hid (HH3.out.grown hg (by simp))
  have HP4 := Lib.hid (HP3.out.grown hg (by simp))
  have HQ4 := Lib.hid hr
  have HN4 := Lib.hid (show w4.heap.size = N + 4 from hz)
  clear hg hr hz
  have HZ4 := Lib.hid (show N + 4 ≤ w4.heap.size by rw [HN4.out]; omega)
  go_wp2_with fail
  refine (low_t N s 0 K K1 _ 0 _ HL4.out h (Or.inl rfl) (by omega) (by have := HF.out; omega) Hk1.out (by omega)).mono ?_
  rintro e w5 ⟨rfl, o5, ho, hn⟩
  have HO5 := Lib.hid ho
  have HB5 := Lib.hid (Now.below HB4.out hn (by have := HZ4.out; omega) (by omega))
  have HL5 := Lib.hid hn.2
  have HH5 := Lib.hid (HH4.out.now hn (by omega))
  have HP5 := Lib.hid (HP4.out.now hn (by omega))
  have HQ5 := Lib.hid (HQ4.out.now hn (by omega))
  have HZ5 := Lib.hid (Nat.le_trans HZ4.out hn.1.size)
  clear ho hn
  go_wp2_with fail
  refine (low_t (N + 2) s 0 K K1 _ 0 _ HP5.out h (Or.inl rfl) (by omega) (by have := HF.out; omega) Hk1.out (by omega)).mono ?_
  rintro e w6 ⟨rfl, o6, ho, hn⟩
  have HO6 := Lib.hid ho
  have HB6 := Lib.hid (Now.below HB5.out hn (by have := HZ5.out; omega) (by omega))
  have HP6 := Lib.hid hn.2
  have HL6 := Lib.hid (HL5.out.now hn (by omega))
  have HH6 := Lib.hid (HH5.out.now hn (by omega))
  have HQ6 := Lib.hid (HQ5.out.now hn (by omega))
  have HZ6 := Lib.hid (Nat.le_trans HZ5.out hn.1.size)
  clear ho hn
  go_wp2_with fail
  refine (high_t (N + 1) s 0 K K2 _ 0 _ HH6.out h (Or.inl rfl) (by omega) (by have := HF.out; omega) Hk2.out (by omega)).mono ?_
  rintro e w7 ⟨rfl, o7, ho, hn⟩
  have HO7 := Lib.hid ho
  have HB7 := Lib.hid (Now.below HB6.out hn (by have := HZ6.out; omega) (by omega))
  have HH7 := Lib.hid hn.2
  have HL7 := Lib.hid (HL6.out.now hn (by omega))
  have HP7 := Lib.hid (HP6.out.now hn (by omega))
  have HQ7 := Lib.hid (HQ6.out.now hn (by omega))
  have HZ7 := Lib.hid (Nat.le_trans HZ6.out hn.1.size)
  clear ho hn
  go_wp2_with fail
  refine (high_t (N + 3) s 0 K K2 _ 0 _ HQ7.out h (Or.inl rfl) (by omega) (by have := HF.out; omega) Hk2.out (by omega)).mono ?_
  rintro e w8 ⟨rfl, o8, ho, hn⟩
  have HO8 := Lib.hid ho
  have HB8 := Lib.hid (Now.below HB7.out hn (by have := HZ7.out; omega) (by omega))
  have HQ8 := Lib.hid hn.2
  have HL8 := Lib.hid (HL7.out.now hn (by omega))
  have HH8 := Lib.hid (HH7.out.now hn (by omega))
  have HP8 := Lib.hid (HP7.out.now hn (by omega))
  have HZ8 := Lib.hid (Nat.le_trans HZ7.out hn.1.size)
  clear ho hn
  go_wp2_with fail
  refine (low_t N s (0 + K) A X _ o5 _ HL8.out h HO5.out (by omega) (by have := HF.out; omega) Hx.out (by omega)).mono ?_
  rintro e w9 ⟨rfl, o9, ho, hn⟩
  have HO9 := Lib.hid ho
  have HB9 := Lib.hid (Now.below HB8.out hn (by have := HZ8.out; omega) (by omega))
  have HL9 := Lib.hid hn.2
  have HH9 := Lib.hid (HH8.out.now hn (by omega))
  have HP9 := Lib.hid (HP8.out.now hn (by omega))
  have HQ9 := Lib.hid (HQ8.out.now hn (by omega))
  have HZ9 := Lib.hid (Nat.le_trans HZ8.out hn.1.size)
  clear ho hn
  go_wp2_with fail
  refine (low_t N s (0 + K + A) B Y _ o9 _ HL9.out h HO9.out (by omega) (by have := HF.out; omega) Hy.out (by omega)).mono ?_
  rintro e w10 ⟨rfl, o10, ho, hn⟩
  have HO10 := Lib.hid ho
  have HB10 := Lib.hid (Now.below HB9.out hn (by have := HZ9.out; omega) (by omega))
  have HL10 := Lib.hid hn.2
  have HH10 := Lib.hid (HH9.out.now hn (by omega))
  have HP10 := Lib.hid (HP9.out.now hn (by omega))
  have HQ10 := Lib.hid (HQ9.out.now hn (by omega))
  have HZ10 := Lib.hid (Nat.le_trans HZ9.out hn.1.size)
  clear ho hn
  go_wp2_with fail
  refine (low_t (N + 2) s (0 + K) (A + B) Z _ o6 _ HP10.out h HO6.out (by omega) (by have := HF.out; omega) Hz.out (by omega)).mono ?_
  rintro e w11 ⟨rfl, o11, ho, hn⟩
  have HO11 := Lib.hid ho
  have HB11 := Lib.hid (Now.below HB10.out hn (by have := HZ10.out; omega) (by omega))
  have HP11 := Lib.hid hn.2
  have HL11 := Lib.hid (HL10.out.now hn (by omega))
  have HH11 := Lib.hid (HH10.out.now hn (by omega))
  have HQ11 := Lib.hid (HQ10.out.now hn (by omega))
  have HZ11 := Lib.hid (Nat.le_trans HZ10.out hn.1.size)
  clear ho hn
  go_wp2_with fail
  refine (high_t (N + 1) s (0 + K) A U _ o7 _ HH11.out h HO7.out (by omega) (by have := HF.out; omega) Hu.out (by omega)).mono ?_
  rintro e w12 ⟨rfl, o12, ho, hn⟩
  have HO12 := Lib.hid ho
  have HB12 := Lib.hid (Now.below HB11.out hn (by have := HZ11.out; omega) (by omega))
  have HH12 := Lib.hid hn.2
  have HL12 := Lib.hid (HL11.out.now hn (by omega))
  have HP12 := Lib.hid (HP11.out.now hn (by omega))
  have HQ12 := Lib.hid (HQ11.out.now hn (by omega))
  have HZ12 := Lib.hid (Nat.le_trans HZ11.out hn.1.size)
  clear ho hn
  go_wp2_with fail
  refine (high_t (N + 1) s (0 + K + A) B V _ o12 _ HH12.out h HO12.out (by omega) (by have := HF.out; omega) Hv.out (by omega)).mono ?_
  rintro e w13 ⟨rfl, o13, ho, hn⟩
  have HO13 := Lib.hid ho
  have HB13 := Lib.hid (Now.below HB12.out hn (by have := HZ12.out; omega) (by omega))
  have HH13 := Lib.hid hn.2
  have HL13 := Lib.hid (HL12.out.now hn (by omega))
  have HP13 := Lib.hid (HP12.out.now hn (by omega))
  have HQ13 := Lib.hid (HQ12.out.now hn (by omega))
  have HZ13 := Lib.hid (Nat.le_trans HZ12.out hn.1.size)
  clear ho hn
  go_wp2_with fail
  refine (high_t (N + 3) s (0 + K) (A + B) W _ o8 _ HQ13.out h HO8.out (by omega) (by have := HF.out; omega) Hw.out (by omega)).mono ?_
  rintro e w14 ⟨rfl, o14, ho, hn⟩
  have HO14 := Lib.hid ho
  have HB14 := Lib.hid (Now.below HB13.out hn (by have := HZ13.out; omega) (by omega))
  have HQ14 := Lib.hid hn.2
  have HL14 := Lib.hid (HL13.out.now hn (by omega))
  have HH14 := Lib.hid (HH13.out.now hn (by omega))
  have HP14 := Lib.hid (HP13.out.now hn (by omega))
  have HZ14 := Lib.hid (Nat.le_trans HZ13.out hn.1.size)
  clear ho hn
  have hj1 := HJ1.out
  have hj2 := HJ2.out
  go_wp2_with fail
  refine (lives_any _).mono ?_
  rintro e w15 ⟨rfl, hb⟩
  go_wp2_with fail
  go_ret
  exact ⟨rfl, HB14.out.trans (hb.mono (by have := HZ14.out; omega))⟩
set_option maxRecDepth 100000 in
set_option maxHeartbeats 8000000 in
theorem joins_nofit (s : ByteArray) (c n m K A B : Nat) (w0 : World) (h : s.size ≤ 300) (hK : (c : Int) % 8 = (K : Int)) (hA : (n : Int) % 13 = (A : Int)) (hB : (m : Int) % 13 = (B : Int)) (k7 : K ≤ 7) (a12 : A ≤ 12) (b12 : B ≤ 12) (hfit : 8 * s.size < K + A + B) :
    Calls Try.prog 6 #[.string s, .int .u8 (c : Int), .int .u8 (n : Int), .int .u8 (m : Int)] w0 fun e w' => e = .returned (.bool true) ∧ Below w0.heap.size w0 w' := by
  obtain ⟨N, hN⟩ : ∃ N, w0.heap.size = N := ⟨_, rfl⟩
  have HB0 := Lib.hid (show Below N w0 w0 from Below.refl _ _)
  have HN0 := Lib.hid hN
  rw [hN]
  clear hN
  go_enter Try.func6, Try.ntmps6
  go_wp2_with fail
  refine (rfrom_c _ N w0 HN0.out).mono ?_
  rintro e w1 ⟨rfl, hg, hr, hz⟩
  have HB1 := Lib.hid (HB0.out.grown hg (Nat.le_of_eq HN0.out.symm) (fun k e => by cases e))
  have HL1 := Lib.hid hr
  have HN1 := Lib.hid hz
  clear hg hr hz
  go_wp2_with fail
  refine (rfrom_c _ (N + 1) w1 HN1.out).mono ?_
  rintro e w2 ⟨rfl, hg, hr, hz⟩
  have HB2 := Lib.hid (HB1.out.grown hg (by rw [HN1.out]; omega) (fun k e => by cases e))
  have HL2 := Lib.hid (HL1.out.grown hg (by simp))
  have HH2 := Lib.hid hr
  have HN2 := Lib.hid (show w2.heap.size = N + 2 from hz)
  clear hg hr hz
  go_wp2_with fail
  refine (rfrom_c _ (N + 2) w2 HN2.out).mono ?_
  rintro e w3 ⟨rfl, hg, hr, hz⟩
  have HB3 := Lib.hid (HB2.out.grown hg (by rw [HN2.out]; omega) (fun k e => by cases e))
  have HL3 := Lib.hid (HL2.out.grown hg (by simp))
  have HH3 := Lib.hid (HH2.out.grown hg (by simp))
  have HP3 := Lib.hid hr
  have HN3 := Lib.hid (show w3.heap.size = N + 3 from hz)
  clear hg hr hz
  go_wp2_with fail
  refine (rfrom_c _ (N + 3) w3 HN3.out).mono ?_
  rintro e w4 ⟨rfl, hg, hr, hz⟩
  have HB4 := Lib.hid (HB3.out.grown hg (by rw [HN3.out]; omega) (fun k e => by cases e))
  have HL4 := Lib.hid (HL3.out.grown hg (by simp))
  have HH4 := Lib.hid (HH3.out.grown hg (by simp))
  have HP4 := Lib.hid (HP3.out.grown hg (by simp))
  have HQ4 := Lib.hid hr
  have HN4 := Lib.hid (show w4.heap.size = N + 4 from hz)
  clear hg hr hz
  go_wp2_with fail
  refine (lives_any _).mono ?_
  rintro e w5 ⟨rfl, hb⟩
  go_wp2_with fail
  go_ret
  exact ⟨rfl, HB4.out.trans (hb.mono (by rw [HN4.out]; omega))⟩

theorem joins_any (s : ByteArray) (c n m : Int) (w : World) (hc : 0 ≤ c ∧ c ≤ 255) (hn : 0 ≤ n ∧ n ≤ 255) (hm : 0 ≤ m ∧ m ≤ 255) :
    Calls Try.prog 6 #[.string s, .int .u8 c, .int .u8 n, .int .u8 m] w fun e w' => e = .returned (.bool true) ∧ Below w.heap.size w w' := by
  obtain ⟨c, rfl⟩ := Int.eq_ofNat_of_zero_le hc.1
  obtain ⟨n, rfl⟩ := Int.eq_ofNat_of_zero_le hn.1
  obtain ⟨m, rfl⟩ := Int.eq_ofNat_of_zero_le hm.1
  by_cases h : s.size ≤ 300
  · by_cases hf : c % 8 + n % 13 + m % 13 ≤ 8 * s.size
    · exact joins_fit s c n m (c % 8) (n % 13) (m % 13) w h (by omega) (by omega) (by omega) (by omega) (by omega) (by omega) hf
    · exact joins_nofit s c n m (c % 8) (n % 13) (m % 13) w h (by omega) (by omega) (by omega) (by omega) (by omega) (by omega) (by omega)
  · exact joins_long s c n m w (by omega)
theorem byte_wf {n : Int} (h : (Lit.int .u8 n).wf = true) : 0 ≤ n ∧ n ≤ 255 := by
  simp [Lit.wf, IntKind.min, IntKind.max, IntKind.signed, IntKind.bits] at h
  omega

/-! ### The row. -/
theorem bitJoins_laidOut : laidOutB Try.prog = true := by kernel_rfl
theorem bitJoins_own : ownKnob Try.prog.godebug = none := by kernel_rfl
theorem bitJoins_types (t : TypeId) (ht : t ∈ Try.f6.params.toList) : Try.prog.readableRec t = true ∧ t < Try.prog.types.size := by
  rw [Try.params6] at ht
  simp only [List.mem_cons, List.not_mem_nil, or_false] at ht
  rcases ht with rfl | rfl | rfl | rfl
  · exact ⟨by kernel_rfl, of_decide_eq_true (by kernel_rfl)⟩
  · exact ⟨by kernel_rfl, of_decide_eq_true (by kernel_rfl)⟩
  · exact ⟨by kernel_rfl, of_decide_eq_true (by kernel_rfl)⟩
  · exact ⟨by kernel_rfl, of_decide_eq_true (by kernel_rfl)⟩
theorem bitJoins_fn {H : Type} (ds' : List (DataW H)) (h : ds'.length = Try.f6.params.size) : Rows.bitJoinsSpec.fn H ds' = { results := [.lit (.bool true)], args := ds' } := by
  have h' : ds'.length = 4 := h.trans (by kernel_rfl)
  match ds', h' with
  | [_, _, _, _], _ => rfl

set_option maxRecDepth 100000 in
theorem bitJoins_lifted (os : Os) (started : os.Started) (H : Type) (enc : TypeId × Value → H) :
    ReturnsInHanded {} Try.checked os 6 .any (Rows.bitJoinsSpec.pre6 enc Try.prog Try.f6 Rows.bitJoinsRow.domain false) (Rows.bitJoinsSpec.post enc Try.prog Try.f6 false true false false) := by
  refine returnsInHanded_of_change_shaped (C := Try.checked) bitJoins_own started (by kernel_rfl) Try.func6
    (ChangeSpec.witness6 (enc := enc) (C := Try.checked) false ⟨#[], #[.string ⟨#[]⟩, .int .u8 0, .int .u8 0, .int .u8 0], []⟩ 8 (by kernel_rfl) (by kernel_rfl) (by kernel_rfl) (by kernel_rfl)) ?_
  intro W base args ds gs before hval0 hW hcnd0 _ hsh _
  have hval : ∀ (j : Nat) t v, Try.f6.params[j]? = some t → args[j]? = some v → Value.okWide Try.prog W .any base t v := hval0
  have hW' := hW
  obtain ⟨p, q, hA0, hV, rfl, hfz, hnd⟩ := hW
  have hA : DataW.TrodAll enc Try.prog W 0 (fun _ => true) true Try.f6.params.toList args.toList ds p := hA0
  rw [Try.params6] at hA hval
  obtain ⟨v0, vs0, d0, ds0, p0, q0, hargs, rfl, rfl, h0, r0⟩ := trodAll_cons hA
  obtain ⟨v1, vs1, d1, ds1, p1, q1, rfl, rfl, rfl, h1, r1⟩ := trodAll_cons r0
  obtain ⟨v2, vs2, d2, ds2, p2, q2, rfl, rfl, rfl, h2, r2⟩ := trodAll_cons r1
  obtain ⟨v3, vs3, d3, ds3, p3, q3, rfl, rfl, rfl, h3, r3⟩ := trodAll_cons r2
  obtain ⟨rfl, rfl, rfl⟩ := trodAll_nil r3
  obtain rfl : args = #[v0, v1, v2, v3] := by cases args; simp_all
  obtain ⟨rfl, rfl⟩ := trodVars_none hV
  obtain ⟨a0, rfl, rfl, rfl, w0⟩ := Go.ChangeMaps.open_string Try.underlying9 (hval 0 9 v0 rfl rfl) h0
  obtain ⟨a1, rfl, rfl, rfl, w1⟩ := open_int Try.underlying5 (hval 1 5 v1 rfl rfl) h1
  obtain ⟨a2, rfl, rfl, rfl, w2⟩ := open_int Try.underlying5 (hval 2 5 v2 rfl rfl) h2
  obtain ⟨a3, rfl, rfl, rfl, w3⟩ := open_int Try.underlying5 (hval 3 5 v3 rfl rfl) h3
  clear hA0 hval0
  refine (joins_any a0 a1 a2 a3 W (byte_wf w1) (byte_wf w2) (byte_wf w3)).mono fun e W' ⟨he, hb⟩ => ?_
  subst he
  exact ⟨_, rfl, post_keep bitJoins_laidOut (fun t ht => bitJoins_types t ht) rfl hW' (fun ds' hds => bitJoins_fn ds' hds) (by kernel_rfl) Try.underlying4 hb⟩

theorem bitJoins_holds : Rows.BitJoinsSaid :=
  OpenClaim.holds_of_wide 6 Try.f6 rfl rfl rfl rfl rfl rfl rfl ⟨rfl, rfl, rfl, rfl, rfl⟩ rfl rfl rfl rfl rfl (by kernel_rfl) Try.func6 (by kernel_rfl)
    (of_decide_eq_true (by kernel_rfl)) (by unfold Func.isWrapper; first | (rw [if_pos (by decide +kernel)]; kernel_rfl) | (rw [if_neg (by decide +kernel)]; exact ⟨rfl, rfl⟩))
    (fun os started H enc _ => bitJoins_lifted os started H enc)
end Go.Proofs.Ytcgejhlhbokpiaa
