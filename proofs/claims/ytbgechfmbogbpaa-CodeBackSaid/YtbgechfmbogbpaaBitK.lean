/-
  The walks of a writer of bit's: Low, High.
-/
import Derived.Test.YtbgechfmbogbpaaBitJ
namespace Go.Proofs.Ytbgechfmbogbpaa
open Go.RowKit Bt

theorem wbegin_c (B g : Nat) (r : Option Nat) (l : List UInt8) (p : Nat) (ord v n o E P : Int) (w : World) (h : Wr 77 B w g r l p ord) (hE : wrE ord v n o = E) (hP : wrO ord v n o = P) :
    Calls Try.prog 59 #[.pointer (some ⟨g, 0, none⟩), .int .i64 v, .int .i64 n, .int .i64 o] w fun e w' => e = .returned (.int .i64 E) ∧ Wrote 77 B w g r l p P w' := by
  subst hE hP
  exact wbegin_any B g r l p ord v n o w h

/-- What Low (o = 1) and High (o = 2) of a writer come to. -/
def Put (T : TypeId) (B : Nat) (w : World) (g : Nat) (r : Option Nat) (l : List UInt8) (p : Nat) (ord v n o : Int) (e : Ending) (w' : World) : Prop :=
  e = .returned (.int .i64 (wrE ord v n o)) ∧ Wrote T B w g r (wrL l p ord v n o) (wrP p ord v n o) (wrO ord v n o) w'
theorem put_of {T : TypeId} {B : Nat} {w : World} {g : Nat} {r : Option Nat} {l l' : List UInt8} {p p' : Nat} {ord v n o x q : Int} {w' : World} (hE : wrE ord v n o = x) (hL : wrL l p ord v n o = l') (hP : wrP p ord v n o = p') (hO : wrO ord v n o = q)
    (h : Wrote T B w g r l' p' q w') : Put T B w g r l p ord v n o (.returned (.int .i64 x)) w' := by
  subst hE hL hP hO
  exact ⟨rfl, h⟩

theorem bit_low (V m k : Nat) (hV : V < 16777216) : bits .and .i64 ((V : Int) / 2 ^ k) 1 = ((bitO 1 V m k : Nat) : Int) := by
  have e : ((V : Int) / 2 ^ k) = ((V / 2 ^ k : Nat) : Int) := by rw [Int.natCast_ediv]; congr 1
  have hd : V / 2 ^ k ≤ V := Nat.div_le_self _ _
  unfold bitO
  rw [e, if_neg (by decide)]
  generalize V / 2 ^ k = y at *
  rw [show (1 : Int) = ((1 : Nat) : Int) from rfl, i64_and_nat y 1 (by omega) (by decide), Nat.and_one_is_mod]
theorem bit_high (V m k j : Nat) (hV : V < 16777216) (hj : m - 1 - k = j) : bits .and .i64 ((V : Int) / 2 ^ j) 1 = ((bitO 2 V m k : Nat) : Int) := by
  have e : ((V : Int) / 2 ^ j) = ((V / 2 ^ j : Nat) : Int) := by rw [Int.natCast_ediv]; congr 1
  have hd : V / 2 ^ j ≤ V := Nat.div_le_self _ _
  unfold bitO
  rw [e, if_pos rfl, hj]
  generalize V / 2 ^ j = y at *
  rw [show (1 : Int) = ((1 : Nat) : Int) from rfl, i64_and_nat y 1 (by omega) (by decide), Nat.and_one_is_mod]

theorem puts_next {T : TypeId} {B : Nat} {w wr w3 : World} {g : Nat} {r r2 : Option Nat} {l : List UInt8} {p k : Nat} {o : Int} {f : Nat → Nat} {b : Nat} (hr : r2 = r ∨ ∃ j, r2 = some j ∧ w.heap.size ≤ j) (ht : Two w wr g r) (hb : f k = b)
    (h : Wrote T B wr g r2 (put1 o (puts o l p f k) ((p + k) % 8) b) (((p + k) % 8 + 1) % 8) o w3) :
    ∃ r3, (r3 = r ∨ ∃ j, r3 = some j ∧ w.heap.size ≤ j) ∧ Two w w3 g r ∧ Wr T B w3 g r3 (puts o l p f (k + 1)) ((p + (k + 1)) % 8) o := by
  subst hb
  obtain ⟨r3, h1, h2, h3⟩ := Wrote.then hr ht h
  refine ⟨r3, h1, h3, ?_⟩
  rw [show (p + (k + 1)) % 8 = ((p + k) % 8 + 1) % 8 by omega]
  exact h2

set_option maxHeartbeats 2000000 in
theorem wlow_any (B g : Nat) (r : Option Nat) (l : List UInt8) (p : Nat) (ord v n : Int) (w : World) (hll : l.length ≤ 900000) (hBw : B ≤ w.heap.size) (h : Wr 77 B w g r l p ord) (hf : Fit ord l p) :
    Calls Try.prog 46 #[.pointer (some ⟨g, 0, none⟩), .int .i64 v, .int .i64 n] w (Put 77 B w g r l p ord v n 1) := by
  have H := Lib.hid h
  have HF := Lib.hid hf
  clear h hf
  by_cases hb : wbad ord v n 1 = true
  · have R := Lib.hid (wr_bad hb l p)
    clear hb
    go_enter Try.func46, Try.ntmps46
    go_wp2_with fail
    refine (wbegin_c B g r l p ord v n 1 1 ord w H.out R.out.1 R.out.2.2.2).mono ?_
    rintro e w1 ⟨rfl, hn⟩
    have HN := Lib.hid hn
    clear hn
    go_wp2
    go_ret
    exact put_of R.out.1 R.out.2.1 R.out.2.2.1 R.out.2.2.2 HN.out
  have hb' : wbad ord v n 1 = false := by simpa using hb
  have R := Lib.hid (wr_ok hb' l p)
  obtain ⟨hbd, hv0, hv1⟩ := wbad_no hb'
  obtain ⟨hn0, hn1, hor⟩ := bad_no hbd
  obtain ⟨m, rfl⟩ := Int.eq_ofNat_of_zero_le hn0
  obtain ⟨V, rfl⟩ := Int.eq_ofNat_of_zero_le hv0
  have hV : V < 16777216 := by
    have h2p := two_pow_le (m := m) (by omega)
    have : ((V : Nat) : Int) < 2 ^ m := hv1
    omega
  obtain ⟨q, hq⟩ : ∃ q : Int, (if 0 < ((m : Nat) : Int) then (1 : Int) else ord) = q := ⟨_, rfl⟩
  have R4 := Lib.hid (R.out.2.2.2.trans hq)
  have HQ : Hid (0 < m → q = 1) := Lib.hid (fun h => by rw [← hq, if_pos (by omega)])
  have HO : Hid (0 < p → ord = 1) := Lib.hid (fun hp => by rcases (HF.out.2 hp).2.1 with e | e <;> omega)
  clear hb hb' hbd hq hor hv1
  go_enter Try.func46, Try.ntmps46
  go_wp2_with fail
  refine (wbegin_c B g r l p ord V m 1 0 q w H.out R.out.1 R4.out).mono ?_
  rintro e w1 ⟨rfl, r1, hr1, hw1, ht1⟩
  have HR := Lib.hid hr1
  have HW := Lib.hid hw1
  have HT := Lib.hid ht1
  clear hr1 hw1 ht1
  go_wp2
  go_loopw [17] (fun i wr => ∃ (k : Nat) (r2 : Option Nat), k ≤ m ∧ i = .int .i64 k ∧ (r2 = r ∨ ∃ j, r2 = some j ∧ w.heap.size ≤ j) ∧ Two w wr g r ∧ Wr 77 B wr g r2 (puts 1 l p (bitO 1 V m) k) ((p + k) % 8) q) (fun i _ => m - (intOf i).toNat)
  case atStart => exact ⟨0, r1, Nat.zero_le _, rfl, HR.out, HT.out, by rw [Nat.add_zero, Nat.mod_eq_of_lt HF.out.1]; exact HW.out⟩
  case round =>
    obtain ⟨k, r2, hk, rfl, hr2, ht2, hw2⟩ := hrel
    have HR2 := Lib.hid hr2
    have HT2 := Lib.hid ht2
    have HW2 := Lib.hid hw2
    clear hr2 ht2 hw2
    by_cases hlt : k < m
    · have hbit := bit_low V m k hV
      have HQ1 := Lib.hid (HQ.out (by omega))
      have HL : Hid ((puts 1 l p (bitO 1 V m) k).length ≤ 1000000) := Lib.hid (by have := puts_le (o := 1) (l := l) (p := p) (f := bitO 1 V m) k; omega)
      have HFk := Lib.hid (fit_puts0 (f := bitO 1 V m) HF.out HO.out (Or.inl rfl) (fun _ => bitO_lt _ _ _ _) k)
      have HOk : Hid (0 < (p + k) % 8 → (if k = 0 then ord else 1) = 1) := Lib.hid (fun hp => by
        split
        · rename_i h0; subst h0; exact HO.out (by omega)
        · rfl)
      obtain ⟨b, hb⟩ : ∃ b, bitO 1 V m k = b := ⟨_, rfl⟩
      have hb2 : b < 2 := by rw [← hb]; exact bitO_lt _ _ _ _
      rw [hb] at hbit
      have HB := Lib.hid hb
      clear hb
      have HBw : Hid (B ≤ wr.heap.size) := Lib.hid (Nat.le_trans hBw HT2.out.size)
      have HW3 : Hid (Wr 77 B wr g r2 (puts 1 l p (bitO 1 V m) k) ((p + k) % 8) 1) := Lib.hid (by have h := HW2.out; rw [HQ1.out] at h; exact h)
      go_wp2_with (go_at_call 60; refine (wnext_any B g r2 _ _ _ 1 b _ hb2 HL.out HBw.out HW3.out HFk.out HOk.out (Or.inl rfl)).mono ?_; rintro e w3 ⟨rfl, hn3⟩; have HN3 := Lib.hid hn3; clear hn3)
      obtain ⟨r3, hr3, ht3, hw3⟩ := puts_next (f := bitO 1 V m) HR2.out HT2.out HB.out HN3.out
      go_roundw
      case rel => exact ⟨k + 1, r3, by omega, by go_num, hr3, ht3, by rw [HQ1.out]; exact hw3⟩
      case measure => simp [intOf]; omega
    · obtain rfl : k = m := by omega
      go_wp2
      go_ret
      exact put_of R.out.1 R.out.2.1 R.out.2.2.1 R4.out ⟨r2, HR2.out, HW2.out, HT2.out⟩
end Go.Proofs.Ytbgechfmbogbpaa
