/-
  BitWrites: for every l the law returns true: every sequence of calls on a writer answers as the document says (no condition on l).
-/
import Derived.Test.YtcgejhlhbokpiaaBitQ
import Derived.Test.YtcgejhlhbokpiaaRowKeep
import Derived.HandedShaped
namespace Go.Proofs.Ytcgejhlhbokpiaa
open Go.ChangeShapes Go.WideShapes Go.ChangeAt Go.RowKit Go.Deep Bt

/-- The program's writer (block N, row r1) and the document's (block N + 1, row r2), which hold the same. -/
def Pair (w0 w : World) (N : Nat) (r1 r2 : Option Nat) (l1 : List UInt8) (p1 : Nat) (o1 : Int) (l2 : List UInt8) (p2 : Nat) (o2 : Int) : Prop :=
  Below N w0 w ∧ N + 2 ≤ w.heap.size ∧ Wr 60 N w N r1 l1 p1 o1 ∧ Wr 62 N w (N + 1) r2 l2 p2 o2 ∧ r1 ≠ some (N + 1) ∧ r2 ≠ some N ∧ (r1 = none ∨ r1 ≠ r2)
section
variable {w0 w w' : World} {N : Nat} {r1 r2 : Option Nat} {l1 l2 l : List UInt8} {p1 p2 p : Nat} {o1 o2 o : Int}
theorem Pair.first (h : Pair w0 w N r1 r2 l1 p1 o1 l2 p2 o2) (hw : Wrote 60 N w N r1 l p o w') : ∃ r, Pair w0 w' N r r2 l p o l2 p2 o2 := by
  obtain ⟨hb, hz, h1, h2, n1, n2, n3⟩ := h
  obtain ⟨r, hr, hw', ht⟩ := hw
  have hn3 : r2 = none ∨ r2 ≠ r1 := by
    rcases n3 with e | e
    · rw [e]; cases r2
      · exact Or.inl rfl
      · exact Or.inr (by simp)
    · exact Or.inr (fun h => e h.symm)
  refine ⟨r, hb.trans (ht.below (by omega) (Nat.le_refl _) (fun k hk => (h1.row_in k hk).1)), Nat.le_trans hz ht.size, hw', h2.two ht (by omega) (fun e => n1 e.symm) n2 hn3, ?_, n2, ?_⟩
  · rcases hr with rfl | ⟨k, rfl, hk⟩
    · exact n1
    · intro e; injection e; omega
  · rcases hr with rfl | ⟨k, rfl, hk⟩
    · exact n3
    · exact Or.inr (fun e => by have := (h2.row_in k e.symm).2; omega)
theorem Pair.second (h : Pair w0 w N r1 r2 l1 p1 o1 l2 p2 o2) (hw : Wrote 62 N w (N + 1) r2 l p o w') : ∃ r, Pair w0 w' N r1 r l1 p1 o1 l p o := by
  obtain ⟨hb, hz, h1, h2, n1, n2, n3⟩ := h
  obtain ⟨r, hr, hw', ht⟩ := hw
  refine ⟨r, hb.trans (ht.below (by omega) (by omega) (fun k hk => (h2.row_in k hk).1)), Nat.le_trans hz ht.size, h1.two ht (by omega) (fun e => n2 e.symm) n1 n3, hw', n1, ?_, ?_⟩
  · rcases hr with rfl | ⟨k, rfl, hk⟩
    · exact n2
    · intro e; injection e; omega
  · rcases hr with rfl | ⟨k, rfl, hk⟩
    · exact n3
    · rcases h3 : r1 with _ | j
      · exact Or.inl rfl
      · exact Or.inr (fun e => by injection e with e; have := (h1.row_in j h3).2; omega)
end

theorem wraw_c (B g : Nat) (r : Option Nat) (l : List UInt8) (p : Nat) (o o2 : Int) (s : ByteArray) (w : World) (hll : l.length ≤ 900000) (hs : s.size ≤ 100000000000) (hBw : B ≤ w.heap.size) (h : Wr 60 B w g r l p o) (ho : (if 0 < p then 0 else o) = o2) :
    Calls Try.prog 31 #[.pointer (some ⟨g, 0, none⟩), .string s] w fun e w' => e = .returned (.tuple #[]) ∧ Wrote 60 B w g r (l ++ s.data.toList) 0 o2 w' := by
  subst ho
  exact wraw_any B g r l p o s w hll hs hBw h
theorem vraw_c (B g : Nat) (r : Option Nat) (l : List UInt8) (p : Nat) (o o2 : Int) (s : ByteArray) (w : World) (hll : l.length ≤ 900000) (hs : s.size ≤ 100000000000) (hBw : B ≤ w.heap.size) (h : Wr 62 B w g r l p o) (ho : (if 0 < p then 0 else o) = o2) :
    Calls Try.prog 32 #[.pointer (some ⟨g, 0, none⟩), .string s] w fun e w' => e = .returned (.tuple #[]) ∧ Wrote 62 B w g r (l ++ s.data.toList) 0 o2 w' := by
  subst ho
  exact vraw_any B g r l p o s w hll hs hBw h

theorem Wrote.of_drew {T : TypeId} {B : Nat} {w w1 : World} {g : Nat} {r : Option Nat} {l : List UInt8} {p : Nat} {o : Int} (h : Wrote T B w.drew g r l p o w1) : Wrote T B w g r l p o w1 := by
  obtain ⟨r', hr, hw, ht⟩ := h
  exact ⟨r', hr, hw, ⟨ht.os, ht.tape, ht.output, ht.size, ht.block⟩⟩

set_option maxRecDepth 100000 in
set_option maxHeartbeats 2000000 in
theorem writes_many (A : Option Addr) (cap : Nat) (xs : List Call) (w : World) (h2 : 60 < xs.length) :
    Calls Try.prog 4 #[.slice A xs.length cap] w fun e w' => e = .returned (.bool true) ∧ Below w.heap.size w w' := by
  go_enter Try.func4, Try.ntmps4
  go_wp2_with fail
  refine (lives_any _).mono ?_
  rintro e w1 ⟨rfl, hb⟩
  go_wp2_with fail
  go_ret
  exact ⟨rfl, hb⟩

set_option maxRecDepth 100000 in
set_option maxHeartbeats 32000000 in
theorem writes_short (A : Option Addr) (cap : Nat) (xs : List Call) (w0 : World) (h2 : xs.length ≤ 60) (hx : Asked w0 A xs) :
    Calls Try.prog 4 #[.slice A xs.length cap] w0 fun e w' => e = .returned (.bool true) ∧ Below w0.heap.size w0 w' := by
  obtain ⟨N, hN⟩ : ∃ N, w0.heap.size = N := ⟨_, rfl⟩
  have HB0 := Lib.hid (show Below N w0 w0 from Below.refl _ _)
  have HN0 := Lib.hid hN
  have HXs := Lib.hid hx
  rw [hN]
  clear hN hx
  go_enter Try.func4, Try.ntmps4
  go_wp2_with fail
  refine (wnew_c N N w0 (Nat.le_of_eq HN0.out.symm) HN0.out).mono ?_
  rintro e w1 ⟨rfl, hg, hw, hz⟩
  have HB1 := Lib.hid (HB0.out.grown hg (Nat.le_of_eq HN0.out.symm) (fun k e => by cases e))
  have HW1 := Lib.hid hw
  have HN1 := Lib.hid hz
  clear hg hw hz
  go_wp2_with fail
  refine (vnew_c N (N + 1) w1 (by have := HN1.out; omega) HN1.out).mono ?_
  rintro e w2 ⟨rfl, hg, hw, hz⟩
  have HPs : Hid (Pair w0 w2 N none none [] 0 0 [] 0 0) := Lib.hid ⟨HB1.out.grown hg (by rw [HN1.out]; omega) (fun k e => by cases e), by rw [hz]; omega, HW1.out.grown hg (by simp) (Or.inl rfl), hw, by simp, by simp, Or.inl rfl⟩
  clear hg hw hz
  go_wp2_with fail
  go_loopw [5] (fun i wr => ∃ (k : Nat) (r1 r2 : Option Nat) (l : List UInt8) (p : Nat) (o : Int), k ≤ xs.length ∧ i = .int .i64 k ∧ l.length ≤ 400 * k ∧ Fit o l p ∧ Pair w0 wr N r1 r2 l p o l p o) (fun i _ => xs.length - (intOf i).toNat)
  case atStart => exact ⟨0, none, none, [], 0, 0, Nat.zero_le _, rfl, by simp, fit_zero _ _, HPs.out⟩
  case round =>
    clear HB0 HB1 HW1 HN1 HPs
    obtain ⟨k, r1, r2, l, p, o, hk, rfl, hl, hf, hp⟩ := hrel
    have HL := Lib.hid hl
    have HF := Lib.hid hf
    have HP := Lib.hid hp
    clear hl hf hp
    by_cases hlt : k < xs.length
    · obtain ⟨b, off, hA, hbl, e0, e1, e2, e3⟩ := HXs.out k hlt
      subst hA
      have hbN : b < N := by rw [← HN0.out]; exact hbl
      obtain ⟨d, hd⟩ : ∃ d, (xs[k]'hlt).d = d := ⟨_, rfl⟩
      obtain ⟨n, hn⟩ : ∃ n, (xs[k]'hlt).n = n := ⟨_, rfl⟩
      obtain ⟨v, hv⟩ : ∃ v, (xs[k]'hlt).v = v := ⟨_, rfl⟩
      obtain ⟨s, hs⟩ : ∃ s, (xs[k]'hlt).s = s := ⟨_, rfl⟩
      rw [hd] at e0
      rw [hn] at e1
      rw [hv] at e2
      rw [hs] at e3
      have rd : ∀ (w : World), Below N w0 w → w.cell? ⟨b, off + k * 4, none⟩ = some (.int .i64 d) ∧ w.cell? ⟨b, off + k * 4 + 1, none⟩ = some (.int .i64 n) ∧ w.cell? ⟨b, off + k * 4 + 2, none⟩ = some (.int .i64 v) ∧ w.cell? ⟨b, off + k * 4 + 3, none⟩ = some (.string s) := fun _ hb =>
        ⟨(hb.cell (p := ⟨b, _, none⟩) hbN).trans e0, (hb.cell (p := ⟨b, _, none⟩) hbN).trans e1, (hb.cell (p := ⟨b, _, none⟩) hbN).trans e2, (hb.cell (p := ⟨b, _, none⟩) hbN).trans e3⟩
      have RD := Lib.hid rd
      obtain ⟨c0, c1, c2, c3⟩ := rd _ HP.out.1
      have HZ : Hid (N ≤ wr.heap.size) := Lib.hid (by have := HP.out.2.1; omega)
      clear rd e0 e1 e2 e3 hd hn hv hs hbl
      by_cases hsz : 300 < s.size
      · go_wp2_with fail
        refine (lives_any _).mono ?_
        rintro e w9 ⟨rfl, hb⟩
        go_wp2_with fail
        go_ret
        exact ⟨rfl, HP.out.1.trans (hb.mono HZ.out)⟩
      have HL9 : Hid (l.length ≤ 900000) := Lib.hid (by have := HL.out; omega)
      by_cases hd0 : d = 0
      · subst hd0
        obtain ⟨E, hE⟩ : ∃ E, wrE o v n 1 = E := ⟨_, rfl⟩
        obtain ⟨l2, hL⟩ : ∃ l2, wrL l p o v n 1 = l2 := ⟨_, rfl⟩
        obtain ⟨p2, hP⟩ : ∃ p2, wrP p o v n 1 = p2 := ⟨_, rfl⟩
        obtain ⟨o2, hO⟩ : ∃ o2, wrO o v n 1 = o2 := ⟨_, rfl⟩
        have HF2 : Hid (Fit o2 l2 p2) := Lib.hid (by rw [← hL, ← hP, ← hO]; exact wr_fit HF.out (Or.inl rfl))
        have HL2 : Hid (l2.length ≤ 400 * (k + 1)) := Lib.hid (by rw [← hL]; have h1 := wr_le (l := l) (p := p) (ord := o) (v := v) (n := n) (o := 1); have := HL.out; omega)
        have He := Lib.hid hE
        have Hl := Lib.hid hL
        have Hp := Lib.hid hP
        have Ho := Lib.hid hO
        clear hE hL hP hO
        go_wp2_with fail
        go_region_held3 (fun w' => w'.cell? ⟨b, off + k * 4 + 2, none⟩ = some (.int .i64 v) ∧ w'.cell? ⟨b, off + k * 4 + 1, none⟩ = some (.int .i64 n)) (first | exact ⟨c2, c1⟩ | exact ⟨(RD.out _ HPa.out.1).2.2.1, (RD.out _ HPa.out.1).2.1⟩ | exact ⟨(RD.out _ HPb.out.1).2.2.1, (RD.out _ HPb.out.1).2.1⟩)
          ((first
            | (go_at_call 25; refine (wlow_c N N r1 l l2 p p2 o v n E o2 _ HL9.out (by exact HZ.out) (by exact HP.out.2.2.1) HF.out He.out Hl.out Hp.out Ho.out).mono ?_; rintro e wa ⟨rfl, hw⟩; obtain ⟨ra, hpa⟩ := HP.out.first (by first | exact hw | exact Wrote.of_drew hw); have HPa := Lib.hid hpa; clear hw hpa)
            | (go_at_call 26; refine (vlow_c N (N + 1) r2 l l2 p p2 o v n E o2 _ HL9.out (by have := HPa.out.2.1; first | omega | (show N ≤ wa.heap.size; omega)) (by exact HPa.out.2.2.2.1) HF.out He.out Hl.out Hp.out Ho.out).mono ?_; rintro e wb ⟨rfl, hw⟩; obtain ⟨rb, hpb⟩ := HPa.out.second (by first | exact hw | exact Wrote.of_drew hw); have HPb := Lib.hid hpb; clear hw hpb)))
        go_wp2_with fail
        refine (wlen_any N N _ l2 p2 o2 _ HPb.out.2.2.1).mono ?_
        rintro e w' ⟨rfl, rfl⟩
        go_wp2_with fail
        refine (vlen_any N (N + 1) _ l2 p2 o2 _ HPb.out.2.2.2.1).mono ?_
        rintro e w' ⟨rfl, rfl⟩
        go_wp2_with fail
        refine (wtext_any N N _ l2 p2 o2 _ HPb.out.2.2.1).mono ?_
        rintro e w' ⟨rfl, rfl⟩
        go_wp2_with fail
        refine (vtext_any N (N + 1) _ l2 p2 o2 _ HPb.out.2.2.2.1).mono ?_
        rintro e w' ⟨rfl, rfl⟩
        go_wp2_with fail
        go_roundw
        case rel => exact ⟨k + 1, _, _, l2, p2, o2, by omega, by go_num, HL2.out, HF2.out, HPb.out⟩
        case measure => simp [intOf]; omega
      by_cases hd1 : d = 1
      · subst hd1
        obtain ⟨E, hE⟩ : ∃ E, wrE o v n 2 = E := ⟨_, rfl⟩
        obtain ⟨l2, hL⟩ : ∃ l2, wrL l p o v n 2 = l2 := ⟨_, rfl⟩
        obtain ⟨p2, hP⟩ : ∃ p2, wrP p o v n 2 = p2 := ⟨_, rfl⟩
        obtain ⟨o2, hO⟩ : ∃ o2, wrO o v n 2 = o2 := ⟨_, rfl⟩
        have HF2 : Hid (Fit o2 l2 p2) := Lib.hid (by rw [← hL, ← hP, ← hO]; exact wr_fit HF.out (Or.inr rfl))
        have HL2 : Hid (l2.length ≤ 400 * (k + 1)) := Lib.hid (by rw [← hL]; have h1 := wr_le (l := l) (p := p) (ord := o) (v := v) (n := n) (o := 2); have := HL.out; omega)
        have He := Lib.hid hE
        have Hl := Lib.hid hL
        have Hp := Lib.hid hP
        have Ho := Lib.hid hO
        clear hE hL hP hO
        go_wp2_with fail
        go_region_held3 (fun w' => w'.cell? ⟨b, off + k * 4 + 2, none⟩ = some (.int .i64 v) ∧ w'.cell? ⟨b, off + k * 4 + 1, none⟩ = some (.int .i64 n)) (first | exact ⟨c2, c1⟩ | exact ⟨(RD.out _ HPa.out.1).2.2.1, (RD.out _ HPa.out.1).2.1⟩ | exact ⟨(RD.out _ HPb.out.1).2.2.1, (RD.out _ HPb.out.1).2.1⟩)
          ((first
            | (go_at_call 27; refine (whigh_c N N r1 l l2 p p2 o v n E o2 _ HL9.out (by exact HZ.out) (by exact HP.out.2.2.1) HF.out He.out Hl.out Hp.out Ho.out).mono ?_; rintro e wa ⟨rfl, hw⟩; obtain ⟨ra, hpa⟩ := HP.out.first (by first | exact hw | exact Wrote.of_drew hw); have HPa := Lib.hid hpa; clear hw hpa)
            | (go_at_call 28; refine (vhigh_c N (N + 1) r2 l l2 p p2 o v n E o2 _ HL9.out (by have := HPa.out.2.1; first | omega | (show N ≤ wa.heap.size; omega)) (by exact HPa.out.2.2.2.1) HF.out He.out Hl.out Hp.out Ho.out).mono ?_; rintro e wb ⟨rfl, hw⟩; obtain ⟨rb, hpb⟩ := HPa.out.second (by first | exact hw | exact Wrote.of_drew hw); have HPb := Lib.hid hpb; clear hw hpb)))
        go_wp2_with fail
        refine (wlen_any N N _ l2 p2 o2 _ HPb.out.2.2.1).mono ?_
        rintro e w' ⟨rfl, rfl⟩
        go_wp2_with fail
        refine (vlen_any N (N + 1) _ l2 p2 o2 _ HPb.out.2.2.2.1).mono ?_
        rintro e w' ⟨rfl, rfl⟩
        go_wp2_with fail
        refine (wtext_any N N _ l2 p2 o2 _ HPb.out.2.2.1).mono ?_
        rintro e w' ⟨rfl, rfl⟩
        go_wp2_with fail
        refine (vtext_any N (N + 1) _ l2 p2 o2 _ HPb.out.2.2.2.1).mono ?_
        rintro e w' ⟨rfl, rfl⟩
        go_wp2_with fail
        go_roundw
        case rel => exact ⟨k + 1, _, _, l2, p2, o2, by omega, by go_num, HL2.out, HF2.out, HPb.out⟩
        case measure => simp [intOf]; omega
      by_cases hd2 : d = 2
      · subst hd2
        go_wp2_with fail
        refine (walign_any N N r1 l p o _ HP.out.2.2.1).mono ?_
        rintro e wa ⟨rfl, hw⟩
        obtain ⟨ra, hpa⟩ := HP.out.first hw
        have HPa := Lib.hid hpa
        clear hw hpa
        go_wp2_with fail
        refine (valign_any N (N + 1) r2 l p o _ HPa.out.2.2.2.1).mono ?_
        rintro e wb ⟨rfl, hw⟩
        obtain ⟨rb, hpb⟩ := HPa.out.second hw
        have HPb := Lib.hid hpb
        clear hw hpb
        go_wp2_with fail
        refine (wlen_any N N _ l 0 0 _ HPb.out.2.2.1).mono ?_
        rintro e w' ⟨rfl, rfl⟩
        go_wp2_with fail
        refine (vlen_any N (N + 1) _ l 0 0 _ HPb.out.2.2.2.1).mono ?_
        rintro e w' ⟨rfl, rfl⟩
        go_wp2_with fail
        refine (wtext_any N N _ l 0 0 _ HPb.out.2.2.1).mono ?_
        rintro e w' ⟨rfl, rfl⟩
        go_wp2_with fail
        refine (vtext_any N (N + 1) _ l 0 0 _ HPb.out.2.2.2.1).mono ?_
        rintro e w' ⟨rfl, rfl⟩
        go_wp2_with fail
        go_roundw
        case rel => exact ⟨k + 1, _, _, l, 0, 0, by omega, by go_num, by have := HL.out; omega, fit_zero _ _, HPb.out⟩
        case measure => simp [intOf]; omega
      by_cases hd3 : d = 3
      · subst hd3
        obtain ⟨o2, hO⟩ : ∃ o2, (if 0 < p then 0 else o) = o2 := ⟨_, rfl⟩
        have Ho := Lib.hid hO
        clear hO
        go_wp2_with fail
        refine (wraw_c N N r1 l p o o2 s _ HL9.out (by omega) HZ.out HP.out.2.2.1 Ho.out).mono ?_
        rintro e wa ⟨rfl, hw⟩
        obtain ⟨ra, hpa⟩ := HP.out.first hw
        have HPa := Lib.hid hpa
        have c3a := (RD.out _ hpa.1).2.2.2
        clear hw hpa
        go_wp2_with fail
        refine (vraw_c N (N + 1) r2 l p o o2 s _ HL9.out (by omega) (by have := HPa.out.2.1; omega) HPa.out.2.2.2.1 Ho.out).mono ?_
        rintro e wb ⟨rfl, hw⟩
        obtain ⟨rb, hpb⟩ := HPa.out.second hw
        have HPb := Lib.hid hpb
        clear hw hpb
        obtain ⟨l2, hl2⟩ : ∃ l2, l ++ s.data.toList = l2 := ⟨_, rfl⟩
        have HL2 : Hid (l2.length ≤ 400 * (k + 1)) := Lib.hid (by rw [← hl2, List.length_append]; have := HL.out; have e : s.data.toList.length = s.size := (by simp); omega)
        rw [hl2] at HPb
        clear hl2
        go_wp2_with fail
        refine (wlen_any N N _ l2 0 o2 _ HPb.out.2.2.1).mono ?_
        rintro e w' ⟨rfl, rfl⟩
        go_wp2_with fail
        refine (vlen_any N (N + 1) _ l2 0 o2 _ HPb.out.2.2.2.1).mono ?_
        rintro e w' ⟨rfl, rfl⟩
        go_wp2_with fail
        refine (wtext_any N N _ l2 0 o2 _ HPb.out.2.2.1).mono ?_
        rintro e w' ⟨rfl, rfl⟩
        go_wp2_with fail
        refine (vtext_any N (N + 1) _ l2 0 o2 _ HPb.out.2.2.2.1).mono ?_
        rintro e w' ⟨rfl, rfl⟩
        go_wp2_with fail
        go_roundw
        case rel => exact ⟨k + 1, _, _, l2, 0, o2, by omega, by go_num, HL2.out, fit_zero _ _, HPb.out⟩
        case measure => simp [intOf]; omega
      have b0 : (d == 0) = false := by simpa using hd0
      have b1 : (d == 1) = false := by simpa using hd1
      have b2 : (d == 2) = false := by simpa using hd2
      have b3 : (d == 3) = false := by simpa using hd3
      clear hd0 hd1 hd2 hd3
      go_wp2_with fail
      refine (wlen_any N N _ l p o _ HP.out.2.2.1).mono ?_
      rintro e w' ⟨rfl, rfl⟩
      go_wp2_with fail
      refine (vlen_any N (N + 1) _ l p o _ HP.out.2.2.2.1).mono ?_
      rintro e w' ⟨rfl, rfl⟩
      go_wp2_with fail
      refine (wtext_any N N _ l p o _ HP.out.2.2.1).mono ?_
      rintro e w' ⟨rfl, rfl⟩
      go_wp2_with fail
      refine (vtext_any N (N + 1) _ l p o _ HP.out.2.2.2.1).mono ?_
      rintro e w' ⟨rfl, rfl⟩
      go_wp2_with fail
      go_roundw
      case rel => exact ⟨k + 1, _, _, l, p, o, by omega, by go_num, by have := HL.out; omega, HF.out, HP.out⟩
      case measure => simp [intOf]; omega
    · obtain rfl : k = xs.length := by omega
      have HZ : Hid (N ≤ wr.heap.size) := Lib.hid (by have := HP.out.2.1; omega)
      go_wp2_with fail
      refine (lives_any _).mono ?_
      rintro e w9 ⟨rfl, hb⟩
      go_wp2_with fail
      go_ret
      exact ⟨rfl, HP.out.1.trans (hb.mono HZ.out)⟩

theorem writes_any (A : Option Addr) (cap : Nat) (xs : List Call) (w0 : World) (hx : Asked w0 A xs) :
    Calls Try.prog 4 #[.slice A xs.length cap] w0 fun e w' => e = .returned (.bool true) ∧ Below w0.heap.size w0 w' := by
  by_cases h2 : xs.length ≤ 60
  · exact writes_short A cap xs w0 h2 hx
  · exact writes_many A cap xs w0 (by omega)

/-! ### The row. -/
theorem bitWrites_laidOut : laidOutB Try.prog = true := by kernel_rfl
theorem bitWrites_own : ownKnob Try.prog.godebug = none := by kernel_rfl
theorem bitWrites_types (t : TypeId) (ht : t ∈ Try.f4.params.toList) : Try.prog.readableRec t = true ∧ t < Try.prog.types.size := by
  rw [Try.params4] at ht
  simp only [List.mem_cons, List.not_mem_nil, or_false] at ht
  subst ht
  exact ⟨by kernel_rfl, of_decide_eq_true (by kernel_rfl)⟩
theorem bitWrites_fn {H : Type} (ds' : List (DataW H)) (h : ds'.length = Try.f4.params.size) : Rows.bitWritesSpec.fn H ds' = { results := [.lit (.bool true)], args := ds' } := by
  have h' : ds'.length = 1 := h.trans (by kernel_rfl)
  match ds', h' with
  | [_], _ => rfl

set_option maxRecDepth 100000 in
theorem bitWrites_lifted (os : Os) (started : os.Started) (H : Type) (enc : TypeId × Value → H) :
    ReturnsInHanded {} Try.checked os 4 .any (Rows.bitWritesSpec.pre6 enc Try.prog Try.f4 Rows.bitWritesRow.domain false) (Rows.bitWritesSpec.post enc Try.prog Try.f4 false true false false) := by
  refine returnsInHanded_of_change_shaped (C := Try.checked) bitWrites_own started (by kernel_rfl) Try.func4
    (ChangeSpec.witness6 (enc := enc) (C := Try.checked) false ⟨#[], #[.slice none 0 0], []⟩ 8 (by kernel_rfl) (by kernel_rfl) (by kernel_rfl) (by kernel_rfl)) ?_
  intro W base args ds gs before hval0 hW hcnd0 _ hsh _
  have hval : ∀ (j : Nat) t v, Try.f4.params[j]? = some t → args[j]? = some v → Value.okWide Try.prog W .any base t v := hval0
  have hW' := hW
  obtain ⟨p, q, hA0, hV, rfl, hfz, hnd⟩ := hW
  have hA : DataW.TrodAll enc Try.prog W 0 (fun _ => true) true Try.f4.params.toList args.toList ds p := hA0
  rw [Try.params4] at hA hval
  obtain ⟨v0, vs0, d0, ds0, p0, q0, hargs, rfl, rfl, h0, r0⟩ := trodAll_cons hA
  obtain ⟨rfl, rfl, rfl⟩ := trodAll_nil r0
  obtain rfl : args = #[v0] := by cases args; simp_all
  obtain ⟨rfl, rfl⟩ := trodVars_none hV
  obtain ⟨A0, cap0, xs0, rfl, rd0⟩ := asked_of (hval 0 22 v0 rfl rfl) h0
  clear hA0 hval0
  refine (writes_any A0 cap0 xs0 W rd0).mono fun e W' ⟨he, hb⟩ => ?_
  subst he
  exact ⟨_, rfl, post_keep bitWrites_laidOut (fun t ht => bitWrites_types t ht) rfl hW' (fun ds' hds => bitWrites_fn ds' hds) (by kernel_rfl) Try.underlying4 hb⟩

theorem bitWrites_holds : Rows.BitWritesSaid :=
  OpenClaim.holds_of_wide 4 Try.f4 rfl rfl rfl rfl rfl rfl rfl ⟨rfl, rfl, rfl, rfl, rfl⟩ rfl rfl rfl rfl rfl (by kernel_rfl) Try.func4 (by kernel_rfl)
    (of_decide_eq_true (by kernel_rfl)) (by unfold Func.isWrapper; first | (rw [if_pos (by decide +kernel)]; kernel_rfl) | (rw [if_neg (by decide +kernel)]; exact ⟨rfl, rfl⟩))
    (fun os started H enc _ => bitWrites_lifted os started H enc)
end Go.Proofs.Ytcgejhlhbokpiaa
