/-
  hint.decoded's closures: a number of n bits, and a long number, out of the reader.
-/
import Derived.Test.YtkcnhdponcbjaaaHntD
namespace Go.Proofs.Ytkcnhdponcbjaaa
open Go.RowKit Bt Hnt

/-- The reader's place and order. -/
abbrev RS := Nat × Int
def tkE (s : ByteArray) (r : RS) (n : Int) : Int := rdE (8 * s.size) r.1 r.2 n 2
def tkV (s : ByteArray) (r : RS) (n : Int) : Int := rdV s.data.toList (8 * s.size) r.1 r.2 n 2
def tkS (s : ByteArray) (r : RS) (n : Int) : RS := (rdAt (8 * s.size) r.1 r.2 n 2, rdOrd (8 * s.size) r.1 r.2 n 2)
def NowS (w : World) (g : Nat) (s : ByteArray) (r : RS) (w' : World) : Prop := Now 92 w g s r.1 r.2 w'
def takeV (b : Nat) : Value := .func (.func 50) #[] #[.pointer (some ⟨b, 0, none⟩)]
def takeLongV (b : Nat) : Value := .func (.func 53) #[] #[.pointer (some ⟨b, 0, none⟩)]
theorem tkS_le {s : ByteArray} {r : RS} {n : Int} (h : r.1 ≤ 8 * s.size) : (tkS s r n).1 ≤ 8 * s.size := rdAt_le h
theorem tkV_in (s : ByteArray) (r : RS) (n : Int) (h : tkE s r n = 0) : 0 ≤ tkV s r n ∧ tkV s r n < 2 ^ n.toNat ∧ tkV s r n < 16777216 := by
  have hb : bad r.2 n 2 = false := by
    by_cases e : bad r.2 n 2 = true
    · have := (rd_bad (l := []) (tot := 8 * s.size) (at_ := r.1) e).1
      unfold tkE at h
      rw [this] at h
      exact absurd h (by decide)
    · simpa using e
  have hn := bad_no hb
  unfold tkV rdV
  rw [if_pos (show rdE (8 * s.size) r.1 r.2 n 2 = 0 from h)]
  have h1 := valO_lt 2 s.data.toList r.1 n.toNat
  have h2 : (2 : Nat) ^ n.toNat ≤ 2 ^ 24 := Nat.pow_le_pow_right (by decide) (by omega)
  have h3 : (2 : Nat) ^ 24 = 16777216 := rfl
  refine ⟨by omega, ?_, by omega⟩
  have h4 : ((2 : Int) ^ n.toNat) = ((2 ^ n.toNat : Nat) : Int) := by push_cast; rfl
  rw [h4]
  omega
theorem two16' : (2 : Int) ^ (16 : Int).toNat = 65536 := rfl
theorem NowS.then_ {w w1 w2 : World} {g : Nat} {s : ByteArray} {r r' : RS} (h : NowS w g s r w1) (k : NowS w1 g s r' w2) : NowS w g s r' w2 := Now.trans h k

set_option maxHeartbeats 1000000 in
theorem upon_no (x : Int) (w : World) (hx : x ≠ 0) : Calls Try.prog 41 #[.int .i64 x] w fun e w' => e = gUp x ∧ w = w' := by
  go_enter Try.func41, Try.ntmps41
  go_wp2_with fail
  refine (up_any x _).mono ?_
  rintro e w' ⟨rfl, rfl⟩
  exact ⟨rfl, rfl, rfl⟩
set_option maxHeartbeats 1000000 in
theorem value_ok (v : Int) (w : World) : Calls Try.prog 51 #[.int .i64 v, .int .i64 0] w fun e w' => e = .returned (.int .i64 v) ∧ w = w' := by
  go_enter Try.func51, Try.ntmps51
  go_wp2_with fail
  refine (upon_ok _).mono ?_
  rintro e w' ⟨rfl, rfl⟩
  go_wp2_with fail
  go_ret
  exact ⟨rfl, rfl⟩
set_option maxHeartbeats 1000000 in
theorem value_no (v x : Int) (w : World) (hx : x ≠ 0) : Calls Try.prog 51 #[.int .i64 v, .int .i64 x] w fun e w' => e = gUp x ∧ w = w' := by
  have HX := Lib.hid hx
  clear hx
  go_enter Try.func51, Try.ntmps51
  go_wp2_with fail
  refine (upon_no x _ HX.out).mono ?_
  rintro e w' ⟨rfl, rfl⟩
  exact ⟨rfl, rfl, rfl⟩

set_option maxRecDepth 100000 in
set_option maxHeartbeats 2000000 in
theorem take_ok (g b : Nat) (s : ByteArray) (r : RS) (n : Int) (w : World) (hb : Blk w b 73 #[.pointer (some ⟨g, 0, none⟩)]) (h : Rd 92 w g s r.1 r.2) (h1 : r.1 ≤ 8 * s.size) (hs : s.size ≤ 1000000000) (hk : tkE s r n = 0) :
    Calls Try.prog 50 #[.int .i64 n, .pointer (some ⟨b, 0, none⟩)] w fun e w' => e = .returned (.int .i64 (tkV s r n)) ∧ NowS w g s (tkS s r n) w' := by
  have HH := Lib.hid (high_c g s r.1 r.2 n (tkV s r n) 0 (tkS s r n).1 (tkS s r n).2 w h h1 (by omega) rfl hk rfl rfl)
  unfold Ret2 at HH
  obtain ⟨v, hv⟩ : ∃ v, tkV s r n = v := ⟨_, rfl⟩
  rw [hv] at HH ⊢
  have c0 := hb.cell 0
  simp only [List.getElem?_toArray, List.getElem?_cons_zero] at c0
  clear hv hb h h1 hs hk
  go_enter Try.func50, Try.ntmps50
  go_wp2_with fail
  refine HH.out.mono ?_
  rintro e w1 ⟨rfl, hw⟩
  have HW := Lib.hid (show NowS w g s (tkS s r n) w1 from hw)
  clear hw c0
  go_wp2_with fail
  refine (value_ok v _).mono ?_
  rintro e w2 ⟨rfl, rfl⟩
  go_wp2_with fail
  go_ret
  exact ⟨rfl, HW.out⟩
set_option maxRecDepth 100000 in
set_option maxHeartbeats 2000000 in
theorem take_no (g b : Nat) (s : ByteArray) (r : RS) (n : Int) (w : World) (hb : Blk w b 73 #[.pointer (some ⟨g, 0, none⟩)]) (h : Rd 92 w g s r.1 r.2) (h1 : r.1 ≤ 8 * s.size) (hs : s.size ≤ 1000000000) (hk : tkE s r n ≠ 0) :
    Calls Try.prog 50 #[.int .i64 n, .pointer (some ⟨b, 0, none⟩)] w fun e w' => (∃ x, x ≠ 0 ∧ e = gUp x) ∧ NowS w g s (tkS s r n) w' := by
  have HH := Lib.hid (high_c g s r.1 r.2 n (tkV s r n) (tkE s r n) (tkS s r n).1 (tkS s r n).2 w h h1 (by omega) rfl rfl rfl rfl)
  unfold Ret2 at HH
  obtain ⟨v, hv⟩ : ∃ v, tkV s r n = v := ⟨_, rfl⟩
  obtain ⟨x, hx⟩ : ∃ x, tkE s r n = x := ⟨_, rfl⟩
  rw [hv, hx] at HH
  rw [hx] at hk
  have HX := Lib.hid hk
  have c0 := hb.cell 0
  simp only [List.getElem?_toArray, List.getElem?_cons_zero] at c0
  clear hv hx hb h h1 hs hk
  go_enter Try.func50, Try.ntmps50
  go_wp2_with fail
  refine HH.out.mono ?_
  rintro e w1 ⟨rfl, hw⟩
  have HW := Lib.hid (show NowS w g s (tkS s r n) w1 from hw)
  clear hw c0
  go_wp2_with fail
  refine (value_no v x _ HX.out).mono ?_
  rintro e w2 ⟨rfl, rfl⟩
  exact ⟨rfl, ⟨x, HX.out, rfl⟩, HW.out⟩

/-- A long number: its value and the place behind it, if there is one. -/
def longR (s : ByteArray) (r : RS) : Option (Int × RS) :=
  if tkE s r 16 = 0 then (if 16 < tkV s r 16 then none else if tkE s (tkS s r 16) 16 = 0 then some (tkV s r 16 * 65536 + tkV s (tkS s r 16) 16, tkS s (tkS s r 16) 16) else none) else none
theorem longR_in {s : ByteArray} {r r' : RS} {v : Int} (h : longR s r = some (v, r')) (hr : r.1 ≤ 8 * s.size) : 0 ≤ v ∧ v < 1114112 ∧ r'.1 ≤ 8 * s.size := by
  unfold longR at h
  by_cases h1 : tkE s r 16 = 0
  · rw [if_pos h1] at h
    by_cases h2 : 16 < tkV s r 16
    · rw [if_pos h2] at h; cases h
    · rw [if_neg h2] at h
      by_cases h3 : tkE s (tkS s r 16) 16 = 0
      · rw [if_pos h3] at h
        injection h with h
        injection h with h4 h5
        have e1 := tkV_in s r 16 h1
        have e2 := tkV_in s (tkS s r 16) 16 h3
        have e3 : (2 : Int) ^ (16 : Int).toNat = 65536 := rfl
        rw [e3] at e2
        subst h5
        exact ⟨by omega, by omega, tkS_le (tkS_le hr)⟩
      · rw [if_neg h3] at h; cases h
  · rw [if_neg h1] at h; cases h

set_option maxRecDepth 100000 in
set_option maxHeartbeats 4000000 in
theorem long_ok (g b c : Nat) (s : ByteArray) (r r' : RS) (v : Int) (w : World) (hb : Blk w b 73 #[.pointer (some ⟨g, 0, none⟩)]) (hc : Blk w c 30 #[takeV b]) (hbg : b ≠ g) (hcg : c ≠ g) (h : Rd 92 w g s r.1 r.2) (h1 : r.1 ≤ 8 * s.size) (hs : s.size ≤ 1000000000) (hk : longR s r = some (v, r')) :
    Calls Try.prog 53 #[.pointer (some ⟨c, 0, none⟩)] w fun e w' => e = .returned (.int .i64 v) ∧ NowS w g s r' w' := by
  unfold longR at hk
  have k1 : tkE s r 16 = 0 := by
    by_cases e : tkE s r 16 = 0
    · exact e
    · rw [if_neg e] at hk; cases hk
  rw [if_pos k1] at hk
  have k2 : ¬ 16 < tkV s r 16 := by
    intro e
    rw [if_pos e] at hk; cases hk
  rw [if_neg k2] at hk
  have k3 : tkE s (tkS s r 16) 16 = 0 := by
    by_cases e : tkE s (tkS s r 16) 16 = 0
    · exact e
    · rw [if_neg e] at hk; cases hk
  rw [if_pos k3] at hk
  injection hk with hk
  injection hk with k4 k5
  have T1 := Lib.hid (take_ok g b s r 16 w hb h h1 hs k1)
  have T2 := Lib.hid (fun (w1 : World) (hn : NowS w g s (tkS s r 16) w1) => take_ok g b s (tkS s r 16) 16 w1 (hb.grown hn.1 (by intro e; injection e with e; exact hbg e)) hn.2 (tkS_le h1) hs k3)
  have HC := Lib.hid (fun (w1 : World) (hn : NowS w g s (tkS s r 16) w1) => (hc.grown hn.1 (by intro e; injection e with e; exact hcg e)).cell 0)
  have e1 := tkV_in s r 16 k1
  have e2 := tkV_in s (tkS s r 16) 16 k3
  rw [two16'] at e1 e2
  obtain ⟨x, hx⟩ : ∃ x : Nat, tkV s r 16 = (x : Int) := ⟨(tkV s r 16).toNat, by omega⟩
  obtain ⟨y, hy⟩ : ∃ y : Nat, tkV s (tkS s r 16) 16 = (y : Int) := ⟨(tkV s (tkS s r 16) 16).toNat, by omega⟩
  rw [hx] at T1 k2 k4 e1
  rw [hy] at T2 k4 e2
  rw [k5] at T2
  have G1 := Lib.hid (show bits .or .i64 ((x : Int) * 65536) (y : Int) = v by
    have h1 : y ||| x * 65536 = y + x * 65536 := or_add y x 16 (by omega)
    have h2 := i64_or_nat (x * 65536) y (by omega) (by omega)
    have h3 : x * 65536 ||| y = y + x * 65536 := (Nat.or_comm _ _).trans h1
    have h5 : (x : Int) * 65536 = ((x * 65536 : Nat) : Int) := by omega
    rw [h5, h2, h3, ← k4]
    omega)
  have hx16 : (x : Int) ≤ 16 := by omega
  have c0 := hc.cell 0
  simp only [List.getElem?_toArray, List.getElem?_cons_zero] at c0
  unfold takeV at c0
  clear hb h h1 hs k1 k2 k3 k4 hx hy e1 e2 hc
  go_enter Try.func53, Try.ntmps53
  go_wp2_with fail
  refine T1.out.mono ?_
  rintro e w1 ⟨rfl, hw⟩
  have HW := Lib.hid hw
  clear hw c0
  have c0 := HC.out w1 HW.out
  simp only [List.getElem?_toArray, List.getElem?_cons_zero] at c0
  unfold takeV at c0
  go_wp2_with fail
  refine (T2.out w1 HW.out).mono ?_
  rintro e w2 ⟨rfl, hw⟩
  have HW2 := Lib.hid (HW.out.then_ hw)
  clear hw c0
  have g1 := G1.out
  go_wp2_with fail
  go_ret
  exact ⟨rfl, HW2.out⟩
set_option maxRecDepth 100000 in
set_option maxHeartbeats 4000000 in
theorem long_no1 (g b c : Nat) (s : ByteArray) (r : RS) (w : World) (hb : Blk w b 73 #[.pointer (some ⟨g, 0, none⟩)]) (hc : Blk w c 30 #[takeV b]) (_hbg : b ≠ g) (_hcg : c ≠ g) (h : Rd 92 w g s r.1 r.2) (h1 : r.1 ≤ 8 * s.size) (hs : s.size ≤ 1000000000) (k1 : tkE s r 16 ≠ 0) :
    Calls Try.prog 53 #[.pointer (some ⟨c, 0, none⟩)] w fun e w' => (∃ x, x ≠ 0 ∧ e = gUp x) ∧ ∃ r1, NowS w g s r1 w' := by
  have T1 := Lib.hid (take_no g b s r 16 w hb h h1 hs k1)
  have c0 := hc.cell 0
  simp only [List.getElem?_toArray, List.getElem?_cons_zero] at c0
  unfold takeV at c0
  clear hb h h1 hs k1 hc
  go_enter Try.func53, Try.ntmps53
  go_wp2_with fail
  refine T1.out.mono ?_
  rintro e w1 ⟨⟨x, hx, rfl⟩, hw⟩
  exact ⟨rfl, ⟨x, hx, rfl⟩, _, hw⟩
set_option maxRecDepth 100000 in
set_option maxHeartbeats 4000000 in
theorem long_no2 (g b c : Nat) (s : ByteArray) (r : RS) (w : World) (hb : Blk w b 73 #[.pointer (some ⟨g, 0, none⟩)]) (hc : Blk w c 30 #[takeV b]) (_hbg : b ≠ g) (_hcg : c ≠ g) (h : Rd 92 w g s r.1 r.2) (h1 : r.1 ≤ 8 * s.size) (hs : s.size ≤ 1000000000) (k1 : tkE s r 16 = 0) (k2 : 16 < tkV s r 16) :
    Calls Try.prog 53 #[.pointer (some ⟨c, 0, none⟩)] w fun e w' => (∃ x, x ≠ 0 ∧ e = gUp x) ∧ ∃ r1, NowS w g s r1 w' := by
  have T1 := Lib.hid (take_ok g b s r 16 w hb h h1 hs k1)
  have e1 := tkV_in s r 16 k1
  obtain ⟨x, hx⟩ : ∃ x : Nat, tkV s r 16 = (x : Int) := ⟨(tkV s r 16).toNat, by omega⟩
  rw [hx] at T1 k2
  have c0 := hc.cell 0
  simp only [List.getElem?_toArray, List.getElem?_cons_zero] at c0
  unfold takeV at c0
  clear hb h h1 hs k1 hc hx e1
  go_enter Try.func53, Try.ntmps53
  go_wp2_with fail
  refine T1.out.mono ?_
  rintro e w1 ⟨rfl, hw⟩
  have HW := Lib.hid hw
  clear hw c0
  go_wp2_with fail
  refine (up_any 32 _).mono ?_
  rintro e w' ⟨rfl, rfl⟩
  exact ⟨rfl, ⟨32, by decide, rfl⟩, _, HW.out⟩
set_option maxRecDepth 100000 in
set_option maxHeartbeats 4000000 in
theorem long_no3 (g b c : Nat) (s : ByteArray) (r : RS) (w : World) (hb : Blk w b 73 #[.pointer (some ⟨g, 0, none⟩)]) (hc : Blk w c 30 #[takeV b]) (hbg : b ≠ g) (hcg : c ≠ g) (h : Rd 92 w g s r.1 r.2) (h1 : r.1 ≤ 8 * s.size) (hs : s.size ≤ 1000000000) (k1 : tkE s r 16 = 0) (k2 : ¬ 16 < tkV s r 16) (k3 : tkE s (tkS s r 16) 16 ≠ 0) :
    Calls Try.prog 53 #[.pointer (some ⟨c, 0, none⟩)] w fun e w' => (∃ x, x ≠ 0 ∧ e = gUp x) ∧ ∃ r1, NowS w g s r1 w' := by
  have T1 := Lib.hid (take_ok g b s r 16 w hb h h1 hs k1)
  have T2 := Lib.hid (fun (w1 : World) (hn : NowS w g s (tkS s r 16) w1) => take_no g b s (tkS s r 16) 16 w1 (hb.grown hn.1 (by intro e; injection e with e; exact hbg e)) hn.2 (tkS_le h1) hs k3)
  have HC := Lib.hid (fun (w1 : World) (hn : NowS w g s (tkS s r 16) w1) => (hc.grown hn.1 (by intro e; injection e with e; exact hcg e)).cell 0)
  have e1 := tkV_in s r 16 k1
  obtain ⟨x, hx⟩ : ∃ x : Nat, tkV s r 16 = (x : Int) := ⟨(tkV s r 16).toNat, by omega⟩
  rw [hx] at T1 k2
  have hx16 : (x : Int) ≤ 16 := by omega
  have c0 := hc.cell 0
  simp only [List.getElem?_toArray, List.getElem?_cons_zero] at c0
  unfold takeV at c0
  clear hb h h1 hs k1 hc hx e1 k2 k3
  go_enter Try.func53, Try.ntmps53
  go_wp2_with fail
  refine T1.out.mono ?_
  rintro e w1 ⟨rfl, hw⟩
  have HW := Lib.hid hw
  clear hw c0
  have c0 := HC.out w1 HW.out
  simp only [List.getElem?_toArray, List.getElem?_cons_zero] at c0
  unfold takeV at c0
  go_wp2_with fail
  refine (T2.out w1 HW.out).mono ?_
  rintro e w2 ⟨⟨x, hx, rfl⟩, hw⟩
  exact ⟨rfl, ⟨x, hx, rfl⟩, _, HW.out.then_ hw⟩
theorem long_no (g b c : Nat) (s : ByteArray) (r : RS) (w : World) (hb : Blk w b 73 #[.pointer (some ⟨g, 0, none⟩)]) (hc : Blk w c 30 #[takeV b]) (hbg : b ≠ g) (hcg : c ≠ g) (h : Rd 92 w g s r.1 r.2) (h1 : r.1 ≤ 8 * s.size) (hs : s.size ≤ 1000000000) (hk : longR s r = none) :
    Calls Try.prog 53 #[.pointer (some ⟨c, 0, none⟩)] w fun e w' => (∃ x, x ≠ 0 ∧ e = gUp x) ∧ ∃ r1, NowS w g s r1 w' := by
  unfold longR at hk
  by_cases k1 : tkE s r 16 = 0
  · rw [if_pos k1] at hk
    by_cases k2 : 16 < tkV s r 16
    · exact long_no2 g b c s r w hb hc hbg hcg h h1 hs k1 k2
    · rw [if_neg k2] at hk
      by_cases k3 : tkE s (tkS s r 16) 16 = 0
      · rw [if_pos k3] at hk; cases hk
      · exact long_no3 g b c s r w hb hc hbg hcg h h1 hs k1 k2 k3
  · exact long_no1 g b c s r w hb hc hbg hcg h h1 hs k1
end Go.Proofs.Ytkcnhdponcbjaaa
