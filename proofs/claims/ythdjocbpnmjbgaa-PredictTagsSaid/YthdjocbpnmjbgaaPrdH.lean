/-
  The document's Encode and Decode at any arguments.
-/
import Derived.Test.YthdjocbpnmjbgaaPrdG
namespace Go.Proofs.Ythdjocbpnmjbgaa
open Go.RowKit Oct Prd
attribute [-go_sem] Builtin.append_

/-- What Encode answers: the error, the bytes. -/
def encF (pr co cl : Int) (l : List UInt8) : Int × List UInt8 :=
  if okP pr co cl = false then (1, []) else if pr = 1 then (0, l) else if l.length % (co * cl).toNat ≠ 0 then (16, []) else (0, encR pr.toNat co.toNat (co * cl).toNat l (l.length / (co * cl).toNat))
def decRes (r : Option (List UInt8 × List UInt8)) : Int × List UInt8 := match r with | none => (3, []) | some (_, all) => (0, all)
def decF (pr co cl : Int) (l : List UInt8) : Int × List UInt8 :=
  if okP pr co cl = false then (1, []) else if pr = 1 then (0, l) else if l.length % ((co * cl).toNat + tgs pr.toNat) ≠ 0 then (16, []) else decRes (decR pr.toNat co.toNat ((co * cl).toNat + tgs pr.toNat) l (l.length / ((co * cl).toNat + tgs pr.toNat)))
/-- The answer of a coder. -/
def CodeIs (F : Int × List UInt8) (w : World) (e : Ending) (w' : World) : Prop := e = .returned (.tuple #[.string ⟨F.2.toArray⟩, .int .i64 F.1]) ∧ Below w.heap.size w w'
theorem empty_arr : (⟨(([] : List UInt8)).toArray⟩ : ByteArray) = ⟨#[]⟩ := rfl
theorem list_arr {s : ByteArray} {l : List UInt8} (h : s.data.toList = l) : (⟨l.toArray⟩ : ByteArray) = s := by subst h; rfl
/-- How the parameters can be. -/
theorem ok_parts {pr co cl : Int} (h : okP pr co cl = true) : ∃ p c k n : Nat, pr = (p : Int) ∧ co = (c : Int) ∧ cl = (k : Int) ∧ c * k = n ∧ (co * cl).toNat = n ∧ 1 ≤ n ∧ n ≤ 8192 ∧ 1 ≤ c ∧ c ≤ 8192 ∧ k ≤ 8192 ∧ (p = 1 ∨ p = 2 ∨ 10 ≤ p ∧ p ≤ 15) := by
  obtain ⟨h0, h1, h2, h3⟩ := okP_iff.1 h
  have hp : pr = 1 ∨ pr = 2 ∨ 10 ≤ pr ∧ pr ≤ 15 := by
    unfold knownB at h0
    simp only [Bool.or_eq_true, Bool.and_eq_true, decide_eq_true_eq] at h0
    omega
  obtain ⟨c, rfl⟩ : ∃ c : Nat, co = (c : Int) := ⟨co.toNat, by omega⟩
  obtain ⟨k, rfl⟩ : ∃ k : Nat, cl = (k : Int) := ⟨cl.toNat, by omega⟩
  obtain ⟨p, rfl⟩ : ∃ p : Nat, pr = (p : Int) := ⟨pr.toNat, by omega⟩
  have hm : ((c : Int) * (k : Int)) = ((c * k : Nat) : Int) := by push_cast; rfl
  rw [hm] at h3
  have hc : c * 1 ≤ c * k := Nat.mul_le_mul_left c (by omega)
  have hk : 1 * k ≤ c * k := Nat.mul_le_mul_right k (by omega)
  exact ⟨p, c, k, c * k, rfl, rfl, rfl, rfl, by rw [hm]; omega, Nat.mul_pos (by omega) (by omega), by omega, by omega, by omega, by omega, by omega⟩

set_option maxRecDepth 100000 in
set_option maxHeartbeats 8000000 in
theorem badEncode (s : ByteArray) (pr co cl : Int) (w : World) (h0 : I64 pr) (h1 : I64 co) (h2 : I64 cl) (hok : okP pr co cl = false) :
    Calls Try.prog 9 #[parmsV pr co cl, .string s] w fun e w' => e = .returned (.tuple #[.string ⟨#[]⟩, .int .i64 1]) ∧ Below w.heap.size w w' := by
  have hB := parms_blk w pr co cl
  have HB1 := Lib.hid ((Below.refl w.heap.size w).alloc (Nat.le_refl _) (.cells #[.int .i64 pr, .int .i64 co, .int .i64 cl] 23))
  obtain ⟨W0, hW⟩ : ∃ W, w.alloc (.cells #[.int .i64 pr, .int .i64 co, .int .i64 cl] 23) = W := ⟨_, rfl⟩
  obtain ⟨N, hN⟩ : ∃ N, w.heap.size = N := ⟨_, rfl⟩
  have hWs : W0.heap.size = N + 1 := by rw [← hW, World.size_alloc, hN]
  rw [hN, hW] at hB HB1
  rw [hN]
  have HBk := Lib.hid hB
  have c0 := hB.cell 0
  have c1 := hB.cell 1
  have c2 := hB.cell 2
  simp only [List.getElem?_toArray, List.getElem?_cons_zero, List.getElem?_cons_succ] at c0 c1 c2
  have HC := Lib.hid (fun W' : World => checkD_any pr co cl W' h0 h1 h2)
  rw [chk_no hok] at HC
  unfold parmsV at HC ⊢
  clear hB hok h0 h1 h2
  go_enter Try.func9, Try.ntmps9
  go_wp2_with fail
  refine (HC.out _).mono ?_
  rintro e w1 ⟨rfl, hb⟩
  have HB2 := Lib.hid (HB1.out.trans (hb.mono (by omega)))
  clear hb
  go_wp2_with fail
  go_ret2
  exact ⟨rfl, HB2.out⟩

set_option maxRecDepth 100000 in
set_option maxHeartbeats 8000000 in
theorem oneEncode (s : ByteArray) (pr co cl : Int) (w : World) (h0 : I64 pr) (h1 : I64 co) (h2 : I64 cl) (hok : okP pr co cl = true) (hp : pr = 1) (hs : s.size ≤ 4000) :
    Calls Try.prog 9 #[parmsV pr co cl, .string s] w fun e w' => e = .returned (.tuple #[.string s, .int .i64 0]) ∧ Below w.heap.size w w' := by
  have hB := parms_blk w pr co cl
  have HB1 := Lib.hid ((Below.refl w.heap.size w).alloc (Nat.le_refl _) (.cells #[.int .i64 pr, .int .i64 co, .int .i64 cl] 23))
  obtain ⟨W0, hW⟩ : ∃ W, w.alloc (.cells #[.int .i64 pr, .int .i64 co, .int .i64 cl] 23) = W := ⟨_, rfl⟩
  obtain ⟨N, hN⟩ : ∃ N, w.heap.size = N := ⟨_, rfl⟩
  have hWs : W0.heap.size = N + 1 := by rw [← hW, World.size_alloc, hN]
  rw [hN, hW] at hB HB1
  rw [hN]
  have HBk := Lib.hid hB
  have c0 := hB.cell 0
  have c1 := hB.cell 1
  have c2 := hB.cell 2
  simp only [List.getElem?_toArray, List.getElem?_cons_zero, List.getElem?_cons_succ] at c0 c1 c2
  have HC := Lib.hid (fun W' : World => checkD_any pr co cl W' h0 h1 h2)
  rw [chk_yes hok] at HC
  unfold parmsV at HC ⊢
  have hp1 : (pr == 1) = true := by rw [hp]; rfl
  clear hok h0 h1 h2 hp
  go_enter Try.func9, Try.ntmps9
  go_wp2_with fail
  refine (HC.out _).mono ?_
  rintro e w1 ⟨rfl, hb⟩
  have HB2 := Lib.hid (HB1.out.trans (hb.mono (by omega)))
  have d0 := (HBk.out.below hb HBk.out.lt).cell 0
  simp only [List.getElem?_toArray, List.getElem?_cons_zero] at d0
  clear hb hB
  go_wp2_with fail
  go_ret2
  exact ⟨rfl, HB2.out⟩

set_option maxRecDepth 100000 in
set_option maxHeartbeats 8000000 in
theorem unevenEncode (s : ByteArray) (pr co cl n : Nat) (w : World) (hpr : pr = 2 ∨ 10 ≤ pr ∧ pr ≤ 15) (hok : okP pr co cl = true) (hn : co * cl = n) (hn1 : 1 ≤ n) (hn2 : n ≤ 8192) (hco : co ≤ 8192) (hcl : cl ≤ 8192) (hs : s.size ≤ 4000) (hm : s.size % n ≠ 0) :
    Calls Try.prog 9 #[parmsV pr co cl, .string s] w fun e w' => e = .returned (.tuple #[.string ⟨#[]⟩, .int .i64 16]) ∧ Below w.heap.size w w' := by
  have hB := parms_blk w (pr : Int) (co : Int) (cl : Int)
  have HB1 := Lib.hid ((Below.refl w.heap.size w).alloc (Nat.le_refl _) (.cells #[.int .i64 pr, .int .i64 co, .int .i64 cl] 23))
  obtain ⟨W0, hW⟩ : ∃ W, w.alloc (.cells #[.int .i64 pr, .int .i64 co, .int .i64 cl] 23) = W := ⟨_, rfl⟩
  obtain ⟨N, hN⟩ : ∃ N, w.heap.size = N := ⟨_, rfl⟩
  have hWs : W0.heap.size = N + 1 := by rw [← hW, World.size_alloc, hN]
  rw [hN, hW] at hB HB1
  rw [hN]
  have HBk := Lib.hid hB
  have c0 := hB.cell 0
  have c1 := hB.cell 1
  have c2 := hB.cell 2
  simp only [List.getElem?_toArray, List.getElem?_cons_zero, List.getElem?_cons_succ] at c0 c1 c2
  have HC := Lib.hid (fun W' : World => checkD_any pr co cl W' (by unfold I64; omega) (by unfold I64; omega) (by unfold I64; omega))
  rw [chk_yes hok] at HC
  unfold parmsV at HC ⊢
  have HRo := Lib.hid (fun W' : World => rowD_any pr co cl W' (by unfold I64; omega) (by unfold I64; omega) (by unfold I64; omega))
  have hnn : ((co : Int) * (cl : Int)) = (n : Int) := by rw [← hn]; push_cast; rfl
  have hrow : rowN pr co cl = (n : Int) := by unfold rowN; rw [if_pos hok, hnn]
  rw [hrow] at HRo
  unfold parmsV at HRo
  have hp1 : ((pr : Int) == 1) = false := beq_eq_false_iff_ne.2 (by omega)
  have hn0' : ¬ (n : Int) = 0 := by omega
  obtain ⟨r, hr⟩ : ∃ r, s.size % n = r := ⟨_, rfl⟩
  have hrem : (s.size : Int).tmod (n : Int) = (r : Int) := by rw [Int.tmod_eq_emod_of_nonneg (by omega), ← hr]; push_cast; rfl
  have hr0 : ((r : Int) != 0) = true := by rw [bne_iff_ne]; omega
  clear hB hok hrow hnn hn hpr hm hr
  go_enter Try.func9, Try.ntmps9
  go_wp2_with fail
  refine (HC.out _).mono ?_
  rintro e w1 ⟨rfl, hb⟩
  have HB2 := Lib.hid (HB1.out.trans (hb.mono (by omega)))
  have hBk1 := HBk.out.below hb HBk.out.lt
  have HBk1 := Lib.hid hBk1
  have d0 := hBk1.cell 0
  have d1 := hBk1.cell 1
  have d2 := hBk1.cell 2
  simp only [List.getElem?_toArray, List.getElem?_cons_zero, List.getElem?_cons_succ] at d0 d1 d2
  have HZ1 : Hid (N + 1 ≤ w1.heap.size) := Lib.hid (by have := hb.size; omega)
  clear hb hBk1 hW
  go_wp2_with fail
  refine (HRo.out _).mono ?_
  rintro e w2 ⟨rfl, hb⟩
  have HB3 := Lib.hid (HB2.out.trans (hb.mono (by have := HZ1.out; omega)))
  have HBk2 := Lib.hid (HBk1.out.below hb HBk1.out.lt)
  have HZ2 : Hid (N + 1 ≤ w2.heap.size) := Lib.hid (by have := hb.size; have := HZ1.out; omega)
  have e0 := HBk2.out.cell 0
  simp only [List.getElem?_toArray, List.getElem?_cons_zero] at e0
  clear hb d0 d1 d2
  go_wp2_with fail
  go_ret2
  exact ⟨rfl, HB3.out⟩

set_option maxRecDepth 100000 in
set_option maxHeartbeats 8000000 in
theorem badDecode (s : ByteArray) (pr co cl : Int) (w : World) (h0 : I64 pr) (h1 : I64 co) (h2 : I64 cl) (hok : okP pr co cl = false) :
    Calls Try.prog 11 #[parmsV pr co cl, .string s] w fun e w' => e = .returned (.tuple #[.string ⟨#[]⟩, .int .i64 1]) ∧ Below w.heap.size w w' := by
  have hB := parms_blk w pr co cl
  have HB1 := Lib.hid ((Below.refl w.heap.size w).alloc (Nat.le_refl _) (.cells #[.int .i64 pr, .int .i64 co, .int .i64 cl] 23))
  obtain ⟨W0, hW⟩ : ∃ W, w.alloc (.cells #[.int .i64 pr, .int .i64 co, .int .i64 cl] 23) = W := ⟨_, rfl⟩
  obtain ⟨N, hN⟩ : ∃ N, w.heap.size = N := ⟨_, rfl⟩
  have hWs : W0.heap.size = N + 1 := by rw [← hW, World.size_alloc, hN]
  rw [hN, hW] at hB HB1
  rw [hN]
  have HBk := Lib.hid hB
  have c0 := hB.cell 0
  have c1 := hB.cell 1
  have c2 := hB.cell 2
  simp only [List.getElem?_toArray, List.getElem?_cons_zero, List.getElem?_cons_succ] at c0 c1 c2
  have HC := Lib.hid (fun W' : World => checkD_any pr co cl W' h0 h1 h2)
  rw [chk_no hok] at HC
  unfold parmsV at HC ⊢
  clear hB hok h0 h1 h2
  go_enter Try.func11, Try.ntmps11
  go_wp2_with fail
  refine (HC.out _).mono ?_
  rintro e w1 ⟨rfl, hb⟩
  have HB2 := Lib.hid (HB1.out.trans (hb.mono (by omega)))
  clear hb
  go_wp2_with fail
  go_ret2
  exact ⟨rfl, HB2.out⟩

set_option maxRecDepth 100000 in
set_option maxHeartbeats 8000000 in
theorem oneDecode (s : ByteArray) (pr co cl : Int) (w : World) (h0 : I64 pr) (h1 : I64 co) (h2 : I64 cl) (hok : okP pr co cl = true) (hp : pr = 1) (hs : s.size ≤ 4000) :
    Calls Try.prog 11 #[parmsV pr co cl, .string s] w fun e w' => e = .returned (.tuple #[.string s, .int .i64 0]) ∧ Below w.heap.size w w' := by
  have hB := parms_blk w pr co cl
  have HB1 := Lib.hid ((Below.refl w.heap.size w).alloc (Nat.le_refl _) (.cells #[.int .i64 pr, .int .i64 co, .int .i64 cl] 23))
  obtain ⟨W0, hW⟩ : ∃ W, w.alloc (.cells #[.int .i64 pr, .int .i64 co, .int .i64 cl] 23) = W := ⟨_, rfl⟩
  obtain ⟨N, hN⟩ : ∃ N, w.heap.size = N := ⟨_, rfl⟩
  have hWs : W0.heap.size = N + 1 := by rw [← hW, World.size_alloc, hN]
  rw [hN, hW] at hB HB1
  rw [hN]
  have HBk := Lib.hid hB
  have c0 := hB.cell 0
  have c1 := hB.cell 1
  have c2 := hB.cell 2
  simp only [List.getElem?_toArray, List.getElem?_cons_zero, List.getElem?_cons_succ] at c0 c1 c2
  have HC := Lib.hid (fun W' : World => checkD_any pr co cl W' h0 h1 h2)
  rw [chk_yes hok] at HC
  unfold parmsV at HC ⊢
  have hp1 : (pr == 1) = true := by rw [hp]; rfl
  clear hok h0 h1 h2 hp
  go_enter Try.func11, Try.ntmps11
  go_wp2_with fail
  refine (HC.out _).mono ?_
  rintro e w1 ⟨rfl, hb⟩
  have HB2 := Lib.hid (HB1.out.trans (hb.mono (by omega)))
  have d0 := (HBk.out.below hb HBk.out.lt).cell 0
  simp only [List.getElem?_toArray, List.getElem?_cons_zero] at d0
  clear hb hB
  go_wp2_with fail
  go_ret2
  exact ⟨rfl, HB2.out⟩

set_option maxRecDepth 100000 in
set_option maxHeartbeats 8000000 in
theorem unevenDecode (s : ByteArray) (pr co cl n : Nat) (w : World) (hpr : pr = 2 ∨ 10 ≤ pr ∧ pr ≤ 15) (hok : okP pr co cl = true) (hn : co * cl = n) (hn1 : 1 ≤ n) (hn2 : n ≤ 8192) (hco : co ≤ 8192) (hcl : cl ≤ 8192) (hs : s.size ≤ 4000) (hm : s.size % (n + tgs pr) ≠ 0) :
    Calls Try.prog 11 #[parmsV pr co cl, .string s] w fun e w' => e = .returned (.tuple #[.string ⟨#[]⟩, .int .i64 16]) ∧ Below w.heap.size w w' := by
  have hB := parms_blk w (pr : Int) (co : Int) (cl : Int)
  have HB1 := Lib.hid ((Below.refl w.heap.size w).alloc (Nat.le_refl _) (.cells #[.int .i64 pr, .int .i64 co, .int .i64 cl] 23))
  obtain ⟨W0, hW⟩ : ∃ W, w.alloc (.cells #[.int .i64 pr, .int .i64 co, .int .i64 cl] 23) = W := ⟨_, rfl⟩
  obtain ⟨N, hN⟩ : ∃ N, w.heap.size = N := ⟨_, rfl⟩
  have hWs : W0.heap.size = N + 1 := by rw [← hW, World.size_alloc, hN]
  rw [hN, hW] at hB HB1
  rw [hN]
  have HBk := Lib.hid hB
  have c0 := hB.cell 0
  have c1 := hB.cell 1
  have c2 := hB.cell 2
  simp only [List.getElem?_toArray, List.getElem?_cons_zero, List.getElem?_cons_succ] at c0 c1 c2
  have HC := Lib.hid (fun W' : World => checkD_any pr co cl W' (by unfold I64; omega) (by unfold I64; omega) (by unfold I64; omega))
  rw [chk_yes hok] at HC
  unfold parmsV at HC ⊢
  have HRo := Lib.hid (fun W' : World => rowD_any pr co cl W' (by unfold I64; omega) (by unfold I64; omega) (by unfold I64; omega))
  have hnn : ((co : Int) * (cl : Int)) = (n : Int) := by rw [← hn]; push_cast; rfl
  have hrow : rowN pr co cl = (n : Int) := by unfold rowN; rw [if_pos hok, hnn]
  rw [hrow] at HRo
  unfold parmsV at HRo
  have hp1 : ((pr : Int) == 1) = false := beq_eq_false_iff_ne.2 (by omega)
  have hcase : (pr = 2 ∧ tgs pr = 0) ∨ (¬ pr = 2 ∧ tgs pr = 1) := by unfold tgs; split <;> omega
  rcases hcase with ⟨hc, ht⟩ | ⟨hc, ht⟩
  · have p1 : ¬ (2 : Int) < (pr : Int) := by omega
    obtain ⟨q, hq⟩ : ∃ q, n + tgs pr = q := ⟨_, rfl⟩
    have hq2 : (n : Int) = (q : Int) := by omega
    rw [hq] at hm
    have hn0' : ¬ (q : Int) = 0 := by omega
    obtain ⟨r, hr⟩ : ∃ r, s.size % q = r := ⟨_, rfl⟩
    have hrem : (s.size : Int).tmod (q : Int) = (r : Int) := by rw [Int.tmod_eq_emod_of_nonneg (by omega), ← hr]; push_cast; rfl
    have hr0 : ((r : Int) != 0) = true := by rw [bne_iff_ne]; omega
    have hqb : q ≤ 8193 := by omega
    obtain rfl : n = q := by omega
    clear hq2
    clear hB hok hrow hnn hn hpr hm hr hc ht hq
    go_enter Try.func11, Try.ntmps11
    go_wp2_with fail
    refine (HC.out _).mono ?_
    rintro e w1 ⟨rfl, hb⟩
    have HB2 := Lib.hid (HB1.out.trans (hb.mono (by omega)))
    have hBk1 := HBk.out.below hb HBk.out.lt
    have HBk1 := Lib.hid hBk1
    have d0 := hBk1.cell 0
    have d1 := hBk1.cell 1
    have d2 := hBk1.cell 2
    simp only [List.getElem?_toArray, List.getElem?_cons_zero, List.getElem?_cons_succ] at d0 d1 d2
    have HZ1 : Hid (N + 1 ≤ w1.heap.size) := Lib.hid (by have := hb.size; omega)
    clear hb hBk1 hW
    go_wp2_with fail
    refine (HRo.out _).mono ?_
    rintro e w2 ⟨rfl, hb⟩
    have HB3 := Lib.hid (HB2.out.trans (hb.mono (by have := HZ1.out; omega)))
    have HBk2 := Lib.hid (HBk1.out.below hb HBk1.out.lt)
    have HZ2 : Hid (N + 1 ≤ w2.heap.size) := Lib.hid (by have := hb.size; have := HZ1.out; omega)
    have e0 := HBk2.out.cell 0
    simp only [List.getElem?_toArray, List.getElem?_cons_zero] at e0
    clear hb d0 d1 d2
    go_wp2_with fail
    go_ret2
    exact ⟨rfl, HB3.out⟩

  · have p1 : (2 : Int) < (pr : Int) := by omega
    obtain ⟨q, hq⟩ : ∃ q, n + tgs pr = q := ⟨_, rfl⟩
    have hq2 : (n : Int) + 1 = (q : Int) := by omega
    rw [hq] at hm
    have hn0' : ¬ (q : Int) = 0 := by omega
    obtain ⟨r, hr⟩ : ∃ r, s.size % q = r := ⟨_, rfl⟩
    have hrem : (s.size : Int).tmod (q : Int) = (r : Int) := by rw [Int.tmod_eq_emod_of_nonneg (by omega), ← hr]; push_cast; rfl
    have hr0 : ((r : Int) != 0) = true := by rw [bne_iff_ne]; omega
    have hqb : q ≤ 8193 := by omega
    clear hB hok hrow hnn hn hpr hm hr hc ht hq
    go_enter Try.func11, Try.ntmps11
    go_wp2_with fail
    refine (HC.out _).mono ?_
    rintro e w1 ⟨rfl, hb⟩
    have HB2 := Lib.hid (HB1.out.trans (hb.mono (by omega)))
    have hBk1 := HBk.out.below hb HBk.out.lt
    have HBk1 := Lib.hid hBk1
    have d0 := hBk1.cell 0
    have d1 := hBk1.cell 1
    have d2 := hBk1.cell 2
    simp only [List.getElem?_toArray, List.getElem?_cons_zero, List.getElem?_cons_succ] at d0 d1 d2
    have HZ1 : Hid (N + 1 ≤ w1.heap.size) := Lib.hid (by have := hb.size; omega)
    clear hb hBk1 hW
    go_wp2_with fail
    refine (HRo.out _).mono ?_
    rintro e w2 ⟨rfl, hb⟩
    have HB3 := Lib.hid (HB2.out.trans (hb.mono (by have := HZ1.out; omega)))
    have HBk2 := Lib.hid (HBk1.out.below hb HBk1.out.lt)
    have HZ2 : Hid (N + 1 ≤ w2.heap.size) := Lib.hid (by have := hb.size; have := HZ1.out; omega)
    have e0 := HBk2.out.cell 0
    simp only [List.getElem?_toArray, List.getElem?_cons_zero] at e0
    clear hb d0 d1 d2
    go_wp2_with fail
    go_ret2
    exact ⟨rfl, HB3.out⟩

theorem encD_any (s : ByteArray) (pr co cl : Int) (w : World) (hs : s.size ≤ 4000) (h0 : I64 pr) (h1 : I64 co) (h2 : I64 cl) :
    Calls Try.prog 9 #[parmsV pr co cl, .string s] w (CodeIs (encF pr co cl s.data.toList) w) := by
  unfold CodeIs encF
  by_cases hok : okP pr co cl = false
  · rw [if_pos hok]
    exact badEncode s pr co cl w h0 h1 h2 hok
  · rw [if_neg hok]
    have hok' : okP pr co cl = true := by simpa using hok
    by_cases hp : pr = 1
    · rw [if_pos hp, list_arr rfl]
      exact oneEncode s pr co cl w h0 h1 h2 hok' hp hs
    · rw [if_neg hp]
      obtain ⟨p, c, k, n, rfl, rfl, rfl, hn, hn', hn1, hn2, hc1, hc2, hk2, hpp⟩ := ok_parts hok'
      have hpr : p = 2 ∨ 10 ≤ p ∧ p ≤ 15 := by
        rcases hpp with h | h
        · exact absurd (by rw [h]; rfl) hp
        · exact h
      have hl : s.data.toList.length = s.size := by simp
      rw [hn', hl]
      by_cases hr : s.size % n = 0
      · rw [if_neg (fun h => h hr)]
        refine encD_rows s s.data.toList p c k n (s.size / n) w rfl hpr hok' hn ?_ hs hc2 hk2
        have := Nat.div_add_mod s.size n
        rw [hr] at this
        exact this.symm
      · rw [if_pos hr]
        exact unevenEncode s p c k n w hpr hok' hn hn1 hn2 hc2 hk2 hs hr
end Go.Proofs.Ythdjocbpnmjbgaa
