/-
  Contracts of readers and writers at given answers, and what keeps them while others are called; the walk of lives.
-/
import Derived.Test.YtcgejhlhbokpiaaBitO
import Derived.Test.YtcgejhlhbokpiaaBitG
namespace Go.Proofs.Ytcgejhlhbokpiaa
open Go.RowKit Bt

theorem Rd.grown {T : TypeId} {w w' : World} {g : Nat} {s : ByteArray} {a : Nat} {o : Int} {row : Option Nat} (h : Rd T w g s a o) (hg : w.grownBy w' row) (hne : some g ≠ row) : Rd T w' g s a o := Blk.grown h hg hne
theorem Rd.now {T T' : TypeId} {w w' : World} {g g' : Nat} {s s' : ByteArray} {a a' : Nat} {o o' : Int} (h : Rd T w g s a o) (hg : Now T' w g' s' a' o' w') (hne : g ≠ g') : Rd T w' g s a o := h.grown hg.1 (fun e => hne (by injection e))
theorem Rd.two {T : TypeId} {w w' : World} {g g' : Nat} {r : Option Nat} {s : ByteArray} {a : Nat} {o : Int} (h : Rd T w g s a o) (ht : Two w w' g' r) (h1 : g ≠ g') (h2 : some g ≠ r) : Rd T w' g s a o := ht.blk h h1 h2
theorem Wr.grown {T : TypeId} {B : Nat} {w w' : World} {g : Nat} {r row : Option Nat} {l : List UInt8} {p : Nat} {o : Int} (h : Wr T B w g r l p o) (hg : w.grownBy w' row) (h1 : some g ≠ row) (h2 : r = none ∨ r ≠ row) : Wr T B w' g r l p o := by
  obtain ⟨v, k1, k2, k3, k4, k5⟩ := h
  exact ⟨v, k1.grown hg h1, k2.kept hg (by rw [k3]; exact h2), k3, k4, k5⟩
theorem Wr.now {T T' : TypeId} {B : Nat} {w w' : World} {g g' : Nat} {r : Option Nat} {l : List UInt8} {p : Nat} {o : Int} {s : ByteArray} {a : Nat} {o' : Int} (h : Wr T B w g r l p o) (hg : Now T' w g' s a o' w') (h1 : g ≠ g') (h2 : r ≠ some g') : Wr T B w' g r l p o :=
  h.grown hg.1 (fun e => h1 (by injection e)) (Or.inr h2)
theorem Wr.two {T : TypeId} {B : Nat} {w w' : World} {g g' : Nat} {r r' : Option Nat} {l : List UInt8} {p : Nat} {o : Int} (h : Wr T B w g r l p o) (ht : Two w w' g' r') (h1 : g ≠ g') (h2 : some g ≠ r') (h3 : r ≠ some g') (h4 : r = none ∨ r ≠ r') : Wr T B w' g r l p o := by
  obtain ⟨v, k1, k2, k3, k4, k5⟩ := h
  refine ⟨v, ht.blk k1 h1 h2, ⟨k2.1, ?_⟩, k3, k4, k5⟩
  rcases k2.2 with hn | ⟨k, cap, cur, rfl, hb, hgg, rest⟩
  · exact Or.inl hn
  · have hr : r = some k := k3.symm
    refine Or.inr ⟨k, cap, cur, rfl, hb, ?_, rest⟩
    rw [ht.block k (Array.getElem?_eq_some_iff.1 hgg).1 (fun e => h3 (by rw [hr, e])) (fun e => (h4.elim (fun e2 => by rw [hr] at e2; cases e2) (fun e2 => e2 (by rw [hr, e]))))]
    exact hgg
theorem Now.below {T : TypeId} {B : Nat} {w0 w w' : World} {g : Nat} {s : ByteArray} {a : Nat} {o : Int} (hb : Below B w0 w) (h : Now T w g s a o w') (hB : B ≤ w.heap.size) (hg : B ≤ g) : Below B w0 w' := hb.grown h.1 hB (fun k e => by injection e with e; omega)

def Ret2 (T : TypeId) (w : World) (g : Nat) (s : ByteArray) (a : Nat) (o : Int) (v : Value) (e : Ending) (w' : World) : Prop := e = .returned v ∧ Now T w g s a o w'

theorem low_c (g : Nat) (s : ByteArray) (a : Nat) (ord n V E : Int) (A : Nat) (O : Int) (w : World) (h : Rd 51 w g s a ord) (h1 : a ≤ 8 * s.size) (hs : s.size ≤ 1000000000000000000)
    (hV : rdV s.data.toList (8 * s.size) a ord n 1 = V) (hE : rdE (8 * s.size) a ord n 1 = E) (hA : rdAt (8 * s.size) a ord n 1 = A) (hO : rdOrd (8 * s.size) a ord n 1 = O) :
    Calls Try.prog 11 #[.pointer (some ⟨g, 0, none⟩), .int .i64 n] w (Ret2 51 w g s A O (.tuple #[.int .i64 V, .int .i64 E])) := by
  subst hV hE hA hO
  exact low_any g s a ord n w h h1 hs

theorem high_c (g : Nat) (s : ByteArray) (a : Nat) (ord n V E : Int) (A : Nat) (O : Int) (w : World) (h : Rd 51 w g s a ord) (h1 : a ≤ 8 * s.size) (hs : s.size ≤ 1000000000000000000)
    (hV : rdV s.data.toList (8 * s.size) a ord n 2 = V) (hE : rdE (8 * s.size) a ord n 2 = E) (hA : rdAt (8 * s.size) a ord n 2 = A) (hO : rdOrd (8 * s.size) a ord n 2 = O) :
    Calls Try.prog 13 #[.pointer (some ⟨g, 0, none⟩), .int .i64 n] w (Ret2 51 w g s A O (.tuple #[.int .i64 V, .int .i64 E])) := by
  subst hV hE hA hO
  exact high_any g s a ord n w h h1 hs

theorem qlow_c (g : Nat) (s : ByteArray) (a : Nat) (ord n V E : Int) (A : Nat) (O : Int) (w : World) (h : Rd 53 w g s a ord) (h1 : a ≤ 8 * s.size) (hs : s.size ≤ 1000000000000000000)
    (hV : rdV s.data.toList (8 * s.size) a ord n 1 = V) (hE : rdE (8 * s.size) a ord n 1 = E) (hA : rdAt (8 * s.size) a ord n 1 = A) (hO : rdOrd (8 * s.size) a ord n 1 = O) :
    Calls Try.prog 12 #[.pointer (some ⟨g, 0, none⟩), .int .i64 n] w (Ret2 53 w g s A O (.tuple #[.int .i64 V, .int .i64 E])) := by
  subst hV hE hA hO
  exact qlow_any g s a ord n w h h1 hs

theorem qhigh_c (g : Nat) (s : ByteArray) (a : Nat) (ord n V E : Int) (A : Nat) (O : Int) (w : World) (h : Rd 53 w g s a ord) (h1 : a ≤ 8 * s.size) (hs : s.size ≤ 1000000000000000000)
    (hV : rdV s.data.toList (8 * s.size) a ord n 2 = V) (hE : rdE (8 * s.size) a ord n 2 = E) (hA : rdAt (8 * s.size) a ord n 2 = A) (hO : rdOrd (8 * s.size) a ord n 2 = O) :
    Calls Try.prog 14 #[.pointer (some ⟨g, 0, none⟩), .int .i64 n] w (Ret2 53 w g s A O (.tuple #[.int .i64 V, .int .i64 E])) := by
  subst hV hE hA hO
  exact qhigh_any g s a ord n w h h1 hs

theorem rfrom_c (s : ByteArray) (N : Nat) (w : World) (hN : w.heap.size = N) :
    Calls Try.prog 9 #[.string s] w fun e w' => e = .returned (.pointer (some ⟨N, 0, none⟩)) ∧ w.grownBy w' none ∧ Rd 51 w' N s 0 0 ∧ w'.heap.size = N + 1 := by
  subst hN
  exact rfrom_any s w

theorem qfrom_c (s : ByteArray) (N : Nat) (w : World) (hN : w.heap.size = N) :
    Calls Try.prog 10 #[.string s] w fun e w' => e = .returned (.pointer (some ⟨N, 0, none⟩)) ∧ w.grownBy w' none ∧ Rd 53 w' N s 0 0 ∧ w'.heap.size = N + 1 := by
  subst hN
  exact qfrom_any s w

theorem wlow_c (B g : Nat) (r : Option Nat) (l L : List UInt8) (p P : Nat) (ord v n E O : Int) (w : World) (hll : l.length ≤ 900000) (hBw : B ≤ w.heap.size) (h : Wr 60 B w g r l p ord) (hf : Fit ord l p)
    (hE : wrE ord v n 1 = E) (hL : wrL l p ord v n 1 = L) (hP : wrP p ord v n 1 = P) (hO : wrO ord v n 1 = O) :
    Calls Try.prog 25 #[.pointer (some ⟨g, 0, none⟩), .int .i64 v, .int .i64 n] w fun e w' => e = .returned (.int .i64 E) ∧ Wrote 60 B w g r L P O w' := by
  subst hE hL hP hO
  exact wlow_any B g r l p ord v n w hll hBw h hf

theorem whigh_c (B g : Nat) (r : Option Nat) (l L : List UInt8) (p P : Nat) (ord v n E O : Int) (w : World) (hll : l.length ≤ 900000) (hBw : B ≤ w.heap.size) (h : Wr 60 B w g r l p ord) (hf : Fit ord l p)
    (hE : wrE ord v n 2 = E) (hL : wrL l p ord v n 2 = L) (hP : wrP p ord v n 2 = P) (hO : wrO ord v n 2 = O) :
    Calls Try.prog 27 #[.pointer (some ⟨g, 0, none⟩), .int .i64 v, .int .i64 n] w fun e w' => e = .returned (.int .i64 E) ∧ Wrote 60 B w g r L P O w' := by
  subst hE hL hP hO
  exact whigh_any B g r l p ord v n w hll hBw h hf

theorem vlow_c (B g : Nat) (r : Option Nat) (l L : List UInt8) (p P : Nat) (ord v n E O : Int) (w : World) (hll : l.length ≤ 900000) (hBw : B ≤ w.heap.size) (h : Wr 62 B w g r l p ord) (hf : Fit ord l p)
    (hE : wrE ord v n 1 = E) (hL : wrL l p ord v n 1 = L) (hP : wrP p ord v n 1 = P) (hO : wrO ord v n 1 = O) :
    Calls Try.prog 26 #[.pointer (some ⟨g, 0, none⟩), .int .i64 v, .int .i64 n] w fun e w' => e = .returned (.int .i64 E) ∧ Wrote 62 B w g r L P O w' := by
  subst hE hL hP hO
  exact vlow_any B g r l p ord v n w hll hBw h hf

theorem vhigh_c (B g : Nat) (r : Option Nat) (l L : List UInt8) (p P : Nat) (ord v n E O : Int) (w : World) (hll : l.length ≤ 900000) (hBw : B ≤ w.heap.size) (h : Wr 62 B w g r l p ord) (hf : Fit ord l p)
    (hE : wrE ord v n 2 = E) (hL : wrL l p ord v n 2 = L) (hP : wrP p ord v n 2 = P) (hO : wrO ord v n 2 = O) :
    Calls Try.prog 28 #[.pointer (some ⟨g, 0, none⟩), .int .i64 v, .int .i64 n] w fun e w' => e = .returned (.int .i64 E) ∧ Wrote 62 B w g r L P O w' := by
  subst hE hL hP hO
  exact vhigh_any B g r l p ord v n w hll hBw h hf

theorem wnew_c (B N : Nat) (w : World) (hB : B ≤ w.heap.size) (hN : w.heap.size = N) :
    Calls Try.prog 23 #[] w fun e w' => e = .returned (.pointer (some ⟨N, 0, none⟩)) ∧ w.grownBy w' none ∧ Wr 60 B w' N none [] 0 0 ∧ w'.heap.size = N + 1 := by
  subst hN
  exact wnew_any B w hB

theorem vnew_c (B N : Nat) (w : World) (hB : B ≤ w.heap.size) (hN : w.heap.size = N) :
    Calls Try.prog 24 #[] w fun e w' => e = .returned (.pointer (some ⟨N, 0, none⟩)) ∧ w.grownBy w' none ∧ Wr 62 B w' N none [] 0 0 ∧ w'.heap.size = N + 1 := by
  subst hN
  exact vnew_any B w hB

def cA : ByteArray := ⟨#[202]⟩
set_option maxRecDepth 100000 in
set_option maxHeartbeats 4000000 in
theorem lives_any (w0 : World) : Calls Try.prog 8 #[] w0 fun e w' => e = .returned (.bool true) ∧ Below w0.heap.size w0 w' := by
  obtain ⟨N, hN⟩ : ∃ N, w0.heap.size = N := ⟨_, rfl⟩
  have HB0 := Lib.hid (show Below N w0 w0 from Below.refl _ _)
  have HN0 := Lib.hid hN
  rw [hN]
  clear hN
  go_enter Try.func8, Try.ntmps8
  go_wp2_with fail
  refine (rfrom_c _ N w0 HN0.out).mono ?_
  rintro e w1 ⟨rfl, hg, hr, hz⟩
  have HB1 := Lib.hid (HB0.out.grown hg (Nat.le_of_eq HN0.out.symm) (fun k e => by cases e))
  have HR1 := Lib.hid hr
  have HN1 := Lib.hid hz
  clear hg hr hz
  go_wp2_with fail
  refine (rfrom_c _ (N + 1) w1 HN1.out).mono ?_
  rintro e w2 ⟨rfl, hg, hr, hz⟩
  have HB2 := Lib.hid (HB1.out.grown hg (by rw [HN1.out]; omega) (fun k e => by cases e))
  have HR2 := Lib.hid (HR1.out.grown hg (by simp))
  have HS2 := Lib.hid hr
  have HN2 := Lib.hid (show N + 2 ≤ w2.heap.size by rw [hz]; omega)
  clear hg hr hz
  go_wp2_with fail
  refine (low_c N _ 0 0 4 10 0 4 1 _ HR2.out (by decide) (by decide) (by decide +kernel) (by decide +kernel) (by decide +kernel) (by decide +kernel)).mono ?_
  rintro e w3 ⟨rfl, hn⟩
  have HB3 := Lib.hid (Now.below HB2.out hn (by have := HN2.out; omega) (by omega))
  have HR3 := Lib.hid hn.2
  have HS3 := Lib.hid (HS2.out.now hn (by omega))
  have HN3 := Lib.hid (Nat.le_trans HN2.out hn.1.size)
  clear hn
  go_wp2_with fail
  refine (low_c N _ 4 1 4 12 0 8 1 _ HR3.out (by decide) (by decide) (by decide +kernel) (by decide +kernel) (by decide +kernel) (by decide +kernel)).mono ?_
  rintro e w4 ⟨rfl, hn⟩
  have HB4 := Lib.hid (Now.below HB3.out hn (by have := HN3.out; omega) (by omega))
  have HR4 := Lib.hid hn.2
  have HS4 := Lib.hid (HS3.out.now hn (by omega))
  have HN4 := Lib.hid (Nat.le_trans HN3.out hn.1.size)
  clear hn
  go_wp2_with fail
  refine (high_c (N + 1) _ 0 0 4 12 0 4 2 _ HS4.out (by decide) (by decide) (by decide +kernel) (by decide +kernel) (by decide +kernel) (by decide +kernel)).mono ?_
  rintro e w5 ⟨rfl, hn⟩
  have HB5 := Lib.hid (Now.below HB4.out hn (by have := HN4.out; omega) (by omega))
  have HS5 := Lib.hid hn.2
  have HR5 := Lib.hid (HR4.out.now hn (by omega))
  have HN5 := Lib.hid (Nat.le_trans HN4.out hn.1.size)
  clear hn
  go_wp2_with fail
  refine (low_c (N + 1) _ 4 2 1 0 1 4 2 _ HS5.out (by decide) (by decide) (by decide +kernel) (by decide +kernel) (by decide +kernel) (by decide +kernel)).mono ?_
  rintro e w6 ⟨rfl, hn⟩
  have HB6 := Lib.hid (Now.below HB5.out hn (by have := HN5.out; omega) (by omega))
  have HS6 := Lib.hid hn.2
  have HR6 := Lib.hid (HR5.out.now hn (by omega))
  have HN6 := Lib.hid (Nat.le_trans HN5.out hn.1.size)
  clear hn
  go_wp2_with fail
  refine (high_c (N + 1) _ 4 2 4 10 0 8 2 _ HS6.out (by decide) (by decide) (by decide +kernel) (by decide +kernel) (by decide +kernel) (by decide +kernel)).mono ?_
  rintro e w7 ⟨rfl, hn⟩
  have HB7 := Lib.hid (Now.below HB6.out hn (by have := HN6.out; omega) (by omega))
  have HS7 := Lib.hid hn.2
  have HR7 := Lib.hid (HR6.out.now hn (by omega))
  have HN7 := Lib.hid (Nat.le_trans HN6.out hn.1.size)
  clear hn
  go_wp2_with fail
  refine (high_c (N + 1) _ 8 2 1 0 4 8 2 _ HS7.out (by decide) (by decide) (by decide +kernel) (by decide +kernel) (by decide +kernel) (by decide +kernel)).mono ?_
  rintro e w8 ⟨rfl, hn⟩
  have HB8 := Lib.hid (Now.below HB7.out hn (by have := HN7.out; omega) (by omega))
  have HS8 := Lib.hid hn.2
  have HR8 := Lib.hid (HR7.out.now hn (by omega))
  have HN8 := Lib.hid (Nat.le_trans HN7.out hn.1.size)
  clear hn
  obtain ⟨M, hM⟩ : ∃ M, w8.heap.size = M := ⟨_, rfl⟩
  have hNM : N + 2 ≤ M := by rw [← hM]; exact HN8.out
  have HM := Lib.hid hM
  clear hM
  go_wp2_with fail
  refine (wnew_c M M w8 (Nat.le_of_eq HM.out.symm) HM.out).mono ?_
  rintro e w9 ⟨rfl, hg, hw, hz⟩
  have HB9 := Lib.hid (HB8.out.grown hg (by rw [HM.out]; omega) (fun k e => by cases e))
  have HR9 := Lib.hid (HR8.out.grown hg (by simp))
  have HW9 := Lib.hid hw
  have HN9 := Lib.hid (show M + 1 ≤ w9.heap.size by rw [hz]; omega)
  clear hg hw hz
  go_wp2_with fail
  refine (wlow_c M M none [] [1] 0 1 0 1 1 0 1 _ (by decide) (by have := HN9.out; omega) HW9.out (fit_zero _ _) (by decide +kernel) (by decide +kernel) (by decide +kernel) (by decide +kernel)).mono ?_
  rintro e w10 ⟨rfl, r10, hr, hw, ht⟩
  have hrM : ∀ j, r10 = some j → M ≤ j := fun j hj => (hw.row_in j hj).1
  have HB10 := Lib.hid (HB9.out.trans (ht.below (by have := HN9.out; omega) (by omega) (fun j hj => by cases hj)))
  have HR10 := Lib.hid (HR9.out.two ht (by omega) (by simp))
  have HW10 := Lib.hid hw
  have HX10 := Lib.hid hrM
  have HN10 := Lib.hid (Nat.le_trans HN9.out ht.size)
  clear hr hw ht hrM
  go_wp2_with fail
  refine (wlow_c M M r10 [1] [5] 1 3 1 2 2 0 1 _ (by decide) (by have := HN10.out; omega) HW10.out (fit_by (by decide) (by simp) (Or.inl rfl) (by decide +kernel)) (by decide +kernel) (by decide +kernel) (by decide +kernel) (by decide +kernel)).mono ?_
  rintro e w11 ⟨rfl, r11, hr, hw, ht⟩
  have hrM : ∀ j, r11 = some j → M ≤ j := fun j hj => (hw.row_in j hj).1
  have HB11 := Lib.hid (HB10.out.trans (ht.below (by have := HN10.out; omega) (by omega) (fun j hj => by have := HX10.out j hj; omega)))
  have HR11 := Lib.hid (HR10.out.two ht (by omega) (fun e => by have := HX10.out N e.symm; omega))
  have HW11 := Lib.hid hw
  have HX11 := Lib.hid hrM
  have HN11 := Lib.hid (Nat.le_trans HN10.out ht.size)
  clear hr hw ht hrM
  go_wp2_with fail
  refine (wlow_c M M r11 [5] [5] 3 3 1 2 1 1 1 _ (by decide) (by have := HN11.out; omega) HW11.out (fit_by (by decide) (by simp) (Or.inl rfl) (by decide +kernel)) (by decide +kernel) (by decide +kernel) (by decide +kernel) (by decide +kernel)).mono ?_
  rintro e w12 ⟨rfl, r12, hr, hw, ht⟩
  have hrM : ∀ j, r12 = some j → M ≤ j := fun j hj => (hw.row_in j hj).1
  have HB12 := Lib.hid (HB11.out.trans (ht.below (by have := HN11.out; omega) (by omega) (fun j hj => by have := HX11.out j hj; omega)))
  have HR12 := Lib.hid (HR11.out.two ht (by omega) (fun e => by have := HX11.out N e.symm; omega))
  have HW12 := Lib.hid hw
  have HX12 := Lib.hid hrM
  have HN12 := Lib.hid (Nat.le_trans HN11.out ht.size)
  clear hr hw ht hrM
  go_wp2_with fail
  refine (wtext_any M M r12 [5] 3 1 _ HW12.out).mono ?_
  rintro e w' ⟨rfl, rfl⟩
  go_wp2_with fail
  refine (wraw_any M M r12 [5] 3 1 _ _ (by decide) (by decide) (by have := HN12.out; omega) HW12.out).mono ?_
  rintro e w13 ⟨rfl, r13, hr, hw, ht⟩
  have HB13 := Lib.hid (HB12.out.trans (ht.below (by have := HN12.out; omega) (by omega) (fun j hj => by have := HX12.out j hj; omega)))
  have HR13 := Lib.hid (HR12.out.two ht (by omega) (fun e => by have := HX12.out N e.symm; omega))
  have HW13 := Lib.hid hw
  clear hr hw ht
  go_wp2_with fail
  refine (wtext_any M M r13 _ _ _ _ HW13.out).mono ?_
  rintro e w' ⟨rfl, rfl⟩
  go_wp2_with fail
  refine (wlen_any M M r13 _ _ _ _ HW13.out).mono ?_
  rintro e w' ⟨rfl, rfl⟩
  go_wp2_with fail
  refine (rat_c N _ 8 1 1 _ HR13.out (by decide) (by decide)).mono ?_
  rintro e w' ⟨rfl, rfl⟩
  go_wp2_with fail
  refine (rleft_any N _ 8 1 _ HR13.out (by decide) (by decide)).mono ?_
  rintro e w' ⟨rfl, kk, rfl⟩
  go_wp2_with fail
  go_ret
  exact ⟨rfl, below_drewN HB13.out _⟩
end Go.Proofs.Ytcgejhlhbokpiaa
