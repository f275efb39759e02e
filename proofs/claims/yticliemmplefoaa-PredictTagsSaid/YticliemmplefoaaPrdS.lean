/-
  predict's recoded, where it does not walk over rows.
-/
import Derived.Test.YticliemmplefoaaPrdR
namespace Go.Proofs.Yticliemmplefoaa
open Go.RowKit Oct Prd Go.Shelf
attribute [local go_sem] Oper.semAt_some

theorem upOn_one (w : World) : Calls Try.prog 24 #[.int .i64 1] w fun e w' => e = gUp 1 ∧ w = w' := by
  have HU := Lib.hid (fun W : World => up_any 1 W)
  go_enter Try.func24, Try.ntmps24
  go_wp2_with fail
  refine (HU.out _).mono ?_
  rintro e w1 ⟨rfl, rfl⟩
  exact ⟨rfl, rfl, rfl⟩

set_option maxRecDepth 100000 in
set_option maxHeartbeats 8000000 in
theorem recoded_bad (s : ByteArray) (pr co cl bf af : Int) (F : FuncId) (caps : Array Value) (w : World) (h0 : I64 pr) (h1 : I64 co) (h2 : I64 cl) (hok : okP pr co cl = false) :
    Calls Try.prog 14 #[parmsV pr co cl, .string s, .int .i64 bf, .int .i64 af, .func (.func F) #[] caps] w fun e W' => e = gUp 1 ∧ Below w.heap.size w W' := by
  have HC := Lib.hid (fun (j : Nat) (W' : World) => callsIn_wide (n := j) |>.2 (checkP_any pr co cl W' h0 h1 h2))
  rw [chk_no hok] at HC
  have HUp := Lib.hid (fun (j : Nat) (W' : World) => callsIn_wide (n := j) |>.2 (upOn_one W'))
  unfold parmsV at HC ⊢
  obtain ⟨N, hN⟩ : ∃ N, w.heap.size = N := ⟨_, rfl⟩
  clear hok h0 h1 h2
  refine (callsIn_wide (n := 6)).1 ?_
  refine callsIn_of_wp_marks Try.func14 rfl trivial ?_ rfl
  simp only [Try.ntmps14, List.size_toArray, List.length_cons, List.length_nil, Nat.reduceAdd, Nat.reduceSub, Array.replicate_succ, Array.replicate_zero, List.push_toArray, List.append_toArray, List.nil_append, List.cons_append]
  obtain ⟨V, hV⟩ : ∃ V, (w.alloc (.cells #[.int .i64 pr, .int .i64 co, .int .i64 cl] 23)).alloc (.cells #[.func (.func F) #[] caps] 37) = V := ⟨_, rfl⟩
  have hVs : V.heap.size = N + 2 := by rw [← hV, World.size_alloc, World.size_alloc, hN]
  have bV0 : Blk V N 23 #[.int .i64 pr, .int .i64 co, .int .i64 cl] := by
    rw [← hV, ← hN]
    exact (Blk.new w _ _).alloc _
  have HBV := Lib.hid (show Below N w V by rw [← hV, ← hN]; exact ((Below.refl _ w).alloc (Nat.le_refl _) _).alloc (by simp) _)
  have v0 := bV0.cell 0
  have v1 := bV0.cell 1
  have v2 := bV0.cell 2
  simp only [List.getElem?_toArray, List.getElem?_cons_zero, List.getElem?_cons_succ] at v0 v1 v2
  clear bV0
  rw [hN]
  gi_wp2
  refine ⟨trivial, (HC.out _ _).mono ?_⟩
  rintro e w1 ⟨rfl, hb⟩
  have HB1 := Lib.hid (HBV.out.trans (hb.mono (by omega)))
  clear hb v0 v1 v2 hV hVs
  gi_wp2
  refine ⟨trivial, (HUp.out _ _).mono ?_⟩
  rintro e w2 ⟨rfl, rfl⟩
  exact ⟨rfl, HB1.out⟩

set_option maxRecDepth 100000 in
set_option maxHeartbeats 8000000 in
theorem recoded_one (s : ByteArray) (pr co cl bf af : Int) (F : FuncId) (caps : Array Value) (w : World) (h0 : I64 pr) (h1 : I64 co) (h2 : I64 cl) (hok : okP pr co cl = true) (hp : pr = 1) (hs : s.size ≤ 4000) :
    Calls Try.prog 14 #[parmsV pr co cl, .string s, .int .i64 bf, .int .i64 af, .func (.func F) #[] caps] w fun e W' => e = .returned (.string s) ∧ Below w.heap.size w W' := by
  have HC := Lib.hid (fun (j : Nat) (W' : World) => callsIn_wide (n := j) |>.2 (checkP_any pr co cl W' h0 h1 h2))
  rw [chk_yes hok] at HC
  have HUp := Lib.hid (fun (j : Nat) (W' : World) => callsIn_wide (n := j) |>.2 (upOn_ok W'))
  unfold parmsV at HC ⊢
  subst hp
  obtain ⟨N, hN⟩ : ∃ N, w.heap.size = N := ⟨_, rfl⟩
  clear hok h0 h1 h2
  refine (callsIn_wide (n := 6)).1 ?_
  refine callsIn_of_wp_marks Try.func14 rfl trivial ?_ rfl
  simp only [Try.ntmps14, List.size_toArray, List.length_cons, List.length_nil, Nat.reduceAdd, Nat.reduceSub, Array.replicate_succ, Array.replicate_zero, List.push_toArray, List.append_toArray, List.nil_append, List.cons_append]
  obtain ⟨V, hV⟩ : ∃ V, (w.alloc (.cells #[.int .i64 1, .int .i64 co, .int .i64 cl] 23)).alloc (.cells #[.func (.func F) #[] caps] 37) = V := ⟨_, rfl⟩
  have hVs : V.heap.size = N + 2 := by rw [← hV, World.size_alloc, World.size_alloc, hN]
  have bV0 : Blk V N 23 #[.int .i64 1, .int .i64 co, .int .i64 cl] := by
    rw [← hV, ← hN]
    exact (Blk.new w _ _).alloc _
  have HBV := Lib.hid (show Below N w V by rw [← hV, ← hN]; exact ((Below.refl _ w).alloc (Nat.le_refl _) _).alloc (by simp) _)
  have B0 := Lib.hid bV0
  have v0 := bV0.cell 0
  have v1 := bV0.cell 1
  have v2 := bV0.cell 2
  simp only [List.getElem?_toArray, List.getElem?_cons_zero, List.getElem?_cons_succ] at v0 v1 v2
  clear bV0
  rw [hN]
  gi_wp2
  refine ⟨trivial, (HC.out _ _).mono ?_⟩
  rintro e w1 ⟨rfl, hb⟩
  have HB1 := Lib.hid (HBV.out.trans (hb.mono (by omega)))
  have C0 := Lib.hid (B0.out.below hb B0.out.lt)
  have u0 := C0.out.cell 0
  simp only [List.getElem?_toArray, List.getElem?_cons_zero] at u0
  clear hb v0 v1 v2 hV hVs
  gi_wp2
  refine ⟨trivial, (HUp.out _ _).mono ?_⟩
  rintro e w2 ⟨rfl, rfl⟩
  gi_wp2
  exact ⟨_, results_tmp rfl _ _ _, rfl, HB1.out⟩

set_option maxRecDepth 100000 in
set_option maxHeartbeats 8000000 in
theorem recoded_uneven (s : ByteArray) (pr co cl n q bf : Nat) (af : Int) (F : FuncId) (caps : Array Value) (w : World) (hpr : pr = 2 ∨ 10 ≤ pr ∧ pr ≤ 15) (hok : okP pr co cl = true) (hn : co * cl = n) (hq : bf + n = q) (hbf : bf ≤ 1) (hs : s.size % q ≠ 0) (hs2 : s.size ≤ 4000) (hco : co ≤ 8192) (hcl : cl ≤ 8192) :
    Calls Try.prog 14 #[parmsV pr co cl, .string s, .int .i64 (bf : Int), .int .i64 af, .func (.func F) #[] caps] w fun e W' => e = gUp 16 ∧ Below w.heap.size w W' := by
  obtain ⟨_, k1, k2, k3⟩ := okP_iff.1 hok
  have hn1 : 1 ≤ n := by rw [← hn]; exact Nat.mul_pos (by omega) (by omega)
  have hnn : ((co : Int) * (cl : Int)) = (n : Int) := by rw [← hn]; push_cast; rfl
  have hn2 : n ≤ 8192 := by omega
  have HC := Lib.hid (fun (j : Nat) (W' : World) => callsIn_wide (n := j) |>.2 (checkP_any pr co cl W' (by unfold I64; omega) (by unfold I64; omega) (by unfold I64; omega)))
  rw [chk_yes hok] at HC
  have HRo := Lib.hid (fun (j : Nat) (W' : World) => callsIn_wide (n := j) |>.2 (rowP_any pr co cl W' (by unfold I64; omega) (by unfold I64; omega) (by unfold I64; omega)))
  have hrow : rowN pr co cl = (n : Int) := by unfold rowN; rw [if_pos hok, hnn]
  rw [hrow] at HRo
  have HUp := Lib.hid (fun (j : Nat) (W' : World) => callsIn_wide (n := j) |>.2 (upOn_ok W'))
  have HUq := Lib.hid (fun (j : Nat) (W' : World) => callsIn_wide (n := j) |>.2 (up_any 16 W'))
  unfold parmsV at HC HRo ⊢
  have hp1 : ((pr : Int) == 1) = false := beq_eq_false_iff_ne.2 (by omega)
  obtain ⟨r, hr⟩ : ∃ r, s.size % q = r := ⟨_, rfl⟩
  have hrem : (s.size : Int).tmod (q : Int) = (r : Int) := by rw [← hr]; exact (Int.ofNat_tmod _ _).symm
  have hrne : ((r : Int) == 0) = false := beq_eq_false_iff_ne.2 (by rw [hr] at hs; omega)
  have hn0' : ¬ (q : Int) = 0 := by omega
  have hqi : (bf : Int) + (n : Int) = (q : Int) := by omega
  obtain ⟨N, hN⟩ : ∃ N, w.heap.size = N := ⟨_, rfl⟩
  clear hok hrow hnn hn hpr k1 k2 k3 hs hr
  refine (callsIn_wide (n := 6)).1 ?_
  refine callsIn_of_wp_marks Try.func14 rfl trivial ?_ rfl
  simp only [Try.ntmps14, List.size_toArray, List.length_cons, List.length_nil, Nat.reduceAdd, Nat.reduceSub, Array.replicate_succ, Array.replicate_zero, List.push_toArray, List.append_toArray, List.nil_append, List.cons_append]
  obtain ⟨V, hV⟩ : ∃ V, (w.alloc (.cells #[.int .i64 (pr : Int), .int .i64 (co : Int), .int .i64 (cl : Int)] 23)).alloc (.cells #[.func (.func F) #[] caps] 37) = V := ⟨_, rfl⟩
  have hVs : V.heap.size = N + 2 := by rw [← hV, World.size_alloc, World.size_alloc, hN]
  have bV0 : Blk V N 23 #[.int .i64 (pr : Int), .int .i64 (co : Int), .int .i64 (cl : Int)] := by
    rw [← hV, ← hN]
    exact (Blk.new w _ _).alloc _
  have HBV := Lib.hid (show Below N w V by rw [← hV, ← hN]; exact ((Below.refl _ w).alloc (Nat.le_refl _) _).alloc (by simp) _)
  have B0 := Lib.hid bV0
  have v0 := bV0.cell 0
  have v1 := bV0.cell 1
  have v2 := bV0.cell 2
  simp only [List.getElem?_toArray, List.getElem?_cons_zero, List.getElem?_cons_succ] at v0 v1 v2
  clear bV0
  rw [hN]
  gi_wp2
  refine ⟨trivial, (HC.out _ _).mono ?_⟩
  rintro e w1 ⟨rfl, hb⟩
  have HB1 := Lib.hid (HBV.out.trans (hb.mono (by omega)))
  have HS1 := Lib.hid (show N + 2 ≤ w1.heap.size by have := hb.size; omega)
  have C0 := Lib.hid (B0.out.below hb B0.out.lt)
  have u0 := C0.out.cell 0
  have u1 := C0.out.cell 1
  have u2 := C0.out.cell 2
  simp only [List.getElem?_toArray, List.getElem?_cons_zero, List.getElem?_cons_succ] at u0 u1 u2
  clear hb v0 v1 v2 hV hVs
  gi_wp2
  refine ⟨trivial, (HUp.out _ _).mono ?_⟩
  rintro e w2 ⟨rfl, rfl⟩
  gi_wp2
  refine ⟨trivial, (HRo.out _ _).mono ?_⟩
  rintro e w2 ⟨rfl, hb⟩
  have HB2 := Lib.hid (HB1.out.trans (hb.mono (by have := HS1.out; omega)))
  clear hb u0 u1 u2
  gi_wp2
  refine ⟨trivial, (HUq.out _ _).mono ?_⟩
  rintro e w3 ⟨rfl, rfl⟩
  exact ⟨rfl, HB2.out⟩
end Go.Proofs.Yticliemmplefoaa
