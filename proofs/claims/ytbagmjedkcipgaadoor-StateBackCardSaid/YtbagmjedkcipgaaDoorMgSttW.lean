/-
  What the operators of one number change, whatever the operand is.
-/
import Derived.Test.YtbagmjedkcipgaaDoorMgSttK
namespace Go.Proofs.YtbagmjedkcipgaaDoor
open Go.RowKit

/-- May a number stand where a whole one from 0 to m is asked? -/
def okCh (k y m : Int) : Bool := okTo k y (m * 10000) && decide ((unitsOf k y).tmod 10000 = 0)
set_option maxRecDepth 100000 in
theorem choice_ok (b off al ac : Nat) (k y m : Int) (W : World) (h : NumAt W b off k y) (hi : 0 < al) (hm : 0 ≤ m ∧ m ≤ 7) (hs : okCh k y m = true) :
    Calls Tryd.prog 40 #[.slice (some ⟨b, off, none⟩) al ac, .int .i64 m] W fun e w' => e = .returned (.int .i64 ((unitsOf k y).tdiv 10000)) ∧ Below W.heap.size W w' := by
  simp only [okCh, Bool.and_eq_true, decide_eq_true_eq] at hs
  have HN := Lib.hid (withinO_ok b off 0 al ac k y (m * 10000) W (by rw [Nat.zero_mul, Nat.add_zero]; exact h) hi hs.1)
  have hw : IntKind.i64.wrap (m * 10000) = m * 10000 := IntWalk.i64_in _ (by omega)
  have hr := hs.1
  simp only [okTo, Bool.and_eq_true, decide_eq_true_eq] at hr
  obtain ⟨u, hu⟩ : ∃ u, unitsOf k y = u := ⟨_, rfl⟩
  rw [hu] at HN hs hr ⊢
  obtain ⟨_, h0⟩ := hs
  have hd : IntKind.i64.wrap (u.tdiv 10000) = u.tdiv 10000 := IntWalk.i64_in _ (by rw [Int.tdiv_eq_ediv_of_nonneg hr.2.1]; omega)
  clear h hi hm hr hu
  go_enter Tryd.func40, Tryd.ntmps40
  go_wp2_with fail
  refine HN.out.mono ?_
  rintro e w1 ⟨rfl, hb⟩
  have HB := Lib.hid hb
  clear hb
  go_wp2_with fail
  go_ret
  exact ⟨rfl, HB.out⟩
set_option maxRecDepth 100000 in
theorem choice_no (b off al ac : Nat) (k y m : Int) (W : World) (h : NumAt W b off k y) (hi : 0 < al) (hm : 0 ≤ m ∧ m ≤ 7) (hs : okCh k y m = false) :
    Calls Tryd.prog 40 #[.slice (some ⟨b, off, none⟩) al ac, .int .i64 m] W fun e w' => e = gUp 2 ∧ Below W.heap.size W w' := by
  by_cases ht : okTo k y (m * 10000) = true
  · simp only [okCh, ht, Bool.true_and, decide_eq_false_iff_not] at hs
    have HN := Lib.hid (withinO_ok b off 0 al ac k y (m * 10000) W (by rw [Nat.zero_mul, Nat.add_zero]; exact h) hi ht)
    have hw : IntKind.i64.wrap (m * 10000) = m * 10000 := IntWalk.i64_in _ (by omega)
    obtain ⟨u, hu⟩ : ∃ u, unitsOf k y = u := ⟨_, rfl⟩
    rw [hu] at HN hs
    clear h hi hm ht hu
    go_enter Tryd.func40, Tryd.ntmps40
    go_wp2_with fail
    refine HN.out.mono ?_
    rintro e w1 ⟨rfl, hb⟩
    have HB := Lib.hid hb
    clear hb
    go_wp2_with fail
    refine (up_any 2 _).mono ?_
    rintro e w' ⟨rfl, rfl⟩
    exact ⟨rfl, rfl, HB.out⟩
  · exact choice_far b off al ac k y m W h hi hm (by simpa using ht)
theorem c5_ok (n : Nat) (M : Array Value) (b off al ac : Nat) (k y : Int) (W : World) (hb : Blk W n 57 M) (h : NumAt W b off k y) (hi : 0 < al) (hs : okTo k y 1073741824 = true) (h6 : 9 < M.size) :
    Calls Tryd.prog 38 #[.pointer (some ⟨n, 0, none⟩), .slice (some ⟨b, off, none⟩) al ac] W fun e w' => e = .returned (.tuple #[]) ∧ Blk w' n 57 (M.setIfInBounds 9 (.int .i64 (unitsOf k y))) ∧ Two W w' n none := by
  have HN := Lib.hid (amount_ok b off 0 al ac k y W (by rw [Nat.zero_mul, Nat.add_zero]; exact h) hi hs)
  have HB := Lib.hid hb
  obtain ⟨u, hu⟩ : ∃ u, (unitsOf k y) = u := ⟨_, rfl⟩
  rw [hu] at HN
  rw [hu]
  have H6 := Lib.hid h6
  clear h hi hs hu hb h6
  go_enter Tryd.func38, Tryd.ntmps38
  go_wp2_with fail
  refine HN.out.mono ?_
  rintro e w1 ⟨rfl, hb⟩
  have b1 := HB.out.below hb HB.out.lt
  have c6 := b1.cell 9
  rw [Array.getElem?_eq_getElem H6.out] at c6
  have f6 := b1.frozen 9
  have HT := Lib.hid (show Blk w1 n 57 M ∧ Two W w1 n none from ⟨b1, ⟨hb.os, hb.tape, hb.output, hb.size, fun j hj _ _ => hb.block j hj⟩⟩)
  clear hb b1 HN
  go_wp2_with fail
  go_end0
  exact ⟨rfl, HT.out.1.set_ 9 _, HT.out.2.set_ 9 _⟩
theorem c5_no (n : Nat) (b off al ac : Nat) (k y : Int) (W : World) (h : NumAt W b off k y) (hi : 0 < al) (hs : okTo k y 1073741824 = false) :
    Calls Tryd.prog 38 #[.pointer (some ⟨n, 0, none⟩), .slice (some ⟨b, off, none⟩) al ac] W fun e w' => e = gUp 2 ∧ Two W w' n none := by
  have HN := Lib.hid (amount_no b off 0 al ac k y W (by rw [Nat.zero_mul, Nat.add_zero]; exact h) hi hs)
  clear h hi hs
  go_enter Tryd.func38, Tryd.ntmps38
  go_wp2_with fail
  refine HN.out.mono ?_
  rintro e w1 ⟨rfl, hb⟩
  exact ⟨rfl, rfl, ⟨hb.os, hb.tape, hb.output, hb.size, fun j hj _ _ => hb.block j hj⟩⟩
theorem c6_ok (n : Nat) (M : Array Value) (b off al ac : Nat) (k y : Int) (W : World) (hb : Blk W n 57 M) (h : NumAt W b off k y) (hi : 0 < al) (hs : okCh k y 2 = true) (h6 : 7 < M.size) :
    Calls Tryd.prog 39 #[.pointer (some ⟨n, 0, none⟩), .slice (some ⟨b, off, none⟩) al ac] W fun e w' => e = .returned (.tuple #[]) ∧ Blk w' n 57 (M.setIfInBounds 7 (.int .i64 ((unitsOf k y).tdiv 10000))) ∧ Two W w' n none := by
  have HN := Lib.hid (choice_ok b off al ac k y 2 W h hi (by decide) hs)
  have HB := Lib.hid hb
  obtain ⟨u, hu⟩ : ∃ u, ((unitsOf k y).tdiv 10000) = u := ⟨_, rfl⟩
  rw [hu] at HN
  rw [hu]
  have H6 := Lib.hid h6
  clear h hi hs hu hb h6
  go_enter Tryd.func39, Tryd.ntmps39
  go_wp2_with fail
  refine HN.out.mono ?_
  rintro e w1 ⟨rfl, hb⟩
  have b1 := HB.out.below hb HB.out.lt
  have c6 := b1.cell 7
  rw [Array.getElem?_eq_getElem H6.out] at c6
  have f6 := b1.frozen 7
  have HT := Lib.hid (show Blk w1 n 57 M ∧ Two W w1 n none from ⟨b1, ⟨hb.os, hb.tape, hb.output, hb.size, fun j hj _ _ => hb.block j hj⟩⟩)
  clear hb b1 HN
  go_wp2_with fail
  go_end0
  exact ⟨rfl, HT.out.1.set_ 7 _, HT.out.2.set_ 7 _⟩
theorem c6_no (n : Nat) (b off al ac : Nat) (k y : Int) (W : World) (h : NumAt W b off k y) (hi : 0 < al) (hs : okCh k y 2 = false) :
    Calls Tryd.prog 39 #[.pointer (some ⟨n, 0, none⟩), .slice (some ⟨b, off, none⟩) al ac] W fun e w' => e = gUp 2 ∧ Two W w' n none := by
  have HN := Lib.hid (choice_no b off al ac k y 2 W h hi (by decide) hs)
  clear h hi hs
  go_enter Tryd.func39, Tryd.ntmps39
  go_wp2_with fail
  refine HN.out.mono ?_
  rintro e w1 ⟨rfl, hb⟩
  exact ⟨rfl, rfl, ⟨hb.os, hb.tape, hb.output, hb.size, fun j hj _ _ => hb.block j hj⟩⟩
theorem c7_ok (n : Nat) (M : Array Value) (b off al ac : Nat) (k y : Int) (W : World) (hb : Blk W n 57 M) (h : NumAt W b off k y) (hi : 0 < al) (hs : okCh k y 2 = true) (h6 : 8 < M.size) :
    Calls Tryd.prog 41 #[.pointer (some ⟨n, 0, none⟩), .slice (some ⟨b, off, none⟩) al ac] W fun e w' => e = .returned (.tuple #[]) ∧ Blk w' n 57 (M.setIfInBounds 8 (.int .i64 ((unitsOf k y).tdiv 10000))) ∧ Two W w' n none := by
  have HN := Lib.hid (choice_ok b off al ac k y 2 W h hi (by decide) hs)
  have HB := Lib.hid hb
  obtain ⟨u, hu⟩ : ∃ u, ((unitsOf k y).tdiv 10000) = u := ⟨_, rfl⟩
  rw [hu] at HN
  rw [hu]
  have H6 := Lib.hid h6
  clear h hi hs hu hb h6
  go_enter Tryd.func41, Tryd.ntmps41
  go_wp2_with fail
  refine HN.out.mono ?_
  rintro e w1 ⟨rfl, hb⟩
  have b1 := HB.out.below hb HB.out.lt
  have c6 := b1.cell 8
  rw [Array.getElem?_eq_getElem H6.out] at c6
  have f6 := b1.frozen 8
  have HT := Lib.hid (show Blk w1 n 57 M ∧ Two W w1 n none from ⟨b1, ⟨hb.os, hb.tape, hb.output, hb.size, fun j hj _ _ => hb.block j hj⟩⟩)
  clear hb b1 HN
  go_wp2_with fail
  go_end0
  exact ⟨rfl, HT.out.1.set_ 8 _, HT.out.2.set_ 8 _⟩
theorem c7_no (n : Nat) (b off al ac : Nat) (k y : Int) (W : World) (h : NumAt W b off k y) (hi : 0 < al) (hs : okCh k y 2 = false) :
    Calls Tryd.prog 41 #[.pointer (some ⟨n, 0, none⟩), .slice (some ⟨b, off, none⟩) al ac] W fun e w' => e = gUp 2 ∧ Two W w' n none := by
  have HN := Lib.hid (choice_no b off al ac k y 2 W h hi (by decide) hs)
  clear h hi hs
  go_enter Tryd.func41, Tryd.ntmps41
  go_wp2_with fail
  refine HN.out.mono ?_
  rintro e w1 ⟨rfl, hb⟩
  exact ⟨rfl, rfl, ⟨hb.os, hb.tape, hb.output, hb.size, fun j hj _ _ => hb.block j hj⟩⟩
theorem t1_ok (n : Nat) (M : Array Value) (b off al ac : Nat) (k y : Int) (W : World) (hb : Blk W n 57 M) (h : NumAt W b off k y) (hi : 0 < al) (hs : isNum k y = true) (h6 : 22 < M.size) :
    Calls Tryd.prog 66 #[.pointer (some ⟨n, 0, none⟩), .slice (some ⟨b, off, none⟩) al ac] W fun e w' => e = .returned (.tuple #[]) ∧ Blk w' n 57 (M.setIfInBounds 22 (.int .i64 (unitsOf k y))) ∧ Two W w' n none := by
  have HN := Lib.hid (number_ok b off 0 al ac k y W (by rw [Nat.zero_mul, Nat.add_zero]; exact h) hi hs)
  have HB := Lib.hid hb
  obtain ⟨u, hu⟩ : ∃ u, (unitsOf k y) = u := ⟨_, rfl⟩
  rw [hu] at HN
  rw [hu]
  have H6 := Lib.hid h6
  clear h hi hs hu hb h6
  go_enter Tryd.func66, Tryd.ntmps66
  go_wp2_with fail
  refine HN.out.mono ?_
  rintro e w1 ⟨rfl, hb⟩
  have b1 := HB.out.below hb HB.out.lt
  have c6 := b1.cell 22
  rw [Array.getElem?_eq_getElem H6.out] at c6
  have f6 := b1.frozen 22
  have HT := Lib.hid (show Blk w1 n 57 M ∧ Two W w1 n none from ⟨b1, ⟨hb.os, hb.tape, hb.output, hb.size, fun j hj _ _ => hb.block j hj⟩⟩)
  clear hb b1 HN
  go_wp2_with fail
  go_end0
  exact ⟨rfl, HT.out.1.set_ 22 _, HT.out.2.set_ 22 _⟩
theorem t1_no (n : Nat) (b off al ac : Nat) (k y : Int) (W : World) (h : NumAt W b off k y) (hi : 0 < al) (hs : isNum k y = false) :
    Calls Tryd.prog 66 #[.pointer (some ⟨n, 0, none⟩), .slice (some ⟨b, off, none⟩) al ac] W fun e w' => e = gUp 2 ∧ Two W w' n none := by
  have HN := Lib.hid (number_no b off 0 al ac k y W (by rw [Nat.zero_mul, Nat.add_zero]; exact h) hi hs)
  clear h hi hs
  go_enter Tryd.func66, Tryd.ntmps66
  go_wp2_with fail
  refine HN.out.mono ?_
  rintro e w1 ⟨rfl, hb⟩
  exact ⟨rfl, rfl, ⟨hb.os, hb.tape, hb.output, hb.size, fun j hj _ _ => hb.block j hj⟩⟩
theorem t2_ok (n : Nat) (M : Array Value) (b off al ac : Nat) (k y : Int) (W : World) (hb : Blk W n 57 M) (h : NumAt W b off k y) (hi : 0 < al) (hs : isNum k y = true) (h6 : 23 < M.size) :
    Calls Tryd.prog 67 #[.pointer (some ⟨n, 0, none⟩), .slice (some ⟨b, off, none⟩) al ac] W fun e w' => e = .returned (.tuple #[]) ∧ Blk w' n 57 (M.setIfInBounds 23 (.int .i64 (unitsOf k y))) ∧ Two W w' n none := by
  have HN := Lib.hid (number_ok b off 0 al ac k y W (by rw [Nat.zero_mul, Nat.add_zero]; exact h) hi hs)
  have HB := Lib.hid hb
  obtain ⟨u, hu⟩ : ∃ u, (unitsOf k y) = u := ⟨_, rfl⟩
  rw [hu] at HN
  rw [hu]
  have H6 := Lib.hid h6
  clear h hi hs hu hb h6
  go_enter Tryd.func67, Tryd.ntmps67
  go_wp2_with fail
  refine HN.out.mono ?_
  rintro e w1 ⟨rfl, hb⟩
  have b1 := HB.out.below hb HB.out.lt
  have c6 := b1.cell 23
  rw [Array.getElem?_eq_getElem H6.out] at c6
  have f6 := b1.frozen 23
  have HT := Lib.hid (show Blk w1 n 57 M ∧ Two W w1 n none from ⟨b1, ⟨hb.os, hb.tape, hb.output, hb.size, fun j hj _ _ => hb.block j hj⟩⟩)
  clear hb b1 HN
  go_wp2_with fail
  go_end0
  exact ⟨rfl, HT.out.1.set_ 23 _, HT.out.2.set_ 23 _⟩
theorem t2_no (n : Nat) (b off al ac : Nat) (k y : Int) (W : World) (h : NumAt W b off k y) (hi : 0 < al) (hs : isNum k y = false) :
    Calls Tryd.prog 67 #[.pointer (some ⟨n, 0, none⟩), .slice (some ⟨b, off, none⟩) al ac] W fun e w' => e = gUp 2 ∧ Two W w' n none := by
  have HN := Lib.hid (number_no b off 0 al ac k y W (by rw [Nat.zero_mul, Nat.add_zero]; exact h) hi hs)
  clear h hi hs
  go_enter Tryd.func67, Tryd.ntmps67
  go_wp2_with fail
  refine HN.out.mono ?_
  rintro e w1 ⟨rfl, hb⟩
  exact ⟨rfl, rfl, ⟨hb.os, hb.tape, hb.output, hb.size, fun j hj _ _ => hb.block j hj⟩⟩
theorem t3_ok (n : Nat) (M : Array Value) (b off al ac : Nat) (k y : Int) (W : World) (hb : Blk W n 57 M) (h : NumAt W b off k y) (hi : 0 < al) (hs : isNum k y = true) (h6 : 24 < M.size) :
    Calls Tryd.prog 68 #[.pointer (some ⟨n, 0, none⟩), .slice (some ⟨b, off, none⟩) al ac] W fun e w' => e = .returned (.tuple #[]) ∧ Blk w' n 57 (M.setIfInBounds 24 (.int .i64 (unitsOf k y))) ∧ Two W w' n none := by
  have HN := Lib.hid (number_ok b off 0 al ac k y W (by rw [Nat.zero_mul, Nat.add_zero]; exact h) hi hs)
  have HB := Lib.hid hb
  obtain ⟨u, hu⟩ : ∃ u, (unitsOf k y) = u := ⟨_, rfl⟩
  rw [hu] at HN
  rw [hu]
  have H6 := Lib.hid h6
  clear h hi hs hu hb h6
  go_enter Tryd.func68, Tryd.ntmps68
  go_wp2_with fail
  refine HN.out.mono ?_
  rintro e w1 ⟨rfl, hb⟩
  have b1 := HB.out.below hb HB.out.lt
  have c6 := b1.cell 24
  rw [Array.getElem?_eq_getElem H6.out] at c6
  have f6 := b1.frozen 24
  have HT := Lib.hid (show Blk w1 n 57 M ∧ Two W w1 n none from ⟨b1, ⟨hb.os, hb.tape, hb.output, hb.size, fun j hj _ _ => hb.block j hj⟩⟩)
  clear hb b1 HN
  go_wp2_with fail
  go_end0
  exact ⟨rfl, HT.out.1.set_ 24 _, HT.out.2.set_ 24 _⟩
theorem t3_no (n : Nat) (b off al ac : Nat) (k y : Int) (W : World) (h : NumAt W b off k y) (hi : 0 < al) (hs : isNum k y = false) :
    Calls Tryd.prog 68 #[.pointer (some ⟨n, 0, none⟩), .slice (some ⟨b, off, none⟩) al ac] W fun e w' => e = gUp 2 ∧ Two W w' n none := by
  have HN := Lib.hid (number_no b off 0 al ac k y W (by rw [Nat.zero_mul, Nat.add_zero]; exact h) hi hs)
  clear h hi hs
  go_enter Tryd.func68, Tryd.ntmps68
  go_wp2_with fail
  refine HN.out.mono ?_
  rintro e w1 ⟨rfl, hb⟩
  exact ⟨rfl, rfl, ⟨hb.os, hb.tape, hb.output, hb.size, fun j hj _ _ => hb.block j hj⟩⟩
theorem t4_ok (n : Nat) (M : Array Value) (b off al ac : Nat) (k y : Int) (W : World) (hb : Blk W n 57 M) (h : NumAt W b off k y) (hi : 0 < al) (hs : isNum k y = true) (h6 : 25 < M.size) :
    Calls Tryd.prog 69 #[.pointer (some ⟨n, 0, none⟩), .slice (some ⟨b, off, none⟩) al ac] W fun e w' => e = .returned (.tuple #[]) ∧ Blk w' n 57 (M.setIfInBounds 25 (.int .i64 (unitsOf k y))) ∧ Two W w' n none := by
  have HN := Lib.hid (number_ok b off 0 al ac k y W (by rw [Nat.zero_mul, Nat.add_zero]; exact h) hi hs)
  have HB := Lib.hid hb
  obtain ⟨u, hu⟩ : ∃ u, (unitsOf k y) = u := ⟨_, rfl⟩
  rw [hu] at HN
  rw [hu]
  have H6 := Lib.hid h6
  clear h hi hs hu hb h6
  go_enter Tryd.func69, Tryd.ntmps69
  go_wp2_with fail
  refine HN.out.mono ?_
  rintro e w1 ⟨rfl, hb⟩
  have b1 := HB.out.below hb HB.out.lt
  have c6 := b1.cell 25
  rw [Array.getElem?_eq_getElem H6.out] at c6
  have f6 := b1.frozen 25
  have HT := Lib.hid (show Blk w1 n 57 M ∧ Two W w1 n none from ⟨b1, ⟨hb.os, hb.tape, hb.output, hb.size, fun j hj _ _ => hb.block j hj⟩⟩)
  clear hb b1 HN
  go_wp2_with fail
  go_end0
  exact ⟨rfl, HT.out.1.set_ 25 _, HT.out.2.set_ 25 _⟩
theorem t4_no (n : Nat) (b off al ac : Nat) (k y : Int) (W : World) (h : NumAt W b off k y) (hi : 0 < al) (hs : isNum k y = false) :
    Calls Tryd.prog 69 #[.pointer (some ⟨n, 0, none⟩), .slice (some ⟨b, off, none⟩) al ac] W fun e w' => e = gUp 2 ∧ Two W w' n none := by
  have HN := Lib.hid (number_no b off 0 al ac k y W (by rw [Nat.zero_mul, Nat.add_zero]; exact h) hi hs)
  clear h hi hs
  go_enter Tryd.func69, Tryd.ntmps69
  go_wp2_with fail
  refine HN.out.mono ?_
  rintro e w1 ⟨rfl, hb⟩
  exact ⟨rfl, rfl, ⟨hb.os, hb.tape, hb.output, hb.size, fun j hj _ _ => hb.block j hj⟩⟩
theorem t5_ok (n : Nat) (M : Array Value) (b off al ac : Nat) (k y : Int) (W : World) (hb : Blk W n 57 M) (h : NumAt W b off k y) (hi : 0 < al) (hs : isNum k y = true) (h6 : 27 < M.size) :
    Calls Tryd.prog 70 #[.pointer (some ⟨n, 0, none⟩), .slice (some ⟨b, off, none⟩) al ac] W fun e w' => e = .returned (.tuple #[]) ∧ Blk w' n 57 (M.setIfInBounds 27 (.int .i64 (unitsOf k y))) ∧ Two W w' n none := by
  have HN := Lib.hid (number_ok b off 0 al ac k y W (by rw [Nat.zero_mul, Nat.add_zero]; exact h) hi hs)
  have HB := Lib.hid hb
  obtain ⟨u, hu⟩ : ∃ u, (unitsOf k y) = u := ⟨_, rfl⟩
  rw [hu] at HN
  rw [hu]
  have H6 := Lib.hid h6
  clear h hi hs hu hb h6
  go_enter Tryd.func70, Tryd.ntmps70
  go_wp2_with fail
  refine HN.out.mono ?_
  rintro e w1 ⟨rfl, hb⟩
  have b1 := HB.out.below hb HB.out.lt
  have c6 := b1.cell 27
  rw [Array.getElem?_eq_getElem H6.out] at c6
  have f6 := b1.frozen 27
  have HT := Lib.hid (show Blk w1 n 57 M ∧ Two W w1 n none from ⟨b1, ⟨hb.os, hb.tape, hb.output, hb.size, fun j hj _ _ => hb.block j hj⟩⟩)
  clear hb b1 HN
  go_wp2_with fail
  go_end0
  exact ⟨rfl, HT.out.1.set_ 27 _, HT.out.2.set_ 27 _⟩
theorem t5_no (n : Nat) (b off al ac : Nat) (k y : Int) (W : World) (h : NumAt W b off k y) (hi : 0 < al) (hs : isNum k y = false) :
    Calls Tryd.prog 70 #[.pointer (some ⟨n, 0, none⟩), .slice (some ⟨b, off, none⟩) al ac] W fun e w' => e = gUp 2 ∧ Two W w' n none := by
  have HN := Lib.hid (number_no b off 0 al ac k y W (by rw [Nat.zero_mul, Nat.add_zero]; exact h) hi hs)
  clear h hi hs
  go_enter Tryd.func70, Tryd.ntmps70
  go_wp2_with fail
  refine HN.out.mono ?_
  rintro e w1 ⟨rfl, hb⟩
  exact ⟨rfl, rfl, ⟨hb.os, hb.tape, hb.output, hb.size, fun j hj _ _ => hb.block j hj⟩⟩
theorem t7_ok (n : Nat) (M : Array Value) (b off al ac : Nat) (k y : Int) (W : World) (hb : Blk W n 57 M) (h : NumAt W b off k y) (hi : 0 < al) (hs : okCh k y 7 = true) (h6 : 29 < M.size) :
    Calls Tryd.prog 72 #[.pointer (some ⟨n, 0, none⟩), .slice (some ⟨b, off, none⟩) al ac] W fun e w' => e = .returned (.tuple #[]) ∧ Blk w' n 57 (M.setIfInBounds 29 (.int .i64 ((unitsOf k y).tdiv 10000))) ∧ Two W w' n none := by
  have HN := Lib.hid (choice_ok b off al ac k y 7 W h hi (by decide) hs)
  have HB := Lib.hid hb
  obtain ⟨u, hu⟩ : ∃ u, ((unitsOf k y).tdiv 10000) = u := ⟨_, rfl⟩
  rw [hu] at HN
  rw [hu]
  have H6 := Lib.hid h6
  clear h hi hs hu hb h6
  go_enter Tryd.func72, Tryd.ntmps72
  go_wp2_with fail
  refine HN.out.mono ?_
  rintro e w1 ⟨rfl, hb⟩
  have b1 := HB.out.below hb HB.out.lt
  have c6 := b1.cell 29
  rw [Array.getElem?_eq_getElem H6.out] at c6
  have f6 := b1.frozen 29
  have HT := Lib.hid (show Blk w1 n 57 M ∧ Two W w1 n none from ⟨b1, ⟨hb.os, hb.tape, hb.output, hb.size, fun j hj _ _ => hb.block j hj⟩⟩)
  clear hb b1 HN
  go_wp2_with fail
  go_end0
  exact ⟨rfl, HT.out.1.set_ 29 _, HT.out.2.set_ 29 _⟩
theorem t7_no (n : Nat) (b off al ac : Nat) (k y : Int) (W : World) (h : NumAt W b off k y) (hi : 0 < al) (hs : okCh k y 7 = false) :
    Calls Tryd.prog 72 #[.pointer (some ⟨n, 0, none⟩), .slice (some ⟨b, off, none⟩) al ac] W fun e w' => e = gUp 2 ∧ Two W w' n none := by
  have HN := Lib.hid (choice_no b off al ac k y 7 W h hi (by decide) hs)
  clear h hi hs
  go_enter Tryd.func72, Tryd.ntmps72
  go_wp2_with fail
  refine HN.out.mono ?_
  rintro e w1 ⟨rfl, hb⟩
  exact ⟨rfl, rfl, ⟨hb.os, hb.tape, hb.output, hb.size, fun j hj _ _ => hb.block j hj⟩⟩
theorem c4_no (n : Nat) (b off al ac : Nat) (k y : Int) (W : World) (h : NumAt W b off k y) (hi : 0 < al) (hs : okTo k y 1073741824 = false) :
    Calls Tryd.prog 36 #[.pointer (some ⟨n, 0, none⟩), .slice (some ⟨b, off, none⟩) al ac] W fun e w' => e = gUp 2 ∧ Two W w' n none := by
  have HN := Lib.hid (amount_no b off 0 al ac k y W (by rw [Nat.zero_mul, Nat.add_zero]; exact h) hi hs)
  clear h hi hs
  go_enter Tryd.func36, Tryd.ntmps36
  go_wp2_with fail
  refine HN.out.mono ?_
  rintro e w1 ⟨rfl, hb⟩
  exact ⟨rfl, rfl, ⟨hb.os, hb.tape, hb.output, hb.size, fun j hj _ _ => hb.block j hj⟩⟩
theorem c9_ok (n : Nat) (A : Value) (W : World) :
    Calls Tryd.prog 44 #[.pointer (some ⟨n, 0, none⟩), A] W fun e w' => e = .returned (.tuple #[]) ∧ W = w' := by
  go_enter Tryd.func44, Tryd.ntmps44
  go_wp2_with fail
  go_end0
  exact ⟨rfl, rfl⟩
end Go.Proofs.YtbagmjedkcipgaaDoor
