/-
  state.changeOf at every name.
-/
import Derived.Test.YtbagmjedkcipgaaDoorMgJFldT
namespace Go.Proofs.YtbagmjedkcipgaaDoor
open Go.RowKit

set_option maxRecDepth 100000 in
theorem change_cm (w : World) : Calls Tryd.prog 20 #[.string ⟨#[99, 109]⟩] w fun e w' => e = .returned (.func (.func 32) #[] #[]) ∧ w = w' := by
  go_enter Tryd.func20, Tryd.ntmps20
  go_wp2_with fail
  go_ret
  exact ⟨rfl, rfl⟩
set_option maxRecDepth 100000 in
theorem change_M (w : World) : Calls Tryd.prog 20 #[.string ⟨#[77]⟩] w fun e w' => e = .returned (.func (.func 38) #[] #[]) ∧ w = w' := by
  go_enter Tryd.func20, Tryd.ntmps20
  go_wp2_with fail
  go_ret
  exact ⟨rfl, rfl⟩
set_option maxRecDepth 100000 in
theorem change_j (w : World) : Calls Tryd.prog 20 #[.string ⟨#[106]⟩] w fun e w' => e = .returned (.func (.func 41) #[] #[]) ∧ w = w' := by
  go_enter Tryd.func20, Tryd.ntmps20
  go_wp2_with fail
  go_ret
  exact ⟨rfl, rfl⟩
set_option maxRecDepth 100000 in
theorem change_d (w : World) : Calls Tryd.prog 20 #[.string ⟨#[100]⟩] w fun e w' => e = .returned (.func (.func 42) #[] #[]) ∧ w = w' := by
  go_enter Tryd.func20, Tryd.ntmps20
  go_wp2_with fail
  go_ret
  exact ⟨rfl, rfl⟩
set_option maxRecDepth 100000 in
theorem change_i (w : World) : Calls Tryd.prog 20 #[.string ⟨#[105]⟩] w fun e w' => e = .returned (.func (.func 44) #[] #[]) ∧ w = w' := by
  go_enter Tryd.func20, Tryd.ntmps20
  go_wp2_with fail
  go_ret
  exact ⟨rfl, rfl⟩
set_option maxRecDepth 100000 in
theorem change_ri (w : World) : Calls Tryd.prog 20 #[.string ⟨#[114, 105]⟩] w fun e w' => e = .returned (.func (.func 44) #[] #[]) ∧ w = w' := by
  go_enter Tryd.func20, Tryd.ntmps20
  go_wp2_with fail
  go_ret
  exact ⟨rfl, rfl⟩
set_option maxRecDepth 100000 in
theorem change_gs (w : World) : Calls Tryd.prog 20 #[.string ⟨#[103, 115]⟩] w fun e w' => e = .returned (.func (.func 44) #[] #[]) ∧ w = w' := by
  go_enter Tryd.func20, Tryd.ntmps20
  go_wp2_with fail
  go_ret
  exact ⟨rfl, rfl⟩
set_option maxRecDepth 100000 in
theorem change_g (w : World) : Calls Tryd.prog 20 #[.string ⟨#[103]⟩] w fun e w' => e = .returned (.func (.func 45) #[] #[]) ∧ w = w' := by
  go_enter Tryd.func20, Tryd.ntmps20
  go_wp2_with fail
  go_ret
  exact ⟨rfl, rfl⟩
set_option maxRecDepth 100000 in
theorem change_G (w : World) : Calls Tryd.prog 20 #[.string ⟨#[71]⟩] w fun e w' => e = .returned (.func (.func 47) #[] #[]) ∧ w = w' := by
  go_enter Tryd.func20, Tryd.ntmps20
  go_wp2_with fail
  go_ret
  exact ⟨rfl, rfl⟩
set_option maxRecDepth 100000 in
theorem change_RG (w : World) : Calls Tryd.prog 20 #[.string ⟨#[82, 71]⟩] w fun e w' => e = .returned (.func (.func 49) #[] #[]) ∧ w = w' := by
  go_enter Tryd.func20, Tryd.ntmps20
  go_wp2_with fail
  go_ret
  exact ⟨rfl, rfl⟩
set_option maxRecDepth 100000 in
theorem change_k (w : World) : Calls Tryd.prog 20 #[.string ⟨#[107]⟩] w fun e w' => e = .returned (.func (.func 50) #[] #[]) ∧ w = w' := by
  go_enter Tryd.func20, Tryd.ntmps20
  go_wp2_with fail
  go_ret
  exact ⟨rfl, rfl⟩
set_option maxRecDepth 100000 in
theorem change_K (w : World) : Calls Tryd.prog 20 #[.string ⟨#[75]⟩] w fun e w' => e = .returned (.func (.func 51) #[] #[]) ∧ w = w' := by
  go_enter Tryd.func20, Tryd.ntmps20
  go_wp2_with fail
  go_ret
  exact ⟨rfl, rfl⟩
set_option maxRecDepth 100000 in
theorem change_Tc (w : World) : Calls Tryd.prog 20 #[.string ⟨#[84, 99]⟩] w fun e w' => e = .returned (.func (.func 66) #[] #[]) ∧ w = w' := by
  have HT : Hid (∀ W, Calls Tryd.prog 52 #[.string ⟨#[84, 99]⟩] W fun e w' => e = .returned (.func (.func 66) #[] #[]) ∧ W = w') := Lib.hid (fun W => by
    go_enter Tryd.func52, Tryd.ntmps52
    go_wp2_with fail
    go_ret
    exact ⟨rfl, rfl⟩)
  go_enter Tryd.func20, Tryd.ntmps20
  go_wp2_with fail
  refine (HT.out _).mono ?_
  rintro e w1 ⟨rfl, rfl⟩
  go_wp2_with fail
  go_ret
  exact ⟨rfl, rfl⟩
set_option maxRecDepth 100000 in
theorem change_Tw (w : World) : Calls Tryd.prog 20 #[.string ⟨#[84, 119]⟩] w fun e w' => e = .returned (.func (.func 67) #[] #[]) ∧ w = w' := by
  have HT : Hid (∀ W, Calls Tryd.prog 52 #[.string ⟨#[84, 119]⟩] W fun e w' => e = .returned (.func (.func 67) #[] #[]) ∧ W = w') := Lib.hid (fun W => by
    go_enter Tryd.func52, Tryd.ntmps52
    go_wp2_with fail
    go_ret
    exact ⟨rfl, rfl⟩)
  go_enter Tryd.func20, Tryd.ntmps20
  go_wp2_with fail
  refine (HT.out _).mono ?_
  rintro e w1 ⟨rfl, rfl⟩
  go_wp2_with fail
  go_ret
  exact ⟨rfl, rfl⟩
set_option maxRecDepth 100000 in
theorem change_Tz (w : World) : Calls Tryd.prog 20 #[.string ⟨#[84, 122]⟩] w fun e w' => e = .returned (.func (.func 68) #[] #[]) ∧ w = w' := by
  have HT : Hid (∀ W, Calls Tryd.prog 52 #[.string ⟨#[84, 122]⟩] W fun e w' => e = .returned (.func (.func 68) #[] #[]) ∧ W = w') := Lib.hid (fun W => by
    go_enter Tryd.func52, Tryd.ntmps52
    go_wp2_with fail
    go_ret
    exact ⟨rfl, rfl⟩)
  go_enter Tryd.func20, Tryd.ntmps20
  go_wp2_with fail
  refine (HT.out _).mono ?_
  rintro e w1 ⟨rfl, rfl⟩
  go_wp2_with fail
  go_ret
  exact ⟨rfl, rfl⟩
set_option maxRecDepth 100000 in
theorem change_TL (w : World) : Calls Tryd.prog 20 #[.string ⟨#[84, 76]⟩] w fun e w' => e = .returned (.func (.func 69) #[] #[]) ∧ w = w' := by
  have HT : Hid (∀ W, Calls Tryd.prog 52 #[.string ⟨#[84, 76]⟩] W fun e w' => e = .returned (.func (.func 69) #[] #[]) ∧ W = w') := Lib.hid (fun W => by
    go_enter Tryd.func52, Tryd.ntmps52
    go_wp2_with fail
    go_ret
    exact ⟨rfl, rfl⟩)
  go_enter Tryd.func20, Tryd.ntmps20
  go_wp2_with fail
  refine (HT.out _).mono ?_
  rintro e w1 ⟨rfl, rfl⟩
  go_wp2_with fail
  go_ret
  exact ⟨rfl, rfl⟩
set_option maxRecDepth 100000 in
theorem change_Ts (w : World) : Calls Tryd.prog 20 #[.string ⟨#[84, 115]⟩] w fun e w' => e = .returned (.func (.func 70) #[] #[]) ∧ w = w' := by
  have HT : Hid (∀ W, Calls Tryd.prog 52 #[.string ⟨#[84, 115]⟩] W fun e w' => e = .returned (.func (.func 70) #[] #[]) ∧ W = w') := Lib.hid (fun W => by
    go_enter Tryd.func52, Tryd.ntmps52
    go_wp2_with fail
    go_ret
    exact ⟨rfl, rfl⟩)
  go_enter Tryd.func20, Tryd.ntmps20
  go_wp2_with fail
  refine (HT.out _).mono ?_
  rintro e w1 ⟨rfl, rfl⟩
  go_wp2_with fail
  go_ret
  exact ⟨rfl, rfl⟩
set_option maxRecDepth 100000 in
theorem change_Tf (w : World) : Calls Tryd.prog 20 #[.string ⟨#[84, 102]⟩] w fun e w' => e = .returned (.func (.func 71) #[] #[]) ∧ w = w' := by
  have HT : Hid (∀ W, Calls Tryd.prog 52 #[.string ⟨#[84, 102]⟩] W fun e w' => e = .returned (.func (.func 71) #[] #[]) ∧ W = w') := Lib.hid (fun W => by
    go_enter Tryd.func52, Tryd.ntmps52
    go_wp2_with fail
    go_ret
    exact ⟨rfl, rfl⟩)
  go_enter Tryd.func20, Tryd.ntmps20
  go_wp2_with fail
  refine (HT.out _).mono ?_
  rintro e w1 ⟨rfl, rfl⟩
  go_wp2_with fail
  go_ret
  exact ⟨rfl, rfl⟩
set_option maxRecDepth 100000 in
theorem change_Tr (w : World) : Calls Tryd.prog 20 #[.string ⟨#[84, 114]⟩] w fun e w' => e = .returned (.func (.func 72) #[] #[]) ∧ w = w' := by
  have HT : Hid (∀ W, Calls Tryd.prog 52 #[.string ⟨#[84, 114]⟩] W fun e w' => e = .returned (.func (.func 72) #[] #[]) ∧ W = w') := Lib.hid (fun W => by
    go_enter Tryd.func52, Tryd.ntmps52
    go_wp2_with fail
    go_ret
    exact ⟨rfl, rfl⟩)
  go_enter Tryd.func20, Tryd.ntmps20
  go_wp2_with fail
  refine (HT.out _).mono ?_
  rintro e w1 ⟨rfl, rfl⟩
  go_wp2_with fail
  go_ret
  exact ⟨rfl, rfl⟩
/-- The names of the operators of graphics states. -/
def opNames : List (List UInt8) := [[113], [81], [99, 109], [119], [77], [74], [106], [100], [105], [114, 105], [103, 115], [103], [71], [114, 103], [82, 71], [107], [75], [84, 99], [84, 119], [84, 122], [84, 76], [84, 115], [84, 102], [84, 114]]
set_option maxRecDepth 100000 in
set_option maxHeartbeats 4000000 in
theorem change_else (nm : ByteArray) (h : nm.data.toList ∉ opNames) (w : World) : Calls Tryd.prog 20 #[.string nm] w fun e w' => e = .returned Value.nilFunc ∧ w = w' := by
  simp only [opNames, List.mem_cons, List.not_mem_nil, or_false, not_or, ← ByteArray.toList_eq] at h
  obtain ⟨h0, h1, h2, h3, h4, h5, h6, h7, h8, h9, h10, h11, h12, h13, h14, h15, h16, h17, h18, h19, h20, h21, h22, h23⟩ := h
  have q0 : (nm.toList == [113]) = false := by simpa using h0
  have q1 : (nm.toList == [81]) = false := by simpa using h1
  have q2 : (nm.toList == [99, 109]) = false := by simpa using h2
  have q3 : (nm.toList == [119]) = false := by simpa using h3
  have q4 : (nm.toList == [77]) = false := by simpa using h4
  have q5 : (nm.toList == [74]) = false := by simpa using h5
  have q6 : (nm.toList == [106]) = false := by simpa using h6
  have q7 : (nm.toList == [100]) = false := by simpa using h7
  have q8 : (nm.toList == [105]) = false := by simpa using h8
  have q9 : (nm.toList == [114, 105]) = false := by simpa using h9
  have q10 : (nm.toList == [103, 115]) = false := by simpa using h10
  have q11 : (nm.toList == [103]) = false := by simpa using h11
  have q12 : (nm.toList == [71]) = false := by simpa using h12
  have q13 : (nm.toList == [114, 103]) = false := by simpa using h13
  have q14 : (nm.toList == [82, 71]) = false := by simpa using h14
  have q15 : (nm.toList == [107]) = false := by simpa using h15
  have q16 : (nm.toList == [75]) = false := by simpa using h16
  have q17 : (nm.toList == [84, 99]) = false := by simpa using h17
  have q18 : (nm.toList == [84, 119]) = false := by simpa using h18
  have q19 : (nm.toList == [84, 122]) = false := by simpa using h19
  have q20 : (nm.toList == [84, 76]) = false := by simpa using h20
  have q21 : (nm.toList == [84, 115]) = false := by simpa using h21
  have q22 : (nm.toList == [84, 102]) = false := by simpa using h22
  have q23 : (nm.toList == [84, 114]) = false := by simpa using h23
  have HT : Hid (∀ W, Calls Tryd.prog 52 #[.string nm] W fun e w' => e = .returned Value.nilFunc ∧ W = w') := Lib.hid (fun W => by
    clear h0 h1 h2 h3 h4 h5 h6 h7 h8 h9 h10 h11 h12 h13 h14 h15 h16 q0 q1 q2 q3 q4 q5 q6 q7 q8 q9 q10 q11 q12 q13 q14 q15 q16
    go_enter Tryd.func52, Tryd.ntmps52
    go_wp2_with fail
    go_ret
    exact ⟨rfl, rfl⟩)
  clear h17 h18 h19 h20 h21 h22 h23 q17 q18 q19 q20 q21 q22 q23
  go_enter Tryd.func20, Tryd.ntmps20
  go_wp2_with fail
  refine (HT.out _).mono ?_
  rintro e w1 ⟨rfl, rfl⟩
  go_wp2_with fail
  go_ret
  exact ⟨rfl, rfl⟩
end Go.Proofs.YtbagmjedkcipgaaDoor
