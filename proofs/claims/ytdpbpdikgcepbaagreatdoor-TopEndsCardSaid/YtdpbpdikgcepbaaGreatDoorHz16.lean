/-
  Lemmas and walks, joined: LexO, LexQ, LexZ.
-/
import Derived.Test.YtdpbpdikgcepbaaGreatDoorHz14
import Derived.Test.YtdpbpdikgcepbaaGreatDoorHz15
import Derived.Test.YtdpbpdikgcepbaaGreatDoorHz11
import Derived.Deep.Onto
import Derived.Deep.Cut
namespace Go.Proofs.YtdpbpdikgcepbaaGreatDoor
open Go.RowKit Oct Fix Lex

theorem index_point (l : List UInt8) : decide (0 ≤ Lib.index l [46]) = l.contains 46 := by
  induction l with
  | nil => rfl
  | cons b l ih =>
    rw [Lib.index, List.contains_cons]
    by_cases h : (46 : UInt8) = b
    · subst h
      simp [List.isPrefixOf]
    · have hb : ([46] : List UInt8).isPrefixOf (b :: l) = false := by simp [List.isPrefixOf]; exact h
      have hb2 : ((46 : UInt8) == b) = false := by simpa using h
      have hg := Lib.index_ge l [46]
      rw [hb, hb2, Bool.false_or, ← ih]
      by_cases h1 : Lib.index l [46] = -1
      · rw [h1]; decide
      · have : (Lib.index l [46] == -1) = false := by simpa using h1
        rw [this]
        simp
        omega

theorem contains_any (s : ByteArray) (b : Bool) (w : World) (hs : s.size ≤ 4000000000) (hm : MaxLenAt w) (hb : s.data.toList.contains 46 = b) :
    Calls Tryz.prog 69 #[.string s, .string ⟨#[46]⟩] w fun e w' => e = .returned (.bool b) ∧ w = w' := by
  obtain ⟨m, hm⟩ := hm
  have hi := index_point s.data.toList
  rw [hb] at hi
  have HI := Lib.hid hi
  clear hi hb
  go_enter Tryz.func69, Tryz.ntmps69
  go_wp2_with fail
  refine (index_any s ⟨#[46]⟩ m w (by omega) hm).mono ?_
  rintro e w' ⟨i, rfl, h1, h2, h3, rfl⟩
  have H := HI.out
  rw [show (46 :: [] : List UInt8) = (⟨#[46]⟩ : ByteArray).data.toList from rfl, h1] at H
  clear h1
  have HH := Lib.hid H
  clear H
  go_wp2_with fail
  go_ret
  exact ⟨ret_bool HH.out, rfl⟩

theorem run_text (s : ByteArray) (a : Nat) : (s.extract a (a + runN s a)).data.toList = runL (s.data.toList.drop a) := by
  rw [ByteArray.data_extract, Array.toList_extract, List.extract_eq_take_drop, Nat.add_sub_cancel_left]
  exact run_take _

section
variable (s : ByteArray) (a p : Nat) (w : World) (hap : a ≤ p) (hps : p ≤ s.size) (hm : MaxLenAt w)
  (hrun : ∀ W : World, Calls Tryz.prog 65 #[.string s, .int .i64 (a : Int)] W fun e w' => e = .returned (.int .i64 (p : Int)) ∧ W = w')
include hap hps hm hrun

set_option maxHeartbeats 2000000 in
theorem reg_int (n : Int)
    (hwh : ∀ W : World, Calls Tryz.prog 67 #[.string (s.extract a p)] W fun e w' => e = .returned (.bool true) ∧ W = w')
    (hcall : ∀ W : World, MaxLenAt W → Calls Tryz.prog 68 #[.string (s.extract a p)] W fun e w' => e = .returned (.tuple #[.int .i64 n, .int .i64 0]) ∧ Below W.heap.size W w') :
    Calls Tryz.prog 43 #[.string s, .int .i64 (a : Int)] w fun e w' => e = .returned (.tuple #[.agg #[.int .i64 1, .int .i64 (a : Int), .int .i64 (p : Int), .int .i64 n, .string ⟨#[]⟩], .int .i64 0]) ∧ Below w.heap.size w w' := by
  have HRUN := Lib.hid hrun
  have HWH := Lib.hid hwh
  have HCALL := Lib.hid hcall
  have HM := Lib.hid (hm.alloc (.cells #[.int .i64 0, .int .i64 0, .int .i64 0, .int .i64 0, .string ⟨#[]⟩] 42))
  clear hm hrun hwh hcall
  go_enter Tryz.func43, Tryz.ntmps43
  go_wp2_with fail
  refine (HRUN.out _).mono ?_
  rintro e w' ⟨rfl, rfl⟩
  go_wp2_with fail
  refine (HWH.out _).mono ?_
  rintro e w' ⟨rfl, rfl⟩
  go_wp2_with fail
  refine (HCALL.out _ HM.out).mono ?_
  rintro e w2 ⟨rfl, hb⟩
  simp at hb
  have hB := tok_cell hb
  have HB := Lib.hid (tok_below hb)
  have hg := HB.out.size
  have c0 := hB.cell 0
  have c1 := hB.cell 1
  have c2 := hB.cell 2
  have c3 := hB.cell 3
  have c4 := hB.cell 4
  have f0 := hB.frozen 0
  have f1 := hB.frozen 1
  have f2 := hB.frozen 2
  have f3 := hB.frozen 3
  have f4 := hB.frozen 4
  clear hb hB
  simp only [List.getElem?_toArray, List.getElem?_cons_zero, List.getElem?_cons_succ] at c0 c1 c2 c3 c4
  go_wp2_with fail
  exact bodyPost_ret (v := .tuple #[.agg #[.int .i64 1, .int .i64 (a : Int), .int .i64 (p : Int), .int .i64 n, .string ⟨#[]⟩], .int .i64 0]) (by simp [results, Tryz.results43, go_sem, c0, c1, c2, c3, c4]) rfl ⟨rfl, set_below (set_below (set_below (set_below (set_below HB.out _ _) _ _) _ _) _ _) _ _⟩

set_option maxHeartbeats 2000000 in
theorem reg_intbad (n : Int)
    (hwh : ∀ W : World, Calls Tryz.prog 67 #[.string (s.extract a p)] W fun e w' => e = .returned (.bool true) ∧ W = w')
    (hcall : ∀ W : World, MaxLenAt W → Calls Tryz.prog 68 #[.string (s.extract a p)] W fun e w' => e = .returned (.tuple #[.int .i64 n, .int .i64 2]) ∧ Below W.heap.size W w') :
    Calls Tryz.prog 43 #[.string s, .int .i64 (a : Int)] w fun e w' => e = .returned (.tuple #[.agg #[.int .i64 0, .int .i64 0, .int .i64 0, .int .i64 0, .string ⟨#[]⟩], .int .i64 2]) ∧ Below w.heap.size w w' := by
  have HRUN := Lib.hid hrun
  have HWH := Lib.hid hwh
  have HCALL := Lib.hid hcall
  have HM := Lib.hid (hm.alloc (.cells #[.int .i64 0, .int .i64 0, .int .i64 0, .int .i64 0, .string ⟨#[]⟩] 42))
  clear hm hrun hwh hcall
  go_enter Tryz.func43, Tryz.ntmps43
  go_wp2_with fail
  refine (HRUN.out _).mono ?_
  rintro e w' ⟨rfl, rfl⟩
  go_wp2_with fail
  refine (HWH.out _).mono ?_
  rintro e w' ⟨rfl, rfl⟩
  go_wp2_with fail
  refine (HCALL.out _ HM.out).mono ?_
  rintro e w2 ⟨rfl, hb⟩
  simp at hb
  have hB := tok_cell hb
  have HB := Lib.hid (tok_below hb)
  have hg := HB.out.size
  have c0 := hB.cell 0
  have c1 := hB.cell 1
  have c2 := hB.cell 2
  have c3 := hB.cell 3
  have c4 := hB.cell 4
  have f0 := hB.frozen 0
  have f1 := hB.frozen 1
  have f2 := hB.frozen 2
  have f3 := hB.frozen 3
  have f4 := hB.frozen 4
  clear hb hB
  simp only [List.getElem?_toArray, List.getElem?_cons_zero, List.getElem?_cons_succ] at c0 c1 c2 c3 c4
  go_wp2_with fail
  exact bodyPost_ret (v := .tuple #[.agg #[.int .i64 0, .int .i64 0, .int .i64 0, .int .i64 0, .string ⟨#[]⟩], .int .i64 2]) (by simp [results, Tryz.results43, go_sem, c0, c1, c2, c3, c4]) rfl ⟨rfl, set_below (set_below (set_below (set_below (set_below HB.out _ _) _ _) _ _) _ _) _ _⟩

set_option maxHeartbeats 2000000 in
theorem reg_real (n : Int)
    (hwh : ∀ W : World, Calls Tryz.prog 67 #[.string (s.extract a p)] W fun e w' => e = .returned (.bool false) ∧ W = w')
    (hcon : ∀ W : World, MaxLenAt W → Calls Tryz.prog 69 #[.string (s.extract a p), .string ⟨#[46]⟩] W fun e w' => e = .returned (.bool true) ∧ W = w')
    (hcall : ∀ W : World, MaxLenAt W → Calls Tryz.prog 70 #[.string (s.extract a p)] W fun e w' => e = .returned (.tuple #[.int .i64 n, .int .i64 0]) ∧ Below W.heap.size W w') :
    Calls Tryz.prog 43 #[.string s, .int .i64 (a : Int)] w fun e w' => e = .returned (.tuple #[.agg #[.int .i64 2, .int .i64 (a : Int), .int .i64 (p : Int), .int .i64 n, .string ⟨#[]⟩], .int .i64 0]) ∧ Below w.heap.size w w' := by
  have HRUN := Lib.hid hrun
  have HWH := Lib.hid hwh
  have HCON := Lib.hid hcon
  have HCALL := Lib.hid hcall
  have HM := Lib.hid (hm.alloc (.cells #[.int .i64 0, .int .i64 0, .int .i64 0, .int .i64 0, .string ⟨#[]⟩] 42))
  clear hm hrun hwh hcon hcall
  go_enter Tryz.func43, Tryz.ntmps43
  go_wp2_with fail
  refine (HRUN.out _).mono ?_
  rintro e w' ⟨rfl, rfl⟩
  go_wp2_with fail
  refine (HWH.out _).mono ?_
  rintro e w' ⟨rfl, rfl⟩
  go_wp2_with fail
  refine (HCON.out _ HM.out).mono ?_
  rintro e w' ⟨rfl, rfl⟩
  go_wp2_with fail
  refine (HCALL.out _ HM.out).mono ?_
  rintro e w2 ⟨rfl, hb⟩
  simp at hb
  have hB := tok_cell hb
  have HB := Lib.hid (tok_below hb)
  have hg := HB.out.size
  have c0 := hB.cell 0
  have c1 := hB.cell 1
  have c2 := hB.cell 2
  have c3 := hB.cell 3
  have c4 := hB.cell 4
  have f0 := hB.frozen 0
  have f1 := hB.frozen 1
  have f2 := hB.frozen 2
  have f3 := hB.frozen 3
  have f4 := hB.frozen 4
  clear hb hB
  simp only [List.getElem?_toArray, List.getElem?_cons_zero, List.getElem?_cons_succ] at c0 c1 c2 c3 c4
  go_wp2_with fail
  exact bodyPost_ret (v := .tuple #[.agg #[.int .i64 2, .int .i64 (a : Int), .int .i64 (p : Int), .int .i64 n, .string ⟨#[]⟩], .int .i64 0]) (by simp [results, Tryz.results43, go_sem, c0, c1, c2, c3, c4]) rfl ⟨rfl, set_below (set_below (set_below (set_below (set_below HB.out _ _) _ _) _ _) _ _) _ _⟩

set_option maxHeartbeats 2000000 in
theorem reg_realbad (n : Int)
    (hwh : ∀ W : World, Calls Tryz.prog 67 #[.string (s.extract a p)] W fun e w' => e = .returned (.bool false) ∧ W = w')
    (hcon : ∀ W : World, MaxLenAt W → Calls Tryz.prog 69 #[.string (s.extract a p), .string ⟨#[46]⟩] W fun e w' => e = .returned (.bool true) ∧ W = w')
    (hcall : ∀ W : World, MaxLenAt W → Calls Tryz.prog 70 #[.string (s.extract a p)] W fun e w' => e = .returned (.tuple #[.int .i64 n, .int .i64 2]) ∧ Below W.heap.size W w') :
    Calls Tryz.prog 43 #[.string s, .int .i64 (a : Int)] w fun e w' => e = .returned (.tuple #[.agg #[.int .i64 0, .int .i64 0, .int .i64 0, .int .i64 0, .string ⟨#[]⟩], .int .i64 2]) ∧ Below w.heap.size w w' := by
  have HRUN := Lib.hid hrun
  have HWH := Lib.hid hwh
  have HCON := Lib.hid hcon
  have HCALL := Lib.hid hcall
  have HM := Lib.hid (hm.alloc (.cells #[.int .i64 0, .int .i64 0, .int .i64 0, .int .i64 0, .string ⟨#[]⟩] 42))
  clear hm hrun hwh hcon hcall
  go_enter Tryz.func43, Tryz.ntmps43
  go_wp2_with fail
  refine (HRUN.out _).mono ?_
  rintro e w' ⟨rfl, rfl⟩
  go_wp2_with fail
  refine (HWH.out _).mono ?_
  rintro e w' ⟨rfl, rfl⟩
  go_wp2_with fail
  refine (HCON.out _ HM.out).mono ?_
  rintro e w' ⟨rfl, rfl⟩
  go_wp2_with fail
  refine (HCALL.out _ HM.out).mono ?_
  rintro e w2 ⟨rfl, hb⟩
  simp at hb
  have hB := tok_cell hb
  have HB := Lib.hid (tok_below hb)
  have hg := HB.out.size
  have c0 := hB.cell 0
  have c1 := hB.cell 1
  have c2 := hB.cell 2
  have c3 := hB.cell 3
  have c4 := hB.cell 4
  have f0 := hB.frozen 0
  have f1 := hB.frozen 1
  have f2 := hB.frozen 2
  have f3 := hB.frozen 3
  have f4 := hB.frozen 4
  clear hb hB
  simp only [List.getElem?_toArray, List.getElem?_cons_zero, List.getElem?_cons_succ] at c0 c1 c2 c3 c4
  go_wp2_with fail
  exact bodyPost_ret (v := .tuple #[.agg #[.int .i64 0, .int .i64 0, .int .i64 0, .int .i64 0, .string ⟨#[]⟩], .int .i64 2]) (by simp [results, Tryz.results43, go_sem, c0, c1, c2, c3, c4]) rfl ⟨rfl, set_below (set_below (set_below (set_below (set_below HB.out _ _) _ _) _ _) _ _) _ _⟩

set_option maxHeartbeats 2000000 in
theorem reg_pword (n : Int)
    (hwh : ∀ W : World, Calls Tryz.prog 67 #[.string (s.extract a p)] W fun e w' => e = .returned (.bool false) ∧ W = w')
    (hcon : ∀ W : World, MaxLenAt W → Calls Tryz.prog 69 #[.string (s.extract a p), .string ⟨#[46]⟩] W fun e w' => e = .returned (.bool true) ∧ W = w')
    (hcall : ∀ W : World, MaxLenAt W → Calls Tryz.prog 70 #[.string (s.extract a p)] W fun e w' => e = .returned (.tuple #[.int .i64 n, .int .i64 3]) ∧ Below W.heap.size W w')
    (hlen : ¬ 127 < p - a) :
    Calls Tryz.prog 43 #[.string s, .int .i64 (a : Int)] w fun e w' => e = .returned (.tuple #[.agg #[.int .i64 5, .int .i64 (a : Int), .int .i64 (p : Int), .int .i64 0, .string (s.extract a p)], .int .i64 0]) ∧ Below w.heap.size w w' := by
  have hlen' : ¬ (127 : Int) < ((p - a : Nat) : Int) := by omega
  have HRUN := Lib.hid hrun
  have HWH := Lib.hid hwh
  have HCON := Lib.hid hcon
  have HCALL := Lib.hid hcall
  have HM := Lib.hid (hm.alloc (.cells #[.int .i64 0, .int .i64 0, .int .i64 0, .int .i64 0, .string ⟨#[]⟩] 42))
  clear hm hrun hwh hcon hcall
  go_enter Tryz.func43, Tryz.ntmps43
  go_wp2_with fail
  refine (HRUN.out _).mono ?_
  rintro e w' ⟨rfl, rfl⟩
  go_wp2_with fail
  refine (HWH.out _).mono ?_
  rintro e w' ⟨rfl, rfl⟩
  go_wp2_with fail
  refine (HCON.out _ HM.out).mono ?_
  rintro e w' ⟨rfl, rfl⟩
  go_wp2_with fail
  refine (HCALL.out _ HM.out).mono ?_
  rintro e w2 ⟨rfl, hb⟩
  simp at hb
  have hB := tok_cell hb
  have HB := Lib.hid (tok_below hb)
  have hg := HB.out.size
  have c0 := hB.cell 0
  have c1 := hB.cell 1
  have c2 := hB.cell 2
  have c3 := hB.cell 3
  have c4 := hB.cell 4
  have f0 := hB.frozen 0
  have f1 := hB.frozen 1
  have f2 := hB.frozen 2
  have f3 := hB.frozen 3
  have f4 := hB.frozen 4
  clear hb hB
  simp only [List.getElem?_toArray, List.getElem?_cons_zero, List.getElem?_cons_succ] at c0 c1 c2 c3 c4
  go_wp2_with fail
  exact bodyPost_ret (v := .tuple #[.agg #[.int .i64 5, .int .i64 (a : Int), .int .i64 (p : Int), .int .i64 0, .string (s.extract a p)], .int .i64 0]) (by simp [results, Tryz.results43, go_sem, c0, c1, c2, c3, c4]) rfl ⟨rfl, set_below (set_below (set_below (set_below (set_below HB.out _ _) _ _) _ _) _ _) _ _⟩

set_option maxHeartbeats 2000000 in
theorem reg_plong (n : Int)
    (hwh : ∀ W : World, Calls Tryz.prog 67 #[.string (s.extract a p)] W fun e w' => e = .returned (.bool false) ∧ W = w')
    (hcon : ∀ W : World, MaxLenAt W → Calls Tryz.prog 69 #[.string (s.extract a p), .string ⟨#[46]⟩] W fun e w' => e = .returned (.bool true) ∧ W = w')
    (hcall : ∀ W : World, MaxLenAt W → Calls Tryz.prog 70 #[.string (s.extract a p)] W fun e w' => e = .returned (.tuple #[.int .i64 n, .int .i64 3]) ∧ Below W.heap.size W w')
    (hlen : 127 < p - a) :
    Calls Tryz.prog 43 #[.string s, .int .i64 (a : Int)] w fun e w' => e = .returned (.tuple #[.agg #[.int .i64 0, .int .i64 0, .int .i64 0, .int .i64 0, .string ⟨#[]⟩], .int .i64 5]) ∧ Below w.heap.size w w' := by
  have hlen' : (127 : Int) < ((p - a : Nat) : Int) := by omega
  have HRUN := Lib.hid hrun
  have HWH := Lib.hid hwh
  have HCON := Lib.hid hcon
  have HCALL := Lib.hid hcall
  have HM := Lib.hid (hm.alloc (.cells #[.int .i64 0, .int .i64 0, .int .i64 0, .int .i64 0, .string ⟨#[]⟩] 42))
  clear hm hrun hwh hcon hcall
  go_enter Tryz.func43, Tryz.ntmps43
  go_wp2_with fail
  refine (HRUN.out _).mono ?_
  rintro e w' ⟨rfl, rfl⟩
  go_wp2_with fail
  refine (HWH.out _).mono ?_
  rintro e w' ⟨rfl, rfl⟩
  go_wp2_with fail
  refine (HCON.out _ HM.out).mono ?_
  rintro e w' ⟨rfl, rfl⟩
  go_wp2_with fail
  refine (HCALL.out _ HM.out).mono ?_
  rintro e w2 ⟨rfl, hb⟩
  simp at hb
  have hB := tok_cell hb
  have HB := Lib.hid (tok_below hb)
  have hg := HB.out.size
  have c0 := hB.cell 0
  have c1 := hB.cell 1
  have c2 := hB.cell 2
  have c3 := hB.cell 3
  have c4 := hB.cell 4
  have f0 := hB.frozen 0
  have f1 := hB.frozen 1
  have f2 := hB.frozen 2
  have f3 := hB.frozen 3
  have f4 := hB.frozen 4
  clear hb hB
  simp only [List.getElem?_toArray, List.getElem?_cons_zero, List.getElem?_cons_succ] at c0 c1 c2 c3 c4
  go_wp2_with fail
  exact bodyPost_ret (v := .tuple #[.agg #[.int .i64 0, .int .i64 0, .int .i64 0, .int .i64 0, .string ⟨#[]⟩], .int .i64 5]) (by simp [results, Tryz.results43, go_sem, c0, c1, c2, c3, c4]) rfl ⟨rfl, set_below (set_below (set_below (set_below (set_below HB.out _ _) _ _) _ _) _ _) _ _⟩

set_option maxHeartbeats 2000000 in
theorem reg_word (_n : Int)
    (hwh : ∀ W : World, Calls Tryz.prog 67 #[.string (s.extract a p)] W fun e w' => e = .returned (.bool false) ∧ W = w')
    (hcon : ∀ W : World, MaxLenAt W → Calls Tryz.prog 69 #[.string (s.extract a p), .string ⟨#[46]⟩] W fun e w' => e = .returned (.bool false) ∧ W = w')
    (hlen : ¬ 127 < p - a) :
    Calls Tryz.prog 43 #[.string s, .int .i64 (a : Int)] w fun e w' => e = .returned (.tuple #[.agg #[.int .i64 5, .int .i64 (a : Int), .int .i64 (p : Int), .int .i64 0, .string (s.extract a p)], .int .i64 0]) ∧ Below w.heap.size w w' := by
  have hlen' : ¬ (127 : Int) < ((p - a : Nat) : Int) := by omega
  have HRUN := Lib.hid hrun
  have HWH := Lib.hid hwh
  have HCON := Lib.hid hcon
  have HM := Lib.hid (hm.alloc (.cells #[.int .i64 0, .int .i64 0, .int .i64 0, .int .i64 0, .string ⟨#[]⟩] 42))
  clear hm hrun hwh hcon
  go_enter Tryz.func43, Tryz.ntmps43
  go_wp2_with fail
  refine (HRUN.out _).mono ?_
  rintro e w' ⟨rfl, rfl⟩
  go_wp2_with fail
  refine (HWH.out _).mono ?_
  rintro e w' ⟨rfl, rfl⟩
  go_wp2_with fail
  refine (HCON.out _ HM.out).mono ?_
  rintro e w' ⟨rfl, rfl⟩
  go_wp2_with fail
  exact bodyPost_ret (v := .tuple #[.agg #[.int .i64 5, .int .i64 (a : Int), .int .i64 (p : Int), .int .i64 0, .string (s.extract a p)], .int .i64 0]) (by simp [results, Tryz.results43, go_sem]) rfl ⟨rfl, below_tok _ _ _⟩

set_option maxHeartbeats 2000000 in
theorem reg_long (_n : Int)
    (hwh : ∀ W : World, Calls Tryz.prog 67 #[.string (s.extract a p)] W fun e w' => e = .returned (.bool false) ∧ W = w')
    (hcon : ∀ W : World, MaxLenAt W → Calls Tryz.prog 69 #[.string (s.extract a p), .string ⟨#[46]⟩] W fun e w' => e = .returned (.bool false) ∧ W = w')
    (hlen : 127 < p - a) :
    Calls Tryz.prog 43 #[.string s, .int .i64 (a : Int)] w fun e w' => e = .returned (.tuple #[.agg #[.int .i64 0, .int .i64 0, .int .i64 0, .int .i64 0, .string ⟨#[]⟩], .int .i64 5]) ∧ Below w.heap.size w w' := by
  have hlen' : (127 : Int) < ((p - a : Nat) : Int) := by omega
  have HRUN := Lib.hid hrun
  have HWH := Lib.hid hwh
  have HCON := Lib.hid hcon
  have HM := Lib.hid (hm.alloc (.cells #[.int .i64 0, .int .i64 0, .int .i64 0, .int .i64 0, .string ⟨#[]⟩] 42))
  clear hm hrun hwh hcon
  go_enter Tryz.func43, Tryz.ntmps43
  go_wp2_with fail
  refine (HRUN.out _).mono ?_
  rintro e w' ⟨rfl, rfl⟩
  go_wp2_with fail
  refine (HWH.out _).mono ?_
  rintro e w' ⟨rfl, rfl⟩
  go_wp2_with fail
  refine (HCON.out _ HM.out).mono ?_
  rintro e w' ⟨rfl, rfl⟩
  go_wp2_with fail
  exact bodyPost_ret (v := .tuple #[.agg #[.int .i64 0, .int .i64 0, .int .i64 0, .int .i64 0, .string ⟨#[]⟩], .int .i64 5]) (by simp [results, Tryz.results43, go_sem]) rfl ⟨rfl, below_tok _ _ _⟩

end

theorem lexReg_any (s : ByteArray) (a : Nat) (R : TR) (w : World) (h : a < s.size) (hs : s.size ≤ 100000) (hm : MaxLenAt w) (hR : wordU (runL (s.data.toList.drop a)) = R) :
    Calls Tryz.prog 43 #[.string s, .int .i64 (a : Int)] w fun e w' => e = .returned (.tuple #[.agg #[.int .i64 R.kind, .int .i64 (tA a R), .int .i64 (tT a R), .int .i64 R.num, .string (tS R)], .int .i64 R.err]) ∧ Below w.heap.size w w' := by
  have hr := runN_le s a (by omega)
  have ht := run_text s a
  have hrun := fun W : World => run_any s a W (by omega) (by omega)
  have hn : (runL (s.data.toList.drop a)).length = runN s a := rfl
  obtain ⟨u, hu⟩ : ∃ u, runL (s.data.toList.drop a) = u := ⟨_, rfl⟩
  obtain ⟨p, hp⟩ : ∃ p, a + runN s a = p := ⟨_, rfl⟩
  rw [hp] at ht hr
  simp only [hp] at hrun
  rw [hu] at ht hR hn
  have hz : (s.extract a p).size = u.length := by rw [ByteArray.size_extract]; omega
  have hul : u.length ≤ 100000 := by omega
  have hwh := fun W : World => lexWhole_any (s.extract a p) W (by omega)
  rw [ht] at hwh
  have hto : (p : Int) = ((a + u.length : Nat) : Int) := by rw [hn, hp]
  unfold wordU at hR
  by_cases h1 : intL u = true
  · rw [if_pos h1] at hR
    have hin := fun W : World => integer_any (s.extract a p) W (by omega) (by rw [ht]; exact h1)
    rw [h1] at hwh
    unfold intV intE at hin
    rw [ht] at hin
    by_cases h2 : 2147483647 < valL 0 (bodyL u)
    · rw [if_pos h2] at hR hin
      rw [if_pos h2] at hin
      exact (reg_intbad s a p w (by omega) hr hm hrun 0 hwh (fun W _ => hin W)).mono fun e w' ⟨e1, e2⟩ => ⟨e1.trans (tok_bad hR.symm (by decide)), e2⟩
    · rw [if_neg h2] at hR hin
      rw [if_neg h2] at hin
      exact (reg_int s a p w (by omega) hr hm hrun _ hwh (fun W _ => hin W)).mono fun e w' ⟨e1, e2⟩ => ⟨e1.trans (tok_ok (n := u.length) (b := ⟨#[]⟩) hR.symm rfl hto), e2⟩
  · rw [if_neg h1] at hR
    have h1' : intL u = false := by simpa using h1
    rw [h1'] at hwh
    have hcon := fun (W : World) (hW : MaxLenAt W) => contains_any (s.extract a p) (u.contains 46) W (by omega) hW (by rw [ht])
    have hrd := fun (W : World) (hW : MaxLenAt W) => read_any (s.extract a p) W (by omega) hW
    rw [ht] at hrd
    by_cases h2 : u.contains 46 = true
    · rw [h2] at hcon hR
      have e3 : readE u = 0 ∨ readE u = 2 ∨ readE u = 3 := by
        unfold readE
        repeat' split
        all_goals simp
      rcases e3 with e3 | e3 | e3
      · rw [if_pos (by simp [e3])] at hR
        simp only [e3] at hrd
        exact (reg_real s a p w (by omega) hr hm hrun _ hwh hcon hrd).mono fun e w' ⟨e1, e2⟩ => ⟨e1.trans (tok_ok (n := u.length) (b := ⟨#[]⟩) hR.symm rfl hto), e2⟩
      · rw [if_neg (by simp [e3]), if_pos (by simp [e3])] at hR
        simp only [e3] at hrd
        exact (reg_realbad s a p w (by omega) hr hm hrun _ hwh hcon hrd).mono fun e w' ⟨e1, e2⟩ => ⟨e1.trans (tok_bad hR.symm (by decide)), e2⟩
      · rw [if_neg (by simp [e3]), if_neg (by simp [e3])] at hR
        simp only [e3] at hrd
        by_cases h4 : 127 < u.length
        · rw [if_pos h4] at hR
          exact (reg_plong s a p w (by omega) hr hm hrun _ hwh hcon hrd (by omega)).mono fun e w' ⟨e1, e2⟩ => ⟨e1.trans (tok_bad hR.symm (by decide)), e2⟩
        · rw [if_neg h4] at hR
          exact (reg_pword s a p w (by omega) hr hm hrun _ hwh hcon hrd (by omega)).mono fun e w' ⟨e1, e2⟩ => ⟨e1.trans (tok_ok (n := u.length) (by rw [← hR, ht]) rfl hto), e2⟩
    · have h2' : u.contains 46 = false := by simpa using h2
      rw [h2'] at hcon hR
      rw [if_neg (by simp), if_neg (by simp)] at hR
      by_cases h4 : 127 < u.length
      · rw [if_pos h4] at hR
        exact (reg_long s a p w (by omega) hr hm hrun 0 hwh hcon (by omega)).mono fun e w' ⟨e1, e2⟩ => ⟨e1.trans (tok_bad hR.symm (by decide)), e2⟩
      · rw [if_neg h4] at hR
        exact (reg_word s a p w (by omega) hr hm hrun 0 hwh hcon (by omega)).mono fun e w' ⟨e1, e2⟩ => ⟨e1.trans (tok_ok (n := u.length) (by rw [← hR, ht]) rfl hto), e2⟩
end Go.Proofs.YtdpbpdikgcepbaaGreatDoor
namespace Go.Proofs.YtdpbpdikgcepbaaGreatDoor
open Go.RowKit Oct Fix Lex

/-- The place and the reading of the next token from any offset. -/
def nxI (l : List UInt8) (a : Int) : Nat := nextI l a.toNat
def nxR (l : List UInt8) (a : Int) : TR := if a < 0 ∨ (l.length : Int) < a then bad 1 else nextR l a.toNat

section
variable (s : ByteArray) (a : Int) (i : Nat) (R : TR) (w : World) (hs : s.size ≤ 100000) (h0 : 0 ≤ a) (h1 : a ≤ (s.size : Int)) (hm : MaxLenAt w)
  (hskip : ∀ W : World, Calls Tryz.prog 38 #[.string s, .int .i64 a] W fun e w' => e = .returned (.int .i64 (i : Int)) ∧ W = w')
include hs h0 h1 hskip

set_option maxHeartbeats 1000000 in
theorem next_end (hi : i = s.size) :
    Calls Tryz.prog 25 #[.string s, .int .i64 a] w fun e w' => e = .returned (.tuple #[.agg #[.int .i64 0, .int .i64 (i : Int), .int .i64 (i : Int), .int .i64 0, .string ⟨#[]⟩], .int .i64 0]) ∧ Below w.heap.size w w' := by
  have HSKIP := Lib.hid hskip
  have bq : ((i : Int) == (s.size : Int)) = true := by simp; omega
  have _hs := hs
  clear hskip hi
  go_enter Tryz.func25, Tryz.ntmps25
  go_wp2_with fail
  refine (HSKIP.out _).mono ?_
  rintro e w' ⟨rfl, rfl⟩
  go_wp2_with fail
  exact bodyPost_ret (v := .tuple #[.agg #[.int .i64 0, .int .i64 (i : Int), .int .i64 (i : Int), .int .i64 0, .string ⟨#[]⟩], .int .i64 0]) (by simp [results, Tryz.results25, go_sem]) rfl ⟨rfl, below_tok _ _ _⟩

set_option maxHeartbeats 2000000 in
include hm in
theorem next_m91 (hi : i < s.size) (hc : s[i] = 91)
    (hcall : ∀ W : World, MaxLenAt W → Calls Tryz.prog 39 #[.string s, .int .i64 (i : Int), .int .i64 ((i : Int) + 1)] W fun e w' => e = .returned (.tuple #[.agg #[.int .i64 R.kind, .int .i64 (tA i R), .int .i64 (tT i R), .int .i64 R.num, .string (tS R)], .int .i64 R.err]) ∧ Below W.heap.size W w') :
    Calls Tryz.prog 25 #[.string s, .int .i64 a] w fun e w' => e = .returned (.tuple #[.agg #[.int .i64 R.kind, .int .i64 (tA i R), .int .i64 (tT i R), .int .i64 R.num, .string (tS R)], .int .i64 R.err]) ∧ Below w.heap.size w w' := by
  have HSKIP := Lib.hid hskip
  have bq : ((i : Int) == (s.size : Int)) = false := by simp; omega
  have HM := Lib.hid (hm.alloc (.cells #[.int .i64 0, .int .i64 0, .int .i64 0, .int .i64 0, .string ⟨#[]⟩] 42))
  have il : (i : Int) < (s.size : Int) := by omega
  have _hs := hs
  have b91 : ((s[i].toNat : Int) == 91) = true := by rw [hc]; rfl
  have HCALL := Lib.hid hcall
  clear hskip hc hcall hm
  go_enter Tryz.func25, Tryz.ntmps25
  go_wp2_with fail
  refine (HSKIP.out _).mono ?_
  rintro e w' ⟨rfl, rfl⟩
  go_wp2_with fail
  refine (HCALL.out _ HM.out).mono ?_
  rintro e w2 ⟨rfl, hb⟩
  simp at hb
  have hB := tok_cell hb
  have HB := Lib.hid (tok_below hb)
  have hg := HB.out.size
  have c0 := hB.cell 0
  have c1 := hB.cell 1
  have c2 := hB.cell 2
  have c3 := hB.cell 3
  have c4 := hB.cell 4
  have f0 := hB.frozen 0
  have f1 := hB.frozen 1
  have f2 := hB.frozen 2
  have f3 := hB.frozen 3
  have f4 := hB.frozen 4
  clear hb hB
  simp only [List.getElem?_toArray, List.getElem?_cons_zero, List.getElem?_cons_succ] at c0 c1 c2 c3 c4
  go_wp2_with fail
  exact bodyPost_ret (v := .tuple #[.agg #[.int .i64 R.kind, .int .i64 (tA i R), .int .i64 (tT i R), .int .i64 R.num, .string (tS R)], .int .i64 R.err]) (by simp [results, Tryz.results25, go_sem, c0, c1, c2, c3, c4]) rfl ⟨rfl, set_below (set_below (set_below (set_below (set_below HB.out _ _) _ _) _ _) _ _) _ _⟩

set_option maxHeartbeats 2000000 in
include hm in
theorem next_m93 (hi : i < s.size) (hc : s[i] = 93)
    (hcall : ∀ W : World, MaxLenAt W → Calls Tryz.prog 39 #[.string s, .int .i64 (i : Int), .int .i64 ((i : Int) + 1)] W fun e w' => e = .returned (.tuple #[.agg #[.int .i64 R.kind, .int .i64 (tA i R), .int .i64 (tT i R), .int .i64 R.num, .string (tS R)], .int .i64 R.err]) ∧ Below W.heap.size W w') :
    Calls Tryz.prog 25 #[.string s, .int .i64 a] w fun e w' => e = .returned (.tuple #[.agg #[.int .i64 R.kind, .int .i64 (tA i R), .int .i64 (tT i R), .int .i64 R.num, .string (tS R)], .int .i64 R.err]) ∧ Below w.heap.size w w' := by
  have HSKIP := Lib.hid hskip
  have bq : ((i : Int) == (s.size : Int)) = false := by simp; omega
  have HM := Lib.hid (hm.alloc (.cells #[.int .i64 0, .int .i64 0, .int .i64 0, .int .i64 0, .string ⟨#[]⟩] 42))
  have il : (i : Int) < (s.size : Int) := by omega
  have _hs := hs
  have b91 : ((s[i].toNat : Int) == 91) = false := by rw [hc]; rfl
  have b93 : ((s[i].toNat : Int) == 93) = true := by rw [hc]; rfl
  have HCALL := Lib.hid hcall
  clear hskip hc hcall hm
  go_enter Tryz.func25, Tryz.ntmps25
  go_wp2_with fail
  refine (HSKIP.out _).mono ?_
  rintro e w' ⟨rfl, rfl⟩
  go_wp2_with fail
  refine (HCALL.out _ HM.out).mono ?_
  rintro e w2 ⟨rfl, hb⟩
  simp at hb
  have hB := tok_cell hb
  have HB := Lib.hid (tok_below hb)
  have hg := HB.out.size
  have c0 := hB.cell 0
  have c1 := hB.cell 1
  have c2 := hB.cell 2
  have c3 := hB.cell 3
  have c4 := hB.cell 4
  have f0 := hB.frozen 0
  have f1 := hB.frozen 1
  have f2 := hB.frozen 2
  have f3 := hB.frozen 3
  have f4 := hB.frozen 4
  clear hb hB
  simp only [List.getElem?_toArray, List.getElem?_cons_zero, List.getElem?_cons_succ] at c0 c1 c2 c3 c4
  go_wp2_with fail
  exact bodyPost_ret (v := .tuple #[.agg #[.int .i64 R.kind, .int .i64 (tA i R), .int .i64 (tT i R), .int .i64 R.num, .string (tS R)], .int .i64 R.err]) (by simp [results, Tryz.results25, go_sem, c0, c1, c2, c3, c4]) rfl ⟨rfl, set_below (set_below (set_below (set_below (set_below HB.out _ _) _ _) _ _) _ _) _ _⟩

set_option maxHeartbeats 2000000 in
include hm in
theorem next_m123 (hi : i < s.size) (hc : s[i] = 123)
    (hcall : ∀ W : World, MaxLenAt W → Calls Tryz.prog 39 #[.string s, .int .i64 (i : Int), .int .i64 ((i : Int) + 1)] W fun e w' => e = .returned (.tuple #[.agg #[.int .i64 R.kind, .int .i64 (tA i R), .int .i64 (tT i R), .int .i64 R.num, .string (tS R)], .int .i64 R.err]) ∧ Below W.heap.size W w') :
    Calls Tryz.prog 25 #[.string s, .int .i64 a] w fun e w' => e = .returned (.tuple #[.agg #[.int .i64 R.kind, .int .i64 (tA i R), .int .i64 (tT i R), .int .i64 R.num, .string (tS R)], .int .i64 R.err]) ∧ Below w.heap.size w w' := by
  have HSKIP := Lib.hid hskip
  have bq : ((i : Int) == (s.size : Int)) = false := by simp; omega
  have HM := Lib.hid (hm.alloc (.cells #[.int .i64 0, .int .i64 0, .int .i64 0, .int .i64 0, .string ⟨#[]⟩] 42))
  have il : (i : Int) < (s.size : Int) := by omega
  have _hs := hs
  have b91 : ((s[i].toNat : Int) == 91) = false := by rw [hc]; rfl
  have b93 : ((s[i].toNat : Int) == 93) = false := by rw [hc]; rfl
  have b123 : ((s[i].toNat : Int) == 123) = true := by rw [hc]; rfl
  have HCALL := Lib.hid hcall
  clear hskip hc hcall hm
  go_enter Tryz.func25, Tryz.ntmps25
  go_wp2_with fail
  refine (HSKIP.out _).mono ?_
  rintro e w' ⟨rfl, rfl⟩
  go_wp2_with fail
  refine (HCALL.out _ HM.out).mono ?_
  rintro e w2 ⟨rfl, hb⟩
  simp at hb
  have hB := tok_cell hb
  have HB := Lib.hid (tok_below hb)
  have hg := HB.out.size
  have c0 := hB.cell 0
  have c1 := hB.cell 1
  have c2 := hB.cell 2
  have c3 := hB.cell 3
  have c4 := hB.cell 4
  have f0 := hB.frozen 0
  have f1 := hB.frozen 1
  have f2 := hB.frozen 2
  have f3 := hB.frozen 3
  have f4 := hB.frozen 4
  clear hb hB
  simp only [List.getElem?_toArray, List.getElem?_cons_zero, List.getElem?_cons_succ] at c0 c1 c2 c3 c4
  go_wp2_with fail
  exact bodyPost_ret (v := .tuple #[.agg #[.int .i64 R.kind, .int .i64 (tA i R), .int .i64 (tT i R), .int .i64 R.num, .string (tS R)], .int .i64 R.err]) (by simp [results, Tryz.results25, go_sem, c0, c1, c2, c3, c4]) rfl ⟨rfl, set_below (set_below (set_below (set_below (set_below HB.out _ _) _ _) _ _) _ _) _ _⟩

set_option maxHeartbeats 2000000 in
include hm in
theorem next_m125 (hi : i < s.size) (hc : s[i] = 125)
    (hcall : ∀ W : World, MaxLenAt W → Calls Tryz.prog 39 #[.string s, .int .i64 (i : Int), .int .i64 ((i : Int) + 1)] W fun e w' => e = .returned (.tuple #[.agg #[.int .i64 R.kind, .int .i64 (tA i R), .int .i64 (tT i R), .int .i64 R.num, .string (tS R)], .int .i64 R.err]) ∧ Below W.heap.size W w') :
    Calls Tryz.prog 25 #[.string s, .int .i64 a] w fun e w' => e = .returned (.tuple #[.agg #[.int .i64 R.kind, .int .i64 (tA i R), .int .i64 (tT i R), .int .i64 R.num, .string (tS R)], .int .i64 R.err]) ∧ Below w.heap.size w w' := by
  have HSKIP := Lib.hid hskip
  have bq : ((i : Int) == (s.size : Int)) = false := by simp; omega
  have HM := Lib.hid (hm.alloc (.cells #[.int .i64 0, .int .i64 0, .int .i64 0, .int .i64 0, .string ⟨#[]⟩] 42))
  have il : (i : Int) < (s.size : Int) := by omega
  have _hs := hs
  have b91 : ((s[i].toNat : Int) == 91) = false := by rw [hc]; rfl
  have b93 : ((s[i].toNat : Int) == 93) = false := by rw [hc]; rfl
  have b123 : ((s[i].toNat : Int) == 123) = false := by rw [hc]; rfl
  have b125 : ((s[i].toNat : Int) == 125) = true := by rw [hc]; rfl
  have HCALL := Lib.hid hcall
  clear hskip hc hcall hm
  go_enter Tryz.func25, Tryz.ntmps25
  go_wp2_with fail
  refine (HSKIP.out _).mono ?_
  rintro e w' ⟨rfl, rfl⟩
  go_wp2_with fail
  refine (HCALL.out _ HM.out).mono ?_
  rintro e w2 ⟨rfl, hb⟩
  simp at hb
  have hB := tok_cell hb
  have HB := Lib.hid (tok_below hb)
  have hg := HB.out.size
  have c0 := hB.cell 0
  have c1 := hB.cell 1
  have c2 := hB.cell 2
  have c3 := hB.cell 3
  have c4 := hB.cell 4
  have f0 := hB.frozen 0
  have f1 := hB.frozen 1
  have f2 := hB.frozen 2
  have f3 := hB.frozen 3
  have f4 := hB.frozen 4
  clear hb hB
  simp only [List.getElem?_toArray, List.getElem?_cons_zero, List.getElem?_cons_succ] at c0 c1 c2 c3 c4
  go_wp2_with fail
  exact bodyPost_ret (v := .tuple #[.agg #[.int .i64 R.kind, .int .i64 (tA i R), .int .i64 (tT i R), .int .i64 R.num, .string (tS R)], .int .i64 R.err]) (by simp [results, Tryz.results25, go_sem, c0, c1, c2, c3, c4]) rfl ⟨rfl, set_below (set_below (set_below (set_below (set_below HB.out _ _) _ _) _ _) _ _) _ _⟩

set_option maxHeartbeats 2000000 in
include hm in
theorem next_lt2 (hi : i < s.size) (hc : s[i] = 60)
    (hbeg : ∀ W : World, Calls Tryz.prog 20 #[.string s, .string ⟨#[60, 60]⟩, .int .i64 (i : Int)] W fun e w' => e = .returned (.bool true) ∧ W = w')
    (hcall : ∀ W : World, MaxLenAt W → Calls Tryz.prog 39 #[.string s, .int .i64 (i : Int), .int .i64 ((i : Int) + 2)] W fun e w' => e = .returned (.tuple #[.agg #[.int .i64 R.kind, .int .i64 (tA i R), .int .i64 (tT i R), .int .i64 R.num, .string (tS R)], .int .i64 R.err]) ∧ Below W.heap.size W w') :
    Calls Tryz.prog 25 #[.string s, .int .i64 a] w fun e w' => e = .returned (.tuple #[.agg #[.int .i64 R.kind, .int .i64 (tA i R), .int .i64 (tT i R), .int .i64 R.num, .string (tS R)], .int .i64 R.err]) ∧ Below w.heap.size w w' := by
  have HSKIP := Lib.hid hskip
  have bq : ((i : Int) == (s.size : Int)) = false := by simp; omega
  have HM := Lib.hid (hm.alloc (.cells #[.int .i64 0, .int .i64 0, .int .i64 0, .int .i64 0, .string ⟨#[]⟩] 42))
  have il : (i : Int) < (s.size : Int) := by omega
  have _hs := hs
  have b91 : ((s[i].toNat : Int) == 91) = false := by rw [hc]; rfl
  have b93 : ((s[i].toNat : Int) == 93) = false := by rw [hc]; rfl
  have b123 : ((s[i].toNat : Int) == 123) = false := by rw [hc]; rfl
  have b125 : ((s[i].toNat : Int) == 125) = false := by rw [hc]; rfl
  have b60 : ((s[i].toNat : Int) == 60) = true := by rw [hc]; rfl
  have HBEG := Lib.hid hbeg
  have HCALL := Lib.hid hcall
  clear hskip hc hbeg hcall hm
  go_enter Tryz.func25, Tryz.ntmps25
  go_wp2_with fail
  refine (HSKIP.out _).mono ?_
  rintro e w' ⟨rfl, rfl⟩
  go_wp2_with fail
  refine (HBEG.out _).mono ?_
  rintro e w' ⟨rfl, rfl⟩
  go_wp2_with fail
  refine (HCALL.out _ HM.out).mono ?_
  rintro e w2 ⟨rfl, hb⟩
  simp at hb
  have hB := tok_cell hb
  have HB := Lib.hid (tok_below hb)
  have hg := HB.out.size
  have c0 := hB.cell 0
  have c1 := hB.cell 1
  have c2 := hB.cell 2
  have c3 := hB.cell 3
  have c4 := hB.cell 4
  have f0 := hB.frozen 0
  have f1 := hB.frozen 1
  have f2 := hB.frozen 2
  have f3 := hB.frozen 3
  have f4 := hB.frozen 4
  clear hb hB
  simp only [List.getElem?_toArray, List.getElem?_cons_zero, List.getElem?_cons_succ] at c0 c1 c2 c3 c4
  go_wp2_with fail
  exact bodyPost_ret (v := .tuple #[.agg #[.int .i64 R.kind, .int .i64 (tA i R), .int .i64 (tT i R), .int .i64 R.num, .string (tS R)], .int .i64 R.err]) (by simp [results, Tryz.results25, go_sem, c0, c1, c2, c3, c4]) rfl ⟨rfl, set_below (set_below (set_below (set_below (set_below HB.out _ _) _ _) _ _) _ _) _ _⟩

set_option maxHeartbeats 2000000 in
include hm in
theorem next_lt (hi : i < s.size) (hc : s[i] = 60)
    (hbeg : ∀ W : World, Calls Tryz.prog 20 #[.string s, .string ⟨#[60, 60]⟩, .int .i64 (i : Int)] W fun e w' => e = .returned (.bool false) ∧ W = w')
    (hcall : ∀ W : World, MaxLenAt W → Calls Tryz.prog 40 #[.string s, .int .i64 (i : Int)] W fun e w' => e = .returned (.tuple #[.agg #[.int .i64 R.kind, .int .i64 (tA i R), .int .i64 (tT i R), .int .i64 R.num, .string (tS R)], .int .i64 R.err]) ∧ Below W.heap.size W w') :
    Calls Tryz.prog 25 #[.string s, .int .i64 a] w fun e w' => e = .returned (.tuple #[.agg #[.int .i64 R.kind, .int .i64 (tA i R), .int .i64 (tT i R), .int .i64 R.num, .string (tS R)], .int .i64 R.err]) ∧ Below w.heap.size w w' := by
  have HSKIP := Lib.hid hskip
  have bq : ((i : Int) == (s.size : Int)) = false := by simp; omega
  have HM := Lib.hid (hm.alloc (.cells #[.int .i64 0, .int .i64 0, .int .i64 0, .int .i64 0, .string ⟨#[]⟩] 42))
  have il : (i : Int) < (s.size : Int) := by omega
  have _hs := hs
  have b91 : ((s[i].toNat : Int) == 91) = false := by rw [hc]; rfl
  have b93 : ((s[i].toNat : Int) == 93) = false := by rw [hc]; rfl
  have b123 : ((s[i].toNat : Int) == 123) = false := by rw [hc]; rfl
  have b125 : ((s[i].toNat : Int) == 125) = false := by rw [hc]; rfl
  have b60 : ((s[i].toNat : Int) == 60) = true := by rw [hc]; rfl
  have HBEG := Lib.hid hbeg
  have HCALL := Lib.hid hcall
  clear hskip hc hbeg hcall hm
  go_enter Tryz.func25, Tryz.ntmps25
  go_wp2_with fail
  refine (HSKIP.out _).mono ?_
  rintro e w' ⟨rfl, rfl⟩
  go_wp2_with fail
  refine (HBEG.out _).mono ?_
  rintro e w' ⟨rfl, rfl⟩
  go_wp2_with fail
  refine (HCALL.out _ HM.out).mono ?_
  rintro e w2 ⟨rfl, hb⟩
  simp at hb
  have hB := tok_cell hb
  have HB := Lib.hid (tok_below hb)
  have hg := HB.out.size
  have c0 := hB.cell 0
  have c1 := hB.cell 1
  have c2 := hB.cell 2
  have c3 := hB.cell 3
  have c4 := hB.cell 4
  have f0 := hB.frozen 0
  have f1 := hB.frozen 1
  have f2 := hB.frozen 2
  have f3 := hB.frozen 3
  have f4 := hB.frozen 4
  clear hb hB
  simp only [List.getElem?_toArray, List.getElem?_cons_zero, List.getElem?_cons_succ] at c0 c1 c2 c3 c4
  go_wp2_with fail
  exact bodyPost_ret (v := .tuple #[.agg #[.int .i64 R.kind, .int .i64 (tA i R), .int .i64 (tT i R), .int .i64 R.num, .string (tS R)], .int .i64 R.err]) (by simp [results, Tryz.results25, go_sem, c0, c1, c2, c3, c4]) rfl ⟨rfl, set_below (set_below (set_below (set_below (set_below HB.out _ _) _ _) _ _) _ _) _ _⟩

set_option maxHeartbeats 2000000 in
include hm in
theorem next_gt2 (hi : i < s.size) (hc : s[i] = 62)
    (hbeg : ∀ W : World, Calls Tryz.prog 20 #[.string s, .string ⟨#[62, 62]⟩, .int .i64 (i : Int)] W fun e w' => e = .returned (.bool true) ∧ W = w')
    (hcall : ∀ W : World, MaxLenAt W → Calls Tryz.prog 39 #[.string s, .int .i64 (i : Int), .int .i64 ((i : Int) + 2)] W fun e w' => e = .returned (.tuple #[.agg #[.int .i64 R.kind, .int .i64 (tA i R), .int .i64 (tT i R), .int .i64 R.num, .string (tS R)], .int .i64 R.err]) ∧ Below W.heap.size W w') :
    Calls Tryz.prog 25 #[.string s, .int .i64 a] w fun e w' => e = .returned (.tuple #[.agg #[.int .i64 R.kind, .int .i64 (tA i R), .int .i64 (tT i R), .int .i64 R.num, .string (tS R)], .int .i64 R.err]) ∧ Below w.heap.size w w' := by
  have HSKIP := Lib.hid hskip
  have bq : ((i : Int) == (s.size : Int)) = false := by simp; omega
  have HM := Lib.hid (hm.alloc (.cells #[.int .i64 0, .int .i64 0, .int .i64 0, .int .i64 0, .string ⟨#[]⟩] 42))
  have il : (i : Int) < (s.size : Int) := by omega
  have _hs := hs
  have b91 : ((s[i].toNat : Int) == 91) = false := by rw [hc]; rfl
  have b93 : ((s[i].toNat : Int) == 93) = false := by rw [hc]; rfl
  have b123 : ((s[i].toNat : Int) == 123) = false := by rw [hc]; rfl
  have b125 : ((s[i].toNat : Int) == 125) = false := by rw [hc]; rfl
  have b60 : ((s[i].toNat : Int) == 60) = false := by rw [hc]; rfl
  have b62 : ((s[i].toNat : Int) == 62) = true := by rw [hc]; rfl
  have HBEG := Lib.hid hbeg
  have HCALL := Lib.hid hcall
  clear hskip hc hbeg hcall hm
  go_enter Tryz.func25, Tryz.ntmps25
  go_wp2_with fail
  refine (HSKIP.out _).mono ?_
  rintro e w' ⟨rfl, rfl⟩
  go_wp2_with fail
  refine (HBEG.out _).mono ?_
  rintro e w' ⟨rfl, rfl⟩
  go_wp2_with fail
  refine (HCALL.out _ HM.out).mono ?_
  rintro e w2 ⟨rfl, hb⟩
  simp at hb
  have hB := tok_cell hb
  have HB := Lib.hid (tok_below hb)
  have hg := HB.out.size
  have c0 := hB.cell 0
  have c1 := hB.cell 1
  have c2 := hB.cell 2
  have c3 := hB.cell 3
  have c4 := hB.cell 4
  have f0 := hB.frozen 0
  have f1 := hB.frozen 1
  have f2 := hB.frozen 2
  have f3 := hB.frozen 3
  have f4 := hB.frozen 4
  clear hb hB
  simp only [List.getElem?_toArray, List.getElem?_cons_zero, List.getElem?_cons_succ] at c0 c1 c2 c3 c4
  go_wp2_with fail
  exact bodyPost_ret (v := .tuple #[.agg #[.int .i64 R.kind, .int .i64 (tA i R), .int .i64 (tT i R), .int .i64 R.num, .string (tS R)], .int .i64 R.err]) (by simp [results, Tryz.results25, go_sem, c0, c1, c2, c3, c4]) rfl ⟨rfl, set_below (set_below (set_below (set_below (set_below HB.out _ _) _ _) _ _) _ _) _ _⟩

set_option maxHeartbeats 2000000 in
theorem next_gt (hi : i < s.size) (hc : s[i] = 62)
    (hbeg : ∀ W : World, Calls Tryz.prog 20 #[.string s, .string ⟨#[62, 62]⟩, .int .i64 (i : Int)] W fun e w' => e = .returned (.bool false) ∧ W = w') :
    Calls Tryz.prog 25 #[.string s, .int .i64 a] w fun e w' => e = .returned (.tuple #[.agg #[.int .i64 0, .int .i64 0, .int .i64 0, .int .i64 0, .string ⟨#[]⟩], .int .i64 3]) ∧ Below w.heap.size w w' := by
  have HSKIP := Lib.hid hskip
  have bq : ((i : Int) == (s.size : Int)) = false := by simp; omega
  have il : (i : Int) < (s.size : Int) := by omega
  have _hs := hs
  have b91 : ((s[i].toNat : Int) == 91) = false := by rw [hc]; rfl
  have b93 : ((s[i].toNat : Int) == 93) = false := by rw [hc]; rfl
  have b123 : ((s[i].toNat : Int) == 123) = false := by rw [hc]; rfl
  have b125 : ((s[i].toNat : Int) == 125) = false := by rw [hc]; rfl
  have b60 : ((s[i].toNat : Int) == 60) = false := by rw [hc]; rfl
  have b62 : ((s[i].toNat : Int) == 62) = true := by rw [hc]; rfl
  have HBEG := Lib.hid hbeg
  clear hskip hc hbeg
  go_enter Tryz.func25, Tryz.ntmps25
  go_wp2_with fail
  refine (HSKIP.out _).mono ?_
  rintro e w' ⟨rfl, rfl⟩
  go_wp2_with fail
  refine (HBEG.out _).mono ?_
  rintro e w' ⟨rfl, rfl⟩
  go_wp2_with fail
  exact bodyPost_ret (v := .tuple #[.agg #[.int .i64 0, .int .i64 0, .int .i64 0, .int .i64 0, .string ⟨#[]⟩], .int .i64 3]) (by simp [results, Tryz.results25, go_sem]) rfl ⟨rfl, below_tok _ _ _⟩

set_option maxHeartbeats 2000000 in
theorem next_close (hi : i < s.size) (hc : s[i] = 41) :
    Calls Tryz.prog 25 #[.string s, .int .i64 a] w fun e w' => e = .returned (.tuple #[.agg #[.int .i64 0, .int .i64 0, .int .i64 0, .int .i64 0, .string ⟨#[]⟩], .int .i64 3]) ∧ Below w.heap.size w w' := by
  have HSKIP := Lib.hid hskip
  have bq : ((i : Int) == (s.size : Int)) = false := by simp; omega
  have il : (i : Int) < (s.size : Int) := by omega
  have _hs := hs
  have b91 : ((s[i].toNat : Int) == 91) = false := by rw [hc]; rfl
  have b93 : ((s[i].toNat : Int) == 93) = false := by rw [hc]; rfl
  have b123 : ((s[i].toNat : Int) == 123) = false := by rw [hc]; rfl
  have b125 : ((s[i].toNat : Int) == 125) = false := by rw [hc]; rfl
  have b60 : ((s[i].toNat : Int) == 60) = false := by rw [hc]; rfl
  have b62 : ((s[i].toNat : Int) == 62) = false := by rw [hc]; rfl
  have b41 : ((s[i].toNat : Int) == 41) = true := by rw [hc]; rfl
  clear hskip hc
  go_enter Tryz.func25, Tryz.ntmps25
  go_wp2_with fail
  refine (HSKIP.out _).mono ?_
  rintro e w' ⟨rfl, rfl⟩
  go_wp2_with fail
  exact bodyPost_ret (v := .tuple #[.agg #[.int .i64 0, .int .i64 0, .int .i64 0, .int .i64 0, .string ⟨#[]⟩], .int .i64 3]) (by simp [results, Tryz.results25, go_sem]) rfl ⟨rfl, below_tok _ _ _⟩

set_option maxHeartbeats 2000000 in
include hm in
theorem next_open (hi : i < s.size) (hc : s[i] = 40)
    (hcall : ∀ W : World, MaxLenAt W → Calls Tryz.prog 41 #[.string s, .int .i64 (i : Int)] W fun e w' => e = .returned (.tuple #[.agg #[.int .i64 R.kind, .int .i64 (tA i R), .int .i64 (tT i R), .int .i64 R.num, .string (tS R)], .int .i64 R.err]) ∧ Below W.heap.size W w') :
    Calls Tryz.prog 25 #[.string s, .int .i64 a] w fun e w' => e = .returned (.tuple #[.agg #[.int .i64 R.kind, .int .i64 (tA i R), .int .i64 (tT i R), .int .i64 R.num, .string (tS R)], .int .i64 R.err]) ∧ Below w.heap.size w w' := by
  have HSKIP := Lib.hid hskip
  have bq : ((i : Int) == (s.size : Int)) = false := by simp; omega
  have HM := Lib.hid (hm.alloc (.cells #[.int .i64 0, .int .i64 0, .int .i64 0, .int .i64 0, .string ⟨#[]⟩] 42))
  have il : (i : Int) < (s.size : Int) := by omega
  have _hs := hs
  have b91 : ((s[i].toNat : Int) == 91) = false := by rw [hc]; rfl
  have b93 : ((s[i].toNat : Int) == 93) = false := by rw [hc]; rfl
  have b123 : ((s[i].toNat : Int) == 123) = false := by rw [hc]; rfl
  have b125 : ((s[i].toNat : Int) == 125) = false := by rw [hc]; rfl
  have b60 : ((s[i].toNat : Int) == 60) = false := by rw [hc]; rfl
  have b62 : ((s[i].toNat : Int) == 62) = false := by rw [hc]; rfl
  have b41 : ((s[i].toNat : Int) == 41) = false := by rw [hc]; rfl
  have b40 : ((s[i].toNat : Int) == 40) = true := by rw [hc]; rfl
  have HCALL := Lib.hid hcall
  clear hskip hc hcall hm
  go_enter Tryz.func25, Tryz.ntmps25
  go_wp2_with fail
  refine (HSKIP.out _).mono ?_
  rintro e w' ⟨rfl, rfl⟩
  go_wp2_with fail
  refine (HCALL.out _ HM.out).mono ?_
  rintro e w2 ⟨rfl, hb⟩
  simp at hb
  have hB := tok_cell hb
  have HB := Lib.hid (tok_below hb)
  have hg := HB.out.size
  have c0 := hB.cell 0
  have c1 := hB.cell 1
  have c2 := hB.cell 2
  have c3 := hB.cell 3
  have c4 := hB.cell 4
  have f0 := hB.frozen 0
  have f1 := hB.frozen 1
  have f2 := hB.frozen 2
  have f3 := hB.frozen 3
  have f4 := hB.frozen 4
  clear hb hB
  simp only [List.getElem?_toArray, List.getElem?_cons_zero, List.getElem?_cons_succ] at c0 c1 c2 c3 c4
  go_wp2_with fail
  exact bodyPost_ret (v := .tuple #[.agg #[.int .i64 R.kind, .int .i64 (tA i R), .int .i64 (tT i R), .int .i64 R.num, .string (tS R)], .int .i64 R.err]) (by simp [results, Tryz.results25, go_sem, c0, c1, c2, c3, c4]) rfl ⟨rfl, set_below (set_below (set_below (set_below (set_below HB.out _ _) _ _) _ _) _ _) _ _⟩

set_option maxHeartbeats 2000000 in
include hm in
theorem next_name (hi : i < s.size) (hc : s[i] = 47)
    (hcall : ∀ W : World, MaxLenAt W → Calls Tryz.prog 42 #[.string s, .int .i64 (i : Int)] W fun e w' => e = .returned (.tuple #[.agg #[.int .i64 R.kind, .int .i64 (tA i R), .int .i64 (tT i R), .int .i64 R.num, .string (tS R)], .int .i64 R.err]) ∧ Below W.heap.size W w') :
    Calls Tryz.prog 25 #[.string s, .int .i64 a] w fun e w' => e = .returned (.tuple #[.agg #[.int .i64 R.kind, .int .i64 (tA i R), .int .i64 (tT i R), .int .i64 R.num, .string (tS R)], .int .i64 R.err]) ∧ Below w.heap.size w w' := by
  have HSKIP := Lib.hid hskip
  have bq : ((i : Int) == (s.size : Int)) = false := by simp; omega
  have HM := Lib.hid (hm.alloc (.cells #[.int .i64 0, .int .i64 0, .int .i64 0, .int .i64 0, .string ⟨#[]⟩] 42))
  have il : (i : Int) < (s.size : Int) := by omega
  have _hs := hs
  have b91 : ((s[i].toNat : Int) == 91) = false := by rw [hc]; rfl
  have b93 : ((s[i].toNat : Int) == 93) = false := by rw [hc]; rfl
  have b123 : ((s[i].toNat : Int) == 123) = false := by rw [hc]; rfl
  have b125 : ((s[i].toNat : Int) == 125) = false := by rw [hc]; rfl
  have b60 : ((s[i].toNat : Int) == 60) = false := by rw [hc]; rfl
  have b62 : ((s[i].toNat : Int) == 62) = false := by rw [hc]; rfl
  have b41 : ((s[i].toNat : Int) == 41) = false := by rw [hc]; rfl
  have b40 : ((s[i].toNat : Int) == 40) = false := by rw [hc]; rfl
  have b47 : ((s[i].toNat : Int) == 47) = true := by rw [hc]; rfl
  have HCALL := Lib.hid hcall
  clear hskip hc hcall hm
  go_enter Tryz.func25, Tryz.ntmps25
  go_wp2_with fail
  refine (HSKIP.out _).mono ?_
  rintro e w' ⟨rfl, rfl⟩
  go_wp2_with fail
  refine (HCALL.out _ HM.out).mono ?_
  rintro e w2 ⟨rfl, hb⟩
  simp at hb
  have hB := tok_cell hb
  have HB := Lib.hid (tok_below hb)
  have hg := HB.out.size
  have c0 := hB.cell 0
  have c1 := hB.cell 1
  have c2 := hB.cell 2
  have c3 := hB.cell 3
  have c4 := hB.cell 4
  have f0 := hB.frozen 0
  have f1 := hB.frozen 1
  have f2 := hB.frozen 2
  have f3 := hB.frozen 3
  have f4 := hB.frozen 4
  clear hb hB
  simp only [List.getElem?_toArray, List.getElem?_cons_zero, List.getElem?_cons_succ] at c0 c1 c2 c3 c4
  go_wp2_with fail
  exact bodyPost_ret (v := .tuple #[.agg #[.int .i64 R.kind, .int .i64 (tA i R), .int .i64 (tT i R), .int .i64 R.num, .string (tS R)], .int .i64 R.err]) (by simp [results, Tryz.results25, go_sem, c0, c1, c2, c3, c4]) rfl ⟨rfl, set_below (set_below (set_below (set_below (set_below HB.out _ _) _ _) _ _) _ _) _ _⟩

set_option maxHeartbeats 2000000 in
include hm in
theorem next_reg (hi : i < s.size) (hc : s[i] ≠ 91 ∧ s[i] ≠ 93 ∧ s[i] ≠ 123 ∧ s[i] ≠ 125 ∧ s[i] ≠ 60 ∧ s[i] ≠ 62 ∧ s[i] ≠ 41 ∧ s[i] ≠ 40 ∧ s[i] ≠ 47)
    (hcall : ∀ W : World, MaxLenAt W → Calls Tryz.prog 43 #[.string s, .int .i64 (i : Int)] W fun e w' => e = .returned (.tuple #[.agg #[.int .i64 R.kind, .int .i64 (tA i R), .int .i64 (tT i R), .int .i64 R.num, .string (tS R)], .int .i64 R.err]) ∧ Below W.heap.size W w') :
    Calls Tryz.prog 25 #[.string s, .int .i64 a] w fun e w' => e = .returned (.tuple #[.agg #[.int .i64 R.kind, .int .i64 (tA i R), .int .i64 (tT i R), .int .i64 R.num, .string (tS R)], .int .i64 R.err]) ∧ Below w.heap.size w w' := by
  have HSKIP := Lib.hid hskip
  have bq : ((i : Int) == (s.size : Int)) = false := by simp; omega
  have HM := Lib.hid (hm.alloc (.cells #[.int .i64 0, .int .i64 0, .int .i64 0, .int .i64 0, .string ⟨#[]⟩] 42))
  have il : (i : Int) < (s.size : Int) := by omega
  have _hs := hs
  have b91 : ((s[i].toNat : Int) == 91) = false := byte_isnt (n := 91) (by decide) (by simp_all)
  have b93 : ((s[i].toNat : Int) == 93) = false := byte_isnt (n := 93) (by decide) (by simp_all)
  have b123 : ((s[i].toNat : Int) == 123) = false := byte_isnt (n := 123) (by decide) (by simp_all)
  have b125 : ((s[i].toNat : Int) == 125) = false := byte_isnt (n := 125) (by decide) (by simp_all)
  have b60 : ((s[i].toNat : Int) == 60) = false := byte_isnt (n := 60) (by decide) (by simp_all)
  have b62 : ((s[i].toNat : Int) == 62) = false := byte_isnt (n := 62) (by decide) (by simp_all)
  have b41 : ((s[i].toNat : Int) == 41) = false := byte_isnt (n := 41) (by decide) (by simp_all)
  have b40 : ((s[i].toNat : Int) == 40) = false := byte_isnt (n := 40) (by decide) (by simp_all)
  have b47 : ((s[i].toNat : Int) == 47) = false := byte_isnt (n := 47) (by decide) (by simp_all)
  have HCALL := Lib.hid hcall
  clear hskip hc hcall hm
  go_enter Tryz.func25, Tryz.ntmps25
  go_wp2_with fail
  refine (HSKIP.out _).mono ?_
  rintro e w' ⟨rfl, rfl⟩
  go_wp2_with fail
  refine (HCALL.out _ HM.out).mono ?_
  rintro e w2 ⟨rfl, hb⟩
  simp at hb
  have hB := tok_cell hb
  have HB := Lib.hid (tok_below hb)
  have hg := HB.out.size
  have c0 := hB.cell 0
  have c1 := hB.cell 1
  have c2 := hB.cell 2
  have c3 := hB.cell 3
  have c4 := hB.cell 4
  have f0 := hB.frozen 0
  have f1 := hB.frozen 1
  have f2 := hB.frozen 2
  have f3 := hB.frozen 3
  have f4 := hB.frozen 4
  clear hb hB
  simp only [List.getElem?_toArray, List.getElem?_cons_zero, List.getElem?_cons_succ] at c0 c1 c2 c3 c4
  go_wp2_with fail
  exact bodyPost_ret (v := .tuple #[.agg #[.int .i64 R.kind, .int .i64 (tA i R), .int .i64 (tT i R), .int .i64 R.num, .string (tS R)], .int .i64 R.err]) (by simp [results, Tryz.results25, go_sem, c0, c1, c2, c3, c4]) rfl ⟨rfl, set_below (set_below (set_below (set_below (set_below HB.out _ _) _ _) _ _) _ _) _ _⟩

end

theorem next_begins (s : ByteArray) (i : Nat) (hs : s.size ≤ 100000) (t : List UInt8) (b : Bool) (hb : beginsS s.data.toList t (i : Int) = b) : ∀ W : World, Calls Tryz.prog 20 #[.string s, .string ⟨t.toArray⟩, .int .i64 (i : Int)] W fun e w' => e = .returned (.bool b) ∧ W = w' :=
  fun W => begins_c s ⟨t.toArray⟩ (i : Int) b W (by omega) hb
theorem skip_next (s : ByteArray) (a : Int) (h0 : 0 ≤ a) (h1 : a ≤ (s.size : Int)) : skipS s.data.toList a = ((nxI s.data.toList a : Nat) : Int) ∧ nxI s.data.toList a ≤ s.size := by
  have hl : s.data.toList.length = s.size := by simp
  unfold skipS nxI nextI
  rw [if_neg (by omega)]
  have h := skipN_le false (s.data.toList.drop a.toNat)
  rw [List.length_drop, hl] at h
  exact ⟨by push_cast; omega, by omega⟩
theorem head_next (s : ByteArray) (i : Nat) (c : UInt8) (h : i + 1 < s.size) : (s.data.toList.drop (i + 1)).head? = some c ↔ s[i + 1] = c := by
  rw [drop_cons s (i + 1) h]
  simp
theorem lexBegins_two (s : ByteArray) (i : Nat) (c : UInt8) (h : i < s.size) (hc : s[i] = c) : beginsS s.data.toList [c, c] (i : Int) = decide ((s.data.toList.drop (i + 1)).head? = some c) := by
  have hl : s.data.toList.length = s.size := by simp
  unfold beginsS Lib.hasPrefix
  rw [Int.toNat_natCast, drop_cons s i h, hc]
  have e1 : decide ((0 : Int) ≤ (i : Int)) = true := by simp
  have e2 : decide ((i : Int) ≤ (s.data.toList.length : Int)) = true := by simp; omega
  rw [e1, e2]
  cases s.data.toList.drop (i + 1) with
  | nil => simp [List.isPrefixOf]
  | cons b t =>
    rw [Bool.eq_iff_iff]
    simp [List.isPrefixOf]
    exact ⟨fun h => h.symm, fun h => h.symm⟩
theorem one_text (s : ByteArray) (i : Nat) (h : i < s.size) : (s.extract i (i + 1)).data.toList = [s[i]] := by
  rw [ByteArray.data_extract, Array.toList_extract, List.extract_eq_take_drop, drop_cons s i h, show i + 1 - i = 1 from by omega]
  rfl
theorem two_text (s : ByteArray) (i : Nat) (c : UInt8) (h : i < s.size) (hc : s[i] = c) (hh : (s.data.toList.drop (i + 1)).head? = some c) : (s.extract i (i + 2)).data.toList = [c, c] ∧ i + 2 ≤ s.size := by
  rw [ByteArray.data_extract, Array.toList_extract, List.extract_eq_take_drop, drop_cons s i h, show i + 2 - i = 2 from by omega, hc]
  have hl : (s.data.toList.drop (i + 1)).length = s.size - (i + 1) := by simp
  cases hd : s.data.toList.drop (i + 1) with
  | nil => rw [hd] at hh; cases hh
  | cons b t =>
    rw [hd] at hh hl
    simp at hh hl
    exact ⟨by simp [hh], by omega⟩

theorem mark_c (s : ByteArray) (i n : Nat) (t : Int) (l : List UInt8) (R : TR) (w : World) (ht : t = ((i + n : Nat) : Int)) (h2 : i + n ≤ s.size) (hs : s.size ≤ 100000) (hl : (s.extract i (i + n)).data.toList = l) (hn : l.length = n) (hR : Lex.mark l = R) :
    Calls Tryz.prog 39 #[.string s, .int .i64 (i : Int), .int .i64 t] w fun e w' => e = .returned (.tuple #[.agg #[.int .i64 R.kind, .int .i64 (tA i R), .int .i64 (tT i R), .int .i64 R.num, .string (tS R)], .int .i64 R.err]) ∧ Below w.heap.size w w' := by
  subst ht
  refine (mark_any s i (i + n) w (by omega) h2 (by omega)).mono fun e w' ⟨e1, e2⟩ => ⟨e1.trans (tok_ok (n := n) ?_ rfl rfl), e2⟩
  rw [← hR, hl]
  unfold Lex.mark
  rw [hn]

theorem lexNext_any (s : ByteArray) (a : Int) (w : World) (hs : s.size ≤ 100000) (hm : MaxLenAt w) :
    Calls Tryz.prog 25 #[.string s, .int .i64 a] w fun e w' => e = .returned (.tuple #[.agg #[.int .i64 (nxR s.data.toList a).kind, .int .i64 (tA (nxI s.data.toList a) (nxR s.data.toList a)), .int .i64 (tT (nxI s.data.toList a) (nxR s.data.toList a)), .int .i64 (nxR s.data.toList a).num, .string (tS (nxR s.data.toList a))], .int .i64 (nxR s.data.toList a).err]) ∧ Below w.heap.size w w' := by
  have hsl : s.data.toList.length = s.size := by simp
  by_cases h : a < 0 ∨ (s.size : Int) < a
  · have hR : nxR s.data.toList a = bad 1 := by unfold nxR; rw [if_pos (by rw [hsl]; exact h)]
    suffices H : Calls Tryz.prog 25 #[.string s, .int .i64 a] w fun e w' => e = .returned (.tuple #[.agg #[.int .i64 0, .int .i64 0, .int .i64 0, .int .i64 0, .string ⟨#[]⟩], .int .i64 1]) ∧ Below w.heap.size w w' from H.mono fun e w' ⟨e1, e2⟩ => ⟨e1.trans (tok_bad hR (by decide)), e2⟩
    clear hR
    rcases h with h | h
    · go_enter Tryz.func25, Tryz.ntmps25
      go_wp2_with fail
      exact bodyPost_ret (v := .tuple #[.agg #[.int .i64 0, .int .i64 0, .int .i64 0, .int .i64 0, .string ⟨#[]⟩], .int .i64 1]) (by simp [results, Tryz.results25, go_sem]) rfl ⟨rfl, below_tok _ _ _⟩
    · have h' : ¬ a < 0 := by omega
      go_enter Tryz.func25, Tryz.ntmps25
      go_wp2_with fail
      exact bodyPost_ret (v := .tuple #[.agg #[.int .i64 0, .int .i64 0, .int .i64 0, .int .i64 0, .string ⟨#[]⟩], .int .i64 1]) (by simp [results, Tryz.results25, go_sem]) rfl ⟨rfl, below_tok _ _ _⟩
  · have h0 : 0 ≤ a := by omega
    have h1 : a ≤ (s.size : Int) := by omega
    obtain ⟨hk, hi⟩ := skip_next s a h0 h1
    have hR : nxR s.data.toList a = tokR (s.data.toList.drop (nxI s.data.toList a)) := by unfold nxR; rw [if_neg (by rw [hsl]; exact h)]; rfl
    have hskip := fun W : World => skip_c s a _ W (by omega) hk
    obtain ⟨i, hii⟩ : ∃ i, nxI s.data.toList a = i := ⟨_, rfl⟩
    obtain ⟨R, hRR⟩ : ∃ R, nxR s.data.toList a = R := ⟨_, rfl⟩
    rw [hii] at hi hR hskip
    rw [hRR] at hR
    rw [hii, hRR]
    by_cases hlt : i < s.size
    · rw [drop_cons s i hlt, tokR] at hR
      by_cases c1 : s[i] = 91
      · rw [if_pos c1] at hR
        exact next_m91 s a i R w hs h0 h1 hm hskip hlt c1 fun W _ => mark_c s i 1 _ _ R W (by go_num) (by omega) hs (one_text s i hlt) rfl hR.symm
      rw [if_neg c1] at hR
      by_cases c2 : s[i] = 93
      · rw [if_pos c2] at hR
        exact next_m93 s a i R w hs h0 h1 hm hskip hlt c2 fun W _ => mark_c s i 1 _ _ R W (by go_num) (by omega) hs (one_text s i hlt) rfl hR.symm
      rw [if_neg c2] at hR
      by_cases c3 : s[i] = 123
      · rw [if_pos c3] at hR
        exact next_m123 s a i R w hs h0 h1 hm hskip hlt c3 fun W _ => mark_c s i 1 _ _ R W (by go_num) (by omega) hs (one_text s i hlt) rfl hR.symm
      rw [if_neg c3] at hR
      by_cases c4 : s[i] = 125
      · rw [if_pos c4] at hR
        exact next_m125 s a i R w hs h0 h1 hm hskip hlt c4 fun W _ => mark_c s i 1 _ _ R W (by go_num) (by omega) hs (one_text s i hlt) rfl hR.symm
      rw [if_neg c4] at hR
      by_cases c5 : s[i] = 60
      · rw [if_pos c5] at hR
        have hbg := lexBegins_two s i 60 hlt c5
        by_cases hh : (s.data.toList.drop (i + 1)).head? = some 60
        · rw [if_pos hh] at hR
          obtain ⟨t1, t2⟩ := two_text s i 60 hlt c5 hh
          exact next_lt2 s a i R w hs h0 h1 hm hskip hlt c5 (next_begins s i hs [60, 60] true (by rw [hbg]; simpa using hh)) fun W _ => mark_c s i 2 _ _ R W (by go_num) t2 hs t1 rfl hR.symm
        · rw [if_neg hh] at hR
          exact next_lt s a i R w hs h0 h1 hm hskip hlt c5 (next_begins s i hs [60, 60] false (by rw [hbg]; simpa using hh)) fun W _ => lexDigits_any s i R W hlt (by omega) hR.symm
      rw [if_neg c5] at hR
      by_cases c6 : s[i] = 62
      · rw [if_pos c6] at hR
        have hbg := lexBegins_two s i 62 hlt c6
        by_cases hh : (s.data.toList.drop (i + 1)).head? = some 62
        · rw [if_pos hh] at hR
          obtain ⟨t1, t2⟩ := two_text s i 62 hlt c6 hh
          exact next_gt2 s a i R w hs h0 h1 hm hskip hlt c6 (next_begins s i hs [62, 62] true (by rw [hbg]; simpa using hh)) fun W _ => mark_c s i 2 _ _ R W (by go_num) t2 hs t1 rfl hR.symm
        · rw [if_neg hh] at hR
          exact (next_gt s a i w hs h0 h1 hskip hlt c6 (next_begins s i hs [62, 62] false (by rw [hbg]; simpa using hh))).mono fun e w' ⟨e1, e2⟩ => ⟨e1.trans (tok_bad hR (by decide)), e2⟩
      rw [if_neg c6] at hR
      by_cases c7 : s[i] = 41
      · rw [if_pos c7] at hR
        exact (next_close s a i w hs h0 h1 hskip hlt c7).mono fun e w' ⟨e1, e2⟩ => ⟨e1.trans (tok_bad hR (by decide)), e2⟩
      rw [if_neg c7] at hR
      by_cases c8 : s[i] = 40
      · rw [if_pos c8] at hR
        exact next_open s a i R w hs h0 h1 hm hskip hlt c8 fun W _ => literal_any s i R W hlt (by omega) hR.symm
      rw [if_neg c8] at hR
      by_cases c9 : s[i] = 47
      · rw [if_pos c9] at hR
        exact next_name s a i R w hs h0 h1 hm hskip hlt c9 fun W _ => name_any s i R W hlt (by omega) hR.symm
      rw [if_neg c9] at hR
      rw [← drop_cons s i hlt] at hR
      exact next_reg s a i R w hs h0 h1 hm hskip hlt ⟨c1, c2, c3, c4, c5, c6, c7, c8, c9⟩ fun W hW => lexReg_any s i R W hlt hs hW hR.symm
    · have ei : i = s.size := by omega
      rw [List.drop_eq_nil_of_le (by rw [hsl]; omega), tokR] at hR
      exact (next_end s a i w hs h0 h1 hskip ei).mono fun e w' ⟨e1, e2⟩ => ⟨e1.trans (tok_ok (n := 0) (b := ⟨#[]⟩) hR rfl rfl), e2⟩
end Go.Proofs.YtdpbpdikgcepbaaGreatDoor
namespace Go.Proofs.YtdpbpdikgcepbaaGreatDoor
open Go.RowKit Oct Fix Lex

theorem infoTok : (Tryz.prog.info? 42).map (fun i => (i.zero, i.size, i.bytes)) = some (some (.agg #[.int .i64 0, .int .i64 0, .int .i64 0, .int .i64 0, .string ⟨#[]⟩]), 5, 48) := by kernel_rfl
def tkCells (t : Tk) : List Value := [.int .i64 t.kind, .int .i64 t.beg, .int .i64 t.stop, .int .i64 t.num, .string ⟨t.txt.toArray⟩]
def rowCells (l : List Tk) : List Value := l.flatMap tkCells
theorem rowCells_snoc (l : List Tk) (t : Tk) : rowCells (l ++ [t]) = rowCells l ++ tkCells t := by unfold rowCells; rw [List.flatMap_append]; simp
theorem nxI_at (l : List UInt8) (p : Nat) : nxI l (p : Int) = nextI l p := by unfold nxI; rw [Int.toNat_natCast]
theorem nxR_at {l : List UInt8} {p : Nat} (h : p ≤ l.length) : nxR l (p : Int) = nextR l p := by unfold nxR; rw [if_neg (by omega), Int.toNat_natCast]
theorem next_at (s : ByteArray) (p i : Nat) (R : TR) (w : World) (hs : s.size ≤ 100000) (hm : MaxLenAt w) (hp : p ≤ s.size) (hi : nextI s.data.toList p = i) (hR : nextR s.data.toList p = R) :
    Calls Tryz.prog 25 #[.string s, .int .i64 (p : Int)] w fun e w' => e = .returned (.tuple #[.agg #[.int .i64 R.kind, .int .i64 (tA i R), .int .i64 (tT i R), .int .i64 R.num, .string (tS R)], .int .i64 R.err]) ∧ Below w.heap.size w w' := by
  have h := lexNext_any s (p : Int) w hs hm
  rw [nxI_at, nxR_at (by simpa using hp), hi, hR] at h
  exact h
theorem grown_refl (w : World) (r : Option Nat) : w.grownBy w r := ⟨rfl, rfl, rfl, Nat.le_refl _, fun _ _ _ => rfl⟩
theorem own_set {w : World} {base : Nat} {e : TypeId} {size : Nat} {v : Value} {n : Nat} {xs : List Value} (h : w.ownsRow base e size v n xs) {g : Nat} (hg : g < base) (i : Nat) (u : Value) : (w.setCell ⟨g, i, none⟩ u).ownsRow base e size v n xs :=
  h.kept (row := some g) (grown_set (grown_refl w _) i u) (.inr fun e => by have := (h.lt g e).1; omega)
theorem own_below {w w' : World} {base B : Nat} {e : TypeId} {size : Nat} {v : Value} {n : Nat} {xs : List Value} (h : w.ownsRow base e size v n xs) (hb : Below B w w') (hB : w.heap.size ≤ B) : w'.ownsRow base e size v n xs :=
  h.kept (row := none) ⟨hb.os, hb.tape, hb.output, hb.size, fun i hi _ => hb.block i (by omega)⟩ (by
    rcases h.2 with ⟨rfl, rfl⟩ | ⟨k, cap, cur, rfl, _⟩
    · exact .inl rfl
    · exact .inr (by simp [Value.ownBlock]))
/-- What Upto and All answer: a row of tokens of their own, and a fault. -/
def UptoEnd (r : Up) (w : World) (e : Ending) (w' : World) : Prop :=
  ∃ (A : Option Addr) (C : Nat), e = .returned (.tuple #[.slice A r.1.length C, .agg #[.int .i64 r.2.1, .int .i64 r.2.2]]) ∧ w'.ownsRow w.heap.size 42 5 (.slice A r.1.length C) r.1.length (rowCells r.1) ∧ Below w.heap.size w w'
theorem upto_none {p c : Int} {r : Up} {w w' : World} (hr : r = ([], p, c)) (hb : Below w.heap.size w w') : UptoEnd r w (.returned (.tuple #[.slice none 0 0, .agg #[.int .i64 p, .int .i64 c]])) w' := by
  subst hr
  exact ⟨none, 0, rfl, World.ownsRow_nil _ _ _ _, hb⟩
theorem upto_some {out : List Tk} {A : Option Addr} {C n : Nat} {r : Up} {w w' : World} (hr : r = (out, 0, 0)) (hn : n = out.length) (ho : w'.ownsRow (w.heap.size + 1) 42 5 (.slice A n C) n (rowCells out)) (hb : Below w.heap.size w w') :
    UptoEnd r w (.returned (.tuple #[.slice A n C, .agg #[.int .i64 0, .int .i64 0]])) w' := by
  subst hr hn
  exact ⟨A, C, rfl, ho.mono (by omega), hb⟩
theorem flt_below (w : World) (cs : Array Value) (t : TypeId) : Below w.heap.size w (w.alloc (.cells cs t)) := (Below.refl _ _).alloc (Nat.le_refl _) _

end Go.Proofs.YtdpbpdikgcepbaaGreatDoor
