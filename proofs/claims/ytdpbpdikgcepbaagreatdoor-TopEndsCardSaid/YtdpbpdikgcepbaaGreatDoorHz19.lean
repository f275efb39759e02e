/-
  Lemmas and walks, joined: LexR, LexS, LexT, LexU, LexV.
-/
import Derived.Test.YtdpbpdikgcepbaaGreatDoorHz16
import Derived.Test.YtdpbpdikgcepbaaGreatDoorHz18
import Derived.Test.YtdpbpdikgcepbaaGreatDoorHz14
import Derived.Test.YtdpbpdikgcepbaaGreatDoorHz09
import Derived.Test.YtdpbpdikgcepbaaGreatDoorHz08
namespace Go.Proofs.YtdpbpdikgcepbaaGreatDoor
open Go.RowKit Oct Fix Lex

theorem valL_nil : valL 0 [] = 0 := rfl
theorem drop_val {l : List UInt8} {o k : Nat} (ho : o ≤ k) (hk : k < l.length) (hd : (l.drop o).all isDig = true) :
    valL 0 ((l.drop o).take (k + 1 - o)) = 10 * valL 0 ((l.drop o).take (k - o)) + ((l[k].toNat : Int) - 48) ∧ 0 ≤ valL 0 ((l.drop o).take (k - o)) ∧ valL 0 ((l.drop o).take (k + 1 - o)) ≤ valL 0 (l.drop o) ∧ 48 ≤ l[k].toNat ∧ l[k].toNat ≤ 57 := by
  have h1 : k - o < (l.drop o).length := by rw [List.length_drop]; omega
  have h := valL_step h1 hd
  rw [show k + 1 - o = (k - o) + 1 from by omega]
  have e : (l.drop o)[k - o] = l[k] := by
    rw [List.getElem_drop]
    congr 1
    omega
  rw [e] at h
  exact h

set_option maxRecDepth 100000 in
set_option maxHeartbeats 4000000 in
theorem whole_off (s : ByteArray) (o : Nat) (w : World) (hs : s.size ≤ 4000000000) (ho : o ≤ 1) (h0 : o < s.size) (hb : bodyL s.data.toList = s.data.toList.drop o) (hd : (s.data.toList.drop o).all isDig = true) (hsg : o = 1 → s[0] = 43 ∨ s[0] = 45) :
    Calls Tryz.prog 104 #[.string s] w fun e w' => e = .returned (.tuple #[.int .i64 (intV s), .int .i64 (intE s)]) ∧ w = w' := by
  have hl : s.data.toList.length = s.size := by simp
  have HL := Lib.hid hl
  have HBo := Lib.hid hb
  have HDg := Lib.hid hd
  have HSg := Lib.hid hsg
  clear hl hb hd hsg
  go_enter Tryz.func104, Tryz.ntmps104
  go_wp2_with fail
  go_loop [4, 5] (fun n i => ∃ (k : Nat) (X : Int), k ≤ s.size ∧ i = .int .i64 (k : Int) ∧ n = .int .i64 X ∧ valL 0 ((s.data.toList.drop o).take (k - o)) = X ∧ 0 ≤ X ∧ X ≤ 2147483647) (fun _ i => s.size - (intOf i).toNat)
  case atStart => exact ⟨0, 0, by omega, rfl, rfl, by simp [valL_nil], by omega, by omega⟩
  case round =>
    obtain ⟨k, X, hk, rfl, rfl, hX, hX0, hX1⟩ := hrel
    have HX := Lib.hid hX
    clear hX
    by_cases hlt : k < s.size
    · by_cases hko : k < o
      · have hk0 : k = 0 := by omega
        have ho1 : o = 1 := by omega
        subst hk0
        have b : ((s[0].toNat : Int) == 43) = true ∨ (((s[0].toNat : Int) == 43) = false ∧ ((s[0].toNat : Int) == 45) = true) := by
          rcases HSg.out ho1 with h2 | h2
          · exact .inl (by rw [h2]; rfl)
          · exact .inr (by rw [h2]; exact ⟨rfl, rfl⟩)
        have N : Hid (valL 0 ((s.data.toList.drop o).take (0 + 1 - o)) = X) := Lib.hid (by rw [← HX.out, ho1])
        clear hko ho1
        rcases b with b43 | ⟨b43, b45⟩
        all_goals
          go_wp2_with fail
          go_round
          case rel => exact ⟨0 + 1, X, by omega, by go_num, rfl, N.out, hX0, hX1⟩
          case measure => simp [intOf]; omega
      · obtain ⟨v1, v2, v3, v4, v5⟩ := drop_val (l := s.data.toList) (o := o) (k := k) (by omega) (by rw [HL.out]; exact hlt) HDg.out
        have e48 : (s.data.toList[k]'(by rw [HL.out]; exact hlt)) = s[k] := rfl
        rw [e48] at v1 v4 v5
        obtain ⟨Y, hY⟩ : ∃ Y, valL 0 ((s.data.toList.drop o).take (k + 1 - o)) = Y := ⟨_, rfl⟩
        rw [HX.out, hY] at v1
        rw [hY] at v3
        have b43 : ((s[k].toNat : Int) == 43) = false := by simp; omega
        have b45 : ((s[k].toNat : Int) == 45) = false := by simp; omega
        have v4' : (48 : Int) ≤ (s[k].toNat : Int) := by omega
        have v5' : (s[k].toNat : Int) ≤ 57 := by omega
        have eY : 10 * X + (s[k].toNat : Int) - 48 = Y := by omega
        have HY := Lib.hid hY
        have EY := Lib.hid eY
        have V3 := Lib.hid v3
        clear e48 v1 v3 v4 v5 hY eY
        go_wp2_with fail
        · rename_i hgt _
          rw [EY.out] at hgt
          go_ret2
          have hb : 2147483647 < valL 0 (bodyL s.data.toList) := by rw [HBo.out]; exact Int.lt_of_lt_of_le hgt V3.out
          exact ⟨ret_ints (by unfold intV; rw [if_pos hb]) (by unfold intE; rw [if_pos hb]), rfl⟩
        · go_round
          case rel => exact ⟨k + 1, _, by omega, by go_num, rfl, HY.out.trans EY.out.symm, by omega, by omega⟩
          case measure => simp [intOf]; omega
    · have ek : k = s.size := by omega
      subst ek
      have e0 : (s.data.toList.drop o).take (s.size - o) = s.data.toList.drop o := List.take_of_length_le (by rw [List.length_drop, HL.out]; exact Nat.le_refl _)
      have eX : valL 0 (bodyL s.data.toList) = X := by rw [HBo.out, ← HX.out, e0]
      have eI : intE s = 0 := by unfold intE; rw [if_neg (by omega)]
      have h00 : 0 < s.size := by omega
      have hm := minus_at s h00
      have EX := Lib.hid eX
      have EI := Lib.hid eI
      clear e0 eX eI
      by_cases h1 : s[0] = 45
      · have b1 : ((s[0].toNat : Int) == 45) = true := by rw [h1]; rfl
        have EV : Hid (intV s = -X) := Lib.hid (by
          rw [h1] at hm
          unfold intV intN
          rw [EX.out, if_neg (by omega), hm]; rfl)
        clear h1 hm
        go_wp2_with fail
        go_ret2
        exact ⟨ret_ints (by rw [EV.out]) (by rw [EI.out]), rfl⟩
      · have b1 : ((s[0].toNat : Int) == 45) = false := byte_isnt (n := 45) (by decide) h1
        have EV : Hid (intV s = X) := Lib.hid (by
          have hm' : minusL s.data.toList = false := by rw [hm]; simpa using h1
          unfold intV intN
          rw [EX.out, if_neg (by omega), hm']; rfl)
        clear h1 hm
        go_wp2_with fail
        go_ret2
        exact ⟨ret_ints (by rw [EV.out]) (by rw [EI.out]), rfl⟩

theorem whole_r (s : ByteArray) (w : World) (hs : s.size ≤ 4000000000) (hi : intL s.data.toList = true) :
    Calls Tryz.prog 104 #[.string s] w fun e w' => e = .returned (.tuple #[.int .i64 (intV s), .int .i64 (intE s)]) ∧ w = w' := by
  unfold intL at hi
  rw [Bool.and_eq_true] at hi
  obtain ⟨h1, h2⟩ := hi
  have hl : s.data.toList.length = s.size := by simp
  have hne : bodyL s.data.toList ≠ [] := by
    intro e
    rw [e] at h2
    cases h2
  have h0 : 0 < s.size := by
    rcases Nat.eq_zero_or_pos s.size with h | h
    · rw [List.eq_nil_of_length_eq_zero (hl.trans h)] at hne
      exact absurd rfl hne
    · exact h
  have hc := uns_cons h0
  by_cases hs1 : s[0] = 45 ∨ s[0] = 43
  · have hb : bodyL s.data.toList = s.data.toList.drop 1 := by
      conv => lhs; rw [hc]
      unfold bodyL
      rcases hs1 with h | h
      · simp [h]
      · simp [h]
    have h3 : 1 < s.size := by
      have : 0 < (s.data.toList.drop 1).length := List.length_pos_iff.2 (by rw [← hb]; exact hne)
      rw [List.length_drop, hl] at this
      omega
    exact whole_off s 1 w hs (Nat.le_refl _) h3 hb (by rw [← hb]; exact h1) (fun _ => hs1.symm)
  · have hb : bodyL s.data.toList = s.data.toList := by
      conv => lhs; rw [hc]
      unfold bodyL
      show (if s[0] = 45 then _ else if s[0] = 43 then _ else s[0] :: s.data.toList.drop 1) = _
      rw [if_neg (fun e => hs1 (.inl e)), if_neg (fun e => hs1 (.inr e))]
      exact hc.symm
    exact whole_off s 0 w hs (Nat.zero_le _) h0 hb (by rw [List.drop_zero, ← hb]; exact h1) (fun e => by cases e)
end Go.Proofs.YtdpbpdikgcepbaaGreatDoor
namespace Go.Proofs.YtdpbpdikgcepbaaGreatDoor
open Go.RowKit Oct Fix Lex

set_option maxHeartbeats 2000000 in
theorem long_int (s : ByteArray) (n c : Int) (w : World) (hi : ∀ W : World, Calls Tryz.prog 103 #[.string s] W fun e w' => e = .returned (.bool true) ∧ W = w')
    (hw : ∀ W : World, Calls Tryz.prog 104 #[.string s] W fun e w' => e = .returned (.tuple #[.int .i64 n, .int .i64 c]) ∧ W = w') :
    Calls Tryz.prog 102 #[.string s] w fun e w' => e = .returned (.tuple #[.agg #[.int .i64 1, .int .i64 0, .int .i64 0, .int .i64 n, .string ⟨#[]⟩], .int .i64 c]) ∧ Below w.heap.size w w' := by
  have HI := Lib.hid hi
  have HW := Lib.hid hw
  clear hi hw
  go_enter Tryz.func102, Tryz.ntmps102
  go_wp2_with fail
  refine (HI.out _).mono ?_
  rintro e w' ⟨rfl, rfl⟩
  go_wp2_with fail
  refine (HW.out _).mono ?_
  rintro e w' ⟨rfl, rfl⟩
  go_wp2_with fail
  exact bodyPost_ret (v := .tuple #[.agg #[.int .i64 1, .int .i64 0, .int .i64 0, .int .i64 n, .string ⟨#[]⟩], .int .i64 c]) (by simp [results, Tryz.results102, go_sem]) rfl ⟨rfl, below_tok _ _ _⟩
set_option maxHeartbeats 2000000 in
theorem long_no (s : ByteArray) (w : World) (hi : ∀ W : World, Calls Tryz.prog 103 #[.string s] W fun e w' => e = .returned (.bool false) ∧ W = w') :
    Calls Tryz.prog 102 #[.string s] w fun e w' => e = .returned (.tuple #[.agg #[.int .i64 0, .int .i64 0, .int .i64 0, .int .i64 0, .string ⟨#[]⟩], .int .i64 5]) ∧ Below w.heap.size w w' := by
  have HI := Lib.hid hi
  clear hi
  go_enter Tryz.func102, Tryz.ntmps102
  go_wp2_with fail
  refine (HI.out _).mono ?_
  rintro e w' ⟨rfl, rfl⟩
  go_wp2_with fail
  exact bodyPost_ret (v := .tuple #[.agg #[.int .i64 0, .int .i64 0, .int .i64 0, .int .i64 0, .string ⟨#[]⟩], .int .i64 5]) (by simp [results, Tryz.results102, go_sem]) rfl ⟨rfl, below_tok _ _ _⟩

set_option maxHeartbeats 2000000 in
theorem word_long_int (s : ByteArray) (n c : Int) (w : World) (hz : 508 < s.size) (hl : ∀ W : World, Calls Tryz.prog 102 #[.string s] W fun e w' => e = .returned (.tuple #[.agg #[.int .i64 1, .int .i64 0, .int .i64 0, .int .i64 n, .string ⟨#[]⟩], .int .i64 c]) ∧ Below W.heap.size W w') :
    Calls Tryz.prog 76 #[.string s] w fun e w' => e = .returned (.tuple #[.agg #[.int .i64 1, .int .i64 0, .int .i64 0, .int .i64 n, .string ⟨#[]⟩], .int .i64 c]) ∧ Below w.heap.size w w' := by
  have hz' : (508 : Int) < (s.size : Int) := by omega
  have HL := Lib.hid hl
  clear hl
  go_enter Tryz.func76, Tryz.ntmps76
  go_wp2_with fail
  refine (HL.out _).mono ?_
  rintro e w2 ⟨rfl, hb⟩
  simp at hb
  have hB := tok_cell hb
  have HB := Lib.hid (tok_below hb)
  have hg := HB.out.size
  have c0 := hB.cell 0
  have c1 := hB.cell 1
  have c2 := hB.cell 2
  have c3 := hB.cell 3
  have c4 := hB.cell 4
  have f0 := hB.frozen 0
  have f1 := hB.frozen 1
  have f2 := hB.frozen 2
  have f3 := hB.frozen 3
  have f4 := hB.frozen 4
  clear hb hB
  simp only [List.getElem?_toArray, List.getElem?_cons_zero, List.getElem?_cons_succ] at c0 c1 c2 c3 c4
  go_wp2_with fail
  exact bodyPost_ret (v := .tuple #[.agg #[.int .i64 1, .int .i64 0, .int .i64 0, .int .i64 n, .string ⟨#[]⟩], .int .i64 c]) (by simp [results, Tryz.results76, go_sem, c0, c1, c2, c3, c4]) rfl ⟨rfl, set_below (set_below (set_below (set_below (set_below HB.out _ _) _ _) _ _) _ _) _ _⟩

set_option maxHeartbeats 2000000 in
theorem word_long_no (s : ByteArray) (_n _c : Int) (w : World) (hz : 508 < s.size) (hl : ∀ W : World, Calls Tryz.prog 102 #[.string s] W fun e w' => e = .returned (.tuple #[.agg #[.int .i64 0, .int .i64 0, .int .i64 0, .int .i64 0, .string ⟨#[]⟩], .int .i64 5]) ∧ Below W.heap.size W w') :
    Calls Tryz.prog 76 #[.string s] w fun e w' => e = .returned (.tuple #[.agg #[.int .i64 0, .int .i64 0, .int .i64 0, .int .i64 0, .string ⟨#[]⟩], .int .i64 5]) ∧ Below w.heap.size w w' := by
  have hz' : (508 : Int) < (s.size : Int) := by omega
  have HL := Lib.hid hl
  clear hl
  go_enter Tryz.func76, Tryz.ntmps76
  go_wp2_with fail
  refine (HL.out _).mono ?_
  rintro e w2 ⟨rfl, hb⟩
  simp at hb
  have hB := tok_cell hb
  have HB := Lib.hid (tok_below hb)
  have hg := HB.out.size
  have c0 := hB.cell 0
  have c1 := hB.cell 1
  have c2 := hB.cell 2
  have c3 := hB.cell 3
  have c4 := hB.cell 4
  have f0 := hB.frozen 0
  have f1 := hB.frozen 1
  have f2 := hB.frozen 2
  have f3 := hB.frozen 3
  have f4 := hB.frozen 4
  clear hb hB
  simp only [List.getElem?_toArray, List.getElem?_cons_zero, List.getElem?_cons_succ] at c0 c1 c2 c3 c4
  go_wp2_with fail
  exact bodyPost_ret (v := .tuple #[.agg #[.int .i64 0, .int .i64 0, .int .i64 0, .int .i64 0, .string ⟨#[]⟩], .int .i64 5]) (by simp [results, Tryz.results76, go_sem, c0, c1, c2, c3, c4]) rfl ⟨rfl, set_below (set_below (set_below (set_below (set_below HB.out _ _) _ _) _ _) _ _) _ _⟩

set_option maxHeartbeats 2000000 in
theorem word_int (s : ByteArray) (n c : Int) (w : World) (hz : s.size ≤ 508) (hi : ∀ W : World, Calls Tryz.prog 103 #[.string s] W fun e w' => e = .returned (.bool true) ∧ W = w') (hw : ∀ W : World, Calls Tryz.prog 104 #[.string s] W fun e w' => e = .returned (.tuple #[.int .i64 n, .int .i64 c]) ∧ W = w') :
    Calls Tryz.prog 76 #[.string s] w fun e w' => e = .returned (.tuple #[.agg #[.int .i64 1, .int .i64 0, .int .i64 0, .int .i64 n, .string ⟨#[]⟩], .int .i64 c]) ∧ Below w.heap.size w w' := by
  have hz' : ¬ (508 : Int) < (s.size : Int) := by omega
  have HI := Lib.hid hi
  have HW := Lib.hid hw
  clear hi hw
  go_enter Tryz.func76, Tryz.ntmps76
  go_wp2_with fail
  refine (HI.out _).mono ?_
  rintro e w' ⟨rfl, rfl⟩
  go_wp2_with fail
  refine (HW.out _).mono ?_
  rintro e w' ⟨rfl, rfl⟩
  go_wp2_with fail
  exact bodyPost_ret (v := .tuple #[.agg #[.int .i64 1, .int .i64 0, .int .i64 0, .int .i64 n, .string ⟨#[]⟩], .int .i64 c]) (by simp [results, Tryz.results76, go_sem]) rfl ⟨rfl, below_tok _ _ _⟩

set_option maxHeartbeats 2000000 in
theorem word_real (s : ByteArray) (n _c : Int) (w : World) (hz : s.size ≤ 508) (hi : ∀ W : World, Calls Tryz.prog 103 #[.string s] W fun e w' => e = .returned (.bool false) ∧ W = w') (hp : ∀ W : World, Calls Tryz.prog 105 #[.string s] W fun e w' => e = .returned (.bool true) ∧ W = w') (hr : ∀ W : World, Calls Tryz.prog 106 #[.string s] W fun e w' => e = .returned (.tuple #[.int .i64 n, .int .i64 0]) ∧ W = w') :
    Calls Tryz.prog 76 #[.string s] w fun e w' => e = .returned (.tuple #[.agg #[.int .i64 2, .int .i64 0, .int .i64 0, .int .i64 n, .string ⟨#[]⟩], .int .i64 0]) ∧ Below w.heap.size w w' := by
  have hz' : ¬ (508 : Int) < (s.size : Int) := by omega
  have HI := Lib.hid hi
  have HP := Lib.hid hp
  have HR := Lib.hid hr
  clear hi hp hr
  go_enter Tryz.func76, Tryz.ntmps76
  go_wp2_with fail
  refine (HI.out _).mono ?_
  rintro e w' ⟨rfl, rfl⟩
  go_wp2_with fail
  refine (HP.out _).mono ?_
  rintro e w' ⟨rfl, rfl⟩
  go_wp2_with fail
  refine (HR.out _).mono ?_
  rintro e w' ⟨rfl, rfl⟩
  go_wp2_with fail
  exact bodyPost_ret (v := .tuple #[.agg #[.int .i64 2, .int .i64 0, .int .i64 0, .int .i64 n, .string ⟨#[]⟩], .int .i64 0]) (by simp [results, Tryz.results76, go_sem]) rfl ⟨rfl, below_tok _ _ _⟩

set_option maxHeartbeats 2000000 in
theorem word_realbad (s : ByteArray) (n _c : Int) (w : World) (hz : s.size ≤ 508) (hi : ∀ W : World, Calls Tryz.prog 103 #[.string s] W fun e w' => e = .returned (.bool false) ∧ W = w') (hp : ∀ W : World, Calls Tryz.prog 105 #[.string s] W fun e w' => e = .returned (.bool true) ∧ W = w') (hr : ∀ W : World, Calls Tryz.prog 106 #[.string s] W fun e w' => e = .returned (.tuple #[.int .i64 n, .int .i64 2]) ∧ W = w') :
    Calls Tryz.prog 76 #[.string s] w fun e w' => e = .returned (.tuple #[.agg #[.int .i64 2, .int .i64 0, .int .i64 0, .int .i64 n, .string ⟨#[]⟩], .int .i64 2]) ∧ Below w.heap.size w w' := by
  have hz' : ¬ (508 : Int) < (s.size : Int) := by omega
  have HI := Lib.hid hi
  have HP := Lib.hid hp
  have HR := Lib.hid hr
  clear hi hp hr
  go_enter Tryz.func76, Tryz.ntmps76
  go_wp2_with fail
  refine (HI.out _).mono ?_
  rintro e w' ⟨rfl, rfl⟩
  go_wp2_with fail
  refine (HP.out _).mono ?_
  rintro e w' ⟨rfl, rfl⟩
  go_wp2_with fail
  refine (HR.out _).mono ?_
  rintro e w' ⟨rfl, rfl⟩
  go_wp2_with fail
  exact bodyPost_ret (v := .tuple #[.agg #[.int .i64 2, .int .i64 0, .int .i64 0, .int .i64 n, .string ⟨#[]⟩], .int .i64 2]) (by simp [results, Tryz.results76, go_sem]) rfl ⟨rfl, below_tok _ _ _⟩

set_option maxHeartbeats 2000000 in
theorem word_pword (s : ByteArray) (n _c : Int) (w : World) (hz : s.size ≤ 508) (hk : s.size ≤ 127) (hi : ∀ W : World, Calls Tryz.prog 103 #[.string s] W fun e w' => e = .returned (.bool false) ∧ W = w') (hp : ∀ W : World, Calls Tryz.prog 105 #[.string s] W fun e w' => e = .returned (.bool true) ∧ W = w') (hr : ∀ W : World, Calls Tryz.prog 106 #[.string s] W fun e w' => e = .returned (.tuple #[.int .i64 n, .int .i64 3]) ∧ W = w') :
    Calls Tryz.prog 76 #[.string s] w fun e w' => e = .returned (.tuple #[.agg #[.int .i64 5, .int .i64 0, .int .i64 0, .int .i64 0, .string s], .int .i64 0]) ∧ Below w.heap.size w w' := by
  have hz' : ¬ (508 : Int) < (s.size : Int) := by omega
  have hk' : ¬ (127 : Int) < (s.size : Int) := by omega
  have HI := Lib.hid hi
  have HP := Lib.hid hp
  have HR := Lib.hid hr
  clear hi hp hr
  go_enter Tryz.func76, Tryz.ntmps76
  go_wp2_with fail
  refine (HI.out _).mono ?_
  rintro e w' ⟨rfl, rfl⟩
  go_wp2_with fail
  refine (HP.out _).mono ?_
  rintro e w' ⟨rfl, rfl⟩
  go_wp2_with fail
  refine (HR.out _).mono ?_
  rintro e w' ⟨rfl, rfl⟩
  go_wp2_with fail
  exact bodyPost_ret (v := .tuple #[.agg #[.int .i64 5, .int .i64 0, .int .i64 0, .int .i64 0, .string s], .int .i64 0]) (by simp [results, Tryz.results76, go_sem]) rfl ⟨rfl, below_tok _ _ _⟩

set_option maxHeartbeats 2000000 in
theorem word_plong (s : ByteArray) (n _c : Int) (w : World) (hz : s.size ≤ 508) (hk : 127 < s.size) (hi : ∀ W : World, Calls Tryz.prog 103 #[.string s] W fun e w' => e = .returned (.bool false) ∧ W = w') (hp : ∀ W : World, Calls Tryz.prog 105 #[.string s] W fun e w' => e = .returned (.bool true) ∧ W = w') (hr : ∀ W : World, Calls Tryz.prog 106 #[.string s] W fun e w' => e = .returned (.tuple #[.int .i64 n, .int .i64 3]) ∧ W = w') :
    Calls Tryz.prog 76 #[.string s] w fun e w' => e = .returned (.tuple #[.agg #[.int .i64 0, .int .i64 0, .int .i64 0, .int .i64 0, .string ⟨#[]⟩], .int .i64 5]) ∧ Below w.heap.size w w' := by
  have hz' : ¬ (508 : Int) < (s.size : Int) := by omega
  have hk' : (127 : Int) < (s.size : Int) := by omega
  have HI := Lib.hid hi
  have HP := Lib.hid hp
  have HR := Lib.hid hr
  clear hi hp hr
  go_enter Tryz.func76, Tryz.ntmps76
  go_wp2_with fail
  refine (HI.out _).mono ?_
  rintro e w' ⟨rfl, rfl⟩
  go_wp2_with fail
  refine (HP.out _).mono ?_
  rintro e w' ⟨rfl, rfl⟩
  go_wp2_with fail
  refine (HR.out _).mono ?_
  rintro e w' ⟨rfl, rfl⟩
  go_wp2_with fail
  exact bodyPost_ret (v := .tuple #[.agg #[.int .i64 0, .int .i64 0, .int .i64 0, .int .i64 0, .string ⟨#[]⟩], .int .i64 5]) (by simp [results, Tryz.results76, go_sem]) rfl ⟨rfl, below_tok _ _ _⟩

set_option maxHeartbeats 2000000 in
theorem word_word (s : ByteArray) (_n _c : Int) (w : World) (hz : s.size ≤ 508) (hk : s.size ≤ 127) (hi : ∀ W : World, Calls Tryz.prog 103 #[.string s] W fun e w' => e = .returned (.bool false) ∧ W = w') (hp : ∀ W : World, Calls Tryz.prog 105 #[.string s] W fun e w' => e = .returned (.bool false) ∧ W = w') :
    Calls Tryz.prog 76 #[.string s] w fun e w' => e = .returned (.tuple #[.agg #[.int .i64 5, .int .i64 0, .int .i64 0, .int .i64 0, .string s], .int .i64 0]) ∧ Below w.heap.size w w' := by
  have hz' : ¬ (508 : Int) < (s.size : Int) := by omega
  have hk' : ¬ (127 : Int) < (s.size : Int) := by omega
  have HI := Lib.hid hi
  have HP := Lib.hid hp
  clear hi hp
  go_enter Tryz.func76, Tryz.ntmps76
  go_wp2_with fail
  refine (HI.out _).mono ?_
  rintro e w' ⟨rfl, rfl⟩
  go_wp2_with fail
  refine (HP.out _).mono ?_
  rintro e w' ⟨rfl, rfl⟩
  go_wp2_with fail
  exact bodyPost_ret (v := .tuple #[.agg #[.int .i64 5, .int .i64 0, .int .i64 0, .int .i64 0, .string s], .int .i64 0]) (by simp [results, Tryz.results76, go_sem]) rfl ⟨rfl, below_tok _ _ _⟩

set_option maxHeartbeats 2000000 in
theorem word_long (s : ByteArray) (_n _c : Int) (w : World) (hz : s.size ≤ 508) (hk : 127 < s.size) (hi : ∀ W : World, Calls Tryz.prog 103 #[.string s] W fun e w' => e = .returned (.bool false) ∧ W = w') (hp : ∀ W : World, Calls Tryz.prog 105 #[.string s] W fun e w' => e = .returned (.bool false) ∧ W = w') :
    Calls Tryz.prog 76 #[.string s] w fun e w' => e = .returned (.tuple #[.agg #[.int .i64 0, .int .i64 0, .int .i64 0, .int .i64 0, .string ⟨#[]⟩], .int .i64 5]) ∧ Below w.heap.size w w' := by
  have hz' : ¬ (508 : Int) < (s.size : Int) := by omega
  have hk' : (127 : Int) < (s.size : Int) := by omega
  have HI := Lib.hid hi
  have HP := Lib.hid hp
  clear hi hp
  go_enter Tryz.func76, Tryz.ntmps76
  go_wp2_with fail
  refine (HI.out _).mono ?_
  rintro e w' ⟨rfl, rfl⟩
  go_wp2_with fail
  refine (HP.out _).mono ?_
  rintro e w' ⟨rfl, rfl⟩
  go_wp2_with fail
  exact bodyPost_ret (v := .tuple #[.agg #[.int .i64 0, .int .i64 0, .int .i64 0, .int .i64 0, .string ⟨#[]⟩], .int .i64 5]) (by simp [results, Tryz.results76, go_sem]) rfl ⟨rfl, below_tok _ _ _⟩

/-- What word answers: the run's reading, or its error with a token that nobody reads. -/
def WordEnd (s : ByteArray) (R : TR) : Prop :=
  ∃ (k n : Int) (b : ByteArray), (R.err = 0 → k = R.kind ∧ n = R.num ∧ b.data.toList = R.txt) ∧ ∀ w : World, Calls Tryz.prog 76 #[.string s] w fun e w' => e = .returned (.tuple #[.agg #[.int .i64 k, .int .i64 0, .int .i64 0, .int .i64 n, .string b], .int .i64 R.err]) ∧ Below w.heap.size w w'
theorem wordEnd_ok {s : ByteArray} {R : TR} {k n : Int} {m : Nat} {b : ByteArray} (hR : R = ⟨0, k, m, n, b.data.toList⟩)
    (h : ∀ w : World, Calls Tryz.prog 76 #[.string s] w fun e w' => e = .returned (.tuple #[.agg #[.int .i64 k, .int .i64 0, .int .i64 0, .int .i64 n, .string b], .int .i64 0]) ∧ Below w.heap.size w w') : WordEnd s R := by
  subst hR
  exact ⟨k, n, b, fun _ => ⟨rfl, rfl, rfl⟩, h⟩
theorem wordEnd_bad {s : ByteArray} {R : TR} {k n c : Int} {b : ByteArray} (hR : R = bad c) (hc : c ≠ 0)
    (h : ∀ w : World, Calls Tryz.prog 76 #[.string s] w fun e w' => e = .returned (.tuple #[.agg #[.int .i64 k, .int .i64 0, .int .i64 0, .int .i64 n, .string b], .int .i64 c]) ∧ Below w.heap.size w w') : WordEnd s R := by
  subst hR
  exact ⟨k, n, b, fun h => absurd h hc, h⟩
theorem good_short {l : List UInt8} (h : 508 < l.length) : goodR l = false := by
  unfold goodR
  rw [decide_eq_false (by omega), Bool.false_and]

theorem word_r (s : ByteArray) (R : TR) (hs : s.size ≤ 4000000000) (hR : wordU s.data.toList = R) : WordEnd s R := by
  have hl : s.data.toList.length = s.size := by simp
  have hi := fun W : World => integer_r s W hs
  have hw := fun (h : intL s.data.toList = true) (W : World) => whole_r s W hs h
  have hp := fun W : World => point_r s W hs
  have hr : ∀ W : World, Calls Tryz.prog 106 #[.string s] W fun e w' => e = .returned (.tuple #[.int .i64 (readN s.data.toList), .int .i64 (readE s.data.toList)]) ∧ W = w' := fun W => (readR_any s W).mono fun _ _ h => h
  unfold wordU at hR
  by_cases h1 : intL s.data.toList = true
  · rw [if_pos h1] at hR
    have hw := hw h1
    simp only [h1] at hi
    unfold intV intE at hw
    by_cases h2 : 2147483647 < valL 0 (bodyL s.data.toList)
    · rw [if_pos h2] at hR
      simp only [if_pos h2] at hw
      by_cases hz : s.size ≤ 508
      · exact wordEnd_bad hR.symm (by decide) fun w => word_int s 0 2 w hz hi hw
      · exact wordEnd_bad hR.symm (by decide) fun w => word_long_int s 0 2 w (by omega) fun W => long_int s 0 2 W hi hw
    · rw [if_neg h2] at hR
      simp only [if_neg h2] at hw
      by_cases hz : s.size ≤ 508
      · exact wordEnd_ok (m := s.data.toList.length) (b := ⟨#[]⟩) hR.symm fun w => word_int s _ 0 w hz hi hw
      · exact wordEnd_ok (m := s.data.toList.length) (b := ⟨#[]⟩) hR.symm fun w => word_long_int s _ 0 w (by omega) fun W => long_int s _ 0 W hi hw
  · rw [if_neg h1] at hR
    have h1' : intL s.data.toList = false := by simpa using h1
    simp only [h1'] at hi
    by_cases hz : s.size ≤ 508
    · by_cases h2 : s.data.toList.contains 46 = true
      · unfold hasPoint at hp
        simp only [h2] at hp
        rw [h2] at hR
        have e3 : readE s.data.toList = 0 ∨ readE s.data.toList = 2 ∨ readE s.data.toList = 3 := by
          unfold readE
          repeat' split
          all_goals simp
        rcases e3 with e3 | e3 | e3
        · rw [if_pos (by simp [e3])] at hR
          exact wordEnd_ok (m := s.data.toList.length) (b := ⟨#[]⟩) hR.symm fun w => word_real s _ 0 w hz hi hp (by simpa only [e3] using hr)
        · rw [if_neg (by simp [e3]), if_pos (by simp [e3])] at hR
          exact wordEnd_bad hR.symm (by decide) fun w => word_realbad s _ 0 w hz hi hp (by simpa only [e3] using hr)
        · rw [if_neg (by simp [e3]), if_neg (by simp [e3])] at hR
          by_cases h4 : 127 < s.data.toList.length
          · rw [if_pos h4] at hR
            exact wordEnd_bad hR.symm (by decide) fun w => word_plong s _ 0 w hz (by omega) hi hp (by simpa only [e3] using hr)
          · rw [if_neg h4] at hR
            exact wordEnd_ok (m := s.data.toList.length) hR.symm fun w => word_pword s _ 0 w hz (by omega) hi hp (by simpa only [e3] using hr)
      · have h2' : s.data.toList.contains 46 = false := by simpa using h2
        unfold hasPoint at hp
        simp only [h2'] at hp
        rw [h2', if_neg (by simp), if_neg (by simp)] at hR
        by_cases h4 : 127 < s.data.toList.length
        · rw [if_pos h4] at hR
          exact wordEnd_bad hR.symm (by decide) fun w => word_long s 0 0 w hz (by omega) hi hp
        · rw [if_neg h4] at hR
          exact wordEnd_ok (m := s.data.toList.length) hR.symm fun w => word_word s 0 0 w hz (by omega) hi hp
    · have e3 : readE s.data.toList = 3 := by unfold readE; rw [if_neg (by rw [good_short (by omega)]; decide)]
      rw [if_neg (by simp [e3]), if_neg (by simp [e3]), if_pos (by omega)] at hR
      exact wordEnd_bad hR.symm (by decide) fun w => word_long_no s 0 0 w (by omega) fun W => long_no s W hi
end Go.Proofs.YtdpbpdikgcepbaaGreatDoor
namespace Go.Proofs.YtdpbpdikgcepbaaGreatDoor
open Go.RowKit Oct Fix Lex

set_option maxRecDepth 100000 in
set_option maxHeartbeats 4000000 in
theorem name_r (s : ByteArray) (w : World) (hs : s.size ≤ 4000000000) :
    Calls Tryz.prog 73 #[.string s] w fun e w' => e = .returned (.tuple #[.string (decT s), .int .i64 (decE s)]) ∧ Below w.heap.size w w' := by
  obtain ⟨i5, hi, hz0, hz1, hz2⟩ := info_parts info5
  have hsl : s.data.toList.length = s.size := by simp
  have HSL := Lib.hid hsl
  clear hsl
  go_enter Tryz.func73, Tryz.ntmps73
  go_wp2_with fail
  go_loopw [4, 5] (fun v i wr => ∃ (k : Nat) (out : List UInt8) (A : Option Addr) (C : Nat), k ≤ s.size ∧ i = .int .i64 k ∧ v = .slice A out.length C ∧ DecAt s.data.toList k out ∧ wr.ownsRow w.heap.size 5 1 (.slice A out.length C) out.length (cellsOf out) ∧ Below w.heap.size w wr) (fun _ i _ => s.size - (intOf i).toNat)
  case atStart => exact ⟨0, [], none, 0, by omega, rfl, rfl, DecAt.zero _, World.ownsRow_nil _ _ _ _, Below.refl _ _⟩
  case round =>
    obtain ⟨k, out, A, C, hk, rfl, rfl, hd, hown, hb⟩ := hrel
    have hol := hd.2
    have HD := Lib.hid hd
    have HO := Lib.hid hown
    have HB := Lib.hid hb
    have hbs := hb.size
    clear hd hown hb
    by_cases hlt : k < s.size
    · by_cases hc : s[k] = 35
      · have b35 : ((s[k].toNat : Int) == 35) = true := by rw [hc]; rfl
        by_cases hl : k + 2 < s.size
        · have b1 : k + 1 < s.size := by omega
          have l1 : ¬ (s.size : Int) ≤ (k : Int) + 2 := by omega
          have p1 : (0 : Int) ≤ (k : Int) + 1 := by omega
          have p2 : (k : Int) + 1 < (s.size : Int) := by omega
          have p3 : (0 : Int) ≤ (k : Int) + 2 := by omega
          have p4 : (k : Int) + 2 < (s.size : Int) := by omega
          have g1 := digit_le s[k + 1]
          have g2 := digit_le s[k + 2]
          have HC := Lib.hid hc
          have hw1 : IntKind.i64.wrap ((k : Int) + 1) = (k : Int) + 1 := IntWalk.i64_in _ (by omega)
          have hw2 : IntKind.i64.wrap ((k : Int) + 2) = (k : Int) + 2 := IntWalk.i64_in _ (by omega)
          have ht1 : ((k : Int) + 1).toNat = k + 1 := by omega
          have ht2 : ((k : Int) + 2).toNat = k + 2 := by omega
          by_cases hp : HashOk s[k + 1] s[k + 2]
          · obtain ⟨q1, q2, q3⟩ := hp
            have q3' : (16 * digitS s[k + 1] + digitS s[k + 2] == 0) = false := by simpa using q3
            have N : Hid (DecAt s.data.toList (k + 3) (out ++ [pairByte s[k + 1] s[k + 2]])) := Lib.hid (HD.out.hash (by rw [HSL.out]; exact hl) HC.out ⟨q1, q2, q3⟩)
            have hpi := pairByte_int s[k + 1] s[k + 2] q1 q2
            have HPI := Lib.hid hpi
            clear hc q3 hpi
            go_wp2_with fail
            go_quiet ((go_at_call 99; exact Calls.quiet_of_same (digit_rq _ _)))
            clear hw1 hw2
            have ho2 : Hid ((wr.drewN nq).ownsRow w.heap.size 5 1 (.slice A out.length C) out.length (cellsOf out)) := HO
            go_wp2_with (first | (at_builtin; refine wpList_append_own _ rfl _ _ 60 rfl w.heap.size 5 i5 (.int .u8 0) 1 1 Tryz.underlying60 hi hz0 hz1 hz2 rfl (by decide) _ _ _ rfl (ho2.out.alloc _) ⟨wr.heap.size, 0, none⟩ 1 1 [.int .u8 (16 * digitS s[k + 1] + digitS s[k + 2])] rfl rfl (World.news_of_block (heap_alloc_new (wr.drewN nq) _)) (by simp [Value.oneCell']) (by unfold maxLen; omega) (by omega) (by simp; omega) ?_))
            intro v3 w3 hown3 hgrow3
            intros
            obtain ⟨A3, C3, rfl⟩ := own_form hown3
            go_wp2
            go_roundw
            case rel => exact ⟨k + 3, out ++ [pairByte s[k + 1] s[k + 2]], A3, C3, by omega, by go_num, by simp, N.out, by rw [← cells_snoc, List.length_append, HPI.out]; exact hown3, ((below_drewN HB.out nq).alloc (by simpa using hbs) _).grown hgrow3 (by simp; omega) (fun g h => (HO.out.lt g h).1)⟩
            case measure => simp [intOf]; omega
          · have E := Lib.hid (dec_none (s := s) (HD.out.bad (by rw [HSL.out]; exact hl) HC.out hp))
            unfold HashOk at hp
            clear hc
            by_cases n1 : digitS s[k + 1] < 0
            · clear hp
              go_wp2_with fail
              go_quiet ((go_at_call 99; exact Calls.quiet_of_same (digit_rq _ _)))
              clear hw1 hw2
              go_wp2_with fail
              go_ret2
              exact ⟨ret_two E.out.1.symm E.out.2.symm, below_drewN HB.out _⟩
            · by_cases n2 : digitS s[k + 2] < 0
              · clear hp
                go_wp2_with fail
                go_quiet ((go_at_call 99; exact Calls.quiet_of_same (digit_rq _ _)))
                clear hw1 hw2
                go_wp2_with fail
                go_ret2
                exact ⟨ret_two E.out.1.symm E.out.2.symm, below_drewN HB.out _⟩
              · have q3 : (16 * digitS s[k + 1] + digitS s[k + 2] == 0) = true := by
                  have : ¬ ¬ 16 * digitS s[k + 1] + digitS s[k + 2] = 0 := fun h => hp ⟨by omega, by omega, h⟩
                  simpa using this
                clear hp
                go_wp2_with fail
                go_quiet ((go_at_call 99; exact Calls.quiet_of_same (digit_rq _ _)))
                clear hw1 hw2
                go_wp2_with fail
                go_ret2
                exact ⟨ret_two E.out.1.symm E.out.2.symm, below_drewN HB.out _⟩
        · have l1 : (s.size : Int) ≤ (k : Int) + 2 := by omega
          have E := Lib.hid (dec_none (s := s) (HD.out.short (by rw [HSL.out]; exact hlt) hc (by rw [HSL.out]; exact hl)))
          clear hc
          go_wp2_with fail
          go_ret2
          exact ⟨ret_two E.out.1.symm E.out.2.symm, HB.out⟩
      · have b35 : ((s[k].toNat : Int) == 35) = false := byte_isnt (n := 35) (by decide) hc
        have N : Hid (DecAt s.data.toList (k + 1) (out ++ [s[k]])) := Lib.hid (HD.out.plain (by rw [HSL.out]; exact hlt) hc)
        clear hc
        go_wp2_with (first | (at_builtin; refine wpList_append_own _ rfl _ _ 60 rfl w.heap.size 5 i5 (.int .u8 0) 1 1 Tryz.underlying60 hi hz0 hz1 hz2 rfl (by decide) _ _ _ rfl (HO.out.alloc _) ⟨wr.heap.size, 0, none⟩ 1 1 [.int .u8 (s[k].toNat : Int)] rfl rfl (World.news_of_block (heap_alloc_new wr _)) (by simp [Value.oneCell']) (by unfold maxLen; omega) (by omega) (by simp; omega) ?_))
        intro v3 w3 hown3 hgrow3
        intros
        obtain ⟨A3, C3, rfl⟩ := own_form hown3
        go_wp2
        go_roundw
        case rel => exact ⟨k + 1, out ++ [s[k]], A3, C3, by omega, by go_num, by simp, N.out, by rw [← cells_snoc, List.length_append]; exact hown3, (HB.out.alloc (by omega) _).grown hgrow3 (by simp; omega) (fun g h => (HO.out.lt g h).1)⟩
        case measure => simp [intOf]; omega
    · have E := HD.out.done (by rw [HSL.out]; omega)
      by_cases hl : 127 < out.length
      · have l1 : (127 : Int) < (out.length : Int) := by omega
        have E2 := Lib.hid (dec_long (s := s) E hl)
        clear E
        go_wp2_with fail
        go_ret2
        exact ⟨ret_two E2.out.1.symm E2.out.2.symm, HB.out⟩
      · have l1 : ¬ (127 : Int) < (out.length : Int) := by omega
        have E2 := Lib.hid (dec_some (s := s) E hl)
        have hconv := run_string_of_own HO.out rfl
        clear E
        go_wp2_with fail
        go_ret2
        exact ⟨ret_two E2.out.1.symm E2.out.2.symm, HB.out⟩
end Go.Proofs.YtdpbpdikgcepbaaGreatDoor
namespace Go.Proofs.YtdpbpdikgcepbaaGreatDoor
open Go.RowKit Oct Fix Lex

/-- What hex and text answer: the text, the place behind it, the error. -/
def TxtEnd (a : Nat) (R : TR) (w : World) (e : Ending) (w' : World) : Prop := e = .returned (.tuple #[.string (tS R), .int .i64 (tT a R), .int .i64 R.err]) ∧ Below w.heap.size w w'
theorem txt_ok {a n : Nat} {R : TR} {b : ByteArray} {t : Int} {w w' : World} {k m : Int} (hR : R = ⟨0, k, n, m, b.data.toList⟩) (ht : t = ((a + n : Nat) : Int)) (hb : Below w.heap.size w w') : TxtEnd a R w (.returned (.tuple #[.string b, .int .i64 t, .int .i64 0])) w' := by
  subst hR ht
  exact ⟨rfl, hb⟩
theorem txt_bad {a : Nat} {R : TR} {c : Int} {w w' : World} (hR : R = bad c) (hc : c ≠ 0) (hb : Below w.heap.size w w') : TxtEnd a R w (.returned (.tuple #[.string ⟨#[]⟩, .int .i64 0, .int .i64 c])) w' := by
  subst hR
  refine ⟨?_, hb⟩
  unfold tT tS bad
  rw [if_neg hc]
theorem strR_ok {n : Nat} {x : List UInt8} (h : ¬ 32767 < x.length) : strR n x = ⟨0, 3, n, 0, x⟩ := by unfold strR; rw [if_neg h]
theorem strR_long {n : Nat} {x : List UInt8} (h : 32767 < x.length) : strR n x = bad 5 := by unfold strR; rw [if_pos h]

theorem unhex_rc (s t : ByteArray) (c : Int) (w : World) (hs : s.size ≤ 4000000000) (h : unhexT s = t) (hc : unhexE s = c) :
    Calls Tryz.prog 101 #[.string s] w fun e w' => e = .returned (.tuple #[.string t, .int .i64 c]) ∧ Below w.heap.size w w' := h ▸ hc ▸ unhex_r s w hs

set_option maxRecDepth 100000 in
set_option maxHeartbeats 8000000 in
theorem hex_rany (s : ByteArray) (a : Nat) (b : Int) (R : TR) (w : World) (h : a < s.size) (hs : s.size ≤ 3000000000) (hb : b = (a : Int) + 1) (hR : hexR (s.data.toList.drop (a + 1)) = R) :
    Calls Tryz.prog 75 #[.string s, .int .i64 b] w (TxtEnd a R w) := by
  subst hb
  obtain ⟨i5, hi, hz0, hz1, hz2⟩ := info_parts info5
  have HR := Lib.hid hR
  clear hR
  go_enter Tryz.func75, Tryz.ntmps75
  go_wp2_with fail
  go_loopw [1, 7] (fun i v wr => ∃ (k p : Nat) (out : List UInt8) (A : Option Addr) (C : Nat), a + 1 + k = p ∧ p ≤ s.size ∧ i = .int .i64 (p : Int) ∧ v = .slice A out.length C ∧ HexAt (s.data.toList.drop (a + 1)) k out ∧ out.length ≤ k ∧ wr.ownsRow w.heap.size 5 1 (.slice A out.length C) out.length (cellsOf out) ∧ Below w.heap.size w wr) (fun i _ _ => s.size - (intOf i).toNat)
  case atStart => exact ⟨0, a + 1, [], none, 0, by omega, by omega, by go_num, rfl, HexAt.zero _, Nat.le_refl _, World.ownsRow_nil _ _ _ _, Below.refl _ _⟩
  case round =>
    obtain ⟨k, p, out, A, C, hp, hk, rfl, rfl, hd, hol, hown, hb⟩ := hrel
    have hkp : k ≤ p := by omega
    have hap : a + 1 ≤ p := by omega
    have hbs := hb.size
    have HD := Lib.hid hd
    have HO := Lib.hid hown
    have HP := Lib.hid hp
    have HB := Lib.hid hb
    clear hd hown hb hp
    by_cases hlt : p < s.size
    · obtain ⟨d1, d2, d3⟩ := drop_p HP.out hlt
      by_cases hc : s[p] = 62
      · have b62 : ((s[p].toNat : Int) != 62) = false := by rw [hc]; rfl
        have E := HD.out.stop d1 (by rw [d2]; exact hc)
        obtain ⟨x, hx⟩ := unhex_some (evenL out) (even_dig HD.out.2) (even_even out)
        have hr := (hexR_some E hx).symm.trans HR.out
        have xl := unhexS_even _ _ hx
        by_cases hm : out.length % 2 = 0
        · rw [evenL_even hm] at hx xl
          obtain ⟨u1, u2⟩ := unhexE_some (s := ⟨out.toArray⟩) (l := x) hx
          have bq : ((out.length : Int) % 2 != 0) = false := by simp; omega
          have hconv := run_string_of_own HO.out rfl
          have hes : (⟨out.toArray⟩ : ByteArray).size ≤ 4000000000 := by show out.length ≤ _; omega
          have HES := Lib.hid hes
          obtain ⟨X, hX⟩ : ∃ X : ByteArray, (⟨x.toArray⟩ : ByteArray) = X := ⟨_, rfl⟩
          have hXl : X.data.toList = x := by rw [← hX]
          have hXs : X.size = x.length := by rw [← hX]; rfl
          rw [hX] at u1
          have U1 := Lib.hid u1
          have U2 := Lib.hid u2
          by_cases hlx : 32767 < x.length
          · have l1 : (32767 : Int) < (X.size : Int) := by omega
            have hr2 := Lib.hid (hr.symm.trans (strR_long hlx))
            clear d2 d3 hc E hx hr xl hm u1 u2 hes hX hXl hXs
            go_wp2_with fail
            refine (unhex_rc _ X 0 _ HES.out U1.out U2.out).mono ?_
            rintro e w2 ⟨rfl, hb2⟩
            have HB2 := Lib.hid (HB.out.trans (hb2.mono hbs))
            clear hb2 hconv
            go_wp2_with fail
            go_ret3
            exact txt_bad hr2.out (by decide) HB2.out
          · have l1 : ¬ (32767 : Int) < (X.size : Int) := by omega
            have hr2 := Lib.hid (hr.symm.trans (strR_ok hlx))
            have HXL := Lib.hid hXl
            clear d2 d3 hc E hx hr xl hm u1 u2 hes hX hXl hXs
            go_wp2_with fail
            refine (unhex_rc _ X 0 _ HES.out U1.out U2.out).mono ?_
            rintro e w2 ⟨rfl, hb2⟩
            have HB2 := Lib.hid (HB.out.trans (hb2.mono hbs))
            clear hb2 hconv
            go_wp2_with fail
            go_ret3
            exact txt_ok (n := 1 + (k + 1)) (by rw [HXL.out]; exact hr2.out) (by have := HP.out; omega) HB2.out
        · rw [evenL_odd (by omega)] at hx xl
          obtain ⟨u1, u2⟩ := unhexE_some (s := ⟨(out ++ [48]).toArray⟩) (l := x) hx
          have bq : ((out.length : Int) % 2 != 0) = true := by simp; omega
          have hes : (⟨(out ++ [48]).toArray⟩ : ByteArray).size ≤ 4000000000 := by
            show (out ++ [48]).length ≤ _
            rw [List.length_append]
            show out.length + 1 ≤ _
            omega
          have HES := Lib.hid hes
          obtain ⟨X, hX⟩ : ∃ X : ByteArray, (⟨x.toArray⟩ : ByteArray) = X := ⟨_, rfl⟩
          have hXl : X.data.toList = x := by rw [← hX]
          have hXs : X.size = x.length := by rw [← hX]; rfl
          rw [hX] at u1
          have U1 := Lib.hid u1
          have U2 := Lib.hid u2
          have l1 : (32767 : Int) < (X.size : Int) ∨ ¬ (32767 : Int) < (X.size : Int) := by omega
          have hr2 := Lib.hid hr
          have HXL := Lib.hid hXl
          have HXS := Lib.hid hXs
          clear d2 d3 hc E hx hr xl hm u1 u2 hes hX hXl hXs
          rcases l1 with l1 | l1
          all_goals
            go_wp2_with (first | (at_builtin; refine wpList_append_own _ rfl _ _ 60 rfl w.heap.size 5 i5 (.int .u8 0) 1 1 Tryz.underlying60 hi hz0 hz1 hz2 rfl (by decide) _ _ _ rfl (HO.out.alloc _) ⟨wr.heap.size, 0, none⟩ 1 1 [.int .u8 48] rfl rfl (World.news_of_block (heap_alloc_new wr _)) (by simp [Value.oneCell']) (by unfold maxLen; omega) (by omega) (by simp; omega) ?_))
            intro v3 w3 hown3 hgrow3
            intros
            obtain ⟨A3, C3, rfl⟩ := own_form hown3
            have hconv := run_string_of_own (l := out ++ [48]) (by rw [← cells_snoc]; exact hown3) (by simp)
            have hb3 := (HB.out.alloc (by omega) (.cells #[.int .u8 48] 5)).grown hgrow3 (by simp; omega) (fun g h => (HO.out.lt g h).1)
            have hbs3 := hb3.size
            have HB3 := Lib.hid hb3
            clear hown3 hgrow3 hb3
            go_wp2_with fail
            refine (unhex_rc _ X 0 _ HES.out U1.out U2.out).mono ?_
            rintro e w4 ⟨rfl, hb4⟩
            have HB4 := Lib.hid (HB3.out.trans (hb4.mono hbs3))
            clear hb4 hconv
            go_wp2_with fail
            go_ret3
            first
            | exact txt_bad (hr2.out.symm.trans (strR_long (by have := HXS.out; omega))) (by decide) HB4.out
            | exact txt_ok (n := 1 + (k + 1)) (by rw [HXL.out]; exact hr2.out.symm.trans (strR_ok (by have := HXS.out; omega))) (by have := HP.out; omega) HB4.out
      · have b62 : ((s[p].toNat : Int) != 62) = true := by have e62 : ((s[p].toNat : Int) == 62) = false := byte_isnt (n := 62) (by decide) hc; simp only [bne]; rw [e62]; rfl
        by_cases hdg : 0 ≤ digitS s[p]
        · have N : Hid (HexAt (s.data.toList.drop (a + 1)) (k + 1) (out ++ [s[p]])) := Lib.hid (by rw [← d2]; exact HD.out.dig d1 (by rw [d2]; exact hc) (by rw [d2]; exact hdg))
          clear d2 d3 hc
          go_wp2_with (first | (go_at_call 99; refine (digit_r _ _).mono ?_; rintro e w' ⟨rfl, rfl⟩) | (first | (at_builtin; refine wpList_append_own _ rfl _ _ 60 rfl w.heap.size 5 i5 (.int .u8 0) 1 1 Tryz.underlying60 hi hz0 hz1 hz2 rfl (by decide) _ _ _ rfl (HO.out.alloc _) ⟨wr.heap.size, 0, none⟩ 1 1 [.int .u8 (s[p].toNat : Int)] rfl rfl (World.news_of_block (heap_alloc_new wr _)) (by simp [Value.oneCell']) (by unfold maxLen; omega) (by omega) (by simp; omega) ?_)))
          intro v3 w3 hown3 hgrow3
          intros
          obtain ⟨A3, C3, rfl⟩ := own_form hown3
          go_wp2
          go_roundw
          case rel => exact ⟨k + 1, p + 1, out ++ [s[p]], A3, C3, by have := HP.out; omega, by omega, by go_num, by simp, N.out, by simp; omega, by rw [← cells_snoc, List.length_append]; exact hown3, (HB.out.alloc (by omega) _).grown hgrow3 (by simp; omega) (fun g h => (HO.out.lt g h).1)⟩
          case measure => simp [intOf]; omega
        · by_cases hw : whiteS s[p] = true
          · have N : Hid (HexAt (s.data.toList.drop (a + 1)) (k + 1) out) := Lib.hid (HD.out.white d1 (by rw [d2]; exact hc) (by rw [d2]; exact hdg) (by rw [d2]; exact hw))
            clear d2 d3 hc
            go_wp2_with (first | (go_at_call 99; refine (digit_r _ _).mono ?_; rintro e w' ⟨rfl, rfl⟩) | (go_at_call 71; refine (white_r _ _).mono ?_; rintro e w' ⟨rfl, rfl⟩))
            go_roundw
            case rel => exact ⟨k + 1, p + 1, out, A, C, by have := HP.out; omega, by omega, by go_num, rfl, N.out, by omega, HO.out, HB.out⟩
            case measure => simp [intOf]; omega
          · have hw' : whiteS s[p] = false := by simpa using hw
            have E := HD.out.bad d1 (by rw [d2]; exact hc) (by rw [d2]; exact hdg) (by rw [d2]; exact hw)
            have hr := Lib.hid ((hexR_err E (by decide)).symm.trans HR.out)
            clear d2 d3 hc hw E
            go_wp2_with (first | (go_at_call 99; refine (digit_r _ _).mono ?_; rintro e w' ⟨rfl, rfl⟩) | (go_at_call 71; refine (white_r _ _).mono ?_; rintro e w' ⟨rfl, rfl⟩))
            go_ret3
            exact txt_bad hr.out.symm (by decide) HB.out
    · have E := HD.out.done (drop_len HP.out hlt)
      have hr := Lib.hid ((hexR_err E (by decide)).symm.trans HR.out)
      clear E
      go_wp2_with fail
      go_ret3
      exact txt_bad hr.out.symm (by decide) HB.out
end Go.Proofs.YtdpbpdikgcepbaaGreatDoor
namespace Go.Proofs.YtdpbpdikgcepbaaGreatDoor
open Go.RowKit Oct Fix Lex

def escB (s : ByteArray) (a : Nat) : ByteArray := ⟨(escL (s.data.toList.drop a)).1.toArray⟩
def escP (s : ByteArray) (a : Nat) : Nat := a + (escL (s.data.toList.drop a)).2
def EscEnd (s : ByteArray) (a : Nat) (w : World) (e : Ending) (w' : World) : Prop := e = .returned (.tuple #[.string (escB s a), .int .i64 (escP s a : Int)]) ∧ Below w.heap.size w w'
theorem esc_end {s b : ByteArray} {a n : Nat} {t : Int} {l : List UInt8} {w w' : World} (he : escL (s.data.toList.drop a) = (l, n)) (hl : b.data.toList = l) (ht : t = ((a + n : Nat) : Int)) (hb : Below w.heap.size w w') :
    EscEnd s a w (.returned (.tuple #[.string b, .int .i64 t])) w' := by
  subst ht
  refine ⟨?_, hb⟩
  unfold escB escP
  rw [he]
  simp only
  congr
  rw [← hl]

theorem conv_one (w : World) (x : Int) (b : UInt8) (hx : (b.toNat : Int) = x) :
    (convert 60 9 (.slice (some ⟨w.heap.size, 0, none⟩) 1 1)).run Tryz.prog (w.alloc (.cells #[.int .u8 x] 5)) = .ok (.string ⟨#[b]⟩) (w.alloc (.cells #[.int .u8 x] 5)) := by
  subst hx
  exact run_string_of_own (base := 0) (l := [b]) (World.ownsRow_lit w #[.int .u8 (b.toNat : Int)] 1 (Nat.zero_le _) (by unfold maxLen; omega) rfl) rfl

section
variable (s : ByteArray) (a : Nat) (w : World) (hs : s.size ≤ 4000000000) (ha : a + 1 < s.size)
include hs ha

set_option maxRecDepth 100000 in
set_option maxHeartbeats 4000000 in
theorem escR_n (hc : s[a + 1] = 110) : Calls Tryz.prog 100 #[.string s, .int .i64 (a : Int)] w (EscEnd s (a + 1) w) := by
  have p1 : (0 : Int) ≤ (a : Int) + 1 := by omega
  have p2 : (a : Int) + 1 < (s.size : Int) := by omega
  have e0 : (⟨#[110, 114, 116, 98, 102]⟩ : ByteArray)[0].toNat = 110 := rfl
  have e1 : (⟨#[110, 114, 116, 98, 102]⟩ : ByteArray)[1].toNat = 114 := rfl
  have e2 : (⟨#[110, 114, 116, 98, 102]⟩ : ByteArray)[2].toNat = 116 := rfl
  have e3 : (⟨#[110, 114, 116, 98, 102]⟩ : ByteArray)[3].toNat = 98 := rfl
  have e4 : (⟨#[110, 114, 116, 98, 102]⟩ : ByteArray)[4].toNat = 102 := rfl
  have b110 : ((s[a + 1].toNat : Int) == 110) = true := by rw [hc]; rfl
  have E : Hid (escL (s.data.toList.drop (a + 1)) = ([10], 1)) := Lib.hid (by rw [drop_cons s (a + 1) ha, hc, escL]; rfl)
  clear hc
  go_enter Tryz.func100, Tryz.ntmps100
  go_wp2_with fail
  go_loop [9] (fun i => ∃ n : Int, (n = 0) ∧ i = .int .i64 n) (fun i => 5 - (intOf i).toNat)
  case atStart => exact ⟨0, by simp, rfl⟩
  case round =>
    obtain ⟨n, hn, rfl⟩ := hrel
    rcases hn with rfl
    · go_wp2_with fail
      go_ret2
      exact esc_end E.out rfl (by go_num) (Below.refl _ _)

set_option maxRecDepth 100000 in
set_option maxHeartbeats 4000000 in
theorem escR_r (hc : s[a + 1] = 114) : Calls Tryz.prog 100 #[.string s, .int .i64 (a : Int)] w (EscEnd s (a + 1) w) := by
  have p1 : (0 : Int) ≤ (a : Int) + 1 := by omega
  have p2 : (a : Int) + 1 < (s.size : Int) := by omega
  have e0 : (⟨#[110, 114, 116, 98, 102]⟩ : ByteArray)[0].toNat = 110 := rfl
  have e1 : (⟨#[110, 114, 116, 98, 102]⟩ : ByteArray)[1].toNat = 114 := rfl
  have e2 : (⟨#[110, 114, 116, 98, 102]⟩ : ByteArray)[2].toNat = 116 := rfl
  have e3 : (⟨#[110, 114, 116, 98, 102]⟩ : ByteArray)[3].toNat = 98 := rfl
  have e4 : (⟨#[110, 114, 116, 98, 102]⟩ : ByteArray)[4].toNat = 102 := rfl
  have b110 : ((s[a + 1].toNat : Int) == 110) = false := by rw [hc]; rfl
  have b114 : ((s[a + 1].toNat : Int) == 114) = true := by rw [hc]; rfl
  have E : Hid (escL (s.data.toList.drop (a + 1)) = ([13], 1)) := Lib.hid (by rw [drop_cons s (a + 1) ha, hc, escL]; rfl)
  clear hc
  go_enter Tryz.func100, Tryz.ntmps100
  go_wp2_with fail
  go_loop [9] (fun i => ∃ n : Int, (n = 0 ∨ n = 1) ∧ i = .int .i64 n) (fun i => 5 - (intOf i).toNat)
  case atStart => exact ⟨0, by simp, rfl⟩
  case round =>
    obtain ⟨n, hn, rfl⟩ := hrel
    rcases hn with rfl | rfl
    · go_wp2_with fail
      go_round
      case rel => exact ⟨1, by simp, rfl⟩
      case measure => simp [intOf]
    · go_wp2_with fail
      go_ret2
      exact esc_end E.out rfl (by go_num) (Below.refl _ _)

set_option maxRecDepth 100000 in
set_option maxHeartbeats 4000000 in
theorem escR_t (hc : s[a + 1] = 116) : Calls Tryz.prog 100 #[.string s, .int .i64 (a : Int)] w (EscEnd s (a + 1) w) := by
  have p1 : (0 : Int) ≤ (a : Int) + 1 := by omega
  have p2 : (a : Int) + 1 < (s.size : Int) := by omega
  have e0 : (⟨#[110, 114, 116, 98, 102]⟩ : ByteArray)[0].toNat = 110 := rfl
  have e1 : (⟨#[110, 114, 116, 98, 102]⟩ : ByteArray)[1].toNat = 114 := rfl
  have e2 : (⟨#[110, 114, 116, 98, 102]⟩ : ByteArray)[2].toNat = 116 := rfl
  have e3 : (⟨#[110, 114, 116, 98, 102]⟩ : ByteArray)[3].toNat = 98 := rfl
  have e4 : (⟨#[110, 114, 116, 98, 102]⟩ : ByteArray)[4].toNat = 102 := rfl
  have b110 : ((s[a + 1].toNat : Int) == 110) = false := by rw [hc]; rfl
  have b114 : ((s[a + 1].toNat : Int) == 114) = false := by rw [hc]; rfl
  have b116 : ((s[a + 1].toNat : Int) == 116) = true := by rw [hc]; rfl
  have E : Hid (escL (s.data.toList.drop (a + 1)) = ([9], 1)) := Lib.hid (by rw [drop_cons s (a + 1) ha, hc, escL]; rfl)
  clear hc
  go_enter Tryz.func100, Tryz.ntmps100
  go_wp2_with fail
  go_loop [9] (fun i => ∃ n : Int, (n = 0 ∨ n = 1 ∨ n = 2) ∧ i = .int .i64 n) (fun i => 5 - (intOf i).toNat)
  case atStart => exact ⟨0, by simp, rfl⟩
  case round =>
    obtain ⟨n, hn, rfl⟩ := hrel
    rcases hn with rfl | rfl | rfl
    · go_wp2_with fail
      go_round
      case rel => exact ⟨1, by simp, rfl⟩
      case measure => simp [intOf]
    · go_wp2_with fail
      go_round
      case rel => exact ⟨2, by simp, rfl⟩
      case measure => simp [intOf]
    · go_wp2_with fail
      go_ret2
      exact esc_end E.out rfl (by go_num) (Below.refl _ _)

set_option maxRecDepth 100000 in
set_option maxHeartbeats 4000000 in
theorem escR_b (hc : s[a + 1] = 98) : Calls Tryz.prog 100 #[.string s, .int .i64 (a : Int)] w (EscEnd s (a + 1) w) := by
  have p1 : (0 : Int) ≤ (a : Int) + 1 := by omega
  have p2 : (a : Int) + 1 < (s.size : Int) := by omega
  have e0 : (⟨#[110, 114, 116, 98, 102]⟩ : ByteArray)[0].toNat = 110 := rfl
  have e1 : (⟨#[110, 114, 116, 98, 102]⟩ : ByteArray)[1].toNat = 114 := rfl
  have e2 : (⟨#[110, 114, 116, 98, 102]⟩ : ByteArray)[2].toNat = 116 := rfl
  have e3 : (⟨#[110, 114, 116, 98, 102]⟩ : ByteArray)[3].toNat = 98 := rfl
  have e4 : (⟨#[110, 114, 116, 98, 102]⟩ : ByteArray)[4].toNat = 102 := rfl
  have b110 : ((s[a + 1].toNat : Int) == 110) = false := by rw [hc]; rfl
  have b114 : ((s[a + 1].toNat : Int) == 114) = false := by rw [hc]; rfl
  have b116 : ((s[a + 1].toNat : Int) == 116) = false := by rw [hc]; rfl
  have b98 : ((s[a + 1].toNat : Int) == 98) = true := by rw [hc]; rfl
  have E : Hid (escL (s.data.toList.drop (a + 1)) = ([8], 1)) := Lib.hid (by rw [drop_cons s (a + 1) ha, hc, escL]; rfl)
  clear hc
  go_enter Tryz.func100, Tryz.ntmps100
  go_wp2_with fail
  go_loop [9] (fun i => ∃ n : Int, (n = 0 ∨ n = 1 ∨ n = 2 ∨ n = 3) ∧ i = .int .i64 n) (fun i => 5 - (intOf i).toNat)
  case atStart => exact ⟨0, by simp, rfl⟩
  case round =>
    obtain ⟨n, hn, rfl⟩ := hrel
    rcases hn with rfl | rfl | rfl | rfl
    · go_wp2_with fail
      go_round
      case rel => exact ⟨1, by simp, rfl⟩
      case measure => simp [intOf]
    · go_wp2_with fail
      go_round
      case rel => exact ⟨2, by simp, rfl⟩
      case measure => simp [intOf]
    · go_wp2_with fail
      go_round
      case rel => exact ⟨3, by simp, rfl⟩
      case measure => simp [intOf]
    · go_wp2_with fail
      go_ret2
      exact esc_end E.out rfl (by go_num) (Below.refl _ _)

set_option maxRecDepth 100000 in
set_option maxHeartbeats 4000000 in
theorem escR_f (hc : s[a + 1] = 102) : Calls Tryz.prog 100 #[.string s, .int .i64 (a : Int)] w (EscEnd s (a + 1) w) := by
  have p1 : (0 : Int) ≤ (a : Int) + 1 := by omega
  have p2 : (a : Int) + 1 < (s.size : Int) := by omega
  have e0 : (⟨#[110, 114, 116, 98, 102]⟩ : ByteArray)[0].toNat = 110 := rfl
  have e1 : (⟨#[110, 114, 116, 98, 102]⟩ : ByteArray)[1].toNat = 114 := rfl
  have e2 : (⟨#[110, 114, 116, 98, 102]⟩ : ByteArray)[2].toNat = 116 := rfl
  have e3 : (⟨#[110, 114, 116, 98, 102]⟩ : ByteArray)[3].toNat = 98 := rfl
  have e4 : (⟨#[110, 114, 116, 98, 102]⟩ : ByteArray)[4].toNat = 102 := rfl
  have b110 : ((s[a + 1].toNat : Int) == 110) = false := by rw [hc]; rfl
  have b114 : ((s[a + 1].toNat : Int) == 114) = false := by rw [hc]; rfl
  have b116 : ((s[a + 1].toNat : Int) == 116) = false := by rw [hc]; rfl
  have b98 : ((s[a + 1].toNat : Int) == 98) = false := by rw [hc]; rfl
  have b102 : ((s[a + 1].toNat : Int) == 102) = true := by rw [hc]; rfl
  have E : Hid (escL (s.data.toList.drop (a + 1)) = ([12], 1)) := Lib.hid (by rw [drop_cons s (a + 1) ha, hc, escL]; rfl)
  clear hc
  go_enter Tryz.func100, Tryz.ntmps100
  go_wp2_with fail
  go_loop [9] (fun i => ∃ n : Int, (n = 0 ∨ n = 1 ∨ n = 2 ∨ n = 3 ∨ n = 4) ∧ i = .int .i64 n) (fun i => 5 - (intOf i).toNat)
  case atStart => exact ⟨0, by simp, rfl⟩
  case round =>
    obtain ⟨n, hn, rfl⟩ := hrel
    rcases hn with rfl | rfl | rfl | rfl | rfl
    · go_wp2_with fail
      go_round
      case rel => exact ⟨1, by simp, rfl⟩
      case measure => simp [intOf]
    · go_wp2_with fail
      go_round
      case rel => exact ⟨2, by simp, rfl⟩
      case measure => simp [intOf]
    · go_wp2_with fail
      go_round
      case rel => exact ⟨3, by simp, rfl⟩
      case measure => simp [intOf]
    · go_wp2_with fail
      go_round
      case rel => exact ⟨4, by simp, rfl⟩
      case measure => simp [intOf]
    · go_wp2_with fail
      go_ret2
      exact esc_end E.out rfl (by go_num) (Below.refl _ _)

set_option maxRecDepth 100000 in
set_option maxHeartbeats 8000000 in
theorem escR_crlf (hc : s[a + 1] = 13) (h2 : a + 2 < s.size) (hd : s[a + 2] = 10) : Calls Tryz.prog 100 #[.string s, .int .i64 (a : Int)] w (EscEnd s (a + 1) w) := by
  have p1 : (0 : Int) ≤ (a : Int) + 1 := by omega
  have p2 : (a : Int) + 1 < (s.size : Int) := by omega
  have e0 : (⟨#[110, 114, 116, 98, 102]⟩ : ByteArray)[0].toNat = 110 := rfl
  have e1 : (⟨#[110, 114, 116, 98, 102]⟩ : ByteArray)[1].toNat = 114 := rfl
  have e2 : (⟨#[110, 114, 116, 98, 102]⟩ : ByteArray)[2].toNat = 116 := rfl
  have e3 : (⟨#[110, 114, 116, 98, 102]⟩ : ByteArray)[3].toNat = 98 := rfl
  have e4 : (⟨#[110, 114, 116, 98, 102]⟩ : ByteArray)[4].toNat = 102 := rfl
  have b110 : ((s[a + 1].toNat : Int) == 110) = false := by rw [hc]; rfl
  have b114 : ((s[a + 1].toNat : Int) == 114) = false := by rw [hc]; rfl
  have b116 : ((s[a + 1].toNat : Int) == 116) = false := by rw [hc]; rfl
  have b98 : ((s[a + 1].toNat : Int) == 98) = false := by rw [hc]; rfl
  have b102 : ((s[a + 1].toNat : Int) == 102) = false := by rw [hc]; rfl
  have b13 : ((s[a + 1].toNat : Int) == 13) = true := by rw [hc]; rfl
  have q1 : (0 : Int) ≤ (a : Int) + 2 := by omega
  have q2 : (a : Int) + 2 < (s.size : Int) := by omega
  have b10 : ((s[a + 2].toNat : Int) == 10) = true := by rw [hd]; rfl
  have E : Hid (escL (s.data.toList.drop (a + 1)) = ([], 2)) := Lib.hid (by rw [drop_cons s (a + 1) ha, drop_cons s (a + 1 + 1) h2, hc, hd, escL]; rfl)
  clear hc hd
  go_enter Tryz.func100, Tryz.ntmps100
  go_wp2_with fail
  go_loop [9] (fun i => ∃ n : Int, (n = 0 ∨ n = 1 ∨ n = 2 ∨ n = 3 ∨ n = 4 ∨ n = 5) ∧ i = .int .i64 n) (fun i => 5 - (intOf i).toNat)
  case atStart => exact ⟨0, by simp, rfl⟩
  case round =>
    obtain ⟨n, hn, rfl⟩ := hrel
    rcases hn with rfl | rfl | rfl | rfl | rfl | rfl
    · go_wp2_with fail
      go_round
      case rel => exact ⟨1, by simp, rfl⟩
      case measure => simp [intOf]
    · go_wp2_with fail
      go_round
      case rel => exact ⟨2, by simp, rfl⟩
      case measure => simp [intOf]
    · go_wp2_with fail
      go_round
      case rel => exact ⟨3, by simp, rfl⟩
      case measure => simp [intOf]
    · go_wp2_with fail
      go_round
      case rel => exact ⟨4, by simp, rfl⟩
      case measure => simp [intOf]
    · go_wp2_with fail
      go_round
      case rel => exact ⟨5, by simp, rfl⟩
      case measure => simp [intOf]
    · go_wp2_with fail
      go_ret2
      exact esc_end E.out rfl (by go_num) (Below.refl _ _)

set_option maxRecDepth 100000 in
set_option maxHeartbeats 8000000 in
theorem escR_cr (hc : s[a + 1] = 13) (h2 : a + 2 < s.size) (hd : s[a + 2] ≠ 10) : Calls Tryz.prog 100 #[.string s, .int .i64 (a : Int)] w (EscEnd s (a + 1) w) := by
  have p1 : (0 : Int) ≤ (a : Int) + 1 := by omega
  have p2 : (a : Int) + 1 < (s.size : Int) := by omega
  have e0 : (⟨#[110, 114, 116, 98, 102]⟩ : ByteArray)[0].toNat = 110 := rfl
  have e1 : (⟨#[110, 114, 116, 98, 102]⟩ : ByteArray)[1].toNat = 114 := rfl
  have e2 : (⟨#[110, 114, 116, 98, 102]⟩ : ByteArray)[2].toNat = 116 := rfl
  have e3 : (⟨#[110, 114, 116, 98, 102]⟩ : ByteArray)[3].toNat = 98 := rfl
  have e4 : (⟨#[110, 114, 116, 98, 102]⟩ : ByteArray)[4].toNat = 102 := rfl
  have b110 : ((s[a + 1].toNat : Int) == 110) = false := by rw [hc]; rfl
  have b114 : ((s[a + 1].toNat : Int) == 114) = false := by rw [hc]; rfl
  have b116 : ((s[a + 1].toNat : Int) == 116) = false := by rw [hc]; rfl
  have b98 : ((s[a + 1].toNat : Int) == 98) = false := by rw [hc]; rfl
  have b102 : ((s[a + 1].toNat : Int) == 102) = false := by rw [hc]; rfl
  have b13 : ((s[a + 1].toNat : Int) == 13) = true := by rw [hc]; rfl
  have q1 : (0 : Int) ≤ (a : Int) + 2 := by omega
  have q2 : (a : Int) + 2 < (s.size : Int) := by omega
  have b10 : ((s[a + 2].toNat : Int) == 10) = false := byte_isnt (n := 10) (by decide) hd
  have E : Hid (escL (s.data.toList.drop (a + 1)) = ([], 1)) := Lib.hid (by
    rw [drop_cons s (a + 1) ha, drop_cons s (a + 1 + 1) h2, hc, escL]
    have : lineN (13 :: s[a + 1 + 1] :: s.data.toList.drop (a + 1 + 1 + 1)) = 1 := by unfold lineN; rw [if_neg (fun h => hd h.2)]; rfl
    rw [this]; rfl)
  clear hc hd
  go_enter Tryz.func100, Tryz.ntmps100
  go_wp2_with fail
  go_loop [9] (fun i => ∃ n : Int, (n = 0 ∨ n = 1 ∨ n = 2 ∨ n = 3 ∨ n = 4 ∨ n = 5) ∧ i = .int .i64 n) (fun i => 5 - (intOf i).toNat)
  case atStart => exact ⟨0, by simp, rfl⟩
  case round =>
    obtain ⟨n, hn, rfl⟩ := hrel
    rcases hn with rfl | rfl | rfl | rfl | rfl | rfl
    · go_wp2_with fail
      go_round
      case rel => exact ⟨1, by simp, rfl⟩
      case measure => simp [intOf]
    · go_wp2_with fail
      go_round
      case rel => exact ⟨2, by simp, rfl⟩
      case measure => simp [intOf]
    · go_wp2_with fail
      go_round
      case rel => exact ⟨3, by simp, rfl⟩
      case measure => simp [intOf]
    · go_wp2_with fail
      go_round
      case rel => exact ⟨4, by simp, rfl⟩
      case measure => simp [intOf]
    · go_wp2_with fail
      go_round
      case rel => exact ⟨5, by simp, rfl⟩
      case measure => simp [intOf]
    · go_wp2_with fail
      go_ret2
      exact esc_end E.out rfl (by go_num) (Below.refl _ _)

set_option maxRecDepth 100000 in
set_option maxHeartbeats 8000000 in
theorem escR_crend (hc : s[a + 1] = 13) (h2 : ¬ a + 2 < s.size) : Calls Tryz.prog 100 #[.string s, .int .i64 (a : Int)] w (EscEnd s (a + 1) w) := by
  have p1 : (0 : Int) ≤ (a : Int) + 1 := by omega
  have p2 : (a : Int) + 1 < (s.size : Int) := by omega
  have e0 : (⟨#[110, 114, 116, 98, 102]⟩ : ByteArray)[0].toNat = 110 := rfl
  have e1 : (⟨#[110, 114, 116, 98, 102]⟩ : ByteArray)[1].toNat = 114 := rfl
  have e2 : (⟨#[110, 114, 116, 98, 102]⟩ : ByteArray)[2].toNat = 116 := rfl
  have e3 : (⟨#[110, 114, 116, 98, 102]⟩ : ByteArray)[3].toNat = 98 := rfl
  have e4 : (⟨#[110, 114, 116, 98, 102]⟩ : ByteArray)[4].toNat = 102 := rfl
  have b110 : ((s[a + 1].toNat : Int) == 110) = false := by rw [hc]; rfl
  have b114 : ((s[a + 1].toNat : Int) == 114) = false := by rw [hc]; rfl
  have b116 : ((s[a + 1].toNat : Int) == 116) = false := by rw [hc]; rfl
  have b98 : ((s[a + 1].toNat : Int) == 98) = false := by rw [hc]; rfl
  have b102 : ((s[a + 1].toNat : Int) == 102) = false := by rw [hc]; rfl
  have b13 : ((s[a + 1].toNat : Int) == 13) = true := by rw [hc]; rfl
  have q2 : ¬ (a : Int) + 2 < (s.size : Int) := by omega
  have E : Hid (escL (s.data.toList.drop (a + 1)) = ([], 1)) := Lib.hid (by
    rw [drop_cons s (a + 1) ha, List.drop_eq_nil_of_le (by simp; omega), hc, escL]; rfl)
  clear hc
  go_enter Tryz.func100, Tryz.ntmps100
  go_wp2_with fail
  go_loop [9] (fun i => ∃ n : Int, (n = 0 ∨ n = 1 ∨ n = 2 ∨ n = 3 ∨ n = 4 ∨ n = 5) ∧ i = .int .i64 n) (fun i => 5 - (intOf i).toNat)
  case atStart => exact ⟨0, by simp, rfl⟩
  case round =>
    obtain ⟨n, hn, rfl⟩ := hrel
    rcases hn with rfl | rfl | rfl | rfl | rfl | rfl
    · go_wp2_with fail
      go_round
      case rel => exact ⟨1, by simp, rfl⟩
      case measure => simp [intOf]
    · go_wp2_with fail
      go_round
      case rel => exact ⟨2, by simp, rfl⟩
      case measure => simp [intOf]
    · go_wp2_with fail
      go_round
      case rel => exact ⟨3, by simp, rfl⟩
      case measure => simp [intOf]
    · go_wp2_with fail
      go_round
      case rel => exact ⟨4, by simp, rfl⟩
      case measure => simp [intOf]
    · go_wp2_with fail
      go_round
      case rel => exact ⟨5, by simp, rfl⟩
      case measure => simp [intOf]
    · go_wp2_with fail
      go_ret2
      exact esc_end E.out rfl (by go_num) (Below.refl _ _)

set_option maxRecDepth 100000 in
set_option maxHeartbeats 8000000 in
theorem escR_lf (hc : s[a + 1] = 10) : Calls Tryz.prog 100 #[.string s, .int .i64 (a : Int)] w (EscEnd s (a + 1) w) := by
  have p1 : (0 : Int) ≤ (a : Int) + 1 := by omega
  have p2 : (a : Int) + 1 < (s.size : Int) := by omega
  have e0 : (⟨#[110, 114, 116, 98, 102]⟩ : ByteArray)[0].toNat = 110 := rfl
  have e1 : (⟨#[110, 114, 116, 98, 102]⟩ : ByteArray)[1].toNat = 114 := rfl
  have e2 : (⟨#[110, 114, 116, 98, 102]⟩ : ByteArray)[2].toNat = 116 := rfl
  have e3 : (⟨#[110, 114, 116, 98, 102]⟩ : ByteArray)[3].toNat = 98 := rfl
  have e4 : (⟨#[110, 114, 116, 98, 102]⟩ : ByteArray)[4].toNat = 102 := rfl
  have b110 : ((s[a + 1].toNat : Int) == 110) = false := by rw [hc]; rfl
  have b114 : ((s[a + 1].toNat : Int) == 114) = false := by rw [hc]; rfl
  have b116 : ((s[a + 1].toNat : Int) == 116) = false := by rw [hc]; rfl
  have b98 : ((s[a + 1].toNat : Int) == 98) = false := by rw [hc]; rfl
  have b102 : ((s[a + 1].toNat : Int) == 102) = false := by rw [hc]; rfl
  have b13 : ((s[a + 1].toNat : Int) == 13) = false := by rw [hc]; rfl
  have b10 : ((s[a + 1].toNat : Int) == 10) = true := by rw [hc]; rfl
  have E : Hid (escL (s.data.toList.drop (a + 1)) = ([], 1)) := Lib.hid (by
    rw [drop_cons s (a + 1) ha, hc, escL]
    have : ∀ t, lineN (10 :: t) = 1 := fun t => by cases t <;> rfl
    rw [this]; rfl)
  clear hc
  go_enter Tryz.func100, Tryz.ntmps100
  go_wp2_with fail
  go_loop [9] (fun i => ∃ n : Int, (n = 0 ∨ n = 1 ∨ n = 2 ∨ n = 3 ∨ n = 4 ∨ n = 5) ∧ i = .int .i64 n) (fun i => 5 - (intOf i).toNat)
  case atStart => exact ⟨0, by simp, rfl⟩
  case round =>
    obtain ⟨n, hn, rfl⟩ := hrel
    rcases hn with rfl | rfl | rfl | rfl | rfl | rfl
    · go_wp2_with fail
      go_round
      case rel => exact ⟨1, by simp, rfl⟩
      case measure => simp [intOf]
    · go_wp2_with fail
      go_round
      case rel => exact ⟨2, by simp, rfl⟩
      case measure => simp [intOf]
    · go_wp2_with fail
      go_round
      case rel => exact ⟨3, by simp, rfl⟩
      case measure => simp [intOf]
    · go_wp2_with fail
      go_round
      case rel => exact ⟨4, by simp, rfl⟩
      case measure => simp [intOf]
    · go_wp2_with fail
      go_round
      case rel => exact ⟨5, by simp, rfl⟩
      case measure => simp [intOf]
    · go_wp2_with fail
      go_ret2
      exact esc_end E.out rfl (by go_num) (Below.refl _ _)

set_option maxRecDepth 100000 in
set_option maxHeartbeats 8000000 in
theorem escR_plain (hc : octD s[a + 1] = false) (hnl : s[a + 1] ≠ 110 ∧ s[a + 1] ≠ 114 ∧ s[a + 1] ≠ 116 ∧ s[a + 1] ≠ 98 ∧ s[a + 1] ≠ 102) (h13 : s[a + 1] ≠ 13) (h10 : s[a + 1] ≠ 10) : Calls Tryz.prog 100 #[.string s, .int .i64 (a : Int)] w (EscEnd s (a + 1) w) := by
  have p1 : (0 : Int) ≤ (a : Int) + 1 := by omega
  have p2 : (a : Int) + 1 < (s.size : Int) := by omega
  have e0 : (⟨#[110, 114, 116, 98, 102]⟩ : ByteArray)[0].toNat = 110 := rfl
  have e1 : (⟨#[110, 114, 116, 98, 102]⟩ : ByteArray)[1].toNat = 114 := rfl
  have e2 : (⟨#[110, 114, 116, 98, 102]⟩ : ByteArray)[2].toNat = 116 := rfl
  have e3 : (⟨#[110, 114, 116, 98, 102]⟩ : ByteArray)[3].toNat = 98 := rfl
  have e4 : (⟨#[110, 114, 116, 98, 102]⟩ : ByteArray)[4].toNat = 102 := rfl
  have b110 : ((s[a + 1].toNat : Int) == 110) = false := byte_isnt (n := 110) (by decide) (by simp_all)
  have b114 : ((s[a + 1].toNat : Int) == 114) = false := byte_isnt (n := 114) (by decide) (by simp_all)
  have b116 : ((s[a + 1].toNat : Int) == 116) = false := byte_isnt (n := 116) (by decide) (by simp_all)
  have b98 : ((s[a + 1].toNat : Int) == 98) = false := byte_isnt (n := 98) (by decide) (by simp_all)
  have b102 : ((s[a + 1].toNat : Int) == 102) = false := byte_isnt (n := 102) (by decide) (by simp_all)
  have b13 : ((s[a + 1].toNat : Int) == 13) = false := byte_isnt (n := 13) (by decide) h13
  have b10 : ((s[a + 1].toNat : Int) == 10) = false := byte_isnt (n := 10) (by decide) h10
  have E : Hid (escL (s.data.toList.drop (a + 1)) = ([s[a + 1]], 1)) := Lib.hid (by
    rw [drop_cons s (a + 1) ha, escL, if_neg hnl.1, if_neg hnl.2.1, if_neg hnl.2.2.1, if_neg hnl.2.2.2.1, if_neg hnl.2.2.2.2, if_neg h13, if_neg h10, if_neg (by rw [hc]; decide)])
  have hcc : (s[a + 1].toNat : Int) < 48 ∨ (48 ≤ (s[a + 1].toNat : Int) ∧ 55 < (s[a + 1].toNat : Int)) := by unfold octD at hc; simp at hc; omega
  have X : Hid ((s.extract (a + 1) (a + 2)).data.toList = [s[a + 1]]) := Lib.hid (by
    rw [ByteArray.data_extract, Array.toList_extract, List.extract_eq_take_drop, drop_cons s (a + 1) ha, show a + 2 - (a + 1) = 1 from by omega]; rfl)
  have q3 : (a : Int) + 2 ≤ (s.size : Int) := by omega
  have q4 : (a : Int) + 1 < (a : Int) + 4 := by omega
  clear hc hnl h13 h10
  rcases hcc with hcc | ⟨hcc, hcc2⟩
  all_goals
    go_enter Tryz.func100, Tryz.ntmps100
    go_wp2_with fail
    go_loop [9] (fun i => ∃ n : Int, (n = 0 ∨ n = 1 ∨ n = 2 ∨ n = 3 ∨ n = 4 ∨ n = 5) ∧ i = .int .i64 n) (fun i => 5 - (intOf i).toNat)
    case atStart => exact ⟨0, by simp, rfl⟩
    case round =>
      obtain ⟨n, hn, rfl⟩ := hrel
      rcases hn with rfl | rfl | rfl | rfl | rfl | rfl
      · go_wp2_with fail
        go_round
        case rel => exact ⟨1, by simp, rfl⟩
        case measure => simp [intOf]
      · go_wp2_with fail
        go_round
        case rel => exact ⟨2, by simp, rfl⟩
        case measure => simp [intOf]
      · go_wp2_with fail
        go_round
        case rel => exact ⟨3, by simp, rfl⟩
        case measure => simp [intOf]
      · go_wp2_with fail
        go_round
        case rel => exact ⟨4, by simp, rfl⟩
        case measure => simp [intOf]
      · go_wp2_with fail
        go_round
        case rel => exact ⟨5, by simp, rfl⟩
        case measure => simp [intOf]
      · go_wp2_with fail
        go_loop [10, 11] (fun m i => m = .int .i64 0 ∧ i = .int .i64 ((a : Int) + 1)) (fun _ _ => 0)
        case atStart => exact ⟨rfl, rfl⟩
        case round =>
          obtain ⟨rfl, rfl⟩ := hrel
          go_wp2_with fail
          go_ret2
          exact esc_end E.out X.out (by go_num) (Below.refl _ _)

set_option maxRecDepth 100000 in
set_option maxHeartbeats 8000000 in
theorem escR_oct (hc : octD s[a + 1] = true) (hnl : s[a + 1] ≠ 110 ∧ s[a + 1] ≠ 114 ∧ s[a + 1] ≠ 116 ∧ s[a + 1] ≠ 98 ∧ s[a + 1] ≠ 102) (h13 : s[a + 1] ≠ 13) (h10 : s[a + 1] ≠ 10) : Calls Tryz.prog 100 #[.string s, .int .i64 (a : Int)] w (EscEnd s (a + 1) w) := by
  have p1 : (0 : Int) ≤ (a : Int) + 1 := by omega
  have p2 : (a : Int) + 1 < (s.size : Int) := by omega
  have e0 : (⟨#[110, 114, 116, 98, 102]⟩ : ByteArray)[0].toNat = 110 := rfl
  have e1 : (⟨#[110, 114, 116, 98, 102]⟩ : ByteArray)[1].toNat = 114 := rfl
  have e2 : (⟨#[110, 114, 116, 98, 102]⟩ : ByteArray)[2].toNat = 116 := rfl
  have e3 : (⟨#[110, 114, 116, 98, 102]⟩ : ByteArray)[3].toNat = 98 := rfl
  have e4 : (⟨#[110, 114, 116, 98, 102]⟩ : ByteArray)[4].toNat = 102 := rfl
  have b110 : ((s[a + 1].toNat : Int) == 110) = false := byte_isnt (n := 110) (by decide) (by simp_all)
  have b114 : ((s[a + 1].toNat : Int) == 114) = false := byte_isnt (n := 114) (by decide) (by simp_all)
  have b116 : ((s[a + 1].toNat : Int) == 116) = false := byte_isnt (n := 116) (by decide) (by simp_all)
  have b98 : ((s[a + 1].toNat : Int) == 98) = false := byte_isnt (n := 98) (by decide) (by simp_all)
  have b102 : ((s[a + 1].toNat : Int) == 102) = false := byte_isnt (n := 102) (by decide) (by simp_all)
  have b13 : ((s[a + 1].toNat : Int) == 13) = false := byte_isnt (n := 13) (by decide) h13
  have b10 : ((s[a + 1].toNat : Int) == 10) = false := byte_isnt (n := 10) (by decide) h10
  obtain ⟨q, hq⟩ : ∃ q, octN 3 0 (s.data.toList.drop (a + 1)) = q := ⟨_, rfl⟩
  have E : Hid (escL (s.data.toList.drop (a + 1)) = ([UInt8.ofNat (q.1 % 256)], q.2)) := Lib.hid (by
    rw [← hq]
    rw [drop_cons s (a + 1) ha, escL, if_neg hnl.1, if_neg hnl.2.1, if_neg hnl.2.2.1, if_neg hnl.2.2.2.1, if_neg hnl.2.2.2.2, if_neg h13, if_neg h10, if_pos hc]
    )
  have HQ := Lib.hid hq
  have hcc : ¬ (s[a + 1].toNat : Int) < 48 ∧ ¬ 55 < (s[a + 1].toNat : Int) := by unfold octD at hc; simp at hc; omega
  have HCC := Lib.hid hcc
  have hz : 1 ≤ q.2 := by rw [← hq, drop_cons s (a + 1) ha, octN, if_pos hc]; simp
  have HZ := Lib.hid hz
  clear hc hnl h13 h10 hq hcc hz
  go_enter Tryz.func100, Tryz.ntmps100
  go_wp2_with fail
  go_loop [9] (fun i => ∃ n : Int, (n = 0 ∨ n = 1 ∨ n = 2 ∨ n = 3 ∨ n = 4 ∨ n = 5) ∧ i = .int .i64 n) (fun i => 5 - (intOf i).toNat)
  case atStart => exact ⟨0, by simp, rfl⟩
  case round =>
    obtain ⟨n, hn, rfl⟩ := hrel
    rcases hn with rfl | rfl | rfl | rfl | rfl | rfl
    · go_wp2_with fail
      go_round
      case rel => exact ⟨1, by simp, rfl⟩
      case measure => simp [intOf]
    · go_wp2_with fail
      go_round
      case rel => exact ⟨2, by simp, rfl⟩
      case measure => simp [intOf]
    · go_wp2_with fail
      go_round
      case rel => exact ⟨3, by simp, rfl⟩
      case measure => simp [intOf]
    · go_wp2_with fail
      go_round
      case rel => exact ⟨4, by simp, rfl⟩
      case measure => simp [intOf]
    · go_wp2_with fail
      go_round
      case rel => exact ⟨5, by simp, rfl⟩
      case measure => simp [intOf]
    · go_wp2_with fail
      go_loop [10, 11] (fun n i => ∃ j m p : Nat, j ≤ 3 ∧ a + 1 + j = p ∧ p ≤ s.size ∧ i = .int .i64 (p : Int) ∧ n = .int .i64 (m : Int) ∧ OctAt (s.data.toList.drop (a + 1)) j m ∧ (j = 0 → m = 0)) (fun _ i => s.size - (intOf i).toNat)
      case atStart => exact ⟨0, 0, a + 1, by omega, by omega, by omega, by go_num, rfl, OctAt.zero _, fun _ => rfl⟩
      case round =>
        obtain ⟨j, m, p, hj, hp, hk, rfl, rfl, hr, hz⟩ := hrel
        have HR := Lib.hid hr
        have HZ2 := Lib.hid hz
        have HP := Lib.hid hp
        have hm := hr.2.1
        have hap : a + 1 ≤ p := by omega
        clear hr hz hp
        have len : (s.data.toList.drop (a + 1)).length = s.size - (a + 1) := by rw [List.length_drop]; simp
        have HLen := Lib.hid len
        clear len
        have done : octN 3 0 (s.data.toList.drop (a + 1)) = (m, j) → q = (m, j) ∧ 1 ≤ j := fun h => by
          have e := HQ.out.symm.trans h
          have z := HZ.out
          rw [e] at z
          exact ⟨e, z⟩
        have DONE := Lib.hid done
        clear done
        have hconv := conv_one w ((m : Int) % 256) (UInt8.ofNat (m % 256)) (by simp)
        by_cases hlt : p < s.size
        · by_cases h3 : j = 3
          · have d := DONE.out (by subst h3; exact HR.out.full)
            have l3 : ¬ (p : Int) < (a : Int) + 4 := by have := HP.out; omega
            have g3 : (a : Int) + 1 < (p : Int) := by have := HP.out; omega
            have D := Lib.hid d
            clear h3 d
            go_wp2_with fail
            go_ret2
            exact esc_end (l := [UInt8.ofNat (m % 256)]) (n := j) (by rw [E.out, D.out.1]) rfl (by have := HP.out; omega) ((Below.refl _ _).alloc (Nat.le_refl _) _)
          · have hj3 : j < 3 := by omega
            have l3 : (p : Int) < (a : Int) + 4 := by have := HP.out; omega
            obtain ⟨d1, d2⟩ := lexDropAt s (a + 1) j (by have := HP.out; omega)
            have d3 : (s.data.toList.drop (a + 1))[j] = s[p] := d2.trans (by congr 1)
            by_cases h1 : (s[p].toNat : Int) < 48
            · have d := DONE.out (HR.out.stop d1 (by rw [d3]; unfold octD; simp; omega))
              have g3 : (a : Int) + 1 < (p : Int) := by have := HP.out; omega
              have D := Lib.hid d
              clear d2 d3 d
              go_wp2_with fail
              go_ret2
              exact esc_end (l := [UInt8.ofNat (m % 256)]) (n := j) (by rw [E.out, D.out.1]) rfl (by have := HP.out; omega) ((Below.refl _ _).alloc (Nat.le_refl _) _)
            · by_cases h2 : 55 < (s[p].toNat : Int)
              · have d := DONE.out (HR.out.stop d1 (by rw [d3]; unfold octD; simp; omega))
                have g3 : (a : Int) + 1 < (p : Int) := by have := HP.out; omega
                have D := Lib.hid d
                clear d2 d3 d
                go_wp2_with fail
                go_ret2
                exact esc_end (l := [UInt8.ofNat (m % 256)]) (n := j) (by rw [E.out, D.out.1]) rfl (by have := HP.out; omega) ((Below.refl _ _).alloc (Nat.le_refl _) _)
              · have N := HR.out.more HZ2.out hj3 d1 (by rw [d3]; unfold octD; simp; omega)
                rw [d3] at N
                have NN := Lib.hid N
                clear d2 d3 N
                go_wp2_with fail
                go_round
                case rel => exact ⟨j + 1, 8 * m + (s[p].toNat - 48), p + 1, by omega, by have := HP.out; omega, by omega, by go_num, by congr 1; omega, NN.out, fun h => by omega⟩
                case measure => simp [intOf]; omega
        · have d := DONE.out (HR.out.short (by rw [HLen.out]; have := HP.out; omega))
          have g3 : (a : Int) + 1 < (p : Int) := by have := HP.out; omega
          have D := Lib.hid d
          clear d
          go_wp2_with fail
          go_ret2
          exact esc_end (l := [UInt8.ofNat (m % 256)]) (n := j) (by rw [E.out, D.out.1]) rfl (by have := HP.out; omega) ((Below.refl _ _).alloc (Nat.le_refl _) _)
end

theorem escape_rany (s : ByteArray) (a : Nat) (w : World) (hs : s.size ≤ 4000000000) (ha : a + 1 < s.size) :
    Calls Tryz.prog 100 #[.string s, .int .i64 (a : Int)] w (EscEnd s (a + 1) w) := by
  by_cases h1 : s[a + 1] = 110
  · exact escR_n s a w hs ha h1
  by_cases h2 : s[a + 1] = 114
  · exact escR_r s a w hs ha h2
  by_cases h3 : s[a + 1] = 116
  · exact escR_t s a w hs ha h3
  by_cases h4 : s[a + 1] = 98
  · exact escR_b s a w hs ha h4
  by_cases h5 : s[a + 1] = 102
  · exact escR_f s a w hs ha h5
  by_cases h6 : s[a + 1] = 13
  · by_cases h : a + 2 < s.size
    · by_cases hd : s[a + 2] = 10
      · exact escR_crlf s a w hs ha h6 h hd
      · exact escR_cr s a w hs ha h6 h hd
    · exact escR_crend s a w hs ha h6 h
  by_cases h7 : s[a + 1] = 10
  · exact escR_lf s a w hs ha h7
  by_cases h8 : octD s[a + 1] = true
  · exact escR_oct s a w hs ha h8 ⟨h1, h2, h3, h4, h5⟩ h6 h7
  · exact escR_plain s a w hs ha (by simpa using h8) ⟨h1, h2, h3, h4, h5⟩ h6 h7
end Go.Proofs.YtdpbpdikgcepbaaGreatDoor
