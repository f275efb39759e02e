/-
  Lemmas and walks, joined: LexR, LexS.
-/
import Derived.Test.YtbmiogoigjdceaaDoorQ11
import Derived.Test.YtbmiogoigjdceaaDoorQ12
import Derived.Test.YtbmiogoigjdceaaDoorQ09
namespace Go.Proofs.YtbmiogoigjdceaaDoor
open Go.RowKit Oct Fix Lex

theorem valL_nil : valL 0 [] = 0 := rfl
theorem drop_val {l : List UInt8} {o k : Nat} (ho : o ≤ k) (hk : k < l.length) (hd : (l.drop o).all isDig = true) :
    valL 0 ((l.drop o).take (k + 1 - o)) = 10 * valL 0 ((l.drop o).take (k - o)) + ((l[k].toNat : Int) - 48) ∧ 0 ≤ valL 0 ((l.drop o).take (k - o)) ∧ valL 0 ((l.drop o).take (k + 1 - o)) ≤ valL 0 (l.drop o) ∧ 48 ≤ l[k].toNat ∧ l[k].toNat ≤ 57 := by
  have h1 : k - o < (l.drop o).length := by rw [List.length_drop]; omega
  have h := valL_step h1 hd
  rw [show k + 1 - o = (k - o) + 1 from by omega]
  have e : (l.drop o)[k - o] = l[k] := by
    rw [List.getElem_drop]
    congr 1
    omega
  rw [e] at h
  exact h

set_option maxRecDepth 100000 in
set_option maxHeartbeats 4000000 in
theorem whole_off (s : ByteArray) (o : Nat) (w : World) (hs : s.size ≤ 4000000000) (ho : o ≤ 1) (h0 : o < s.size) (hb : bodyL s.data.toList = s.data.toList.drop o) (hd : (s.data.toList.drop o).all isDig = true) (hsg : o = 1 → s[0] = 43 ∨ s[0] = 45) :
    Calls Tryd.prog 67 #[.string s] w fun e w' => e = .returned (.tuple #[.int .i64 (intV s), .int .i64 (intE s)]) ∧ w = w' := by
  have hl : s.data.toList.length = s.size := by simp
  have HL := Lib.hid hl
  have HBo := Lib.hid hb
  have HDg := Lib.hid hd
  have HSg := Lib.hid hsg
  clear hl hb hd hsg
  go_enter Tryd.func67, Tryd.ntmps67
  go_wp2_with fail
  go_loop [4, 5] (fun n i => ∃ (k : Nat) (X : Int), k ≤ s.size ∧ i = .int .i64 (k : Int) ∧ n = .int .i64 X ∧ valL 0 ((s.data.toList.drop o).take (k - o)) = X ∧ 0 ≤ X ∧ X ≤ 2147483647) (fun _ i => s.size - (intOf i).toNat)
  case atStart => exact ⟨0, 0, by omega, rfl, rfl, by simp [valL_nil], by omega, by omega⟩
  case round =>
    obtain ⟨k, X, hk, rfl, rfl, hX, hX0, hX1⟩ := hrel
    have HX := Lib.hid hX
    clear hX
    by_cases hlt : k < s.size
    · by_cases hko : k < o
      · have hk0 : k = 0 := by omega
        have ho1 : o = 1 := by omega
        subst hk0
        have b : ((s[0].toNat : Int) == 43) = true ∨ (((s[0].toNat : Int) == 43) = false ∧ ((s[0].toNat : Int) == 45) = true) := by
          rcases HSg.out ho1 with h2 | h2
          · exact .inl (by rw [h2]; rfl)
          · exact .inr (by rw [h2]; exact ⟨rfl, rfl⟩)
        have N : Hid (valL 0 ((s.data.toList.drop o).take (0 + 1 - o)) = X) := Lib.hid (by rw [← HX.out, ho1])
        clear hko ho1
        rcases b with b43 | ⟨b43, b45⟩
        all_goals
          go_wp2_with fail
          go_round
          case rel => exact ⟨0 + 1, X, by omega, by go_num, rfl, N.out, hX0, hX1⟩
          case measure => simp [intOf]; omega
      · obtain ⟨v1, v2, v3, v4, v5⟩ := drop_val (l := s.data.toList) (o := o) (k := k) (by omega) (by rw [HL.out]; exact hlt) HDg.out
        have e48 : (s.data.toList[k]'(by rw [HL.out]; exact hlt)) = s[k] := rfl
        rw [e48] at v1 v4 v5
        obtain ⟨Y, hY⟩ : ∃ Y, valL 0 ((s.data.toList.drop o).take (k + 1 - o)) = Y := ⟨_, rfl⟩
        rw [HX.out, hY] at v1
        rw [hY] at v3
        have b43 : ((s[k].toNat : Int) == 43) = false := by simp; omega
        have b45 : ((s[k].toNat : Int) == 45) = false := by simp; omega
        have v4' : (48 : Int) ≤ (s[k].toNat : Int) := by omega
        have v5' : (s[k].toNat : Int) ≤ 57 := by omega
        have eY : 10 * X + (s[k].toNat : Int) - 48 = Y := by omega
        have HY := Lib.hid hY
        have EY := Lib.hid eY
        have V3 := Lib.hid v3
        clear e48 v1 v3 v4 v5 hY eY
        go_wp2_with fail
        · rename_i hgt _
          rw [EY.out] at hgt
          go_ret2
          have hb : 2147483647 < valL 0 (bodyL s.data.toList) := by rw [HBo.out]; exact Int.lt_of_lt_of_le hgt V3.out
          exact ⟨ret_ints (by unfold intV; rw [if_pos hb]) (by unfold intE; rw [if_pos hb]), rfl⟩
        · go_round
          case rel => exact ⟨k + 1, _, by omega, by go_num, rfl, HY.out.trans EY.out.symm, by omega, by omega⟩
          case measure => simp [intOf]; omega
    · have ek : k = s.size := by omega
      subst ek
      have e0 : (s.data.toList.drop o).take (s.size - o) = s.data.toList.drop o := List.take_of_length_le (by rw [List.length_drop, HL.out]; exact Nat.le_refl _)
      have eX : valL 0 (bodyL s.data.toList) = X := by rw [HBo.out, ← HX.out, e0]
      have eI : intE s = 0 := by unfold intE; rw [if_neg (by omega)]
      have h00 : 0 < s.size := by omega
      have hm := minus_at s h00
      have EX := Lib.hid eX
      have EI := Lib.hid eI
      clear e0 eX eI
      by_cases h1 : s[0] = 45
      · have b1 : ((s[0].toNat : Int) == 45) = true := by rw [h1]; rfl
        have EV : Hid (intV s = -X) := Lib.hid (by
          rw [h1] at hm
          unfold intV intN
          rw [EX.out, if_neg (by omega), hm]; rfl)
        clear h1 hm
        go_wp2_with fail
        go_ret2
        exact ⟨ret_ints (by rw [EV.out]) (by rw [EI.out]), rfl⟩
      · have b1 : ((s[0].toNat : Int) == 45) = false := byte_isnt (n := 45) (by decide) h1
        have EV : Hid (intV s = X) := Lib.hid (by
          have hm' : minusL s.data.toList = false := by rw [hm]; simpa using h1
          unfold intV intN
          rw [EX.out, if_neg (by omega), hm']; rfl)
        clear h1 hm
        go_wp2_with fail
        go_ret2
        exact ⟨ret_ints (by rw [EV.out]) (by rw [EI.out]), rfl⟩

theorem whole_r (s : ByteArray) (w : World) (hs : s.size ≤ 4000000000) (hi : intL s.data.toList = true) :
    Calls Tryd.prog 67 #[.string s] w fun e w' => e = .returned (.tuple #[.int .i64 (intV s), .int .i64 (intE s)]) ∧ w = w' := by
  unfold intL at hi
  rw [Bool.and_eq_true] at hi
  obtain ⟨h1, h2⟩ := hi
  have hl : s.data.toList.length = s.size := by simp
  have hne : bodyL s.data.toList ≠ [] := by
    intro e
    rw [e] at h2
    cases h2
  have h0 : 0 < s.size := by
    rcases Nat.eq_zero_or_pos s.size with h | h
    · rw [List.eq_nil_of_length_eq_zero (hl.trans h)] at hne
      exact absurd rfl hne
    · exact h
  have hc := uns_cons h0
  by_cases hs1 : s[0] = 45 ∨ s[0] = 43
  · have hb : bodyL s.data.toList = s.data.toList.drop 1 := by
      conv => lhs; rw [hc]
      unfold bodyL
      rcases hs1 with h | h
      · simp [h]
      · simp [h]
    have h3 : 1 < s.size := by
      have : 0 < (s.data.toList.drop 1).length := List.length_pos_iff.2 (by rw [← hb]; exact hne)
      rw [List.length_drop, hl] at this
      omega
    exact whole_off s 1 w hs (Nat.le_refl _) h3 hb (by rw [← hb]; exact h1) (fun _ => hs1.symm)
  · have hb : bodyL s.data.toList = s.data.toList := by
      conv => lhs; rw [hc]
      unfold bodyL
      show (if s[0] = 45 then _ else if s[0] = 43 then _ else s[0] :: s.data.toList.drop 1) = _
      rw [if_neg (fun e => hs1 (.inl e)), if_neg (fun e => hs1 (.inr e))]
      exact hc.symm
    exact whole_off s 0 w hs (Nat.zero_le _) h0 hb (by rw [List.drop_zero, ← hb]; exact h1) (fun e => by cases e)
end Go.Proofs.YtbmiogoigjdceaaDoor
namespace Go.Proofs.YtbmiogoigjdceaaDoor
open Go.RowKit Oct Fix Lex

set_option maxHeartbeats 2000000 in
theorem long_int (s : ByteArray) (n c : Int) (w : World) (hi : ∀ W : World, Calls Tryd.prog 66 #[.string s] W fun e w' => e = .returned (.bool true) ∧ W = w')
    (hw : ∀ W : World, Calls Tryd.prog 67 #[.string s] W fun e w' => e = .returned (.tuple #[.int .i64 n, .int .i64 c]) ∧ W = w') :
    Calls Tryd.prog 65 #[.string s] w fun e w' => e = .returned (.tuple #[.agg #[.int .i64 1, .int .i64 0, .int .i64 0, .int .i64 n, .string ⟨#[]⟩], .int .i64 c]) ∧ Below w.heap.size w w' := by
  have HI := Lib.hid hi
  have HW := Lib.hid hw
  clear hi hw
  go_enter Tryd.func65, Tryd.ntmps65
  go_wp2_with fail
  refine (HI.out _).mono ?_
  rintro e w' ⟨rfl, rfl⟩
  go_wp2_with fail
  refine (HW.out _).mono ?_
  rintro e w' ⟨rfl, rfl⟩
  go_wp2_with fail
  exact bodyPost_ret (v := .tuple #[.agg #[.int .i64 1, .int .i64 0, .int .i64 0, .int .i64 n, .string ⟨#[]⟩], .int .i64 c]) (by simp [results, Tryd.results65, go_sem]) rfl ⟨rfl, below_tok _ _ _⟩
set_option maxHeartbeats 2000000 in
theorem long_no (s : ByteArray) (w : World) (hi : ∀ W : World, Calls Tryd.prog 66 #[.string s] W fun e w' => e = .returned (.bool false) ∧ W = w') :
    Calls Tryd.prog 65 #[.string s] w fun e w' => e = .returned (.tuple #[.agg #[.int .i64 0, .int .i64 0, .int .i64 0, .int .i64 0, .string ⟨#[]⟩], .int .i64 5]) ∧ Below w.heap.size w w' := by
  have HI := Lib.hid hi
  clear hi
  go_enter Tryd.func65, Tryd.ntmps65
  go_wp2_with fail
  refine (HI.out _).mono ?_
  rintro e w' ⟨rfl, rfl⟩
  go_wp2_with fail
  exact bodyPost_ret (v := .tuple #[.agg #[.int .i64 0, .int .i64 0, .int .i64 0, .int .i64 0, .string ⟨#[]⟩], .int .i64 5]) (by simp [results, Tryd.results65, go_sem]) rfl ⟨rfl, below_tok _ _ _⟩

set_option maxHeartbeats 2000000 in
theorem word_long_int (s : ByteArray) (n c : Int) (w : World) (hz : 508 < s.size) (hl : ∀ W : World, Calls Tryd.prog 65 #[.string s] W fun e w' => e = .returned (.tuple #[.agg #[.int .i64 1, .int .i64 0, .int .i64 0, .int .i64 n, .string ⟨#[]⟩], .int .i64 c]) ∧ Below W.heap.size W w') :
    Calls Tryd.prog 45 #[.string s] w fun e w' => e = .returned (.tuple #[.agg #[.int .i64 1, .int .i64 0, .int .i64 0, .int .i64 n, .string ⟨#[]⟩], .int .i64 c]) ∧ Below w.heap.size w w' := by
  have hz' : (508 : Int) < (s.size : Int) := by omega
  have HL := Lib.hid hl
  clear hl
  go_enter Tryd.func45, Tryd.ntmps45
  go_wp2_with fail
  refine (HL.out _).mono ?_
  rintro e w2 ⟨rfl, hb⟩
  simp at hb
  have hB := tok_cell hb
  have HB := Lib.hid (tok_below hb)
  have hg := HB.out.size
  have c0 := hB.cell 0
  have c1 := hB.cell 1
  have c2 := hB.cell 2
  have c3 := hB.cell 3
  have c4 := hB.cell 4
  have f0 := hB.frozen 0
  have f1 := hB.frozen 1
  have f2 := hB.frozen 2
  have f3 := hB.frozen 3
  have f4 := hB.frozen 4
  clear hb hB
  simp only [List.getElem?_toArray, List.getElem?_cons_zero, List.getElem?_cons_succ] at c0 c1 c2 c3 c4
  go_wp2_with fail
  exact bodyPost_ret (v := .tuple #[.agg #[.int .i64 1, .int .i64 0, .int .i64 0, .int .i64 n, .string ⟨#[]⟩], .int .i64 c]) (by simp [results, Tryd.results45, go_sem, c0, c1, c2, c3, c4]) rfl ⟨rfl, set_below (set_below (set_below (set_below (set_below HB.out _ _) _ _) _ _) _ _) _ _⟩

set_option maxHeartbeats 2000000 in
theorem word_long_no (s : ByteArray) (_n _c : Int) (w : World) (hz : 508 < s.size) (hl : ∀ W : World, Calls Tryd.prog 65 #[.string s] W fun e w' => e = .returned (.tuple #[.agg #[.int .i64 0, .int .i64 0, .int .i64 0, .int .i64 0, .string ⟨#[]⟩], .int .i64 5]) ∧ Below W.heap.size W w') :
    Calls Tryd.prog 45 #[.string s] w fun e w' => e = .returned (.tuple #[.agg #[.int .i64 0, .int .i64 0, .int .i64 0, .int .i64 0, .string ⟨#[]⟩], .int .i64 5]) ∧ Below w.heap.size w w' := by
  have hz' : (508 : Int) < (s.size : Int) := by omega
  have HL := Lib.hid hl
  clear hl
  go_enter Tryd.func45, Tryd.ntmps45
  go_wp2_with fail
  refine (HL.out _).mono ?_
  rintro e w2 ⟨rfl, hb⟩
  simp at hb
  have hB := tok_cell hb
  have HB := Lib.hid (tok_below hb)
  have hg := HB.out.size
  have c0 := hB.cell 0
  have c1 := hB.cell 1
  have c2 := hB.cell 2
  have c3 := hB.cell 3
  have c4 := hB.cell 4
  have f0 := hB.frozen 0
  have f1 := hB.frozen 1
  have f2 := hB.frozen 2
  have f3 := hB.frozen 3
  have f4 := hB.frozen 4
  clear hb hB
  simp only [List.getElem?_toArray, List.getElem?_cons_zero, List.getElem?_cons_succ] at c0 c1 c2 c3 c4
  go_wp2_with fail
  exact bodyPost_ret (v := .tuple #[.agg #[.int .i64 0, .int .i64 0, .int .i64 0, .int .i64 0, .string ⟨#[]⟩], .int .i64 5]) (by simp [results, Tryd.results45, go_sem, c0, c1, c2, c3, c4]) rfl ⟨rfl, set_below (set_below (set_below (set_below (set_below HB.out _ _) _ _) _ _) _ _) _ _⟩

set_option maxHeartbeats 2000000 in
theorem word_int (s : ByteArray) (n c : Int) (w : World) (hz : s.size ≤ 508) (hi : ∀ W : World, Calls Tryd.prog 66 #[.string s] W fun e w' => e = .returned (.bool true) ∧ W = w') (hw : ∀ W : World, Calls Tryd.prog 67 #[.string s] W fun e w' => e = .returned (.tuple #[.int .i64 n, .int .i64 c]) ∧ W = w') :
    Calls Tryd.prog 45 #[.string s] w fun e w' => e = .returned (.tuple #[.agg #[.int .i64 1, .int .i64 0, .int .i64 0, .int .i64 n, .string ⟨#[]⟩], .int .i64 c]) ∧ Below w.heap.size w w' := by
  have hz' : ¬ (508 : Int) < (s.size : Int) := by omega
  have HI := Lib.hid hi
  have HW := Lib.hid hw
  clear hi hw
  go_enter Tryd.func45, Tryd.ntmps45
  go_wp2_with fail
  refine (HI.out _).mono ?_
  rintro e w' ⟨rfl, rfl⟩
  go_wp2_with fail
  refine (HW.out _).mono ?_
  rintro e w' ⟨rfl, rfl⟩
  go_wp2_with fail
  exact bodyPost_ret (v := .tuple #[.agg #[.int .i64 1, .int .i64 0, .int .i64 0, .int .i64 n, .string ⟨#[]⟩], .int .i64 c]) (by simp [results, Tryd.results45, go_sem]) rfl ⟨rfl, below_tok _ _ _⟩

set_option maxHeartbeats 2000000 in
theorem word_real (s : ByteArray) (n _c : Int) (w : World) (hz : s.size ≤ 508) (hi : ∀ W : World, Calls Tryd.prog 66 #[.string s] W fun e w' => e = .returned (.bool false) ∧ W = w') (hp : ∀ W : World, Calls Tryd.prog 68 #[.string s] W fun e w' => e = .returned (.bool true) ∧ W = w') (hr : ∀ W : World, Calls Tryd.prog 69 #[.string s] W fun e w' => e = .returned (.tuple #[.int .i64 n, .int .i64 0]) ∧ W = w') :
    Calls Tryd.prog 45 #[.string s] w fun e w' => e = .returned (.tuple #[.agg #[.int .i64 2, .int .i64 0, .int .i64 0, .int .i64 n, .string ⟨#[]⟩], .int .i64 0]) ∧ Below w.heap.size w w' := by
  have hz' : ¬ (508 : Int) < (s.size : Int) := by omega
  have HI := Lib.hid hi
  have HP := Lib.hid hp
  have HR := Lib.hid hr
  clear hi hp hr
  go_enter Tryd.func45, Tryd.ntmps45
  go_wp2_with fail
  refine (HI.out _).mono ?_
  rintro e w' ⟨rfl, rfl⟩
  go_wp2_with fail
  refine (HP.out _).mono ?_
  rintro e w' ⟨rfl, rfl⟩
  go_wp2_with fail
  refine (HR.out _).mono ?_
  rintro e w' ⟨rfl, rfl⟩
  go_wp2_with fail
  exact bodyPost_ret (v := .tuple #[.agg #[.int .i64 2, .int .i64 0, .int .i64 0, .int .i64 n, .string ⟨#[]⟩], .int .i64 0]) (by simp [results, Tryd.results45, go_sem]) rfl ⟨rfl, below_tok _ _ _⟩

set_option maxHeartbeats 2000000 in
theorem word_realbad (s : ByteArray) (n _c : Int) (w : World) (hz : s.size ≤ 508) (hi : ∀ W : World, Calls Tryd.prog 66 #[.string s] W fun e w' => e = .returned (.bool false) ∧ W = w') (hp : ∀ W : World, Calls Tryd.prog 68 #[.string s] W fun e w' => e = .returned (.bool true) ∧ W = w') (hr : ∀ W : World, Calls Tryd.prog 69 #[.string s] W fun e w' => e = .returned (.tuple #[.int .i64 n, .int .i64 2]) ∧ W = w') :
    Calls Tryd.prog 45 #[.string s] w fun e w' => e = .returned (.tuple #[.agg #[.int .i64 2, .int .i64 0, .int .i64 0, .int .i64 n, .string ⟨#[]⟩], .int .i64 2]) ∧ Below w.heap.size w w' := by
  have hz' : ¬ (508 : Int) < (s.size : Int) := by omega
  have HI := Lib.hid hi
  have HP := Lib.hid hp
  have HR := Lib.hid hr
  clear hi hp hr
  go_enter Tryd.func45, Tryd.ntmps45
  go_wp2_with fail
  refine (HI.out _).mono ?_
  rintro e w' ⟨rfl, rfl⟩
  go_wp2_with fail
  refine (HP.out _).mono ?_
  rintro e w' ⟨rfl, rfl⟩
  go_wp2_with fail
  refine (HR.out _).mono ?_
  rintro e w' ⟨rfl, rfl⟩
  go_wp2_with fail
  exact bodyPost_ret (v := .tuple #[.agg #[.int .i64 2, .int .i64 0, .int .i64 0, .int .i64 n, .string ⟨#[]⟩], .int .i64 2]) (by simp [results, Tryd.results45, go_sem]) rfl ⟨rfl, below_tok _ _ _⟩

set_option maxHeartbeats 2000000 in
theorem word_pword (s : ByteArray) (n _c : Int) (w : World) (hz : s.size ≤ 508) (hk : s.size ≤ 127) (hi : ∀ W : World, Calls Tryd.prog 66 #[.string s] W fun e w' => e = .returned (.bool false) ∧ W = w') (hp : ∀ W : World, Calls Tryd.prog 68 #[.string s] W fun e w' => e = .returned (.bool true) ∧ W = w') (hr : ∀ W : World, Calls Tryd.prog 69 #[.string s] W fun e w' => e = .returned (.tuple #[.int .i64 n, .int .i64 3]) ∧ W = w') :
    Calls Tryd.prog 45 #[.string s] w fun e w' => e = .returned (.tuple #[.agg #[.int .i64 5, .int .i64 0, .int .i64 0, .int .i64 0, .string s], .int .i64 0]) ∧ Below w.heap.size w w' := by
  have hz' : ¬ (508 : Int) < (s.size : Int) := by omega
  have hk' : ¬ (127 : Int) < (s.size : Int) := by omega
  have HI := Lib.hid hi
  have HP := Lib.hid hp
  have HR := Lib.hid hr
  clear hi hp hr
  go_enter Tryd.func45, Tryd.ntmps45
  go_wp2_with fail
  refine (HI.out _).mono ?_
  rintro e w' ⟨rfl, rfl⟩
  go_wp2_with fail
  refine (HP.out _).mono ?_
  rintro e w' ⟨rfl, rfl⟩
  go_wp2_with fail
  refine (HR.out _).mono ?_
  rintro e w' ⟨rfl, rfl⟩
  go_wp2_with fail
  exact bodyPost_ret (v := .tuple #[.agg #[.int .i64 5, .int .i64 0, .int .i64 0, .int .i64 0, .string s], .int .i64 0]) (by simp [results, Tryd.results45, go_sem]) rfl ⟨rfl, below_tok _ _ _⟩

set_option maxHeartbeats 2000000 in
theorem word_plong (s : ByteArray) (n _c : Int) (w : World) (hz : s.size ≤ 508) (hk : 127 < s.size) (hi : ∀ W : World, Calls Tryd.prog 66 #[.string s] W fun e w' => e = .returned (.bool false) ∧ W = w') (hp : ∀ W : World, Calls Tryd.prog 68 #[.string s] W fun e w' => e = .returned (.bool true) ∧ W = w') (hr : ∀ W : World, Calls Tryd.prog 69 #[.string s] W fun e w' => e = .returned (.tuple #[.int .i64 n, .int .i64 3]) ∧ W = w') :
    Calls Tryd.prog 45 #[.string s] w fun e w' => e = .returned (.tuple #[.agg #[.int .i64 0, .int .i64 0, .int .i64 0, .int .i64 0, .string ⟨#[]⟩], .int .i64 5]) ∧ Below w.heap.size w w' := by
  have hz' : ¬ (508 : Int) < (s.size : Int) := by omega
  have hk' : (127 : Int) < (s.size : Int) := by omega
  have HI := Lib.hid hi
  have HP := Lib.hid hp
  have HR := Lib.hid hr
  clear hi hp hr
  go_enter Tryd.func45, Tryd.ntmps45
  go_wp2_with fail
  refine (HI.out _).mono ?_
  rintro e w' ⟨rfl, rfl⟩
  go_wp2_with fail
  refine (HP.out _).mono ?_
  rintro e w' ⟨rfl, rfl⟩
  go_wp2_with fail
  refine (HR.out _).mono ?_
  rintro e w' ⟨rfl, rfl⟩
  go_wp2_with fail
  exact bodyPost_ret (v := .tuple #[.agg #[.int .i64 0, .int .i64 0, .int .i64 0, .int .i64 0, .string ⟨#[]⟩], .int .i64 5]) (by simp [results, Tryd.results45, go_sem]) rfl ⟨rfl, below_tok _ _ _⟩

set_option maxHeartbeats 2000000 in
theorem word_word (s : ByteArray) (_n _c : Int) (w : World) (hz : s.size ≤ 508) (hk : s.size ≤ 127) (hi : ∀ W : World, Calls Tryd.prog 66 #[.string s] W fun e w' => e = .returned (.bool false) ∧ W = w') (hp : ∀ W : World, Calls Tryd.prog 68 #[.string s] W fun e w' => e = .returned (.bool false) ∧ W = w') :
    Calls Tryd.prog 45 #[.string s] w fun e w' => e = .returned (.tuple #[.agg #[.int .i64 5, .int .i64 0, .int .i64 0, .int .i64 0, .string s], .int .i64 0]) ∧ Below w.heap.size w w' := by
  have hz' : ¬ (508 : Int) < (s.size : Int) := by omega
  have hk' : ¬ (127 : Int) < (s.size : Int) := by omega
  have HI := Lib.hid hi
  have HP := Lib.hid hp
  clear hi hp
  go_enter Tryd.func45, Tryd.ntmps45
  go_wp2_with fail
  refine (HI.out _).mono ?_
  rintro e w' ⟨rfl, rfl⟩
  go_wp2_with fail
  refine (HP.out _).mono ?_
  rintro e w' ⟨rfl, rfl⟩
  go_wp2_with fail
  exact bodyPost_ret (v := .tuple #[.agg #[.int .i64 5, .int .i64 0, .int .i64 0, .int .i64 0, .string s], .int .i64 0]) (by simp [results, Tryd.results45, go_sem]) rfl ⟨rfl, below_tok _ _ _⟩

set_option maxHeartbeats 2000000 in
theorem word_long (s : ByteArray) (_n _c : Int) (w : World) (hz : s.size ≤ 508) (hk : 127 < s.size) (hi : ∀ W : World, Calls Tryd.prog 66 #[.string s] W fun e w' => e = .returned (.bool false) ∧ W = w') (hp : ∀ W : World, Calls Tryd.prog 68 #[.string s] W fun e w' => e = .returned (.bool false) ∧ W = w') :
    Calls Tryd.prog 45 #[.string s] w fun e w' => e = .returned (.tuple #[.agg #[.int .i64 0, .int .i64 0, .int .i64 0, .int .i64 0, .string ⟨#[]⟩], .int .i64 5]) ∧ Below w.heap.size w w' := by
  have hz' : ¬ (508 : Int) < (s.size : Int) := by omega
  have hk' : (127 : Int) < (s.size : Int) := by omega
  have HI := Lib.hid hi
  have HP := Lib.hid hp
  clear hi hp
  go_enter Tryd.func45, Tryd.ntmps45
  go_wp2_with fail
  refine (HI.out _).mono ?_
  rintro e w' ⟨rfl, rfl⟩
  go_wp2_with fail
  refine (HP.out _).mono ?_
  rintro e w' ⟨rfl, rfl⟩
  go_wp2_with fail
  exact bodyPost_ret (v := .tuple #[.agg #[.int .i64 0, .int .i64 0, .int .i64 0, .int .i64 0, .string ⟨#[]⟩], .int .i64 5]) (by simp [results, Tryd.results45, go_sem]) rfl ⟨rfl, below_tok _ _ _⟩

/-- What word answers: the run's reading, or its error with a token that nobody reads. -/
def WordEnd (s : ByteArray) (R : TR) : Prop :=
  ∃ (k n : Int) (b : ByteArray), (R.err = 0 → k = R.kind ∧ n = R.num ∧ b.data.toList = R.txt) ∧ ∀ w : World, Calls Tryd.prog 45 #[.string s] w fun e w' => e = .returned (.tuple #[.agg #[.int .i64 k, .int .i64 0, .int .i64 0, .int .i64 n, .string b], .int .i64 R.err]) ∧ Below w.heap.size w w'
theorem wordEnd_ok {s : ByteArray} {R : TR} {k n : Int} {m : Nat} {b : ByteArray} (hR : R = ⟨0, k, m, n, b.data.toList⟩)
    (h : ∀ w : World, Calls Tryd.prog 45 #[.string s] w fun e w' => e = .returned (.tuple #[.agg #[.int .i64 k, .int .i64 0, .int .i64 0, .int .i64 n, .string b], .int .i64 0]) ∧ Below w.heap.size w w') : WordEnd s R := by
  subst hR
  exact ⟨k, n, b, fun _ => ⟨rfl, rfl, rfl⟩, h⟩
theorem wordEnd_bad {s : ByteArray} {R : TR} {k n c : Int} {b : ByteArray} (hR : R = bad c) (hc : c ≠ 0)
    (h : ∀ w : World, Calls Tryd.prog 45 #[.string s] w fun e w' => e = .returned (.tuple #[.agg #[.int .i64 k, .int .i64 0, .int .i64 0, .int .i64 n, .string b], .int .i64 c]) ∧ Below w.heap.size w w') : WordEnd s R := by
  subst hR
  exact ⟨k, n, b, fun h => absurd h hc, h⟩
theorem good_short {l : List UInt8} (h : 508 < l.length) : goodR l = false := by
  unfold goodR
  rw [decide_eq_false (by omega), Bool.false_and]

theorem word_r (s : ByteArray) (R : TR) (hs : s.size ≤ 4000000000) (hR : wordU s.data.toList = R) : WordEnd s R := by
  have hl : s.data.toList.length = s.size := by simp
  have hi := fun W : World => integer_r s W hs
  have hw := fun (h : intL s.data.toList = true) (W : World) => whole_r s W hs h
  have hp := fun W : World => point_r s W hs
  have hr : ∀ W : World, Calls Tryd.prog 69 #[.string s] W fun e w' => e = .returned (.tuple #[.int .i64 (readN s.data.toList), .int .i64 (readE s.data.toList)]) ∧ W = w' := fun W => (readR_any s W).mono fun _ _ h => h
  unfold wordU at hR
  by_cases h1 : intL s.data.toList = true
  · rw [if_pos h1] at hR
    have hw := hw h1
    simp only [h1] at hi
    unfold intV intE at hw
    by_cases h2 : 2147483647 < valL 0 (bodyL s.data.toList)
    · rw [if_pos h2] at hR
      simp only [if_pos h2] at hw
      by_cases hz : s.size ≤ 508
      · exact wordEnd_bad hR.symm (by decide) fun w => word_int s 0 2 w hz hi hw
      · exact wordEnd_bad hR.symm (by decide) fun w => word_long_int s 0 2 w (by omega) fun W => long_int s 0 2 W hi hw
    · rw [if_neg h2] at hR
      simp only [if_neg h2] at hw
      by_cases hz : s.size ≤ 508
      · exact wordEnd_ok (m := s.data.toList.length) (b := ⟨#[]⟩) hR.symm fun w => word_int s _ 0 w hz hi hw
      · exact wordEnd_ok (m := s.data.toList.length) (b := ⟨#[]⟩) hR.symm fun w => word_long_int s _ 0 w (by omega) fun W => long_int s _ 0 W hi hw
  · rw [if_neg h1] at hR
    have h1' : intL s.data.toList = false := by simpa using h1
    simp only [h1'] at hi
    by_cases hz : s.size ≤ 508
    · by_cases h2 : s.data.toList.contains 46 = true
      · unfold hasPoint at hp
        simp only [h2] at hp
        rw [h2] at hR
        have e3 : readE s.data.toList = 0 ∨ readE s.data.toList = 2 ∨ readE s.data.toList = 3 := by
          unfold readE
          repeat' split
          all_goals simp
        rcases e3 with e3 | e3 | e3
        · rw [if_pos (by simp [e3])] at hR
          exact wordEnd_ok (m := s.data.toList.length) (b := ⟨#[]⟩) hR.symm fun w => word_real s _ 0 w hz hi hp (by simpa only [e3] using hr)
        · rw [if_neg (by simp [e3]), if_pos (by simp [e3])] at hR
          exact wordEnd_bad hR.symm (by decide) fun w => word_realbad s _ 0 w hz hi hp (by simpa only [e3] using hr)
        · rw [if_neg (by simp [e3]), if_neg (by simp [e3])] at hR
          by_cases h4 : 127 < s.data.toList.length
          · rw [if_pos h4] at hR
            exact wordEnd_bad hR.symm (by decide) fun w => word_plong s _ 0 w hz (by omega) hi hp (by simpa only [e3] using hr)
          · rw [if_neg h4] at hR
            exact wordEnd_ok (m := s.data.toList.length) hR.symm fun w => word_pword s _ 0 w hz (by omega) hi hp (by simpa only [e3] using hr)
      · have h2' : s.data.toList.contains 46 = false := by simpa using h2
        unfold hasPoint at hp
        simp only [h2'] at hp
        rw [h2', if_neg (by simp), if_neg (by simp)] at hR
        by_cases h4 : 127 < s.data.toList.length
        · rw [if_pos h4] at hR
          exact wordEnd_bad hR.symm (by decide) fun w => word_long s 0 0 w hz (by omega) hi hp
        · rw [if_neg h4] at hR
          exact wordEnd_ok (m := s.data.toList.length) hR.symm fun w => word_word s 0 0 w hz (by omega) hi hp
    · have e3 : readE s.data.toList = 3 := by unfold readE; rw [if_neg (by rw [good_short (by omega)]; decide)]
      rw [if_neg (by simp [e3]), if_neg (by simp [e3]), if_pos (by omega)] at hR
      exact wordEnd_bad hR.symm (by decide) fun w => word_long_no s 0 0 w (by omega) fun W => long_no s W hi
end Go.Proofs.YtbmiogoigjdceaaDoor
