/-
  Lemmas and walks, joined: PlnOw.
-/
import Derived.Test.YtpngnekoocpncaaDoorM20
namespace Go.Proofs.YtpngnekoocpncaaDoor
open Go.RowKit Oct Fix Lex

theorem str_beq {a b : ByteArray} {q : Bool} (h : decide (a.data.toList = b.data.toList) = q) : (a.toList == b.toList) = q := by
  rw [← h, Lib.toList_data, Lib.toList_data]
  by_cases e : a.data.toList = b.data.toList
  · rw [decide_eq_true e, e, beq_self_eq_true]
  · rw [decide_eq_false e]; exact beq_eq_false_iff_ne.2 e
theorem beq_of {a b c d : ByteArray} {q : Bool} (h : (a.toList == b.toList) = q) (hi : c.data.toList = d.data.toList ↔ a.data.toList = b.data.toList) : (c.toList == d.toList) = q := by
  rw [← h]
  exact str_beq (by
    rw [Lib.toList_data, Lib.toList_data]
    by_cases e : a.data.toList = b.data.toList
    · rw [decide_eq_true (hi.2 e), e, beq_self_eq_true]
    · rw [decide_eq_false (fun h => e (hi.1 h))]; exact (beq_eq_false_iff_ne.2 e).symm)
theorem str_neq {a b : ByteArray} (h : a.data.toList ≠ b.data.toList) : (a.toList == b.toList) = false := str_beq (decide_eq_false h)

/-- A number's two texts: what the walk asks of them. -/
def IsInt (n : Int) : Prop := -2147483647 ≤ n ∧ n ≤ 2147483647
def IsReal (n : Int) : Prop := -1073741824 ≤ n ∧ n ≤ 1073741824

section
variable (n m : Int) (s t : ByteArray) (w : World)

/-- What is left of the law behind its numbers, as the calls answer. -/
structure OwTail where
  g1 : ByteArray
  g2 : ByteArray
  h1 : ByteArray
  h2 : ByteArray
  q : Bool
  e1 : Int
  e2 : Int
  str1 : ∀ W : World, Calls Tryd.prog 13 #[.string s] W fun e w' => e = .returned (.tuple #[.string g1, .int .i64 0]) ∧ Below W.heap.size W w'
  str2 : ∀ W : World, Calls Tryd.prog 13 #[.string t] W fun e w' => e = .returned (.tuple #[.string g2, .int .i64 0]) ∧ Below W.heap.size W w'
  name1 : ∀ W : World, Calls Tryd.prog 17 #[.string s] W fun e w' => e = .returned (.tuple #[.string h1, .int .i64 e1]) ∧ Below W.heap.size W w'
  name2 : ∀ W : World, Calls Tryd.prog 17 #[.string t] W fun e w' => e = .returned (.tuple #[.string h2, .int .i64 e2]) ∧ Below W.heap.size W w'
  same : (s.toList == t.toList) = q
  strs : (g1.toList == g2.toList) = q
  ways : e1 = 3 ∨ (e1 = 0 ∧ e2 = 3) ∨ (e1 = 0 ∧ e2 = 0 ∧ (h1.toList == h2.toList) = q)
theorem owTail (hs : s.size ≤ 120) (ht : t.size ≤ 120) : Nonempty (OwTail s t) := by
  have l1 : longE s.size = 0 := by unfold longE; rw [if_neg (by omega)]
  have l2 : longE t.size = 0 := by unfold longE; rw [if_neg (by omega)]
  have x1 : strX s = strL s.data.toList := by unfold strX; rw [if_neg (by omega)]
  have x2 : strX t = strL t.data.toList := by unfold strX; rw [if_neg (by omega)]
  refine ⟨⟨bOf (strX s), bOf (strX t), bOf (nameX s), bOf (nameX t), (s.toList == t.toList), nameE s, nameE t, fun W => l1 ▸ plnString_any s W, fun W => l2 ▸ plnString_any t W, fun W => plnName_any s W (by omega), fun W => plnName_any t W (by omega), rfl, ?_, ?_⟩⟩
  · refine beq_of rfl ?_
    rw [x1, x2]
    exact ⟨fun h => str_inj h, fun h => by rw [h]⟩
  · by_cases z1 : (0 : UInt8) ∈ s.data.toList
    · exact .inl (name_zero (by omega) z1).2
    · obtain ⟨a1, a2⟩ := name_good (s := s) (by omega) z1
      by_cases z2 : (0 : UInt8) ∈ t.data.toList
      · exact .inr (.inl ⟨a2, (name_zero (by omega) z2).2⟩)
      · obtain ⟨b1, b2⟩ := name_good (s := t) (by omega) z2
        refine .inr (.inr ⟨a2, b2, beq_of rfl ?_⟩)
        rw [a1, b1]
        exact ⟨fun h => name_inj z1 z2 h, fun h => by rw [h]⟩

/-- The law's numbers, as the calls answer. -/
structure OwHead where
  a1 : ByteArray
  a2 : ByteArray
  c1 : ByteArray
  c2 : ByteArray
  r : Bool
  e1 : Int
  e2 : Int
  f1 : Int
  f2 : Int
  int1 : ∀ (W : World) (_ : Tab10 W), Calls Tryd.prog 9 #[.int .i64 n] W fun e w' => e = .returned (.tuple #[.string a1, .int .i64 e1]) ∧ Below W.heap.size W w'
  int2 : ∀ (W : World) (_ : Tab10 W), Calls Tryd.prog 9 #[.int .i64 m] W fun e w' => e = .returned (.tuple #[.string a2, .int .i64 e2]) ∧ Below W.heap.size W w'
  real1 : ∀ (W : World) (_ : Tab10 W), Calls Tryd.prog 11 #[.int .i64 n] W fun e w' => e = .returned (.tuple #[.string c1, .int .i64 f1]) ∧ Below W.heap.size W w'
  real2 : ∀ (W : World) (_ : Tab10 W), Calls Tryd.prog 11 #[.int .i64 m] W fun e w' => e = .returned (.tuple #[.string c2, .int .i64 f2]) ∧ Below W.heap.size W w'
  same : (n == m) = r
  ways : (e1 = 2 ∧ f1 = 2) ∨ (e1 = 0 ∧ f1 = 2 ∧ e2 = 2 ∧ f2 = 2) ∨ (e1 = 0 ∧ f1 = 2 ∧ e2 = 0 ∧ f2 = 2 ∧ (a1.toList == a2.toList) = r) ∨ (e1 = 0 ∧ f1 = 2 ∧ e2 = 0 ∧ f2 = 0 ∧ (a1.toList == a2.toList) = r ∧ (a1.toList == c2.toList) = false) ∨
    (e1 = 0 ∧ f1 = 0 ∧ e2 = 2 ∧ f2 = 2) ∨ (e1 = 0 ∧ f1 = 0 ∧ e2 = 0 ∧ f2 = 2 ∧ (a1.toList == a2.toList) = r) ∨ (e1 = 0 ∧ f1 = 0 ∧ e2 = 0 ∧ f2 = 0 ∧ (a1.toList == a2.toList) = r ∧ (c1.toList == c2.toList) = r ∧ (a1.toList == c2.toList) = false)
theorem owHead : Nonempty (OwHead n m) := by
  have hI : IsInt n → IsInt m → (( bOf (pIntX n)).toList == (bOf (pIntX m)).toList) = (n == m) := fun h1 h2 => by
    unfold IsInt at h1 h2
    refine str_beq ?_
    rw [bOf_list, bOf_list, (pInt_in (n := n) (by omega)).1, (pInt_in (n := m) (by omega)).1]
    by_cases e : n = m
    · subst e; simp
    · rw [decide_eq_false (fun h => e (itoa_inj h h1.1 h1.2 h2.1 h2.2))]; simp [e]
  have hR : IsReal n → IsReal m → ((bOf (textL n)).toList == (bOf (textL m)).toList) = (n == m) := fun h1 h2 => by
    unfold IsReal at h1 h2
    refine str_beq ?_
    rw [bOf_list, bOf_list]
    by_cases e : n = m
    · subst e; simp
    · rw [decide_eq_false (fun h => e (textL_inj h h1.1 h1.2 h2.1 h2.2))]; simp [e]
  have hX : IsInt n → IsReal m → ((bOf (pIntX n)).toList == (bOf (textL m)).toList) = false := fun h1 h2 => by
    unfold IsInt at h1
    unfold IsReal at h2
    refine str_neq ?_
    rw [bOf_list, bOf_list, (pInt_in (n := n) (by omega)).1]
    exact fun h => itoa_text h h1.1 h1.2 h2.1 h2.2
  have i1 : ∀ n, IsInt n → pIntE n = 0 := fun n h => (pInt_in (by unfold IsInt at h; omega)).2
  have i2 : ∀ n, ¬ IsInt n → pIntE n = 2 := fun n h => (pInt_out (by unfold IsInt at h; omega)).2
  have r1 : ∀ n, IsReal n → pRealE n = 0 := fun n h => pReal_in (by unfold IsReal at h; omega)
  have r2 : ∀ n, ¬ IsReal n → pRealE n = 2 := fun n h => (pReal_out (by unfold IsReal at h; omega)).2
  have ri : ∀ n, IsReal n → IsInt n := fun n h => by unfold IsReal at h; unfold IsInt; omega
  refine ⟨⟨bOf (pIntX n), bOf (pIntX m), bOf (textL n), bOf (textL m), (n == m), pIntE n, pIntE m, pRealE n, pRealE m, fun W h => plnInt_any n W h, fun W h => plnInt_any m W h, fun W h => plnReal_any n W h, fun W h => plnReal_any m W h, rfl, ?_⟩⟩
  by_cases h1 : IsInt n
  · by_cases h2 : IsReal n
    · by_cases h3 : IsInt m
      · by_cases h4 : IsReal m
        · exact .inr (.inr (.inr (.inr (.inr (.inr ⟨i1 _ h1, r1 _ h2, i1 _ h3, r1 _ h4, hI h1 h3, hR h2 h4, hX h1 h4⟩)))))
        · exact .inr (.inr (.inr (.inr (.inr (.inl ⟨i1 _ h1, r1 _ h2, i1 _ h3, r2 _ h4, hI h1 h3⟩)))))
      · exact .inr (.inr (.inr (.inr (.inl ⟨i1 _ h1, r1 _ h2, i2 _ h3, r2 _ (fun h => h3 (ri _ h))⟩))))
    · by_cases h3 : IsInt m
      · by_cases h4 : IsReal m
        · exact .inr (.inr (.inr (.inl ⟨i1 _ h1, r2 _ h2, i1 _ h3, r1 _ h4, hI h1 h3, hX h1 h4⟩)))
        · exact .inr (.inr (.inl ⟨i1 _ h1, r2 _ h2, i1 _ h3, r2 _ h4, hI h1 h3⟩))
      · exact .inr (.inl ⟨i1 _ h1, r2 _ h2, i2 _ h3, r2 _ (fun h => h3 (ri _ h))⟩)
  · exact .inl ⟨i2 _ h1, r2 _ (fun h => h1 (ri _ h))⟩
end

set_option maxRecDepth 100000 in
set_option maxHeartbeats 4000000 in
theorem oneWay_out (n m : Int) (s t : ByteArray) (w : World) (hw : PLive w) (h : 120 < s.size ∨ 120 < t.size) :
    Calls Tryd.prog 4 #[.int .i64 n, .int .i64 m, .string s, .string t] w fun e w' => e = .returned (.bool true) ∧ Below w.heap.size w w' := by
  have HL := Lib.hid hw
  clear hw
  rcases (by omega : 120 < s.size ∨ (s.size ≤ 120 ∧ 120 < t.size)) with h | h
  all_goals
    go_enter Tryd.func4, Tryd.ntmps4
    go_wp2_with fail
    refine (plnLives_any _ HL.out.2).mono ?_
    rintro e w3 ⟨rfl, hb3⟩
    go_wp2_with fail
    go_ret
    exact ⟨rfl, hb3⟩

set_option maxRecDepth 100000 in
set_option maxHeartbeats 16000000 in
theorem oneWay_in (n m : Int) (s t : ByteArray) (w : World) (hw : PLive w) (hs : s.size ≤ 120) (ht : t.size ≤ 120) :
    Calls Tryd.prog 4 #[.int .i64 n, .int .i64 m, .string s, .string t] w fun e w' => e = .returned (.bool true) ∧ Below w.heap.size w w' := by
  have HL0 := Lib.hid hw
  clear hw
  obtain ⟨a1, a2, c1, c2, r, e1, e2, f1, f2, int1, int2, real1, real2, hr, hways⟩ := owHead n m
  obtain ⟨g1, g2, h1, h2, q, k1, k2, str1, str2, name1, name2, hq, hqs, hways2⟩ := owTail s t hs ht
  have HI1 := Lib.hid int1; have HI2 := Lib.hid int2; have HR1 := Lib.hid real1; have HR2 := Lib.hid real2
  have HS1 := Lib.hid str1; have HS2 := Lib.hid str2; have HN1 := Lib.hid name1; have HN2 := Lib.hid name2
  have HQ := Lib.hid (And.intro hq hqs)
  have HR := Lib.hid hr
  have HW := Lib.hid hways
  have HW2 := Lib.hid hways2
  clear int1 int2 real1 real2 str1 str2 name1 name2 hq hqs hr hways hways2
  go_enter Tryd.func4, Tryd.ntmps4
  go_wp2_with fail
  refine (plnLives_any _ HL0.out.2).mono ?_
  rintro e w1 ⟨rfl, hb⟩
  have HB1 := Lib.hid hb
  have HL1 := Lib.hid (HL0.out.below HB1.out (Nat.le_refl _))
  clear hb
  go_wp2_with fail
  refine (HI1.out _ HL1.out.2).mono ?_
  rintro e w2 ⟨rfl, hb⟩
  have HB2 := Lib.hid (HB1.out.trans (hb.mono HB1.out.size))
  have HL2 := Lib.hid (HL0.out.below HB2.out (Nat.le_refl _))
  clear hb
  go_wp2_with fail
  refine (HI2.out _ HL2.out.2).mono ?_
  rintro e w3 ⟨rfl, hb⟩
  have HB3 := Lib.hid (HB2.out.trans (hb.mono HB2.out.size))
  have HL3 := Lib.hid (HL0.out.below HB3.out (Nat.le_refl _))
  clear hb
  go_wp2_with fail
  refine (HR1.out _ HL3.out.2).mono ?_
  rintro e w4 ⟨rfl, hb⟩
  have HB4 := Lib.hid (HB3.out.trans (hb.mono HB3.out.size))
  have HL4 := Lib.hid (HL0.out.below HB4.out (Nat.le_refl _))
  clear hb
  go_wp2_with fail
  refine (HR2.out _ HL4.out.2).mono ?_
  rintro e w5 ⟨rfl, hb⟩
  have HB5 := Lib.hid (HB4.out.trans (hb.mono HB4.out.size))
  clear hb HI1 HI2 HR1 HR2
  have hr := HR.out
  have hways := HW.out
  clear HW HR
  rcases hways with ⟨rfl, rfl⟩ | ⟨rfl, rfl, rfl, rfl⟩ | ⟨rfl, rfl, rfl, rfl, x1⟩ | ⟨rfl, rfl, rfl, rfl, x1, x2⟩ | ⟨rfl, rfl, rfl, rfl⟩ | ⟨rfl, rfl, rfl, rfl, x1⟩ | ⟨rfl, rfl, rfl, rfl, x1, x2, x3⟩
  all_goals
    go_wp2_with fail
    refine (HS1.out _).mono ?_
    rintro e w6 ⟨rfl, hb⟩
    have HB6 := Lib.hid (HB5.out.trans (hb.mono HB5.out.size))
    clear hb
    try clear hr
    try clear x1
    try clear x2
    try clear x3
    go_wp2_with fail
    refine (HS2.out _).mono ?_
    rintro e w7 ⟨rfl, hb⟩
    have HB7 := Lib.hid (HB6.out.trans (hb.mono HB6.out.size))
    clear hb
    go_wp2_with fail
    refine (HN1.out _).mono ?_
    rintro e w8 ⟨rfl, hb⟩
    have HB8 := Lib.hid (HB7.out.trans (hb.mono HB7.out.size))
    clear hb
    go_wp2_with fail
    refine (HN2.out _).mono ?_
    rintro e w9 ⟨rfl, hb⟩
    have HB9 := Lib.hid (HB8.out.trans (hb.mono HB8.out.size))
    clear hb HN1 HN2 HS1 HS2
    have hq := HQ.out.1
    have hqs := HQ.out.2
    have hways2 := HW2.out
    clear HQ HW2
    rcases hways2 with rfl | ⟨rfl, rfl⟩ | ⟨rfl, rfl, y1⟩
    all_goals
      go_wp2_with fail
      go_ret
      exact ⟨rfl, HB9.out⟩

theorem oneWayWalk (n m : Int) (s t : ByteArray) (w : World) (hw : PLive w) :
    Calls Tryd.prog 4 #[.int .i64 n, .int .i64 m, .string s, .string t] w fun e w' => e = .returned (.bool true) ∧ Below w.heap.size w w' := by
  by_cases h : 120 < s.size ∨ 120 < t.size
  · exact oneWay_out n m s t w hw h
  · exact oneWay_in n m s t w hw (by omega) (by omega)
end Go.Proofs.YtpngnekoocpncaaDoor
