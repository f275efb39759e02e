/-
  Lemmas and walks, joined: TopTk.
-/
import Derived.Test.YtpngnekoocpncaaDoorM20
import Derived.Test.YtpngnekoocpncaaDoorM18
import Derived.Test.YtpngnekoocpncaaDoorM04
namespace Go.Proofs.YtpngnekoocpncaaDoor
open Go.RowKit Oct Fix Lex

theorem bOf_data (s : ByteArray) : bOf s.data.toList = s := bytes_eq rfl
/-- A row of six tokens, and no fault. -/
def Six (n u : Int) (s nm : ByteArray) (w : World) (e : Ending) (w' : World) : Prop :=
  ∃ (g C : Nat) (p0 q0 p1 q1 p2 q2 p3 q3 p4 q4 p5 q5 : Int), e = .returned (.tuple #[.slice (some ⟨g, 0, none⟩) 6 C, .agg #[.int .i64 0, .int .i64 0]]) ∧ w'.ownsRow w.heap.size 40 5 (.slice (some ⟨g, 0, none⟩) 6 C) 6
    [.int .i64 1, .int .i64 p0, .int .i64 q0, .int .i64 n, .string ⟨#[]⟩, .int .i64 2, .int .i64 p1, .int .i64 q1, .int .i64 u, .string ⟨#[]⟩, .int .i64 3, .int .i64 p2, .int .i64 q2, .int .i64 0, .string s,
     .int .i64 4, .int .i64 p3, .int .i64 q3, .int .i64 0, .string nm, .int .i64 3, .int .i64 p4, .int .i64 q4, .int .i64 0, .string s, .int .i64 5, .int .i64 p5, .int .i64 q5, .int .i64 0, .string ⟨#[111, 98, 106]⟩] ∧ Below w.heap.size w w'
theorem six_of (J s nm : ByteArray) (n u : Int) (w : World) (hm : MaxLenAt w) (hz : J.size ≤ 100000) {p0 q0 p1 q1 p2 q2 p3 q3 p4 q4 p5 q5 : Int}
    (hr : uptoI J.data.toList 0 1048576 = ([⟨1, p0, q0, n, []⟩, ⟨2, p1, q1, u, []⟩, ⟨3, p2, q2, 0, s.data.toList⟩, ⟨4, p3, q3, 0, nm.data.toList⟩, ⟨3, p4, q4, 0, s.data.toList⟩, ⟨5, p5, q5, 0, [111, 98, 106]⟩], 0, 0)) :
    Calls Tryd.prog 23 #[.string J] w (Six n u s nm w) := by
  refine (all_any J _ w hz hm hr).mono ?_
  rintro e w' ⟨A, C, rfl, hown, hb⟩
  obtain ⟨g, cap, hv, _⟩ := hown.form (by show 0 < 6; decide)
  injection hv with h1 h2 h3
  subst h1
  exact ⟨g, C, p0, q0, p1, q1, p2, q2, p3, q3, p4, q4, p5, q5, rfl, hown, hb⟩
theorem all_six (J s nm : ByteArray) (n u : Int) (w : World) (hm : MaxLenAt w) (hz : J.size ≤ 100000) (n1 : -2147483647 ≤ n) (n2 : n ≤ 2147483647) (u1 : -1073741824 ≤ u) (u2 : u ≤ 1073741824) (hs : s.size ≤ 1000) (hnm : nm.size ≤ 100) (h0 : ¬ (0 : UInt8) ∈ nm.data.toList)
    (hJ : J.data.toList = joinL [Lib.itoa n, textL u, strL s.data.toList, nameL nm.data.toList, hexT s.data.toList, [111, 98, 106]]) : Calls Tryd.prog 23 #[.string J] w (Six n u s nm w) := by
  have t1 := int_whole n n1 n2
  have t2 := real_whole u u1 u2
  have t3 := str_whole s.data.toList (by rw [size_len]; omega)
  have t4 := name_whole nm.data.toList (by rw [size_len]; omega) h0
  have t5 := hexT_whole s.data.toList (by rw [size_len]; omega)
  have t6 := obj_whole
  have hr : uptoI J.data.toList 0 1048576 = (toksJ 0 none [Lib.itoa n, textL u, strL s.data.toList, nameL nm.data.toList, hexT s.data.toList, [111, 98, 106]], 0, 0) := by
    unfold uptoI
    rw [if_neg (by omega), hJ]
    refine upto_joined _ _ (fun p hp => ?_) (by show 6 < 1048576; decide)
    simp only [List.mem_cons, List.not_mem_nil, or_false] at hp
    rcases hp with rfl | rfl | rfl | rfl | rfl | rfl
    · exact ⟨_, t1⟩
    · exact ⟨_, t2⟩
    · exact ⟨_, t3⟩
    · exact ⟨_, t4⟩
    · exact ⟨_, t5⟩
    · exact ⟨_, t6⟩
  simp only [toksJ, t1.2.1, t2.2.1, t3.2.1, t4.2.1, t5.2.1, t6.2.1, tkOf] at hr
  exact six_of J s nm n u w hm hz hr
def Three (w : World) (e : Ending) (w' : World) : Prop := ∃ (A : Option Addr) (C : Nat), e = .returned (.tuple #[.slice A 3 C, .agg #[.int .i64 0, .int .i64 0]]) ∧ Below w.heap.size w w'
theorem all_three (w : World) (hm : MaxLenAt w) : Calls Tryd.prog 23 #[.string ⟨#[49, 40, 97, 41, 47, 98]⟩] w (Three w) := by
  have hr : uptoI (⟨#[49, 40, 97, 41, 47, 98]⟩ : ByteArray).data.toList 0 1048576 = ([⟨1, 0, 1, 1, []⟩, ⟨3, 1, 4, 0, [97]⟩, ⟨4, 4, 6, 0, [98]⟩], 0, 0) := by kernel_rfl
  refine (all_any _ _ w (by decide) hm hr).mono ?_
  rintro e w' ⟨A, C, rfl, _, hb⟩
  exact ⟨A, C, rfl, hb⟩
theorem find_zero (l : List UInt8) (h : (0 : UInt8) ∈ l) : 0 ≤ findS l [0] 0 := by
  rcases findS_spec (s := l) (part := [0]) (by simp) 0 with ⟨_, hn⟩ | ⟨i, e, _⟩
  · exfalso
    obtain ⟨i, hi, e⟩ := List.getElem_of_mem h
    have := hn i (by unfold fromN; omega)
    unfold Lib.occAt at this
    rw [List.drop_eq_getElem_cons hi, e] at this
    simp [Lib.hasPrefix, List.isPrefixOf] at this
  · rw [e]; omega
theorem find_z (s : ByteArray) (w : World) (hs : s.size ≤ 1000000) (hm : MaxLenAt w) (h : (0 : UInt8) ∈ s.data.toList) :
    Calls Tryd.prog 24 #[.string s, .string ⟨#[0]⟩, .int .i64 0] w fun e w' => ∃ i : Int, e = .returned (.int .i64 i) ∧ 0 ≤ i ∧ w = w' := by
  obtain ⟨m, hm⟩ := hm
  exact (find_any s ⟨#[0]⟩ 0 w (by omega) m hm).mono fun e w' ⟨h1, h2⟩ => ⟨_, h1, find_zero _ h, h2⟩

/-- What the walk has behind its five calls: the texts, and their errors. -/
structure TkCalls (n u : Int) (s nm : ByteArray) where
  b1 : ByteArray
  b2 : ByteArray
  b3 : ByteArray
  b4 : ByteArray
  b5 : ByteArray
  e1 : Int
  e2 : Int
  e4 : Int
  int_ : ∀ (W : World) (_ : Tab10 W), Calls Tryd.prog 9 #[.int .i64 n] W fun e w' => e = .returned (.tuple #[.string b1, .int .i64 e1]) ∧ Below W.heap.size W w'
  real_ : ∀ (W : World) (_ : Tab10 W), Calls Tryd.prog 11 #[.int .i64 u] W fun e w' => e = .returned (.tuple #[.string b2, .int .i64 e2]) ∧ Below W.heap.size W w'
  str_ : ∀ W : World, Calls Tryd.prog 13 #[.string s] W fun e w' => e = .returned (.tuple #[.string b3, .int .i64 0]) ∧ Below W.heap.size W w'
  name_ : ∀ W : World, Calls Tryd.prog 17 #[.string nm] W fun e w' => e = .returned (.tuple #[.string b4, .int .i64 e4]) ∧ Below W.heap.size W w'
  hex_ : ∀ W : World, Calls Tryd.prog 15 #[.string s] W fun e w' => e = .returned (.tuple #[.string b5, .int .i64 0]) ∧ Below W.heap.size W w'
  ways : (e1 = 2 ∧ n < -2147483647) ∨ (e1 = 2 ∧ ¬ n < -2147483647 ∧ 2147483647 < n) ∨ (e1 = 0 ∧ ¬ n < -2147483647 ∧ ¬ 2147483647 < n ∧ ((e2 = 2 ∧ u < -1073741824) ∨ (e2 = 2 ∧ ¬ u < -1073741824 ∧ 1073741824 < u) ∨
    (e2 = 0 ∧ ¬ u < -1073741824 ∧ ¬ 1073741824 < u ∧ ((e4 = 3 ∧ (0 : UInt8) ∈ nm.data.toList) ∨ (e4 = 0 ∧ ¬ (0 : UInt8) ∈ nm.data.toList ∧ b1.data.toList = Lib.itoa n ∧ b2.data.toList = textL u ∧ b3.data.toList = strL s.data.toList ∧ b4.data.toList = nameL nm.data.toList ∧ b5.data.toList = hexT s.data.toList)))))
theorem tkCalls (n u : Int) (s nm : ByteArray) (hs : s.size ≤ 1000) (hnm : nm.size ≤ 100) : Nonempty (TkCalls n u s nm) := by
  have l1 : longE s.size = 0 := by unfold longE; rw [if_neg (by omega)]
  have x1 : strX s = strL s.data.toList := by unfold strX; rw [if_neg (by omega)]
  have x2 : hexX s = hexT s.data.toList := by unfold hexX; rw [if_neg (by omega)]
  refine ⟨⟨bOf (pIntX n), bOf (textL u), bOf (strX s), bOf (nameX nm), bOf (hexX s), pIntE n, pRealE u, nameE nm, fun W h => plnInt_any n W h, fun W h => plnReal_any u W h, fun W => l1 ▸ plnString_any s W, fun W => plnName_any nm W (by omega), fun W => l1 ▸ plnHex_any s W (by omega), ?_⟩⟩
  by_cases n1 : n < -2147483647
  · exact .inl ⟨(pInt_out (.inl n1)).2, n1⟩
  by_cases n2 : 2147483647 < n
  · exact .inr (.inl ⟨(pInt_out (.inr n2)).2, n1, n2⟩)
  refine .inr (.inr ⟨(pInt_in (by omega)).2, n1, n2, ?_⟩)
  by_cases u1 : u < -1073741824
  · exact .inl ⟨(pReal_out (.inl u1)).2, u1⟩
  by_cases u2 : 1073741824 < u
  · exact .inr (.inl ⟨(pReal_out (.inr u2)).2, u1, u2⟩)
  refine .inr (.inr ⟨pReal_in (by omega), u1, u2, ?_⟩)
  by_cases z : (0 : UInt8) ∈ nm.data.toList
  · exact .inl ⟨(name_zero (by omega) z).2, z⟩
  · obtain ⟨a1, a2⟩ := name_good (s := nm) (by omega) z
    exact .inr ⟨a2, z, (pInt_in (by omega)).1, rfl, x1, a1, x2⟩

theorem join_len (ps : List (List UInt8)) (o : Option UInt8) (h : ∀ p ∈ ps, p.length ≤ 10000) : (joinK o ps).length ≤ 10001 * ps.length := by
  induction ps generalizing o with
  | nil => exact Nat.le_refl _
  | cons p ps ih =>
    have h1 := h p (by simp)
    have h2 := add_len o p
    have h3 := ih (lastJ o p) (fun q hq => h q (by simp [hq]))
    show (addJ o p ++ joinK (lastJ o p) ps).length ≤ _
    rw [List.length_append, List.length_cons]
    omega

set_option maxRecDepth 100000 in
set_option maxHeartbeats 16000000 in
theorem topTokens_in (n u : Int) (s nm : ByteArray) (w : World) (hw : PLive w) (hs : s.size ≤ 1000) (hnm : nm.size ≤ 100) :
    Calls Tryd.prog 6 #[.int .i64 n, .int .i64 u, .string s, .string nm] w fun e w' => e = .returned (.bool true) ∧ Below w.heap.size w w' := by
  have HL0 := Lib.hid hw
  clear hw
  obtain ⟨b1, b2, b3, b4, b5, e1, e2, e4, int_, real_, str_, name_, hex_, ways⟩ := tkCalls n u s nm hs hnm
  have H1 := Lib.hid int_; have H2 := Lib.hid real_; have H3 := Lib.hid str_; have H4 := Lib.hid name_; have H5 := Lib.hid hex_; have HW := Lib.hid ways
  clear int_ real_ str_ name_ hex_ ways
  go_enter Tryd.func6, Tryd.ntmps6
  go_wp2_with fail
  refine (all_three _ HL0.out.1).mono ?_
  rintro e v1 ⟨A, C, rfl, hb⟩
  go_upto_region 2 with (fail)
  obtain ⟨w1, hw1⟩ : ∃ w1, v1.alloc (.cells #[.int .i64 0, .int .i64 0] 35) = w1 := ⟨_, rfl⟩
  have hF : Blk w1 v1.heap.size 35 #[.int .i64 0, .int .i64 0] := by rw [← hw1]; exact Blk.new _ _ _
  have HB1 := Lib.hid (show Below w.heap.size w w1 by rw [← hw1]; exact hb.alloc hb.size _)
  have HL1 := Lib.hid (HL0.out.below HB1.out (Nat.le_refl _))
  rw [hw1]
  clear hw1 hb
  obtain ⟨g1, hg1⟩ : ∃ g1, v1.heap.size = g1 := ⟨_, rfl⟩
  rw [hg1] at hF
  simp only [hg1]
  clear hg1
  have q1 := hF.cell 1
  simp only [List.getElem?_toArray, List.getElem?_cons_zero, List.getElem?_cons_succ] at q1
  clear hF
  go_wp2_with fail
  refine (H1.out _ HL1.out.2).mono ?_
  rintro e w2 ⟨rfl, hb⟩
  have HB2 := Lib.hid (HB1.out.trans (hb.mono HB1.out.size))
  have HL2 := Lib.hid (HL0.out.below HB2.out (Nat.le_refl _))
  clear hb q1
  go_wp2_with fail
  refine (H2.out _ HL2.out.2).mono ?_
  rintro e w3 ⟨rfl, hb⟩
  have HB3 := Lib.hid (HB2.out.trans (hb.mono HB2.out.size))
  clear hb
  go_wp2_with fail
  refine (H3.out _).mono ?_
  rintro e w4 ⟨rfl, hb⟩
  have HB4 := Lib.hid (HB3.out.trans (hb.mono HB3.out.size))
  clear hb
  go_wp2_with fail
  refine (H4.out _).mono ?_
  rintro e w5 ⟨rfl, hb⟩
  have HB5 := Lib.hid (HB4.out.trans (hb.mono HB4.out.size))
  clear hb
  go_wp2_with fail
  refine (H5.out _).mono ?_
  rintro e w6 ⟨rfl, hb⟩
  have HB6 := Lib.hid (HB5.out.trans (hb.mono HB5.out.size))
  have HL6 := Lib.hid (HL0.out.below HB6.out (Nat.le_refl _))
  clear hb H1 H2 H3 H4 H5 HB1 HB2 HB3 HB4 HB5 HL1 HL2
  have ways := HW.out
  clear HW
  rcases ways with ⟨rfl, n1⟩ | ⟨rfl, n1, n2⟩ | ⟨rfl, n1, n2, ⟨rfl, u1⟩ | ⟨rfl, u1, u2⟩ | ⟨rfl, u1, u2, ⟨rfl, z⟩ | ⟨rfl, z, d1, d2, d3, d4, d5⟩⟩⟩
  · go_wp2_with fail
    go_ret
    exact ⟨rfl, HB6.out⟩
  · go_wp2_with fail
    go_ret
    exact ⟨rfl, HB6.out⟩
  · go_wp2_with fail
    go_ret
    exact ⟨rfl, HB6.out⟩
  · go_wp2_with fail
    go_ret
    exact ⟨rfl, HB6.out⟩
  · have HZ := Lib.hid z
    clear z
    go_wp2_with fail
    refine (find_z nm _ (by omega) HL6.out.1 HZ.out).mono ?_
    rintro e w' ⟨i, rfl, hi, rfl⟩
    go_wp2_with fail
    go_ret
    exact ⟨rfl, HB6.out⟩
  · have s1 : b1.size ≤ 10000 := by rw [← size_len, d1, itoa_sign, List.length_append]; have := dec_bound n.natAbs (by omega); unfold signL; split <;> simp <;> omega
    have s2 : b2.size ≤ 10000 := by
      have hl := frac_length (u.natAbs % 10000) (by omega)
      have hd := dec_len (u.natAbs / 10000) (by omega)
      rw [← size_len, d2, textL_in u (by omega) (by omega)]
      simp only [List.length_append]
      have : (if u < 0 then [45] else ([] : List UInt8)).length ≤ 1 := by split <;> simp
      simp
      omega
    have s3 : b3.size ≤ 10000 := by rw [← size_len, d3, str_len]; have := strB_len s.data.toList; rw [size_len] at this; omega
    have s4 : b4.size ≤ 10000 := by rw [← size_len, d4]; have := nameB_len nm.data.toList; rw [size_len] at this; simp [nameL]; omega
    have s5 : b5.size ≤ 10000 := by rw [← size_len, d5]; simp [hexT, hexS_length]; omega
    have hds : datas [b1, b2, b3, b4, b5, ⟨#[111, 98, 106]⟩] = [Lib.itoa n, textL u, strL s.data.toList, nameL nm.data.toList, hexT s.data.toList, [111, 98, 106]] := by
      unfold datas
      simp [d1, d2, d3, d4, d5]
    have hjl : (bOf (joinL (datas [b1, b2, b3, b4, b5, ⟨#[111, 98, 106]⟩]))).size ≤ 100000 := by
      have := join_len (datas [b1, b2, b3, b4, b5, ⟨#[111, 98, 106]⟩]) none (fun p hp => by
        unfold datas at hp
        simp only [List.map_cons, List.map_nil, List.mem_cons, List.not_mem_nil, or_false] at hp
        rcases hp with rfl | rfl | rfl | rfl | rfl | rfl
        · rw [size_len]; omega
        · rw [size_len]; omega
        · rw [size_len]; omega
        · rw [size_len]; omega
        · rw [size_len]; omega
        · decide)
      exact Nat.le_trans this (by show 10001 * 6 ≤ 100000; decide)
    have hjoin : ∀ (W : World) (T : TypeId), Calls Tryd.prog 19 #[.slice (some ⟨W.heap.size, 0, none⟩) 6 6] (W.alloc (.cells #[.string b1, .string b2, .string b3, .string b4, .string b5, .string ⟨#[111, 98, 106]⟩] T)) fun e w' => e = .returned (.string (bOf (joinL (datas [b1, b2, b3, b4, b5, ⟨#[111, 98, 106]⟩])))) ∧ Below W.heap.size W w' := fun W T => by
      refine (plnJoin_any (some ⟨W.heap.size, 0, none⟩) 6 [b1, b2, b3, b4, b5, ⟨#[111, 98, 106]⟩] (W.alloc (.cells #[.string b1, .string b2, .string b3, .string b4, .string b5, .string ⟨#[111, 98, 106]⟩] T)) (Strs.lit W T _ _ fun j hj => ?_) (by show 6 ≤ 1000; decide) (fun p hp => ?_)).mono fun e w' ⟨h1, h2⟩ => ⟨h1, ((Below.refl _ _).alloc (Nat.le_refl _) _).trans (h2.mono (by simp))⟩
      · have hj : j < 6 := hj
        rcases (by omega : j = 0 ∨ j = 1 ∨ j = 2 ∨ j = 3 ∨ j = 4 ∨ j = 5) with rfl | rfl | rfl | rfl | rfl | rfl <;> rfl
      · simp only [List.mem_cons, List.not_mem_nil, or_false] at hp
        rcases hp with rfl | rfl | rfl | rfl | rfl | rfl
        · omega
        · omega
        · omega
        · omega
        · omega
        · decide
    obtain ⟨J, hJ⟩ : ∃ J, bOf (joinL (datas [b1, b2, b3, b4, b5, ⟨#[111, 98, 106]⟩])) = J := ⟨_, rfl⟩
    have hJd : J.data.toList = joinL [Lib.itoa n, textL u, strL s.data.toList, nameL nm.data.toList, hexT s.data.toList, [111, 98, 106]] := by rw [← hJ, ← hds]; rfl
    rw [hJ] at hjl
    simp only [hJ] at hjoin
    have HJ := Lib.hid hjoin
    have HJD := Lib.hid hJd
    have HZ := Lib.hid z
    have HS := Lib.hid (fun W hm => all_six J s nm n u W hm hjl (by omega) (by omega) (by omega) (by omega) hs hnm z hJd)
    clear hjoin hJd hJ hds hjl s1 s2 s3 s4 s5 d1 d2 d3 d4 d5 z
    go_wp2_with fail
    refine (HJ.out _ _).mono ?_
    rintro e w7 ⟨rfl, hb⟩
    have HB7 := Lib.hid (HB6.out.trans (hb.mono HB6.out.size))
    have HL7 := Lib.hid (HL0.out.below HB7.out (Nat.le_refl _))
    clear hb
    go_wp2_with fail
    refine (HS.out _ HL7.out.1).mono ?_
    rintro e v8 ⟨g, C8, p0, q0, p1, q1, p2, q2, p3, q3, p4, q4, p5, q5, rfl, hown, hb⟩
    go_upto_region 14 with (fail)
    obtain ⟨w8, hw8⟩ : ∃ w8, v8.alloc (.cells #[.int .i64 0, .int .i64 0] 35) = w8 := ⟨_, rfl⟩
    have hF : Blk w8 v8.heap.size 35 #[.int .i64 0, .int .i64 0] := by rw [← hw8]; exact Blk.new _ _ _
    have HB8 := Lib.hid (show Below w.heap.size w w8 by rw [← hw8]; exact (HB7.out.trans (hb.mono HB7.out.size)).alloc (Nat.le_trans HB7.out.size hb.size) _)
    have hO := hown.alloc (.cells #[.int .i64 0, .int .i64 0] 35)
    rw [hw8] at hO ⊢
    clear hw8 hb hown
    obtain ⟨g8, hg8⟩ : ∃ g8, v8.heap.size = g8 := ⟨_, rfl⟩
    rw [hg8] at hF
    simp only [hg8]
    clear hg8
    have f1 := hF.cell 1
    have r0 := hO.cellAt 0 (by decide)
    have r3 := hO.cellAt 3 (by decide)
    have r5 := hO.cellAt 5 (by decide)
    have r8 := hO.cellAt 8 (by decide)
    have r10 := hO.cellAt 10 (by decide)
    have r14 := hO.cellAt 14 (by decide)
    have r15 := hO.cellAt 15 (by decide)
    have r19 := hO.cellAt 19 (by decide)
    have r20 := hO.cellAt 20 (by decide)
    have r24 := hO.cellAt 24 (by decide)
    have r25 := hO.cellAt 25 (by decide)
    have r29 := hO.cellAt 29 (by decide)
    simp only [List.getElem?_toArray, List.getElem?_cons_zero, List.getElem?_cons_succ] at f1 r0 r3 r5 r8 r10 r14 r15 r19 r20 r24 r25 r29
    clear hF hO
    go_wp2_with fail
    go_ret
    exact ⟨rfl, HB8.out⟩

set_option maxRecDepth 100000 in
set_option maxHeartbeats 4000000 in
theorem topTokens_out (n u : Int) (s nm : ByteArray) (w : World) (hw : PLive w) (h : 1000 < s.size ∨ 100 < nm.size) :
    Calls Tryd.prog 6 #[.int .i64 n, .int .i64 u, .string s, .string nm] w fun e w' => e = .returned (.bool true) ∧ Below w.heap.size w w' := by
  have HL0 := Lib.hid hw
  clear hw
  rcases (by omega : 1000 < s.size ∨ (s.size ≤ 1000 ∧ 100 < nm.size)) with h | h
  all_goals
    go_enter Tryd.func6, Tryd.ntmps6
    go_wp2_with fail
    refine (all_three _ HL0.out.1).mono ?_
    rintro e v1 ⟨A, C, rfl, hb⟩
    go_upto_region 2 with (fail)
    obtain ⟨w1, hw1⟩ : ∃ w1, v1.alloc (.cells #[.int .i64 0, .int .i64 0] 35) = w1 := ⟨_, rfl⟩
    have hF : Blk w1 v1.heap.size 35 #[.int .i64 0, .int .i64 0] := by rw [← hw1]; exact Blk.new _ _ _
    have HB1 := Lib.hid (show Below w.heap.size w w1 by rw [← hw1]; exact hb.alloc hb.size _)
    rw [hw1]
    clear hw1 hb
    obtain ⟨g1, hg1⟩ : ∃ g1, v1.heap.size = g1 := ⟨_, rfl⟩
    rw [hg1] at hF
    simp only [hg1]
    clear hg1
    have q1 := hF.cell 1
    simp only [List.getElem?_toArray, List.getElem?_cons_zero, List.getElem?_cons_succ] at q1
    clear hF
    go_wp2_with fail
    go_ret
    exact ⟨rfl, HB1.out⟩
theorem topTokensWalk (n u : Int) (s nm : ByteArray) (w : World) (hw : PLive w) :
    Calls Tryd.prog 6 #[.int .i64 n, .int .i64 u, .string s, .string nm] w fun e w' => e = .returned (.bool true) ∧ Below w.heap.size w w' := by
  by_cases h : 1000 < s.size ∨ 100 < nm.size
  · exact topTokens_out n u s nm w hw h
  · exact topTokens_in n u s nm w hw (by omega) (by omega)
end Go.Proofs.YtpngnekoocpncaaDoor
