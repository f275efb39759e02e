/-
  Lemmas and walks, joined: HdEs.
-/
import Derived.Test.YtdpbpdikgcepbaaGreatDoorHz23
import Derived.Test.YtdpbpdikgcepbaaGreatDoorHBr01
namespace Go.Proofs.YtdpbpdikgcepbaaGreatDoor
open Go.RowKit Go.Shelf Oct Fix Lex

/-- Three rows of numbers: the third is the first and, moved by d, the second; it increases. -/
structure JoinAt (A B C : List Int) (d : Int) (a b c : Nat) : Prop where
  ha : A.length = a
  hb : B.length = b
  hc : C.length = c
  hs : a + b = c
  hC : C = A ++ B.map fun n => d + n
  up : C.Pairwise (· < ·)
theorem JoinAt.first {A B C : List Int} {d : Int} {a b c k : Nat} (h : JoinAt A B C d a b c) (hk : k < a) : ∃ v, (intCells C)[k]? = some (.int .i64 v) ∧ (intCells A)[k]? = some (.int .i64 v) := by
  refine ⟨A[k]'(by rw [h.ha]; exact hk), ?_, int_at A k (by rw [h.ha]; exact hk)⟩
  have hk2 : k < C.length := by rw [h.hc]; have := h.hs; omega
  rw [int_at C k hk2]
  congr 2
  simp only [h.hC]
  rw [List.getElem_append_left]
theorem JoinAt.second {A B C : List Int} {d : Int} {a b c j : Nat} (h : JoinAt A B C d a b c) (hj : j < b) : ∃ u, (intCells C)[a + j]? = some (.int .i64 (d + u)) ∧ (intCells B)[j]? = some (.int .i64 u) ∧ u ∈ B := by
  have hj2 : j < B.length := by rw [h.hb]; exact hj
  refine ⟨B[j], ?_, int_at B j hj2, List.getElem_mem _⟩
  have hk2 : a + j < C.length := by rw [h.hc]; have := h.hs; omega
  rw [int_at C (a + j) hk2]
  congr 2
  simp only [h.hC]
  rw [List.getElem_append_right (by rw [h.ha]; omega), List.getElem_map]
  congr 2
  rw [h.ha]
  omega
theorem JoinAt.less {A B C : List Int} {d : Int} {a b c k : Nat} (h : JoinAt A B C d a b c) (hk : k + 1 < c) : ∃ v u, (intCells C)[k + 1]? = some (.int .i64 v) ∧ (intCells C)[k]? = some (.int .i64 u) ∧ u < v := by
  have h1 : k + 1 < C.length := by rw [h.hc]; exact hk
  exact ⟨C[k + 1], C[k], int_at C (k + 1) h1, int_at C k (by omega), List.pairwise_iff_getElem.1 h.up k (k + 1) (by omega) h1 (by omega)⟩

/-- What HeadEnds asks, at given arguments: the two texts and their ends. -/
structure EndsAt (s t X Y : ByteArray) (A B C : List Int) (a b c : Nat) : Prop where
  hX : s ++ ⟨#[120, 10]⟩ = X
  hY : X ++ t = Y
  sX : (s.size : Int) + 2 = (X.size : Int)
  sY : (X.size : Int) + (t.size : Int) = (Y.size : Int)
  hA : endsS X.data.toList = A
  hB : endsS t.data.toList = B
  hC : endsS Y.data.toList = C
  hJ : JoinAt A B C (X.size : Int) a b c
  hB2 : ∀ u ∈ B, 0 ≤ u ∧ u ≤ (t.size : Int)
  hc : c ≤ Y.size
theorem ends_at (s t : ByteArray) : ∃ X Y A B C a b c, EndsAt s t X Y A B C a b c := by
  obtain ⟨X, hX⟩ : ∃ X, s ++ ⟨#[120, 10]⟩ = X := ⟨_, rfl⟩
  obtain ⟨Y, hY⟩ : ∃ Y, X ++ t = Y := ⟨_, rfl⟩
  have lX : X.data.toList = s.data.toList ++ [120, 10] := by rw [← hX, ByteArray.data_append, Array.toList_append]
  have lY : Y.data.toList = X.data.toList ++ t.data.toList := by rw [← hY, ByteArray.data_append, Array.toList_append]
  have zX : X.size = X.data.toList.length := by simp
  have zY : Y.size = Y.data.toList.length := by simp
  have zs : s.size = s.data.toList.length := by simp
  have zt : t.size = t.data.toList.length := by simp
  have e := ends_append (u := X.data.toList) t.data.toList (by rw [lX, List.getLast?_append]; rfl)
  rw [← lY, ← zX] at e
  have sX : (s.size : Int) + 2 = (X.size : Int) := by
    rw [zX, lX, zs, List.length_append]
    simp
  have sY : (X.size : Int) + (t.size : Int) = (Y.size : Int) := by
    rw [zY, lY, zX, zt, List.length_append]
    simp
  refine ⟨X, Y, _, _, _, _, _, _, hX, hY, sX, sY, rfl, rfl, rfl, ⟨rfl, rfl, rfl, ?_, e, ends_up _⟩, ?_, ?_⟩
  · rw [e, List.length_append, List.length_map]
  · intro u hu
    have := ends_le _ u hu
    rw [← zt] at this
    exact this
  · rw [zY]
    exact ends_len _

set_option maxRecDepth 100000 in
set_option maxHeartbeats 16000000 in
theorem hdEnds_in (s t X Y : ByteArray) (A B C : List Int) (a b c : Nat) (w : World) (hs : s.size ≤ 1500) (ht0 : t.size ≤ 1500) (h : EndsAt s t X Y A B C a b c) (ht : Tab10 w) (hm : MaxLenAt w) :
    Calls Tryz.prog 5 #[.string s, .string t] w fun e w' => e = .returned (.bool true) ∧ Below w.heap.size w w' := by
  obtain ⟨hX, hY, sX, sY, hA, hB, hC, hJ, hB2, hc⟩ := h
  have HT0 := Lib.hid ht
  have HM0 := Lib.hid hm
  have HB0 := Lib.hid (Below.refl w.heap.size w)
  clear ht hm
  have c1 := fun (W : World) (hW : MaxLenAt W) => ends_any X W (by omega) hW
  have c2 := fun (W : World) (hW : MaxLenAt W) => ends_any t W (by omega) hW
  have c3 := fun (W : World) (hW : MaxLenAt W) => ends_any Y W (by omega) hW
  simp only [hA, hJ.ha] at c1
  simp only [hB, hJ.hb] at c2
  simp only [hC, hJ.hc] at c3
  have H1 := Lib.hid c1
  have H2 := Lib.hid c2
  have H3 := Lib.hid c3
  have HJ := Lib.hid hJ
  have HU := Lib.hid hB2
  have HX := Lib.hid hX
  have HY := Lib.hid hY
  have HSX := Lib.hid sX
  have HSY := Lib.hid sY
  have HC := Lib.hid (show c ≤ 4000 by omega)
  have hsum := hJ.hs
  have HQ := Lib.hid hsum
  have f1 : ¬ (1500 : Int) < (s.size : Int) := by omega
  have f2 : ¬ (1500 : Int) < (t.size : Int) := by omega
  have f3 : X.size ≤ 1502 := by omega
  clear c1 c2 c3 hJ hB2 hA hB hC hX hY sX sY hc hsum
  go_enter Tryz.func5, Tryz.ntmps5
  go_wp2_with fail
  refine (hdLives_any _ HT0.out HM0.out).mono ?_
  rintro e w1 ⟨rfl, hb⟩
  have HB1 := Lib.hid (HB0.out.trans (hb.mono HB0.out.size))
  have HM1 := Lib.hid (HM0.out.below HB1.out)
  clear hb
  go_wp2_with fail
  rw [HX.out]
  refine (H1.out _ HM1.out).mono ?_
  rintro e w2 ⟨A1, C1, rfl, hown, hb⟩
  have HO1 := Lib.hid hown
  have HB2 := Lib.hid (HB1.out.trans (hb.mono HB1.out.size))
  have HM2 := Lib.hid (HM0.out.below HB2.out)
  clear hb hown
  go_wp2_with fail
  refine (H2.out _ HM2.out).mono ?_
  rintro e w3 ⟨A2, C2, rfl, hown, hb⟩
  have HO2 := Lib.hid hown
  have HP1 := Lib.hid (own_below HO1.out hb (Nat.le_refl _))
  have HB3 := Lib.hid (HB2.out.trans (hb.mono HB2.out.size))
  have HM3 := Lib.hid (HM0.out.below HB3.out)
  clear hb hown HO1
  go_wp2_with fail
  rw [HY.out]
  refine (H3.out _ HM3.out).mono ?_
  rintro e w4 ⟨A3, C3, rfl, hown, hb⟩
  have HO3 := Lib.hid hown
  have HP2 := Lib.hid (own_below HP1.out hb (Nat.le_refl _))
  have HP3 := Lib.hid (own_below HO2.out hb (Nat.le_refl _))
  have HB4 := Lib.hid (HB3.out.trans (hb.mono HB3.out.size))
  clear hb hown HP1 HO2
  have hcl := HC.out
  have q1 : (a : Int) + (b : Int) = (c : Int) := by have := HQ.out; omega
  go_wp2_with fail
  go_loopw [40] (fun i wr => ∃ k m : Nat, k ≤ c ∧ i = .int .i64 (k : Int) ∧ wr = w4.drewN m) (fun i _ => c - (intOf i).toNat)
  case atStart => exact ⟨0, 0, by omega, rfl, rfl⟩
  case round =>
    obtain ⟨k, m, hk, rfl, rfl⟩ := hrel
    clear q1
    by_cases hlt : k < c
    · obtain ⟨g3, c3, e3, _⟩ := HO3.out.form (by omega)
      injection e3 with e31 _ e33
      subst e31 e33
      have i0 : (0 : Int) ≤ (k : Int) := by omega
      have i1 : (k : Int) < (c : Int) := by omega
      have y := HO3.out.cellAt k (by omega)
      by_cases hka : k < a
      · obtain ⟨g1, c1, e1, _⟩ := HP2.out.form (by omega)
        injection e1 with e11 _ e13
        subst e11 e13
        have x := HP2.out.cellAt k (by omega)
        obtain ⟨v, y1, x1⟩ := HJ.out.first hka
        rw [y1] at y
        rw [x1] at x
        have j1 : (k : Int) < (a : Int) := by omega
        by_cases hk0 : 0 < k
        · obtain ⟨i, rfl⟩ : ∃ i, k = i + 1 := ⟨k - 1, by omega⟩
          obtain ⟨v2, u, z1, z2, huv⟩ := HJ.out.less hlt
          have z := HO3.out.cellAt i (by omega)
          rw [z2] at z
          obtain rfl : v2 = v := by have := z1.symm.trans y1; simpa using this
          have j2 : (0 : Int) < ((i + 1 : Nat) : Int) := by omega
          have j3 : (i : Int) < (c : Int) := by omega
          clear y1 x1 z1 z2 hk0
          go_wp2_with fail
          go_roundw
          case rel => exact ⟨i + 2, m, by omega, by go_num, rfl⟩
          case measure => simp [intOf]; omega
        · have j2 : ¬ (0 : Int) < (k : Int) := by omega
          clear y1 x1 hk0
          go_wp2_with fail
          go_roundw
          case rel => exact ⟨k + 1, m, by omega, by go_num, rfl⟩
          case measure => simp [intOf]; omega
      · obtain ⟨j, hj⟩ : ∃ j, k = a + j := ⟨k - a, by omega⟩
        have hq := HQ.out
        obtain ⟨g2, c2, e2, _⟩ := HP3.out.form (by omega)
        injection e2 with e21 _ e23
        subst e21 e23
        have x := HP3.out.cellAt j (by omega)
        obtain ⟨u, y1, x1, hu⟩ := HJ.out.second (j := j) (by omega)
        obtain ⟨hu0, hu1⟩ := HU.out u hu
        rw [hj, y1] at y
        rw [← hj] at y
        rw [x1] at x
        obtain ⟨v, hv⟩ : ∃ v, u + (X.size : Int) = v := ⟨_, rfl⟩
        rw [show (X.size : Int) + u = v by omega] at y y1
        have j1 : ¬ (k : Int) < (a : Int) := by omega
        have j3 : (k : Int) - (a : Int) = (j : Int) := by omega
        have j4 : (j : Int) < (b : Int) := by omega
        have j5 : (0 : Int) ≤ (j : Int) := by omega
        have hju : u ≤ 1500 := by omega
        by_cases hk0 : 0 < k
        · obtain ⟨i, hi⟩ : ∃ i, k = i + 1 := ⟨k - 1, by omega⟩
          obtain ⟨v2, u2, z1, z2, huv⟩ := HJ.out.less (k := i) (by omega)
          have z := HO3.out.cellAt i (by omega)
          rw [z2] at z
          obtain rfl : v2 = v := by
            rw [← hi, hj, y1] at z1
            simpa using z1.symm
          have j6 : (0 : Int) < (k : Int) := by omega
          have j7 : (i : Int) < (c : Int) := by omega
          have j8 : (k : Int) - 1 = (i : Int) := by omega
          clear y1 x1 z1 z2 hk0 hu hi hj hq hu1 hka
          go_wp2_with fail
          go_roundw
          case rel => exact ⟨k + 1, m, by omega, by go_num, rfl⟩
          case measure => simp [intOf]; omega
        · have j6 : ¬ (0 : Int) < (k : Int) := by omega
          clear y1 x1 hk0 hu hj hq hu1 hka
          go_wp2_with fail
          go_roundw
          case rel => exact ⟨k + 1, m, by omega, by go_num, rfl⟩
          case measure => simp [intOf]; omega
    · go_wp2_with fail
      go_ret
      exact ⟨rfl, HB4.out.trans ((drewN_below ⟨m, rfl⟩).mono HB4.out.size)⟩

set_option maxRecDepth 100000 in
set_option maxHeartbeats 16000000 in
theorem hdEnds_any (s t : ByteArray) (w : World) (ht : Tab10 w) (hm : MaxLenAt w) :
    Calls Tryz.prog 5 #[.string s, .string t] w fun e w' => e = .returned (.bool true) ∧ Below w.heap.size w w' := by
  by_cases hb : 1500 < s.size ∨ 1500 < t.size
  · have HB0 := Lib.hid (Below.refl w.heap.size w)
    have HT0 := Lib.hid ht
    have HM0 := Lib.hid hm
    clear ht hm
    by_cases h1 : 1500 < s.size
    · have f1 : (1500 : Int) < (s.size : Int) := by omega
      clear hb h1
      go_enter Tryz.func5, Tryz.ntmps5
      go_wp2_with fail
      refine (hdLives_any _ HT0.out HM0.out).mono ?_
      rintro e w1 ⟨rfl, hb⟩
      go_wp2_with fail
      go_ret
      exact ⟨rfl, hb⟩
    · have f1 : ¬ (1500 : Int) < (s.size : Int) := by omega
      have f2 : (1500 : Int) < (t.size : Int) := by omega
      clear hb h1
      go_enter Tryz.func5, Tryz.ntmps5
      go_wp2_with fail
      refine (hdLives_any _ HT0.out HM0.out).mono ?_
      rintro e w1 ⟨rfl, hb⟩
      go_wp2_with fail
      go_ret
      exact ⟨rfl, hb⟩
  · obtain ⟨X, Y, A, B, C, a, b, c, h⟩ := ends_at s t
    exact hdEnds_in s t X Y A B C a b c w (by omega) (by omega) h ht hm
end Go.Proofs.YtdpbpdikgcepbaaGreatDoor
