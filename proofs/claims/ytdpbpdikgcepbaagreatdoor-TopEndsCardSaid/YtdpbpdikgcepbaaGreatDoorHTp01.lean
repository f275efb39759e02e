/-
  Lemmas and walks, joined: TpEn.
-/
import Derived.Test.YtdpbpdikgcepbaaGreatDoorHBr01
namespace Go.Proofs.YtdpbpdikgcepbaaGreatDoor
open Go.RowKit Go.Shelf Oct Fix Lex

theorem top_l7 (w : World) (ht : Tab10 w) : Calls Tryz.prog 14 #[.int .i64 7] w fun e w' => e = .returned (.string ⟨#[115, 116, 97, 114, 116, 120, 114, 101, 102, 10, 55, 10, 37, 37, 69, 79, 70, 10]⟩) ∧ Below w.heap.size w w' :=
  (tail_any 7 w ht).mono fun e w' ⟨h1, h2⟩ => ⟨h1.trans (by kernel_rfl), h2⟩
theorem top_s7 (w : World) (hm : MaxLenAt w) : Calls Tryz.prog 12 #[.string ⟨#[48, 49, 50, 51, 52, 53, 54, 55, 56, 57, 115, 116, 97, 114, 116, 120, 114, 101, 102, 10, 55, 10, 37, 37, 69, 79, 70, 10]⟩] w fun e w' => e = .returned (.tuple #[.int .i64 7, .int .i64 0]) ∧ Below w.heap.size w w' :=
  (start_any ⟨#[48, 49, 50, 51, 52, 53, 54, 55, 56, 57, 115, 116, 97, 114, 116, 120, 114, 101, 102, 10, 55, 10, 37, 37, 69, 79, 70, 10]⟩ w (by decide) hm).mono fun e w' ⟨h1, h2⟩ => ⟨h1.trans (by kernel_rfl), h2⟩

/-- What TopEnds asks of a text between that holds no '%'. -/
structure TopAt (s : ByteArray) (n m : Int) (H T Z Z2 : ByteArray) : Prop where
  hH : bOf (textX n) = H
  hT : bOf (tailX m) = T
  hZ : H ++ s ++ ⟨#[10]⟩ ++ T = Z
  hZ2 : Z ++ Z = Z2
  sH : H.size ≤ 100
  sT : T.size ≤ 100
  sZ : Z.size ≤ 600
  sZ2 : Z2.size ≤ 1200
  hV : versV (versN Z.data.toList) = .tuple #[.int .i64 1, .int .i64 n, .int .i64 0]
  far : 2147483647 < m → T = ⟨#[]⟩
  hE : m ≤ 2147483647 → endsS Z2.data.toList = [(Z.size : Int), 2 * (Z.size : Int)]
  hS : m ≤ 2147483647 → (m < (Z.size : Int) → startX Z.data.toList = m ∧ startE Z.data.toList = 0) ∧ (¬ m < (Z.size : Int) → startX Z.data.toList = 0 ∧ startE Z.data.toList = 18)
theorem top_at (s : ByteArray) {n m : Int} (hs : s.size ≤ 300) (n0 : 0 ≤ n) (n9 : n ≤ 9) (m0 : 0 ≤ m) (h37 : (37 : UInt8) ∉ s.data.toList) : ∃ H T Z Z2, TopAt s n m H T Z Z2 := by
  obtain ⟨H, hH⟩ : ∃ H, bOf (textX n) = H := ⟨_, rfl⟩
  obtain ⟨T, hT⟩ : ∃ T, bOf (tailX m) = T := ⟨_, rfl⟩
  have lH : H.data.toList = textX n := by rw [← hH]; rfl
  have lT : T.data.toList = tailX m := by rw [← hT]; rfl
  obtain ⟨t1, t2, t3⟩ := ends_text n0 n9
  have lTl : (tailX m).length ≤ 40 := by
    by_cases hm : m ≤ 2147483647
    · rw [tail_in (by omega)]
      have := itoa_small m0 hm
      simp [sxr]
      omega
    · unfold tailX
      rw [if_pos (by omega)]
      decide
  have szH : H.size = 15 := by rw [← t3, ← lH]; simp
  have szT : T.size = (tailX m).length := by rw [← lT]; simp
  obtain ⟨Z, hZ⟩ : ∃ Z, H ++ s ++ ⟨#[10]⟩ ++ T = Z := ⟨_, rfl⟩
  obtain ⟨Z2, hZ2⟩ : ∃ Z2, Z ++ Z = Z2 := ⟨_, rfl⟩
  have lZ : Z.data.toList = (textX n ++ (s.data.toList ++ [10])) ++ tailX m := by
    rw [← hZ, ByteArray.data_append, ByteArray.data_append, ByteArray.data_append, Array.toList_append, Array.toList_append, Array.toList_append, lH, lT, ← List.append_assoc (textX n)]
  have lZ2 : Z2.data.toList = Z.data.toList ++ Z.data.toList := by rw [← hZ2, ByteArray.data_append, Array.toList_append]
  have szZ : Z.size = Z.data.toList.length := by simp
  have szZ2 : Z2.size = Z2.data.toList.length := by simp
  have szs : s.size = s.data.toList.length := by simp
  have lp : (textX n ++ (s.data.toList ++ [10])).getLast? = some 10 := by rw [List.getLast?_append, List.getLast?_append]; rfl
  have szl : Z.size = 15 + (s.size + 1) + T.size := by
    rw [szZ, lZ, szT, szs]
    simp only [List.length_append, t3]
    rfl
  have szl2 : Z2.size = Z.size + Z.size := by rw [szZ2, lZ2, List.length_append, ← szZ]
  have ep : endsS (textX n ++ (s.data.toList ++ [10])) = [] := by
    rw [ends_append _ t2, t1, ends_no (by rw [List.mem_append]; rintro (h | h); exact h37 h; revert h; decide)]
    rfl
  refine ⟨H, T, Z, Z2, hH, hT, hZ, hZ2, by omega, by omega, by omega, by omega, ?_, ?_, ?_, ?_⟩
  · rw [lZ, List.append_assoc, vers_text n0 n9]
    obtain ⟨k, rfl⟩ : ∃ k : Nat, n = (k : Int) := ⟨n.toNat, by omega⟩
    unfold versV
    simp only [Int.toNat_natCast]
    rw [vers_num (by omega)]
  · intro h
    rw [← hT]
    unfold tailX
    rw [if_pos (by omega)]
    rfl
  · intro h
    have ee := ends_with lp m0 h
    rw [← lZ, ← szZ, ep, List.nil_append] at ee
    have lz : Z.data.toList.getLast? = some 10 := by
      rw [lZ, tail_cut m0 h, List.getLast?_append, List.getLast?_append]
      rfl
    rw [lZ2, ends_append _ lz, ee, ← szZ]
    simp
    omega
  · intro h
    have h := start_tail (p := textX n ++ (s.data.toList ++ [10])) m0 h
    rw [← lZ, ← szZ] at h
    exact h

def badB (c : UInt8) : Prop := ((c.toNat : Int) == 37) = true ∨ ((c.toNat : Int) == 115) = true
theorem bad_no {s : ByteArray} (h : ∀ k (hk : k < s.size), ¬ badB s[k]) : (37 : UInt8) ∉ s.data.toList := by
  intro hm
  obtain ⟨k, hk, e⟩ := List.getElem_of_mem hm
  have hk2 : k < s.size := by simpa using hk
  refine h k hk2 (.inl ?_)
  have e2 : s[k] = 37 := by rw [← e]; rfl
  rw [e2]
  rfl

set_option maxRecDepth 100000 in
set_option maxHeartbeats 16000000 in
theorem topEnds_in (s : ByteArray) (n m : Int) (w : World) (hs : s.size ≤ 300) (n0 : 0 ≤ n) (n9 : n ≤ 9) (m0 : 0 ≤ m) (ht : Tab10 w) (hm : MaxLenAt w) :
    Calls Tryz.prog 6 #[.int .i64 n, .int .i64 m, .string s] w fun e w' => e = .returned (.bool true) ∧ Below w.heap.size w w' := by
  have HT0 := Lib.hid ht
  have HM0 := Lib.hid hm
  have HB0 := Lib.hid (Below.refl w.heap.size w)
  clear ht hm
  obtain ⟨H, hH⟩ : ∃ H, bOf (textX n) = H := ⟨_, rfl⟩
  have c1 : ∀ W, Tab10 W → Calls Tryz.prog 10 #[.int .i64 n] W fun e w' => e = .returned (.tuple #[.string H, .int .i64 0]) ∧ Below W.heap.size W w' := fun W hW => by
    have := htext_any n W (by omega) hW
    rw [hH, (htx_in (n := n) (by omega)).2] at this
    exact this
  have H1 := Lib.hid c1
  have HH := Lib.hid hH
  have HN := Lib.hid (And.intro n0 (And.intro n9 m0))
  have f1 : ¬ (300 : Int) < (s.size : Int) := by omega
  have f2 : ¬ n < 0 := by omega
  have f3 : ¬ (9 : Int) < n := by omega
  have f4 : ¬ m < 0 := by omega
  clear c1 hH n0 n9 m0
  go_enter Tryz.func6, Tryz.ntmps6
  go_wp2_with fail
  refine (top_l7 _ HT0.out).mono ?_
  rintro e w1 ⟨rfl, hb⟩
  have HB1 := Lib.hid (HB0.out.trans (hb.mono HB0.out.size))
  have HM1 := Lib.hid (HM0.out.below HB1.out)
  clear hb
  go_wp2_with fail
  refine (top_s7 _ HM1.out).mono ?_
  rintro e w2 ⟨rfl, hb⟩
  have HB2 := Lib.hid (HB1.out.trans (hb.mono HB1.out.size))
  have HT2 := Lib.hid (tab10_below HT0.out HB2.out (Nat.le_refl _))
  clear hb
  go_wp2_with fail
  refine (H1.out _ HT2.out).mono ?_
  rintro e w3 ⟨rfl, hb⟩
  have HB3 := Lib.hid (HB2.out.trans (hb.mono HB2.out.size))
  have HT3 := Lib.hid (tab10_below HT0.out HB3.out (Nat.le_refl _))
  have HM3 := Lib.hid (HM0.out.below HB3.out)
  clear hb
  go_wp2_with fail
  go_loopw [11] (fun i wr => ∃ k : Nat, k ≤ s.size ∧ i = .int .i64 (k : Int) ∧ Hid (∀ j (hj : j < s.size), j < k → ¬ badB s[j]) ∧ wr = w3) (fun i _ => s.size - (intOf i).toNat)
  case atStart => exact ⟨0, by omega, rfl, Lib.hid (fun j _ h => absurd h (by omega)), rfl⟩
  case round =>
    obtain ⟨k, hk, rfl, HG, rfl⟩ := hrel
    by_cases hlt : k < s.size
    · have i0 : (0 : Int) ≤ (k : Int) := by omega
      have i1 : (k : Int) < (s.size : Int) := by omega
      by_cases h1 : ((s[k].toNat : Int) == 37) = true
      · go_wp2_with fail
        go_ret
        exact ⟨rfl, HB3.out⟩
      · by_cases h2 : ((s[k].toNat : Int) == 115) = true
        · have h1' : ((s[k].toNat : Int) == 37) = false := by simpa using h1
          clear h1
          go_wp2_with fail
          go_ret
          exact ⟨rfl, HB3.out⟩
        · have h1' : ((s[k].toNat : Int) == 37) = false := by simpa using h1
          have h2' : ((s[k].toNat : Int) == 115) = false := by simpa using h2
          have HG2 := Lib.hid (show ∀ j (hj : j < s.size), j < k + 1 → ¬ badB s[j] from fun j hj hl => by
            by_cases e : j = k
            · subst e
              rintro (h | h)
              · exact h1 h
              · exact h2 h
            · exact HG.out j hj (by omega))
          clear h1 h2 HG
          go_wp2_with fail
          go_roundw
          case rel => exact ⟨k + 1, by omega, by go_num, HG2, trivial⟩
          case measure => simp [intOf]; omega
    · obtain ⟨n0, n9, m0⟩ := HN.out
      obtain ⟨H', T, Z, Z2, hH, hT, hZ, hZ2, sH, sT, sZ, sZ2, hV, far, hE, hS⟩ := top_at s hs n0 n9 m0 (bad_no fun j hj => HG.out j hj (by omega))
      obtain rfl : H = H' := HH.out.symm.trans hH
      have c2 : ∀ W, Tab10 W → Calls Tryz.prog 14 #[.int .i64 m] W fun e w' => e = .returned (.string T) ∧ Below W.heap.size W w' := fun W hW => hT ▸ tail_any m W hW
      have c3 : ∀ W, MaxLenAt W → Calls Tryz.prog 8 #[.string Z] W fun e w' => e = .returned (.tuple #[.int .i64 1, .int .i64 n, .int .i64 0]) ∧ Below W.heap.size W w' := fun W hW =>
        (vers_any Z W (by omega) hW).mono fun e w' ⟨h1, h2⟩ => ⟨h1.trans (by rw [hV]), drewN_below h2⟩
      obtain ⟨P, hP⟩ : ∃ P, startX Z.data.toList = P := ⟨_, rfl⟩
      obtain ⟨Q, hQ⟩ : ∃ Q, startE Z.data.toList = Q := ⟨_, rfl⟩
      have c4 : ∀ W, MaxLenAt W → Calls Tryz.prog 12 #[.string Z] W fun e w' => e = .returned (.tuple #[.int .i64 P, .int .i64 Q]) ∧ Below W.heap.size W w' := fun W hW => hP ▸ hQ ▸ start_any Z W (by omega) hW
      rw [hP, hQ] at hS
      obtain ⟨E, hEE⟩ : ∃ E, endsS Z2.data.toList = E := ⟨_, rfl⟩
      have c5 := fun (W : World) (hW : MaxLenAt W) => ends_any Z2 W (by omega) hW
      simp only [hEE] at c5
      rw [hEE] at hE
      have H2 := Lib.hid c2
      have H3 := Lib.hid c3
      have H4 := Lib.hid c4
      have H5 := Lib.hid c5
      have HS := Lib.hid hS
      have HE := Lib.hid hE
      have HZ := Lib.hid hZ
      have HZ2 := Lib.hid hZ2
      have HF := Lib.hid far
      have hkk : ¬ (k : Int) < (s.size : Int) := by omega
      clear c2 c3 c4 c5 hH hT hV hS hE hP hQ hEE hZ hZ2 far n0 n9 m0 HG H1 HH hlt
      go_wp2_with fail
      refine (H2.out _ HT3.out).mono ?_
      rintro e w4 ⟨rfl, hb⟩
      have HB4 := Lib.hid (HB3.out.trans (hb.mono HB3.out.size))
      have HT4 := Lib.hid (tab10_below HT0.out HB4.out (Nat.le_refl _))
      have HM4 := Lib.hid (HM0.out.below HB4.out)
      clear hb
      go_wp2_with fail
      rw [HZ.out]
      refine (H3.out _ HM4.out).mono ?_
      rintro e w5 ⟨rfl, hb⟩
      have HB5 := Lib.hid (HB4.out.trans (hb.mono HB4.out.size))
      have HM5 := Lib.hid (HM0.out.below HB5.out)
      clear hb
      go_wp2_with fail
      refine (H4.out _ HM5.out).mono ?_
      rintro e w6 ⟨rfl, hb⟩
      have HB6 := Lib.hid (HB5.out.trans (hb.mono HB5.out.size))
      have HM6 := Lib.hid (HM0.out.below HB6.out)
      clear hb
      go_wp2_with fail
      rw [HZ2.out]
      refine (H5.out _ HM6.out).mono ?_
      rintro e w7 ⟨A1, C1, rfl, hown, hb⟩
      have HB7 := Lib.hid (HB6.out.trans (hb.mono HB6.out.size))
      have HT7 := Lib.hid (tab10_below HT0.out HB7.out (Nat.le_refl _))
      clear hb
      by_cases hfar : 2147483647 < m
      · obtain rfl := HF.out hfar
        clear hown H3 H4 H5 HZ
        go_wp2_with fail
        refine (H2.out _ HT7.out).mono ?_
        rintro e w8 ⟨rfl, hb⟩
        have HB8 := Lib.hid (HB7.out.trans (hb.mono HB7.out.size))
        clear hb
        go_wp2_with fail
        go_ret
        exact ⟨rfl, HB8.out⟩
      · obtain rfl := HE.out (Int.not_lt.1 hfar)
        obtain ⟨g1, c1, e1, _⟩ := hown.form (by simp)
        injection e1 with e1 _ e3
        subst e1 e3
        have x0 : w7.cell? ⟨g1, 0, none⟩ = some (.int .i64 (Z.size : Int)) := hown.cellAt 0 (by simp)
        have x1 : w7.cell? ⟨g1, 1, none⟩ = some (.int .i64 (2 * (Z.size : Int))) := hown.cellAt 1 (by simp)
        have hS := HS.out (Int.not_lt.1 hfar)
        clear hown HS HE
        by_cases hmz : m < (Z.size : Int)
        · obtain ⟨rfl, rfl⟩ := hS.1 hmz
          clear hS H4
          go_wp2_with fail
          go_ret
          exact ⟨rfl, HB7.out⟩
        · obtain ⟨rfl, rfl⟩ := hS.2 (Int.not_lt.1 hmz)
          clear hS H4
          go_wp2_with fail
          go_ret
          exact ⟨rfl, HB7.out⟩

set_option maxRecDepth 100000 in
set_option maxHeartbeats 16000000 in
theorem topEnds_any (s : ByteArray) (n m : Int) (w : World) (ht : Tab10 w) (hm : MaxLenAt w) :
    Calls Tryz.prog 6 #[.int .i64 n, .int .i64 m, .string s] w fun e w' => e = .returned (.bool true) ∧ Below w.heap.size w w' := by
  by_cases hb : s.size ≤ 300 ∧ 0 ≤ n ∧ n ≤ 9 ∧ 0 ≤ m
  · obtain ⟨h1, h2, h3, h4⟩ := hb
    exact topEnds_in s n m w h1 h2 h3 h4 ht hm
  · have HT0 := Lib.hid ht
    have HM0 := Lib.hid hm
    have HB0 := Lib.hid (Below.refl w.heap.size w)
    have hp : (decide ((300 : Int) < (s.size : Int)) || decide (n < 0) || decide ((9 : Int) < n) || decide (m < 0)) = true := by
      simp only [Bool.or_eq_true, decide_eq_true_eq]
      omega
    clear ht hm hb
    go_enter Tryz.func6, Tryz.ntmps6
    go_wp2_with fail
    refine (top_l7 _ HT0.out).mono ?_
    rintro e w1 ⟨rfl, hb⟩
    have HB1 := Lib.hid (HB0.out.trans (hb.mono HB0.out.size))
    have HM1 := Lib.hid (HM0.out.below HB1.out)
    clear hb
    go_wp2_with fail
    refine (top_s7 _ HM1.out).mono ?_
    rintro e w2 ⟨rfl, hb⟩
    have HB2 := Lib.hid (HB1.out.trans (hb.mono HB1.out.size))
    clear hb
    go_wp2_with fail
    all_goals (go_ret; exact ⟨rfl, HB2.out⟩)
end Go.Proofs.YtdpbpdikgcepbaaGreatDoor
