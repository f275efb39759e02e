/-
  Lemmas and walks, joined: HdSt.
-/
import Derived.Test.YtdpbpdikgcepbaaGreatDoorHz16
import Derived.Test.YtdpbpdikgcepbaaGreatDoorHz20
import Derived.Test.YtdpbpdikgcepbaaGreatDoorHz04
import Derived.Test.YtdpbpdikgcepbaaGreatDoorHz07
namespace Go.Proofs.YtdpbpdikgcepbaaGreatDoor
open Go.RowKit Go.Shelf Oct Fix Lex

/-- "startxref" -/
def sxrW : List UInt8 := [115, 116, 97, 114, 116, 120, 114, 101, 102]
def startBad (l : List UInt8) : Prop := lastS l sxrW < 0 ∨ (nxR l (lastS l sxrW + 9)).err ≠ 0 ∨ (nxR l (lastS l sxrW + 9)).kind ≠ 1 ∨ (nxR l (lastS l sxrW + 9)).num < 0 ∨ (l.length : Int) ≤ (nxR l (lastS l sxrW + 9)).num
instance (l : List UInt8) : Decidable (startBad l) := by unfold startBad; infer_instance
def startX (l : List UInt8) : Int := if startBad l then 0 else (nxR l (lastS l sxrW + 9)).num
def startE (l : List UInt8) : Int := if startBad l then 18 else 0
theorem start_bad {l : List UInt8} (h : startBad l) : startX l = 0 ∧ startE l = 18 := by unfold startX startE; rw [if_pos h, if_pos h]; exact ⟨rfl, rfl⟩
theorem start_good {l : List UInt8} (h : ¬ startBad l) : startX l = (nxR l (lastS l sxrW + 9)).num ∧ startE l = 0 := by unfold startX startE; rw [if_neg h, if_neg h]; exact ⟨rfl, rfl⟩
theorem last_le (l : List UInt8) : lastS l sxrW ≤ l.length := by
  unfold lastS
  rw [if_neg (by decide)]
  rcases lastUpto_spec l sxrW l.length with ⟨h, _⟩ | ⟨i, hi, h, _⟩
  · rw [h]; omega
  · rw [h]; omega

set_option maxRecDepth 100000 in
set_option maxHeartbeats 2000000 in
theorem start_any (s : ByteArray) (w : World) (hs : s.size ≤ 100000) (hm : MaxLenAt w) :
    Calls Tryz.prog 12 #[.string s] w fun e w' => e = .returned (.tuple #[.int .i64 (startX s.data.toList), .int .i64 (startE s.data.toList)]) ∧ Below w.heap.size w w' := by
  have hsl : s.data.toList.length = s.size := by simp
  obtain ⟨a, ha⟩ : ∃ a, lastS s.data.toList sxrW = a := ⟨_, rfl⟩
  have hl := last_c s ⟨#[115, 116, 97, 114, 116, 120, 114, 101, 102]⟩ a w (by omega) ha
  have HL := Lib.hid hl
  clear hl
  by_cases h0 : a < 0
  · obtain ⟨e1, e2⟩ := start_bad (l := s.data.toList) (Or.inl (by rw [ha]; exact h0))
    rw [e1, e2]
    clear e1 e2 ha hm hsl
    go_enter Tryz.func12, Tryz.ntmps12
    go_wp2_with fail
    refine HL.out.mono ?_
    rintro e w' ⟨rfl, rfl⟩
    go_wp2_with fail
    go_ret2
    exact ⟨rfl, Below.refl _ _⟩
  · have hx := lexNext_any s (a + 9) w hs hm
    have hbadI : startBad s.data.toList ↔ (nxR s.data.toList (a + 9)).err ≠ 0 ∨ (nxR s.data.toList (a + 9)).kind ≠ 1 ∨ (nxR s.data.toList (a + 9)).num < 0 ∨ (s.size : Int) ≤ (nxR s.data.toList (a + 9)).num := by
      unfold startBad
      rw [ha, hsl]
      constructor
      · rintro (h | h)
        · exact absurd h h0
        · exact h
      · exact Or.inr
    have hgood := start_good (l := s.data.toList)
    rw [ha] at hgood
    have hbad := start_bad (l := s.data.toList)
    rw [hbadI] at hgood hbad
    have hal : a + 9 ≤ 4000000000 := by
      have := last_le s.data.toList
      rw [ha, hsl] at this
      omega
    obtain ⟨R, hR⟩ : ∃ R, nxR s.data.toList (a + 9) = R := ⟨_, rfl⟩
    obtain ⟨i, hi⟩ : ∃ i, nxI s.data.toList (a + 9) = i := ⟨_, rfl⟩
    rw [hR, hi] at hx
    rw [hR] at hgood hbad
    obtain ⟨K, hK⟩ : ∃ K, R.kind = K := ⟨_, rfl⟩
    obtain ⟨M, hM⟩ : ∃ M, R.num = M := ⟨_, rfl⟩
    obtain ⟨Z, hZ⟩ : ∃ Z, R.err = Z := ⟨_, rfl⟩
    rw [hK, hM, hZ] at hx
    rw [hK, hM, hZ] at hgood hbad
    obtain ⟨X, hX⟩ : ∃ X, startX s.data.toList = X := ⟨_, rfl⟩
    obtain ⟨Y, hY⟩ : ∃ Y, startE s.data.toList = Y := ⟨_, rfl⟩
    rw [hX, hY] at hgood hbad ⊢
    have HX := Lib.hid hx
    have HGD := Lib.hid hgood
    have HBD := Lib.hid hbad
    have n0 : 0 ≤ a := by omega
    clear ha hm hsl hx hbadI hR hi hK hM hZ hX hY hgood hbad h0
    go_enter Tryz.func12, Tryz.ntmps12
    go_wp2_with fail
    refine HL.out.mono ?_
    rintro e w' ⟨rfl, rfl⟩
    go_wp2_with fail
    refine HX.out.mono ?_
    rintro e w2 ⟨rfl, hb⟩
    have HB := Lib.hid hb
    clear hb
    go_upto_region 5 with (fail)
    obtain ⟨w3, hw3⟩ : ∃ w3, w2.alloc (.cells #[.int .i64 K, .int .i64 (tA i R), .int .i64 (tT i R), .int .i64 M, .string (tS R)] 42) = w3 := ⟨_, rfl⟩
    have hT : Blk w3 w2.heap.size 42 #[.int .i64 K, .int .i64 (tA i R), .int .i64 (tT i R), .int .i64 M, .string (tS R)] := by rw [← hw3]; exact Blk.new _ _ _
    have HB3 := Lib.hid (show Below w.heap.size w w3 by rw [← hw3]; exact HB.out.alloc HB.out.size _)
    rw [hw3]
    clear hw3
    obtain ⟨g2, hg2⟩ : ∃ g2, w2.heap.size = g2 := ⟨_, rfl⟩
    rw [hg2] at hT
    simp only [hg2]
    clear hg2
    have x0 := hT.cell 0
    have x3 := hT.cell 3
    simp only [List.getElem?_toArray, List.getElem?_cons_zero, List.getElem?_cons_succ] at x0 x3
    clear hT
    by_cases z0 : Z = 0
    · by_cases k1 : K = 1
      · rcases (by omega : M < 0 ∨ (0 ≤ M ∧ (s.size : Int) ≤ M) ∨ (0 ≤ M ∧ M < (s.size : Int))) with m1 | ⟨m0, m1⟩ | ⟨m0, m1⟩
        · obtain ⟨rfl, rfl⟩ := HBD.out (Or.inr (Or.inr (Or.inl m1)))
          subst z0 k1
          go_wp2_with fail
          go_ret2
          exact ⟨rfl, HB3.out⟩
        · obtain ⟨rfl, rfl⟩ := HBD.out (Or.inr (Or.inr (Or.inr m1)))
          subst z0 k1
          have m2 : ¬ M < 0 := by omega
          go_wp2_with fail
          go_ret2
          exact ⟨rfl, HB3.out⟩
        · obtain ⟨rfl, rfl⟩ := HGD.out (by omega)
          subst z0 k1
          have m2 : ¬ X < 0 := by omega
          have m3 : ¬ (s.size : Int) ≤ X := by omega
          go_wp2_with fail
          go_ret2
          exact ⟨rfl, HB3.out⟩
      · obtain ⟨rfl, rfl⟩ := HBD.out (Or.inr (Or.inl k1))
        subst z0
        have k2 : (K != 1) = true := by simp [k1]
        go_wp2_with fail
        go_ret2
        exact ⟨rfl, HB3.out⟩
    · obtain ⟨rfl, rfl⟩ := HBD.out (Or.inl z0)
      have k2 : (Z != 0) = true := by simp [z0]
      go_wp2_with fail
      go_ret2
      exact ⟨rfl, HB3.out⟩

set_option maxRecDepth 100000 in
set_option maxHeartbeats 2000000 in
theorem startR_any (s : ByteArray) (w : World) (hs : s.size ≤ 100000) :
    Calls Tryz.prog 13 #[.string s] w fun e w' => e = .returned (.tuple #[.int .i64 (startX s.data.toList), .int .i64 (startE s.data.toList)]) ∧ Below w.heap.size w w' := by
  have hsl : s.data.toList.length = s.size := by simp
  obtain ⟨a, ha⟩ : ∃ a, lastS s.data.toList sxrW = a := ⟨_, rfl⟩
  have hl : Calls Tryz.prog 26 #[.string s, .string ⟨#[115, 116, 97, 114, 116, 120, 114, 101, 102]⟩] w fun e w' => e = .returned (.int .i64 a) ∧ w = w' := ha ▸ last_r s ⟨#[115, 116, 97, 114, 116, 120, 114, 101, 102]⟩ w (by omega) (by decide)
  have HL := Lib.hid hl
  clear hl
  by_cases h0 : a < 0
  · obtain ⟨e1, e2⟩ := start_bad (l := s.data.toList) (Or.inl (by rw [ha]; exact h0))
    rw [e1, e2]
    clear e1 e2 ha hsl
    go_enter Tryz.func13, Tryz.ntmps13
    go_wp2_with fail
    refine HL.out.mono ?_
    rintro e w' ⟨rfl, rfl⟩
    go_wp2_with fail
    go_ret2
    exact ⟨rfl, Below.refl _ _⟩
  · have hx := nextR_any s (a + 9) w hs
    have hbadI : startBad s.data.toList ↔ (nxR s.data.toList (a + 9)).err ≠ 0 ∨ (nxR s.data.toList (a + 9)).kind ≠ 1 ∨ (nxR s.data.toList (a + 9)).num < 0 ∨ (s.size : Int) ≤ (nxR s.data.toList (a + 9)).num := by
      unfold startBad
      rw [ha, hsl]
      constructor
      · rintro (h | h)
        · exact absurd h h0
        · exact h
      · exact Or.inr
    have hgood := start_good (l := s.data.toList)
    rw [ha] at hgood
    have hbad := start_bad (l := s.data.toList)
    rw [hbadI] at hgood hbad
    have hal : a + 9 ≤ 4000000000 := by
      have := last_le s.data.toList
      rw [ha, hsl] at this
      omega
    obtain ⟨R, hR⟩ : ∃ R, nxR s.data.toList (a + 9) = R := ⟨_, rfl⟩
    obtain ⟨i, hi⟩ : ∃ i, nxI s.data.toList (a + 9) = i := ⟨_, rfl⟩
    rw [hR, hi] at hx
    rw [hR] at hgood hbad
    obtain ⟨K, hK⟩ : ∃ K, R.kind = K := ⟨_, rfl⟩
    obtain ⟨M, hM⟩ : ∃ M, R.num = M := ⟨_, rfl⟩
    obtain ⟨Z, hZ⟩ : ∃ Z, R.err = Z := ⟨_, rfl⟩
    rw [hK, hM, hZ] at hx
    rw [hK, hM, hZ] at hgood hbad
    obtain ⟨X, hX⟩ : ∃ X, startX s.data.toList = X := ⟨_, rfl⟩
    obtain ⟨Y, hY⟩ : ∃ Y, startE s.data.toList = Y := ⟨_, rfl⟩
    rw [hX, hY] at hgood hbad ⊢
    have HX := Lib.hid hx
    have HGD := Lib.hid hgood
    have HBD := Lib.hid hbad
    have n0 : 0 ≤ a := by omega
    clear ha hsl hx hbadI hR hi hK hM hZ hX hY hgood hbad h0
    go_enter Tryz.func13, Tryz.ntmps13
    go_wp2_with fail
    refine HL.out.mono ?_
    rintro e w' ⟨rfl, rfl⟩
    go_wp2_with fail
    refine HX.out.mono ?_
    rintro e w2 ⟨rfl, hb⟩
    have HB := Lib.hid hb
    clear hb
    go_upto_region 5 with (fail)
    obtain ⟨w3, hw3⟩ : ∃ w3, w2.alloc (.cells #[.int .i64 K, .int .i64 (tA i R), .int .i64 (tT i R), .int .i64 M, .string (tS R)] 42) = w3 := ⟨_, rfl⟩
    have hT : Blk w3 w2.heap.size 42 #[.int .i64 K, .int .i64 (tA i R), .int .i64 (tT i R), .int .i64 M, .string (tS R)] := by rw [← hw3]; exact Blk.new _ _ _
    have HB3 := Lib.hid (show Below w.heap.size w w3 by rw [← hw3]; exact HB.out.alloc HB.out.size _)
    rw [hw3]
    clear hw3
    obtain ⟨g2, hg2⟩ : ∃ g2, w2.heap.size = g2 := ⟨_, rfl⟩
    rw [hg2] at hT
    simp only [hg2]
    clear hg2
    have x0 := hT.cell 0
    have x3 := hT.cell 3
    simp only [List.getElem?_toArray, List.getElem?_cons_zero, List.getElem?_cons_succ] at x0 x3
    clear hT
    by_cases z0 : Z = 0
    · by_cases k1 : K = 1
      · rcases (by omega : M < 0 ∨ (0 ≤ M ∧ (s.size : Int) ≤ M) ∨ (0 ≤ M ∧ M < (s.size : Int))) with m1 | ⟨m0, m1⟩ | ⟨m0, m1⟩
        · obtain ⟨rfl, rfl⟩ := HBD.out (Or.inr (Or.inr (Or.inl m1)))
          subst z0 k1
          go_wp2_with fail
          go_ret2
          exact ⟨rfl, HB3.out⟩
        · obtain ⟨rfl, rfl⟩ := HBD.out (Or.inr (Or.inr (Or.inr m1)))
          subst z0 k1
          have m2 : ¬ M < 0 := by omega
          go_wp2_with fail
          go_ret2
          exact ⟨rfl, HB3.out⟩
        · obtain ⟨rfl, rfl⟩ := HGD.out (by omega)
          subst z0 k1
          have m2 : ¬ X < 0 := by omega
          have m3 : ¬ (s.size : Int) ≤ X := by omega
          go_wp2_with fail
          go_ret2
          exact ⟨rfl, HB3.out⟩
      · obtain ⟨rfl, rfl⟩ := HBD.out (Or.inr (Or.inl k1))
        subst z0
        have k2 : (K != 1) = true := by simp [k1]
        go_wp2_with fail
        go_ret2
        exact ⟨rfl, HB3.out⟩
    · obtain ⟨rfl, rfl⟩ := HBD.out (Or.inl z0)
      have k2 : (Z != 0) = true := by simp [z0]
      go_wp2_with fail
      go_ret2
      exact ⟨rfl, HB3.out⟩
end Go.Proofs.YtdpbpdikgcepbaaGreatDoor
