/-
  PredictTags: predictors 10 to 14 put their own tag ahead of every row, and the tag that 15 chooses has the least sum.
-/
import Derived.Test.YticliemmplefoaaPrdTp
import Derived.Test.YticliemmplefoaaPrdFa
import Derived.Test.YticliemmplefoaaPrdLv
import Derived.Test.YticliemmplefoaaRgCall
namespace Go.Proofs.Yticliemmplefoaa
open Go.RowKit Oct Prd

/-- A predicate on worlds behind a name of its own (the walk takes no hypothesis whose head is a letter). -/
def OnW (Y : World → Prop) (W : World) : Prop := Y W
theorem onW {Y Y' : World → Prop} {W : World} (h : Y' = Y) (k : Y' W) : OnW Y W := by rw [← h]; exact k
theorem onW_out {Y Y' : World → Prop} {W : World} (h : Y' = Y) (k : OnW Y W) : Y' W := by rw [h]; exact k
/-- The six strings, the first k of them made. -/
def allC (E : Nat → ByteArray) : Nat → Array Value
  | 0 => #[.string ⟨#[]⟩, .string ⟨#[]⟩, .string ⟨#[]⟩, .string ⟨#[]⟩, .string ⟨#[]⟩, .string ⟨#[]⟩]
  | k + 1 => (allC E k).setIfInBounds k (.string (E k))
theorem allC_size (E : Nat → ByteArray) : ∀ k, (allC E k).size = 6
  | 0 => rfl
  | k + 1 => by rw [allC, Array.size_setIfInBounds, allC_size E k]
theorem allC_at (E : Nat → ByteArray) (k : Nat) (h : k < 6) : (allC E 6)[k]? = some (.string (E k)) := by
  rcases (show k = 0 ∨ k = 1 ∨ k = 2 ∨ k = 3 ∨ k = 4 ∨ k = 5 by omega) with rfl | rfl | rfl | rfl | rfl | rfl <;> simp [allC]
theorem allC_some (E : Nat → ByteArray) (k j : Nat) (h : j < 6) : ∃ v, (allC E k)[j]? = some v := ⟨_, Array.getElem?_eq_getElem (by rw [allC_size]; exact h)⟩

set_option maxRecDepth 100000 in
set_option maxHeartbeats 32000000 in
theorem prdTags_in (a b : Nat) (s : ByteArray) (w : World) (ha : a < 256) (hb : b < 256) (hs : s.size ≤ 600) :
    Calls Try.prog 3 #[.int .u8 (a : Int), .int .u8 (b : Int), .string s] w fun e w' => e = .returned (.bool true) ∧ Below w.heap.size w w' := by
  obtain ⟨x, hx⟩ : ∃ x, a % 4 = x := ⟨_, rfl⟩
  obtain ⟨y, hy⟩ : ∃ y, b % 40 = y := ⟨_, rfl⟩
  have g1 : (a : Int).tmod 4 = (x : Int) := by rw [← hx]; exact (Int.ofNat_tmod _ _).symm
  have g2 : (b : Int).tmod 40 = (y : Int) := by rw [← hy]; exact (Int.ofNat_tmod _ _).symm
  obtain ⟨co, hco⟩ : ∃ co, 1 + x = co := ⟨_, rfl⟩
  obtain ⟨cl, hcl⟩ : ∃ cl, 1 + y = cl := ⟨_, rfl⟩
  have g3 : (1 : Int) + (x : Int) = (co : Int) := by omega
  have g4 : (1 : Int) + (y : Int) = (cl : Int) := by omega
  have hx4 : x < 4 := by omega
  have hy4 : y < 40 := by omega
  obtain ⟨n, hn⟩ : ∃ n, co * cl = n := ⟨_, rfl⟩
  have hn1 : 1 ≤ n := by rw [← hn]; exact Nat.mul_le_mul (show 1 ≤ co by omega) (show 1 ≤ cl by omega)
  have hn2 : n ≤ 160 := by rw [← hn]; exact Nat.mul_le_mul (show co ≤ 4 by omega) (show cl ≤ 40 by omega)
  have g5 : (co : Int) * (cl : Int) = (n : Int) := by rw [← hn]; push_cast; rfl
  have g6 : ¬ (600 : Int) < (s.size : Int) := by omega
  obtain ⟨r, hr⟩ : ∃ r, s.size % n = r := ⟨_, rfl⟩
  have hrl : r ≤ s.size := by rw [← hr]; exact Nat.mod_le _ _
  obtain ⟨t, ht⟩ : ∃ t, s.size - r = t := ⟨_, rfl⟩
  obtain ⟨T, hT⟩ : ∃ T, s.extract 0 t = T := ⟨_, rfl⟩
  have hTs : T.size = t := by rw [← hT, ByteArray.size_extract]; omega
  have g7 : (s.size : Int).tmod (n : Int) = (r : Int) := by rw [← hr]; exact (Int.ofNat_tmod _ _).symm
  have g8 : (s.size : Int) - (r : Int) = (t : Int) := by omega
  have g9 : (0 : Int) ≤ (t : Int) := by omega
  have g10 : (t : Int) ≤ (s.size : Int) := by omega
  have g11 : ¬ (n : Int) = 0 := by omega
  obtain ⟨m, hm⟩ : ∃ m, s.size / n = m := ⟨_, rfl⟩
  have htm : t = n * m := by
    have := Nat.div_add_mod s.size n
    rw [hm, hr] at this
    omega
  obtain ⟨l, hl⟩ : ∃ l, T.data.toList = l := ⟨_, rfl⟩
  have hll : l.length = n * m := by rw [← htm, ← hTs, ← hl]; simp
  have HE1 : Hid (∀ k : Nat, k < 6 → ∀ W : World, Calls Try.prog 5 #[.agg #[.int .i64 (10 + (k : Int)), .int .i64 (co : Int), .int .i64 (cl : Int)], .string T] W fun e w' => e = .returned (.tuple #[.string (EB co n m l k), .int .i64 0]) ∧ Below W.heap.size W w') := Lib.hid (fun k hk W => by
    have h := encP_any T (10 + (k : Int)) (co : Int) (cl : Int) W (by omega) (by unfold I64; omega) (by unfold I64; omega) (by unfold I64; omega)
    rw [hl, enc_tags (by omega) (by omega) (by omega) (by omega) hn hll hk] at h
    exact h)
  have HES := Lib.hid (fun k => EB_size (co := co) hll k)
  have HTR := Lib.hid (fun j (hj : j < m) => tag_row (co := co) hll hj)
  have hm600 : n * m ≤ 600 := by omega
  have hmm : m ≤ 600 := Nat.le_trans (Nat.le_mul_of_pos_left m hn1) hm600
  have g12 : (t : Int).tdiv (n : Int) = (m : Int) := by
    rw [htm]
    push_cast
    rw [Int.mul_tdiv_cancel_left _ (by omega)]
  obtain ⟨E, hE⟩ : ∃ E : Nat → ByteArray, EB co n m l = E := ⟨_, rfl⟩
  rw [hE] at HE1 HES HTR
  have HTx := Lib.hid hT
  have HTs := Lib.hid hTs
  have HT2 := Lib.hid (show (t : Int) + (m : Int) = (((1 + n) * m : Nat) : Int) by rw [htm]; push_cast; rw [Int.add_mul]; omega)
  have HMM := Lib.hid (And.intro htm (And.intro hm600 hmm))
  obtain ⟨N, hN⟩ : ∃ N, w.heap.size = N := ⟨_, rfl⟩
  obtain ⟨V, hV⟩ : ∃ V, w.alloc (.cells #[.int .i64 0, .int .i64 (co : Int), .int .i64 (cl : Int)] 23) = V := ⟨_, rfl⟩
  obtain ⟨V2, hV2⟩ : ∃ V2, V.alloc (.cells (allC E 0) 25) = V2 := ⟨_, rfl⟩
  have HV0 := Lib.hid (And.intro hV hV2)
  have hVs : V.heap.size = N + 1 := by rw [← hV, World.size_alloc, hN]
  have bP : Blk V2 N 23 #[.int .i64 0, .int .i64 (co : Int), .int .i64 (cl : Int)] := by rw [← hV2, ← hV, ← hN]; exact (Blk.new w _ _).alloc _
  have bA : Blk V2 (N + 1) 25 (allC E 0) := by rw [← hV2, ← hVs]; exact Blk.new V _ _
  have hB0 : Below N w V2 := by rw [← hV2, ← hV, ← hN]; exact ((Below.refl _ w).alloc (Nat.le_refl _) _).alloc (by rw [World.size_alloc]; omega) _
  have HB0 := Lib.hid (And.intro hB0 (And.intro bP bA))
  have HN := Lib.hid hN
  have HVs := Lib.hid hVs
  have HLv := Lib.hid (fun W : World => prdLives_any W)
  have p1 : V.cell? ⟨N, 1, none⟩ = some (.int .i64 (co : Int)) := by rw [← hV, ← hN]; exact (Blk.new w _ _).cell 1
  have p2 : V.cell? ⟨N, 2, none⟩ = some (.int .i64 (cl : Int)) := by rw [← hV, ← hN]; exact (Blk.new w _ _).cell 2
  have hcoI : (co : Int) ≤ 4 := by omega
  have hclI : (cl : Int) ≤ 40 := by omega
  have hnI : (n : Int) ≤ 160 := by omega
  have hnI1 : (1 : Int) ≤ (n : Int) := by omega
  have hmI : (m : Int) ≤ 600 := by omega
  have htI : (t : Int) ≤ 600 := by omega
  have hsI : (s.size : Int) ≤ 600 := by omega
  have hxI : (x : Int) < 4 := by omega
  have hyI : (y : Int) < 40 := by omega
  have haI : (a : Int) < 256 := by omega
  have hbI : (b : Int) < 256 := by omega
  rw [hN]
  clear hx hy hco hcl hx4 hy4 hn hr hrl ht hT hTs hm htm hl hll hm600 hmm hE hV hV2 hVs bP bA hB0 ha hb hs
  go_enter Try.func3, Try.ntmps3
  go_upto_region 2 with fail
  rw [HV0.out.1]
  go_upto_region 6 with fail
  rw [HTx.out]
  go_upto_region 7 with fail
  have hV2 := HV0.out.2
  simp only [allC] at hV2
  rw [hV2, HVs.out]
  clear hV2 p1 p2
  have hTs := HTs.out
  go_wp2_with fail
  go_loopw [10] (fun iv wr => ∃ k : Nat, k ≤ 6 ∧ iv = .int .i64 (k : Int) ∧ Hid (∃ pr : Int, Below N w wr ∧ Blk wr N 23 #[.int .i64 pr, .int .i64 (co : Int), .int .i64 (cl : Int)] ∧ Blk wr (N + 1) 25 (allC E k))) (fun iv _ => 6 - (intOf iv).toNat)
  case atStart => exact ⟨0, by omega, rfl, Lib.hid ⟨0, HB0.out.1, HB0.out.2.1, HB0.out.2.2⟩⟩
  case round =>
    obtain ⟨k, hk, rfl, HI⟩ := hrel
    by_cases hlt : k < 6
    · have hik : (k : Int) < 6 := by omega
      have hik0 : (0 : Int) ≤ (k : Int) := by omega
      obtain ⟨pr, hb1, hP, hA⟩ := HI.out
      have c0 := hP.cell 0
      have f0 := hP.frozen 0
      simp only [List.getElem?_toArray, List.getElem?_cons_zero] at c0
      have HK := Lib.hid (And.intro (hb1.setCell (p := ⟨N, 0, none⟩) (Nat.le_refl _) (.int .i64 (10 + (k : Int)))) (And.intro (hP.set_ 0 (.int .i64 (10 + (k : Int)))) (hA.far (p := ⟨N, 0, none⟩) (by show N + 1 ≠ N; omega) (.int .i64 (10 + (k : Int))))))
      clear hb1 hP hA HI hk
      go_upto_region 11 with fail
      obtain ⟨w3, hw3⟩ : ∃ w3, wr.setCell ⟨N, 0, none⟩ (.int .i64 (10 + (k : Int))) = w3 := ⟨_, rfl⟩
      rw [hw3] at HK ⊢
      clear hw3 c0 f0
      have c0 := HK.out.2.1.cell 0
      have c1 := HK.out.2.1.cell 1
      have c2 := HK.out.2.1.cell 2
      simp only [List.setIfInBounds_toArray, List.set_cons_zero, List.getElem?_toArray, List.getElem?_cons_zero, List.getElem?_cons_succ] at c0 c1 c2
      obtain ⟨X, hX⟩ : ∃ X, E k = X := ⟨_, rfl⟩
      have hXs : (X.size : Int) = (t : Int) + (m : Int) := by rw [← hX, HES.out k, HT2.out]
      have HC := Lib.hid (HE1.out k hlt w3)
      rw [hX] at HC
      have HX := Lib.hid hX
      clear hX
      go_wp2_with fail
      refine HC.out.mono ?_
      rintro e w4 ⟨rfl, hb⟩
      have HK4 := Lib.hid (show Below N w w4 ∧ Blk w4 N 23 #[.int .i64 (10 + (k : Int)), .int .i64 (co : Int), .int .i64 (cl : Int)] ∧ Blk w4 (N + 1) 25 (allC E k) from by
        have h1 := HK.out.1.size
        have h2 := HK.out.2.2.lt
        exact ⟨HK.out.1.trans (hb.mono (by have := HN.out; omega)), HK.out.2.1.below hb HK.out.2.1.lt, HK.out.2.2.below hb h2⟩)
      obtain ⟨u, hu⟩ := allC_some E k k hlt
      have ck := (HK4.out.2.2.cell k).trans hu
      have fk := HK4.out.2.2.frozen k
      have HK5 := Lib.hid (And.intro (HK4.out.1.setCell (p := ⟨N + 1, k, none⟩) (by show N ≤ N + 1; omega) (.string X)) (And.intro (HK4.out.2.1.far (p := ⟨N + 1, k, none⟩) (by show N ≠ N + 1; omega) (.string X)) (HK4.out.2.2.set_ k (.string X))))
      clear hb hu c0 c1 c2
      go_wp2_with fail
      go_roundw
      case rel => exact ⟨k + 1, by omega, by go_num, Lib.hid ⟨_, HK5.out.1, HK5.out.2.1, by rw [allC, HX.out]; exact HK5.out.2.2⟩⟩
      case measure => simp [intOf]; omega
    · obtain rfl : k = 6 := by omega
      rw [show ((6 : Nat) : Int) = (6 : Int) from rfl]
      clear HB0 HV0 HE1 HTx
      obtain ⟨pr, hb1, _, hA⟩ := HI.out
      obtain ⟨wm, hwm⟩ : ∃ v, v = wr := ⟨_, rfl⟩
      subst hwm
      have hm2 : N + 2 ≤ wm.heap.size := hA.lt
      have HC : Hid (∀ W : World, Below (N + 2) wm W → ∀ k, k < 6 → W.cell? ⟨N + 1, k, none⟩ = some (.string (E k))) := Lib.hid (fun W hW k hk => ((hA.below hW (by omega)).cell k).trans (allC_at E k hk))
      have HM := Lib.hid (And.intro hb1 hm2)
      clear hA hb1 hm2 hlt hk HI
      obtain ⟨L, hL⟩ : ∃ L, (1 + n) * m = L := ⟨_, rfl⟩
      rw [hL] at HES
      have HL := Lib.hid hL
      have hL6 : (L : Int) ≤ 1200 := by
        have h1 := HMM.out.2.1
        have h2 := HMM.out.2.2
        have : (1 + n) * m = m + n * m := by rw [Nat.add_mul, Nat.one_mul]
        omega
      clear hL HT2
      go_wp2_with fail
      go_loopw [13] (fun iv wr => ∃ j : Nat, j ≤ m ∧ iv = .int .i64 (((1 + n) * j : Nat) : Int) ∧ Hid (Below (N + 2) wm wr)) (fun iv _ => L - (intOf iv).toNat)
      case atStart => exact ⟨0, by omega, by simp, Lib.hid (Below.refl _ _)⟩
      case round =>
        obtain ⟨j, hj, rfl, HJ⟩ := hrel
        obtain ⟨A, hA⟩ : ∃ A, (1 + n) * j = A := ⟨_, rfl⟩
        rw [hA]
        have cA := HC.out wr HJ.out 0 (by decide)
        have cB := HC.out wr HJ.out 5 (by decide)
        obtain ⟨X0, hX0⟩ : ∃ X, E 0 = X := ⟨_, rfl⟩
        obtain ⟨Y, hY⟩ : ∃ X, E 5 = X := ⟨_, rfl⟩
        rw [hX0] at cA
        rw [hY] at cB
        have hX0s : (X0.size : Int) = (L : Int) := by rw [← hX0, HES.out 0]
        have hA0 : (0 : Int) ≤ (A : Int) := by omega
        by_cases hjm : j < m
        · have hAL : A + n + 1 ≤ L := by
            have h1 : (1 + n) * (j + 1) ≤ (1 + n) * m := Nat.mul_le_mul_left _ hjm
            rw [Nat.mul_add, Nat.mul_one, hA, HL.out] at h1
            omega
          have hALI : (A : Int) < (L : Int) := by omega
          obtain ⟨Tg, hT5, htr⟩ := HTR.out j hjm
          rw [hA, hY] at htr
          have hYs : Y.size = L := by rw [← hY, HES.out 5]
          have hAY : A < Y.size := by omega
          have hAYI : (A : Int) < (Y.size : Int) := by omega
          obtain ⟨dT, hdT⟩ : ∃ d : UInt8, Y[A] = d := ⟨_, rfl⟩
          have hdTt : dT.toNat = Tg := by rw [← hdT]; exact (htr 0 (by decide)).ty hAY
          have hT4 : ¬ (4 : Int) < (Tg : Int) := by omega
          have hTg0 : (0 : Int) ≤ (Tg : Int) := by omega
          have HTr := Lib.hid htr
          have HY := Lib.hid hY
          have HA := Lib.hid hA
          have HX := Lib.hid (And.intro hAL (And.intro hYs hT5))
          clear htr hX0 hY hA hT5 hAL
          go_wp2_with fail
          go_loopw [15] (fun iv wx => ∃ k : Nat, k ≤ 5 ∧ iv = .int .i64 (k : Int) ∧ Hid (Below (N + 2) wm wx)) (fun iv _ => 5 - (intOf iv).toNat)
          case atStart => exact ⟨0, by omega, rfl, HJ⟩
          case round =>
            obtain ⟨k, hk, rfl, HK⟩ := hrel
            clear cA cB hX0s
            by_cases hk5 : k < 5
            · have hik : (k : Int) < 5 := by omega
              have hik6 : (k : Int) < 6 := by omega
              have hik0 : (0 : Int) ≤ (k : Int) := by omega
              have htr := HTr.out k hk5
              obtain ⟨X, hX⟩ : ∃ X, E k = X := ⟨_, rfl⟩
              rw [hX] at htr
              have hXs : X.size = L := by rw [← hX, HES.out k]
              have hAL := HX.out.1
              have hAX : A < X.size := by omega
              have hAXI : (A : Int) < (X.size : Int) := by omega
              obtain ⟨d, hd⟩ : ∃ d : UInt8, X[A] = d := ⟨_, rfl⟩
              have hdk : d.toNat = k := by rw [← hd]; exact htr.tx hAX
              obtain ⟨b1, hb1⟩ : ∃ b, A + 1 = b := ⟨_, rfl⟩
              obtain ⟨c1, hc1⟩ : ∃ b, A + n = b := ⟨_, rfl⟩
              obtain ⟨e1, he1⟩ : ∃ b, A + n + 1 = b := ⟨_, rfl⟩
              have i1 : (A : Int) + 1 = (b1 : Int) := by omega
              have i2 : (A : Int) + (n : Int) = (c1 : Int) := by omega
              have i3 : (c1 : Int) + 1 = (e1 : Int) := by omega
              have i4 : (b1 : Int) ≤ (e1 : Int) := by omega
              have i5 : (e1 : Int) ≤ (X.size : Int) := by omega
              have i6 : (e1 : Int) ≤ (L : Int) := by omega
              have i7 : (0 : Int) ≤ (b1 : Int) := by omega
              have i8 : (A : Int) ≤ (e1 : Int) := by omega
              have i9 : (e1 : Int) ≤ 1200 := by omega
              have i10 : (c1 : Int) ≤ 1200 := by omega
              have i11 : (b1 : Int) ≤ 1200 := by omega
              have i12 : (0 : Int) ≤ (e1 : Int) := by omega
              have j1 : IntKind.i64.wrap (k : Int) = (k : Int) := IntWalk.i64_in _ (by omega)
              have j2 : IntKind.i64.wrap (b1 : Int) = (b1 : Int) := IntWalk.i64_in _ (by omega)
              have j3 : IntKind.i64.wrap (c1 : Int) = (c1 : Int) := IntWalk.i64_in _ (by omega)
              have j4 : IntKind.i64.wrap (e1 : Int) = (e1 : Int) := IntWalk.i64_in _ (by omega)
              obtain ⟨XA, hXA⟩ : ∃ x, X.extract b1 e1 = x := ⟨_, rfl⟩
              obtain ⟨YA, hYA⟩ : ∃ x, Y.extract b1 e1 = x := ⟨_, rfl⟩
              obtain ⟨wx, hwx⟩ : ∃ x, weightR XA.data.toList = x := ⟨_, rfl⟩
              obtain ⟨wy, hwy⟩ : ∃ x, weightR YA.data.toList = x := ⟨_, rfl⟩
              have hww : ¬ (wx : Int) < (wy : Int) := by
                have h := htr.w
                rw [hb1, he1, hXA, hYA, hwx, hwy] at h
                omega
              have heq : k = Tg → X.extract A e1 = Y.extract A e1 := fun h => by rw [← he1]; exact htr.eq h
              obtain ⟨Yw, hYw⟩ : ∃ Y : World → Prop, (fun W : World => Below (N + 2) wm W) = Y := ⟨_, rfl⟩
              have HYW := Lib.hid (fun (W : World) (h : OnW Yw W) => show Below (N + 2) wm W from onW_out hYw h)
              have HYd := Lib.hid (fun (W : World) (h : OnW Yw W) => show OnW Yw W.drew from onW hYw (Below.drew (onW_out hYw h)))
              have HYn := Lib.hid (fun (W : World) (h : OnW Yw W) (q : Nat) => show OnW Yw (W.drewN q) from onW hYw (below_drewN (onW_out hYw h) q))
              have hl1 : ∀ W : World, OnW Yw W → W.cell? ⟨N + 1, k, none⟩ = some (.string X) := fun W h => by rw [← hX]; exact HC.out W (HYW.out W h) k (by omega)
              have hl2 : ∀ W : World, OnW Yw W → W.cell? ⟨N + 1, 5, none⟩ = some (.string Y) := fun W h => by rw [← HY.out]; exact HC.out W (HYW.out W h) 5 (by decide)
              have hY4 : OnW Yw wr := onW hYw HK.out
              have hsz : XA.size ≤ 1000000 ∧ YA.size ≤ 1000000 := by
                rw [← hXA, ← hYA, ByteArray.size_extract, ByteArray.size_extract]
                constructor <;> omega
              have HF1 : Hid (∀ W : World, OnW Yw W → Calls Try.prog 6 #[.string XA] W fun e w' => e = .returned (.int .i64 (wx : Int)) ∧ OnW Yw w') := Lib.hid (fun W hW => by
                have h := far_any XA W hsz.1
                rw [hwx] at h
                refine h.mono ?_
                rintro e w' ⟨rfl, q, rfl⟩
                exact ⟨rfl, HYn.out W hW q⟩)
              have HF2 : Hid (∀ W : World, OnW Yw W → Calls Try.prog 6 #[.string YA] W fun e w' => e = .returned (.int .i64 (wy : Int)) ∧ OnW Yw w') := Lib.hid (fun W hW => by
                have h := far_any YA W hsz.2
                rw [hwy] at h
                refine h.mono ?_
                rintro e w' ⟨rfl, q, rfl⟩
                exact ⟨rfl, HYn.out W hW q⟩)
              have HEq := Lib.hid heq
              clear htr hX hXs hAL hb1 hc1 he1 hwx hwy heq hYw hsz hk
              go_upto_region 24 with fail
              by_cases hkT : k = Tg
              · subst hkT
                obtain ⟨ZF, hXF⟩ : ∃ x, X.extract A e1 = x := ⟨_, rfl⟩
                have hYF : Y.extract A e1 = ZF := by rw [← HEq.out rfl]; exact hXF
                refine wp_region_held_drew (S := fun W => OnW Yw W) (by kernel_rfl) (HYd.out _ hY4) (fun hHeld0 => ?_)
                obtain ⟨V0, hV0⟩ : ∃ U, wr.drew = U := ⟨_, rfl⟩
                have HV0 := Lib.hid hV0
                rw [hV0] at hHeld0 ⊢
                clear hV0
                refine wpAnyH_norm (l' := #[false, false, false, false, false, false, false, false, false, false, false, false, false, false, false, false, false, false, false, false, false, false, false, false, false, false, false, false, false, false, false, false, false, false, false, false, false, false, false, false, false, false, false, false, false, false, false, false, false, false, false, false, false, false, false, false, false]) (f' := 57) (by kernel_rfl) (by kernel_rfl) ?_
                refine wpAnyH_take' (i := 0) (d := 93) (v := ?vs1) rfl (by kernel_rfl) (by kernel_rfl) (by kernel_rfl) (by kernel_rfl) (fun _ _ _ h => h) (Or.inl ⟨by kernel_rfl, ?hys1⟩) hHeld0 ?rests1
                case hys1 => (intro w hSw; go_simp; first | done | with_reducible rfl)
                case' rests1 =>
                  try simp only [Act.put, List.setIfInBounds_toArray, List.set_cons_zero, List.set_cons_succ]
                refine wpAnyH_take' (i := 1) (d := 94) (v := ?vs2) rfl (by kernel_rfl) (by kernel_rfl) (by kernel_rfl) (by kernel_rfl) (fun _ _ _ h => h) (Or.inl ⟨by kernel_rfl, ?hys2⟩) hHeld0 ?rests2
                case hys2 => (intro w hSw; go_simp; first | done | with_reducible rfl)
                case' rests2 =>
                  try simp only [Act.put, List.setIfInBounds_toArray, List.set_cons_zero, List.set_cons_succ]
                refine wpAnyH_take' (i := 2) (d := 95) (v := ?vs3) rfl (by kernel_rfl) (by kernel_rfl) (by kernel_rfl) (by kernel_rfl) (fun _ _ _ h => h) (Or.inl ⟨by kernel_rfl, ?hys3⟩) hHeld0 ?rests3
                case hys3 => (intro w hSw; go_simp; first | done | with_reducible rfl)
                case' rests3 =>
                  try simp only [Act.put, List.setIfInBounds_toArray, List.set_cons_zero, List.set_cons_succ]
                refine wpAnyH_take' (i := 3) (d := 96) (v := ?vs4) rfl (by kernel_rfl) (by kernel_rfl) (by kernel_rfl) (by kernel_rfl) (fun _ _ _ h => h) (Or.inl ⟨by kernel_rfl, ?hys4⟩) hHeld0 ?rests4
                case hys4 => (intro w hSw; go_simp; first | done | with_reducible rfl)
                case' rests4 =>
                  try simp only [Act.put, List.setIfInBounds_toArray, List.set_cons_zero, List.set_cons_succ]
                refine wpAnyH_take' (i := 4) (d := 97) (v := ?vs5) rfl (by kernel_rfl) (by kernel_rfl) (by kernel_rfl) (by kernel_rfl) (fun _ _ _ h => h) (Or.inl ⟨by kernel_rfl, ?hys5⟩) hHeld0 ?rests5
                case hys5 => (intro w hSw; go_simp; first | done | with_reducible rfl)
                case' rests5 =>
                  try simp only [Act.put, List.setIfInBounds_toArray, List.set_cons_zero, List.set_cons_succ]
                refine wpAnyH_take' (i := 5) (d := 98) (v := .int .i64 (k : Int)) rfl (by kernel_rfl) (by kernel_rfl) (by kernel_rfl) (by kernel_rfl) (fun _ _ _ h => h) (Or.inl ⟨by kernel_rfl, ?hys6⟩) hHeld0 ?rests6
                case hys6 => (intro w hSw; go_simp; first | done | with_reducible rfl)
                case' rests6 =>
                  try simp only [Act.put, List.setIfInBounds_toArray, List.set_cons_zero, List.set_cons_succ]
                refine wpAnyH_take' (i := 6) (d := 99) (v := ?vs7) rfl (by kernel_rfl) (by kernel_rfl) (by kernel_rfl) (by kernel_rfl) (fun _ _ _ h => h) (Or.inl ⟨by kernel_rfl, ?hys7⟩) hHeld0 ?rests7
                case hys7 => (intro w hSw; go_simp; first | done | with_reducible rfl)
                case' rests7 =>
                  try simp only [Act.put, List.setIfInBounds_toArray, List.set_cons_zero, List.set_cons_succ]
                refine wpAnyH_take' (i := 7) (d := 100) (v := .bool false) rfl (by kernel_rfl) (by kernel_rfl) (by kernel_rfl) (by kernel_rfl) (fun _ _ _ h => h) (Or.inl ⟨by kernel_rfl, ?hys8⟩) hHeld0 ?rests8
                case hys8 => (intro w hSw; go_simp; first | done | with_reducible rfl)
                case' rests8 =>
                  try simp only [Act.put, List.setIfInBounds_toArray, List.set_cons_zero, List.set_cons_succ]
                refine wpAnyH_take' (i := 8) (d := 101) (v := ?vs9) rfl (by kernel_rfl) (by kernel_rfl) (by kernel_rfl) (by kernel_rfl) (fun _ _ _ h => h) (Or.inl ⟨by kernel_rfl, ?hys9⟩) hHeld0 ?rests9
                case hys9 => (intro w hSw; go_simp; first | done | with_reducible rfl)
                case' rests9 =>
                  try simp only [Act.put, List.setIfInBounds_toArray, List.set_cons_zero, List.set_cons_succ]
                refine wpAnyH_take' (i := 9) (d := 102) (v := ?vs10) rfl (by kernel_rfl) (by kernel_rfl) (by kernel_rfl) (by kernel_rfl) (fun _ _ _ h => h) (Or.inl ⟨by kernel_rfl, ?hys10⟩) hHeld0 ?rests10
                case hys10 => (intro w hSw; go_simp; first | done | with_reducible rfl)
                case' rests10 =>
                  try simp only [Act.put, List.setIfInBounds_toArray, List.set_cons_zero, List.set_cons_succ]
                refine wpAnyH_take' (i := 10) (d := 103) (v := ?vs11) rfl (by kernel_rfl) (by kernel_rfl) (by kernel_rfl) (by kernel_rfl) (fun _ _ _ h => h) (Or.inl ⟨by kernel_rfl, ?hys11⟩) hHeld0 ?rests11
                case hys11 => (intro w hSw; go_simp; first | done | with_reducible rfl)
                case' rests11 =>
                  try simp only [Act.put, List.setIfInBounds_toArray, List.set_cons_zero, List.set_cons_succ]
                refine wpAnyH_take' (i := 11) (d := 104) (v := ?vs12) rfl (by kernel_rfl) (by kernel_rfl) (by kernel_rfl) (by kernel_rfl) (fun _ _ _ h => h) (Or.inl ⟨by kernel_rfl, ?hys12⟩) hHeld0 ?rests12
                case hys12 => (intro w hSw; go_simp; first | done | with_reducible rfl)
                case' rests12 =>
                  try simp only [Act.put, List.setIfInBounds_toArray, List.set_cons_zero, List.set_cons_succ]
                refine wpAnyH_take' (i := 12) (d := 105) (v := ?vs13) rfl (by kernel_rfl) (by kernel_rfl) (by kernel_rfl) (by kernel_rfl) (fun _ _ _ h => h) (Or.inl ⟨by kernel_rfl, ?hys13⟩) hHeld0 ?rests13
                case hys13 => (intro w hSw; go_simp; first | done | with_reducible rfl)
                case' rests13 =>
                  try simp only [Act.put, List.setIfInBounds_toArray, List.set_cons_zero, List.set_cons_succ]
                refine wpAnyH_take' (i := 13) (d := 106) (v := ?vs14) rfl (by kernel_rfl) (by kernel_rfl) (by kernel_rfl) (by kernel_rfl) (fun _ _ _ h => h) (Or.inl ⟨by kernel_rfl, ?hys14⟩) hHeld0 ?rests14
                case hys14 => (intro w hSw; go_simp; first | done | with_reducible rfl)
                case' rests14 =>
                  try simp only [Act.put, List.setIfInBounds_toArray, List.set_cons_zero, List.set_cons_succ]
                refine wpAnyH_take' (i := 14) (d := 107) (v := ?vs15) rfl (by kernel_rfl) (by kernel_rfl) (by kernel_rfl) (by kernel_rfl) (fun _ _ _ h => h) (Or.inl ⟨by kernel_rfl, ?hys15⟩) hHeld0 ?rests15
                case hys15 => (intro w hSw; go_simp; first | done | with_reducible rfl)
                case' rests15 =>
                  try simp only [Act.put, List.setIfInBounds_toArray, List.set_cons_zero, List.set_cons_succ]
                refine wpAnyH_take' (i := 15) (d := 108) (v := ?vs16) rfl (by kernel_rfl) (by kernel_rfl) (by kernel_rfl) (by kernel_rfl) (fun _ _ _ h => h) (Or.inl ⟨by kernel_rfl, ?hys16⟩) hHeld0 ?rests16
                case hys16 => (intro w hSw; go_simp; first | done | with_reducible rfl)
                case' rests16 =>
                  try simp only [Act.put, List.setIfInBounds_toArray, List.set_cons_zero, List.set_cons_succ]
                refine wpAnyH_take' (i := 16) (d := 109) (v := ?vs17) rfl (by kernel_rfl) (by kernel_rfl) (by kernel_rfl) (by kernel_rfl) (fun _ _ _ h => h) (Or.inl ⟨by kernel_rfl, ?hys17⟩) hHeld0 ?rests17
                case hys17 => (intro w hSw; go_simp; first | done | with_reducible rfl)
                case' rests17 =>
                  try simp only [Act.put, List.setIfInBounds_toArray, List.set_cons_zero, List.set_cons_succ]
                refine wpAnyH_take' (i := 17) (d := 110) (v := ?vs18) rfl (by kernel_rfl) (by kernel_rfl) (by kernel_rfl) (by kernel_rfl) (fun _ _ _ h => h) (Or.inl ⟨by kernel_rfl, ?hys18⟩) hHeld0 ?rests18
                case hys18 => (intro w hSw; go_simp; first | done | with_reducible rfl)
                case' rests18 =>
                  try simp only [Act.put, List.setIfInBounds_toArray, List.set_cons_zero, List.set_cons_succ]
                refine wpAnyH_take' (i := 18) (d := 111) (v := .string XA) rfl (by kernel_rfl) (by kernel_rfl) (by kernel_rfl) (by kernel_rfl) (fun _ _ _ h => h) (Or.inl ⟨by kernel_rfl, ?hys19⟩) hHeld0 ?rests19
                case hys19 => (intro w hSw; go_simp; first | done | with_reducible rfl)
                case' rests19 =>
                  try simp only [Act.put, List.setIfInBounds_toArray, List.set_cons_zero, List.set_cons_succ]
                refine wpAnyH_take' (i := 20) (d := 113) (v := ?vs20) rfl (by kernel_rfl) (by kernel_rfl) (by kernel_rfl) (by kernel_rfl) (fun _ _ _ h => h) (Or.inl ⟨by kernel_rfl, ?hys20⟩) hHeld0 ?rests20
                case hys20 => (intro w hSw; go_simp; first | done | with_reducible rfl)
                case' rests20 =>
                  try simp only [Act.put, List.setIfInBounds_toArray, List.set_cons_zero, List.set_cons_succ]
                refine wpAnyH_take' (i := 21) (d := 114) (v := ?vs21) rfl (by kernel_rfl) (by kernel_rfl) (by kernel_rfl) (by kernel_rfl) (fun _ _ _ h => h) (Or.inl ⟨by kernel_rfl, ?hys21⟩) hHeld0 ?rests21
                case hys21 => (intro w hSw; go_simp; first | done | with_reducible rfl)
                case' rests21 =>
                  try simp only [Act.put, List.setIfInBounds_toArray, List.set_cons_zero, List.set_cons_succ]
                refine wpAnyH_take' (i := 22) (d := 115) (v := ?vs22) rfl (by kernel_rfl) (by kernel_rfl) (by kernel_rfl) (by kernel_rfl) (fun _ _ _ h => h) (Or.inl ⟨by kernel_rfl, ?hys22⟩) hHeld0 ?rests22
                case hys22 => (intro w hSw; go_simp; first | done | with_reducible rfl)
                case' rests22 =>
                  try simp only [Act.put, List.setIfInBounds_toArray, List.set_cons_zero, List.set_cons_succ]
                refine wpAnyH_take' (i := 23) (d := 116) (v := ?vs23) rfl (by kernel_rfl) (by kernel_rfl) (by kernel_rfl) (by kernel_rfl) (fun _ _ _ h => h) (Or.inl ⟨by kernel_rfl, ?hys23⟩) hHeld0 ?rests23
                case hys23 => (intro w hSw; go_simp; first | done | with_reducible rfl)
                case' rests23 =>
                  try simp only [Act.put, List.setIfInBounds_toArray, List.set_cons_zero, List.set_cons_succ]
                refine wpAnyH_take' (i := 24) (d := 117) (v := ?vs24) rfl (by kernel_rfl) (by kernel_rfl) (by kernel_rfl) (by kernel_rfl) (fun _ _ _ h => h) (Or.inl ⟨by kernel_rfl, ?hys24⟩) hHeld0 ?rests24
                case hys24 => (intro w hSw; go_simp; first | done | with_reducible rfl)
                case' rests24 =>
                  try simp only [Act.put, List.setIfInBounds_toArray, List.set_cons_zero, List.set_cons_succ]
                refine wpAnyH_take' (i := 25) (d := 118) (v := ?vs25) rfl (by kernel_rfl) (by kernel_rfl) (by kernel_rfl) (by kernel_rfl) (fun _ _ _ h => h) (Or.inl ⟨by kernel_rfl, ?hys25⟩) hHeld0 ?rests25
                case hys25 => (intro w hSw; go_simp; first | done | with_reducible rfl)
                case' rests25 =>
                  try simp only [Act.put, List.setIfInBounds_toArray, List.set_cons_zero, List.set_cons_succ]
                refine wpAnyH_take' (i := 26) (d := 119) (v := ?vs26) rfl (by kernel_rfl) (by kernel_rfl) (by kernel_rfl) (by kernel_rfl) (fun _ _ _ h => h) (Or.inl ⟨by kernel_rfl, ?hys26⟩) hHeld0 ?rests26
                case hys26 => (intro w hSw; go_simp; first | done | with_reducible rfl)
                case' rests26 =>
                  try simp only [Act.put, List.setIfInBounds_toArray, List.set_cons_zero, List.set_cons_succ]
                refine wpAnyH_take' (i := 27) (d := 120) (v := ?vs27) rfl (by kernel_rfl) (by kernel_rfl) (by kernel_rfl) (by kernel_rfl) (fun _ _ _ h => h) (Or.inl ⟨by kernel_rfl, ?hys27⟩) hHeld0 ?rests27
                case hys27 => (intro w hSw; go_simp; first | done | with_reducible rfl)
                case' rests27 =>
                  try simp only [Act.put, List.setIfInBounds_toArray, List.set_cons_zero, List.set_cons_succ]
                refine wpAnyH_take' (i := 28) (d := 121) (v := .string YA) rfl (by kernel_rfl) (by kernel_rfl) (by kernel_rfl) (by kernel_rfl) (fun _ _ _ h => h) (Or.inl ⟨by kernel_rfl, ?hys28⟩) hHeld0 ?rests28
                case hys28 => (intro w hSw; go_simp; first | done | with_reducible rfl)
                case' rests28 =>
                  try simp only [Act.put, List.setIfInBounds_toArray, List.set_cons_zero, List.set_cons_succ]
                refine DetAll.run (T := 30) _ _ _ ?_ _ hHeld0
                clear hHeld0
                refine DetAll.call' (i := 19) (d := 112) (v := .int .i64 (wx : Int)) rfl (by kernel_rfl) (by kernel_rfl) (by kernel_rfl) (by kernel_rfl) (by kernel_rfl) (by kernel_rfl) ?cys29 ?crs29
                case cys29 => exact fun W hSw => ⟨6, #[.string XA], by kernel_rfl, HF1.out W hSw⟩
                case' crs29 =>
                  try simp only [Act.put, List.setIfInBounds_toArray, List.set_cons_zero, List.set_cons_succ]
                refine DetAll.call' (i := 29) (d := 122) (v := .int .i64 (wy : Int)) rfl (by kernel_rfl) (by kernel_rfl) (by kernel_rfl) (by kernel_rfl) (by kernel_rfl) (by kernel_rfl) ?cys30 ?crs30
                case cys30 => exact fun W hSw => ⟨6, #[.string YA], by kernel_rfl, HF2.out W hSw⟩
                case' crs30 =>
                  try simp only [Act.put, List.setIfInBounds_toArray, List.set_cons_zero, List.set_cons_succ]
                refine DetAll.leaf (by kernel_rfl) (fun W1 hHeldW1 => ?_)
                refine wpAnyH_take' (i := 30) (d := 123) (v := .bool false) rfl (by kernel_rfl) (by kernel_rfl) (by kernel_rfl) (by kernel_rfl) (fun _ _ _ h => h) (Or.inl ⟨by kernel_rfl, ?hys31⟩) hHeldW1 ?rests31
                case hys31 => (intro w hSw; go_simp; first | done | with_reducible rfl)
                case' rests31 =>
                  try simp only [Act.put, List.setIfInBounds_toArray, List.set_cons_zero, List.set_cons_succ]
                refine wpAnyH_take' (i := 31) (d := 124) (v := .bool false) rfl (by kernel_rfl) (by kernel_rfl) (by kernel_rfl) (by kernel_rfl) (fun _ _ _ h => h) (Or.inl ⟨by kernel_rfl, ?hys32⟩) hHeldW1 ?rests32
                case hys32 => (intro w hSw; go_simp; first | done | with_reducible rfl)
                case' rests32 =>
                  try simp only [Act.put, List.setIfInBounds_toArray, List.set_cons_zero, List.set_cons_succ]
                refine wpAnyH_take' (i := 32) (d := 125) (v := ?vs33) rfl (by kernel_rfl) (by kernel_rfl) (by kernel_rfl) (by kernel_rfl) (fun _ _ _ h => h) (Or.inl ⟨by kernel_rfl, ?hys33⟩) hHeldW1 ?rests33
                case hys33 => (intro w hSw; go_simp; first | done | with_reducible rfl)
                case' rests33 =>
                  try simp only [Act.put, List.setIfInBounds_toArray, List.set_cons_zero, List.set_cons_succ]
                refine wpAnyH_take' (i := 33) (d := 126) (v := ?vs34) rfl (by kernel_rfl) (by kernel_rfl) (by kernel_rfl) (by kernel_rfl) (fun _ _ _ h => h) (Or.inl ⟨by kernel_rfl, ?hys34⟩) hHeldW1 ?rests34
                case hys34 => (intro w hSw; go_simp; first | done | with_reducible rfl)
                case' rests34 =>
                  try simp only [Act.put, List.setIfInBounds_toArray, List.set_cons_zero, List.set_cons_succ]
                refine wpAnyH_take' (i := 34) (d := 127) (v := ?vs35) rfl (by kernel_rfl) (by kernel_rfl) (by kernel_rfl) (by kernel_rfl) (fun _ _ _ h => h) (Or.inl ⟨by kernel_rfl, ?hys35⟩) hHeldW1 ?rests35
                case hys35 => (intro w hSw; go_simp; first | done | with_reducible rfl)
                case' rests35 =>
                  try simp only [Act.put, List.setIfInBounds_toArray, List.set_cons_zero, List.set_cons_succ]
                refine wpAnyH_take' (i := 35) (d := 128) (v := .bool true) rfl (by kernel_rfl) (by kernel_rfl) (by kernel_rfl) (by kernel_rfl) (fun _ _ _ h => h) (Or.inl ⟨by kernel_rfl, ?hys36⟩) hHeldW1 ?rests36
                case hys36 => (intro w hSw; go_simp; first | done | with_reducible rfl)
                case' rests36 =>
                  try simp only [Act.put, List.setIfInBounds_toArray, List.set_cons_zero, List.set_cons_succ]
                refine wpAnyH_take' (i := 36) (d := 129) (v := ?vs37) rfl (by kernel_rfl) (by kernel_rfl) (by kernel_rfl) (by kernel_rfl) (fun _ _ _ h => h) (Or.inl ⟨by kernel_rfl, ?hys37⟩) hHeldW1 ?rests37
                case hys37 => (intro w hSw; go_simp; first | done | with_reducible rfl)
                case' rests37 =>
                  try simp only [Act.put, List.setIfInBounds_toArray, List.set_cons_zero, List.set_cons_succ]
                refine wpAnyH_take' (i := 37) (d := 130) (v := ?vs38) rfl (by kernel_rfl) (by kernel_rfl) (by kernel_rfl) (by kernel_rfl) (fun _ _ _ h => h) (Or.inl ⟨by kernel_rfl, ?hys38⟩) hHeldW1 ?rests38
                case hys38 => (intro w hSw; go_simp; first | done | with_reducible rfl)
                case' rests38 =>
                  try simp only [Act.put, List.setIfInBounds_toArray, List.set_cons_zero, List.set_cons_succ]
                refine wpAnyH_take' (i := 38) (d := 131) (v := ?vs39) rfl (by kernel_rfl) (by kernel_rfl) (by kernel_rfl) (by kernel_rfl) (fun _ _ _ h => h) (Or.inl ⟨by kernel_rfl, ?hys39⟩) hHeldW1 ?rests39
                case hys39 => (intro w hSw; go_simp; first | done | with_reducible rfl)
                case' rests39 =>
                  try simp only [Act.put, List.setIfInBounds_toArray, List.set_cons_zero, List.set_cons_succ]
                refine wpAnyH_take' (i := 39) (d := 132) (v := ?vs40) rfl (by kernel_rfl) (by kernel_rfl) (by kernel_rfl) (by kernel_rfl) (fun _ _ _ h => h) (Or.inl ⟨by kernel_rfl, ?hys40⟩) hHeldW1 ?rests40
                case hys40 => (intro w hSw; go_simp; first | done | with_reducible rfl)
                case' rests40 =>
                  try simp only [Act.put, List.setIfInBounds_toArray, List.set_cons_zero, List.set_cons_succ]
                refine wpAnyH_take' (i := 40) (d := 133) (v := ?vs41) rfl (by kernel_rfl) (by kernel_rfl) (by kernel_rfl) (by kernel_rfl) (fun _ _ _ h => h) (Or.inl ⟨by kernel_rfl, ?hys41⟩) hHeldW1 ?rests41
                case hys41 => (intro w hSw; go_simp; first | done | with_reducible rfl)
                case' rests41 =>
                  try simp only [Act.put, List.setIfInBounds_toArray, List.set_cons_zero, List.set_cons_succ]
                refine wpAnyH_take' (i := 41) (d := 134) (v := ?vs42) rfl (by kernel_rfl) (by kernel_rfl) (by kernel_rfl) (by kernel_rfl) (fun _ _ _ h => h) (Or.inl ⟨by kernel_rfl, ?hys42⟩) hHeldW1 ?rests42
                case hys42 => (intro w hSw; go_simp; first | done | with_reducible rfl)
                case' rests42 =>
                  try simp only [Act.put, List.setIfInBounds_toArray, List.set_cons_zero, List.set_cons_succ]
                refine wpAnyH_take' (i := 42) (d := 135) (v := ?vs43) rfl (by kernel_rfl) (by kernel_rfl) (by kernel_rfl) (by kernel_rfl) (fun _ _ _ h => h) (Or.inl ⟨by kernel_rfl, ?hys43⟩) hHeldW1 ?rests43
                case hys43 => (intro w hSw; go_simp; first | done | with_reducible rfl)
                case' rests43 =>
                  try simp only [Act.put, List.setIfInBounds_toArray, List.set_cons_zero, List.set_cons_succ]
                refine wpAnyH_take' (i := 43) (d := 136) (v := ?vs44) rfl (by kernel_rfl) (by kernel_rfl) (by kernel_rfl) (by kernel_rfl) (fun _ _ _ h => h) (Or.inl ⟨by kernel_rfl, ?hys44⟩) hHeldW1 ?rests44
                case hys44 => (intro w hSw; go_simp; first | done | with_reducible rfl)
                case' rests44 =>
                  try simp only [Act.put, List.setIfInBounds_toArray, List.set_cons_zero, List.set_cons_succ]
                refine wpAnyH_take' (i := 44) (d := 137) (v := ?vs45) rfl (by kernel_rfl) (by kernel_rfl) (by kernel_rfl) (by kernel_rfl) (fun _ _ _ h => h) (Or.inl ⟨by kernel_rfl, ?hys45⟩) hHeldW1 ?rests45
                case hys45 => (intro w hSw; go_simp; first | done | with_reducible rfl)
                case' rests45 =>
                  try simp only [Act.put, List.setIfInBounds_toArray, List.set_cons_zero, List.set_cons_succ]
                refine wpAnyH_take' (i := 45) (d := 138) (v := .string ZF) rfl (by kernel_rfl) (by kernel_rfl) (by kernel_rfl) (by kernel_rfl) (fun _ _ _ h => h) (Or.inl ⟨by kernel_rfl, ?hys46⟩) hHeldW1 ?rests46
                case hys46 => (intro w hSw; go_simp; first | done | with_reducible rfl)
                case' rests46 =>
                  try simp only [Act.put, List.setIfInBounds_toArray, List.set_cons_zero, List.set_cons_succ]
                refine wpAnyH_take' (i := 46) (d := 139) (v := ?vs47) rfl (by kernel_rfl) (by kernel_rfl) (by kernel_rfl) (by kernel_rfl) (fun _ _ _ h => h) (Or.inl ⟨by kernel_rfl, ?hys47⟩) hHeldW1 ?rests47
                case hys47 => (intro w hSw; go_simp; first | done | with_reducible rfl)
                case' rests47 =>
                  try simp only [Act.put, List.setIfInBounds_toArray, List.set_cons_zero, List.set_cons_succ]
                refine wpAnyH_take' (i := 47) (d := 140) (v := ?vs48) rfl (by kernel_rfl) (by kernel_rfl) (by kernel_rfl) (by kernel_rfl) (fun _ _ _ h => h) (Or.inl ⟨by kernel_rfl, ?hys48⟩) hHeldW1 ?rests48
                case hys48 => (intro w hSw; go_simp; first | done | with_reducible rfl)
                case' rests48 =>
                  try simp only [Act.put, List.setIfInBounds_toArray, List.set_cons_zero, List.set_cons_succ]
                refine wpAnyH_take' (i := 48) (d := 141) (v := ?vs49) rfl (by kernel_rfl) (by kernel_rfl) (by kernel_rfl) (by kernel_rfl) (fun _ _ _ h => h) (Or.inl ⟨by kernel_rfl, ?hys49⟩) hHeldW1 ?rests49
                case hys49 => (intro w hSw; go_simp; first | done | with_reducible rfl)
                case' rests49 =>
                  try simp only [Act.put, List.setIfInBounds_toArray, List.set_cons_zero, List.set_cons_succ]
                refine wpAnyH_take' (i := 49) (d := 142) (v := ?vs50) rfl (by kernel_rfl) (by kernel_rfl) (by kernel_rfl) (by kernel_rfl) (fun _ _ _ h => h) (Or.inl ⟨by kernel_rfl, ?hys50⟩) hHeldW1 ?rests50
                case hys50 => (intro w hSw; go_simp; first | done | with_reducible rfl)
                case' rests50 =>
                  try simp only [Act.put, List.setIfInBounds_toArray, List.set_cons_zero, List.set_cons_succ]
                refine wpAnyH_take' (i := 50) (d := 143) (v := ?vs51) rfl (by kernel_rfl) (by kernel_rfl) (by kernel_rfl) (by kernel_rfl) (fun _ _ _ h => h) (Or.inl ⟨by kernel_rfl, ?hys51⟩) hHeldW1 ?rests51
                case hys51 => (intro w hSw; go_simp; first | done | with_reducible rfl)
                case' rests51 =>
                  try simp only [Act.put, List.setIfInBounds_toArray, List.set_cons_zero, List.set_cons_succ]
                refine wpAnyH_take' (i := 51) (d := 144) (v := ?vs52) rfl (by kernel_rfl) (by kernel_rfl) (by kernel_rfl) (by kernel_rfl) (fun _ _ _ h => h) (Or.inl ⟨by kernel_rfl, ?hys52⟩) hHeldW1 ?rests52
                case hys52 => (intro w hSw; go_simp; first | done | with_reducible rfl)
                case' rests52 =>
                  try simp only [Act.put, List.setIfInBounds_toArray, List.set_cons_zero, List.set_cons_succ]
                refine wpAnyH_take' (i := 52) (d := 145) (v := ?vs53) rfl (by kernel_rfl) (by kernel_rfl) (by kernel_rfl) (by kernel_rfl) (fun _ _ _ h => h) (Or.inl ⟨by kernel_rfl, ?hys53⟩) hHeldW1 ?rests53
                case hys53 => (intro w hSw; go_simp; first | done | with_reducible rfl)
                case' rests53 =>
                  try simp only [Act.put, List.setIfInBounds_toArray, List.set_cons_zero, List.set_cons_succ]
                refine wpAnyH_take' (i := 53) (d := 146) (v := .string ZF) rfl (by kernel_rfl) (by kernel_rfl) (by kernel_rfl) (by kernel_rfl) (fun _ _ _ h => h) (Or.inl ⟨by kernel_rfl, ?hys54⟩) hHeldW1 ?rests54
                case hys54 => (intro w hSw; go_simp; first | done | with_reducible rfl)
                case' rests54 =>
                  try simp only [Act.put, List.setIfInBounds_toArray, List.set_cons_zero, List.set_cons_succ]
                refine wpAnyH_take' (i := 54) (d := 147) (v := .bool false) rfl (by kernel_rfl) (by kernel_rfl) (by kernel_rfl) (by kernel_rfl) (fun _ _ _ h => h) (Or.inl ⟨by kernel_rfl, ?hys55⟩) hHeldW1 ?rests55
                case hys55 => (intro w hSw; go_simp; first | done | with_reducible rfl)
                case' rests55 =>
                  try simp only [Act.put, List.setIfInBounds_toArray, List.set_cons_zero, List.set_cons_succ]
                refine wpAnyH_take' (i := 55) (d := 148) (v := .bool false) rfl (by kernel_rfl) (by kernel_rfl) (by kernel_rfl) (by kernel_rfl) (fun _ _ _ h => h) (Or.inl ⟨by kernel_rfl, ?hys56⟩) hHeldW1 ?rests56
                case hys56 => (intro w hSw; go_simp; first | done | with_reducible rfl)
                case' rests56 =>
                  try simp only [Act.put, List.setIfInBounds_toArray, List.set_cons_zero, List.set_cons_succ]
                refine wpAnyH_take' (i := 56) (d := 149) (v := .bool false) rfl (by kernel_rfl) (by kernel_rfl) (by kernel_rfl) (by kernel_rfl) (fun _ _ _ h => h) (Or.inl ⟨by kernel_rfl, ?hys57⟩) hHeldW1 ?rests57
                case hys57 => (intro w hSw; go_simp; first | done | with_reducible rfl)
                case' rests57 =>
                  try simp only [Act.put, List.setIfInBounds_toArray, List.set_cons_zero, List.set_cons_succ]
                refine wpAnyH_done (by kernel_rfl) ?_ _
                have HEnd := Lib.hid (HYW.out _ hHeldW1)
                go_wp2_with fail
                refine ⟨⟨k + 1, by omega, by go_num, HEnd⟩, ?_⟩
                simp [intOf]
                omega
              · have hkTI : ¬ (k : Int) = (Tg : Int) := by omega
                refine wp_region_held_drew (S := fun W => OnW Yw W) (by kernel_rfl) (HYd.out _ hY4) (fun hHeld0 => ?_)
                obtain ⟨V0, hV0⟩ : ∃ U, wr.drew = U := ⟨_, rfl⟩
                have HV0 := Lib.hid hV0
                rw [hV0] at hHeld0 ⊢
                clear hV0
                refine wpAnyH_norm (l' := #[false, false, false, false, false, false, false, false, false, false, false, false, false, false, false, false, false, false, false, false, false, false, false, false, false, false, false, false, false, false, false, false, false, false, false, false, false, false, false, false, false, false, false, false, false, false, false, false, false, false, false, false, false, false, false, false, false]) (f' := 57) (by kernel_rfl) (by kernel_rfl) ?_
                refine wpAnyH_take' (i := 0) (d := 93) (v := ?vd1) rfl (by kernel_rfl) (by kernel_rfl) (by kernel_rfl) (by kernel_rfl) (fun _ _ _ h => h) (Or.inl ⟨by kernel_rfl, ?hyd1⟩) hHeld0 ?restd1
                case hyd1 => (intro w hSw; go_simp; first | done | with_reducible rfl)
                case' restd1 =>
                  try simp only [Act.put, List.setIfInBounds_toArray, List.set_cons_zero, List.set_cons_succ]
                refine wpAnyH_take' (i := 1) (d := 94) (v := ?vd2) rfl (by kernel_rfl) (by kernel_rfl) (by kernel_rfl) (by kernel_rfl) (fun _ _ _ h => h) (Or.inl ⟨by kernel_rfl, ?hyd2⟩) hHeld0 ?restd2
                case hyd2 => (intro w hSw; go_simp; first | done | with_reducible rfl)
                case' restd2 =>
                  try simp only [Act.put, List.setIfInBounds_toArray, List.set_cons_zero, List.set_cons_succ]
                refine wpAnyH_take' (i := 2) (d := 95) (v := ?vd3) rfl (by kernel_rfl) (by kernel_rfl) (by kernel_rfl) (by kernel_rfl) (fun _ _ _ h => h) (Or.inl ⟨by kernel_rfl, ?hyd3⟩) hHeld0 ?restd3
                case hyd3 => (intro w hSw; go_simp; first | done | with_reducible rfl)
                case' restd3 =>
                  try simp only [Act.put, List.setIfInBounds_toArray, List.set_cons_zero, List.set_cons_succ]
                refine wpAnyH_take' (i := 3) (d := 96) (v := ?vd4) rfl (by kernel_rfl) (by kernel_rfl) (by kernel_rfl) (by kernel_rfl) (fun _ _ _ h => h) (Or.inl ⟨by kernel_rfl, ?hyd4⟩) hHeld0 ?restd4
                case hyd4 => (intro w hSw; go_simp; first | done | with_reducible rfl)
                case' restd4 =>
                  try simp only [Act.put, List.setIfInBounds_toArray, List.set_cons_zero, List.set_cons_succ]
                refine wpAnyH_take' (i := 4) (d := 97) (v := ?vd5) rfl (by kernel_rfl) (by kernel_rfl) (by kernel_rfl) (by kernel_rfl) (fun _ _ _ h => h) (Or.inl ⟨by kernel_rfl, ?hyd5⟩) hHeld0 ?restd5
                case hyd5 => (intro w hSw; go_simp; first | done | with_reducible rfl)
                case' restd5 =>
                  try simp only [Act.put, List.setIfInBounds_toArray, List.set_cons_zero, List.set_cons_succ]
                refine wpAnyH_take' (i := 5) (d := 98) (v := .int .i64 (k : Int)) rfl (by kernel_rfl) (by kernel_rfl) (by kernel_rfl) (by kernel_rfl) (fun _ _ _ h => h) (Or.inl ⟨by kernel_rfl, ?hyd6⟩) hHeld0 ?restd6
                case hyd6 => (intro w hSw; go_simp; first | done | with_reducible rfl)
                case' restd6 =>
                  try simp only [Act.put, List.setIfInBounds_toArray, List.set_cons_zero, List.set_cons_succ]
                refine wpAnyH_take' (i := 6) (d := 99) (v := ?vd7) rfl (by kernel_rfl) (by kernel_rfl) (by kernel_rfl) (by kernel_rfl) (fun _ _ _ h => h) (Or.inl ⟨by kernel_rfl, ?hyd7⟩) hHeld0 ?restd7
                case hyd7 => (intro w hSw; go_simp; first | done | with_reducible rfl)
                case' restd7 =>
                  try simp only [Act.put, List.setIfInBounds_toArray, List.set_cons_zero, List.set_cons_succ]
                refine wpAnyH_take' (i := 7) (d := 100) (v := .bool false) rfl (by kernel_rfl) (by kernel_rfl) (by kernel_rfl) (by kernel_rfl) (fun _ _ _ h => h) (Or.inl ⟨by kernel_rfl, ?hyd8⟩) hHeld0 ?restd8
                case hyd8 => (intro w hSw; go_simp; first | done | with_reducible rfl)
                case' restd8 =>
                  try simp only [Act.put, List.setIfInBounds_toArray, List.set_cons_zero, List.set_cons_succ]
                refine wpAnyH_take' (i := 8) (d := 101) (v := ?vd9) rfl (by kernel_rfl) (by kernel_rfl) (by kernel_rfl) (by kernel_rfl) (fun _ _ _ h => h) (Or.inl ⟨by kernel_rfl, ?hyd9⟩) hHeld0 ?restd9
                case hyd9 => (intro w hSw; go_simp; first | done | with_reducible rfl)
                case' restd9 =>
                  try simp only [Act.put, List.setIfInBounds_toArray, List.set_cons_zero, List.set_cons_succ]
                refine wpAnyH_take' (i := 9) (d := 102) (v := ?vd10) rfl (by kernel_rfl) (by kernel_rfl) (by kernel_rfl) (by kernel_rfl) (fun _ _ _ h => h) (Or.inl ⟨by kernel_rfl, ?hyd10⟩) hHeld0 ?restd10
                case hyd10 => (intro w hSw; go_simp; first | done | with_reducible rfl)
                case' restd10 =>
                  try simp only [Act.put, List.setIfInBounds_toArray, List.set_cons_zero, List.set_cons_succ]
                refine wpAnyH_take' (i := 10) (d := 103) (v := ?vd11) rfl (by kernel_rfl) (by kernel_rfl) (by kernel_rfl) (by kernel_rfl) (fun _ _ _ h => h) (Or.inl ⟨by kernel_rfl, ?hyd11⟩) hHeld0 ?restd11
                case hyd11 => (intro w hSw; go_simp; first | done | with_reducible rfl)
                case' restd11 =>
                  try simp only [Act.put, List.setIfInBounds_toArray, List.set_cons_zero, List.set_cons_succ]
                refine wpAnyH_take' (i := 11) (d := 104) (v := ?vd12) rfl (by kernel_rfl) (by kernel_rfl) (by kernel_rfl) (by kernel_rfl) (fun _ _ _ h => h) (Or.inl ⟨by kernel_rfl, ?hyd12⟩) hHeld0 ?restd12
                case hyd12 => (intro w hSw; go_simp; first | done | with_reducible rfl)
                case' restd12 =>
                  try simp only [Act.put, List.setIfInBounds_toArray, List.set_cons_zero, List.set_cons_succ]
                refine wpAnyH_take' (i := 12) (d := 105) (v := ?vd13) rfl (by kernel_rfl) (by kernel_rfl) (by kernel_rfl) (by kernel_rfl) (fun _ _ _ h => h) (Or.inl ⟨by kernel_rfl, ?hyd13⟩) hHeld0 ?restd13
                case hyd13 => (intro w hSw; go_simp; first | done | with_reducible rfl)
                case' restd13 =>
                  try simp only [Act.put, List.setIfInBounds_toArray, List.set_cons_zero, List.set_cons_succ]
                refine wpAnyH_take' (i := 13) (d := 106) (v := ?vd14) rfl (by kernel_rfl) (by kernel_rfl) (by kernel_rfl) (by kernel_rfl) (fun _ _ _ h => h) (Or.inl ⟨by kernel_rfl, ?hyd14⟩) hHeld0 ?restd14
                case hyd14 => (intro w hSw; go_simp; first | done | with_reducible rfl)
                case' restd14 =>
                  try simp only [Act.put, List.setIfInBounds_toArray, List.set_cons_zero, List.set_cons_succ]
                refine wpAnyH_take' (i := 14) (d := 107) (v := ?vd15) rfl (by kernel_rfl) (by kernel_rfl) (by kernel_rfl) (by kernel_rfl) (fun _ _ _ h => h) (Or.inl ⟨by kernel_rfl, ?hyd15⟩) hHeld0 ?restd15
                case hyd15 => (intro w hSw; go_simp; first | done | with_reducible rfl)
                case' restd15 =>
                  try simp only [Act.put, List.setIfInBounds_toArray, List.set_cons_zero, List.set_cons_succ]
                refine wpAnyH_take' (i := 15) (d := 108) (v := ?vd16) rfl (by kernel_rfl) (by kernel_rfl) (by kernel_rfl) (by kernel_rfl) (fun _ _ _ h => h) (Or.inl ⟨by kernel_rfl, ?hyd16⟩) hHeld0 ?restd16
                case hyd16 => (intro w hSw; go_simp; first | done | with_reducible rfl)
                case' restd16 =>
                  try simp only [Act.put, List.setIfInBounds_toArray, List.set_cons_zero, List.set_cons_succ]
                refine wpAnyH_take' (i := 16) (d := 109) (v := ?vd17) rfl (by kernel_rfl) (by kernel_rfl) (by kernel_rfl) (by kernel_rfl) (fun _ _ _ h => h) (Or.inl ⟨by kernel_rfl, ?hyd17⟩) hHeld0 ?restd17
                case hyd17 => (intro w hSw; go_simp; first | done | with_reducible rfl)
                case' restd17 =>
                  try simp only [Act.put, List.setIfInBounds_toArray, List.set_cons_zero, List.set_cons_succ]
                refine wpAnyH_take' (i := 17) (d := 110) (v := ?vd18) rfl (by kernel_rfl) (by kernel_rfl) (by kernel_rfl) (by kernel_rfl) (fun _ _ _ h => h) (Or.inl ⟨by kernel_rfl, ?hyd18⟩) hHeld0 ?restd18
                case hyd18 => (intro w hSw; go_simp; first | done | with_reducible rfl)
                case' restd18 =>
                  try simp only [Act.put, List.setIfInBounds_toArray, List.set_cons_zero, List.set_cons_succ]
                refine wpAnyH_take' (i := 18) (d := 111) (v := .string XA) rfl (by kernel_rfl) (by kernel_rfl) (by kernel_rfl) (by kernel_rfl) (fun _ _ _ h => h) (Or.inl ⟨by kernel_rfl, ?hyd19⟩) hHeld0 ?restd19
                case hyd19 => (intro w hSw; go_simp; first | done | with_reducible rfl)
                case' restd19 =>
                  try simp only [Act.put, List.setIfInBounds_toArray, List.set_cons_zero, List.set_cons_succ]
                refine wpAnyH_take' (i := 20) (d := 113) (v := ?vd20) rfl (by kernel_rfl) (by kernel_rfl) (by kernel_rfl) (by kernel_rfl) (fun _ _ _ h => h) (Or.inl ⟨by kernel_rfl, ?hyd20⟩) hHeld0 ?restd20
                case hyd20 => (intro w hSw; go_simp; first | done | with_reducible rfl)
                case' restd20 =>
                  try simp only [Act.put, List.setIfInBounds_toArray, List.set_cons_zero, List.set_cons_succ]
                refine wpAnyH_take' (i := 21) (d := 114) (v := ?vd21) rfl (by kernel_rfl) (by kernel_rfl) (by kernel_rfl) (by kernel_rfl) (fun _ _ _ h => h) (Or.inl ⟨by kernel_rfl, ?hyd21⟩) hHeld0 ?restd21
                case hyd21 => (intro w hSw; go_simp; first | done | with_reducible rfl)
                case' restd21 =>
                  try simp only [Act.put, List.setIfInBounds_toArray, List.set_cons_zero, List.set_cons_succ]
                refine wpAnyH_take' (i := 22) (d := 115) (v := ?vd22) rfl (by kernel_rfl) (by kernel_rfl) (by kernel_rfl) (by kernel_rfl) (fun _ _ _ h => h) (Or.inl ⟨by kernel_rfl, ?hyd22⟩) hHeld0 ?restd22
                case hyd22 => (intro w hSw; go_simp; first | done | with_reducible rfl)
                case' restd22 =>
                  try simp only [Act.put, List.setIfInBounds_toArray, List.set_cons_zero, List.set_cons_succ]
                refine wpAnyH_take' (i := 23) (d := 116) (v := ?vd23) rfl (by kernel_rfl) (by kernel_rfl) (by kernel_rfl) (by kernel_rfl) (fun _ _ _ h => h) (Or.inl ⟨by kernel_rfl, ?hyd23⟩) hHeld0 ?restd23
                case hyd23 => (intro w hSw; go_simp; first | done | with_reducible rfl)
                case' restd23 =>
                  try simp only [Act.put, List.setIfInBounds_toArray, List.set_cons_zero, List.set_cons_succ]
                refine wpAnyH_take' (i := 24) (d := 117) (v := ?vd24) rfl (by kernel_rfl) (by kernel_rfl) (by kernel_rfl) (by kernel_rfl) (fun _ _ _ h => h) (Or.inl ⟨by kernel_rfl, ?hyd24⟩) hHeld0 ?restd24
                case hyd24 => (intro w hSw; go_simp; first | done | with_reducible rfl)
                case' restd24 =>
                  try simp only [Act.put, List.setIfInBounds_toArray, List.set_cons_zero, List.set_cons_succ]
                refine wpAnyH_take' (i := 25) (d := 118) (v := ?vd25) rfl (by kernel_rfl) (by kernel_rfl) (by kernel_rfl) (by kernel_rfl) (fun _ _ _ h => h) (Or.inl ⟨by kernel_rfl, ?hyd25⟩) hHeld0 ?restd25
                case hyd25 => (intro w hSw; go_simp; first | done | with_reducible rfl)
                case' restd25 =>
                  try simp only [Act.put, List.setIfInBounds_toArray, List.set_cons_zero, List.set_cons_succ]
                refine wpAnyH_take' (i := 26) (d := 119) (v := ?vd26) rfl (by kernel_rfl) (by kernel_rfl) (by kernel_rfl) (by kernel_rfl) (fun _ _ _ h => h) (Or.inl ⟨by kernel_rfl, ?hyd26⟩) hHeld0 ?restd26
                case hyd26 => (intro w hSw; go_simp; first | done | with_reducible rfl)
                case' restd26 =>
                  try simp only [Act.put, List.setIfInBounds_toArray, List.set_cons_zero, List.set_cons_succ]
                refine wpAnyH_take' (i := 27) (d := 120) (v := ?vd27) rfl (by kernel_rfl) (by kernel_rfl) (by kernel_rfl) (by kernel_rfl) (fun _ _ _ h => h) (Or.inl ⟨by kernel_rfl, ?hyd27⟩) hHeld0 ?restd27
                case hyd27 => (intro w hSw; go_simp; first | done | with_reducible rfl)
                case' restd27 =>
                  try simp only [Act.put, List.setIfInBounds_toArray, List.set_cons_zero, List.set_cons_succ]
                refine wpAnyH_take' (i := 28) (d := 121) (v := .string YA) rfl (by kernel_rfl) (by kernel_rfl) (by kernel_rfl) (by kernel_rfl) (fun _ _ _ h => h) (Or.inl ⟨by kernel_rfl, ?hyd28⟩) hHeld0 ?restd28
                case hyd28 => (intro w hSw; go_simp; first | done | with_reducible rfl)
                case' restd28 =>
                  try simp only [Act.put, List.setIfInBounds_toArray, List.set_cons_zero, List.set_cons_succ]
                refine DetAll.run (T := 30) _ _ _ ?_ _ hHeld0
                clear hHeld0
                refine DetAll.call' (i := 19) (d := 112) (v := .int .i64 (wx : Int)) rfl (by kernel_rfl) (by kernel_rfl) (by kernel_rfl) (by kernel_rfl) (by kernel_rfl) (by kernel_rfl) ?cyd29 ?crd29
                case cyd29 => exact fun W hSw => ⟨6, #[.string XA], by kernel_rfl, HF1.out W hSw⟩
                case' crd29 =>
                  try simp only [Act.put, List.setIfInBounds_toArray, List.set_cons_zero, List.set_cons_succ]
                refine DetAll.call' (i := 29) (d := 122) (v := .int .i64 (wy : Int)) rfl (by kernel_rfl) (by kernel_rfl) (by kernel_rfl) (by kernel_rfl) (by kernel_rfl) (by kernel_rfl) ?cyd30 ?crd30
                case cyd30 => exact fun W hSw => ⟨6, #[.string YA], by kernel_rfl, HF2.out W hSw⟩
                case' crd30 =>
                  try simp only [Act.put, List.setIfInBounds_toArray, List.set_cons_zero, List.set_cons_succ]
                refine DetAll.leaf (by kernel_rfl) (fun W1 hHeldW1 => ?_)
                refine wpAnyH_take' (i := 30) (d := 123) (v := .bool false) rfl (by kernel_rfl) (by kernel_rfl) (by kernel_rfl) (by kernel_rfl) (fun _ _ _ h => h) (Or.inl ⟨by kernel_rfl, ?hyd31⟩) hHeldW1 ?restd31
                case hyd31 => (intro w hSw; go_simp; first | done | with_reducible rfl)
                case' restd31 =>
                  try simp only [Act.put, List.setIfInBounds_toArray, List.set_cons_zero, List.set_cons_succ]
                refine wpAnyH_take' (i := 31) (d := 124) (v := .bool false) rfl (by kernel_rfl) (by kernel_rfl) (by kernel_rfl) (by kernel_rfl) (fun _ _ _ h => h) (Or.inl ⟨by kernel_rfl, ?hyd32⟩) hHeldW1 ?restd32
                case hyd32 => (intro w hSw; go_simp; first | done | with_reducible rfl)
                case' restd32 =>
                  try simp only [Act.put, List.setIfInBounds_toArray, List.set_cons_zero, List.set_cons_succ]
                refine wpAnyH_take' (i := 32) (d := 125) (v := ?vd33) rfl (by kernel_rfl) (by kernel_rfl) (by kernel_rfl) (by kernel_rfl) (fun _ _ _ h => h) (Or.inl ⟨by kernel_rfl, ?hyd33⟩) hHeldW1 ?restd33
                case hyd33 => (intro w hSw; go_simp; first | done | with_reducible rfl)
                case' restd33 =>
                  try simp only [Act.put, List.setIfInBounds_toArray, List.set_cons_zero, List.set_cons_succ]
                refine wpAnyH_take' (i := 33) (d := 126) (v := ?vd34) rfl (by kernel_rfl) (by kernel_rfl) (by kernel_rfl) (by kernel_rfl) (fun _ _ _ h => h) (Or.inl ⟨by kernel_rfl, ?hyd34⟩) hHeldW1 ?restd34
                case hyd34 => (intro w hSw; go_simp; first | done | with_reducible rfl)
                case' restd34 =>
                  try simp only [Act.put, List.setIfInBounds_toArray, List.set_cons_zero, List.set_cons_succ]
                refine wpAnyH_take' (i := 34) (d := 127) (v := ?vd35) rfl (by kernel_rfl) (by kernel_rfl) (by kernel_rfl) (by kernel_rfl) (fun _ _ _ h => h) (Or.inl ⟨by kernel_rfl, ?hyd35⟩) hHeldW1 ?restd35
                case hyd35 => (intro w hSw; go_simp; first | done | with_reducible rfl)
                case' restd35 =>
                  try simp only [Act.put, List.setIfInBounds_toArray, List.set_cons_zero, List.set_cons_succ]
                refine wpAnyH_take' (i := 35) (d := 128) (v := .bool false) rfl (by kernel_rfl) (by kernel_rfl) (by kernel_rfl) (by kernel_rfl) (fun _ _ _ h => h) (Or.inl ⟨by kernel_rfl, ?hyd36⟩) hHeldW1 ?restd36
                case hyd36 => (intro w hSw; go_simp; first | done | with_reducible rfl)
                case' restd36 =>
                  try simp only [Act.put, List.setIfInBounds_toArray, List.set_cons_zero, List.set_cons_succ]
                refine wpAnyH_take' (i := 36) (d := 129) (v := ?vd37) rfl (by kernel_rfl) (by kernel_rfl) (by kernel_rfl) (by kernel_rfl) (fun _ _ _ h => h) (Or.inl ⟨by kernel_rfl, ?hyd37⟩) hHeldW1 ?restd37
                case hyd37 => (intro w hSw; go_simp; first | done | with_reducible rfl)
                case' restd37 =>
                  try simp only [Act.put, List.setIfInBounds_toArray, List.set_cons_zero, List.set_cons_succ]
                refine wpAnyH_take' (i := 37) (d := 130) (v := undef) rfl (by kernel_rfl) (by kernel_rfl) (by kernel_rfl) (by kernel_rfl) (fun _ _ _ h => h) (Or.inr ⟨by kernel_rfl, rfl⟩) hHeldW1 ?restd38
                case' restd38 =>
                  try simp only [Act.put, List.setIfInBounds_toArray, List.set_cons_zero, List.set_cons_succ]
                refine wpAnyH_take' (i := 38) (d := 131) (v := undef) rfl (by kernel_rfl) (by kernel_rfl) (by kernel_rfl) (by kernel_rfl) (fun _ _ _ h => h) (Or.inr ⟨by kernel_rfl, rfl⟩) hHeldW1 ?restd39
                case' restd39 =>
                  try simp only [Act.put, List.setIfInBounds_toArray, List.set_cons_zero, List.set_cons_succ]
                refine wpAnyH_take' (i := 39) (d := 132) (v := undef) rfl (by kernel_rfl) (by kernel_rfl) (by kernel_rfl) (by kernel_rfl) (fun _ _ _ h => h) (Or.inr ⟨by kernel_rfl, rfl⟩) hHeldW1 ?restd40
                case' restd40 =>
                  try simp only [Act.put, List.setIfInBounds_toArray, List.set_cons_zero, List.set_cons_succ]
                refine wpAnyH_take' (i := 40) (d := 133) (v := undef) rfl (by kernel_rfl) (by kernel_rfl) (by kernel_rfl) (by kernel_rfl) (fun _ _ _ h => h) (Or.inr ⟨by kernel_rfl, rfl⟩) hHeldW1 ?restd41
                case' restd41 =>
                  try simp only [Act.put, List.setIfInBounds_toArray, List.set_cons_zero, List.set_cons_succ]
                refine wpAnyH_take' (i := 41) (d := 134) (v := undef) rfl (by kernel_rfl) (by kernel_rfl) (by kernel_rfl) (by kernel_rfl) (fun _ _ _ h => h) (Or.inr ⟨by kernel_rfl, rfl⟩) hHeldW1 ?restd42
                case' restd42 =>
                  try simp only [Act.put, List.setIfInBounds_toArray, List.set_cons_zero, List.set_cons_succ]
                refine wpAnyH_take' (i := 42) (d := 135) (v := undef) rfl (by kernel_rfl) (by kernel_rfl) (by kernel_rfl) (by kernel_rfl) (fun _ _ _ h => h) (Or.inr ⟨by kernel_rfl, rfl⟩) hHeldW1 ?restd43
                case' restd43 =>
                  try simp only [Act.put, List.setIfInBounds_toArray, List.set_cons_zero, List.set_cons_succ]
                refine wpAnyH_take' (i := 43) (d := 136) (v := undef) rfl (by kernel_rfl) (by kernel_rfl) (by kernel_rfl) (by kernel_rfl) (fun _ _ _ h => h) (Or.inr ⟨by kernel_rfl, rfl⟩) hHeldW1 ?restd44
                case' restd44 =>
                  try simp only [Act.put, List.setIfInBounds_toArray, List.set_cons_zero, List.set_cons_succ]
                refine wpAnyH_take' (i := 44) (d := 137) (v := undef) rfl (by kernel_rfl) (by kernel_rfl) (by kernel_rfl) (by kernel_rfl) (fun _ _ _ h => h) (Or.inr ⟨by kernel_rfl, rfl⟩) hHeldW1 ?restd45
                case' restd45 =>
                  try simp only [Act.put, List.setIfInBounds_toArray, List.set_cons_zero, List.set_cons_succ]
                refine wpAnyH_take' (i := 45) (d := 138) (v := undef) rfl (by kernel_rfl) (by kernel_rfl) (by kernel_rfl) (by kernel_rfl) (fun _ _ _ h => h) (Or.inr ⟨by kernel_rfl, rfl⟩) hHeldW1 ?restd46
                case' restd46 =>
                  try simp only [Act.put, List.setIfInBounds_toArray, List.set_cons_zero, List.set_cons_succ]
                refine wpAnyH_take' (i := 46) (d := 139) (v := undef) rfl (by kernel_rfl) (by kernel_rfl) (by kernel_rfl) (by kernel_rfl) (fun _ _ _ h => h) (Or.inr ⟨by kernel_rfl, rfl⟩) hHeldW1 ?restd47
                case' restd47 =>
                  try simp only [Act.put, List.setIfInBounds_toArray, List.set_cons_zero, List.set_cons_succ]
                refine wpAnyH_take' (i := 47) (d := 140) (v := undef) rfl (by kernel_rfl) (by kernel_rfl) (by kernel_rfl) (by kernel_rfl) (fun _ _ _ h => h) (Or.inr ⟨by kernel_rfl, rfl⟩) hHeldW1 ?restd48
                case' restd48 =>
                  try simp only [Act.put, List.setIfInBounds_toArray, List.set_cons_zero, List.set_cons_succ]
                refine wpAnyH_take' (i := 48) (d := 141) (v := undef) rfl (by kernel_rfl) (by kernel_rfl) (by kernel_rfl) (by kernel_rfl) (fun _ _ _ h => h) (Or.inr ⟨by kernel_rfl, rfl⟩) hHeldW1 ?restd49
                case' restd49 =>
                  try simp only [Act.put, List.setIfInBounds_toArray, List.set_cons_zero, List.set_cons_succ]
                refine wpAnyH_take' (i := 49) (d := 142) (v := undef) rfl (by kernel_rfl) (by kernel_rfl) (by kernel_rfl) (by kernel_rfl) (fun _ _ _ h => h) (Or.inr ⟨by kernel_rfl, rfl⟩) hHeldW1 ?restd50
                case' restd50 =>
                  try simp only [Act.put, List.setIfInBounds_toArray, List.set_cons_zero, List.set_cons_succ]
                refine wpAnyH_take' (i := 50) (d := 143) (v := undef) rfl (by kernel_rfl) (by kernel_rfl) (by kernel_rfl) (by kernel_rfl) (fun _ _ _ h => h) (Or.inr ⟨by kernel_rfl, rfl⟩) hHeldW1 ?restd51
                case' restd51 =>
                  try simp only [Act.put, List.setIfInBounds_toArray, List.set_cons_zero, List.set_cons_succ]
                refine wpAnyH_take' (i := 51) (d := 144) (v := undef) rfl (by kernel_rfl) (by kernel_rfl) (by kernel_rfl) (by kernel_rfl) (fun _ _ _ h => h) (Or.inr ⟨by kernel_rfl, rfl⟩) hHeldW1 ?restd52
                case' restd52 =>
                  try simp only [Act.put, List.setIfInBounds_toArray, List.set_cons_zero, List.set_cons_succ]
                refine wpAnyH_take' (i := 52) (d := 145) (v := undef) rfl (by kernel_rfl) (by kernel_rfl) (by kernel_rfl) (by kernel_rfl) (fun _ _ _ h => h) (Or.inr ⟨by kernel_rfl, rfl⟩) hHeldW1 ?restd53
                case' restd53 =>
                  try simp only [Act.put, List.setIfInBounds_toArray, List.set_cons_zero, List.set_cons_succ]
                refine wpAnyH_take' (i := 53) (d := 146) (v := undef) rfl (by kernel_rfl) (by kernel_rfl) (by kernel_rfl) (by kernel_rfl) (fun _ _ _ h => h) (Or.inr ⟨by kernel_rfl, rfl⟩) hHeldW1 ?restd54
                case' restd54 =>
                  try simp only [Act.put, List.setIfInBounds_toArray, List.set_cons_zero, List.set_cons_succ]
                refine wpAnyH_take' (i := 54) (d := 147) (v := undef) rfl (by kernel_rfl) (by kernel_rfl) (by kernel_rfl) (by kernel_rfl) (fun _ _ _ h => h) (Or.inr ⟨by kernel_rfl, rfl⟩) hHeldW1 ?restd55
                case' restd55 =>
                  try simp only [Act.put, List.setIfInBounds_toArray, List.set_cons_zero, List.set_cons_succ]
                refine wpAnyH_take' (i := 55) (d := 148) (v := .bool false) rfl (by kernel_rfl) (by kernel_rfl) (by kernel_rfl) (by kernel_rfl) (fun _ _ _ h => h) (Or.inl ⟨by kernel_rfl, ?hyd56⟩) hHeldW1 ?restd56
                case hyd56 => (intro w hSw; go_simp; first | done | with_reducible rfl)
                case' restd56 =>
                  try simp only [Act.put, List.setIfInBounds_toArray, List.set_cons_zero, List.set_cons_succ]
                refine wpAnyH_take' (i := 56) (d := 149) (v := .bool false) rfl (by kernel_rfl) (by kernel_rfl) (by kernel_rfl) (by kernel_rfl) (fun _ _ _ h => h) (Or.inl ⟨by kernel_rfl, ?hyd57⟩) hHeldW1 ?restd57
                case hyd57 => (intro w hSw; go_simp; first | done | with_reducible rfl)
                case' restd57 =>
                  try simp only [Act.put, List.setIfInBounds_toArray, List.set_cons_zero, List.set_cons_succ]
                refine wpAnyH_done (by kernel_rfl) ?_ _
                have HEnd := Lib.hid (HYW.out _ hHeldW1)
                go_wp2_with fail
                refine ⟨⟨k + 1, by omega, by go_num, HEnd⟩, ?_⟩
                simp [intOf]
                omega
            · obtain rfl : k = 5 := by omega
              have HEnd := Lib.hid HK.out
              have k1 : (1 : Int) ≤ ((n + 1 : Nat) : Int) := by omega
              obtain ⟨A2, hA2⟩ : ∃ b, A + (n + 1) = b := ⟨_, rfl⟩
              have k2 : (A : Int) + ((n : Int) + 1) = (A2 : Int) := by omega
              have k3 : (A2 : Int) ≤ 1300 := by have := HX.out.1; omega
              have hA3 : A2 = (1 + n) * (j + 1) := by rw [Nat.mul_add, Nat.mul_one, HA.out]; omega
              have HA3 := Lib.hid hA3
              have HLI := Lib.hid (show A2 ≤ L ∧ A < A2 by have := HX.out.1; omega)
              clear hA2 hA3
              go_wp2_with fail
              go_roundw
              case rel => exact ⟨j + 1, by omega, by rw [← HA3.out], HEnd⟩
              case measure => have := HLI.out; simp [intOf]; omega
        · obtain rfl : j = m := by omega
          obtain rfl : L = A := by rw [← HL.out, hA]
          have HEnd := Lib.hid HJ.out
          clear hX0 hY hA
          go_wp2_with fail
          refine (HLv.out _).mono ?_
          rintro e w9 ⟨rfl, hb9⟩
          have HF := Lib.hid (show Below N w w9 from by
            have h1 := HM.out.2
            have h2 := HEnd.out.size
            have h3 := HM.out.1.trans (HEnd.out.mono (by omega))
            exact h3.trans (hb9.mono (by omega)))
          clear hb9
          go_wp2_with fail
          go_ret
          exact ⟨rfl, HF.out⟩

set_option maxRecDepth 100000 in
set_option maxHeartbeats 16000000 in
theorem prdTags_big (a b : Nat) (s : ByteArray) (w : World) (ha : a < 256) (hb : b < 256) (hs : ¬ s.size ≤ 600) :
    Calls Try.prog 3 #[.int .u8 (a : Int), .int .u8 (b : Int), .string s] w fun e w' => e = .returned (.bool true) ∧ Below w.heap.size w w' := by
  obtain ⟨x, hx⟩ : ∃ x, a % 4 = x := ⟨_, rfl⟩
  obtain ⟨y, hy⟩ : ∃ y, b % 40 = y := ⟨_, rfl⟩
  have g1 : (a : Int).tmod 4 = (x : Int) := by rw [← hx]; exact (Int.ofNat_tmod _ _).symm
  have g2 : (b : Int).tmod 40 = (y : Int) := by rw [← hy]; exact (Int.ofNat_tmod _ _).symm
  obtain ⟨co, hco⟩ : ∃ co, 1 + x = co := ⟨_, rfl⟩
  obtain ⟨cl, hcl⟩ : ∃ cl, 1 + y = cl := ⟨_, rfl⟩
  have g3 : (1 : Int) + (x : Int) = (co : Int) := by omega
  have g4 : (1 : Int) + (y : Int) = (cl : Int) := by omega
  obtain ⟨n, hn⟩ : ∃ n, co * cl = n := ⟨_, rfl⟩
  have hn2 : n ≤ 160 := by rw [← hn]; exact Nat.mul_le_mul (show co ≤ 4 by omega) (show cl ≤ 40 by omega)
  have g5 : (co : Int) * (cl : Int) = (n : Int) := by rw [← hn]; push_cast; rfl
  have g6 : (600 : Int) < (s.size : Int) := by omega
  obtain ⟨N, hN⟩ : ∃ N, w.heap.size = N := ⟨_, rfl⟩
  obtain ⟨V, hV⟩ : ∃ V, w.alloc (.cells #[.int .i64 0, .int .i64 (co : Int), .int .i64 (cl : Int)] 23) = V := ⟨_, rfl⟩
  have HV0 := Lib.hid hV
  have hB0 : Below N w V := by rw [← hV, ← hN]; exact (Below.refl _ w).alloc (Nat.le_refl _) _
  have hVN : N ≤ V.heap.size := by rw [← hV, World.size_alloc, hN]; omega
  have HB := Lib.hid (And.intro hB0 hVN)
  have HLv := Lib.hid (fun W : World => prdLives_any W)
  have p1 : V.cell? ⟨N, 1, none⟩ = some (.int .i64 (co : Int)) := by rw [← hV, ← hN]; exact (Blk.new w _ _).cell 1
  have p2 : V.cell? ⟨N, 2, none⟩ = some (.int .i64 (cl : Int)) := by rw [← hV, ← hN]; exact (Blk.new w _ _).cell 2
  have hcoI : (co : Int) ≤ 4 := by omega
  have hclI : (cl : Int) ≤ 40 := by omega
  have hnI : (n : Int) ≤ 160 := by omega
  have hxI : (x : Int) < 4 := by omega
  have hyI : (y : Int) < 40 := by omega
  have haI : (a : Int) < 256 := by omega
  have hbI : (b : Int) < 256 := by omega
  rw [hN]
  clear hx hy hco hcl hn hV hB0 hVN ha hb hs
  go_enter Try.func3, Try.ntmps3
  go_upto_region 2 with fail
  rw [HV0.out]
  go_wp2_with fail
  refine (HLv.out _).mono ?_
  rintro e w9 ⟨rfl, hb9⟩
  have HF := Lib.hid (HB.out.1.trans (hb9.mono HB.out.2))
  clear hb9
  go_wp2_with fail
  go_ret
  exact ⟨rfl, HF.out⟩
theorem prdTags_any (a b : Nat) (s : ByteArray) (w : World) (ha : a < 256) (hb : b < 256) :
    Calls Try.prog 3 #[.int .u8 (a : Int), .int .u8 (b : Int), .string s] w fun e w' => e = .returned (.bool true) ∧ Below w.heap.size w w' := by
  by_cases hs : s.size ≤ 600
  · exact prdTags_in a b s w ha hb hs
  · exact prdTags_big a b s w ha hb hs
end Go.Proofs.Yticliemmplefoaa
