/-
  For all arguments PredictTags returns true: the predictors from 10 to 14 use their own tag in every row, and 15's has the smallest sum (no condition on the arguments).
-/
import Derived.Test.YthdjocbpnmjbgaaPrdTm
import Derived.Test.YthdjocbpnmjbgaaPrdFa
import Derived.Test.YthdjocbpnmjbgaaPrdLv
import Derived.Test.YthdjocbpnmjbgaaRowKeep
import Derived.Lib.SmallJoins
import Derived.HandedShaped
import Derived.OpenShut
import Derived.ChangeMaps5
namespace Go.Proofs.Ythdjocbpnmjbgaa
open Go.ChangeShapes Go.WideShapes Go.ChangeAt Go.RowKit Oct Prd

def tagX (k co n : Nat) (l : List UInt8) (m : Nat) : ByteArray := ⟨(encR (10 + k) co n l m).toArray⟩
theorem tgs_ten (k : Nat) : tgs (10 + k) = 1 := by unfold tgs; rw [if_neg (by omega)]
theorem tagX_size {k co n m : Nat} {l : List UInt8} (h : l.length = n * m) : (tagX k co n l m).size = (1 + n) * m := by
  have := encR_len (pr := 10 + k) (colors := co) h m (Nat.le_refl _)
  rw [tgs_ten] at this
  rw [← this]
  unfold tagX
  simp [ByteArray.size]
theorem tags_k {co n : Nat} {l : List UInt8} {m j k : Nat} (h : l.length = n * m) (hj : j < m) (hk : k < 5) : rowR (1 + n) (encR (10 + k) co n l m) j = UInt8.ofNat k :: lessR k (prevR n l j) (rowR n l j) co := by
  have := enc_row (pr := 10 + k) (co := co) h m (Nat.le_refl _) j hj
  rw [encOne_ten (by omega), tagOf_fix hk, tgs_ten] at this
  exact this
theorem tags_best {co n : Nat} {l : List UInt8} {m j : Nat} (h : l.length = n * m) (hj : j < m) : rowR (1 + n) (encR (10 + 5) co n l m) j = UInt8.ofNat (bestR (prevR n l j) (rowR n l j) co) :: lessR (bestR (prevR n l j) (rowR n l j) co) (prevR n l j) (rowR n l j) co := by
  have := enc_row (pr := 10 + 5) (co := co) h m (Nat.le_refl _) j hj
  rw [encOne_ten (by omega), tagOf_best, tgs_ten] at this
  exact this
/-- A row of a string that Encode made. -/
theorem row_in {X : ByteArray} {L : List UInt8} {n j p : Nat} {x : UInt8} {a : List UInt8} (hX : X.data.toList = L) (hp : p = (1 + n) * j) (h : rowR (1 + n) L j = x :: a) :
    (∃ hlt : p < X.size, X[p] = x) ∧ (X.extract (p + 1) (p + n + 1)).data.toList = a ∧ X.extract p (p + n + 1) = ⟨(x :: a).toArray⟩ := by
  unfold rowR at h
  rw [← hp] at h
  have hs : X.size = L.length := by rw [← hX]; simp
  have hlt : p < L.length := by
    by_cases g : p < L.length
    · exact g
    · rw [List.drop_eq_nil_of_le (by omega)] at h
      simp at h
  have hd : L.drop p = L[p] :: L.drop (p + 1) := List.drop_eq_getElem_cons hlt
  rw [hd, Nat.add_comm 1 n, List.take_succ_cons] at h
  obtain ⟨h1, h2⟩ := List.cons.inj h
  refine ⟨⟨by omega, ?_⟩, ?_, ?_⟩
  · rw [← h1]
    simp only [← hX]
    rfl
  · rw [show p + n + 1 = p + 1 + n by omega, extract_row hX, h2]
  · exact (list_arr (by rw [show p + n + 1 = p + (n + 1) by omega, extract_row hX, hd, List.take_succ_cons, h1, h2])).symm
theorem encF_tags {k c d n : Nat} {l : List UInt8} {m : Nat} (hk : k ≤ 5) (hc : 1 ≤ c) (hd : 1 ≤ d) (hn : c * d = n) (hn2 : n ≤ 8192) (h : l.length = n * m) : encF ((10 : Int) + (k : Int)) (c : Int) (d : Int) l = (0, encR (10 + k) c n l m) := by
  have hmul : ((c : Int) * (d : Int)) = (n : Int) := by rw [← hn]; push_cast; rfl
  have h1 : 1 ≤ n := by rw [← hn]; exact Nat.mul_pos hc hd
  have hok : okP ((10 : Int) + (k : Int)) (c : Int) (d : Int) = true := by
    refine okP_iff.2 ⟨?_, by omega, by omega, by rw [hmul]; omega⟩
    unfold knownB
    simp only [Bool.or_eq_true, Bool.and_eq_true, decide_eq_true_eq]
    omega
  unfold encF
  rw [hmul, if_neg (by rw [hok]; simp), if_neg (by omega), Int.toNat_natCast, Int.toNat_natCast, h, Nat.mul_mod_right, if_neg (by simp), Nat.mul_div_cancel_left m (by omega)]
  rw [show ((10 : Int) + (k : Int)).toNat = 10 + k by omega]

/-- The first k strings are made. -/
def LoopA (N : Nat) (c d : Int) (X : Nat → ByteArray) (w : World) (k : Nat) (wr : World) : Prop :=
  Below N w wr ∧ N + 2 ≤ wr.heap.size ∧ (∃ p0, Blk wr N 23 #[.int .i64 p0, .int .i64 c, .int .i64 d]) ∧ ∃ A : Array Value, Blk wr (N + 1) 35 A ∧ A.size = 6 ∧ ∀ j, j < k → A[j]? = some (.string (X j))

set_option maxRecDepth 100000 in
set_option maxHeartbeats 16000000 in
theorem prdTags_in (s : ByteArray) (a b : Nat) (w : World) (hs : s.size ≤ 600) (ha : a < 256) (hb : b < 256) :
    Calls Try.prog 6 #[.int .u8 (a : Int), .int .u8 (b : Int), .string s] w fun e w' => e = .returned (.bool true) ∧ Below w.heap.size w w' := by
  obtain ⟨c, hc⟩ : ∃ c, 1 + a % 4 = c := ⟨_, rfl⟩
  obtain ⟨d, hd⟩ : ∃ d, 1 + b % 40 = d := ⟨_, rfl⟩
  obtain ⟨n, hn⟩ : ∃ n, c * d = n := ⟨_, rfl⟩
  have hc1 : 1 ≤ c ∧ c ≤ 4 := by omega
  have hd1 : 1 ≤ d ∧ d ≤ 40 := by omega
  have hn1 : 1 ≤ n ∧ n ≤ 160 := by
    rw [← hn]
    exact ⟨Nat.mul_pos hc1.1 hd1.1, Nat.le_trans (Nat.mul_le_mul hc1.2 hd1.2) (by decide)⟩
  have c1 : (1 : Int) + (a : Int) % 4 = (c : Int) := by omega
  have d1 : (1 : Int) + (b : Int) % 40 = (d : Int) := by omega
  have e1 : (c : Int) * (d : Int) = (n : Int) := by rw [← hn]; push_cast; rfl
  obtain ⟨r, hr⟩ : ∃ r, s.size % n = r := ⟨_, rfl⟩
  have hrl : r ≤ s.size := by rw [← hr]; exact Nat.mod_le _ _
  obtain ⟨t, ht⟩ : ∃ t, s.size - r = t := ⟨_, rfl⟩
  obtain ⟨T, hT⟩ : ∃ T, s.extract 0 t = T := ⟨_, rfl⟩
  have hTs : T.size = t := by rw [← hT, ByteArray.size_extract]; omega
  have hTl : T.data.toList.length = t := by rw [← hTs]; simp
  obtain ⟨m, hm⟩ : ∃ m, s.size / n = m := ⟨_, rfl⟩
  have htm : t = n * m := by
    rw [← ht, ← hr, ← hm]
    have := Nat.div_add_mod s.size n
    omega
  have htd : (T.size : Int).tdiv (n : Int) = (m : Int) := by
    rw [hTs, htm]
    exact (Int.ofNat_tdiv _ _).symm.trans (by rw [Nat.mul_div_cancel_left m (by omega)])
  have f1 : ¬ (600 : Int) < (s.size : Int) := by omega
  have f2 : ¬ (n : Int) = 0 := by omega
  have f4 : (s.size : Int).tmod (n : Int) = (r : Int) := by rw [← hr]; exact (Int.ofNat_tmod _ _).symm
  have f5 : (s.size : Int) - (r : Int) = (t : Int) := by omega
  have f6 : (0 : Int) ≤ (t : Int) := by omega
  have f7 : (t : Int) ≤ (s.size : Int) := by omega
  obtain ⟨N, hN⟩ : ∃ N, w.heap.size = N := ⟨_, rfl⟩
  obtain ⟨V, hV⟩ : ∃ V, w.alloc (.cells #[.int .i64 0, .int .i64 (c : Int), .int .i64 (d : Int)] 23) = V := ⟨_, rfl⟩
  have hVs : V.heap.size = N + 1 := by rw [← hV, World.size_alloc, hN]
  have bP : Blk V N 23 #[.int .i64 0, .int .i64 (c : Int), .int .i64 (d : Int)] := by rw [← hV, ← hN]; exact Blk.new w _ _
  have HVN := Lib.hid (show Below N w V by rw [← hV, ← hN]; exact (Below.refl _ w).alloc (Nat.le_refl _) _)
  have p0 := bP.cell 0
  have p1 := bP.cell 1
  have p2 := bP.cell 2
  simp only [List.getElem?_toArray, List.getElem?_cons_zero, List.getElem?_cons_succ] at p0 p1 p2
  have HTX := Lib.hid hT
  have HTM := Lib.hid htm
  have HTL := Lib.hid (show T.data.toList.length = n * m by rw [hTl, htm])
  have hmb : m ≤ 600 := by
    rw [← hm]
    exact Nat.le_trans (Nat.div_le_self _ _) hs
  have hTb : T.size ≤ 600 := by omega
  obtain ⟨X, hX⟩ : ∃ X : Nat → ByteArray, (fun k => tagX k c n T.data.toList m) = X := ⟨_, rfl⟩
  have P1 : Hid (∀ k : Nat, k ≤ 5 → ∀ W : World, Calls Try.prog 8 #[.agg #[.int .i64 ((10 : Int) + (k : Int)), .int .i64 (c : Int), .int .i64 (d : Int)], .string T] W fun e w' => e = .returned (.tuple #[.string (X k), .int .i64 0]) ∧ Below W.heap.size W w') := by
    intro k hk W
    have := encP_any T ((10 : Int) + (k : Int)) (c : Int) (d : Int) W (by omega) ⟨by omega, by omega⟩ ⟨by omega, by omega⟩ ⟨by omega, by omega⟩
    unfold CodeIs parmsV at this
    rw [encF_tags hk hc1.1 hd1.1 hn (by omega) HTL.out] at this
    rw [← hX]
    exact this
  have HXs := Lib.hid (show ∀ k, ((X k).size : Int) = (T.size : Int) + (m : Int) by
    intro k
    rw [← hX]
    show (((tagX k c n T.data.toList m).size : Nat) : Int) = _
    rw [tagX_size HTL.out, hTs, htm, Nat.add_mul, Nat.one_mul]
    push_cast
    omega)
  have HX := Lib.hid hX
  have HVs := Lib.hid hVs
  have HPs := Lib.hid bP
  clear hc hd hn hc1 hd1 hr hrl ht hT hTl hm htm hX hTs bP hVs
  go_enter Try.func6, Try.ntmps6
  rw [hN]
  go_upto_region 2 with fail
  try rw [hV]
  clear hN hV c1 d1
  go_upto_region 6 with fail
  rw [HTX.out]
  go_upto_region 7 with fail
  obtain ⟨U, hU⟩ : ∃ U, V.alloc (.cells #[.string ⟨#[]⟩, .string ⟨#[]⟩, .string ⟨#[]⟩, .string ⟨#[]⟩, .string ⟨#[]⟩, .string ⟨#[]⟩] 35) = U := ⟨_, rfl⟩
  have HL0 : Hid (LoopA N c d X w 0 U) := by
    have hs2 := HVs.out
    refine ⟨?_, ?_, ⟨0, ?_⟩, #[.string ⟨#[]⟩, .string ⟨#[]⟩, .string ⟨#[]⟩, .string ⟨#[]⟩, .string ⟨#[]⟩, .string ⟨#[]⟩], ?_, rfl, fun j hj => absurd hj (by omega)⟩
    · rw [← hU]; exact HVN.out.alloc (by omega) _
    · rw [← hU, World.size_alloc]; omega
    · rw [← hU]; exact HPs.out.alloc _
    · rw [← hU, ← hs2]; exact Blk.new V _ _
  try rw [hU]
  rw [HVs.out]
  clear hU p0 p1 p2
  go_wp2_with fail
  go_loopw [10] (fun i wr => ∃ k : Nat, k ≤ 6 ∧ i = .int .i64 (k : Int) ∧ Hid (LoopA N c d X w k wr)) (fun i _ => 6 - (intOf i).toNat)
  case atStart => exact ⟨0, by omega, rfl, HL0⟩
  case round =>
    obtain ⟨k, hk, rfl, HL⟩ := hrel
    by_cases h6 : k < 6
    · obtain ⟨hB, hsz, ⟨z0, bP⟩, A, bA, hA6, hA⟩ := HL.out
      obtain ⟨Y, hY⟩ : ∃ Y, X k = Y := ⟨_, rfl⟩
      have P2 := Lib.hid (P1.out k (by omega))
      have hys := HXs.out k
      rw [hY] at P2 hys
      have c0 := bP.cell 0
      have c1 := bP.cell 1
      have c2 := bP.cell 2
      have f0 := bP.frozen 0
      simp only [List.getElem?_toArray, List.getElem?_cons_zero, List.getElem?_cons_succ] at c0 c1 c2
      have HbP := Lib.hid bP
      have HbA := Lib.hid bA
      have HA6 := Lib.hid hA6
      have HA := Lib.hid hA
      have HB := Lib.hid hB
      clear bP bA hA6 hA hB
      go_upto_region 11 with fail
      obtain ⟨W2, hW2⟩ : ∃ W2, wr.setCell ⟨N, 0, none⟩ (.int .i64 ((10 : Int) + (k : Int))) = W2 := ⟨_, rfl⟩
      have hB2 : Below N w W2 := by rw [← hW2]; exact HB.out.setCell (Nat.le_refl _) _
      have hS2 : N + 2 ≤ W2.heap.size := by
        rw [← hW2]
        simp only [World.setCell]
        simpa using hsz
      have bP2 : Blk W2 N 23 #[.int .i64 ((10 : Int) + (k : Int)), .int .i64 (c : Int), .int .i64 (d : Int)] := by
        rw [← hW2]
        exact (HbP.out.set_ 0 _).trans (by simp)
      have bA2 : Blk W2 (N + 1) 35 A := by rw [← hW2]; exact HbA.out.far (by simp) _
      rw [hW2]
      clear hW2 c0 c1 c2 f0
      have c0 := bP2.cell 0
      have c1 := bP2.cell 1
      have c2 := bP2.cell 2
      simp only [List.getElem?_toArray, List.getElem?_cons_zero, List.getElem?_cons_succ] at c0 c1 c2
      have HbP2 := Lib.hid bP2
      have HbA2 := Lib.hid bA2
      have HB2 := Lib.hid hB2
      have HS2 := Lib.hid hS2
      clear bP2 bA2 hB2 hS2
      go_wp2_with fail
      refine (P2.out _).mono ?_
      rintro e w3 ⟨rfl, hb⟩
      have HB3 := Lib.hid (HB2.out.trans (hb.mono (by have := HS2.out; omega)))
      have HS3 := Lib.hid (Nat.le_trans HS2.out hb.size)
      have HbP3 := Lib.hid (HbP2.out.below hb HbP2.out.lt)
      have HbA3 := Lib.hid (HbA2.out.below hb HbA2.out.lt)
      clear hb c0 c1 c2
      obtain ⟨v, hv⟩ : ∃ v, A[k]? = some v := ⟨A[k]'(by rw [HA6.out]; exact h6), Array.getElem?_eq_getElem _⟩
      have c0 := HbA3.out.cell k
      rw [hv] at c0
      have f0 := HbA3.out.frozen k
      have hk6 : (k : Int) < 6 := by omega
      have hkk : ((k : Int)).toNat = k := Int.toNat_natCast k
      clear hv
      go_wp2_with fail
      go_roundw
      case rel =>
        refine ⟨k + 1, by omega, by go_num, Lib.hid ⟨HB3.out.setCell (by simp) _, ?_, ⟨_, HbP3.out.far (by simp) _⟩, A.setIfInBounds k (.string Y), HbA3.out.set_ k _, by rw [Array.size_setIfInBounds]; exact HA6.out, ?_⟩⟩
        · have := HS3.out
          simp only [World.setCell]
          simpa using this
        · intro j hj
          by_cases e : j = k
          · subst e
            rw [hY, Array.getElem?_setIfInBounds_self_of_lt (by rw [HA6.out]; exact h6)]
          · rw [Array.getElem?_setIfInBounds_ne (Ne.symm e)]
            exact HA.out j (by omega)
      case measure => simp [intOf]; omega
    · obtain rfl : k = 6 := by omega
      obtain ⟨hB, hsz, ⟨z0, bP⟩, A, bA, hA6, hA⟩ := HL.out
      have HC := Lib.hid (show ∀ (q : Nat) (k : Nat), k < 6 → (wr.drewN q).cell? ⟨N + 1, k, none⟩ = some (.string (X k)) from fun q k hk => ((bA.drewN q).cell k).trans (hA k hk))
      have HB := Lib.hid hB
      have HSZ := Lib.hid (Nat.le_trans (Nat.le_add_right N 2) hsz)
      clear HL bP HVN HVs HPs P1 hA bA hA6 hB hsz HL0 HTX
      clear f4 f5 f6 f7
      rw [show ((6 : Nat) : Int) = (6 : Int) from rfl]
      go_wp2_with fail
      go_loopw [13] (fun i w2 => ∃ j q p : Nat, j ≤ m ∧ i = .int .i64 (p : Int) ∧ Hid (p = (1 + n) * j) ∧ Hid (w2 = wr.drewN q)) (fun i _ => (1 + n) * m - (intOf i).toNat)
      case atStart => exact ⟨0, 0, 0, by omega, rfl, Lib.hid (by simp), Lib.hid rfl⟩
      case round =>
        obtain ⟨j, q, p, hj, rfl, HP, HW⟩ := hrel
        obtain ⟨X0, hX0⟩ : ∃ Y, X 0 = Y := ⟨_, rfl⟩
        obtain ⟨X5, hX5⟩ : ∃ Y, X 5 = Y := ⟨_, rfl⟩
        have a0 := HC.out q 0 (by omega)
        have a5 := HC.out q 5 (by omega)
        rw [← HW.out, hX0] at a0
        rw [← HW.out, hX5] at a5
        have hs0 : X0.size = (1 + n) * m := by rw [← hX0, ← HX.out]; exact tagX_size HTL.out
        have hs5 : X5.size = (1 + n) * m := by rw [← hX5, ← HX.out]; exact tagX_size HTL.out
        by_cases hjm : j < m
        · have hpm : p + (1 + n) ≤ (1 + n) * m := by
            rw [HP.out]
            have := Nat.mul_le_mul_left (1 + n) hjm
            rw [Nat.mul_succ] at this
            exact this
          have hp0 : (p : Int) < (X0.size : Int) := by omega
          have hp5 : (p : Int) < (X5.size : Int) := by omega
          obtain ⟨tg, htg⟩ : ∃ tg, bestR (prevR n T.data.toList j) (rowR n T.data.toList j) c = tg := ⟨_, rfl⟩
          have htg5 : tg < 5 := by rw [← htg]; exact bestR_lt _ _ _
          have R5 := tags_best (co := c) (n := n) (l := T.data.toList) HTL.out hjm
          rw [htg] at R5
          obtain ⟨⟨h5lt, h5b⟩, h5e, h5r⟩ := row_in (X := X5) (p := p) (by rw [← hX5, ← HX.out]; rfl) HP.out R5
          obtain ⟨b5, hb5⟩ : ∃ b5, UInt8.ofNat tg = b5 := ⟨_, rfl⟩
          have hb5n : (b5.toNat : Int) = (tg : Int) := by
            rw [← hb5]
            simp
            omega
          rw [hb5] at h5b
          have hbt : ¬ (4 : Int) < (tg : Int) := by omega
          obtain ⟨u, hu⟩ : ∃ u, p + 1 = u := ⟨_, rfl⟩
          obtain ⟨v, hv⟩ : ∃ v, p + n + 1 = v := ⟨_, rfl⟩
          have hvn : v ≤ (1 + n) * m := by omega
          have huv : u ≤ v := by omega
          obtain ⟨Eb, hEb⟩ : ∃ E, X5.extract u v = E := ⟨_, rfl⟩
          obtain ⟨Er, hEr⟩ : ∃ E, X5.extract p v = E := ⟨_, rfl⟩
          rw [hu, hv, hEb] at h5e
          rw [hv, hEr] at h5r
          have H5e := Lib.hid h5e
          have H5r := Lib.hid h5r
          have HJ := Lib.hid hjm
          have HTG := Lib.hid htg
          have HT5 := Lib.hid htg5
          have HS5 := Lib.hid hs5
          have HPM := Lib.hid hpm
          have HEb := Lib.hid hEb
          have HEr := Lib.hid hEr
          have HB5 := Lib.hid hb5
          obtain ⟨fb, hfb⟩ : ∃ f, weightR Eb.data.toList = f := ⟨_, rfl⟩
          have FB := Lib.hid (fun W : World => far_any Eb W (by rw [← hEb, ByteArray.size_extract]; omega))
          rw [hfb] at FB
          have HFB := Lib.hid hfb
          have HX5 := Lib.hid hX5
          clear h5e h5r htg htg5 hs5 hpm hEb hEr hb5 R5 hs0 hX0 hX5 hjm hfb
          go_wp2_with fail
          go_loopw [15] (fun i w3 => ∃ k q3 : Nat, k ≤ 5 ∧ i = .int .i64 (k : Int) ∧ Hid (w3 = wr.drewN q3)) (fun i _ => 5 - (intOf i).toNat)
          case atStart => exact ⟨0, 0, by omega, rfl, Lib.hid rfl⟩
          case round =>
            obtain ⟨k, q3, hk, rfl, HW3⟩ := hrel
            have HW4 := Lib.hid ((HW3.out.trans (congrArg (fun W => World.drewN W q3) HW.out)).trans (World.drewN_drewN _ q q3))
            by_cases hk5 : k < 5
            · obtain ⟨Xk, hXk⟩ : ∃ Y, X k = Y := ⟨_, rfl⟩
              have ak := HC.out (q + q3) k (by omega)
              have a5 := HC.out (q + q3) 5 (by omega)
              rw [← HW4.out, hXk] at ak
              rw [← HW4.out, HX5.out] at a5
              have hsk : Xk.size = (1 + n) * m := by rw [← hXk, ← HX.out]; exact tagX_size HTL.out
              have hpm := HPM.out
              have hpk : (p : Int) < (Xk.size : Int) := by rw [hsk]; omega
              have Rk := tags_k (co := c) (n := n) (l := T.data.toList) HTL.out HJ.out hk5
              obtain ⟨⟨hklt, hkb⟩, hke, hkr⟩ := row_in (X := Xk) (p := p) (by rw [← hXk, ← HX.out]; rfl) HP.out Rk
              obtain ⟨bk, hbk⟩ : ∃ b, UInt8.ofNat k = b := ⟨_, rfl⟩
              have hbkn : (bk.toNat : Int) = (k : Int) := by
                rw [← hbk]
                simp
                omega
              obtain ⟨Ea, hEa⟩ : ∃ E, Xk.extract u v = E := ⟨_, rfl⟩
              have FA0 := fun W : World => far_any Ea W (by rw [← hEa, ByteArray.size_extract]; omega)
              rw [hu, hv, hEa] at hke
              have hw : fb ≤ weightR Ea.data.toList := by
                rw [← HFB.out, H5e.out, hke, ← HTG.out]
                exact bestR_min _ _ _ _ hk5
              obtain ⟨fa, hfa⟩ : ∃ f, weightR Ea.data.toList = f := ⟨_, rfl⟩
              rw [hfa] at FA0 hw
              have FA := Lib.hid FA0
              have hnlt : decide (fa < fb) = false := decide_eq_false (by omega)
              rw [hbk] at hkb
              have ik : (k : Int) < 6 := by omega
              have hbd : p + n + 1 ≤ 1200 := by
                have := HXs.out k
                rw [hXk, hsk] at this
                omega
              have g3 : (0 : Int) ≤ (u : Int) := by omega
              have g4 : (u : Int) ≤ (v : Int) := by omega
              have g5 : (v : Int) ≤ (Xk.size : Int) := by rw [hsk]; omega
              have g6 : (v : Int) ≤ (X5.size : Int) := by rw [HS5.out]; omega
              have g7 : (0 : Int) ≤ (p : Int) := by omega
              have g8 : (p : Int) ≤ (v : Int) := by omega
              obtain ⟨z2, hz2⟩ : ∃ z : Nat, p + n = z := ⟨_, rfl⟩
              have y1 : u ≤ 1200 := by omega
              have y2 : z2 ≤ 1200 := by omega
              have y3 : v ≤ 1200 := by omega
              have g9 : (p : Int) + 1 = (u : Int) := by omega
              have g10 : (p : Int) + (n : Int) = (z2 : Int) := by omega
              have g11 : (z2 : Int) + 1 = (v : Int) := by omega
              clear hz2
              have HRel : ∀ q4, Hid (wr.drewN q4 = _) := fun q4 => Lib.hid ((congrArg (fun W => World.drewN W q4) HW3.out).trans (World.drewN_drewN _ q3 q4))
              by_cases e : k = tg
              · have hkt : ((k : Int) == (tg : Int)) = true := beq_iff_eq.2 (by rw [e])
                have hkr2 : Xk.extract p v = Er := by
                  rw [← hv, hkr, H5r.out, e]
                go_wp2_with fail
                have hEb := HEb.out
                have hEr := HEr.out
                clear hs ha hb e1 htd f2 hmb hTb f1 hj hvn hn1 e hb5n hbt h6 hu hv hp0 a0 hsk hpm hXk hke hkr Rk FA0 hw hfa hbk
                go_quiet ((first | (go_at_call_of 20 (Value.string Ea); exact Calls.quiet_of (FA.out _)) | (go_at_call_of 20 (Value.string Eb); exact Calls.quiet_of (FB.out _))))
                go_wp2_with fail
                go_roundw
                case rel => exact ⟨k + 1, q3 + nq, by omega, by go_num, HRel nq⟩
                case measure => simp [intOf]; omega
              · have hkt : ((k : Int) == (tg : Int)) = false := beq_eq_false_iff_ne.2 (fun h => e (by injection h))
                go_wp2_with fail
                have hEb := HEb.out
                clear hs ha hb e1 htd f2 hmb hTb f1 hj hvn hn1 e hb5n hbt h6 hu hv hp0 a0 hsk hpm hXk hke hkr Rk FA0 hw hfa hbk
                go_quiet ((first | (go_at_call_of 20 (Value.string Ea); exact Calls.quiet_of (FA.out _)) | (go_at_call_of 20 (Value.string Eb); exact Calls.quiet_of (FB.out _))))
                go_wp2_with fail
                go_roundw
                case rel => exact ⟨k + 1, q3 + nq, by omega, by go_num, HRel nq⟩
                case measure => simp [intOf]; omega
            · obtain rfl : k = 5 := by omega
              have hbd : p + (n + 1) ≤ 1300 := by
                have := HXs.out 5
                rw [HX5.out, HS5.out] at this
                have := HPM.out
                omega
              obtain ⟨y, hy⟩ : ∃ y, p + (n + 1) = y := ⟨_, rfl⟩
              have g12 : (n : Int) + 1 = ((n + 1 : Nat) : Int) := by push_cast; rfl
              have HY := Lib.hid (show y = (1 + n) * (j + 1) by rw [← hy, HP.out, Nat.mul_succ]; omega)
              have g13 : (p : Int) + ((n : Int) + 1) = (y : Int) := by omega
              have hyb : y ≤ 1300 := by omega
              clear g12 hy hbd
              go_wp2_with fail
              go_roundw
              case rel => exact ⟨j + 1, q + q3, y, HJ.out, by go_num, HY, HW4⟩
              case measure =>
                have := HPM.out
                simp [intOf]
                omega
        · obtain rfl : j = m := by omega
          have hp0 : ¬ (p : Int) < (X0.size : Int) := by
            rw [hs0, HP.out]
            omega
          clear hs0 hs5 a5
          go_wp2_with fail
          refine (prdLives_any _).mono ?_
          rintro e w5 ⟨rfl, hb⟩
          have HB5 := Lib.hid (show Below N w w5 from (show Below N w wr by rw [HW.out]; exact ⟨HB.out.os, HB.out.tape, HB.out.output, HB.out.size, HB.out.block⟩).trans (hb.mono (by rw [HW.out]; exact HSZ.out)))
          clear hb
          go_wp2_with fail
          go_ret
          exact ⟨rfl, HB5.out⟩

set_option maxRecDepth 100000 in
set_option maxHeartbeats 16000000 in
theorem prdTags_big (s : ByteArray) (a b : Nat) (w : World) (hs : ¬ s.size ≤ 600) (ha : a < 256) (hb : b < 256) :
    Calls Try.prog 6 #[.int .u8 (a : Int), .int .u8 (b : Int), .string s] w fun e w' => e = .returned (.bool true) ∧ Below w.heap.size w w' := by
  obtain ⟨c, hc⟩ : ∃ c, 1 + a % 4 = c := ⟨_, rfl⟩
  obtain ⟨d, hd⟩ : ∃ d, 1 + b % 40 = d := ⟨_, rfl⟩
  obtain ⟨n, hn⟩ : ∃ n, c * d = n := ⟨_, rfl⟩
  have hc1 : 1 ≤ c ∧ c ≤ 4 := by omega
  have hd1 : 1 ≤ d ∧ d ≤ 40 := by omega
  have hn1 : 1 ≤ n ∧ n ≤ 160 := by
    rw [← hn]
    exact ⟨Nat.mul_pos hc1.1 hd1.1, Nat.le_trans (Nat.mul_le_mul hc1.2 hd1.2) (by decide)⟩
  have c1 : (1 : Int) + (a : Int) % 4 = (c : Int) := by omega
  have d1 : (1 : Int) + (b : Int) % 40 = (d : Int) := by omega
  have e1 : (c : Int) * (d : Int) = (n : Int) := by rw [← hn]; push_cast; rfl
  have f1 : (600 : Int) < (s.size : Int) := by omega
  obtain ⟨N, hN⟩ : ∃ N, w.heap.size = N := ⟨_, rfl⟩
  obtain ⟨V, hV⟩ : ∃ V, w.alloc (.cells #[.int .i64 0, .int .i64 (c : Int), .int .i64 (d : Int)] 23) = V := ⟨_, rfl⟩
  have hVs : V.heap.size = N + 1 := by rw [← hV, World.size_alloc, hN]
  have bP : Blk V N 23 #[.int .i64 0, .int .i64 (c : Int), .int .i64 (d : Int)] := by rw [← hV, ← hN]; exact Blk.new w _ _
  have HVN := Lib.hid (show Below N w V by rw [← hV, ← hN]; exact (Below.refl _ w).alloc (Nat.le_refl _) _)
  have HVs := Lib.hid (show N ≤ V.heap.size by omega)
  have p0 := bP.cell 0
  have p1 := bP.cell 1
  have p2 := bP.cell 2
  simp only [List.getElem?_toArray, List.getElem?_cons_zero, List.getElem?_cons_succ] at p0 p1 p2
  clear hc hd hn hc1 hd1 bP hVs
  go_enter Try.func6, Try.ntmps6
  rw [hN]
  go_upto_region 2 with fail
  try rw [hV]
  clear hN hV c1 d1
  go_wp2_with fail
  refine (prdLives_any _).mono ?_
  rintro e w5 ⟨rfl, hb⟩
  have HB5 := Lib.hid (HVN.out.trans (hb.mono HVs.out))
  clear hb
  go_wp2_with fail
  go_ret
  exact ⟨rfl, HB5.out⟩
theorem u8_nat {c : Int} (h : (Lit.int .u8 c).wf = true) : ∃ b : Nat, c = (b : Int) ∧ b < 256 := by
  simp [Lit.wf, IntKind.min, IntKind.max, IntKind.signed, IntKind.bits] at h
  exact ⟨c.toNat, by omega, by omega⟩
theorem prdTags_any (a b : Int) (s : ByteArray) (w : World) (ha : (Lit.int .u8 a).wf = true) (hb : (Lit.int .u8 b).wf = true) :
    Calls Try.prog 6 #[.int .u8 a, .int .u8 b, .string s] w fun e w' => e = .returned (.bool true) ∧ Below w.heap.size w w' := by
  obtain ⟨a, rfl, ha'⟩ := u8_nat ha
  obtain ⟨b, rfl, hb'⟩ := u8_nat hb
  by_cases hs : s.size ≤ 600
  · exact prdTags_in s a b w hs ha' hb'
  · exact prdTags_big s a b w hs ha' hb'

/-! ### The row. -/
theorem predictTags_laidOut : laidOutB Try.prog = true := by kernel_rfl
theorem predictTags_own : ownKnob Try.prog.godebug = none := by kernel_rfl
theorem predictTags_types (t : TypeId) (ht : t ∈ Try.f6.params.toList) : Try.prog.readableRec t = true ∧ t < Try.prog.types.size := by
  rw [Try.params6] at ht
  simp only [List.mem_cons, List.not_mem_nil, or_false] at ht
  rcases ht with rfl | rfl | rfl
  · exact ⟨by kernel_rfl, of_decide_eq_true (by kernel_rfl)⟩
  · exact ⟨by kernel_rfl, of_decide_eq_true (by kernel_rfl)⟩
  · exact ⟨by kernel_rfl, of_decide_eq_true (by kernel_rfl)⟩
theorem predictTags_fn {H : Type} (ds' : List (DataW H)) (h : ds'.length = Try.f6.params.size) : Rows.predictTagsSpec.fn H ds' = { results := [.lit (.bool true)], args := ds' } := by
  have h' : ds'.length = 3 := h.trans (by kernel_rfl)
  match ds', h' with
  | [_, _, _], _ => rfl

set_option maxRecDepth 100000 in
theorem predictTags_lifted (os : Os) (started : os.Started) (H : Type) (enc : TypeId × Value → H) :
    ReturnsInHanded {} Try.checked os 6 .any (Rows.predictTagsSpec.pre6 enc Try.prog Try.f6 Rows.predictTagsRow.domain false) (Rows.predictTagsSpec.post enc Try.prog Try.f6 false true false false) := by
  refine returnsInHanded_of_change_shaped (C := Try.checked) predictTags_own started (by kernel_rfl) Try.func6
    (ChangeSpec.witness6 (enc := enc) (C := Try.checked) false ⟨#[], #[.int .u8 0, .int .u8 0, .string ⟨#[]⟩], []⟩ 8 (by kernel_rfl) (by kernel_rfl) (by kernel_rfl) (by kernel_rfl)) ?_
  intro W base args ds gs before hval0 hW hcnd0 _ hsh _
  have hval : ∀ (j : Nat) t v, Try.f6.params[j]? = some t → args[j]? = some v → Value.okWide Try.prog W .any base t v := hval0
  have hW' := hW
  obtain ⟨p, q, hA0, hV, rfl, hfz, hnd⟩ := hW
  have hA : DataW.TrodAll enc Try.prog W 0 (fun _ => true) true Try.f6.params.toList args.toList ds p := hA0
  rw [Try.params6] at hA hval
  obtain ⟨v0, vs0, d0, ds0, p0, q0, hargs, rfl, rfl, h0, r0⟩ := trodAll_cons hA
  obtain ⟨v1, vs1, d1, ds1, p1, q1, rfl, rfl, rfl, h1, r1⟩ := trodAll_cons r0
  obtain ⟨v2, vs2, d2, ds2, p2, q2, rfl, rfl, rfl, h2, r2⟩ := trodAll_cons r1
  obtain ⟨rfl, rfl, rfl⟩ := trodAll_nil r2
  obtain rfl : args = #[v0, v1, v2] := by cases args; simp_all
  obtain ⟨rfl, rfl⟩ := trodVars_none hV
  obtain ⟨a0, rfl, rfl, rfl, w0⟩ := open_int Try.underlying5 (hval 0 5 v0 rfl rfl) h0
  obtain ⟨a1, rfl, rfl, rfl, w1⟩ := open_int Try.underlying5 (hval 1 5 v1 rfl rfl) h1
  obtain ⟨a2, rfl, rfl, rfl, w2⟩ := Go.ChangeMaps.open_string Try.underlying9 (hval 2 9 v2 rfl rfl) h2
  clear hA0 hval0
  refine (prdTags_any a0 a1 a2 W w0 w1).mono fun e W' ⟨he, hb⟩ => ?_
  subst he
  exact ⟨_, rfl, post_keep predictTags_laidOut (fun t ht => predictTags_types t ht) rfl hW' (fun ds' hds => predictTags_fn ds' hds) (by kernel_rfl) Try.underlying4 hb⟩

theorem predictTags_holds : Rows.PredictTagsSaid :=
  OpenClaim.holds_of_wide 6 Try.f6 rfl rfl rfl rfl rfl rfl rfl ⟨rfl, rfl, rfl, rfl, rfl⟩ rfl rfl rfl rfl rfl (by kernel_rfl) Try.func6 (by kernel_rfl)
    (of_decide_eq_true (by kernel_rfl)) (by unfold Func.isWrapper; first | (rw [if_pos (by decide +kernel)]; kernel_rfl) | (rw [if_neg (by decide +kernel)]; exact ⟨rfl, rfl⟩))
    (fun os started H enc _ => predictTags_lifted os started H enc)
end Go.Proofs.Ythdjocbpnmjbgaa
