/-
  What the law of the tags wants to know of the six encodings.
-/
import Derived.Test.YticliemmplefoaaPrdTm
import Derived.Test.YticliemmplefoaaPrdH
import Derived.WideShapes
namespace Go.Proofs.Yticliemmplefoaa
open Go.RowKit Oct Prd

/-- What predictor 10 + k makes of m rows. -/
def EB (co n m : Nat) (l : List UInt8) (k : Nat) : ByteArray := ⟨(encR (10 + k) co n l m).toArray⟩
theorem EB_list (co n m : Nat) (l : List UInt8) (k : Nat) : (EB co n m l k).data.toList = encR (10 + k) co n l m := rfl
theorem EB_size {co n m : Nat} {l : List UInt8} (h : l.length = n * m) (k : Nat) : (EB co n m l k).size = (1 + n) * m := by
  have h1 : (EB co n m l k).size = (encR (10 + k) co n l m).length := by rw [← EB_list]; simp
  rw [h1, encR_len h m (Nat.le_refl _)]
  unfold tgs
  rw [if_neg (by omega)]
theorem ext_list (X : ByteArray) (i j : Nat) : (X.extract i j).data.toList = (X.data.toList.drop i).take (j - i) := by
  rw [ByteArray.data_extract, Array.toList_extract, List.extract_eq_take_drop]
theorem enc_tags {co cl : Nat} (h1 : 1 ≤ co) (h2 : co ≤ 4) (h3 : 1 ≤ cl) (h4 : cl ≤ 40) {n m : Nat} (hn : co * cl = n) {l : List UInt8} (hl : l.length = n * m) {k : Nat} (hk : k < 6) :
    encF (10 + (k : Int)) (co : Int) (cl : Int) l = (0, encR (10 + k) co n l m) := by
  have hn1 : 1 ≤ n := by rw [← hn]; exact Nat.mul_le_mul h1 h3
  have hn2 : n ≤ 160 := by rw [← hn]; exact Nat.mul_le_mul h2 h4
  have hnI : (co : Int) * (cl : Int) = (n : Int) := by rw [← hn]; push_cast; rfl
  have hok : okP (10 + (k : Int)) (co : Int) (cl : Int) = true := okP_iff.2 ⟨by unfold knownB; simp only [Bool.or_eq_true, Bool.and_eq_true, decide_eq_true_eq]; omega, by omega, by omega, by rw [hnI]; omega⟩
  unfold encF
  rw [hnI, if_neg (by rw [hok]; simp), if_neg (by omega), if_neg (by rw [Int.toNat_natCast, hl, Nat.mul_mod_right]; simp), Int.toNat_natCast, Int.toNat_natCast, hl, Nat.mul_div_cancel_left m (by omega)]
  rfl
/-- One row of two encodings: the tags, the sums, the bytes. -/
structure TagRow (X Y : ByteArray) (a n k T : Nat) : Prop where
  hX : a + n + 1 ≤ X.size
  hY : a + n + 1 ≤ Y.size
  tx : ∀ h : a < X.size, X[a].toNat = k
  ty : ∀ h : a < Y.size, Y[a].toNat = T
  lt : T < 5
  w : weightR (Y.extract (a + 1) (a + n + 1)).data.toList ≤ weightR (X.extract (a + 1) (a + n + 1)).data.toList
  eq : k = T → X.extract a (a + n + 1) = Y.extract a (a + n + 1)
theorem row_bytes {X : ByteArray} {n j : Nat} {c : UInt8} {r : List UInt8} (h : rowR (1 + n) X.data.toList j = c :: r) :
    (∀ h : (1 + n) * j < X.size, X[(1 + n) * j] = c) ∧ (X.extract ((1 + n) * j) ((1 + n) * j + n + 1)).data.toList = c :: r ∧ (X.extract ((1 + n) * j + 1) ((1 + n) * j + n + 1)).data.toList = r := by
  unfold rowR at h
  refine ⟨fun hj => ?_, ?_, ?_⟩
  · have h1 := congrArg (·[0]?) h
    simp only [List.getElem?_take, List.getElem?_drop, List.getElem?_cons_zero, Nat.add_zero] at h1
    rw [if_pos (by omega)] at h1
    have h2 : X.data.toList[(1 + n) * j]? = some X[(1 + n) * j] := by
      rw [List.getElem?_eq_getElem (by simpa using hj)]
      rfl
    rw [h2] at h1
    injection h1
  · rw [ext_list, show (1 + n) * j + n + 1 - (1 + n) * j = 1 + n by omega]
    exact h
  · rw [ext_list, show (1 + n) * j + n + 1 - ((1 + n) * j + 1) = n by omega]
    have h1 := congrArg (List.drop 1) h
    rw [List.drop_take, List.drop_drop, show 1 + n - 1 = n by omega] at h1
    simpa using h1
theorem tag_row {co n m : Nat} {l : List UInt8} (hl : l.length = n * m) {j : Nat} (hj : j < m) :
    ∃ T, T < 5 ∧ ∀ k, k < 5 → TagRow (EB co n m l k) (EB co n m l 5) ((1 + n) * j) n k T := by
  have hsz : ∀ k, (1 + n) * (j + 1) ≤ (EB co n m l k).size := fun k => by rw [EB_size hl]; exact Nat.mul_le_mul_left _ hj
  have hs2 : (1 + n) * j + n + 1 = (1 + n) * (j + 1) := by rw [Nat.mul_add, Nat.mul_one]; omega
  obtain ⟨a0, b0, T, hT, _, h5, _⟩ := tags_row (co := co) hl hj (show 0 < 5 by decide)
  refine ⟨T, hT, fun k hk => ?_⟩
  obtain ⟨a, b, T', hT', hk2, h5', hw, he⟩ := tags_row (co := co) hl hj hk
  have e1 : UInt8.ofNat T :: b0 = UInt8.ofNat T' :: b := h5.symm.trans h5'
  injection e1 with e1 e2
  have eT : T' = T := by
    have := congrArg UInt8.toNat e1
    simp only [UInt8.toNat_ofNat'] at this
    omega
  subst eT
  obtain ⟨x1, x2, x3⟩ := row_bytes (X := EB co n m l k) hk2
  obtain ⟨y1, y2, y3⟩ := row_bytes (X := EB co n m l 5) h5'
  refine ⟨by rw [hs2]; exact hsz k, by rw [hs2]; exact hsz 5, fun h => by rw [x1 h, UInt8.toNat_ofNat']; omega, fun h => by rw [y1 h, UInt8.toNat_ofNat']; omega, hT', by rw [x3, y3]; exact hw, fun e => ?_⟩
  apply Go.WideShapes.bytes_inj
  rw [x2, y2, he e, e]
end Go.Proofs.Yticliemmplefoaa
