/-
  Plain mathematics of the layer predict: rows, their filters, the best of them, what a coder makes of all rows, and that decoding takes back what encoding made. No program in this text.
-/
import Derived.Lib.Hide
namespace Go.Proofs.Yticliemmplefoaa.Prd

/-- The byte of a row at a place; 0 outside. -/
def rAt (l : List UInt8) (i : Int) : UInt8 := if i < 0 then 0 else l.getD i.toNat 0
theorem rAt_neg (l : List UInt8) {i : Int} (h : i < 0) : rAt l i = 0 := by unfold rAt; rw [if_pos h]
theorem rAt_past (l : List UInt8) {i : Int} (h : (l.length : Int) ≤ i) : rAt l i = 0 := by
  unfold rAt
  by_cases h0 : i < 0
  · rw [if_pos h0]
  · rw [if_neg h0, List.getD_eq_getElem?_getD, List.getElem?_eq_none (by omega)]; rfl
theorem rAt_in (l : List UInt8) {i : Nat} (h : i < l.length) : rAt l (i : Int) = l[i] := by
  unfold rAt
  rw [if_neg (by omega), Int.toNat_natCast, List.getD_eq_getElem?_getD, List.getElem?_eq_getElem h]; rfl
theorem rAt_left (a b : List UInt8) {i : Int} (h : i < (a.length : Int)) : rAt (a ++ b) i = rAt a i := by
  by_cases h0 : i < 0
  · rw [rAt_neg _ h0, rAt_neg _ h0]
  · obtain ⟨k, rfl⟩ : ∃ k : Nat, i = (k : Int) := ⟨i.toNat, by omega⟩
    rw [rAt_in _ (by rw [List.length_append]; omega), rAt_in _ (by omega), List.getElem_append_left]

/-! ### Paeth's choice. -/
def awayI (g : Int) (v : UInt8) : Int := max (g - (v.toNat : Int)) ((v.toNat : Int) - g)
def paethF (a b c : UInt8) : UInt8 :=
  if awayI ((a.toNat : Int) + b.toNat - c.toNat) a ≤ awayI ((a.toNat : Int) + b.toNat - c.toNat) b ∧ awayI ((a.toNat : Int) + b.toNat - c.toNat) a ≤ awayI ((a.toNat : Int) + b.toNat - c.toNat) c then a
  else if awayI ((a.toNat : Int) + b.toNat - c.toNat) b ≤ awayI ((a.toNat : Int) + b.toNat - c.toNat) c then b else c
/-- The nearer of two, the first at a draw. -/
def nearer (g : Int) (m v : UInt8) : UInt8 := if awayI g v < awayI g m then v else m
theorem paeth_two (a b c : UInt8) : nearer ((a.toNat : Int) + b.toNat - c.toNat) (nearer ((a.toNat : Int) + b.toNat - c.toNat) a b) c = paethF a b c := by
  unfold paethF nearer
  generalize hx : awayI ((a.toNat : Int) + b.toNat - c.toNat) a = x
  generalize hy : awayI ((a.toNat : Int) + b.toNat - c.toNat) b = y
  generalize hz : awayI ((a.toNat : Int) + b.toNat - c.toNat) c = z
  by_cases h1 : y < x
  · rw [if_pos h1, hy]
    by_cases h2 : z < y
    · rw [if_pos h2, if_neg (by omega), if_neg (by omega)]
    · rw [if_neg h2, if_neg (by omega), if_pos (by omega)]
  · rw [if_neg h1, hx]
    by_cases h2 : z < x
    · rw [if_pos h2, if_neg (by omega), if_neg (by omega)]
    · rw [if_neg h2, if_pos (by omega)]

/-! ### The row filters. -/
def offF (tag : Nat) (left above corner : UInt8) : UInt8 :=
  match tag with
  | 1 => left
  | 2 => above
  | 3 => UInt8.ofNat ((left.toNat + above.toNat) / 2)
  | 4 => paethF left above corner
  | _ => 0
def offR (tag : Nat) (prev row : List UInt8) (i colors : Nat) : UInt8 := offF tag (rAt row ((i : Int) - colors)) (rAt prev i) (rAt prev ((i : Int) - colors))
/-- The first k bytes of a row, filtered. -/
def lessN (tag : Nat) (prev row : List UInt8) (colors : Nat) : Nat → List UInt8
  | 0 => []
  | k + 1 => lessN tag prev row colors k ++ [rAt row k - offR tag prev row k colors]
def lessR (tag : Nat) (prev row : List UInt8) (colors : Nat) : List UInt8 := lessN tag prev row colors row.length
theorem lessN_len (tag : Nat) (prev row : List UInt8) (colors k : Nat) : (lessN tag prev row colors k).length = k := by
  induction k with
  | zero => rfl
  | succ k ih => unfold lessN; rw [List.length_append, ih]; rfl
theorem lessR_len (tag : Nat) (prev row : List UInt8) (colors : Nat) : (lessR tag prev row colors).length = row.length := lessN_len _ _ _ _ _
/-- A row of filtered bytes, restored: o is what there is already. -/
def backR (tag : Nat) (prev : List UInt8) (colors : Nat) : List UInt8 → List UInt8 → List UInt8
  | o, [] => o
  | o, d :: t => backR tag prev colors (o ++ [d + offR tag prev o o.length colors]) t
theorem backR_len (tag : Nat) (prev : List UInt8) (colors : Nat) : ∀ (t o : List UInt8), (backR tag prev colors o t).length = o.length + t.length
  | [], o => rfl
  | d :: t, o => by unfold backR; rw [backR_len, List.length_append]; simp; omega

/-! ### Sums, and the best filter. -/
def absB (d : UInt8) : Nat := min d.toNat (256 - d.toNat)
def weightR (l : List UInt8) : Nat := (l.map absB).sum
theorem absB_le (d : UInt8) : absB d ≤ 128 := by unfold absB; omega
theorem weightR_le : ∀ l : List UInt8, weightR l ≤ 128 * l.length
  | [] => by simp [weightR]
  | d :: t => by
    have := weightR_le t
    have := absB_le d
    unfold weightR at *
    simp only [List.map_cons, List.sum_cons, List.length_cons]
    omega
theorem weightR_app (a b : List UInt8) : weightR (a ++ b) = weightR a + weightR b := by simp [weightR]
/-- Tag and sum of the best of the first k filters. -/
def bestN (prev row : List UInt8) (colors : Nat) : Nat → Nat × Nat
  | 0 => (0, weightR row)
  | k + 1 => if weightR (lessR k prev row colors) < (bestN prev row colors k).2 then (k, weightR (lessR k prev row colors)) else bestN prev row colors k
def bestR (prev row : List UInt8) (colors : Nat) : Nat := (bestN prev row colors 5).1
theorem lessN_zero (prev row : List UInt8) (colors : Nat) : ∀ k, k ≤ row.length → lessN 0 prev row colors k = row.take k
  | 0, _ => rfl
  | k + 1, h => by
    unfold lessN
    rw [lessN_zero prev row colors k (by omega), rAt_in row (by omega), List.take_succ_eq_append_getElem (by omega)]
    show _ ++ [row[k] - 0] = _
    rw [UInt8.sub_zero]
theorem lessR_zero (prev row : List UInt8) (colors : Nat) : lessR 0 prev row colors = row := by
  unfold lessR
  rw [lessN_zero _ _ _ _ (Nat.le_refl _), List.take_length]
theorem bestN_one (prev row : List UInt8) (colors : Nat) : bestN prev row colors 1 = (0, weightR row) := by
  unfold bestN
  rw [lessR_zero]
  rw [if_neg (by unfold bestN; exact Nat.lt_irrefl _)]
  rfl
theorem bestN_lt (prev row : List UInt8) (colors : Nat) : ∀ k, 1 ≤ k → (bestN prev row colors k).1 < k
  | 0, h => by omega
  | 1, _ => by rw [bestN_one]; exact Nat.one_pos
  | k + 2, _ => by
    have := bestN_lt prev row colors (k + 1) (by omega)
    rw [bestN]
    split
    · show k + 1 < k + 2; omega
    · omega
theorem bestN_sum (prev row : List UInt8) (colors : Nat) : ∀ k, 1 ≤ k → (bestN prev row colors k).2 = weightR (lessR (bestN prev row colors k).1 prev row colors)
  | 0, h => by omega
  | 1, _ => by rw [bestN_one, lessR_zero]
  | k + 2, _ => by
    have := bestN_sum prev row colors (k + 1) (by omega)
    rw [bestN]
    split
    · rfl
    · exact this
theorem bestN_min (prev row : List UInt8) (colors : Nat) : ∀ k j, j < k → (bestN prev row colors k).2 ≤ weightR (lessR j prev row colors)
  | 0, j, h => by omega
  | k + 1, j, h => by
    have := bestN_min prev row colors k j
    rw [bestN]
    split
    · rename_i hlt
      by_cases e : j = k
      · subst e; exact Nat.le_refl _
      · have := this (by omega); show weightR (lessR k prev row colors) ≤ _; omega
    · rename_i hlt
      by_cases e : j = k
      · subst e; omega
      · exact this (by omega)
theorem bestR_lt (prev row : List UInt8) (colors : Nat) : bestR prev row colors < 5 := bestN_lt prev row colors 5 (by decide)
theorem bestR_min (prev row : List UInt8) (colors j : Nat) (h : j < 5) : weightR (lessR (bestR prev row colors) prev row colors) ≤ weightR (lessR j prev row colors) := by
  have h1 := bestN_sum prev row colors 5 (by decide)
  have h2 := bestN_min prev row colors 5 j h
  unfold bestR
  omega

/-! ### Restoring takes back filtering. -/
theorem sub_add8 (a b : UInt8) : a - b + b = a := by
  rw [UInt8.sub_add_cancel]
theorem offR_part (tag : Nat) (prev row : List UInt8) (colors k : Nat) (hk : k ≤ row.length) (hc : 1 ≤ colors) : offR tag prev (row.take k) k colors = offR tag prev row k colors := by
  unfold offR
  have : rAt (row.take k) ((k : Int) - colors) = rAt row ((k : Int) - colors) := by
    have h := rAt_left (row.take k) (row.drop k) (i := (k : Int) - colors) (by rw [List.length_take]; omega)
    rw [List.take_append_drop] at h
    exact h.symm
  rw [this]
theorem backR_app (tag : Nat) (prev : List UInt8) (colors : Nat) : ∀ (a o b : List UInt8), backR tag prev colors o (a ++ b) = backR tag prev colors (backR tag prev colors o a) b
  | [], _, _ => rfl
  | d :: t, o, b => by
    rw [List.cons_append, backR, backR, backR_app]
theorem back_lessN (tag : Nat) (prev row : List UInt8) (colors : Nat) (hc : 1 ≤ colors) : ∀ k, k ≤ row.length → backR tag prev colors [] (lessN tag prev row colors k) = row.take k
  | 0, _ => rfl
  | k + 1, h => by
    have ih := back_lessN tag prev row colors hc k (by omega)
    have hl : (row.take k).length = k := by rw [List.length_take]; omega
    unfold lessN
    rw [backR_app, ih, backR, backR, hl, offR_part tag prev row colors k (by omega) hc, sub_add8, rAt_in row (by omega), ← List.take_succ_eq_append_getElem (by omega)]
theorem back_less (tag : Nat) (prev row : List UInt8) (colors : Nat) (hc : 1 ≤ colors) : backR tag prev colors [] (lessR tag prev row colors) = row := by
  unfold lessR
  rw [back_lessN _ _ _ _ hc _ (Nat.le_refl _), List.take_length]

/-! ### All rows. -/
def tagOf (pr : Nat) (prev row : List UInt8) (colors : Nat) : Nat := if pr = 2 then 1 else if pr = 15 then bestR prev row colors else pr - 10
theorem tagOf_lt {pr : Nat} (h : pr = 2 ∨ 10 ≤ pr ∧ pr ≤ 15) (prev row : List UInt8) (colors : Nat) : tagOf pr prev row colors < 5 := by
  unfold tagOf
  have := bestR_lt prev row colors
  split
  · omega
  · split <;> omega
/-- Has this predictor tags? -/
def tgs (pr : Nat) : Nat := if pr < 10 then 0 else 1
/-- What one row becomes. -/
def encOne (pr colors : Nat) (prev row : List UInt8) : List UInt8 := (if pr < 10 then [] else [UInt8.ofNat (tagOf pr prev row colors)]) ++ lessR (tagOf pr prev row colors) prev row colors
theorem encOne_len (pr colors : Nat) (prev row : List UInt8) : (encOne pr colors prev row).length = tgs pr + row.length := by
  unfold encOne tgs
  rw [List.length_append, lessR_len]
  split <;> simp
/-- What the first k rows of n bytes become. -/
def encR (pr colors n : Nat) (l : List UInt8) : Nat → List UInt8
  | 0 => []
  | k + 1 => encR pr colors n l k ++ encOne pr colors (if k = 0 then [] else (l.drop (n * (k - 1))).take n) ((l.drop (n * k)).take n)
/-- The row before row k. -/
def prevR (n : Nat) (l : List UInt8) (k : Nat) : List UInt8 := if k = 0 then [] else (l.drop (n * (k - 1))).take n
def rowR (n : Nat) (l : List UInt8) (k : Nat) : List UInt8 := (l.drop (n * k)).take n
theorem prevR_succ (n : Nat) (l : List UInt8) (k : Nat) : prevR n l (k + 1) = rowR n l k := by unfold prevR rowR; simp
theorem encR_succ (pr colors n : Nat) (l : List UInt8) (k : Nat) : encR pr colors n l (k + 1) = encR pr colors n l k ++ encOne pr colors (prevR n l k) (rowR n l k) := rfl
theorem rowR_len {n : Nat} {l : List UInt8} {k m : Nat} (h : l.length = n * m) (hk : k < m) : (rowR n l k).length = n := by
  unfold rowR
  rw [List.length_take, List.length_drop, h]
  have : n * (k + 1) ≤ n * m := Nat.mul_le_mul_left n hk
  rw [Nat.mul_add] at this
  omega
theorem rowR_take (n : Nat) (l : List UInt8) (k : Nat) : l.take (n * k) ++ rowR n l k = l.take (n * (k + 1)) := by
  unfold rowR
  rw [Nat.mul_add, Nat.mul_one, List.take_add]
theorem encR_len {pr colors n : Nat} {l : List UInt8} {m : Nat} (h : l.length = n * m) : ∀ k, k ≤ m → (encR pr colors n l k).length = (tgs pr + n) * k
  | 0, _ => rfl
  | k + 1, hk => by rw [encR_succ, List.length_append, encR_len h k (by omega), encOne_len, rowR_len h (by omega), Nat.mul_add, Nat.mul_one]

/-- The tag of a row that came with tags or without. -/
def tagIn (pr : Nat) (row : List UInt8) : Nat := if pr < 10 then 1 else (rAt row 0).toNat
/-- What the first k rows of n bytes (with their tags) are restored to: the last of them, and all; none where a tag is not known. -/
def decR (pr colors n : Nat) (l : List UInt8) : Nat → Option (List UInt8 × List UInt8)
  | 0 => some ([], [])
  | k + 1 => match decR pr colors n l k with
    | none => none
    | some (prev, all) => if 4 < tagIn pr (rowR n l k) then none else
      some (backR (tagIn pr (rowR n l k)) prev colors [] ((rowR n l k).drop (tgs pr)), all ++ backR (tagIn pr (rowR n l k)) prev colors [] ((rowR n l k).drop (tgs pr)))
theorem decR_none {pr colors n : Nat} {l : List UInt8} {k : Nat} (h : decR pr colors n l k = none) : ∀ j, k ≤ j → decR pr colors n l j = none := by
  intro j hj
  induction j with
  | zero => rw [show k = 0 by omega] at h; exact h
  | succ j ih =>
    by_cases e : k = j + 1
    · rw [← e]; exact h
    · rw [decR, ih (by omega)]

/-! ### Decoding takes back encoding. -/
theorem rowR_pre {n : Nat} {a b : List UInt8} {k : Nat} (ha : a.length = n * k) (hb : b.length = n) : rowR n (a ++ b) k = b := by
  unfold rowR
  rw [← ha, List.drop_left, List.take_of_length_le (by omega)]
theorem rowR_left {n : Nat} {a b : List UInt8} {k m : Nat} (ha : a.length = n * m) (hk : k < m) : rowR n (a ++ b) k = rowR n a k := by
  unfold rowR
  have h : n * (k + 1) ≤ n * m := Nat.mul_le_mul_left n hk
  rw [Nat.mul_add, Nat.mul_one] at h
  rw [List.drop_append_of_le_length (by omega), List.take_append_of_le_length (by rw [List.length_drop]; omega)]
theorem decR_left {pr colors n : Nat} {a b : List UInt8} {m : Nat} (ha : a.length = n * m) : ∀ k, k ≤ m → decR pr colors n (a ++ b) k = decR pr colors n a k
  | 0, _ => rfl
  | k + 1, hk => by rw [decR, decR, decR_left ha k (by omega), rowR_left ha (by omega)]
theorem tagIn_one {pr : Nat} (h : pr = 2 ∨ 10 ≤ pr ∧ pr ≤ 15) (colors : Nat) (prev row : List UInt8) : tagIn pr (encOne pr colors prev row) = tagOf pr prev row colors ∧ (encOne pr colors prev row).drop (tgs pr) = lessR (tagOf pr prev row colors) prev row colors := by
  have hlt := tagOf_lt h prev row colors
  unfold tagIn encOne tgs
  by_cases hp : pr < 10
  · rw [if_pos hp, if_pos hp, if_pos hp, List.nil_append]
    refine ⟨?_, rfl⟩
    unfold tagOf
    rw [if_pos (by omega)]
  · rw [if_neg hp, if_neg hp, if_neg hp]
    refine ⟨?_, rfl⟩
    show (UInt8.ofNat (tagOf pr prev row colors)).toNat = _
    rw [UInt8.toNat_ofNat']
    omega
theorem dec_enc {pr colors n : Nat} {l : List UInt8} {m : Nat} (hp : pr = 2 ∨ 10 ≤ pr ∧ pr ≤ 15) (hc : 1 ≤ colors) (h : l.length = n * m) : ∀ k, k ≤ m →
    decR pr colors (tgs pr + n) (encR pr colors n l k) k = some (prevR n l k, l.take (n * k))
  | 0, _ => by simp [decR, prevR]
  | k + 1, hk => by
    have ih := dec_enc hp hc h k (by omega)
    have hl := encR_len (pr := pr) (colors := colors) h k (by omega)
    have h1 : (encOne pr colors (prevR n l k) (rowR n l k)).length = tgs pr + n := by rw [encOne_len, rowR_len h (by omega)]
    obtain ⟨t1, t2⟩ := tagIn_one hp colors (prevR n l k) (rowR n l k)
    rw [encR_succ, decR, decR_left hl k (Nat.le_refl _), ih, rowR_pre hl h1]
    simp only [t1, t2]
    rw [if_neg (by have := tagOf_lt hp (prevR n l k) (rowR n l k) colors; omega), back_less _ _ _ _ hc, prevR_succ, rowR_take]
end Go.Proofs.Yticliemmplefoaa.Prd
