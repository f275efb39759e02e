/-
  Plain mathematics of the layer code, the fifth part: what the document's functions keep: the greatest length, the codes length by length, the numbers of each length. No program in this text.
-/
import Derived.Test.YtbgechfmbogbpaaCodMd
namespace Go.Proofs.Ytbgechfmbogbpaa.Cod

/-- The greatest of the lengths, or 0. -/
def mxI (l : List Int) : Int := l.foldl max 0
theorem mxI_nil : mxI [] = 0 := rfl
theorem mxI_snoc (l : List Int) (x : Int) : mxI (l ++ [x]) = max (mxI l) x := by
  unfold mxI
  rw [List.foldl_append]
  rfl
theorem snoc_ind {P : List Int → Prop} (h0 : P []) (h1 : ∀ l x, P l → P (l ++ [x])) (l : List Int) : P l := by
  have : ∀ m : List Int, P m.reverse := fun m => by
    induction m with
    | nil => exact h0
    | cons x m ih => rw [List.reverse_cons]; exact h1 _ _ ih
  have := this l.reverse
  rwa [List.reverse_reverse] at this
theorem mxI_nonneg (l : List Int) : 0 ≤ mxI l := by
  induction l using snoc_ind with
  | h0 => exact Int.le_refl _
  | h1 l x ih => rw [mxI_snoc]; omega
theorem mxI_ge (l : List Int) : ∀ x, x ∈ l → x ≤ mxI l := by
  induction l using snoc_ind with
  | h0 => intro x hx; cases hx
  | h1 l x ih =>
    intro y hy
    rw [mxI_snoc]
    rcases List.mem_append.1 hy with h | h
    · have := ih y h; omega
    · rw [List.mem_singleton.1 h]; omega
theorem mxI_mem (l : List Int) : mxI l = 0 ∨ mxI l ∈ l := by
  induction l using snoc_ind with
  | h0 => exact Or.inl rfl
  | h1 l x ih =>
    rw [mxI_snoc]
    have h0 := mxI_nonneg l
    rcases Int.le_total (mxI l) x with h | h
    · rw [Int.max_eq_right h]
      exact Or.inr (by simp)
    · rw [Int.max_eq_left h]
      rcases ih with ih | ih
      · exact Or.inl ih
      · exact Or.inr (by simp [ih])
theorem range_snoc {l : List Int} {x : Int} (h : rangeOk (l ++ [x]) = true) : rangeOk l = true ∧ 0 ≤ x ∧ x ≤ 15 := by
  unfold rangeOk at *
  rw [List.all_append] at h
  simp only [Bool.and_eq_true, List.all_cons, List.all_nil, decide_eq_true_eq, Bool.and_true] at h
  exact ⟨h.1, h.2⟩
theorem room_zero (l : List Int) : room l = 0 ↔ used l = 0 := by
  induction l using snoc_ind with
  | h0 => simp [room, used]
  | h1 l x ih =>
    rw [room_snoc, used_snoc]
    by_cases h : 0 < x
    · rw [if_pos h, if_pos h]
      have : 0 < 2 ^ (15 - x.toNat) := Nat.two_pow_pos _
      omega
    · rw [if_neg h, if_neg h]
      omega
theorem used_one (l : List Int) (hr : rangeOk l = true) : (used l = 0 → mxI l = 0 ∧ cnt l 1 = 0) ∧ (used l = 1 → (mxI l = 1 ↔ cnt l 1 = 1)) := by
  induction l using snoc_ind with
  | h0 => exact ⟨fun _ => ⟨rfl, rfl⟩, fun h => absurd h (by decide)⟩
  | h1 l x ih =>
    obtain ⟨h1, h2, h3⟩ := range_snoc hr
    obtain ⟨ia, ib⟩ := ih h1
    have h0 := mxI_nonneg l
    rw [used_snoc, mxI_snoc, cnt_snoc]
    by_cases h : 0 < x
    · rw [if_pos h]
      refine ⟨fun h4 => absurd h4 (by omega), fun h4 => ?_⟩
      obtain ⟨e1, e2⟩ := ia (by omega)
      rw [e1, e2]
      by_cases hx : x = 1
      · rw [if_pos hx]; omega
      · rw [if_neg hx]; omega
    · have hx : x = 0 := by omega
      rw [if_neg h, hx, if_neg (show ¬ (0 : Int) = 1 by decide), Int.max_eq_left h0]
      exact ⟨fun h4 => ia (by omega), fun h4 => ib (by omega)⟩
/-- What the document's Check asks at its end. -/
theorem valid_ref (l : List Int) (hr : rangeOk l = true) : validL l = (decide (room l = 32768) || decide (room l = 0) || (decide (used l = 1) && decide (mxI l = 1))) := by
  unfold validL
  obtain ⟨_, h2⟩ := used_one l hr
  rw [decide_eq_decide.2 (room_zero l)]
  by_cases h : used l = 1
  · rw [decide_eq_decide.2 (h2 h)]
  · rw [decide_eq_false h, Bool.false_and, Bool.false_and]
theorem room_le (l : List Int) : room l ≤ l.length * 32768 := by
  induction l using snoc_ind with
  | h0 => exact Nat.le_refl _
  | h1 l x ih =>
    rw [room_snoc, List.length_append]
    have : (if 0 < x then 2 ^ (15 - x.toNat) else 0) ≤ 32768 := by
      split
      · exact Nat.le_trans (Nat.pow_le_pow_right (by decide) (show 15 - x.toNat ≤ 15 by omega)) (by decide)
      · omega
    simp only [List.length_cons, List.length_nil]
    omega
theorem take_all_mx (l : List Int) {k : Nat} (h : k < l.length) : mxI (l.take (k + 1)) = max (mxI (l.take k)) l[k] := by rw [take_snoc l h, mxI_snoc]
theorem mxI_le (l : List Int) (hr : rangeOk l = true) : mxI l ≤ 15 := by
  rcases mxI_mem l with h | h
  · omega
  · have := List.all_eq_true.1 hr _ h
    simp only [Bool.and_eq_true, decide_eq_true_eq] at this
    exact this.2

/-! ### The document's Codes: length by length. -/
/-- The codes told before symbol k of length b. -/
def rcK (l : List Int) (b k : Nat) : List Int := (List.range l.length).map fun i => if 0 < l.getD i 0 ∧ (l.getD i 0 < (b : Int) ∨ (l.getD i 0 = (b : Int) ∧ i < k)) then (codeAt l i : Int) else 0
theorem rcK_len (l : List Int) (b k : Nat) : (rcK l b k).length = l.length := by simp [rcK]
theorem rcK_get (l : List Int) (b k i : Nat) (h : i < (rcK l b k).length) : (rcK l b k)[i] = if 0 < l.getD i 0 ∧ (l.getD i 0 < (b : Int) ∨ (l.getD i 0 = (b : Int) ∧ i < k)) then (codeAt l i : Int) else 0 := by simp [rcK]
theorem rcK_start (l : List Int) : rcK l 1 0 = List.replicate l.length 0 := by
  apply List.ext_getElem
  · rw [rcK_len, List.length_replicate]
  · intro i h1 h2
    rw [rcK_get, if_neg (by push_cast; omega), List.getElem_replicate]
theorem rcK_hit (l : List Int) {b k : Nat} (hb : 0 < b) (h : k < l.length) (h0 : l[k] = (b : Int)) : (rcK l b k).set k (codeAt l k : Int) = rcK l b (k + 1) := by
  apply List.ext_getElem
  · rw [List.length_set, rcK_len, rcK_len]
  · intro i h1 h2
    rw [List.getElem_set]
    by_cases hi : k = i
    · subst hi
      rw [if_pos rfl, rcK_get, gd l h, h0, if_pos (by omega)]
    · rw [if_neg hi, rcK_get, rcK_get]
      by_cases hc : 0 < l.getD i 0 ∧ (l.getD i 0 < (b : Int) ∨ (l.getD i 0 = (b : Int) ∧ i < k))
      · rw [if_pos hc, if_pos (by omega)]
      · rw [if_neg hc, if_neg (by omega)]
theorem rcK_skip (l : List Int) {b k : Nat} (h : k < l.length) (h0 : l[k] ≠ (b : Int)) : rcK l b (k + 1) = rcK l b k := by
  apply List.ext_getElem
  · rw [rcK_len, rcK_len]
  · intro i h1 h2
    rw [rcK_get, rcK_get]
    by_cases hi : k = i
    · subst hi
      rw [gd l h]
      by_cases hc : 0 < l[k] ∧ (l[k] < (b : Int) ∨ (l[k] = (b : Int) ∧ k < k))
      · rw [if_pos hc, if_pos (by omega)]
      · rw [if_neg hc, if_neg (by omega)]
    · by_cases hc : 0 < l.getD i 0 ∧ (l.getD i 0 < (b : Int) ∨ (l.getD i 0 = (b : Int) ∧ i < k))
      · rw [if_pos hc, if_pos (by omega)]
      · rw [if_neg hc, if_neg (by omega)]
theorem rcK_next (l : List Int) (b : Nat) : rcK l b l.length = rcK l (b + 1) 0 := by
  apply List.ext_getElem
  · rw [rcK_len, rcK_len]
  · intro i h1 h2
    rw [rcK_get, rcK_get]
    rw [rcK_len] at h1
    by_cases hc : 0 < l.getD i 0 ∧ (l.getD i 0 < (b : Int) ∨ (l.getD i 0 = (b : Int) ∧ i < l.length))
    · rw [if_pos hc, if_pos (by push_cast; omega)]
    · rw [if_neg hc, if_neg (by push_cast; omega)]
theorem rcK_end (l : List Int) (hr : rangeOk l = true) : rcK l 16 0 = codesL l := by
  unfold codesL
  apply List.ext_getElem
  · rw [rcK_len, codesK_len]
  · intro i h1 h2
    rw [rcK_get, codesK_get]
    rw [rcK_len] at h1
    have h3 := List.all_eq_true.1 hr _ (List.getElem_mem h1)
    simp only [Bool.and_eq_true, decide_eq_true_eq] at h3
    rw [if_pos h1, gd l h1]
    by_cases hc : 0 < l[i]
    · rw [if_pos (by omega)]
    · rw [if_neg (by omega)]
      unfold codeAt
      rw [gd l h1, if_neg hc]
      rfl
theorem nx_hit (l : List Int) {k b : Nat} (h : k < l.length) (h0 : l[k] = (b : Int)) (hb : 0 < b) : nx l (k + 1) b = nx l k b + 1 := by
  have := nx_step l h h0 (by omega) b
  rw [if_pos rfl] at this
  exact this.symm
theorem nx_miss (l : List Int) {k b : Nat} (h : k < l.length) (h1 : 0 ≤ l[k]) (h0 : l[k] ≠ (b : Int)) : nx l (k + 1) b = nx l k b := by
  by_cases hz : l[k] = 0
  · exact nx_skip l h hz b
  · have := nx_step l (k := k) (x := l[k].toNat) h (by omega) (by omega) b
    rw [if_neg (by omega)] at this
    exact this.symm
theorem nx_all (l : List Int) {b : Nat} (hb : 1 ≤ b) : 2 * nx l l.length b = nx l 0 (b + 1) := by
  rw [nx_zero, fst1_step l b hb]
  unfold nx
  rw [List.take_length]
  push_cast
  rfl

/-! ### The document's Sign. -/
theorem mxI_long (l : List Int) (hr : rangeOk l = true) : mxI l = (longK l 16 : Int) := by
  have hle := mxI_le l hr
  have hnn := mxI_nonneg l
  have h1 : ∀ n : Nat, mxI l < (n : Int) → tl l n = 0 := fun n hn => by
    unfold tl
    rw [if_neg (by omega)]
    unfold cnt
    rw [List.countP_eq_zero]
    intro x hx
    have := mxI_ge l x hx
    simp only [decide_eq_true_eq]
    omega
  have h2 : 0 < mxI l → 0 < tl l (mxI l).toNat := fun h => by
    unfold tl
    rw [if_neg (by omega)]
    unfold cnt
    rw [List.countP_pos_iff]
    rcases mxI_mem l with h3 | h3
    · omega
    · exact ⟨_, h3, by simp only [decide_eq_true_eq]; omega⟩
  have h3 : ∀ k : Nat, mxI l < (k : Int) → (longK l k : Int) = mxI l := fun k => by
    induction k with
    | zero => intro h; omega
    | succ k ih =>
      intro h
      unfold longK
      by_cases hk : mxI l < (k : Int)
      · rw [h1 k hk, if_neg (by omega)]
        exact ih hk
      · have hkk : (k : Int) = mxI l := by push_cast at h; omega
        by_cases h0 : 0 < tl l k
        · rw [if_pos h0]; exact hkk
        · rw [if_neg h0]
          have hz : mxI l = 0 := by
            rcases Int.lt_or_le 0 (mxI l) with h4 | h4
            · have := h2 h4
              rw [← hkk, Int.toNat_natCast] at this
              exact absurd this h0
            · omega
          have : k = 0 := by omega
          subst this
          rw [hz]
          rfl
  exact (h3 16 (by omega)).symm
/-- The symbol of length n with the rank r. -/
theorem place_is (l : List Int) (hr : rangeOk l = true) {i n : Nat} (h : i < l.length) (h0 : l[i] = (n : Int)) (hn : 0 < n) {r : Nat} (h1 : tl (l.take i) n = r) : (signsL l).getD (totK l n + r) 0 = (i : Int) := by
  have := signsK_at l hr l.length (Nat.le_refl _) i h h (by omega)
  unfold posOf at this
  rw [gd l h, h0, Int.toNat_natCast, h1] at this
  exact this
theorem tl_hit (l : List Int) {k n : Nat} (h : k < l.length) (h0 : l[k] = (n : Int)) (hn : 0 < n) : tl (l.take (k + 1)) n = tl (l.take k) n + 1 := by
  rw [take_snoc l h, tl_snoc, if_pos ⟨by omega, h0⟩]
theorem tl_miss (l : List Int) {k n : Nat} (h : k < l.length) (h0 : l[k] ≠ (n : Int)) : tl (l.take (k + 1)) n = tl (l.take k) n := by
  rw [take_snoc l h, tl_snoc, if_neg (fun h1 => h0 h1.2)]
  rfl
end Go.Proofs.Ytbgechfmbogbpaa.Cod
