/-
  Plain mathematics of the layer code, the third part: the codes and the order of the symbols as loops make them.
-/
import Derived.Test.YtbgechfmbogbpaaCodMb
namespace Go.Proofs.Ytbgechfmbogbpaa.Cod

theorem tl_snoc (l : List Int) (x : Int) (n : Nat) : tl (l ++ [x]) n = tl l n + if n ≠ 0 ∧ x = (n : Int) then 1 else 0 := by
  unfold tl
  by_cases h0 : n = 0
  · subst h0; simp
  · rw [if_neg h0, if_neg h0, cnt_snoc]
    by_cases h : x = (n : Int) <;> simp [h, h0]
theorem tl_nil (n : Nat) : tl [] n = 0 := by
  unfold tl
  split
  · rfl
  · exact cnt_nil _
theorem take_snoc (l : List Int) {k : Nat} (h : k < l.length) : l.take (k + 1) = l.take k ++ [l[k]] := List.take_succ_eq_append_getElem h
/-- The next code of each length behind k symbols. -/
def nx (l : List Int) (k n : Nat) : Int := (fst1 l n : Int) + (tl (l.take k) n : Int)
theorem nx_zero (l : List Int) (n : Nat) : nx l 0 n = (fst1 l n : Int) := by
  unfold nx
  rw [List.take_zero, tl_nil]
  simp
theorem nx_skip (l : List Int) {k : Nat} (h : k < l.length) (h0 : l[k] = 0) (n : Nat) : nx l (k + 1) n = nx l k n := by
  unfold nx
  rw [take_snoc l h, tl_snoc, h0, if_neg (by omega)]
  simp
theorem nx_step (l : List Int) {k x : Nat} (h : k < l.length) (h0 : l[k] = (x : Int)) (hx : x ≠ 0) (n : Nat) : (if n = x then nx l k x + 1 else nx l k n) = nx l (k + 1) n := by
  unfold nx
  rw [take_snoc l h, tl_snoc, h0]
  by_cases e : n = x
  · subst e
    rw [if_pos rfl, if_pos ⟨hx, rfl⟩]
    push_cast
    omega
  · rw [if_neg e, if_neg (by omega)]
    simp
theorem gd (l : List Int) {k : Nat} (h : k < l.length) : l.getD k 0 = l[k] := by simp [List.getD, h]
theorem codeAt_zero (l : List Int) {k : Nat} (h : k < l.length) (h0 : l[k] = 0) : codeAt l k = 0 := by
  unfold codeAt
  rw [gd _ h, h0]
  simp
theorem codeAt_nx (l : List Int) {k x : Nat} (h : k < l.length) (h0 : l[k] = (x : Int)) (hx : x ≠ 0) : (codeAt l k : Int) = nx l k x := by
  unfold codeAt nx tl
  rw [gd _ h, h0, if_pos (by omega), if_neg hx]
  simp
/-- The codes behind k symbols. -/
def codesK (l : List Int) (k : Nat) : List Int := (List.range l.length).map fun i => if i < k then (codeAt l i : Int) else 0
theorem codesK_len (l : List Int) (k : Nat) : (codesK l k).length = l.length := by simp [codesK]
theorem codesK_get (l : List Int) (k i : Nat) (h : i < (codesK l k).length) : (codesK l k)[i] = if i < k then (codeAt l i : Int) else 0 := by simp [codesK]
theorem codesK_zero (l : List Int) : codesK l 0 = List.replicate l.length 0 := by
  apply List.ext_getElem
  · simp [codesK]
  · intro i h1 h2
    rw [codesK_get]
    simp
theorem codesK_set (l : List Int) (k : Nat) : (codesK l k).set k (codeAt l k : Int) = codesK l (k + 1) := by
  apply List.ext_getElem
  · simp [codesK]
  · intro i h1 h2
    rw [codesK_get, List.getElem_set]
    by_cases e : k = i
    · subst e; rw [if_pos rfl, if_pos (by omega)]
    · rw [if_neg e, codesK_get]
      by_cases h : i < k
      · rw [if_pos h, if_pos (by omega)]
      · rw [if_neg h, if_neg (by omega)]
theorem codesK_skip (l : List Int) {k : Nat} (h : k < l.length) (h0 : l[k] = 0) : codesK l (k + 1) = codesK l k := by
  apply List.ext_getElem
  · simp [codesK]
  · intro i h1 h2
    rw [codesK_get, codesK_get]
    by_cases h3 : i < k
    · rw [if_pos h3, if_pos (by omega)]
    · rw [if_neg h3]
      by_cases e : i = k
      · subst e; rw [if_pos (by omega), codeAt_zero l h h0]; rfl
      · rw [if_neg (by omega)]
/-- All codes. -/
def codesL (l : List Int) : List Int := codesK l l.length
theorem nx_le (l : List Int) (h : l.length ≤ 1000000) (k n : Nat) (h1 : 1 ≤ n) (hn : n ≤ 15) : 0 ≤ nx l k n ∧ nx l k n ≤ 40000000000 := by
  unfold nx
  obtain ⟨m, rfl⟩ : ∃ m, n = m + 1 := ⟨n - 1, by omega⟩
  have h2 := fst1_le l h m
  have h3 : 2 ^ (m + 1) ≤ 2 ^ 15 := Nat.pow_le_pow_right (by decide) hn
  have h4 : 2 ^ (m + 1) * 1000000 ≤ 2 ^ 15 * 1000000 := Nat.mul_le_mul_right _ h3
  have h5 := tl_le (l.take k) (m + 1)
  have h6 : (l.take k).length ≤ l.length := by rw [List.length_take]; omega
  omega
/-- Where the symbols of a length begin among those in order, behind k symbols. -/
def nt (l : List Int) (k n : Nat) : Int := (totK l n : Int) + (tl (l.take k) n : Int)
theorem nt_zero (l : List Int) (n : Nat) : nt l 0 n = (totK l n : Int) := by
  unfold nt
  rw [List.take_zero, tl_nil]
  simp
theorem nt_skip (l : List Int) {k : Nat} (h : k < l.length) (h0 : l[k] = 0) (n : Nat) : nt l (k + 1) n = nt l k n := by
  unfold nt
  rw [take_snoc l h, tl_snoc, h0, if_neg (by omega)]
  simp
theorem nt_step (l : List Int) {k x : Nat} (h : k < l.length) (h0 : l[k] = (x : Int)) (hx : x ≠ 0) (n : Nat) : (if n = x then nt l k x + 1 else nt l k n) = nt l (k + 1) n := by
  unfold nt
  rw [take_snoc l h, tl_snoc, h0]
  by_cases e : n = x
  · subst e
    rw [if_pos rfl, if_pos ⟨hx, rfl⟩]
    push_cast
    omega
  · rw [if_neg e, if_neg (by omega)]
    simp
/-- Where a symbol stands among those in order. -/
def posOf (l : List Int) (i : Nat) : Nat := totK l (l.getD i 0).toNat + tl (l.take i) (l.getD i 0).toNat
theorem posOf_nt (l : List Int) {k x : Nat} (h : k < l.length) (h0 : l[k] = (x : Int)) : (posOf l k : Int) = nt l k x := by
  unfold posOf nt
  rw [gd _ h, h0]
  simp
/-- The symbols in order, behind k of them. -/
def signsK (l : List Int) : Nat → List Int
  | 0 => List.replicate (totK l 16) 0
  | k + 1 => if 0 < l.getD k 0 then (signsK l k).set (posOf l k) (k : Int) else signsK l k
theorem signsK_len (l : List Int) : ∀ k, (signsK l k).length = totK l 16
  | 0 => by simp [signsK]
  | k + 1 => by
    simp only [signsK]
    split
    · rw [List.length_set, signsK_len l k]
    · exact signsK_len l k
def signsL (l : List Int) : List Int := signsK l l.length
theorem sumK_more (f : Nat → Nat) (a : Nat) : ∀ d, sumK f a ≤ sumK f (a + d)
  | 0 => Nat.le_refl _
  | d + 1 => by
    have := sumK_more f a d
    show sumK f a ≤ sumK f (a + d) + f (a + d)
    omega
theorem sumK_mono (f : Nat → Nat) {a b : Nat} (h : a ≤ b) : sumK f a ≤ sumK f b := by
  obtain ⟨d, rfl⟩ : ∃ d, b = a + d := ⟨b - a, by omega⟩
  exact sumK_more f a d
theorem totK_mono (l : List Int) {a b : Nat} (h : a ≤ b) : totK l a ≤ totK l b := sumK_mono _ h
/-- Of the symbols of a length, those before a symbol of it are fewer. -/
theorem tl_take_lt (l : List Int) {i x : Nat} (h : i < l.length) (h0 : l[i] = (x : Int)) (hx : x ≠ 0) : tl (l.take i) x < tl l x := by
  have h1 : tl (l.take (i + 1)) x = tl (l.take i) x + 1 := by rw [take_snoc l h, tl_snoc, h0, if_pos ⟨hx, rfl⟩]
  have h2 : tl (l.take (i + 1)) x ≤ tl l x := by
    unfold tl
    rw [if_neg hx, if_neg hx]
    unfold cnt
    exact (List.take_sublist _ _).countP_le
  omega
theorem tl_take_mono (l : List Int) {i j x : Nat} (h : i ≤ j) : tl (l.take i) x ≤ tl (l.take j) x := by
  unfold tl
  split
  · exact Nat.le_refl _
  · unfold cnt
    have : l.take i = (l.take j).take i := by rw [List.take_take, Nat.min_eq_left h]
    rw [this]
    exact (List.take_sublist _ _).countP_le
theorem posOf_lt (l : List Int) {i x : Nat} (h : i < l.length) (h0 : l[i] = (x : Int)) (hx : x ≠ 0) (h15 : x ≤ 15) : posOf l i < totK l (x + 1) ∧ posOf l i < totK l 16 := by
  have h1 := tl_take_lt l h h0 hx
  have h2 : posOf l i = totK l x + tl (l.take i) x := by unfold posOf; rw [gd _ h, h0]; simp
  have h3 := totK_succ l x
  have h4 := totK_mono l (show x + 1 ≤ 16 by omega)
  omega
theorem posOf_inj (l : List Int) {i j x y : Nat} (hi : i < l.length) (hj : j < l.length) (h0 : l[i] = (x : Int)) (h1 : l[j] = (y : Int)) (hx : x ≠ 0) (hy : y ≠ 0) (h : i < j) : posOf l i ≠ posOf l j := by
  have e1 : posOf l i = totK l x + tl (l.take i) x := by unfold posOf; rw [gd _ hi, h0]; simp
  have e2 : posOf l j = totK l y + tl (l.take j) y := by unfold posOf; rw [gd _ hj, h1]; simp
  have b1 := tl_take_lt l hi h0 hx
  have b2 := tl_take_lt l hj h1 hy
  have s1 := totK_succ l x
  have s2 := totK_succ l y
  rcases Nat.lt_trichotomy x y with hlt | heq | hgt
  · have := totK_mono l (show x + 1 ≤ y by omega)
    omega
  · subst heq
    have h3 : tl (l.take (i + 1)) x = tl (l.take i) x + 1 := by rw [take_snoc l hi, tl_snoc, h0, if_pos ⟨hx, rfl⟩]
    have h4 := tl_take_mono l (x := x) (show i + 1 ≤ j by omega)
    omega
  · have := totK_mono l (show y + 1 ≤ x by omega)
    omega
theorem signsK_at (l : List Int) (hr : rangeOk l = true) : ∀ k, k ≤ l.length → ∀ i (_hi : i < k) (h : i < l.length), 0 < l[i] → (signsK l k).getD (posOf l i) 0 = (i : Int)
  | 0, _, _, hi, _, _ => absurd hi (Nat.not_lt_zero _)
  | k + 1, hk, i, hi, h, h0 => by
    have inR : ∀ j (h : j < l.length), 0 ≤ l[j] ∧ l[j] ≤ 15 := fun j h => by
      have := List.all_eq_true.1 hr l[j] (List.getElem_mem h)
      simp only [Bool.and_eq_true, decide_eq_true_eq] at this
      exact this
    obtain ⟨x, hx⟩ : ∃ x : Nat, l[i] = (x : Int) := ⟨l[i].toNat, by omega⟩
    have hx0 : x ≠ 0 := by omega
    have hx15 : x ≤ 15 := by have := inR i h; omega
    have hp := posOf_lt l h hx hx0 hx15
    simp only [signsK]
    by_cases e : i = k
    · subst e
      rw [gd _ h, if_pos h0]
      rw [gd _ (by rw [List.length_set, signsK_len]; exact hp.2), List.getElem_set_self]
    · have ih := signsK_at l hr k (by omega) i (by omega) h h0
      by_cases h1 : 0 < l.getD k 0
      · rw [if_pos h1]
        rw [gd _ (show k < l.length by omega)] at h1
        obtain ⟨y, hy⟩ : ∃ y : Nat, l[k] = (y : Int) := ⟨l[k].toNat, by omega⟩
        have hne := posOf_inj l h (show k < l.length by omega) hx hy hx0 (by omega) (by omega)
        rw [gd _ (by rw [List.length_set, signsK_len]; exact hp.2), List.getElem_set_ne (fun q => hne q.symm)]
        rwa [gd _ (by rw [signsK_len]; exact hp.2)] at ih
      · rw [if_neg h1]
        exact ih
end Go.Proofs.Ytbgechfmbogbpaa.Cod
