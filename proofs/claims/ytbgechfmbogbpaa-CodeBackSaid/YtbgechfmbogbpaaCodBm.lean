/-
  Plain mathematics of the layer code, the seventh part: symbols written one after another, and what their bytes read.
-/
import Derived.Test.YtbgechfmbogbpaaCodMf
import Derived.Test.YtbgechfmbogbpaaCodX
namespace Go.Proofs.Ytbgechfmbogbpaa.Cod
open Bt

def posS (st : St1) : Nat := pos st.1 st.2.1
def ExtS (T : List UInt8) (st : St1) : Prop := Ext T st.1 st.2.1 st.2.2
theorem good_one {st : St1} (h : good1 st) : 0 < st.2.1 → st.2.2 = 1 := fun hp => by
  have := (h.1.2 hp).2.1
  rcases h.2 with h0 | h0
  · rw [h0] at this; omega
  · exact h0
theorem putB_eq {st : St1} (h : good1 st) {b : Nat} (hb : b < 2) : putB st b = (puts 1 st.1 st.2.1 (bitO 1 b 1) 1, (st.2.1 + 1) % 8, 1) := by
  have hw := wr_ok (wbad_one h.2 hb) st.1 st.2.1
  unfold putB
  rw [hw.2.1, hw.2.2.1, hw.2.2.2]
  rfl
theorem putB_pos {st : St1} (h : good1 st) {b : Nat} (hb : b < 2) : posS (putB st b) = posS st + 1 := by
  rw [putB_eq h hb]
  exact pos_puts h.1 (good_one h) (Or.inl rfl) (fun k => bitO_lt _ _ _ _) 1
theorem putB_ext {T : List UInt8} {st : St1} (h : good1 st) {b : Nat} (hb : b < 2) (he : ExtS T (putB st b)) : ExtS T st ∧ bitN 1 T (posS st) = b := by
  rw [putB_eq h hb] at he
  obtain ⟨h1, h2⟩ := ext_puts h.1 (good_one h) (Or.inl rfl) (fun k => bitO_lt _ _ _ _) 1 he
  refine ⟨h1.ord (fun hp => (good_one h hp).symm), ?_⟩
  have := h2 0 (by decide)
  rw [Nat.add_zero] at this
  show bitN 1 T (pos st.1 st.2.1) = b
  rw [this]
  unfold bitO
  rw [if_neg (by decide)]
  simp
  omega
theorem wrS_pos {c n : Nat} {st : St1} (h : good1 st) : ∀ k, posS (wrS c n st k) = posS st + k
  | 0 => rfl
  | k + 1 => by
    have h1 := wrS_pos (c := c) (n := n) h k
    show posS (putB (wrS c n st k) (bitO 2 c n k)) = _
    rw [putB_pos (wrS_good h k) (bitO_lt _ _ _ _), h1]
    omega
theorem wrS_ext {T : List UInt8} {c n : Nat} {st : St1} (h : good1 st) : ∀ k, ExtS T (wrS c n st k) → ExtS T st ∧ ∀ j, j < k → bitN 1 T (posS st + j) = bitO 2 c n j
  | 0, he => ⟨he, fun j hj => absurd hj (Nat.not_lt_zero _)⟩
  | k + 1, he => by
    obtain ⟨h1, h2⟩ := putB_ext (wrS_good h k) (bitO_lt _ _ _ _) he
    obtain ⟨h3, h4⟩ := wrS_ext h k h1
    refine ⟨h3, fun j hj => ?_⟩
    by_cases hjk : j = k
    · subst hjk
      rw [wrS_pos h] at h2
      exact h2
    · exact h4 j (by omega)

/-! ### Symbols. -/
def bitsA (L : List Int) (i : Nat) : Nat := (L.getD i 0).toNat
def stW (L : List Int) (xs : List Nat) : St1 := xs.foldl (fun st i => wrS (codeAt L i) (bitsA L i) st (bitsA L i)) ([], 0, 0)
def bitsW (L : List Int) (xs : List Nat) : Nat := xs.foldl (fun a i => a + bitsA L i) 0
theorem stW_snoc (L : List Int) (xs : List Nat) (i : Nat) : stW L (xs ++ [i]) = wrS (codeAt L i) (bitsA L i) (stW L xs) (bitsA L i) := by unfold stW; rw [List.foldl_append]; rfl
theorem bitsW_snoc (L : List Int) (xs : List Nat) (i : Nat) : bitsW L (xs ++ [i]) = bitsW L xs + bitsA L i := by unfold bitsW; rw [List.foldl_append]; rfl
theorem good1_zero : good1 ([], 0, 0) := ⟨fit_zero _ _, Or.inl rfl⟩
theorem nsnoc_ind {P : List Nat → Prop} (h0 : P []) (h1 : ∀ l x, P l → P (l ++ [x])) (l : List Nat) : P l := by
  have : ∀ m : List Nat, P m.reverse := fun m => by
    induction m with
    | nil => exact h0
    | cons x m ih => rw [List.reverse_cons]; exact h1 _ _ ih
  have := this l.reverse
  rwa [List.reverse_reverse] at this
theorem stW_good (L : List Int) (xs : List Nat) : good1 (stW L xs) := by
  induction xs using nsnoc_ind with
  | h0 => exact good1_zero
  | h1 l x ih => rw [stW_snoc]; exact wrS_good ih _
theorem stW_pos (L : List Int) (xs : List Nat) : posS (stW L xs) = bitsW L xs := by
  induction xs using nsnoc_ind with
  | h0 => rfl
  | h1 l x ih => rw [stW_snoc, bitsW_snoc, wrS_pos (stW_good L l), ih]
theorem ntake_snoc (l : List Nat) {k : Nat} (h : k < l.length) : l.take (k + 1) = l.take k ++ [l[k]] := List.take_succ_eq_append_getElem h
theorem stW_ext (L : List Int) (xs : List Nat) {T : List UInt8} (h : ExtS T (stW L xs)) : ∀ d k, k + d = xs.length → ExtS T (stW L (xs.take k)) := by
  intro d
  induction d with
  | zero => intro k hk; rw [show k = xs.length by omega, List.take_length]; exact h
  | succ d ih =>
    intro k hk
    have h1 := ih (k + 1) (by omega)
    rw [ntake_snoc xs (show k < xs.length by omega), stW_snoc] at h1
    exact (wrS_ext (stW_good L _) _ h1).1
theorem bitsW_mono (L : List Int) (xs : List Nat) (k : Nat) : ∀ d, k + d ≤ xs.length → bitsW L (xs.take k) ≤ bitsW L (xs.take (k + d)) := by
  intro d
  induction d with
  | zero => intro _; exact Nat.le_refl _
  | succ d ih =>
    intro h
    have h1 := ih (by omega)
    rw [← Nat.add_assoc, ntake_snoc xs (show k + d < xs.length by omega), bitsW_snoc]
    omega
theorem bytes_len (L : List Int) (xs : List Nat) : (stW L xs).1.length = (bitsW L xs + 7) / 8 := by
  have h1 := stW_pos L xs
  have h2 := (stW_good L xs).1
  unfold posS pos at h1
  by_cases hp : (stW L xs).2.1 = 0
  · rw [if_pos hp] at h1; omega
  · rw [if_neg hp] at h1
    have := List.length_pos_iff.2 (h2.2 (by omega)).1
    have := h2.1
    omega
/-- The k-th symbol is read back. -/
theorem read_at (L : List Int) (hr : rangeOk L = true) (hv : validL L = true) (xs : List Nat) {k : Nat} (hk : k < xs.length) (hi : xs[k] < L.length) (h0 : 0 < L[xs[k]]) :
    rdS L (stW L xs).1 (8 * (stW L xs).1.length) (bitsW L (xs.take k)) (longK L 16) 0 = ((xs[k] : Int), 0, bitsW L (xs.take (k + 1))) := by
  have hT : ExtS (stW L xs).1 (stW L xs) := Ext.self _ _ _
  have h1 := stW_ext L xs hT (xs.length - (k + 1)) (k + 1) (by omega)
  rw [ntake_snoc xs hk, stW_snoc] at h1
  obtain ⟨_, hb⟩ := wrS_ext (stW_good L _) _ h1
  rw [stW_pos] at hb
  have hl : bitsA L xs[k] = (L[xs[k]]).toNat := by unfold bitsA; rw [gd L hi]
  have h2 := bitsW_mono L xs (k + 1) (xs.length - (k + 1)) (by omega)
  rw [show k + 1 + (xs.length - (k + 1)) = xs.length by omega, List.take_length] at h2
  have h3 := bytes_len L xs
  have h4 : bitsW L (xs.take (k + 1)) = bitsW L (xs.take k) + bitsA L xs[k] := by rw [ntake_snoc xs hk, bitsW_snoc]
  rw [h4]
  rw [h4] at h2
  exact read_word L hr hv hi (n := bitsA L xs[k]) (by omega) (by omega) hb (by omega)

/-! ### Those of a list that have a code. -/
def okS (L : List Int) (x : Int) : Bool := decide (0 ≤ x) && decide (x < (L.length : Int)) && decide (L.getD x.toNat 0 ≠ 0)
def pk (L signs : List Int) (k : Nat) : List Nat := ((signs.take k).filter (okS L)).map Int.toNat
theorem pk_zero (L signs : List Int) : pk L signs 0 = [] := by simp [pk]
theorem pk_hit (L signs : List Int) {k : Nat} (h : k < signs.length) (h1 : okS L signs[k] = true) : pk L signs (k + 1) = pk L signs k ++ [signs[k].toNat] := by
  unfold pk
  rw [take_snoc signs h, List.filter_append, List.map_append]
  simp [h1]
theorem pk_miss (L signs : List Int) {k : Nat} (h : k < signs.length) (h1 : okS L signs[k] = false) : pk L signs (k + 1) = pk L signs k := by
  unfold pk
  rw [take_snoc signs h, List.filter_append, List.map_append]
  simp [h1]
theorem pk_len (L signs : List Int) (k : Nat) : (pk L signs k).length ≤ signs.length := by
  unfold pk
  rw [List.length_map]
  refine Nat.le_trans (List.length_filter_le _ _) ?_
  rw [List.length_take]
  omega
theorem pk_ok (L signs : List Int) (hr : rangeOk L = true) (k : Nat) (x : Nat) (hx : x ∈ pk L signs k) : ∃ h : x < L.length, 0 < L[x] := by
  unfold pk at hx
  obtain ⟨y, hy, rfl⟩ := List.mem_map.1 hx
  have h1 := (List.mem_filter.1 hy).2
  unfold okS at h1
  simp only [Bool.and_eq_true, decide_eq_true_eq] at h1
  have hlt : y.toNat < L.length := by omega
  refine ⟨hlt, ?_⟩
  have h2 := List.all_eq_true.1 hr _ (List.getElem_mem hlt)
  simp only [Bool.and_eq_true, decide_eq_true_eq] at h2
  have h3 := h1.2
  rw [gd L hlt] at h3
  omega
theorem bitsA_le (L : List Int) (hr : rangeOk L = true) (i : Nat) : bitsA L i ≤ 15 := by
  unfold bitsA
  by_cases h : i < L.length
  · rw [gd L h]
    have h2 := List.all_eq_true.1 hr _ (List.getElem_mem h)
    simp only [Bool.and_eq_true, decide_eq_true_eq] at h2
    omega
  · simp [List.getD, h]
theorem bitsW_le (L : List Int) (hr : rangeOk L = true) (xs : List Nat) : bitsW L xs ≤ 15 * xs.length := by
  induction xs using nsnoc_ind with
  | h0 => exact Nat.le_refl _
  | h1 l x ih =>
    have := bitsA_le L hr x
    rw [bitsW_snoc, List.length_append]
    simp
    omega
end Go.Proofs.Ytbgechfmbogbpaa.Cod
