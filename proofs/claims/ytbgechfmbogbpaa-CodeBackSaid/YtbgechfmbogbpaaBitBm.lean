/-
  Plain mathematics of the layer bit: what is written is read: the bytes that a writer ends with hold every bit that it wrote, at its place.
-/
import Derived.Test.YtbgechfmbogbpaaBitWm
namespace Go.Proofs.Ytbgechfmbogbpaa.Bt

/-- The place of the next bit. -/
def pos (l : List UInt8) (p : Nat) : Nat := if p = 0 then 8 * l.length else 8 * (l.length - 1) + p

/-- T goes on from l, whose last byte has p bits written in the order o. -/
structure Ext (T l : List UInt8) (p : Nat) (o : Int) : Prop where
  len : l.length ≤ T.length
  full : ∀ j, (if p = 0 then j < l.length else j + 1 < l.length) → byt T j = byt l j
  part : 0 < p → ∀ q, q < p → byt T (l.length - 1) / 2 ^ plc o q % 2 = lastN l / 2 ^ plc o q % 2

theorem Ext.self (l : List UInt8) (p : Nat) (o : Int) : Ext l l p o := ⟨Nat.le_refl _, fun _ _ => rfl, fun _ _ _ => rfl⟩
theorem Ext.ord {T l : List UInt8} {p : Nat} {o o' : Int} (h : Ext T l p o) (ho : 0 < p → o = o') : Ext T l p o' := ⟨h.len, h.full, fun hp q hq => by rw [← ho hp]; exact h.part hp q hq⟩
theorem Ext.align {T l : List UInt8} {p : Nat} {o o' : Int} (h : Ext T l 0 o') (hl : 0 < p → l ≠ []) : Ext T l p o := by
  have hf : ∀ j, j < l.length → byt T j = byt l j := fun j hj => h.full j (by rw [if_pos rfl]; exact hj)
  refine ⟨h.len, fun j hj => hf j ?_, fun hp q _ => ?_⟩
  · split at hj <;> omega
  · have := List.length_pos_iff.2 (hl hp)
    rw [hf _ (by omega)]
    rfl

theorem plc_add (o : Int) (i p : Nat) (_h : p < 8) : plc o (8 * i + p) = plc o p := by unfold plc; split <;> omega
theorem bitN_at (o : Int) (T : List UInt8) (i p : Nat) (h : p < 8) : bitN o T (8 * i + p) = byt T i / 2 ^ plc o p % 2 := by
  unfold bitN
  rw [plc_add o i p h, show (8 * i + p) / 8 = i by omega]
theorem pos_idx {l : List UInt8} {p : Nat} (_hl : 0 < p → l ≠ []) : pos l p = 8 * ((grow0 l p).length - 1) + p := by
  unfold pos grow0
  by_cases hp : p = 0
  · rw [if_pos hp, if_pos hp, List.length_append]; simp; omega
  · rw [if_neg hp, if_neg hp]
theorem pos_put1 {o : Int} {l : List UInt8} {p b : Nat} (h8 : p < 8) (hl : 0 < p → l ≠ []) : pos (put1 o l p b) ((p + 1) % 8) = pos l p + 1 := by
  have h1 := grow0_len l p hl
  rw [pos_idx hl]
  unfold pos
  rw [put1_len]
  split <;> omega

theorem ext_put1 {T l : List UInt8} {p b : Nat} {q o : Int} (hf : Fit q l p) (hq : 0 < p → q = o) (ho : o = 1 ∨ o = 2) (hb : b < 2) (h : Ext T (put1 o l p b) ((p + 1) % 8) o) :
    Ext T l p o ∧ bitN o T (pos l p) = b := by
  have h8 := hf.1
  have hG := grow0_len l p hf.ne_
  have hs := step_all ho h8 hb (lastN_lt (grow0 l p)) (hf.zeros hq)
  have hlast : byt (put1 o l p b) ((grow0 l p).length - 1) = lastN (grow0 l p) + b * 2 ^ plc o p := by
    have := put1_last hf hq ho hb
    unfold lastN at this
    rw [put1_len] at this
    exact this
  have hother : ∀ j, j ≠ (grow0 l p).length - 1 → byt (put1 o l p b) j = byt (grow0 l p) j := fun j hj => byt_set_other _ _ _ (fun e => hj e.symm) _
  have key : ∀ r, r ≤ p → byt T ((grow0 l p).length - 1) / 2 ^ plc o r % 2 = (lastN (grow0 l p) + b * 2 ^ plc o p) / 2 ^ plc o r % 2 := by
    intro r hr
    by_cases h7 : p = 7
    · have := h.full ((grow0 l p).length - 1) (by rw [h7, if_pos (by decide), put1_len, ← h7]; omega)
      rw [this, hlast]
    · have := h.part (by omega) r (by omega)
      rw [put1_len] at this
      rw [this]
      unfold lastN at hlast ⊢
      rw [put1_len, hlast]
  have full' : ∀ j, j + 1 < (grow0 l p).length → byt T j = byt (grow0 l p) j := by
    intro j hj
    rw [h.full j (by rw [put1_len]; split <;> omega), hother j (by omega)]
  have hgl : ∀ j, j < l.length → byt (grow0 l p) j = byt l j := by
    intro j hj
    unfold grow0 byt
    split
    · rw [List.getD_eq_getElem?_getD, List.getD_eq_getElem?_getD, List.getElem?_append_left hj]
    · rfl
  have hlen : l.length ≤ (grow0 l p).length := by unfold grow0; split <;> simp
  have hTl : (grow0 l p).length ≤ T.length := by have := h.len; rw [put1_len] at this; exact this
  refine ⟨⟨by omega, fun j hj => ?_, fun hp r hr => ?_⟩, ?_⟩
  · by_cases hp : p = 0
    · rw [if_pos hp] at hj
      rw [full' j (by unfold grow0; rw [if_pos hp, List.length_append]; simp; omega), hgl j hj]
    · rw [if_neg hp] at hj
      rw [full' j (by unfold grow0; rw [if_neg hp]; exact hj), hgl j (by omega)]
  · have hg : grow0 l p = l := by unfold grow0; rw [if_neg (by omega)]
    have hk := key r (by omega)
    rw [hg] at hk hs
    rw [hk, hs.2.2.2.2 r hr]
  · rw [pos_idx hf.ne_, bitN_at o T _ p h8, key p (Nat.le_refl _), hs.2.2.2.1]

theorem pos_puts {q o : Int} {l : List UInt8} {p : Nat} {f : Nat → Nat} (hf : Fit q l p) (hq : 0 < p → q = o) (ho : o = 1 ∨ o = 2) (hb : ∀ k, f k < 2) : ∀ k, pos (puts o l p f k) ((p + k) % 8) = pos l p + k
  | 0 => by
    have := hf.1
    show pos l ((p + 0) % 8) = _
    rw [show (p + 0) % 8 = p by omega]; rfl
  | k + 1 => by
    have ih := pos_puts hf hq ho hb k
    have hk := fit_puts0 hf hq ho hb k
    show pos (put1 o (puts o l p f k) ((p + k) % 8) (f k)) _ = _
    rw [show (p + (k + 1)) % 8 = ((p + k) % 8 + 1) % 8 by omega, pos_put1 hk.1 hk.ne_, ih]
    omega
theorem ext_puts {T l : List UInt8} {p : Nat} {q o : Int} {f : Nat → Nat} (hf : Fit q l p) (hq : 0 < p → q = o) (ho : o = 1 ∨ o = 2) (hb : ∀ k, f k < 2) : ∀ k, Ext T (puts o l p f k) ((p + k) % 8) o →
    Ext T l p o ∧ ∀ j, j < k → bitN o T (pos l p + j) = f j
  | 0, h => by
    have := hf.1
    rw [show (p + 0) % 8 = p by omega] at h
    exact ⟨h, fun j hj => absurd hj (Nat.not_lt_zero _)⟩
  | k + 1, h => by
    have hk := fit_puts0 hf hq ho hb k
    rw [show (p + (k + 1)) % 8 = ((p + k) % 8 + 1) % 8 by omega] at h
    have hq' : 0 < (p + k) % 8 → (if k = 0 then q else o) = o := fun hp => by
      split
      · rename_i h0; subst h0; exact hq (by omega)
      · rfl
    have h1 := ext_put1 hk hq' ho (hb k) h
    have h2 := ext_puts hf hq ho hb k h1.1
    refine ⟨h2.1, fun j hj => ?_⟩
    by_cases hjk : j = k
    · subst hjk
      rw [← pos_puts hf hq ho hb j]
      exact h1.2
    · exact h2.2 j (by omega)

theorem ext_raw {T l s : List UInt8} {o o' : Int} (h : Ext T (l ++ s) 0 o') : Ext T l 0 o ∧ ∀ j, j < s.length → byt T (l.length + j) = byt s j := by
  have hf : ∀ j, j < l.length + s.length → byt T j = byt (l ++ s) j := fun j hj => h.full j (by rw [if_pos rfl, List.length_append]; exact hj)
  refine ⟨⟨by have := h.len; rw [List.length_append] at this; omega, fun j hj => ?_, fun hp => absurd hp (by decide)⟩, fun j hj => ?_⟩
  · rw [if_pos rfl] at hj
    rw [hf j (by omega)]
    unfold byt
    rw [List.getD_eq_getElem?_getD, List.getD_eq_getElem?_getD, List.getElem?_append_left hj]
  · rw [hf _ (by omega)]
    unfold byt
    rw [List.getD_eq_getElem?_getD, List.getD_eq_getElem?_getD, List.getElem?_append_right (by omega), show l.length + j - l.length = j by omega]

theorem valL_bits {T : List UInt8} {a n v : Nat} (h : ∀ j, j < n → bitN 1 T (a + j) = v / 2 ^ j % 2) : ∀ k, k ≤ n → valL T a k = v % 2 ^ k
  | 0, _ => by simp [valL, Nat.mod_one]
  | k + 1, hk => by
    show valL T a k + bitN 1 T (a + k) * 2 ^ k = _
    rw [valL_bits h k (by omega), h k (by omega), Nat.pow_succ, Nat.mod_mul, Nat.mul_comm (2 ^ k)]
theorem valH_bits {T : List UInt8} {a n v : Nat} (hv : v < 2 ^ n) (h : ∀ j, j < n → bitN 2 T (a + j) = v / 2 ^ (n - 1 - j) % 2) : ∀ k, k ≤ n → valH T a k = v / 2 ^ (n - k)
  | 0, _ => by
    rw [Nat.sub_zero, Nat.div_eq_of_lt hv]; rfl
  | k + 1, hk => by
    show 2 * valH T a k + bitN 2 T (a + k) = _
    rw [valH_bits hv h k (by omega), h k (by omega), show n - 1 - k = n - (k + 1) by omega, show n - k = (n - (k + 1)) + 1 by omega, Nat.pow_succ, ← Nat.div_div_eq_div_mul]
    omega
theorem valO_bits {T : List UInt8} {a n v : Nat} {o : Int} (ho : o = 1 ∨ o = 2) (hv : v < 2 ^ n) (h : ∀ j, j < n → bitN o T (a + j) = bitO o v n j) : valO o T a n = v := by
  unfold valO
  rcases ho with rfl | rfl
  · rw [if_neg (by decide), valL_bits (v := v) (fun j hj => (h j hj).trans (by unfold bitO; rw [if_neg (by decide)])) n (Nat.le_refl _), Nat.mod_eq_of_lt hv]
  · rw [if_pos rfl, valH_bits hv (fun j hj => (h j hj).trans (by unfold bitO; rw [if_pos rfl])) n (Nat.le_refl _), Nat.sub_self, Nat.pow_zero, Nat.div_one]
end Go.Proofs.Ytbgechfmbogbpaa.Bt
