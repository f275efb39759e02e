/-
  Plain mathematics of the layer code, the sixth part: what is written is read. No program in this text.
-/
import Derived.Test.YtbgechfmbogbpaaCodMe
import Derived.Test.YtbgechfmbogbpaaBitBm
namespace Go.Proofs.Ytbgechfmbogbpaa.Cod
open Bt

/-! ### No code is longer than its length. -/
def fG (l : List Int) (i : Nat) : Nat := fst1 l i + tl l i
theorem fG_dbl (l : List Int) (i : Nat) : fst1 l (i + 1) = 2 * fG l i := by
  rcases Nat.eq_zero_or_pos i with rfl | h
  · rfl
  · exact fst1_step l i h
theorem fG_room (l : List Int) : ∀ n, n ≤ 15 → fG l n * 2 ^ (15 - n) = roomK l (n + 1) := by
  intro n
  induction n with
  | zero => intro _; simp [fG, fst1, tl, roomK]
  | succ n ih =>
    intro h
    have h1 := ih (by omega)
    have e : roomK l (n + 1 + 1) = roomK l (n + 1) + tl l (n + 1) * 2 ^ (15 - (n + 1)) := rfl
    rw [e, ← h1]
    have e2 : fG l (n + 1) = 2 * fG l n + tl l (n + 1) := by show fst1 l (n + 1) + tl l (n + 1) = _; rw [fG_dbl]
    rw [e2, Nat.add_mul, show 15 - n = (15 - (n + 1)) + 1 by omega, Nat.pow_succ, Nat.mul_comm 2 (fG l n), Nat.mul_assoc, Nat.mul_comm 2 (2 ^ (15 - (n + 1)))]
theorem roomK_mono (l : List Int) (a : Nat) : ∀ d, roomK l a ≤ roomK l (a + d) := by
  intro d
  induction d with
  | zero => exact Nat.le_refl _
  | succ d ih =>
    have e : roomK l (a + d + 1) = roomK l (a + d) + tl l (a + d) * 2 ^ (15 - (a + d)) := rfl
    rw [← Nat.add_assoc, e]
    omega
theorem room_used (l : List Int) : room l ≤ used l * 16384 := by
  induction l using snoc_ind with
  | h0 => exact Nat.le_refl _
  | h1 l x ih =>
    rw [room_snoc, used_snoc]
    by_cases h : 0 < x
    · rw [if_pos h, if_pos h]
      have : 2 ^ (15 - x.toNat) ≤ 16384 := Nat.le_trans (Nat.pow_le_pow_right (by decide) (show 15 - x.toNat ≤ 14 by omega)) (by decide)
      omega
    · rw [if_neg h, if_neg h]
      omega
theorem room_valid (l : List Int) (hv : validL l = true) : room l ≤ 32768 := by
  unfold validL at hv
  simp only [Bool.or_eq_true, Bool.and_eq_true, decide_eq_true_eq] at hv
  have h := room_used l
  rcases hv with (h1 | h1) | h1
  · omega
  · omega
  · omega
theorem fG_le (l : List Int) (hr : rangeOk l = true) (hv : validL l = true) (n : Nat) (h : n ≤ 15) : fG l n ≤ 2 ^ n := by
  have h1 := fG_room l n h
  have h2 := roomK_mono l (n + 1) (15 - n)
  rw [show n + 1 + (15 - n) = 16 by omega, ← room_sumK l hr] at h2
  have h3 := room_valid l hv
  have h4 : fG l n * 2 ^ (15 - n) ≤ 2 ^ n * 2 ^ (15 - n) := by
    rw [← Nat.pow_add, show n + (15 - n) = 15 by omega, h1]
    exact Nat.le_trans h2 h3
  exact Nat.le_of_mul_le_mul_right h4 (Nat.two_pow_pos _)
/-- A code's head of k bits is beyond all codes of k bits. -/
theorem head_ge (l : List Int) (k : Nat) : ∀ d, fG l k * 2 ^ (d + 1) ≤ fst1 l (k + d + 1) := by
  intro d
  induction d with
  | zero => rw [Nat.add_zero, fG_dbl]; omega
  | succ d ih =>
    have e : fst1 l (k + (d + 1) + 1) = 2 * fG l (k + d + 1) := by rw [← Nat.add_assoc]; exact fG_dbl l _
    have e2 : fst1 l (k + d + 1) ≤ fG l (k + d + 1) := Nat.le_add_right _ _
    rw [e, Nat.pow_succ, ← Nat.mul_assoc]
    omega

/-! ### A code word is read. -/
theorem wd_head {T : List UInt8} {a c n : Nat} (hc : c < 2 ^ n) (hb : ∀ j, j < n → bitN 1 T (a + j) = bitO 2 c n j) : ∀ k, k ≤ n → wd T a k = c / 2 ^ (n - k) := by
  intro k
  induction k with
  | zero => intro _; rw [Nat.sub_zero, Nat.div_eq_of_lt hc]; rfl
  | succ k ih =>
    intro h
    show 2 * wd T a k + bitN 1 T (a + k) = _
    rw [ih (by omega), hb k (by omega)]
    unfold bitO
    rw [if_pos rfl, show n - k = (n - (k + 1)) + 1 by omega, show n - 1 - k = n - (k + 1) by omega, Nat.pow_succ, ← Nat.div_div_eq_div_mul]
    omega
theorem read_word (L : List Int) (hr : rangeOk L = true) (hv : validL L = true) {i n : Nat} (hi : i < L.length) (h0 : L[i] = (n : Int)) (hn : 0 < n) {T : List UInt8} {tot a : Nat}
    (hb : ∀ j, j < n → bitN 1 T (a + j) = bitO 2 (codeAt L i) n j) (ht : a + n ≤ tot) : rdS L T tot a (longK L 16) 0 = ((i : Int), 0, a + n) := by
  have hx : L[i] ≤ 15 := by
    have := List.all_eq_true.1 hr _ (List.getElem_mem hi)
    simp only [Bool.and_eq_true, decide_eq_true_eq] at this
    exact this.2
  have hn15 : n ≤ 15 := by omega
  have hce : (codeAt L i : Int) = nx L i n := codeAt_nx L hi h0 (by omega)
  have hcode : codeAt L i = fst1 L n + tl (L.take i) n := by unfold nx at hce; omega
  have hrk := tl_take_lt L hi h0 (by omega)
  have hlt : codeAt L i < fG L n := by unfold fG; omega
  have hfle := fG_le L hr hv n hn15
  have hw := wd_head (T := T) (a := a) (show codeAt L i < 2 ^ n by omega) hb
  have hM : n ≤ longK L 16 := by
    have h1 := mxI_ge L _ (List.getElem_mem hi)
    rw [mxI_long L hr, h0] at h1
    omega
  have step : ∀ k, k < n → rdS L T tot a (longK L 16) 0 = rdS L T tot a (longK L 16 - k) k := by
    intro k
    induction k with
    | zero => intro _; rfl
    | succ k ih =>
      intro h
      rw [ih (by omega)]
      obtain ⟨m, hm⟩ : ∃ m, longK L 16 - k = m + 1 := ⟨longK L 16 - k - 1, by omega⟩
      rw [hm, show longK L 16 - (k + 1) = m by omega]
      have hge : ¬ wd T a (k + 1) < fst1 L (k + 1) + tl L (k + 1) := by
        rw [hw (k + 1) (by omega)]
        have h2 := head_ge L (k + 1) (n - (k + 1) - 1)
        rw [show n - (k + 1) - 1 + 1 = n - (k + 1) by omega, show k + 1 + (n - (k + 1) - 1) + 1 = n by omega] at h2
        have h3 : fG L (k + 1) ≤ codeAt L i / 2 ^ (n - (k + 1)) := (Nat.le_div_iff_mul_le (Nat.two_pow_pos _)).2 (by omega)
        unfold fG at h3
        omega
      show (if tot ≤ a + k then _ else if wd T a (k + 1) < fst1 L (k + 1) + tl L (k + 1) then _ else rdS L T tot a m (k + 1)) = _
      rw [if_neg (by omega), if_neg hge]
  rw [step (n - 1) (by omega)]
  obtain ⟨m, hm⟩ : ∃ m, longK L 16 - (n - 1) = m + 1 := ⟨longK L 16 - (n - 1) - 1, by omega⟩
  rw [hm]
  have hn1 : n - 1 + 1 = n := by omega
  show (if tot ≤ a + (n - 1) then _ else if wd T a (n - 1 + 1) < fst1 L (n - 1 + 1) + tl L (n - 1 + 1) then ((signsL L).getD (totK L (n - 1 + 1) + wd T a (n - 1 + 1) - fst1 L (n - 1 + 1)) 0, (0 : Int), a + (n - 1) + 1) else _) = _
  rw [if_neg (by omega), hn1, hw n (Nat.le_refl _), Nat.sub_self, Nat.pow_zero, Nat.div_one, if_pos (by unfold fG at hlt; exact hlt), hcode, show totK L n + (fst1 L n + tl (L.take i) n) - fst1 L n = totK L n + tl (L.take i) n by omega, place_is L hr hi h0 hn rfl, show a + (n - 1) + 1 = a + n by omega]
end Go.Proofs.Ytbgechfmbogbpaa.Cod
