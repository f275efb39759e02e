/-
  Plain mathematics of the layer code, the second part: the sums over the lengths as a loop takes them; the codes and the order of the symbols as loops make them.
-/
import Derived.Test.YtbgechfmbogbpaaCodMath
namespace Go.Proofs.Ytbgechfmbogbpaa.Cod

/-- The tally of a length. -/
def tl (l : List Int) (n : Nat) : Nat := if n = 0 then 0 else cnt l (n : Int)
/-- A sum as a loop takes it. -/
def sumK (f : Nat → Nat) : Nat → Nat
  | 0 => 0
  | k + 1 => sumK f k + f k
theorem sumK_add (f g : Nat → Nat) : ∀ k, sumK (fun n => f n + g n) k = sumK f k + sumK g k
  | 0 => rfl
  | k + 1 => by simp only [sumK, sumK_add f g k]; omega
def totK (l : List Int) (k : Nat) : Nat := sumK (tl l) k
theorem totK_succ (l : List Int) (k : Nat) : totK l (k + 1) = totK l k + tl l k := rfl
def roomK (l : List Int) : Nat → Nat
  | 0 => 0
  | k + 1 => roomK l k + tl l k * 2 ^ (15 - k)
theorem cnt_le (l : List Int) (n : Int) : cnt l n ≤ l.length := List.countP_le_length
theorem tl_le (l : List Int) (n : Nat) : tl l n ≤ l.length := by unfold tl; split; exact Nat.zero_le _; exact cnt_le l _
theorem used_sum : ∀ (l : List Int), rangeOk l = true → used l = totK l 16
  | [], _ => by decide
  | x :: l, h => by
    have hx : 0 ≤ x ∧ x ≤ 15 := by
      unfold rangeOk at h
      simp only [List.all_cons, Bool.and_eq_true, decide_eq_true_eq] at h
      exact h.1
    have hl : rangeOk l = true := by
      unfold rangeOk at h ⊢
      simp only [List.all_cons, Bool.and_eq_true] at h
      exact h.2
    have ih := used_sum l hl
    have e : ∀ n : Nat, tl (x :: l) n = (if n = 0 then 0 else if x = (n : Int) then 1 else 0) + tl l n := fun n => by
      unfold tl cnt
      rw [List.countP_cons]
      by_cases h : x = (n : Int) <;> by_cases h0 : n = 0 <;> simp [h, h0] <;> omega
    have er : used (x :: l) = used l + (if 0 < x then 1 else 0) := by unfold used; rw [List.countP_cons]; simp
    have e2 : tl (x :: l) = fun (n : Nat) => (if n = 0 then 0 else if x = (n : Int) then 1 else 0) + tl l n := funext e
    rw [er, ih]
    unfold totK
    rw [e2, sumK_add]
    obtain ⟨k, rfl⟩ : ∃ k : Nat, x = (k : Int) := ⟨x.toNat, by omega⟩
    have hk : k ≤ 15 := by omega
    have all : ∀ k, k ≤ 15 → (if (0 : Int) < ((k : Nat) : Int) then 1 else 0) = sumK (fun n => if n = 0 then 0 else if ((k : Nat) : Int) = (n : Int) then 1 else 0) 16 := by decide +kernel
    rw [all k hk, Nat.add_comm]
theorem room_sumK (l : List Int) (h : rangeOk l = true) : room l = roomK l 16 := by
  rw [room_sum l h]
  have e : ∀ n : Nat, cnt l ((n : Int) + 1) * 2 ^ (14 - n) = tl l (n + 1) * 2 ^ (15 - (n + 1)) := fun n => by
    unfold tl
    rw [if_neg (by omega), show 15 - (n + 1) = 14 - n by omega]
    push_cast
    rfl
  have all : ∀ (f : Nat → Nat) k, ((List.range k).map fun n => f (n + 1)).sum + f 0 = sumK f (k + 1) := fun f k => by
    induction k with
    | zero => simp [sumK]
    | succ k ih => rw [List.range_succ, List.map_append, List.sum_append]; simp only [List.map_cons, List.map_nil, List.sum_cons, List.sum_nil, sumK] at ih ⊢; omega
  have r : ∀ k, roomK l k = sumK (fun n => tl l n * 2 ^ (15 - n)) k := fun k => by
    induction k with
    | zero => rfl
    | succ k ih => simp only [roomK, sumK, ih]
  have := all (fun n => tl l n * 2 ^ (15 - n)) 15
  have z : tl l 0 * 2 ^ (15 - 0) = 0 := by unfold tl; rw [if_pos rfl, Nat.zero_mul]
  simp only [z, Nat.add_zero] at this
  rw [r, ← this]
  simp only [e]
theorem totK_le (l : List Int) (h : l.length ≤ 1000000) : ∀ k, totK l k ≤ k * 1000000
  | 0 => Nat.le_refl _
  | k + 1 => by
    have := totK_le l h k
    have := tl_le l k
    rw [totK_succ]
    omega
theorem roomK_le (l : List Int) (h : l.length ≤ 1000000) : ∀ k, roomK l k ≤ k * 32768000000
  | 0 => Nat.le_refl _
  | k + 1 => by
    have h1 := roomK_le l h k
    have h2 := tl_le l k
    have h3 : 2 ^ (15 - k) ≤ 2 ^ 15 := Nat.pow_le_pow_right (by decide) (by omega)
    have h4 : tl l k * 2 ^ (15 - k) ≤ 1000000 * 32768 := Nat.mul_le_mul (by omega) h3
    simp only [roomK]
    omega
theorem validL_K (l : List Int) (h : rangeOk l = true) : validL l = (decide (roomK l 16 = 32768) || decide (totK l 16 = 0) || (decide (totK l 16 = 1) && decide (tl l 1 = 1))) := by
  unfold validL
  rw [room_sumK l h, used_sum l h]
  rfl
/-- The first code of a length. -/
theorem fst1_step (l : List Int) (n : Nat) (h : 1 ≤ n) : fst1 l (n + 1) = 2 * (fst1 l n + tl l n) := by
  obtain ⟨m, rfl⟩ : ∃ m, n = m + 1 := ⟨n - 1, by omega⟩
  show 2 * (fst1 l (m + 1) + cnt l ((m : Int) + 1)) = _
  unfold tl
  rw [if_neg (by omega)]
  push_cast
  rfl
theorem fst1_le (l : List Int) (h : l.length ≤ 1000000) : ∀ n, fst1 l (n + 1) + 2000000 ≤ 2 ^ (n + 1) * 1000000
  | 0 => by simp [fst1]
  | n + 1 => by
    have h1 := fst1_le l h n
    have h2 := tl_le l (n + 1)
    rw [fst1_step l (n + 1) (by omega)]
    rw [show 2 ^ (n + 1 + 1) = 2 * 2 ^ (n + 1) by rw [Nat.pow_succ 2 (n + 1), Nat.mul_comm]]
    generalize 2 ^ (n + 1) = p at h1 ⊢
    omega
end Go.Proofs.Ytbgechfmbogbpaa.Cod
