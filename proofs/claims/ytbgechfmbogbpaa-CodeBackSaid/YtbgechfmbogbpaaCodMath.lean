/-
  Plain mathematics of the layer code: the lengths of a code, how many codes there are of each length, whether they leave no room, the first code of each length, the cost. No program in this text.
-/
import Derived.Below
namespace Go.Proofs.Ytbgechfmbogbpaa.Cod

/-- How many lengths are n. -/
def cnt (l : List Int) (n : Int) : Nat := l.countP fun x => decide (x = n)
/-- Are all lengths in their range? -/
def rangeOk (l : List Int) : Bool := l.all fun x => decide (0 ≤ x) && decide (x ≤ 15)
/-- How many have a code. -/
def used (l : List Int) : Nat := l.countP fun x => decide (0 < x)
/-- The room that the codes take, of 32768. -/
def room (l : List Int) : Nat := (l.map fun x => if 0 < x then 2 ^ (15 - x.toNat) else 0).sum
def validL (l : List Int) : Bool := decide (room l = 32768) || decide (used l = 0) || (decide (used l = 1) && decide (cnt l 1 = 1))
/-- What Check answers. -/
def chkE (l : List Int) : Int := if 288 < l.length then 6 else if rangeOk l = false then 1 else if validL l = false then 13 else 0
theorem cnt_nil (n : Int) : cnt [] n = 0 := rfl
theorem cnt_snoc (l : List Int) (x n : Int) : cnt (l ++ [x]) n = cnt l n + if x = n then 1 else 0 := by
  unfold cnt
  rw [List.countP_append]
  by_cases h : x = n <;> simp [h]
theorem used_snoc (l : List Int) (x : Int) : used (l ++ [x]) = used l + if 0 < x then 1 else 0 := by
  unfold used
  rw [List.countP_append]
  by_cases h : 0 < x <;> simp [h]
theorem room_snoc (l : List Int) (x : Int) : room (l ++ [x]) = room l + if 0 < x then 2 ^ (15 - x.toNat) else 0 := by
  unfold room
  rw [List.map_append, List.sum_append]
  simp
/-- The first code of each length. -/
def fst1 (l : List Int) : Nat → Nat
  | 0 => 0
  | 1 => 0
  | n + 2 => 2 * (fst1 l (n + 1) + cnt l ((n : Int) + 1))
/-- The code of the symbol i. -/
def codeAt (l : List Int) (i : Nat) : Nat := if 0 < l.getD i 0 then fst1 l (l.getD i 0).toNat + cnt (l.take i) (l.getD i 0) else 0
/-- The sum over all lengths is the room. -/
theorem room_sum : ∀ (l : List Int), rangeOk l = true → room l = ((List.range 15).map fun (n : Nat) => cnt l ((n : Int) + 1) * 2 ^ (14 - n)).sum
  | [], _ => by
    have : ∀ n : Nat, cnt [] ((n : Int) + 1) * 2 ^ (14 - n) = 0 := fun n => by rw [cnt_nil, Nat.zero_mul]
    simp only [this]
    decide
  | x :: l, h => by
    have hx : 0 ≤ x ∧ x ≤ 15 := by
      unfold rangeOk at h
      simp only [List.all_cons, Bool.and_eq_true, decide_eq_true_eq] at h
      exact h.1
    have hl : rangeOk l = true := by
      unfold rangeOk at h ⊢
      simp only [List.all_cons, Bool.and_eq_true] at h
      exact h.2
    have ih := room_sum l hl
    have e : ∀ n : Nat, cnt (x :: l) ((n : Int) + 1) = (if x = (n : Int) + 1 then 1 else 0) + cnt l ((n : Int) + 1) := fun n => by
      unfold cnt
      rw [List.countP_cons]
      by_cases h : x = (n : Int) + 1 <;> simp [h] <;> omega
    have er : room (x :: l) = (if 0 < x then 2 ^ (15 - x.toNat) else 0) + room l := by unfold room; simp
    rw [er, ih]
    simp only [e, Nat.add_mul]
    have split : ∀ (f g : Nat → Nat) (m : Nat), ((List.range m).map fun n => f n + g n).sum = ((List.range m).map f).sum + ((List.range m).map g).sum := fun f g m => by
      induction m with
      | zero => rfl
      | succ m im => simp only [List.range_succ, List.map_append, List.sum_append, List.map_cons, List.map_nil, List.sum_cons, List.sum_nil, im]; omega
    rw [split (fun n => (if x = (n : Int) + 1 then 1 else 0) * 2 ^ (14 - n)) (fun n => cnt l ((n : Int) + 1) * 2 ^ (14 - n)) 15]
    congr 1
    obtain ⟨k, rfl⟩ : ∃ k : Nat, x = (k : Int) := ⟨x.toNat, by omega⟩
    have hk : k ≤ 15 := by omega
    have all : ∀ k, k ≤ 15 → (if (0 : Int) < ((k : Nat) : Int) then 2 ^ (15 - ((k : Nat) : Int).toNat) else 0) = ((List.range 15).map fun (n : Nat) => (if ((k : Nat) : Int) = ((n : Nat) : Int) + 1 then 1 else 0) * 2 ^ (14 - n)).sum := by decide +kernel
    exact all k hk
end Go.Proofs.Ytbgechfmbogbpaa.Cod
