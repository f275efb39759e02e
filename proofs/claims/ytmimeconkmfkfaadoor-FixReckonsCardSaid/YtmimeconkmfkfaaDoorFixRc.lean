/-
  The reference's form: the parts of a number.
-/
import Derived.Test.YtmimeconkmfkfaaDoorFixRb
namespace Go.Proofs.YtmimeconkmfkfaaDoor
open Go.RowKit Fix

theorem ends_four {fn : Func} {t u v x : Tmp} {R : Ending → World → Prop} {a : Act} {P : Program} {w : World} (h : fn.results = #[.tmp t, .tmp u, .tmp v, .tmp x]) (hd : a.defers = [])
    (hR : R (.returned (.tuple #[a.tmps.getD t undef, a.tmps.getD u undef, a.tmps.getD v undef, a.tmps.getD x undef])) w) : bodyPost P fn R .ret a w :=
  bodyPost_ret (v := .tuple #[a.tmps.getD t undef, a.tmps.getD u undef, a.tmps.getD v undef, a.tmps.getD x undef]) (by simp [results, h]) hd hR

/-- What form answers. -/
def FormEnd (l : List UInt8) (w : World) (e : Ending) (w' : World) : Prop :=
  (∃ (A B : ByteArray) (m ok : Bool), e = .returned (.tuple #[.string A, .string B, .bool m, .bool ok]) ∧ goodR l = ok ∧ (ok = true → A.data.toList = befL l ∧ B.data.toList = aftL l ∧ m = minusL l)) ∧ w = w'
theorem formEnd_no {l : List UInt8} {w : World} {A B : ByteArray} {m : Bool} (h : goodR l = false) : FormEnd l w (.returned (.tuple #[.string A, .string B, .bool m, .bool false])) w :=
  ⟨⟨A, B, m, false, rfl, h, fun h => by cases h⟩, rfl⟩

/-- What has been read behind k bytes of X. -/
def FormAt (X : ByteArray) (k : Nat) (A B : ByteArray) (f : Bool) : Prop :=
  splitP (X.data.toList.take k) = (A.data.toList, B.data.toList, f) ∧ A.data.toList.all isDig = true ∧ B.data.toList.all isDig = true
theorem bytes_succ (X : ByteArray) (k : Nat) (h : k < X.size) : X.data.toList.take (k + 1) = X.data.toList.take k ++ [X[k]] := by
  rw [List.take_succ_eq_append_getElem (by rw [size_list]; exact h)]; rfl
theorem drop_at (X : ByteArray) (k : Nat) (h : k < X.size) : X[k] :: X.data.toList.drop (k + 1) = X.data.toList.drop k :=
  List.getElem_cons_drop (h := by rw [size_list]; exact h)
theorem bytes_at (X : ByteArray) (k : Nat) (h : k < X.size) : X.data.toList = X.data.toList.take k ++ X[k] :: X.data.toList.drop (k + 1) := by
  rw [drop_at X k h, List.take_append_drop]
theorem all_snoc {l : List UInt8} {c : UInt8} (h : l.all isDig = true) (hc : isDig c = true) : (l ++ [c]).all isDig = true := by
  rw [List.all_append, h]; simp [hc]
theorem one_bytes (X : ByteArray) (k : Nat) (h : k < X.size) : (X.extract k (k + 1)).data.toList = [X[k]] := by
  rw [Lib.extract_data, show k + 1 - k = 1 by omega]
  rw [← drop_at X k h]; rfl
theorem form_point {X : ByteArray} {k : Nat} {A B : ByteArray} (h : k < X.size) (hi : FormAt X k A B false) (hc : X[k] = 46) : FormAt X (k + 1) A B true := by
  obtain ⟨h1, h2, h3⟩ := hi
  refine ⟨?_, h2, h3⟩
  rw [bytes_succ X k h, split_append, h1, if_neg (by simp), hc]
  have e := split_free (l := X.data.toList.take k) (by rw [h1]; simp)
  rw [h1] at e
  dsimp only at e
  show (X.data.toList.take k ++ [], ([] : List UInt8), true) = _
  rw [List.append_nil, ← e.1, e.2]
theorem form_part {X : ByteArray} {k : Nat} {A B : ByteArray} (h : k < X.size) (hi : FormAt X k A B true) (hc : isDig X[k] = true) : FormAt X (k + 1) A (B ++ X.extract k (k + 1)) true := by
  obtain ⟨h1, h2, h3⟩ := hi
  have e : (B ++ X.extract k (k + 1)).data.toList = B.data.toList ++ [X[k]] := by simp only [ByteArray.data_append, Array.toList_append]; rw [one_bytes X k h]
  refine ⟨?_, h2, ?_⟩
  · rw [e, bytes_succ X k h, split_append, h1, if_pos rfl]
  · rw [e]; exact all_snoc h3 hc
theorem not_point {c : UInt8} (hc : isDig c = true) : ¬ c = 46 := by rintro rfl; cases hc
theorem form_whole {X : ByteArray} {k : Nat} {A B : ByteArray} (h : k < X.size) (hi : FormAt X k A B false) (hc : isDig X[k] = true) : FormAt X (k + 1) (A ++ X.extract k (k + 1)) B false := by
  obtain ⟨h1, h2, h3⟩ := hi
  have e : (A ++ X.extract k (k + 1)).data.toList = A.data.toList ++ [X[k]] := by simp only [ByteArray.data_append, Array.toList_append]; rw [one_bytes X k h]
  refine ⟨?_, ?_, h3⟩
  · have e2 := split_free (l := X.data.toList.take k) (by rw [h1]; simp)
    rw [h1] at e2
    dsimp only at e2
    rw [e, bytes_succ X k h, split_append, h1, if_neg (by simp), splitP_cons, if_neg (not_point hc)]
    show (X.data.toList.take k ++ [X[k]], ([] : List UInt8), false) = _
    rw [← e2.1, e2.2]
  · rw [e]; exact all_snoc h2 hc
theorem form_bad {l : List UInt8} {X : ByteArray} {k : Nat} {A B : ByteArray} {f : Bool} (hX : X.data.toList = bodyL l) (h : k < X.size) (hi : FormAt X k A B f) (hc : ¬ isDig X[k] = true) (hp : f = true ∨ ¬ X[k] = 46) : goodR l = false := by
  obtain ⟨h1, _, _⟩ := hi
  have e : (befL l).all isDig = false ∨ (aftL l).all isDig = false := by
    unfold befL aftL
    rw [← hX, bytes_at X k h, split_append, h1]
    by_cases hf : f = true
    · rw [if_pos hf]
      right
      show (B.data.toList ++ X[k] :: _).all isDig = false
      rw [List.all_append, List.all_cons, Bool.eq_false_iff.2 hc, Bool.false_and, Bool.and_false]
    · rw [if_neg hf, splitP_cons, if_neg (by rcases hp with hp | hp; exact absurd hp hf; exact hp)]
      left
      show (X.data.toList.take k ++ X[k] :: _).all isDig = false
      rw [List.all_append, List.all_cons, Bool.eq_false_iff.2 hc, Bool.false_and, Bool.and_false]
  unfold goodR
  rcases e with e | e <;> rw [e] <;> simp
theorem form_done {s X : ByteArray} {A B : ByteArray} {f m : Bool} {w : World} (hX : X.data.toList = bodyL s.data.toList) (h40 : s.size ≤ 40) (hi : FormAt X X.size A B f) (hm : minusL s.data.toList = m) :
    FormEnd s.data.toList w (.returned (.tuple #[.string A, .string B, .bool m, .bool (decide (0 < (A.size : Int) + (B.size : Int)))])) w := by
  obtain ⟨h1, h2, h3⟩ := hi
  rw [List.take_of_length_le (by rw [size_list]; omega), hX] at h1
  have eA : befL s.data.toList = A.data.toList := by unfold befL; rw [h1]
  have eB : aftL s.data.toList = B.data.toList := by unfold aftL; rw [h1]
  refine ⟨⟨A, B, m, _, rfl, ?_, fun _ => ⟨eA.symm, eB.symm, hm.symm⟩⟩, rfl⟩
  unfold goodR
  rw [eA, eB, h2, h3, decide_eq_true (by rw [size_list]; exact h40)]
  show (!(A.data.toList ++ B.data.toList).isEmpty) = _
  rw [← size_list A, ← size_list B]
  cases A.data.toList with
  | nil => cases B.data.toList with
    | nil => rfl
    | cons b t => first | (simp; done) | (simp; omega)
  | cons a t => first | (simp; done) | (simp; omega)
theorem dig_facts {c : UInt8} (h : isDig c = true) : ¬ (c.toNat : Int) < 48 ∧ ¬ (57 : Int) < (c.toNat : Int) ∧ ((c.toNat : Int) == 46) = false := by
  have := isDig_yes h
  refine ⟨by omega, by omega, ?_⟩
  simp only [beq_eq_false_iff_ne, ne_eq]
  omega
end Go.Proofs.YtmimeconkmfkfaaDoor
