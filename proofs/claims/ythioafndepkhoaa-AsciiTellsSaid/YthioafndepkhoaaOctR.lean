/-
  The walks of the reference's small functions: the same plain functions.
-/
import Derived.Test.YthioafndepkhoaaOctEc
namespace Go.Proofs.Ythioafndepkhoaa
open Go.RowKit Oct

theorem white_int (c : UInt8) : whiteS c = ((c.toNat : Int) == 0 || (c.toNat : Int) == 9 || (c.toNat : Int) == 10 || (c.toNat : Int) == 12 || (c.toNat : Int) == 13 || (c.toNat : Int) == 32) := by
  have := all_bytes (fun c => whiteS c == ((c.toNat : Int) == 0 || (c.toNat : Int) == 9 || (c.toNat : Int) == 10 || (c.toNat : Int) == 12 || (c.toNat : Int) == 13 || (c.toNat : Int) == 32)) (by decide +kernel) c
  exact eq_of_beq this

set_option maxHeartbeats 2000000 in
theorem white_r (c : UInt8) (w : World) : Calls Try.prog 19 #[.int .u8 (c.toNat : Int)] w fun e w' => e = .returned (.bool (whiteS c)) ∧ w = w' := by
  go_enter Try.func19, Try.ntmps19
  go_wp2
  all_goals
    go_ret
    exact ⟨ret_bool (by first | exact (white_int c).symm | (rw [white_int]; simp [*])), rfl⟩

theorem delim_int (c : UInt8) : delimS c = ((c.toNat : Int) == 40 || (c.toNat : Int) == 41 || (c.toNat : Int) == 60 || (c.toNat : Int) == 62 || (c.toNat : Int) == 91 || (c.toNat : Int) == 93 || (c.toNat : Int) == 123 || (c.toNat : Int) == 125 || (c.toNat : Int) == 47 || (c.toNat : Int) == 37) := by
  have := all_bytes (fun c => delimS c == ((c.toNat : Int) == 40 || (c.toNat : Int) == 41 || (c.toNat : Int) == 60 || (c.toNat : Int) == 62 || (c.toNat : Int) == 91 || (c.toNat : Int) == 93 || (c.toNat : Int) == 123 || (c.toNat : Int) == 125 || (c.toNat : Int) == 47 || (c.toNat : Int) == 37)) (by decide +kernel) c
  exact eq_of_beq this

set_option maxHeartbeats 1000000 in
theorem digit_r (c : UInt8) (w : World) : Calls Try.prog 20 #[.int .u8 (c.toNat : Int)] w fun e w' => e = .returned (.int .i64 (digitS c)) ∧ w = w' := by
  have hb : (c.toNat : Int) < 48 ∨ (48 ≤ (c.toNat : Int) ∧ (c.toNat : Int) ≤ 57) ∨ (57 < (c.toNat : Int) ∧ (c.toNat : Int) < 65) ∨ (65 ≤ (c.toNat : Int) ∧ (c.toNat : Int) ≤ 70) ∨ (70 < (c.toNat : Int) ∧ (c.toNat : Int) < 97) ∨ (97 ≤ (c.toNat : Int) ∧ (c.toNat : Int) ≤ 102) ∨ 102 < (c.toNat : Int) := by omega
  rcases hb with hb | ⟨hb, hb'⟩ | ⟨hb, hb'⟩ | ⟨hb, hb'⟩ | ⟨hb, hb'⟩ | ⟨hb, hb'⟩ | hb
  all_goals
    go_enter Try.func20, Try.ntmps20
    go_wp2
    go_ret
    exact ⟨ret_int (by unfold digitS; (repeat' split) <;> omega), rfl⟩

theorem begins_cut (s part : ByteArray) {k : Nat} (h : k + part.size ≤ s.size) : ((s.extract k (k + part.size)).toList == part.toList) = beginsS s.data.toList part.data.toList k := by
  rw [beginsS_nat, decide_eq_true (by rw [size_len]; omega), Bool.true_and, Lib.occAt_iff_take _ _ _ (by rw [size_len, size_len]; exact h), Lib.toList_data, Lib.toList_data, Lib.extract_data, size_len]
  congr 2
  rw [Nat.add_sub_cancel_left]
theorem begins_short (s part : ByteArray) {k : Nat} (h : s.size < k + part.size) : beginsS s.data.toList part.data.toList k = false := by
  rw [beginsS_nat]
  cases ho : Lib.occAt s.data.toList part.data.toList k with
  | false => simp
  | true =>
    rcases Lib.occAt_room ho with h' | h'
    · rw [size_len, size_len] at h'; omega
    · have : part.size = 0 := by rw [← size_len, h']; rfl
      rw [decide_eq_false (by rw [size_len]; omega)]
      rfl

theorem from_int' (a : Int) : max a 0 = (fromN a : Int) := by unfold fromN; omega
def NoneTo (s part : ByteArray) (a : Int) (i : Nat) : Prop := ∀ j, fromN a ≤ j → j < i → Lib.occAt s.data.toList part.data.toList j = false

theorem NoneTo.succ {s part : ByteArray} {a : Int} {i : Nat} (h : NoneTo s part a i) (hp : part.data.toList ≠ []) (hb : beginsS s.data.toList part.data.toList (i : Int) = false) : NoneTo s part a (i + 1) := fun j h1 h2 => by
  rcases Nat.lt_succ_iff_lt_or_eq.1 h2 with h' | rfl
  · exact h j h1 h'
  · rw [← beginsS_ne hp]; exact hb

def LastTo (s part : ByteArray) (i : Nat) (r : Int) : Prop := lastUpto s.data.toList part.data.toList i = r
def LineTo (l : List UInt8) (a k : Nat) : Prop := a + lineN (l.drop a) = k + lineN (l.drop k)
theorem LineTo.two {l : List UInt8} {a k : Nat} (h : LineTo l a k) (hb : beginsS l [13, 10] (k : Int) = true) : (k : Int) + 2 = ((a + lineN (l.drop a) : Nat) : Int) := by
  obtain ⟨t, ht⟩ := (begins_two l k).1 hb
  unfold LineTo at h
  rw [ht, line_crlf] at h
  omega
theorem eol_int {c : UInt8} (h : (c.toNat : Int) = 13 ∨ (c.toNat : Int) = 10) : c = 10 ∨ c = 13 := by
  rcases h with h | h
  · exact .inr (UInt8.toNat_inj.1 (by have e : (13 : UInt8).toNat = 13 := rfl; omega))
  · exact .inl (UInt8.toNat_inj.1 (by have e : (10 : UInt8).toNat = 10 := rfl; omega))
theorem LineTo.one {l : List UInt8} {a k : Nat} (h : LineTo l a k) (hk : k < l.length) (hb : beginsS l [13, 10] (k : Int) = false) (hm : (l[k].toNat : Int) = 13 ∨ (l[k].toNat : Int) = 10) : (k : Int) + 1 = ((a + lineN (l.drop a) : Nat) : Int) := by
  unfold LineTo at h
  have hne : ∀ u, l[k] :: l.drop (k + 1) ≠ 13 :: 10 :: u := fun u e => by
    rw [← drop_at hk] at e
    have := (begins_two l k).2 ⟨u, e⟩
    rw [hb] at this
    cases this
  rw [drop_at hk, line_eol (eol_int hm) hne] at h
  omega
theorem LineTo.more {l : List UInt8} {a k : Nat} (h : LineTo l a k) (hk : k < l.length) (hm : ¬ (l[k].toNat : Int) = 13) (hm2 : ((l[k].toNat : Int) == 13) = false ∧ ((l[k].toNat : Int) == 10) = false) : LineTo l a (k + 1) := by
  have hne : ¬ (l[k] = 10 ∨ l[k] = 13) := by
    rintro (e | e)
    · have := hm2.2
      rw [e] at this
      cases this
    · rw [e] at hm
      exact hm rfl
  unfold LineTo at h ⊢
  rw [drop_at hk, line_more hne] at h
  rw [h]
  omega
theorem eol_or {x : Int} (h : (x == 13) = true ∨ (x == 10) = true) : x = 13 ∨ x = 10 := by
  rcases h with h | h
  · exact .inl (eq_of_beq h)
  · exact .inr (eq_of_beq h)
theorem LineTo.done {l : List UInt8} {a k : Nat} (h : LineTo l a k) (hk : k = l.length) : (l.length : Int) = ((a + lineN (l.drop a) : Nat) : Int) := by
  unfold LineTo at h
  rw [List.drop_eq_nil_of_le (by omega : l.length ≤ k)] at h
  have : lineN [] = 0 := rfl
  omega

end Go.Proofs.Ythioafndepkhoaa
