/-
  The walks of the reference's small functions: the same plain functions.
-/
import Derived.Test.YtbpmfkikkocbhabOctE
namespace Go.Proofs.Ytbpmfkikkocbhab
open Go.RowKit Oct

theorem white_int (c : UInt8) : whiteS c = ((c.toNat : Int) == 0 || (c.toNat : Int) == 9 || (c.toNat : Int) == 10 || (c.toNat : Int) == 12 || (c.toNat : Int) == 13 || (c.toNat : Int) == 32) := by
  have := all_bytes (fun c => whiteS c == ((c.toNat : Int) == 0 || (c.toNat : Int) == 9 || (c.toNat : Int) == 10 || (c.toNat : Int) == 12 || (c.toNat : Int) == 13 || (c.toNat : Int) == 32)) (by decide +kernel) c
  exact eq_of_beq this

set_option maxHeartbeats 2000000 in
theorem white_r (c : UInt8) (w : World) : Calls Try.prog 11 #[.int .u8 (c.toNat : Int)] w fun e w' => e = .returned (.bool (whiteS c)) ∧ w = w' := by
  go_enter Try.func11, Try.ntmps11
  go_wp2
  all_goals
    go_ret
    exact ⟨ret_bool (by first | exact (white_int c).symm | (rw [white_int]; simp [*])), rfl⟩

theorem delim_int (c : UInt8) : delimS c = ((c.toNat : Int) == 40 || (c.toNat : Int) == 41 || (c.toNat : Int) == 60 || (c.toNat : Int) == 62 || (c.toNat : Int) == 91 || (c.toNat : Int) == 93 || (c.toNat : Int) == 123 || (c.toNat : Int) == 125 || (c.toNat : Int) == 47 || (c.toNat : Int) == 37) := by
  have := all_bytes (fun c => delimS c == ((c.toNat : Int) == 40 || (c.toNat : Int) == 41 || (c.toNat : Int) == 60 || (c.toNat : Int) == 62 || (c.toNat : Int) == 91 || (c.toNat : Int) == 93 || (c.toNat : Int) == 123 || (c.toNat : Int) == 125 || (c.toNat : Int) == 47 || (c.toNat : Int) == 37)) (by decide +kernel) c
  exact eq_of_beq this

set_option maxHeartbeats 2000000 in
theorem delim_r (c : UInt8) (w : World) : Calls Try.prog 13 #[.int .u8 (c.toNat : Int)] w fun e w' => e = .returned (.bool (delimS c)) ∧ w = w' := by
  go_enter Try.func13, Try.ntmps13
  go_wp2
  all_goals
    go_ret
    exact ⟨ret_bool (by first | exact (delim_int c).symm | (rw [delim_int]; simp [*])), rfl⟩

theorem regular_r (c : UInt8) (w : World) : Calls Try.prog 15 #[.int .u8 (c.toNat : Int)] w fun e w' => e = .returned (.bool (regularS c)) ∧ w = w' := by
  go_enter Try.func15, Try.ntmps15
  go_wp2_with (first | (go_at_call 11; refine (white_r _ _).mono ?_; rintro e w' ⟨rfl, rfl⟩) | (go_at_call 13; refine (delim_r _ _).mono ?_; rintro e w' ⟨rfl, rfl⟩))
  · go_ret
    have h : whiteS c = true := by assumption
    exact ⟨ret_bool (by simp [regularS, h]), rfl⟩
  · go_ret
    have h : ¬ whiteS c = true := by assumption
    exact ⟨ret_bool (by simp [regularS, h]), rfl⟩

set_option maxHeartbeats 1000000 in
theorem digit_r (c : UInt8) (w : World) : Calls Try.prog 17 #[.int .u8 (c.toNat : Int)] w fun e w' => e = .returned (.int .i64 (digitS c)) ∧ w = w' := by
  have hb : (c.toNat : Int) < 48 ∨ (48 ≤ (c.toNat : Int) ∧ (c.toNat : Int) ≤ 57) ∨ (57 < (c.toNat : Int) ∧ (c.toNat : Int) < 65) ∨ (65 ≤ (c.toNat : Int) ∧ (c.toNat : Int) ≤ 70) ∨ (70 < (c.toNat : Int) ∧ (c.toNat : Int) < 97) ∨ (97 ≤ (c.toNat : Int) ∧ (c.toNat : Int) ≤ 102) ∨ 102 < (c.toNat : Int) := by omega
  rcases hb with hb | ⟨hb, hb'⟩ | ⟨hb, hb'⟩ | ⟨hb, hb'⟩ | ⟨hb, hb'⟩ | ⟨hb, hb'⟩ | hb
  all_goals
    go_enter Try.func17, Try.ntmps17
    go_wp2
    go_ret
    exact ⟨ret_int (by unfold digitS; (repeat' split) <;> omega), rfl⟩

theorem begins_cut (s part : ByteArray) {k : Nat} (h : k + part.size ≤ s.size) : ((s.extract k (k + part.size)).toList == part.toList) = beginsS s.data.toList part.data.toList k := by
  rw [beginsS_nat, decide_eq_true (by rw [size_len]; omega), Bool.true_and, Lib.occAt_iff_take _ _ _ (by rw [size_len, size_len]; exact h), Lib.toList_data, Lib.toList_data, Lib.extract_data, size_len]
  congr 2
  rw [Nat.add_sub_cancel_left]
theorem begins_short (s part : ByteArray) {k : Nat} (h : s.size < k + part.size) : beginsS s.data.toList part.data.toList k = false := by
  rw [beginsS_nat]
  cases ho : Lib.occAt s.data.toList part.data.toList k with
  | false => simp
  | true =>
    rcases Lib.occAt_room ho with h' | h'
    · rw [size_len, size_len] at h'; omega
    · have : part.size = 0 := by rw [← size_len, h']; rfl
      rw [decide_eq_false (by rw [size_len]; omega)]
      rfl

set_option maxHeartbeats 400000 in
theorem begins_r (s part : ByteArray) (a : Int) (w : World) (hs : s.size ≤ 4000000000) (hp : part.size ≤ 4000000000) :
    Calls Try.prog 25 #[.string s, .string part, .int .i64 a] w fun e w' => e = .returned (.bool (beginsS s.data.toList part.data.toList a)) ∧ w = w' := by
  by_cases h0 : a < 0
  · go_enter Try.func25, Try.ntmps25
    go_wp2
    go_ret
    exact ⟨ret_bool (by unfold beginsS; simp; omega), rfl⟩
  · by_cases h1 : (s.size : Int) < a
    · go_enter Try.func25, Try.ntmps25
      go_wp2
      go_ret
      exact ⟨ret_bool (by unfold beginsS; simp; omega), rfl⟩
    · obtain ⟨k, rfl⟩ := Int.eq_ofNat_of_zero_le (by omega : 0 ≤ a)
      have hk : k ≤ s.size := by omega
      by_cases h2 : (part.size : Int) ≤ (s.size : Int) - (k : Int)
      · go_enter Try.func25, Try.ntmps25
        go_wp2
        go_ret
        exact ⟨ret_bool (begins_cut s part (by omega)), rfl⟩
      · go_enter Try.func25, Try.ntmps25
        go_wp2
        go_ret
        exact ⟨ret_bool (begins_short s part (by omega)).symm, rfl⟩

theorem from_int' (a : Int) : max a 0 = (fromN a : Int) := by unfold fromN; omega
def NoneTo (s part : ByteArray) (a : Int) (i : Nat) : Prop := ∀ j, fromN a ≤ j → j < i → Lib.occAt s.data.toList part.data.toList j = false

theorem begins_rn (s part : ByteArray) (i : Nat) (b : Bool) (w : World) (hs : s.size ≤ 4000000000) (hp : part.size ≤ 4000000000) (h : beginsS s.data.toList part.data.toList i = b) :
    Calls Try.prog 25 #[.string s, .string part, .int .i64 i] w fun e w' => e = .returned (.bool b) ∧ w = w' := h ▸ begins_r s part i w hs hp

theorem find_r_empty (s part : ByteArray) (a : Int) (w : World) (h1 : part.toList.isEmpty = true) (h2 : part.toList = []) :
    Calls Try.prog 21 #[.string s, .string part, .int .i64 a] w fun e w' => e = .returned (.int .i64 (findS s.data.toList part.data.toList a)) ∧ w = w' := by
  have hf := find_w1 (s := s) (p := part) (a := a) h2
  have HF := Lib.hid hf
  clear hf h2
  go_enter Try.func21, Try.ntmps21
  go_wp2
  go_ret
  exact ⟨ret_int HF.out.symm, rfl⟩

theorem NoneTo.succ {s part : ByteArray} {a : Int} {i : Nat} (h : NoneTo s part a i) (hp : part.data.toList ≠ []) (hb : beginsS s.data.toList part.data.toList (i : Int) = false) : NoneTo s part a (i + 1) := fun j h1 h2 => by
  rcases Nat.lt_succ_iff_lt_or_eq.1 h2 with h' | rfl
  · exact h j h1 h'
  · rw [← beginsS_ne hp]; exact hb

set_option maxHeartbeats 1000000 in
theorem find_r_some (s part : ByteArray) (a : Int) (w : World) (hs : s.size ≤ 4000000000) (hp : part.size ≤ 4000000000) (h1 : part.toList.isEmpty = false) :
    Calls Try.prog 21 #[.string s, .string part, .int .i64 a] w fun e w' => e = .returned (.int .i64 (findS s.data.toList part.data.toList a)) ∧ w = w' := by
  have hne := empty_no h1
  have HE := Lib.hid hne
  clear hne
  go_enter Try.func21, Try.ntmps21
  go_wp2_with fail
  go_loop [7] (fun v => ∃ i : Nat, fromN a ≤ i ∧ v = .int .i64 i ∧ NoneTo s part a i) (fun v => s.size - (intOf v).toNat)
  case atStart => exact ⟨fromN a, Nat.le_refl _, by rw [from_int'], fun j h1 h2 => by omega⟩
  case round =>
    obtain ⟨i, hi, rfl, hn⟩ := hrel
    have HN := Lib.hid hn
    clear hn
    by_cases hlt : i < s.size
    · go_wp2_with (go_at_call 25; refine (begins_r _ _ _ _ hs hp).mono ?_; rintro e w' ⟨rfl, rfl⟩)
      · go_ret
        have hb : beginsS s.data.toList part.data.toList (i : Int) = true := by assumption
        exact ⟨ret_int (findS_hit HE.out a hi (by rw [← beginsS_ne HE.out]; exact hb) HN.out).symm, rfl⟩
      · have hb : beginsS s.data.toList part.data.toList (i : Int) = false := by assumption
        go_round
        case rel => exact ⟨i + 1, by omega, by go_num, HN.out.succ HE.out hb⟩
        case measure => simp [intOf]; omega
    · go_wp2_with fail
      go_ret
      exact ⟨ret_int (findS_none HE.out a fun j h1 h2 => HN.out j h1 (by rw [size_len] at h2; omega)).symm, rfl⟩

theorem find_r (s part : ByteArray) (a : Int) (w : World) (hs : s.size ≤ 4000000000) (hp : part.size ≤ 4000000000) :
    Calls Try.prog 21 #[.string s, .string part, .int .i64 a] w fun e w' => e = .returned (.int .i64 (findS s.data.toList part.data.toList a)) ∧ w = w' := by
  cases h : part.toList.isEmpty
  · exact find_r_some s part a w hs hp h
  · exact find_r_empty s part a w h (List.isEmpty_iff.1 h)

def LastTo (s part : ByteArray) (i : Nat) (r : Int) : Prop := lastUpto s.data.toList part.data.toList i = r
set_option maxHeartbeats 1000000 in
theorem last_r_some (s part : ByteArray) (w : World) (hs : s.size ≤ 4000000000) (hp : part.size ≤ 4000000000) (h1 : part.toList.isEmpty = false) :
    Calls Try.prog 23 #[.string s, .string part] w fun e w' => e = .returned (.int .i64 (lastS s.data.toList part.data.toList)) ∧ w = w' := by
  have hne := empty_no h1
  have HE := Lib.hid hne
  clear hne
  go_enter Try.func23, Try.ntmps23
  go_wp2_with fail
  go_loop [5, 6] (fun u v => ∃ i : Nat, ∃ r : Int, i ≤ s.size ∧ v = .int .i64 i ∧ u = .int .i64 r ∧ LastTo s part i r) (fun _ v => s.size - (intOf v).toNat)
  case atStart => exact ⟨0, -1, by omega, rfl, rfl, rfl⟩
  case round =>
    obtain ⟨i, r, hi, rfl, rfl, hn⟩ := hrel
    have HN := Lib.hid hn
    clear hn
    by_cases hlt : i < s.size
    · go_wp2_with (go_at_call 25; refine (begins_r _ _ _ _ hs hp).mono ?_; rintro e w' ⟨rfl, rfl⟩)
      · have hb : beginsS s.data.toList part.data.toList (i : Int) = true := by assumption
        go_round
        case rel => exact ⟨i + 1, (i : Int), by omega, by go_num, rfl, lastUpto_hit _ _ _ (by rw [← beginsS_ne HE.out]; exact hb)⟩
        case measure => simp [intOf]; omega
      · have hb : beginsS s.data.toList part.data.toList (i : Int) = false := by assumption
        go_round
        case rel => exact ⟨i + 1, r, by omega, by go_num, rfl, (lastUpto_miss _ _ _ (by rw [← beginsS_ne HE.out]; exact hb)).trans HN.out⟩
        case measure => simp [intOf]; omega
    · obtain rfl : i = s.size := by omega
      go_wp2_with fail
      go_ret
      exact ⟨ret_int (by unfold lastS; rw [if_neg HE.out, size_len]; exact HN.out.symm), rfl⟩

set_option maxHeartbeats 1000000 in
theorem last_r_empty (s part : ByteArray) (w : World) (hs : s.size ≤ 4000000000) (h1 : part.toList.isEmpty = true) (h2 : part.toList = []) :
    Calls Try.prog 23 #[.string s, .string part] w fun e w' => e = .returned (.int .i64 (lastS s.data.toList part.data.toList)) ∧ w = w' := by
  have hl := last_w0 (s := s) h1
  have HL := Lib.hid hl
  clear hl
  go_enter Try.func23, Try.ntmps23
  go_wp2_with fail
  go_loop [5, 6] (fun u v => ∃ i : Nat, i ≤ s.size ∧ v = .int .i64 i ∧ u = .int .i64 (-1)) (fun _ v => s.size - (intOf v).toNat)
  case atStart => exact ⟨0, by omega, rfl, rfl⟩
  case round =>
    obtain ⟨i, hi, rfl, rfl⟩ := hrel
    by_cases hlt : i < s.size
    · go_wp2_with fail
      go_round
      case rel => exact ⟨i + 1, by omega, by go_num, rfl⟩
      case measure => simp [intOf]; omega
    · go_wp2_with fail
      go_ret
      exact ⟨ret_int HL.out.symm, rfl⟩

theorem last_r (s part : ByteArray) (w : World) (hs : s.size ≤ 4000000000) (hp : part.size ≤ 4000000000) :
    Calls Try.prog 23 #[.string s, .string part] w fun e w' => e = .returned (.int .i64 (lastS s.data.toList part.data.toList)) ∧ w = w' := by
  cases h : part.toList.isEmpty
  · exact last_r_some s part w hs hp h
  · exact last_r_empty s part w hs h (List.isEmpty_iff.1 h)

/- Line and Skip of the reference. -/
def LineTo (l : List UInt8) (a k : Nat) : Prop := a + lineN (l.drop a) = k + lineN (l.drop k)
theorem LineTo.two {l : List UInt8} {a k : Nat} (h : LineTo l a k) (hb : beginsS l [13, 10] (k : Int) = true) : (k : Int) + 2 = ((a + lineN (l.drop a) : Nat) : Int) := by
  obtain ⟨t, ht⟩ := (begins_two l k).1 hb
  unfold LineTo at h
  rw [ht, line_crlf] at h
  omega
theorem eol_int {c : UInt8} (h : (c.toNat : Int) = 13 ∨ (c.toNat : Int) = 10) : c = 10 ∨ c = 13 := by
  rcases h with h | h
  · exact .inr (UInt8.toNat_inj.1 (by have e : (13 : UInt8).toNat = 13 := rfl; omega))
  · exact .inl (UInt8.toNat_inj.1 (by have e : (10 : UInt8).toNat = 10 := rfl; omega))
theorem LineTo.one {l : List UInt8} {a k : Nat} (h : LineTo l a k) (hk : k < l.length) (hb : beginsS l [13, 10] (k : Int) = false) (hm : (l[k].toNat : Int) = 13 ∨ (l[k].toNat : Int) = 10) : (k : Int) + 1 = ((a + lineN (l.drop a) : Nat) : Int) := by
  unfold LineTo at h
  have hne : ∀ u, l[k] :: l.drop (k + 1) ≠ 13 :: 10 :: u := fun u e => by
    rw [← drop_at hk] at e
    have := (begins_two l k).2 ⟨u, e⟩
    rw [hb] at this
    cases this
  rw [drop_at hk, line_eol (eol_int hm) hne] at h
  omega
theorem LineTo.more {l : List UInt8} {a k : Nat} (h : LineTo l a k) (hk : k < l.length) (hm : ¬ (l[k].toNat : Int) = 13) (hm2 : ((l[k].toNat : Int) == 13) = false ∧ ((l[k].toNat : Int) == 10) = false) : LineTo l a (k + 1) := by
  have hne : ¬ (l[k] = 10 ∨ l[k] = 13) := by
    rintro (e | e)
    · have := hm2.2
      rw [e] at this
      cases this
    · rw [e] at hm
      exact hm rfl
  unfold LineTo at h ⊢
  rw [drop_at hk, line_more hne] at h
  rw [h]
  omega
theorem eol_or {x : Int} (h : (x == 13) = true ∨ (x == 10) = true) : x = 13 ∨ x = 10 := by
  rcases h with h | h
  · exact .inl (eq_of_beq h)
  · exact .inr (eq_of_beq h)
theorem LineTo.done {l : List UInt8} {a k : Nat} (h : LineTo l a k) (hk : k = l.length) : (l.length : Int) = ((a + lineN (l.drop a) : Nat) : Int) := by
  unfold LineTo at h
  rw [List.drop_eq_nil_of_le (by omega : l.length ≤ k)] at h
  have : lineN [] = 0 := rfl
  omega

set_option maxHeartbeats 1000000 in
theorem line_r_in (s : ByteArray) (a : Nat) (w : World) (hs : s.size ≤ 4000000000) (ha : a ≤ s.size) :
    Calls Try.prog 29 #[.string s, .int .i64 (a : Int)] w fun e w' => e = .returned (.int .i64 ((a + lineN (s.data.toList.drop a) : Nat) : Int)) ∧ w = w' := by
  have hd : decide (s.size < a) = false := by simp; omega
  go_enter Try.func29, Try.ntmps29
  go_wp2_with fail
  go_loop [5] (fun v => ∃ k : Nat, k ≤ s.size ∧ v = .int .i64 k ∧ LineTo s.data.toList a k) (fun v => s.size - (intOf v).toNat)
  case atStart => exact ⟨a, by omega, rfl, rfl⟩
  case round =>
    obtain ⟨k, hk, rfl, hn⟩ := hrel
    have HN := Lib.hid hn
    clear hn
    by_cases hlt : k < s.size
    · go_wp2_with (go_at_call 25; refine (begins_r _ _ _ _ hs (by decide)).mono ?_; rintro e w' ⟨rfl, rfl⟩)
      · go_ret
        exact ⟨ret_int (HN.out.two (by assumption)), rfl⟩
      · go_ret
        exact ⟨ret_int (HN.out.one (by simpa using hlt) (by assumption) (.inl (by assumption))), rfl⟩
      · go_ret
        exact ⟨ret_int (HN.out.one (by simpa using hlt) (by assumption) (eol_or (by assumption))), rfl⟩
      · go_round
        case rel => exact ⟨k + 1, by omega, by go_num, HN.out.more (by simpa using hlt) (by assumption) (by assumption)⟩
        case measure => simp [intOf]; omega
    · obtain rfl : k = s.size := by omega
      go_wp2_with fail
      go_ret
      exact ⟨ret_int (by have := HN.out.done (by simp); rw [size_len] at this; omega), rfl⟩

theorem line_rto (s : ByteArray) (a : Nat) (w : World) (hs : s.size ≤ 4000000000) (ha : a < s.size) :
    Calls Try.prog 29 #[.string s, .int .i64 (a : Int)] w fun e w' => ∃ j : Nat, e = .returned (.int .i64 (j : Int)) ∧ a + lineN (s.data.toList.drop a) = j ∧ a < j ∧ j ≤ s.size ∧ w = w' :=
  (line_r_in s a w hs (by omega)).mono fun _ _ ⟨h1, h2⟩ => ⟨_, h1, rfl, by
    rw [drop_at (by simpa using ha : a < s.data.toList.length)]
    have := lineN_pos s.data.toList[a] (s.data.toList.drop (a + 1))
    omega, by have := lineN_to s.data.toList a; rw [size_len] at this; omega, h2⟩

set_option maxHeartbeats 1000000 in
theorem skip_r_in (s : ByteArray) (a : Nat) (w : World) (hs : s.size ≤ 4000000000) (ha : a ≤ s.size) :
    Calls Try.prog 27 #[.string s, .int .i64 (a : Int)] w fun e w' => ∃ j : Nat, e = .returned (.int .i64 (j : Int)) ∧ SkipAt s.data.toList a j ∧ w = w' := by
  have hd : decide (s.size < a) = false := by simp; omega
  go_enter Try.func27, Try.ntmps27
  go_wp2_with fail
  go_loop [1] (fun i => ∃ k : Nat, k ≤ s.size ∧ i = .int .i64 k ∧ SkipTo s.data.toList a k) (fun i => s.size - (intOf i).toNat)
  case atStart => exact ⟨a, by omega, rfl, SkipTo.zero _ _⟩
  case round =>
    obtain ⟨k, hk, rfl, hn⟩ := hrel
    have HN := Lib.hid hn
    clear hn
    by_cases hlt : k < s.size
    · go_wp2_with (first | (go_at_call 11; refine (white_r _ _).mono ?_; rintro e w' ⟨rfl, rfl⟩) | (go_at_call 29; refine (line_rto _ _ _ hs hlt).mono ?_; rintro e w' ⟨j, rfl, hj, hj1, hj2, rfl⟩; have HJ := Lib.hid hj; clear hj))
      · go_round
        case rel => exact ⟨j, hj2, rfl, HN.out.comment (by simpa using hlt) (by assumption) HJ.out⟩
        case measure => simp [intOf]; omega
      · go_round
        case rel => exact ⟨k + 1, by omega, by go_num, HN.out.white (by simpa using hlt) (by assumption)⟩
        case measure => simp [intOf]; omega
      · go_ret
        exact ⟨k, rfl, HN.out.stop (by simpa using hlt) (by assumption) (by assumption), rfl⟩
    · go_wp2_with fail
      go_ret
      exact ⟨k, rfl, HN.out.done (by rw [size_len]; omega), rfl⟩

theorem line_r (s : ByteArray) (a : Int) (w : World) (hs : s.size ≤ 4000000000) :
    Calls Try.prog 29 #[.string s, .int .i64 a] w fun e w' => e = .returned (.int .i64 (lineS s.data.toList a)) ∧ w = w' := by
  by_cases h0 : a < 0
  · go_enter Try.func29, Try.ntmps29
    go_wp2
    go_ret
    exact ⟨ret_int (by unfold lineS; rw [if_pos (.inl h0)]), rfl⟩
  · by_cases h1 : (s.size : Int) < a
    · go_enter Try.func29, Try.ntmps29
      go_wp2
      go_ret
      exact ⟨ret_int (by unfold lineS; rw [if_pos (.inr (by rw [size_len]; exact h1))]), rfl⟩
    · obtain ⟨k, rfl⟩ := Int.eq_ofNat_of_zero_le (by omega : 0 ≤ a)
      refine (line_r_in s k w hs (by omega)).mono fun e w' ⟨he, hw⟩ => ⟨?_, hw⟩
      rw [he]
      refine ret_int ?_
      unfold lineS
      rw [if_neg (by rw [size_len]; omega), Int.toNat_natCast, Int.natCast_add]

theorem skip_r (s : ByteArray) (a : Int) (w : World) (hs : s.size ≤ 4000000000) :
    Calls Try.prog 27 #[.string s, .int .i64 a] w fun e w' => e = .returned (.int .i64 (skipS s.data.toList a)) ∧ w = w' := by
  by_cases h0 : a < 0
  · go_enter Try.func27, Try.ntmps27
    go_wp2
    go_ret
    exact ⟨ret_int (by unfold skipS; rw [if_pos (.inl h0)]), rfl⟩
  · by_cases h1 : (s.size : Int) < a
    · go_enter Try.func27, Try.ntmps27
      go_wp2
      go_ret
      exact ⟨ret_int (by unfold skipS; rw [if_pos (.inr (by rw [size_len]; exact h1))]), rfl⟩
    · obtain ⟨k, rfl⟩ := Int.eq_ofNat_of_zero_le (by omega : 0 ≤ a)
      refine (skip_r_in s k w hs (by omega)).mono fun e w' ⟨j, he, hj, hw⟩ => ⟨?_, hw⟩
      rw [he]
      refine ret_int ?_
      unfold skipS
      unfold SkipAt at hj
      rw [if_neg (by rw [size_len]; omega), Int.toNat_natCast]
      omega
end Go.Proofs.Ytbpmfkikkocbhab
