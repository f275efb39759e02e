/-
  The walks of octet's searches: Begins, Find, Last, Line, Skip: each returns what the plain function says, and leaves the world as it was.
-/
import Derived.Test.YtbpmfkikkocbhabOctA
import Derived.Test.YtbpmfkikkocbhabShelf
namespace Go.Proofs.Ytbpmfkikkocbhab
open Go.RowKit Oct

theorem extract_end (s : ByteArray) (k : Nat) : (s.extract k s.size).data.toList = s.data.toList.drop k := by
  rw [Lib.extract_data, List.take_of_length_le (by simp)]

def preB (s p : ByteArray) : Bool := Lib.hasPrefix s.data.toList p.data.toList
theorem prefix_any (s p : ByteArray) (w : World) : Calls Try.prog 33 #[.string s, .string p] w fun e w' => e = .returned (.bool (preB s p)) ∧ w = w' :=
  (Try.strings_HasPrefix s p w).mono fun _ _ ⟨h1, h2⟩ => ⟨h1, h2.symm⟩
theorem size_len (s : ByteArray) : s.data.toList.length = s.size := by simp
theorem index_any (s p : ByteArray) (m : Int) (w : World) (hs : s.size < 4294967281) (hm : w.cell? ⟨0, 0, none⟩ = some (.int .i64 m)) :
    Calls Try.prog 31 #[.string s, .string p] w fun e w' => ∃ i : Int, e = .returned (.int .i64 i) ∧ Lib.index s.data.toList p.data.toList = i ∧ -1 ≤ i ∧ i ≤ s.size ∧ w = w' :=
  (Try.strings_Index s p m w hs hm).mono fun _ _ ⟨h1, h2⟩ => ⟨_, h1, rfl, Lib.index_ge _ _, by
    have h := size_len s
    rcases Lib.index_spec s.data.toList p.data.toList with ⟨e, _⟩ | ⟨i, e, hi, _⟩ <;> omega, h2.symm⟩
theorem lastindex_any (s p : ByteArray) (w : World) (hs : s.size < 4611686018427387904) :
    Calls Try.prog 32 #[.string s, .string p] w fun e w' => ∃ i : Int, e = .returned (.int .i64 i) ∧ Lib.lastIndex s.data.toList p.data.toList = i ∧ w = w' :=
  (Try.strings_LastIndex s p hs w).mono fun _ _ ⟨h1, h2⟩ => ⟨_, h1, rfl, h2.symm⟩

theorem empty_of {p : ByteArray} (h : p.toList = []) : p.data.toList = [] := by rw [← Lib.toList_data]; exact h
theorem empty_yes {p : ByteArray} (h : p.toList.isEmpty = true) : p.data.toList = [] := empty_of (List.isEmpty_iff.1 h)
theorem empty_no {p : ByteArray} (h : p.toList.isEmpty = false) : p.data.toList ≠ [] := by
  intro e
  rw [← Lib.toList_data] at e
  rw [e] at h
  cases h
theorem find_w1 {s p : ByteArray} {a : Int} (h : p.toList = []) : findS s.data.toList p.data.toList a = -1 := by rw [empty_of h, findS_empty]
theorem find_w2 {s p : ByteArray} {a : Int} (h : p.toList.isEmpty = true ∨ (s.size : Int) < max a 0) : findS s.data.toList p.data.toList a = -1 := by
  unfold findS
  rw [if_pos]
  rcases h with h | h
  · exact .inl (empty_yes h)
  · exact .inr (by rw [size_len]; exact h)
theorem find_w3 {s p : ByteArray} {a i : Int} (h : p.toList.isEmpty = false ∧ max a 0 ≤ (s.size : Int)) (hi : Lib.index (s.extract (max a 0).toNat s.size).data.toList p.data.toList = i) :
    findS s.data.toList p.data.toList a = if i < 0 then -1 else max a 0 + i := by
  unfold findS
  rw [if_neg (by rw [size_len]; have := empty_no h.1; simp [this]; omega), ← extract_end, hi]
theorem last_w0 {s p : ByteArray} (h : p.toList.isEmpty = true) : lastS s.data.toList p.data.toList = -1 := by rw [empty_yes h, lastS_empty]
theorem last_w {s p : ByteArray} {i : Int} (h : p.toList.isEmpty = false) (hi : Lib.lastIndex s.data.toList p.data.toList = i) : lastS s.data.toList p.data.toList = i := by
  have hp := empty_no h
  rw [← hi]
  unfold Lib.lastIndex
  rcases lastS_spec (s := s.data.toList) hp with ⟨e, hn⟩ | ⟨k, hk, e, ho, hn⟩
  · rw [e]
    split
    · rcases Lib.lastOcc_spec s.data.toList p.data.toList (s.data.toList.length - p.data.toList.length + 1) with ⟨e2, _⟩ | ⟨j, _, _, h2, _⟩
      · rw [e2]
      · rw [hn j] at h2; cases h2
    · rfl
  · rw [e]
    have hroom : k + p.data.toList.length ≤ s.data.toList.length := by
      rcases Lib.occAt_room ho with h' | h'
      · exact h'
      · exact absurd h' hp
    rw [if_pos (by omega)]
    rcases Lib.lastOcc_spec s.data.toList p.data.toList (s.data.toList.length - p.data.toList.length + 1) with ⟨_, h2⟩ | ⟨j, hj, e2, h2, h3⟩
    · rw [h2 k (by omega)] at ho; cases ho
    · rw [e2]
      rcases Nat.lt_trichotomy j k with h' | h' | h'
      · rw [h3 k h' (by omega)] at ho; cases ho
      · rw [h']
      · rw [hn j h'] at h2; cases h2
theorem beginsS_cut (s part : ByteArray) {k : Nat} (hk : k ≤ s.size) : beginsS s.data.toList part.data.toList k = preB (s.extract k s.size) part := by
  unfold beginsS preB
  rw [extract_end, Int.toNat_natCast, size_len, decide_eq_true (by omega : (0 : Int) ≤ (k : Int)), decide_eq_true (by omega : (k : Int) ≤ (s.size : Int))]
  rfl

set_option maxHeartbeats 400000 in
theorem begins_any (s part : ByteArray) (a : Int) (w : World) (_hs : s.size ≤ 9223372036854775807) :
    Calls Try.prog 24 #[.string s, .string part, .int .i64 a] w fun e w' => e = .returned (.bool (beginsS s.data.toList part.data.toList a)) ∧ w = w' := by
  by_cases h0 : a < 0
  · go_enter Try.func24, Try.ntmps24
    go_wp2
    go_ret
    exact ⟨ret_bool (by unfold beginsS; simp; omega), rfl⟩
  · by_cases h1 : (s.size : Int) < a
    · go_enter Try.func24, Try.ntmps24
      go_wp2
      go_ret
      exact ⟨ret_bool (by unfold beginsS; simp; omega), rfl⟩
    · obtain ⟨k, rfl⟩ := Int.eq_ofNat_of_zero_le (by omega : 0 ≤ a)
      have hk : k ≤ s.size := by omega
      go_enter Try.func24, Try.ntmps24
      go_wp2_with (go_at_call 33; refine (prefix_any _ _ _).mono ?_; rintro e w' ⟨rfl, rfl⟩)
      go_ret
      exact ⟨ret_bool (by rw [beginsS_cut s part hk]), rfl⟩

set_option maxHeartbeats 400000 in
theorem find_any (s part : ByteArray) (a : Int) (w : World) (hs : s.size ≤ 4000000000) (m : Int) (hm : w.cell? ⟨0, 0, none⟩ = some (.int .i64 m)) :
    Calls Try.prog 20 #[.string s, .string part, .int .i64 a] w fun e w' => e = .returned (.int .i64 (findS s.data.toList part.data.toList a)) ∧ w = w' := by
  go_enter Try.func20, Try.ntmps20
  go_wp2_with (go_at_call 31; refine (index_any _ _ m _ (by rw [ByteArray.size_extract]; omega) hm).mono ?_; rintro e w' ⟨i, rfl, hi, h1, h2, rfl⟩; have HI := Lib.hid hi; clear hi; rw [ByteArray.size_extract] at h2)
  · go_ret
    exact ⟨ret_int (find_w1 (by assumption)).symm, rfl⟩
  · go_ret
    exact ⟨ret_int (find_w2 (by assumption)).symm, rfl⟩
  · go_ret
    exact ⟨ret_int (by rw [find_w3 (by assumption) HI.out, if_pos (by assumption)]), rfl⟩
  · go_ret
    exact ⟨ret_int (by rw [find_w3 (by assumption) HI.out, if_neg (by omega)]), rfl⟩

set_option maxHeartbeats 400000 in
theorem last_any (s part : ByteArray) (w : World) (hs : s.size ≤ 4000000000) :
    Calls Try.prog 22 #[.string s, .string part] w fun e w' => e = .returned (.int .i64 (lastS s.data.toList part.data.toList)) ∧ w = w' := by
  go_enter Try.func22, Try.ntmps22
  go_wp2_with (go_at_call 32; refine (lastindex_any _ _ _ (by omega)).mono ?_; rintro e w' ⟨i, rfl, hi, rfl⟩; have HI := Lib.hid hi; clear hi)
  · go_ret
    exact ⟨ret_int (last_w0 (by assumption)).symm, rfl⟩
  · go_ret
    exact ⟨ret_int (last_w (by assumption) HI.out).symm, rfl⟩

set_option maxHeartbeats 400000 in
theorem line_in (s : ByteArray) (a : Nat) (w : World) (hs : s.size ≤ 4000000000) (ha : a ≤ s.size) :
    Calls Try.prog 28 #[.string s, .int .i64 (a : Int)] w fun e w' => e = .returned (.int .i64 ((a + lineN (s.data.toList.drop a) : Nat) : Int)) ∧ w = w' := by
  have hd : decide (s.size < a) = false := by simp; omega
  have hl := lineN_to s.data.toList a
  have HL := Lib.hid hl
  clear hl
  go_enter Try.func28, Try.ntmps28
  go_wp2
  go_loop [19] (fun i => ∃ k : Nat, a + k ≤ s.size ∧ i = .int .i64 k ∧ LineAt s.data.toList a k) (fun i => s.size - (intOf i).toNat)
  case atStart => exact ⟨0, by omega, rfl, LineAt.zero _ _⟩
  case round =>
    obtain ⟨k, hk, rfl, hn⟩ := hrel
    have HN := Lib.hid hn
    clear hn
    by_cases hlt : a + k < s.size
    · go_wp2_with (first | (go_at_call 24; refine (begins_any _ _ _ _ (by omega)).mono ?_; rintro e w' ⟨rfl, rfl⟩) | (go_at_call 30; refine (among_any _ _ _ (by decide)).mono ?_; rintro e w' ⟨rfl, rfl⟩))
      · go_ret
        exact ⟨ret_int (HN.out.two (by assumption)), rfl⟩
      · go_ret
        exact ⟨ret_int (HN.out.one (by simpa using hlt) (by assumption) (by assumption)), rfl⟩
      · go_round
        case rel => exact ⟨k + 1, by omega, by go_num, HN.out.more (by simpa using hlt) (by assumption)⟩
        case measure => simp [intOf]; omega
    · go_wp2
      go_ret
      exact ⟨ret_int (HN.out.done (by simp; omega)), rfl⟩

/-- The same, as a loop wants it. -/
theorem line_to (s : ByteArray) (a : Nat) (w : World) (hs : s.size ≤ 4000000000) (ha : a < s.size) :
    Calls Try.prog 28 #[.string s, .int .i64 (a : Int)] w fun e w' => ∃ j : Nat, e = .returned (.int .i64 (j : Int)) ∧ a + lineN (s.data.toList.drop a) = j ∧ a < j ∧ j ≤ s.size ∧ w = w' :=
  (line_in s a w hs (by omega)).mono fun _ _ ⟨h1, h2⟩ => ⟨_, h1, rfl, by
    rw [drop_at (by simpa using ha : a < s.data.toList.length)]
    have := lineN_pos s.data.toList[a] (s.data.toList.drop (a + 1))
    omega, by have := lineN_to s.data.toList a; rw [size_len] at this; omega, h2⟩

theorem line_any (s : ByteArray) (a : Int) (w : World) (hs : s.size ≤ 4000000000) :
    Calls Try.prog 28 #[.string s, .int .i64 a] w fun e w' => e = .returned (.int .i64 (lineS s.data.toList a)) ∧ w = w' := by
  by_cases h0 : a < 0
  · go_enter Try.func28, Try.ntmps28
    go_wp2
    go_ret
    exact ⟨ret_int (by unfold lineS; rw [if_pos (.inl h0)]), rfl⟩
  · by_cases h1 : (s.size : Int) < a
    · go_enter Try.func28, Try.ntmps28
      go_wp2
      go_ret
      exact ⟨ret_int (by unfold lineS; rw [if_pos (.inr (by rw [size_len]; exact h1))]), rfl⟩
    · obtain ⟨k, rfl⟩ := Int.eq_ofNat_of_zero_le (by omega : 0 ≤ a)
      refine (line_in s k w hs (by omega)).mono fun e w' ⟨he, hw⟩ => ⟨?_, hw⟩
      rw [he]
      refine ret_int ?_
      unfold lineS
      rw [if_neg (by rw [size_len]; omega), Int.toNat_natCast, Int.natCast_add]

set_option maxHeartbeats 400000 in
theorem skip_in (s : ByteArray) (a : Nat) (w : World) (hs : s.size ≤ 4000000000) (ha : a ≤ s.size) :
    Calls Try.prog 26 #[.string s, .int .i64 (a : Int)] w fun e w' => ∃ j : Nat, e = .returned (.int .i64 (j : Int)) ∧ SkipAt s.data.toList a j ∧ j ≤ s.size ∧ w = w' := by
  have hd : decide (s.size < a) = false := by simp; omega
  go_enter Try.func26, Try.ntmps26
  go_wp2
  go_loop [1] (fun i => ∃ k : Nat, k ≤ s.size ∧ i = .int .i64 k ∧ SkipTo s.data.toList a k) (fun i => s.size - (intOf i).toNat)
  case atStart => exact ⟨a, by omega, rfl, SkipTo.zero _ _⟩
  case round =>
    obtain ⟨k, hk, rfl, hn⟩ := hrel
    have HN := Lib.hid hn
    clear hn
    by_cases hlt : k < s.size
    · go_wp2_with (first | (go_at_call 10; refine (white_any _ _).mono ?_; rintro e w' ⟨rfl, rfl⟩) | (go_at_call 28; refine (line_to _ _ _ hs hlt).mono ?_; rintro e w' ⟨j, rfl, hj, hj1, hj2, rfl⟩; have HJ := Lib.hid hj; clear hj))
      · go_round
        case rel => exact ⟨k + 1, by omega, by go_num, HN.out.white (by simpa using hlt) (by assumption)⟩
        case measure => simp [intOf]; omega
      · go_round
        case rel => exact ⟨j, hj2, rfl, HN.out.comment (by simpa using hlt) (by assumption) HJ.out⟩
        case measure => simp [intOf]; omega
      · go_ret
        exact ⟨k, rfl, HN.out.stop (by simpa using hlt) (by assumption) (by assumption), hk, rfl⟩
    · go_wp2
      go_ret
      exact ⟨k, rfl, HN.out.done (by rw [size_len]; omega), hk, rfl⟩

theorem skip_any (s : ByteArray) (a : Int) (w : World) (hs : s.size ≤ 4000000000) :
    Calls Try.prog 26 #[.string s, .int .i64 a] w fun e w' => e = .returned (.int .i64 (skipS s.data.toList a)) ∧ w = w' := by
  by_cases h0 : a < 0
  · go_enter Try.func26, Try.ntmps26
    go_wp2
    go_ret
    exact ⟨ret_int (by unfold skipS; rw [if_pos (.inl h0)]), rfl⟩
  · by_cases h1 : (s.size : Int) < a
    · go_enter Try.func26, Try.ntmps26
      go_wp2
      go_ret
      exact ⟨ret_int (by unfold skipS; rw [if_pos (.inr (by rw [size_len]; exact h1))]), rfl⟩
    · obtain ⟨k, rfl⟩ := Int.eq_ofNat_of_zero_le (by omega : 0 ≤ a)
      refine (skip_in s k w hs (by omega)).mono fun e w' ⟨j, he, hj, _, hw⟩ => ⟨?_, hw⟩
      rw [he]
      refine ret_int ?_
      unfold skipS
      unfold SkipAt at hj
      rw [if_neg (by rw [size_len]; omega), Int.toNat_natCast]
      omega
end Go.Proofs.Ytbpmfkikkocbhab
