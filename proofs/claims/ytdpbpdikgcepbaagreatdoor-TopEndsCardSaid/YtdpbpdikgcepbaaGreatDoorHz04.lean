/-
  Lemmas and walks, joined: OctB, OctC, OctD, OctEc, OctR.
-/
import Derived.Test.YtdpbpdikgcepbaaGreatDoorHz02
import Derived.Test.YtdpbpdikgcepbaaGreatDoorHz03
import Derived.Laws.IdiomStrings
import Derived.Laws.MakeOwn
import Derived.OwnWalk
import Derived.Lib.BufferRead
import Derived.StillTailTactics
import Derived.Deep.RegionWith
import Derived.Deep.RegionLaw
import Derived.BigQuiet
import Derived.Deep.QuietTactic
import Derived.LoopTactic
import Derived.Deep.RegionHeld3
import Derived.RegionTactic
import Derived.Deep.AppendLies
import Derived.Laws.BitsAllLaws
import Derived.IntWalk
namespace Go.Proofs.YtdpbpdikgcepbaaGreatDoor
open Go.RowKit Oct

theorem extract_end (s : ByteArray) (k : Nat) : (s.extract k s.size).data.toList = s.data.toList.drop k := by
  rw [Lib.extract_data, List.take_of_length_le (by simp)]

def preB (s p : ByteArray) : Bool := Lib.hasPrefix s.data.toList p.data.toList
theorem prefix_any (s p : ByteArray) (w : World) : Calls Tryz.prog 34 #[.string s, .string p] w fun e w' => e = .returned (.bool (preB s p)) ∧ w = w' :=
  (Tryz.strings_HasPrefix s p w).mono fun _ _ ⟨h1, h2⟩ => ⟨h1, h2.symm⟩
theorem size_len (s : ByteArray) : s.data.toList.length = s.size := by simp
theorem index_any (s p : ByteArray) (m : Int) (w : World) (hs : s.size < 4294967281) (hm : w.cell? ⟨0, 0, none⟩ = some (.int .i64 m)) :
    Calls Tryz.prog 33 #[.string s, .string p] w fun e w' => ∃ i : Int, e = .returned (.int .i64 i) ∧ Lib.index s.data.toList p.data.toList = i ∧ -1 ≤ i ∧ i ≤ s.size ∧ w = w' :=
  (Tryz.strings_Index s p m w hs hm).mono fun _ _ ⟨h1, h2⟩ => ⟨_, h1, rfl, Lib.index_ge _ _, by
    have h := size_len s
    rcases Lib.index_spec s.data.toList p.data.toList with ⟨e, _⟩ | ⟨i, e, hi, _⟩ <;> omega, h2.symm⟩
theorem lastindex_any (s p : ByteArray) (w : World) (hs : s.size < 4611686018427387904) :
    Calls Tryz.prog 37 #[.string s, .string p] w fun e w' => ∃ i : Int, e = .returned (.int .i64 i) ∧ Lib.lastIndex s.data.toList p.data.toList = i ∧ w = w' :=
  (Tryz.strings_LastIndex s p hs w).mono fun _ _ ⟨h1, h2⟩ => ⟨_, h1, rfl, h2.symm⟩

theorem empty_of {p : ByteArray} (h : p.toList = []) : p.data.toList = [] := by rw [← Lib.toList_data]; exact h
theorem empty_yes {p : ByteArray} (h : p.toList.isEmpty = true) : p.data.toList = [] := empty_of (List.isEmpty_iff.1 h)
theorem empty_no {p : ByteArray} (h : p.toList.isEmpty = false) : p.data.toList ≠ [] := by
  intro e
  rw [← Lib.toList_data] at e
  rw [e] at h
  cases h
theorem find_w1 {s p : ByteArray} {a : Int} (h : p.toList = []) : findS s.data.toList p.data.toList a = -1 := by rw [empty_of h, findS_empty]
theorem find_w2 {s p : ByteArray} {a : Int} (h : p.toList.isEmpty = true ∨ (s.size : Int) < max a 0) : findS s.data.toList p.data.toList a = -1 := by
  unfold findS
  rw [if_pos]
  rcases h with h | h
  · exact .inl (empty_yes h)
  · exact .inr (by rw [size_len]; exact h)
theorem find_w3 {s p : ByteArray} {a i : Int} (h : p.toList.isEmpty = false ∧ max a 0 ≤ (s.size : Int)) (hi : Lib.index (s.extract (max a 0).toNat s.size).data.toList p.data.toList = i) :
    findS s.data.toList p.data.toList a = if i < 0 then -1 else max a 0 + i := by
  unfold findS
  rw [if_neg (by rw [size_len]; have := empty_no h.1; simp [this]; omega), ← extract_end, hi]
theorem last_w0 {s p : ByteArray} (h : p.toList.isEmpty = true) : lastS s.data.toList p.data.toList = -1 := by rw [empty_yes h, lastS_empty]
/-- Of strings.LastIndex (37). -/
theorem last_w {s p : ByteArray} {i : Int} (h : p.toList.isEmpty = false) (hi : Lib.lastIndex s.data.toList p.data.toList = i) : lastS s.data.toList p.data.toList = i := by
  have hp := empty_no h
  rw [← hi]
  unfold Lib.lastIndex
  rcases lastS_spec (s := s.data.toList) hp with ⟨e, hn⟩ | ⟨k, hk, e, ho, hn⟩
  · rw [e]
    split
    · rcases Lib.lastOcc_spec s.data.toList p.data.toList (s.data.toList.length - p.data.toList.length + 1) with ⟨e2, _⟩ | ⟨j, _, _, h2, _⟩
      · rw [e2]
      · rw [hn j] at h2; cases h2
    · rfl
  · rw [e]
    have hroom : k + p.data.toList.length ≤ s.data.toList.length := by
      rcases Lib.occAt_room ho with h' | h'
      · exact h'
      · exact absurd h' hp
    rw [if_pos (by omega)]
    rcases Lib.lastOcc_spec s.data.toList p.data.toList (s.data.toList.length - p.data.toList.length + 1) with ⟨_, h2⟩ | ⟨j, hj, e2, h2, h3⟩
    · rw [h2 k (by omega)] at ho; cases ho
    · rw [e2]
      rcases Nat.lt_trichotomy j k with h' | h' | h'
      · rw [h3 k h' (by omega)] at ho; cases ho
      · rw [h']
      · rw [hn j h'] at h2; cases h2
theorem beginsS_cut (s part : ByteArray) {k : Nat} (hk : k ≤ s.size) : beginsS s.data.toList part.data.toList k = preB (s.extract k s.size) part := by
  unfold beginsS preB
  rw [extract_end, Int.toNat_natCast, size_len, decide_eq_true (by omega : (0 : Int) ≤ (k : Int)), decide_eq_true (by omega : (k : Int) ≤ (s.size : Int))]
  rfl

set_option maxHeartbeats 400000 in
theorem begins_any (s part : ByteArray) (a : Int) (w : World) (_hs : s.size ≤ 9223372036854775807) :
    Calls Tryz.prog 20 #[.string s, .string part, .int .i64 a] w fun e w' => e = .returned (.bool (beginsS s.data.toList part.data.toList a)) ∧ w = w' := by
  by_cases h0 : a < 0
  · go_enter Tryz.func20, Tryz.ntmps20
    go_wp2
    go_ret
    exact ⟨ret_bool (by unfold beginsS; simp; omega), rfl⟩
  · by_cases h1 : (s.size : Int) < a
    · go_enter Tryz.func20, Tryz.ntmps20
      go_wp2
      go_ret
      exact ⟨ret_bool (by unfold beginsS; simp; omega), rfl⟩
    · obtain ⟨k, rfl⟩ := Int.eq_ofNat_of_zero_le (by omega : 0 ≤ a)
      have hk : k ≤ s.size := by omega
      go_enter Tryz.func20, Tryz.ntmps20
      go_wp2_with (go_at_call 34; refine (prefix_any _ _ _).mono ?_; rintro e w' ⟨rfl, rfl⟩)
      go_ret
      exact ⟨ret_bool (by rw [beginsS_cut s part hk]), rfl⟩

set_option maxHeartbeats 400000 in
theorem find_any (s part : ByteArray) (a : Int) (w : World) (hs : s.size ≤ 4000000000) (m : Int) (hm : w.cell? ⟨0, 0, none⟩ = some (.int .i64 m)) :
    Calls Tryz.prog 19 #[.string s, .string part, .int .i64 a] w fun e w' => e = .returned (.int .i64 (findS s.data.toList part.data.toList a)) ∧ w = w' := by
  go_enter Tryz.func19, Tryz.ntmps19
  go_wp2_with (go_at_call 33; refine (index_any _ _ m _ (by rw [ByteArray.size_extract]; omega) hm).mono ?_; rintro e w' ⟨i, rfl, hi, h1, h2, rfl⟩; have HI := Lib.hid hi; clear hi; rw [ByteArray.size_extract] at h2)
  · go_ret
    exact ⟨ret_int (find_w1 (by assumption)).symm, rfl⟩
  · go_ret
    exact ⟨ret_int (find_w2 (by assumption)).symm, rfl⟩
  · go_ret
    exact ⟨ret_int (by rw [find_w3 (by assumption) HI.out, if_pos (by assumption)]), rfl⟩
  · go_ret
    exact ⟨ret_int (by rw [find_w3 (by assumption) HI.out, if_neg (by omega)]), rfl⟩

set_option maxHeartbeats 400000 in
theorem last_any (s part : ByteArray) (w : World) (hs : s.size ≤ 4000000000) :
    Calls Tryz.prog 24 #[.string s, .string part] w fun e w' => e = .returned (.int .i64 (lastS s.data.toList part.data.toList)) ∧ w = w' := by
  go_enter Tryz.func24, Tryz.ntmps24
  go_wp2_with (go_at_call 37; refine (lastindex_any _ _ _ (by omega)).mono ?_; rintro e w' ⟨i, rfl, hi, rfl⟩; have HI := Lib.hid hi; clear hi)
  · go_ret
    exact ⟨ret_int (last_w0 (by assumption)).symm, rfl⟩
  · go_ret
    exact ⟨ret_int (last_w (by assumption) HI.out).symm, rfl⟩

set_option maxHeartbeats 400000 in
theorem line_in (s : ByteArray) (a : Nat) (w : World) (hs : s.size ≤ 4000000000) (ha : a ≤ s.size) :
    Calls Tryz.prog 31 #[.string s, .int .i64 (a : Int)] w fun e w' => e = .returned (.int .i64 ((a + lineN (s.data.toList.drop a) : Nat) : Int)) ∧ w = w' := by
  have hd : decide (s.size < a) = false := by simp; omega
  have hl := lineN_to s.data.toList a
  have HL := Lib.hid hl
  clear hl
  go_enter Tryz.func31, Tryz.ntmps31
  go_wp2
  go_loop [19] (fun i => ∃ k : Nat, a + k ≤ s.size ∧ i = .int .i64 k ∧ LineAt s.data.toList a k) (fun i => s.size - (intOf i).toNat)
  case atStart => exact ⟨0, by omega, rfl, LineAt.zero _ _⟩
  case round =>
    obtain ⟨k, hk, rfl, hn⟩ := hrel
    have HN := Lib.hid hn
    clear hn
    by_cases hlt : a + k < s.size
    · go_wp2_with (first | (go_at_call 20; refine (begins_any _ _ _ _ (by omega)).mono ?_; rintro e w' ⟨rfl, rfl⟩) | (go_at_call 49; refine (among_any _ _ _ (by decide)).mono ?_; rintro e w' ⟨rfl, rfl⟩))
      · go_ret
        exact ⟨ret_int (HN.out.two (by assumption)), rfl⟩
      · go_ret
        exact ⟨ret_int (HN.out.one (by simpa using hlt) (by assumption) (by assumption)), rfl⟩
      · go_round
        case rel => exact ⟨k + 1, by omega, by go_num, HN.out.more (by simpa using hlt) (by assumption)⟩
        case measure => simp [intOf]; omega
    · go_wp2
      go_ret
      exact ⟨ret_int (HN.out.done (by simp; omega)), rfl⟩

/-- The same, as a loop wants it. -/
theorem line_to (s : ByteArray) (a : Nat) (w : World) (hs : s.size ≤ 4000000000) (ha : a < s.size) :
    Calls Tryz.prog 31 #[.string s, .int .i64 (a : Int)] w fun e w' => ∃ j : Nat, e = .returned (.int .i64 (j : Int)) ∧ a + lineN (s.data.toList.drop a) = j ∧ a < j ∧ j ≤ s.size ∧ w = w' :=
  (line_in s a w hs (by omega)).mono fun _ _ ⟨h1, h2⟩ => ⟨_, h1, rfl, by
    rw [drop_at (by simpa using ha : a < s.data.toList.length)]
    have := lineN_pos s.data.toList[a] (s.data.toList.drop (a + 1))
    omega, by have := lineN_to s.data.toList a; rw [size_len] at this; omega, h2⟩

theorem line_any (s : ByteArray) (a : Int) (w : World) (hs : s.size ≤ 4000000000) :
    Calls Tryz.prog 31 #[.string s, .int .i64 a] w fun e w' => e = .returned (.int .i64 (lineS s.data.toList a)) ∧ w = w' := by
  by_cases h0 : a < 0
  · go_enter Tryz.func31, Tryz.ntmps31
    go_wp2
    go_ret
    exact ⟨ret_int (by unfold lineS; rw [if_pos (.inl h0)]), rfl⟩
  · by_cases h1 : (s.size : Int) < a
    · go_enter Tryz.func31, Tryz.ntmps31
      go_wp2
      go_ret
      exact ⟨ret_int (by unfold lineS; rw [if_pos (.inr (by rw [size_len]; exact h1))]), rfl⟩
    · obtain ⟨k, rfl⟩ := Int.eq_ofNat_of_zero_le (by omega : 0 ≤ a)
      refine (line_in s k w hs (by omega)).mono fun e w' ⟨he, hw⟩ => ⟨?_, hw⟩
      rw [he]
      refine ret_int ?_
      unfold lineS
      rw [if_neg (by rw [size_len]; omega), Int.toNat_natCast, Int.natCast_add]

set_option maxHeartbeats 400000 in
theorem skip_in (s : ByteArray) (a : Nat) (w : World) (hs : s.size ≤ 4000000000) (ha : a ≤ s.size) :
    Calls Tryz.prog 38 #[.string s, .int .i64 (a : Int)] w fun e w' => ∃ j : Nat, e = .returned (.int .i64 (j : Int)) ∧ SkipAt s.data.toList a j ∧ j ≤ s.size ∧ w = w' := by
  have hd : decide (s.size < a) = false := by simp; omega
  go_enter Tryz.func38, Tryz.ntmps38
  go_wp2
  go_loop [1] (fun i => ∃ k : Nat, k ≤ s.size ∧ i = .int .i64 k ∧ SkipTo s.data.toList a k) (fun i => s.size - (intOf i).toNat)
  case atStart => exact ⟨a, by omega, rfl, SkipTo.zero _ _⟩
  case round =>
    obtain ⟨k, hk, rfl, hn⟩ := hrel
    have HN := Lib.hid hn
    clear hn
    by_cases hlt : k < s.size
    · go_wp2_with (first | (go_at_call 60; refine (white_any _ _).mono ?_; rintro e w' ⟨rfl, rfl⟩) | (go_at_call 31; refine (line_to _ _ _ hs hlt).mono ?_; rintro e w' ⟨j, rfl, hj, hj1, hj2, rfl⟩; have HJ := Lib.hid hj; clear hj))
      · go_round
        case rel => exact ⟨k + 1, by omega, by go_num, HN.out.white (by simpa using hlt) (by assumption)⟩
        case measure => simp [intOf]; omega
      · go_round
        case rel => exact ⟨j, hj2, rfl, HN.out.comment (by simpa using hlt) (by assumption) HJ.out⟩
        case measure => simp [intOf]; omega
      · go_ret
        exact ⟨k, rfl, HN.out.stop (by simpa using hlt) (by assumption) (by assumption), hk, rfl⟩
    · go_wp2
      go_ret
      exact ⟨k, rfl, HN.out.done (by rw [size_len]; omega), hk, rfl⟩

theorem skip_any (s : ByteArray) (a : Int) (w : World) (hs : s.size ≤ 4000000000) :
    Calls Tryz.prog 38 #[.string s, .int .i64 a] w fun e w' => e = .returned (.int .i64 (skipS s.data.toList a)) ∧ w = w' := by
  by_cases h0 : a < 0
  · go_enter Tryz.func38, Tryz.ntmps38
    go_wp2
    go_ret
    exact ⟨ret_int (by unfold skipS; rw [if_pos (.inl h0)]), rfl⟩
  · by_cases h1 : (s.size : Int) < a
    · go_enter Tryz.func38, Tryz.ntmps38
      go_wp2
      go_ret
      exact ⟨ret_int (by unfold skipS; rw [if_pos (.inr (by rw [size_len]; exact h1))]), rfl⟩
    · obtain ⟨k, rfl⟩ := Int.eq_ofNat_of_zero_le (by omega : 0 ≤ a)
      refine (skip_in s k w hs (by omega)).mono fun e w' ⟨j, he, hj, _, hw⟩ => ⟨?_, hw⟩
      rw [he]
      refine ret_int ?_
      unfold skipS
      unfold SkipAt at hj
      rw [if_neg (by rw [size_len]; omega), Int.toNat_natCast]
      omega
end Go.Proofs.YtdpbpdikgcepbaaGreatDoor
namespace Go.Proofs.YtdpbpdikgcepbaaGreatDoor
open Go.RowKit Oct

theorem info5 : (Tryz.prog.info? 5).map (fun i => (i.zero, i.size, i.bytes)) = some (some (.int .u8 0), 1, 1) := by kernel_rfl

def hexB (s : ByteArray) : ByteArray := ⟨(hexS s.data.toList).toArray⟩
def cellsOf (l : List UInt8) : List Value := l.map fun b => .int .u8 (b.toNat : Int)

theorem and15 (c : UInt8) : bits .and .u8 (c.toNat : Int) 15 = (c.toNat : Int) % 16 := by
  have h := u8_and_nat c.toNat 15 c.toNat_lt (by decide)
  have e : c.toNat &&& 15 = c.toNat % 16 := Nat.and_two_pow_sub_one_eq_mod c.toNat 4
  rw [e] at h
  rw [show ((15 : Nat) : Int) = 15 from rfl] at h
  rw [h]
  omega

theorem cellsOf_append (l m : List UInt8) : cellsOf (l ++ m) = cellsOf l ++ cellsOf m := List.map_append
theorem dg_byte (n : Nat) (h : n < 16) : (dgA[n]'h).toNat = (hexd n).toNat := by
  rw [hexd_nat n h]
  have := dgA_at n h
  omega

theorem dg_cells (c : UInt8) : cellsOf [hexd (c.toNat / 16), hexd (c.toNat % 16)] =
    [.int .u8 ((dgA[c.toNat / 16]'(by have := c.toNat_lt; show _ < 16; omega)).toNat : Int), .int .u8 ((dgA[c.toNat % 16]'(by show _ < 16; omega)).toNat : Int)] := by
  have h1 : ((hexd (c.toNat / 16)).toNat : Int) = ((dgA[c.toNat / 16]'(by have := c.toNat_lt; show _ < 16; omega)).toNat : Int) := congrArg _ (dg_byte _ (by have := c.toNat_lt; omega)).symm
  have h2 : ((hexd (c.toNat % 16)).toNat : Int) = ((dgA[c.toNat % 16]'(by show _ < 16; omega)).toNat : Int) := congrArg _ (dg_byte _ (by omega)).symm
  exact (congrArg (fun a : Int => [Value.int .u8 a, .int .u8 ((hexd (c.toNat % 16)).toNat : Int)]) h1).trans (congrArg (fun b : Int => [Value.int .u8 ((dgA[c.toNat / 16]'(by have := c.toNat_lt; show _ < 16; omega)).toNat : Int), .int .u8 b]) h2)
theorem hex_cells (s : ByteArray) (k : Nat) (h : k < s.size) : cellsOf (hexS (s.data.toList.take (k + 1))) = cellsOf (hexS (s.data.toList.take k)) ++
    [.int .u8 ((dgA[s[k].toNat / 16]'(by have := s[k].toNat_lt; show _ < 16; omega)).toNat : Int), .int .u8 ((dgA[s[k].toNat % 16]'(by show _ < 16; omega)).toNat : Int)] := by
  rw [hexS_more (l := s.data.toList) (by simpa using h), cellsOf_append]
  exact congrArg _ (dg_cells s[k])

/-- 'string(b)' of a row of the call's own. -/
theorem run_string_of_own {w : World} {base : Nat} {v : Value} {n : Nat} {l : List UInt8} (hown : w.ownsRow base 5 1 v n (cellsOf l)) (hn : l.length = n) :
    (convert 60 9 v).run Tryz.prog w = .ok (.string ⟨l.toArray⟩) w := by
  subst hn
  rcases hown.2 with ⟨rfl, h0⟩ | ⟨g, cap, cur, rfl, _⟩
  · have hl : l = [] := List.eq_nil_of_length_eq_zero h0
    subst hl
    exact Lib.run_convert_nil_bytes w _ _ _ 0 Tryz.underlying60 Tryz.underlying5 Tryz.underlying9
  · refine run_convert_bytes_back w _ _ _ ⟨g, 0, none⟩ cap l Tryz.underlying60 Tryz.underlying5 Tryz.underlying9 fun j hj => ?_
    exact hown.cells (g := g) rfl j _ (by simp [cellsOf, hj])

end Go.Proofs.YtdpbpdikgcepbaaGreatDoor
namespace Go.Proofs.YtdpbpdikgcepbaaGreatDoor
open Go.RowKit Oct

def unhexT (s : ByteArray) : ByteArray := ⟨((unhexS s.data.toList).getD []).toArray⟩
def unhexE (s : ByteArray) : Int := if (unhexS s.data.toList).isSome then 0 else 3

theorem unhexE_none {s : ByteArray} (h : unhexS s.data.toList = none) : unhexT s = ⟨#[]⟩ ∧ unhexE s = 3 := by
  unfold unhexT unhexE
  rw [h]
  exact ⟨rfl, rfl⟩
theorem unhexE_some {s : ByteArray} {l : List UInt8} (h : unhexS s.data.toList = some l) : unhexT s = ⟨l.toArray⟩ ∧ unhexE s = 0 := by
  unfold unhexT unhexE
  rw [h]
  exact ⟨rfl, rfl⟩
theorem unhex_odd {s : ByteArray} (h : s.size % 2 = 1) : unhexS s.data.toList = none := by
  cases hu : unhexS s.data.toList with
  | none => rfl
  | some l =>
    have := unhexS_even _ _ hu
    rw [size_len] at this
    omega
theorem ret_two {a b : ByteArray} {c d : Int} (h1 : a = b) (h2 : c = d) : Ending.returned (.tuple #[.string a, .int .i64 c]) = .returned (.tuple #[.string b, .int .i64 d]) := by rw [h1, h2]
theorem digit_q (c : UInt8) (w : World) : Calls Tryz.prog 62 #[.int .u8 (c.toNat : Int)] w fun e w' => e = .returned (.int .i64 (digitS c)) ∧ w' = w :=
  (digit_any c w).mono fun _ _ ⟨h1, h2⟩ => ⟨h1, h2.symm⟩

/-- After k rounds: the bytes so far, in a row of the call's own. -/
def UnhexTo (s : ByteArray) (k : Nat) (v : Value) (w : World) (base : Nat) : Prop :=
  ∃ l, unhexS (s.data.toList.take (2 * k)) = some l ∧ l.length = k ∧ w.ownsRow base 5 1 v k (cellsOf l)


theorem unhex_uneven (s : ByteArray) (w : World) (hs : s.size ≤ 4000000000) (hodd : s.size % 2 = 1) :
    Calls Tryz.prog 87 #[.string s] w fun e w' => e = .returned (.tuple #[.string (unhexT s), .int .i64 (unhexE s)]) ∧ Below w.heap.size w w' := by
  have HM := Lib.hid hodd
  have hq : ((s.size : Int) % 2 != 0) = true := by simp; omega
  clear hodd
  go_enter Tryz.func87, Tryz.ntmps87
  go_wp2_with fail
  go_ret2
  have h := unhexE_none (unhex_odd HM.out)
  exact ⟨ret_two h.1.symm h.2.symm, Below.refl _ _⟩

set_option maxRecDepth 100000 in
set_option maxHeartbeats 1600000 in
theorem unhex_even (s : ByteArray) (m : Nat) (w : World) (hs : s.size ≤ 4000000000) (hm1 : 2 * m ≤ s.size) (hm2 : s.size ≤ 2 * m) :
    Calls Tryz.prog 87 #[.string s] w fun e w' => e = .returned (.tuple #[.string (unhexT s), .int .i64 (unhexE s)]) ∧ Below w.heap.size w w' := by
  have hq : ((s.size : Int) % 2 != 0) = false := by simp; omega
  obtain ⟨i5, hi, hz0, hz1, hz2⟩ := info_parts info5
  go_enter Tryz.func87, Tryz.ntmps87
  go_wp2_with (first | (at_make; refine wpList_make_own _ rfl _ _ 60 rfl w.heap.size 5 i5 (.int .u8 0) 1 Tryz.underlying60 hi hz0 hz1 _ _ _ m rfl rfl (by omega) (by rw [hz2]; omega) (by unfold maxLen; omega) (Nat.le_refl _) ?_))
  intro w1 hown hgrow
  have hb1 : Below w.heap.size w w1 := (Below.refl _ _).grown hgrow (Nat.le_refl _) (fun _ h => by cases h)
  clear hgrow
  go_wp2
  go_loopw [4, 19] (fun v i wr => ∃ k : Nat, k ≤ m ∧ i = .int .i64 k ∧ UnhexTo s k v wr w.heap.size ∧ Below w.heap.size w wr) (fun _ i _ => m - (intOf i).toNat)
  case atStart => exact ⟨0, by omega, rfl, ⟨[], rfl, rfl, hown⟩, hb1⟩
  case round =>
    clear hown hb1
    obtain ⟨k, hk, rfl, ⟨l, hl, hlen, hown⟩, hb⟩ := hrel
    have HL := Lib.hid hl
    have HN := Lib.hid hlen
    clear hl hlen
    by_cases hlt : k < m
    · have hi0 : (0 : Int) ≤ 2 * (k : Int) := by omega
      have hi1 : 2 * (k : Int) < (s.size : Int) := by omega
      have hi2 : 2 * (k : Int) + 1 < (s.size : Int) := by omega
      have hi3 : (0 : Int) ≤ 2 * (k : Int) + 1 := by omega
      have hw1 : IntKind.i64.wrap (2 * (k : Int)) = 2 * (k : Int) := IntWalk.i64_in _ (by omega)
      have hw2 : IntKind.i64.wrap (2 * (k : Int) + 1) = 2 * (k : Int) + 1 := IntWalk.i64_in _ (by omega)
      have ht1 : (2 * (k : Int)).toNat = 2 * k := by omega
      have ht2 : (2 * (k : Int) + 1).toNat = 2 * k + 1 := by omega
      have d1 := digit_le (s[2 * k]'(by omega))
      have d2 := digit_le (s[2 * k + 1]'(by omega))
      have b1 : 2 * k < s.size := by omega
      have b2 : 2 * k + 1 < s.size := by omega
      have c2 : 2 * k + 1 < s.data.toList.length := by rw [size_len]; exact b2
      by_cases n1 : digitS (s[2 * k]'(by omega)) < 0
      · go_wp2
        go_quiet ((go_at_call 62; exact Calls.quiet_of_same (digit_q _ _)))
        clear hw1 hw2
        go_wp2
        go_ret2
        have h := unhexE_none (s := s) (unhex_fail HL.out c2 (.inl n1))
        exact ⟨ret_two h.1.symm h.2.symm, below_drewN hb _⟩
      · by_cases n2 : digitS (s[2 * k + 1]'(by omega)) < 0
        · go_wp2
          go_quiet ((go_at_call 62; exact Calls.quiet_of_same (digit_q _ _)))
          clear hw1 hw2
          go_wp2
          go_ret2
          have h := unhexE_none (s := s) (unhex_fail HL.out c2 (.inr n2))
          exact ⟨ret_two h.1.symm h.2.symm, below_drewN hb _⟩
        · have hp1 : 0 ≤ digitS (s[2 * k]'(by omega)) := by omega
          have hp2 : 0 ≤ digitS (s[2 * k + 1]'(by omega)) := by omega
          go_wp2
          go_quiet ((go_at_call 62; exact Calls.quiet_of_same (digit_q _ _)))
          clear hw1 hw2
          have ho := World.ownsRow.alloc (w := wr.drewN nq) hown (.cells #[.int .u8 (16 * digitS (s[2 * k]'b1) + digitS (s[2 * k + 1]'b2))] 5)
          go_wp2_with (first | (at_builtin; refine wpList_append_own _ rfl _ _ 60 rfl w.heap.size 5 i5 (.int .u8 0) 1 1 Tryz.underlying60 hi hz0 hz1 hz2 rfl (by decide) _ _ _ rfl ho ⟨wr.heap.size, 0, none⟩ 1 1 [.int .u8 (16 * digitS (s[2 * k]'b1) + digitS (s[2 * k + 1]'b2))] rfl rfl (World.news_of_block (heap_alloc_new (wr.drewN nq) _)) (by simp [Value.oneCell']) (by unfold maxLen; omega) (by omega) (by have := hb.size; simp; omega) ?_))
          intro v2 w2 hown2 hgrow2
          intros
          go_wp2
          go_roundw
          case rel =>
            refine ⟨k + 1, by omega, by go_num, ⟨l ++ [pairByte (s[2 * k]'b1) (s[2 * k + 1]'b2)], unhex_more HL.out c2 hp1 hp2, by rw [List.length_append, HN.out]; rfl, ?_⟩, ?_⟩
            · rw [cellsOf_append, show cellsOf [pairByte (s[2 * k]'b1) (s[2 * k + 1]'b2)] = [.int .u8 (16 * digitS (s[2 * k]'b1) + digitS (s[2 * k + 1]'b2))] from by rw [← pairByte_int _ _ hp1 hp2]; rfl]
              exact hown2
            · exact ((below_drewN hb nq).alloc hb.size _).grown hgrow2 (by have := hb.size; simp; omega) (fun g h => (hown.lt g h).1)
          case measure => simp [intOf]; omega
    · obtain rfl : k = m := by omega
      have hconv := run_string_of_own hown HN.out
      have h := unhexE_some (s := s) (l := l) (by rw [← HL.out, List.take_of_length_le (by rw [size_len]; omega)])
      have H := Lib.hid h
      clear h hown
      go_wp2
      go_ret2
      exact ⟨ret_two H.out.1.symm H.out.2.symm, hb⟩

theorem unhex_any (s : ByteArray) (w : World) (hs : s.size ≤ 4000000000) :
    Calls Tryz.prog 87 #[.string s] w fun e w' => e = .returned (.tuple #[.string (unhexT s), .int .i64 (unhexE s)]) ∧ Below w.heap.size w w' := by
  by_cases h : s.size % 2 = 1
  · exact unhex_uneven s w hs h
  · exact unhex_even s (s.size / 2) w hs (by omega) (by omega)
end Go.Proofs.YtdpbpdikgcepbaaGreatDoor
namespace Go.Proofs.YtdpbpdikgcepbaaGreatDoor
open Go.RowKit Oct

theorem byte_of {n : Int} (h0 : 0 ≤ n) (h1 : n < 256) : ((UInt8.ofNat n.toNat).toNat : Int) = n := by
  rw [UInt8.toNat_ofNat']; omega

/- The contracts at constants: the answer is worked out. -/
theorem white_c (n : Int) (b : Bool) (w : World) (h0 : 0 ≤ n) (h1 : n < 256) (h : whiteS (UInt8.ofNat n.toNat) = b) : Calls Tryz.prog 60 #[.int .u8 n] w fun e w' => e = .returned (.bool b) ∧ w = w' := by
  have := white_any (UInt8.ofNat n.toNat) w
  rwa [byte_of h0 h1, h] at this
theorem delim_c (n : Int) (b : Bool) (w : World) (h0 : 0 ≤ n) (h1 : n < 256) (h : delimS (UInt8.ofNat n.toNat) = b) : Calls Tryz.prog 115 #[.int .u8 n] w fun e w' => e = .returned (.bool b) ∧ w = w' := by
  have := delim_any (UInt8.ofNat n.toNat) w
  rwa [byte_of h0 h1, h] at this
theorem regular_c (n : Int) (b : Bool) (w : World) (h0 : 0 ≤ n) (h1 : n < 256) (h : regularS (UInt8.ofNat n.toNat) = b) : Calls Tryz.prog 89 #[.int .u8 n] w fun e w' => e = .returned (.bool b) ∧ w = w' := by
  have := regular_any (UInt8.ofNat n.toNat) w
  rwa [byte_of h0 h1, h] at this
theorem digit_c (n r : Int) (w : World) (h0 : 0 ≤ n) (h1 : n < 256) (h : digitS (UInt8.ofNat n.toNat) = r) : Calls Tryz.prog 62 #[.int .u8 n] w fun e w' => e = .returned (.int .i64 r) ∧ w = w' := by
  have := digit_any (UInt8.ofNat n.toNat) w
  rwa [byte_of h0 h1, h] at this
theorem unhex_c (s t : ByteArray) (c : Int) (w : World) (hs : s.size ≤ 4000000000) (h : unhexT s = t) (hc : unhexE s = c) :
    Calls Tryz.prog 87 #[.string s] w fun e w' => e = .returned (.tuple #[.string t, .int .i64 c]) ∧ Below w.heap.size w w' := h ▸ hc ▸ unhex_any s w hs
theorem find_c (s part : ByteArray) (a r : Int) (w : World) (hs : s.size ≤ 4000000000) (hm : MaxLenAt w) (h : findS s.data.toList part.data.toList a = r) :
    Calls Tryz.prog 19 #[.string s, .string part, .int .i64 a] w fun e w' => e = .returned (.int .i64 r) ∧ w = w' := by
  obtain ⟨m, hm⟩ := hm
  exact h ▸ find_any s part a w hs m hm
theorem last_c (s part : ByteArray) (r : Int) (w : World) (hs : s.size ≤ 4000000000) (h : lastS s.data.toList part.data.toList = r) :
    Calls Tryz.prog 24 #[.string s, .string part] w fun e w' => e = .returned (.int .i64 r) ∧ w = w' := h ▸ last_any s part w hs
theorem begins_c (s part : ByteArray) (a : Int) (b : Bool) (w : World) (hs : s.size ≤ 9223372036854775807) (h : beginsS s.data.toList part.data.toList a = b) :
    Calls Tryz.prog 20 #[.string s, .string part, .int .i64 a] w fun e w' => e = .returned (.bool b) ∧ w = w' := h ▸ begins_any s part a w hs
theorem skip_c (s : ByteArray) (a r : Int) (w : World) (hs : s.size ≤ 4000000000) (h : skipS s.data.toList a = r) :
    Calls Tryz.prog 38 #[.string s, .int .i64 a] w fun e w' => e = .returned (.int .i64 r) ∧ w = w' := h ▸ skip_any s a w hs
theorem line_c (s : ByteArray) (a r : Int) (w : World) (hs : s.size ≤ 4000000000) (h : lineS s.data.toList a = r) :
    Calls Tryz.prog 31 #[.string s, .int .i64 a] w fun e w' => e = .returned (.int .i64 r) ∧ w = w' := h ▸ line_any s a w hs
end Go.Proofs.YtdpbpdikgcepbaaGreatDoor
namespace Go.Proofs.YtdpbpdikgcepbaaGreatDoor
open Go.RowKit Oct

theorem white_int (c : UInt8) : whiteS c = ((c.toNat : Int) == 0 || (c.toNat : Int) == 9 || (c.toNat : Int) == 10 || (c.toNat : Int) == 12 || (c.toNat : Int) == 13 || (c.toNat : Int) == 32) := by
  have := all_bytes (fun c => whiteS c == ((c.toNat : Int) == 0 || (c.toNat : Int) == 9 || (c.toNat : Int) == 10 || (c.toNat : Int) == 12 || (c.toNat : Int) == 13 || (c.toNat : Int) == 32)) (by decide +kernel) c
  exact eq_of_beq this

set_option maxHeartbeats 2000000 in
theorem white_r (c : UInt8) (w : World) : Calls Tryz.prog 71 #[.int .u8 (c.toNat : Int)] w fun e w' => e = .returned (.bool (whiteS c)) ∧ w = w' := by
  go_enter Tryz.func71, Tryz.ntmps71
  go_wp2
  all_goals
    go_ret
    exact ⟨ret_bool (by first | exact (white_int c).symm | (rw [white_int]; simp [*])), rfl⟩

theorem delim_int (c : UInt8) : delimS c = ((c.toNat : Int) == 40 || (c.toNat : Int) == 41 || (c.toNat : Int) == 60 || (c.toNat : Int) == 62 || (c.toNat : Int) == 91 || (c.toNat : Int) == 93 || (c.toNat : Int) == 123 || (c.toNat : Int) == 125 || (c.toNat : Int) == 47 || (c.toNat : Int) == 37) := by
  have := all_bytes (fun c => delimS c == ((c.toNat : Int) == 40 || (c.toNat : Int) == 41 || (c.toNat : Int) == 60 || (c.toNat : Int) == 62 || (c.toNat : Int) == 91 || (c.toNat : Int) == 93 || (c.toNat : Int) == 123 || (c.toNat : Int) == 125 || (c.toNat : Int) == 47 || (c.toNat : Int) == 37)) (by decide +kernel) c
  exact eq_of_beq this

set_option maxHeartbeats 2000000 in
theorem delim_r (c : UInt8) (w : World) : Calls Tryz.prog 121 #[.int .u8 (c.toNat : Int)] w fun e w' => e = .returned (.bool (delimS c)) ∧ w = w' := by
  go_enter Tryz.func121, Tryz.ntmps121
  go_wp2
  all_goals
    go_ret
    exact ⟨ret_bool (by first | exact (delim_int c).symm | (rw [delim_int]; simp [*])), rfl⟩

theorem regular_r (c : UInt8) (w : World) : Calls Tryz.prog 98 #[.int .u8 (c.toNat : Int)] w fun e w' => e = .returned (.bool (regularS c)) ∧ w = w' := by
  go_enter Tryz.func98, Tryz.ntmps98
  go_wp2_with (first | (go_at_call 71; refine (white_r _ _).mono ?_; rintro e w' ⟨rfl, rfl⟩) | (go_at_call 121; refine (delim_r _ _).mono ?_; rintro e w' ⟨rfl, rfl⟩))
  · go_ret
    have h : whiteS c = true := by assumption
    exact ⟨ret_bool (by simp [regularS, h]), rfl⟩
  · go_ret
    have h : ¬ whiteS c = true := by assumption
    exact ⟨ret_bool (by simp [regularS, h]), rfl⟩

set_option maxHeartbeats 1000000 in
theorem digit_r (c : UInt8) (w : World) : Calls Tryz.prog 99 #[.int .u8 (c.toNat : Int)] w fun e w' => e = .returned (.int .i64 (digitS c)) ∧ w = w' := by
  have hb : (c.toNat : Int) < 48 ∨ (48 ≤ (c.toNat : Int) ∧ (c.toNat : Int) ≤ 57) ∨ (57 < (c.toNat : Int) ∧ (c.toNat : Int) < 65) ∨ (65 ≤ (c.toNat : Int) ∧ (c.toNat : Int) ≤ 70) ∨ (70 < (c.toNat : Int) ∧ (c.toNat : Int) < 97) ∨ (97 ≤ (c.toNat : Int) ∧ (c.toNat : Int) ≤ 102) ∨ 102 < (c.toNat : Int) := by omega
  rcases hb with hb | ⟨hb, hb'⟩ | ⟨hb, hb'⟩ | ⟨hb, hb'⟩ | ⟨hb, hb'⟩ | ⟨hb, hb'⟩ | hb
  all_goals
    go_enter Tryz.func99, Tryz.ntmps99
    go_wp2
    go_ret
    exact ⟨ret_int (by unfold digitS; (repeat' split) <;> omega), rfl⟩

theorem begins_cut (s part : ByteArray) {k : Nat} (h : k + part.size ≤ s.size) : ((s.extract k (k + part.size)).toList == part.toList) = beginsS s.data.toList part.data.toList k := by
  rw [beginsS_nat, decide_eq_true (by rw [size_len]; omega), Bool.true_and, Lib.occAt_iff_take _ _ _ (by rw [size_len, size_len]; exact h), Lib.toList_data, Lib.toList_data, Lib.extract_data, size_len]
  congr 2
  rw [Nat.add_sub_cancel_left]
theorem begins_short (s part : ByteArray) {k : Nat} (h : s.size < k + part.size) : beginsS s.data.toList part.data.toList k = false := by
  rw [beginsS_nat]
  cases ho : Lib.occAt s.data.toList part.data.toList k with
  | false => simp
  | true =>
    rcases Lib.occAt_room ho with h' | h'
    · rw [size_len, size_len] at h'; omega
    · have : part.size = 0 := by rw [← size_len, h']; rfl
      rw [decide_eq_false (by rw [size_len]; omega)]
      rfl

set_option maxHeartbeats 400000 in
theorem begins_r (s part : ByteArray) (a : Int) (w : World) (hs : s.size ≤ 4000000000) (hp : part.size ≤ 4000000000) :
    Calls Tryz.prog 22 #[.string s, .string part, .int .i64 a] w fun e w' => e = .returned (.bool (beginsS s.data.toList part.data.toList a)) ∧ w = w' := by
  by_cases h0 : a < 0
  · go_enter Tryz.func22, Tryz.ntmps22
    go_wp2
    go_ret
    exact ⟨ret_bool (by unfold beginsS; simp; omega), rfl⟩
  · by_cases h1 : (s.size : Int) < a
    · go_enter Tryz.func22, Tryz.ntmps22
      go_wp2
      go_ret
      exact ⟨ret_bool (by unfold beginsS; simp; omega), rfl⟩
    · obtain ⟨k, rfl⟩ := Int.eq_ofNat_of_zero_le (by omega : 0 ≤ a)
      have hk : k ≤ s.size := by omega
      by_cases h2 : (part.size : Int) ≤ (s.size : Int) - (k : Int)
      · go_enter Tryz.func22, Tryz.ntmps22
        go_wp2
        go_ret
        exact ⟨ret_bool (begins_cut s part (by omega)), rfl⟩
      · go_enter Tryz.func22, Tryz.ntmps22
        go_wp2
        go_ret
        exact ⟨ret_bool (begins_short s part (by omega)).symm, rfl⟩

theorem from_int' (a : Int) : max a 0 = (fromN a : Int) := by unfold fromN; omega
def NoneTo (s part : ByteArray) (a : Int) (i : Nat) : Prop := ∀ j, fromN a ≤ j → j < i → Lib.occAt s.data.toList part.data.toList j = false

theorem begins_rn (s part : ByteArray) (i : Nat) (b : Bool) (w : World) (hs : s.size ≤ 4000000000) (hp : part.size ≤ 4000000000) (h : beginsS s.data.toList part.data.toList i = b) :
    Calls Tryz.prog 22 #[.string s, .string part, .int .i64 i] w fun e w' => e = .returned (.bool b) ∧ w = w' := h ▸ begins_r s part i w hs hp

theorem find_r_empty (s part : ByteArray) (a : Int) (w : World) (h1 : part.toList.isEmpty = true) (h2 : part.toList = []) :
    Calls Tryz.prog 21 #[.string s, .string part, .int .i64 a] w fun e w' => e = .returned (.int .i64 (findS s.data.toList part.data.toList a)) ∧ w = w' := by
  have hf := find_w1 (s := s) (p := part) (a := a) h2
  have HF := Lib.hid hf
  clear hf h2
  go_enter Tryz.func21, Tryz.ntmps21
  go_wp2
  go_ret
  exact ⟨ret_int HF.out.symm, rfl⟩

theorem NoneTo.succ {s part : ByteArray} {a : Int} {i : Nat} (h : NoneTo s part a i) (hp : part.data.toList ≠ []) (hb : beginsS s.data.toList part.data.toList (i : Int) = false) : NoneTo s part a (i + 1) := fun j h1 h2 => by
  rcases Nat.lt_succ_iff_lt_or_eq.1 h2 with h' | rfl
  · exact h j h1 h'
  · rw [← beginsS_ne hp]; exact hb

set_option maxHeartbeats 1000000 in
theorem find_r_some (s part : ByteArray) (a : Int) (w : World) (hs : s.size ≤ 4000000000) (hp : part.size ≤ 4000000000) (h1 : part.toList.isEmpty = false) :
    Calls Tryz.prog 21 #[.string s, .string part, .int .i64 a] w fun e w' => e = .returned (.int .i64 (findS s.data.toList part.data.toList a)) ∧ w = w' := by
  have hne := empty_no h1
  have HE := Lib.hid hne
  clear hne
  go_enter Tryz.func21, Tryz.ntmps21
  go_wp2_with fail
  go_loop [7] (fun v => ∃ i : Nat, fromN a ≤ i ∧ v = .int .i64 i ∧ NoneTo s part a i) (fun v => s.size - (intOf v).toNat)
  case atStart => exact ⟨fromN a, Nat.le_refl _, by rw [from_int'], fun j h1 h2 => by omega⟩
  case round =>
    obtain ⟨i, hi, rfl, hn⟩ := hrel
    have HN := Lib.hid hn
    clear hn
    by_cases hlt : i < s.size
    · go_wp2_with (go_at_call 22; refine (begins_r _ _ _ _ hs hp).mono ?_; rintro e w' ⟨rfl, rfl⟩)
      · go_ret
        have hb : beginsS s.data.toList part.data.toList (i : Int) = true := by assumption
        exact ⟨ret_int (findS_hit HE.out a hi (by rw [← beginsS_ne HE.out]; exact hb) HN.out).symm, rfl⟩
      · have hb : beginsS s.data.toList part.data.toList (i : Int) = false := by assumption
        go_round
        case rel => exact ⟨i + 1, by omega, by go_num, HN.out.succ HE.out hb⟩
        case measure => simp [intOf]; omega
    · go_wp2_with fail
      go_ret
      exact ⟨ret_int (findS_none HE.out a fun j h1 h2 => HN.out j h1 (by rw [size_len] at h2; omega)).symm, rfl⟩

theorem find_r (s part : ByteArray) (a : Int) (w : World) (hs : s.size ≤ 4000000000) (hp : part.size ≤ 4000000000) :
    Calls Tryz.prog 21 #[.string s, .string part, .int .i64 a] w fun e w' => e = .returned (.int .i64 (findS s.data.toList part.data.toList a)) ∧ w = w' := by
  cases h : part.toList.isEmpty
  · exact find_r_some s part a w hs hp h
  · exact find_r_empty s part a w h (List.isEmpty_iff.1 h)

def LastTo (s part : ByteArray) (i : Nat) (r : Int) : Prop := lastUpto s.data.toList part.data.toList i = r
set_option maxHeartbeats 1000000 in
theorem last_r_some (s part : ByteArray) (w : World) (hs : s.size ≤ 4000000000) (hp : part.size ≤ 4000000000) (h1 : part.toList.isEmpty = false) :
    Calls Tryz.prog 26 #[.string s, .string part] w fun e w' => e = .returned (.int .i64 (lastS s.data.toList part.data.toList)) ∧ w = w' := by
  have hne := empty_no h1
  have HE := Lib.hid hne
  clear hne
  go_enter Tryz.func26, Tryz.ntmps26
  go_wp2_with fail
  go_loop [5, 6] (fun u v => ∃ i : Nat, ∃ r : Int, i ≤ s.size ∧ v = .int .i64 i ∧ u = .int .i64 r ∧ LastTo s part i r) (fun _ v => s.size - (intOf v).toNat)
  case atStart => exact ⟨0, -1, by omega, rfl, rfl, rfl⟩
  case round =>
    obtain ⟨i, r, hi, rfl, rfl, hn⟩ := hrel
    have HN := Lib.hid hn
    clear hn
    by_cases hlt : i < s.size
    · go_wp2_with (go_at_call 22; refine (begins_r _ _ _ _ hs hp).mono ?_; rintro e w' ⟨rfl, rfl⟩)
      · have hb : beginsS s.data.toList part.data.toList (i : Int) = true := by assumption
        go_round
        case rel => exact ⟨i + 1, (i : Int), by omega, by go_num, rfl, lastUpto_hit _ _ _ (by rw [← beginsS_ne HE.out]; exact hb)⟩
        case measure => simp [intOf]; omega
      · have hb : beginsS s.data.toList part.data.toList (i : Int) = false := by assumption
        go_round
        case rel => exact ⟨i + 1, r, by omega, by go_num, rfl, (lastUpto_miss _ _ _ (by rw [← beginsS_ne HE.out]; exact hb)).trans HN.out⟩
        case measure => simp [intOf]; omega
    · obtain rfl : i = s.size := by omega
      go_wp2_with fail
      go_ret
      exact ⟨ret_int (by unfold lastS; rw [if_neg HE.out, size_len]; exact HN.out.symm), rfl⟩

set_option maxHeartbeats 1000000 in
theorem last_r_empty (s part : ByteArray) (w : World) (hs : s.size ≤ 4000000000) (h1 : part.toList.isEmpty = true) (h2 : part.toList = []) :
    Calls Tryz.prog 26 #[.string s, .string part] w fun e w' => e = .returned (.int .i64 (lastS s.data.toList part.data.toList)) ∧ w = w' := by
  have hl := last_w0 (s := s) h1
  have HL := Lib.hid hl
  clear hl
  go_enter Tryz.func26, Tryz.ntmps26
  go_wp2_with fail
  go_loop [5, 6] (fun u v => ∃ i : Nat, i ≤ s.size ∧ v = .int .i64 i ∧ u = .int .i64 (-1)) (fun _ v => s.size - (intOf v).toNat)
  case atStart => exact ⟨0, by omega, rfl, rfl⟩
  case round =>
    obtain ⟨i, hi, rfl, rfl⟩ := hrel
    by_cases hlt : i < s.size
    · go_wp2_with fail
      go_round
      case rel => exact ⟨i + 1, by omega, by go_num, rfl⟩
      case measure => simp [intOf]; omega
    · go_wp2_with fail
      go_ret
      exact ⟨ret_int HL.out.symm, rfl⟩

theorem last_r (s part : ByteArray) (w : World) (hs : s.size ≤ 4000000000) (hp : part.size ≤ 4000000000) :
    Calls Tryz.prog 26 #[.string s, .string part] w fun e w' => e = .returned (.int .i64 (lastS s.data.toList part.data.toList)) ∧ w = w' := by
  cases h : part.toList.isEmpty
  · exact last_r_some s part w hs hp h
  · exact last_r_empty s part w hs h (List.isEmpty_iff.1 h)

/- Line and Skip of the reference. -/
def LineTo (l : List UInt8) (a k : Nat) : Prop := a + lineN (l.drop a) = k + lineN (l.drop k)
theorem LineTo.two {l : List UInt8} {a k : Nat} (h : LineTo l a k) (hb : beginsS l [13, 10] (k : Int) = true) : (k : Int) + 2 = ((a + lineN (l.drop a) : Nat) : Int) := by
  obtain ⟨t, ht⟩ := (begins_two l k).1 hb
  unfold LineTo at h
  rw [ht, line_crlf] at h
  omega
theorem eol_int {c : UInt8} (h : (c.toNat : Int) = 13 ∨ (c.toNat : Int) = 10) : c = 10 ∨ c = 13 := by
  rcases h with h | h
  · exact .inr (UInt8.toNat_inj.1 (by have e : (13 : UInt8).toNat = 13 := rfl; omega))
  · exact .inl (UInt8.toNat_inj.1 (by have e : (10 : UInt8).toNat = 10 := rfl; omega))
theorem LineTo.one {l : List UInt8} {a k : Nat} (h : LineTo l a k) (hk : k < l.length) (hb : beginsS l [13, 10] (k : Int) = false) (hm : (l[k].toNat : Int) = 13 ∨ (l[k].toNat : Int) = 10) : (k : Int) + 1 = ((a + lineN (l.drop a) : Nat) : Int) := by
  unfold LineTo at h
  have hne : ∀ u, l[k] :: l.drop (k + 1) ≠ 13 :: 10 :: u := fun u e => by
    rw [← drop_at hk] at e
    have := (begins_two l k).2 ⟨u, e⟩
    rw [hb] at this
    cases this
  rw [drop_at hk, line_eol (eol_int hm) hne] at h
  omega
theorem LineTo.more {l : List UInt8} {a k : Nat} (h : LineTo l a k) (hk : k < l.length) (hm : ¬ (l[k].toNat : Int) = 13) (hm2 : ((l[k].toNat : Int) == 13) = false ∧ ((l[k].toNat : Int) == 10) = false) : LineTo l a (k + 1) := by
  have hne : ¬ (l[k] = 10 ∨ l[k] = 13) := by
    rintro (e | e)
    · have := hm2.2
      rw [e] at this
      cases this
    · rw [e] at hm
      exact hm rfl
  unfold LineTo at h ⊢
  rw [drop_at hk, line_more hne] at h
  rw [h]
  omega
theorem eol_or {x : Int} (h : (x == 13) = true ∨ (x == 10) = true) : x = 13 ∨ x = 10 := by
  rcases h with h | h
  · exact .inl (eq_of_beq h)
  · exact .inr (eq_of_beq h)
theorem LineTo.done {l : List UInt8} {a k : Nat} (h : LineTo l a k) (hk : k = l.length) : (l.length : Int) = ((a + lineN (l.drop a) : Nat) : Int) := by
  unfold LineTo at h
  rw [List.drop_eq_nil_of_le (by omega : l.length ≤ k)] at h
  have : lineN [] = 0 := rfl
  omega

set_option maxHeartbeats 1000000 in
theorem line_r_in (s : ByteArray) (a : Nat) (w : World) (hs : s.size ≤ 4000000000) (ha : a ≤ s.size) :
    Calls Tryz.prog 32 #[.string s, .int .i64 (a : Int)] w fun e w' => e = .returned (.int .i64 ((a + lineN (s.data.toList.drop a) : Nat) : Int)) ∧ w = w' := by
  have hd : decide (s.size < a) = false := by simp; omega
  go_enter Tryz.func32, Tryz.ntmps32
  go_wp2_with fail
  go_loop [5] (fun v => ∃ k : Nat, k ≤ s.size ∧ v = .int .i64 k ∧ LineTo s.data.toList a k) (fun v => s.size - (intOf v).toNat)
  case atStart => exact ⟨a, by omega, rfl, rfl⟩
  case round =>
    obtain ⟨k, hk, rfl, hn⟩ := hrel
    have HN := Lib.hid hn
    clear hn
    by_cases hlt : k < s.size
    · go_wp2_with (go_at_call 22; refine (begins_r _ _ _ _ hs (by decide)).mono ?_; rintro e w' ⟨rfl, rfl⟩)
      · go_ret
        exact ⟨ret_int (HN.out.two (by assumption)), rfl⟩
      · go_ret
        exact ⟨ret_int (HN.out.one (by simpa using hlt) (by assumption) (.inl (by assumption))), rfl⟩
      · go_ret
        exact ⟨ret_int (HN.out.one (by simpa using hlt) (by assumption) (eol_or (by assumption))), rfl⟩
      · go_round
        case rel => exact ⟨k + 1, by omega, by go_num, HN.out.more (by simpa using hlt) (by assumption) (by assumption)⟩
        case measure => simp [intOf]; omega
    · obtain rfl : k = s.size := by omega
      go_wp2_with fail
      go_ret
      exact ⟨ret_int (by have := HN.out.done (by simp); rw [size_len] at this; omega), rfl⟩

theorem line_rto (s : ByteArray) (a : Nat) (w : World) (hs : s.size ≤ 4000000000) (ha : a < s.size) :
    Calls Tryz.prog 32 #[.string s, .int .i64 (a : Int)] w fun e w' => ∃ j : Nat, e = .returned (.int .i64 (j : Int)) ∧ a + lineN (s.data.toList.drop a) = j ∧ a < j ∧ j ≤ s.size ∧ w = w' :=
  (line_r_in s a w hs (by omega)).mono fun _ _ ⟨h1, h2⟩ => ⟨_, h1, rfl, by
    rw [drop_at (by simpa using ha : a < s.data.toList.length)]
    have := lineN_pos s.data.toList[a] (s.data.toList.drop (a + 1))
    omega, by have := lineN_to s.data.toList a; rw [size_len] at this; omega, h2⟩

set_option maxHeartbeats 1000000 in
theorem skip_r_in (s : ByteArray) (a : Nat) (w : World) (hs : s.size ≤ 4000000000) (ha : a ≤ s.size) :
    Calls Tryz.prog 44 #[.string s, .int .i64 (a : Int)] w fun e w' => ∃ j : Nat, e = .returned (.int .i64 (j : Int)) ∧ SkipAt s.data.toList a j ∧ w = w' := by
  have hd : decide (s.size < a) = false := by simp; omega
  go_enter Tryz.func44, Tryz.ntmps44
  go_wp2_with fail
  go_loop [1] (fun i => ∃ k : Nat, k ≤ s.size ∧ i = .int .i64 k ∧ SkipTo s.data.toList a k) (fun i => s.size - (intOf i).toNat)
  case atStart => exact ⟨a, by omega, rfl, SkipTo.zero _ _⟩
  case round =>
    obtain ⟨k, hk, rfl, hn⟩ := hrel
    have HN := Lib.hid hn
    clear hn
    by_cases hlt : k < s.size
    · go_wp2_with (first | (go_at_call 71; refine (white_r _ _).mono ?_; rintro e w' ⟨rfl, rfl⟩) | (go_at_call 32; refine (line_rto _ _ _ hs hlt).mono ?_; rintro e w' ⟨j, rfl, hj, hj1, hj2, rfl⟩; have HJ := Lib.hid hj; clear hj))
      · go_round
        case rel => exact ⟨j, hj2, rfl, HN.out.comment (by simpa using hlt) (by assumption) HJ.out⟩
        case measure => simp [intOf]; omega
      · go_round
        case rel => exact ⟨k + 1, by omega, by go_num, HN.out.white (by simpa using hlt) (by assumption)⟩
        case measure => simp [intOf]; omega
      · go_ret
        exact ⟨k, rfl, HN.out.stop (by simpa using hlt) (by assumption) (by assumption), rfl⟩
    · go_wp2_with fail
      go_ret
      exact ⟨k, rfl, HN.out.done (by rw [size_len]; omega), rfl⟩

theorem line_r (s : ByteArray) (a : Int) (w : World) (hs : s.size ≤ 4000000000) :
    Calls Tryz.prog 32 #[.string s, .int .i64 a] w fun e w' => e = .returned (.int .i64 (lineS s.data.toList a)) ∧ w = w' := by
  by_cases h0 : a < 0
  · go_enter Tryz.func32, Tryz.ntmps32
    go_wp2
    go_ret
    exact ⟨ret_int (by unfold lineS; rw [if_pos (.inl h0)]), rfl⟩
  · by_cases h1 : (s.size : Int) < a
    · go_enter Tryz.func32, Tryz.ntmps32
      go_wp2
      go_ret
      exact ⟨ret_int (by unfold lineS; rw [if_pos (.inr (by rw [size_len]; exact h1))]), rfl⟩
    · obtain ⟨k, rfl⟩ := Int.eq_ofNat_of_zero_le (by omega : 0 ≤ a)
      refine (line_r_in s k w hs (by omega)).mono fun e w' ⟨he, hw⟩ => ⟨?_, hw⟩
      rw [he]
      refine ret_int ?_
      unfold lineS
      rw [if_neg (by rw [size_len]; omega), Int.toNat_natCast, Int.natCast_add]

theorem skip_r (s : ByteArray) (a : Int) (w : World) (hs : s.size ≤ 4000000000) :
    Calls Tryz.prog 44 #[.string s, .int .i64 a] w fun e w' => e = .returned (.int .i64 (skipS s.data.toList a)) ∧ w = w' := by
  by_cases h0 : a < 0
  · go_enter Tryz.func44, Tryz.ntmps44
    go_wp2
    go_ret
    exact ⟨ret_int (by unfold skipS; rw [if_pos (.inl h0)]), rfl⟩
  · by_cases h1 : (s.size : Int) < a
    · go_enter Tryz.func44, Tryz.ntmps44
      go_wp2
      go_ret
      exact ⟨ret_int (by unfold skipS; rw [if_pos (.inr (by rw [size_len]; exact h1))]), rfl⟩
    · obtain ⟨k, rfl⟩ := Int.eq_ofNat_of_zero_le (by omega : 0 ≤ a)
      refine (skip_r_in s k w hs (by omega)).mono fun e w' ⟨j, he, hj, hw⟩ => ⟨?_, hw⟩
      rw [he]
      refine ret_int ?_
      unfold skipS
      unfold SkipAt at hj
      rw [if_neg (by rw [size_len]; omega), Int.toNat_natCast]
      omega
end Go.Proofs.YtdpbpdikgcepbaaGreatDoor
