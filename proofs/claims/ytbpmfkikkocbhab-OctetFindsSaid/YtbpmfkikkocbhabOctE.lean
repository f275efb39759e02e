/-
  The walk of the sample results: every one of them is as the document says.
-/
import Derived.Test.YtbpmfkikkocbhabOctD
namespace Go.Proofs.Ytbpmfkikkocbhab
open Go.RowKit Oct

def MaxLenAt (w : World) : Prop := ∃ m, w.cell? ⟨0, 0, none⟩ = some (.int .i64 m)
theorem MaxLenAt.below {w w' : World} (h : MaxLenAt w) (hb : Below w.heap.size w w') : MaxLenAt w' := by
  obtain ⟨m, hm⟩ := h
  exact ⟨m, (hb.cell (p := ⟨0, 0, none⟩) (World.block_lt_of_cell? w _ hm)).trans hm⟩

theorem byte_of {n : Int} (h0 : 0 ≤ n) (h1 : n < 256) : ((UInt8.ofNat n.toNat).toNat : Int) = n := by
  rw [UInt8.toNat_ofNat']; omega

/- The contracts at constants: the answer is worked out. -/
theorem white_c (n : Int) (b : Bool) (w : World) (h0 : 0 ≤ n) (h1 : n < 256) (h : whiteS (UInt8.ofNat n.toNat) = b) : Calls Try.prog 10 #[.int .u8 n] w fun e w' => e = .returned (.bool b) ∧ w = w' := by
  have := white_any (UInt8.ofNat n.toNat) w
  rwa [byte_of h0 h1, h] at this
theorem delim_c (n : Int) (b : Bool) (w : World) (h0 : 0 ≤ n) (h1 : n < 256) (h : delimS (UInt8.ofNat n.toNat) = b) : Calls Try.prog 12 #[.int .u8 n] w fun e w' => e = .returned (.bool b) ∧ w = w' := by
  have := delim_any (UInt8.ofNat n.toNat) w
  rwa [byte_of h0 h1, h] at this
theorem regular_c (n : Int) (b : Bool) (w : World) (h0 : 0 ≤ n) (h1 : n < 256) (h : regularS (UInt8.ofNat n.toNat) = b) : Calls Try.prog 14 #[.int .u8 n] w fun e w' => e = .returned (.bool b) ∧ w = w' := by
  have := regular_any (UInt8.ofNat n.toNat) w
  rwa [byte_of h0 h1, h] at this
theorem digit_c (n r : Int) (w : World) (h0 : 0 ≤ n) (h1 : n < 256) (h : digitS (UInt8.ofNat n.toNat) = r) : Calls Try.prog 16 #[.int .u8 n] w fun e w' => e = .returned (.int .i64 r) ∧ w = w' := by
  have := digit_any (UInt8.ofNat n.toNat) w
  rwa [byte_of h0 h1, h] at this
theorem hex_c (s t : ByteArray) (w : World) (hs : s.size ≤ 4000000000) (h : hexB s = t) : Calls Try.prog 18 #[.string s] w fun e w' => e = .returned (.string t) ∧ Below w.heap.size w w' := h ▸ hex_any s w hs
theorem unhex_c (s t : ByteArray) (c : Int) (w : World) (hs : s.size ≤ 4000000000) (h : unhexT s = t) (hc : unhexE s = c) :
    Calls Try.prog 8 #[.string s] w fun e w' => e = .returned (.tuple #[.string t, .int .i64 c]) ∧ Below w.heap.size w w' := h ▸ hc ▸ unhex_any s w hs
theorem find_c (s part : ByteArray) (a r : Int) (w : World) (hs : s.size ≤ 4000000000) (hm : MaxLenAt w) (h : findS s.data.toList part.data.toList a = r) :
    Calls Try.prog 20 #[.string s, .string part, .int .i64 a] w fun e w' => e = .returned (.int .i64 r) ∧ w = w' := by
  obtain ⟨m, hm⟩ := hm
  exact h ▸ find_any s part a w hs m hm
theorem last_c (s part : ByteArray) (r : Int) (w : World) (hs : s.size ≤ 4000000000) (h : lastS s.data.toList part.data.toList = r) :
    Calls Try.prog 22 #[.string s, .string part] w fun e w' => e = .returned (.int .i64 r) ∧ w = w' := h ▸ last_any s part w hs
theorem begins_c (s part : ByteArray) (a : Int) (b : Bool) (w : World) (hs : s.size ≤ 9223372036854775807) (h : beginsS s.data.toList part.data.toList a = b) :
    Calls Try.prog 24 #[.string s, .string part, .int .i64 a] w fun e w' => e = .returned (.bool b) ∧ w = w' := h ▸ begins_any s part a w hs
theorem skip_c (s : ByteArray) (a r : Int) (w : World) (hs : s.size ≤ 4000000000) (h : skipS s.data.toList a = r) :
    Calls Try.prog 26 #[.string s, .int .i64 a] w fun e w' => e = .returned (.int .i64 r) ∧ w = w' := h ▸ skip_any s a w hs
theorem line_c (s : ByteArray) (a r : Int) (w : World) (hs : s.size ≤ 4000000000) (h : lineS s.data.toList a = r) :
    Calls Try.prog 28 #[.string s, .int .i64 a] w fun e w' => e = .returned (.int .i64 r) ∧ w = w' := h ▸ line_any s a w hs

set_option maxRecDepth 100000 in
set_option maxHeartbeats 4000000 in
theorem lives_any (w : World) (hm : MaxLenAt w) : Calls Try.prog 7 #[] w fun e w' => e = .returned (.bool true) ∧ Below w.heap.size w w' := by
  have HM := Lib.hid hm
  clear hm
  go_enter Try.func7, Try.ntmps7
  go_wp2_with fail
  refine (unhex_c _ ⟨#[74, 240]⟩ 0 _ (by decide) (by decide +kernel) (by decide +kernel)).mono ?_
  rintro e w1 ⟨rfl, hb1⟩
  go_wp2_with fail
  refine (unhex_c _ ⟨#[]⟩ 3 _ (by decide) (by decide +kernel) (by decide +kernel)).mono ?_
  rintro e w2 ⟨rfl, hb2⟩
  go_wp2_with fail
  refine (unhex_c _ ⟨#[]⟩ 3 _ (by decide) (by decide +kernel) (by decide +kernel)).mono ?_
  rintro e w3 ⟨rfl, hb3⟩
  have hb : Below w.heap.size w w3 := (hb1.trans (hb2.mono hb1.size)).trans (hb3.mono (Nat.le_trans hb1.size hb2.size))
  have HM3 : Hid (MaxLenAt w3) := Lib.hid (HM.out.below hb)
  clear hb1 hb2 hb3 HM
  go_wp2_with fail
  refine (white_c _ true _ (by decide) (by decide) (by decide +kernel)).mono ?_
  rintro e w' ⟨rfl, rfl⟩
  go_wp2_with fail
  refine (white_c _ true _ (by decide) (by decide) (by decide +kernel)).mono ?_
  rintro e w' ⟨rfl, rfl⟩
  go_wp2_with fail
  refine (white_c _ false _ (by decide) (by decide) (by decide +kernel)).mono ?_
  rintro e w' ⟨rfl, rfl⟩
  go_wp2_with fail
  refine (delim_c _ true _ (by decide) (by decide) (by decide +kernel)).mono ?_
  rintro e w' ⟨rfl, rfl⟩
  go_wp2_with fail
  refine (delim_c _ false _ (by decide) (by decide) (by decide +kernel)).mono ?_
  rintro e w' ⟨rfl, rfl⟩
  go_wp2_with fail
  refine (regular_c _ true _ (by decide) (by decide) (by decide +kernel)).mono ?_
  rintro e w' ⟨rfl, rfl⟩
  go_wp2_with fail
  refine (regular_c _ false _ (by decide) (by decide) (by decide +kernel)).mono ?_
  rintro e w' ⟨rfl, rfl⟩
  go_wp2_with fail
  refine (digit_c _ 11 _ (by decide) (by decide) (by decide +kernel)).mono ?_
  rintro e w' ⟨rfl, rfl⟩
  go_wp2_with fail
  refine (digit_c _ (-1) _ (by decide) (by decide) (by decide +kernel)).mono ?_
  rintro e w' ⟨rfl, rfl⟩
  go_wp2_with fail
  refine (hex_c _ ⟨#[52, 65, 70, 48]⟩ _ (by decide) (by decide +kernel)).mono ?_
  rintro e w4 ⟨rfl, hb4⟩
  have hb' : Below w.heap.size w w4 := hb.trans (hb4.mono hb.size)
  have HM4 : Hid (MaxLenAt w4) := Lib.hid (HM3.out.below hb4)
  clear hb hb4 HM3
  go_wp2_with fail
  refine (find_c _ _ _ 3 _ (by decide) HM4.out (by decide +kernel)).mono ?_
  rintro e w' ⟨rfl, rfl⟩
  go_wp2_with fail
  refine (find_c _ _ _ 0 _ (by decide) HM4.out (by decide +kernel)).mono ?_
  rintro e w' ⟨rfl, rfl⟩
  go_wp2_with fail
  refine (find_c _ _ _ (-1) _ (by decide) HM4.out (by decide +kernel)).mono ?_
  rintro e w' ⟨rfl, rfl⟩
  go_wp2_with fail
  refine (last_c _ _ 3 _ (by decide) (by decide +kernel)).mono ?_
  rintro e w' ⟨rfl, rfl⟩
  go_wp2_with fail
  refine (last_c _ _ (-1) _ (by decide) (by decide +kernel)).mono ?_
  rintro e w' ⟨rfl, rfl⟩
  go_wp2_with fail
  refine (begins_c _ _ _ true _ (by decide) (by decide +kernel)).mono ?_
  rintro e w' ⟨rfl, rfl⟩
  go_wp2_with fail
  refine (begins_c _ _ _ false _ (by decide) (by decide +kernel)).mono ?_
  rintro e w' ⟨rfl, rfl⟩
  go_wp2_with fail
  refine (begins_c _ _ _ true _ (by decide) (by decide +kernel)).mono ?_
  rintro e w' ⟨rfl, rfl⟩
  go_wp2_with fail
  refine (skip_c _ _ 6 _ (by decide) (by decide +kernel)).mono ?_
  rintro e w' ⟨rfl, rfl⟩
  go_wp2_with fail
  refine (skip_c _ _ 5 _ (by decide) (by decide +kernel)).mono ?_
  rintro e w' ⟨rfl, rfl⟩
  go_wp2_with fail
  refine (line_c _ _ 3 _ (by decide) (by decide +kernel)).mono ?_
  rintro e w' ⟨rfl, rfl⟩
  go_wp2_with fail
  refine (line_c _ _ 3 _ (by decide) (by decide +kernel)).mono ?_
  rintro e w' ⟨rfl, rfl⟩
  go_wp2_with fail
  refine (line_c _ _ 2 _ (by decide) (by decide +kernel)).mono ?_
  rintro e w' ⟨rfl, rfl⟩
  go_wp2_with fail
  go_ret
  exact ⟨rfl, hb'⟩
end Go.Proofs.Ytbpmfkikkocbhab
