/-
  Lemmas and walks, joined: LexG, LexI.
-/
import Derived.Test.YtdpbpdikgcepbaaGreatDoorHz06
import Derived.Test.YtdpbpdikgcepbaaGreatDoorHz04
import Derived.Test.YtdpbpdikgcepbaaGreatDoorHz07
import Derived.Laws.IdiomStrings
import Derived.Outline
namespace Go.Proofs.YtdpbpdikgcepbaaGreatDoor
open Go.RowKit Oct Fix Lex

theorem drop_cons (s : ByteArray) (a : Nat) (h : a < s.size) : s.data.toList.drop a = s[a] :: s.data.toList.drop (a + 1) := by
  have h1 : a < s.data.toList.length := by simpa using h
  rw [List.drop_eq_getElem_cons h1]
  rfl

/-- A row of bytes of the caller's own, and what it is made longer by. -/
def EscOut (base : Nat) (l : List UInt8) (r : List UInt8) (p : Nat) (w : World) (e : Ending) (w' : World) : Prop :=
  ∃ v', e = .returned (.tuple #[v', .int .i64 (p : Int)]) ∧ w'.ownsRow base 5 1 v' (l ++ r).length (cellsOf (l ++ r)) ∧ Below base w w'
theorem EscOut.mk {base : Nat} {l r : List UInt8} {p : Nat} {w w' : World} {v : Value} {q : Int} {n : Nat} {xs : List Value} (hq : q = (p : Int)) (hn : n = (l ++ r).length) (hx : xs = cellsOf (l ++ r))
    (ho : w'.ownsRow base 5 1 v n xs) (hb : Below base w w') : EscOut base l r p w (.returned (.tuple #[v, .int .i64 q])) w' := by
  subst hn hx hq
  exact ⟨v, rfl, ho, hb⟩
theorem cells_snoc (l : List UInt8) (c : UInt8) : cellsOf l ++ [.int .u8 (c.toNat : Int)] = cellsOf (l ++ [c]) := by rw [cellsOf_append]; rfl

section
variable (s : ByteArray) (a : Nat) (w : World) (l : List UInt8) (A : Option Addr) (C base : Nat)

set_option maxHeartbeats 1000000 in
theorem escape_n (ha : a < s.size) (hs : s.size ≤ 4000000000) (hl : l.length ≤ 4000000000) (hb : base ≤ w.heap.size) (hc : s[a].toNat = 110)
    (hown : w.ownsRow base 5 1 (.slice A l.length C) l.length (cellsOf l)) :
    Calls Tryz.prog 63 #[.slice A l.length C, .string s, .int .i64 (a : Int)] w (EscOut base l [10] (a + 1) w) := by
  obtain ⟨i5, hi, hz0, hz1, hz2⟩ := info_parts info5
  have HO := Lib.hid hown
  have b0 : ((a : Int) == (s.size : Int)) = false := by simp; omega
  have b110 : ((s[a].toNat : Int) == 110) = true := by rw [hc]; rfl
  have b114 : ((s[a].toNat : Int) == 114) = false := by rw [hc]; rfl
  have b116 : ((s[a].toNat : Int) == 116) = false := by rw [hc]; rfl
  have b98 : ((s[a].toNat : Int) == 98) = false := by rw [hc]; rfl
  have b102 : ((s[a].toNat : Int) == 102) = false := by rw [hc]; rfl
  have b13 : ((s[a].toNat : Int) == 13) = false := by rw [hc]; rfl
  have b10 : ((s[a].toNat : Int) == 10) = false := by rw [hc]; rfl
  have HC := Lib.hid hc
  clear hown hc
  go_enter Tryz.func63, Tryz.ntmps63
  go_wp2_with (first | (at_builtin; refine wpList_append_own _ rfl _ _ 60 rfl base 5 i5 (.int .u8 0) 1 1 Tryz.underlying60 hi hz0 hz1 hz2 rfl (by decide) _ _ _ rfl (HO.out.alloc _) ⟨w.heap.size, 0, none⟩ 1 1 [.int .u8 10] rfl rfl (World.news_of_block (heap_alloc_new w _)) (by simp [Value.oneCell']) (by unfold maxLen; omega) (by omega) (by simp; omega) ?_))
  intro v2 w2 hown2 hgrow2
  intros
  go_wp2
  go_ret2
  exact EscOut.mk (by go_num) (by simp) (cells_snoc l 10) hown2 (((Below.refl _ _).alloc hb _).grown hgrow2 (by simp; omega) (fun g h => (HO.out.lt g h).1))

set_option maxHeartbeats 1000000 in
theorem escape_r (ha : a < s.size) (hs : s.size ≤ 4000000000) (hl : l.length ≤ 4000000000) (hb : base ≤ w.heap.size) (hc : s[a].toNat = 114)
    (hown : w.ownsRow base 5 1 (.slice A l.length C) l.length (cellsOf l)) :
    Calls Tryz.prog 63 #[.slice A l.length C, .string s, .int .i64 (a : Int)] w (EscOut base l [13] (a + 1) w) := by
  obtain ⟨i5, hi, hz0, hz1, hz2⟩ := info_parts info5
  have HO := Lib.hid hown
  have b0 : ((a : Int) == (s.size : Int)) = false := by simp; omega
  have b110 : ((s[a].toNat : Int) == 110) = false := by rw [hc]; rfl
  have b114 : ((s[a].toNat : Int) == 114) = true := by rw [hc]; rfl
  have b116 : ((s[a].toNat : Int) == 116) = false := by rw [hc]; rfl
  have b98 : ((s[a].toNat : Int) == 98) = false := by rw [hc]; rfl
  have b102 : ((s[a].toNat : Int) == 102) = false := by rw [hc]; rfl
  have b13 : ((s[a].toNat : Int) == 13) = false := by rw [hc]; rfl
  have b10 : ((s[a].toNat : Int) == 10) = false := by rw [hc]; rfl
  have HC := Lib.hid hc
  clear hown hc
  go_enter Tryz.func63, Tryz.ntmps63
  go_wp2_with (first | (at_builtin; refine wpList_append_own _ rfl _ _ 60 rfl base 5 i5 (.int .u8 0) 1 1 Tryz.underlying60 hi hz0 hz1 hz2 rfl (by decide) _ _ _ rfl (HO.out.alloc _) ⟨w.heap.size, 0, none⟩ 1 1 [.int .u8 13] rfl rfl (World.news_of_block (heap_alloc_new w _)) (by simp [Value.oneCell']) (by unfold maxLen; omega) (by omega) (by simp; omega) ?_))
  intro v2 w2 hown2 hgrow2
  intros
  go_wp2
  go_ret2
  exact EscOut.mk (by go_num) (by simp) (cells_snoc l 13) hown2 (((Below.refl _ _).alloc hb _).grown hgrow2 (by simp; omega) (fun g h => (HO.out.lt g h).1))

set_option maxHeartbeats 1000000 in
theorem escape_t (ha : a < s.size) (hs : s.size ≤ 4000000000) (hl : l.length ≤ 4000000000) (hb : base ≤ w.heap.size) (hc : s[a].toNat = 116)
    (hown : w.ownsRow base 5 1 (.slice A l.length C) l.length (cellsOf l)) :
    Calls Tryz.prog 63 #[.slice A l.length C, .string s, .int .i64 (a : Int)] w (EscOut base l [9] (a + 1) w) := by
  obtain ⟨i5, hi, hz0, hz1, hz2⟩ := info_parts info5
  have HO := Lib.hid hown
  have b0 : ((a : Int) == (s.size : Int)) = false := by simp; omega
  have b110 : ((s[a].toNat : Int) == 110) = false := by rw [hc]; rfl
  have b114 : ((s[a].toNat : Int) == 114) = false := by rw [hc]; rfl
  have b116 : ((s[a].toNat : Int) == 116) = true := by rw [hc]; rfl
  have b98 : ((s[a].toNat : Int) == 98) = false := by rw [hc]; rfl
  have b102 : ((s[a].toNat : Int) == 102) = false := by rw [hc]; rfl
  have b13 : ((s[a].toNat : Int) == 13) = false := by rw [hc]; rfl
  have b10 : ((s[a].toNat : Int) == 10) = false := by rw [hc]; rfl
  have HC := Lib.hid hc
  clear hown hc
  go_enter Tryz.func63, Tryz.ntmps63
  go_wp2_with (first | (at_builtin; refine wpList_append_own _ rfl _ _ 60 rfl base 5 i5 (.int .u8 0) 1 1 Tryz.underlying60 hi hz0 hz1 hz2 rfl (by decide) _ _ _ rfl (HO.out.alloc _) ⟨w.heap.size, 0, none⟩ 1 1 [.int .u8 9] rfl rfl (World.news_of_block (heap_alloc_new w _)) (by simp [Value.oneCell']) (by unfold maxLen; omega) (by omega) (by simp; omega) ?_))
  intro v2 w2 hown2 hgrow2
  intros
  go_wp2
  go_ret2
  exact EscOut.mk (by go_num) (by simp) (cells_snoc l 9) hown2 (((Below.refl _ _).alloc hb _).grown hgrow2 (by simp; omega) (fun g h => (HO.out.lt g h).1))

set_option maxHeartbeats 1000000 in
theorem escape_b (ha : a < s.size) (hs : s.size ≤ 4000000000) (hl : l.length ≤ 4000000000) (hb : base ≤ w.heap.size) (hc : s[a].toNat = 98)
    (hown : w.ownsRow base 5 1 (.slice A l.length C) l.length (cellsOf l)) :
    Calls Tryz.prog 63 #[.slice A l.length C, .string s, .int .i64 (a : Int)] w (EscOut base l [8] (a + 1) w) := by
  obtain ⟨i5, hi, hz0, hz1, hz2⟩ := info_parts info5
  have HO := Lib.hid hown
  have b0 : ((a : Int) == (s.size : Int)) = false := by simp; omega
  have b110 : ((s[a].toNat : Int) == 110) = false := by rw [hc]; rfl
  have b114 : ((s[a].toNat : Int) == 114) = false := by rw [hc]; rfl
  have b116 : ((s[a].toNat : Int) == 116) = false := by rw [hc]; rfl
  have b98 : ((s[a].toNat : Int) == 98) = true := by rw [hc]; rfl
  have b102 : ((s[a].toNat : Int) == 102) = false := by rw [hc]; rfl
  have b13 : ((s[a].toNat : Int) == 13) = false := by rw [hc]; rfl
  have b10 : ((s[a].toNat : Int) == 10) = false := by rw [hc]; rfl
  have HC := Lib.hid hc
  clear hown hc
  go_enter Tryz.func63, Tryz.ntmps63
  go_wp2_with (first | (at_builtin; refine wpList_append_own _ rfl _ _ 60 rfl base 5 i5 (.int .u8 0) 1 1 Tryz.underlying60 hi hz0 hz1 hz2 rfl (by decide) _ _ _ rfl (HO.out.alloc _) ⟨w.heap.size, 0, none⟩ 1 1 [.int .u8 8] rfl rfl (World.news_of_block (heap_alloc_new w _)) (by simp [Value.oneCell']) (by unfold maxLen; omega) (by omega) (by simp; omega) ?_))
  intro v2 w2 hown2 hgrow2
  intros
  go_wp2
  go_ret2
  exact EscOut.mk (by go_num) (by simp) (cells_snoc l 8) hown2 (((Below.refl _ _).alloc hb _).grown hgrow2 (by simp; omega) (fun g h => (HO.out.lt g h).1))

set_option maxHeartbeats 1000000 in
theorem escape_f (ha : a < s.size) (hs : s.size ≤ 4000000000) (hl : l.length ≤ 4000000000) (hb : base ≤ w.heap.size) (hc : s[a].toNat = 102)
    (hown : w.ownsRow base 5 1 (.slice A l.length C) l.length (cellsOf l)) :
    Calls Tryz.prog 63 #[.slice A l.length C, .string s, .int .i64 (a : Int)] w (EscOut base l [12] (a + 1) w) := by
  obtain ⟨i5, hi, hz0, hz1, hz2⟩ := info_parts info5
  have HO := Lib.hid hown
  have b0 : ((a : Int) == (s.size : Int)) = false := by simp; omega
  have b110 : ((s[a].toNat : Int) == 110) = false := by rw [hc]; rfl
  have b114 : ((s[a].toNat : Int) == 114) = false := by rw [hc]; rfl
  have b116 : ((s[a].toNat : Int) == 116) = false := by rw [hc]; rfl
  have b98 : ((s[a].toNat : Int) == 98) = false := by rw [hc]; rfl
  have b102 : ((s[a].toNat : Int) == 102) = true := by rw [hc]; rfl
  have b13 : ((s[a].toNat : Int) == 13) = false := by rw [hc]; rfl
  have b10 : ((s[a].toNat : Int) == 10) = false := by rw [hc]; rfl
  have HC := Lib.hid hc
  clear hown hc
  go_enter Tryz.func63, Tryz.ntmps63
  go_wp2_with (first | (at_builtin; refine wpList_append_own _ rfl _ _ 60 rfl base 5 i5 (.int .u8 0) 1 1 Tryz.underlying60 hi hz0 hz1 hz2 rfl (by decide) _ _ _ rfl (HO.out.alloc _) ⟨w.heap.size, 0, none⟩ 1 1 [.int .u8 12] rfl rfl (World.news_of_block (heap_alloc_new w _)) (by simp [Value.oneCell']) (by unfold maxLen; omega) (by omega) (by simp; omega) ?_))
  intro v2 w2 hown2 hgrow2
  intros
  go_wp2
  go_ret2
  exact EscOut.mk (by go_num) (by simp) (cells_snoc l 12) hown2 (((Below.refl _ _).alloc hb _).grown hgrow2 (by simp; omega) (fun g h => (HO.out.lt g h).1))
end
end Go.Proofs.YtdpbpdikgcepbaaGreatDoor
namespace Go.Proofs.YtdpbpdikgcepbaaGreatDoor
open Go.RowKit Oct Fix Lex

section
variable (s : ByteArray) (a : Nat) (w : World) (l : List UInt8) (A : Option Addr) (C base : Nat)

set_option maxHeartbeats 1000000 in
theorem escape_end (ha : a = s.size) (_hs : s.size ≤ 4000000000)
    (hown : w.ownsRow base 5 1 (.slice A l.length C) l.length (cellsOf l)) :
    Calls Tryz.prog 63 #[.slice A l.length C, .string s, .int .i64 (a : Int)] w (EscOut base l [] a w) := by
  have HO := Lib.hid hown
  have b0 : ((a : Int) == (s.size : Int)) = true := by simp; omega
  clear hown
  go_enter Tryz.func63, Tryz.ntmps63
  go_wp2_with fail
  go_ret2
  exact EscOut.mk rfl (by simp) (by simp) HO.out (Below.refl _ _)

set_option maxHeartbeats 1000000 in
theorem escape_line (ha : a < s.size) (hs : s.size ≤ 4000000000) (hc : s[a].toNat = 13 ∨ s[a].toNat = 10)
    (hown : w.ownsRow base 5 1 (.slice A l.length C) l.length (cellsOf l)) :
    Calls Tryz.prog 63 #[.slice A l.length C, .string s, .int .i64 (a : Int)] w (EscOut base l [] (a + lineN (s.data.toList.drop a)) w) := by
  have HO := Lib.hid hown
  have b0 : ((a : Int) == (s.size : Int)) = false := by simp; omega
  have HE : Hid (lineS s.data.toList (a : Int) = ((a + lineN (s.data.toList.drop a) : Nat) : Int)) := Lib.hid (by
    unfold lineS
    rw [if_neg (by have : s.data.toList.length = s.size := by simp
                   omega)]
    simp)
  clear hown
  rcases hc with hc | hc
  · have b110 : ((s[a].toNat : Int) == 110) = false := by rw [hc]; rfl
    have b114 : ((s[a].toNat : Int) == 114) = false := by rw [hc]; rfl
    have b116 : ((s[a].toNat : Int) == 116) = false := by rw [hc]; rfl
    have b98 : ((s[a].toNat : Int) == 98) = false := by rw [hc]; rfl
    have b102 : ((s[a].toNat : Int) == 102) = false := by rw [hc]; rfl
    have b13 : ((s[a].toNat : Int) == 13) = true := by rw [hc]; rfl
    clear hc
    go_enter Tryz.func63, Tryz.ntmps63
    go_wp2_with (go_at_call 31; refine (line_any _ _ _ hs).mono ?_; rintro e w' ⟨rfl, rfl⟩)
    go_ret2
    exact EscOut.mk HE.out (by simp) (by simp) HO.out (Below.refl _ _)
  · have b110 : ((s[a].toNat : Int) == 110) = false := by rw [hc]; rfl
    have b114 : ((s[a].toNat : Int) == 114) = false := by rw [hc]; rfl
    have b116 : ((s[a].toNat : Int) == 116) = false := by rw [hc]; rfl
    have b98 : ((s[a].toNat : Int) == 98) = false := by rw [hc]; rfl
    have b102 : ((s[a].toNat : Int) == 102) = false := by rw [hc]; rfl
    have b13 : ((s[a].toNat : Int) == 13) = false := by rw [hc]; rfl
    have b10 : ((s[a].toNat : Int) == 10) = true := by rw [hc]; rfl
    clear hc
    go_enter Tryz.func63, Tryz.ntmps63
    go_wp2_with (go_at_call 31; refine (line_any _ _ _ hs).mono ?_; rintro e w' ⟨rfl, rfl⟩)
    go_ret2
    exact EscOut.mk HE.out (by simp) (by simp) HO.out (Below.refl _ _)

set_option maxHeartbeats 4000000 in
theorem escape_oct (ha : a < s.size) (hs : s.size ≤ 4000000000) (hl : l.length ≤ 4000000000) (hb : base ≤ w.heap.size) (hc : octD s[a] = true)
    (hown : w.ownsRow base 5 1 (.slice A l.length C) l.length (cellsOf l)) :
    Calls Tryz.prog 63 #[.slice A l.length C, .string s, .int .i64 (a : Int)] w (EscOut base l [UInt8.ofNat ((octN 3 0 (s.data.toList.drop a)).1 % 256)] (a + (octN 3 0 (s.data.toList.drop a)).2) w) := by
  obtain ⟨i5, hi, hz0, hz1, hz2⟩ := info_parts info5
  have HO := Lib.hid hown
  have b0 : ((a : Int) == (s.size : Int)) = false := by simp; omega
  have hcs : s[a].toNat = 48 ∨ s[a].toNat = 49 ∨ s[a].toNat = 50 ∨ s[a].toNat = 51 ∨ s[a].toNat = 52 ∨ s[a].toNat = 53 ∨ s[a].toNat = 54 ∨ s[a].toNat = 55 := by unfold octD at hc; simp at hc; omega
  obtain ⟨n, hn⟩ : ∃ n, (octN 3 0 (s.data.toList.drop a)).1 % 256 = n := ⟨_, rfl⟩
  obtain ⟨p, hp⟩ : ∃ p, a + (octN 3 0 (s.data.toList.drop a)).2 = p := ⟨_, rfl⟩
  have hn2 : n < 256 := by omega
  have hoct : ∀ w : World, Calls Tryz.prog 88 #[.string s, .int .i64 (a : Int)] w fun e w' => e = .returned (.tuple #[.int .u8 (n : Int), .int .i64 (p : Int)]) ∧ w = w' := fun w => by
    rw [← hn, ← hp]; exact octal_any s a w (by omega) hs
  have HOct := Lib.hid hoct
  rw [hn, hp]
  have e1 : ((UInt8.ofNat n).toNat : Int) = n := by simp; omega
  have E1 := Lib.hid e1
  clear hown hc hoct hn hp e1
  have fin : ∀ (v2 : Value) (w2 : World), w2.ownsRow base 5 1 v2 (l.length + 1) (cellsOf l ++ [.int .u8 (n : Int)]) → (w.alloc (.cells #[.int .u8 (n : Int)] 5)).grownBy w2 (Value.slice A l.length C).ownBlock →
      EscOut base l [UInt8.ofNat n] p w (.returned (.tuple #[v2, .int .i64 (p : Int)])) w2 := fun _ _ h1 h2 =>
    EscOut.mk rfl (by simp) (by rw [← cells_snoc, E1.out]) h1 (((Below.refl _ _).alloc hb _).grown h2 (by simp; omega) (fun g h => (HO.out.lt g h).1))
  have FIN := Lib.hid fin
  clear fin
  rcases hcs with hc | hc | hc | hc | hc | hc | hc | hc
  · have b110 : ((s[a].toNat : Int) == 110) = false := by rw [hc]; rfl
    have b114 : ((s[a].toNat : Int) == 114) = false := by rw [hc]; rfl
    have b116 : ((s[a].toNat : Int) == 116) = false := by rw [hc]; rfl
    have b98 : ((s[a].toNat : Int) == 98) = false := by rw [hc]; rfl
    have b102 : ((s[a].toNat : Int) == 102) = false := by rw [hc]; rfl
    have b13 : ((s[a].toNat : Int) == 13) = false := by rw [hc]; rfl
    have b10 : ((s[a].toNat : Int) == 10) = false := by rw [hc]; rfl
    have d0 : ((s[a].toNat : Int) == 48) = true := by rw [hc]; rfl
    clear hc
    go_enter Tryz.func63, Tryz.ntmps63
    go_wp2_with fail
    refine (HOct.out _).mono ?_
    rintro e w' ⟨rfl, rfl⟩
    go_wp2_with (first | (at_builtin; refine wpList_append_own _ rfl _ _ 60 rfl base 5 i5 (.int .u8 0) 1 1 Tryz.underlying60 hi hz0 hz1 hz2 rfl (by decide) _ _ _ rfl (HO.out.alloc _) ⟨w.heap.size, 0, none⟩ 1 1 [.int .u8 (n : Int)] rfl rfl (World.news_of_block (heap_alloc_new w _)) (by simp [Value.oneCell']) (by unfold maxLen; omega) (by omega) (by simp; omega) ?_))
    intro v2 w2 hown2 hgrow2
    intros
    go_wp2
    go_ret2
    exact FIN.out _ _ hown2 hgrow2
  · have b110 : ((s[a].toNat : Int) == 110) = false := by rw [hc]; rfl
    have b114 : ((s[a].toNat : Int) == 114) = false := by rw [hc]; rfl
    have b116 : ((s[a].toNat : Int) == 116) = false := by rw [hc]; rfl
    have b98 : ((s[a].toNat : Int) == 98) = false := by rw [hc]; rfl
    have b102 : ((s[a].toNat : Int) == 102) = false := by rw [hc]; rfl
    have b13 : ((s[a].toNat : Int) == 13) = false := by rw [hc]; rfl
    have b10 : ((s[a].toNat : Int) == 10) = false := by rw [hc]; rfl
    have d0 : ((s[a].toNat : Int) == 48) = false := by rw [hc]; rfl
    have d1 : ((s[a].toNat : Int) == 49) = true := by rw [hc]; rfl
    clear hc
    go_enter Tryz.func63, Tryz.ntmps63
    go_wp2_with fail
    refine (HOct.out _).mono ?_
    rintro e w' ⟨rfl, rfl⟩
    go_wp2_with (first | (at_builtin; refine wpList_append_own _ rfl _ _ 60 rfl base 5 i5 (.int .u8 0) 1 1 Tryz.underlying60 hi hz0 hz1 hz2 rfl (by decide) _ _ _ rfl (HO.out.alloc _) ⟨w.heap.size, 0, none⟩ 1 1 [.int .u8 (n : Int)] rfl rfl (World.news_of_block (heap_alloc_new w _)) (by simp [Value.oneCell']) (by unfold maxLen; omega) (by omega) (by simp; omega) ?_))
    intro v2 w2 hown2 hgrow2
    intros
    go_wp2
    go_ret2
    exact FIN.out _ _ hown2 hgrow2
  · have b110 : ((s[a].toNat : Int) == 110) = false := by rw [hc]; rfl
    have b114 : ((s[a].toNat : Int) == 114) = false := by rw [hc]; rfl
    have b116 : ((s[a].toNat : Int) == 116) = false := by rw [hc]; rfl
    have b98 : ((s[a].toNat : Int) == 98) = false := by rw [hc]; rfl
    have b102 : ((s[a].toNat : Int) == 102) = false := by rw [hc]; rfl
    have b13 : ((s[a].toNat : Int) == 13) = false := by rw [hc]; rfl
    have b10 : ((s[a].toNat : Int) == 10) = false := by rw [hc]; rfl
    have d0 : ((s[a].toNat : Int) == 48) = false := by rw [hc]; rfl
    have d1 : ((s[a].toNat : Int) == 49) = false := by rw [hc]; rfl
    have d2 : ((s[a].toNat : Int) == 50) = true := by rw [hc]; rfl
    clear hc
    go_enter Tryz.func63, Tryz.ntmps63
    go_wp2_with fail
    refine (HOct.out _).mono ?_
    rintro e w' ⟨rfl, rfl⟩
    go_wp2_with (first | (at_builtin; refine wpList_append_own _ rfl _ _ 60 rfl base 5 i5 (.int .u8 0) 1 1 Tryz.underlying60 hi hz0 hz1 hz2 rfl (by decide) _ _ _ rfl (HO.out.alloc _) ⟨w.heap.size, 0, none⟩ 1 1 [.int .u8 (n : Int)] rfl rfl (World.news_of_block (heap_alloc_new w _)) (by simp [Value.oneCell']) (by unfold maxLen; omega) (by omega) (by simp; omega) ?_))
    intro v2 w2 hown2 hgrow2
    intros
    go_wp2
    go_ret2
    exact FIN.out _ _ hown2 hgrow2
  · have b110 : ((s[a].toNat : Int) == 110) = false := by rw [hc]; rfl
    have b114 : ((s[a].toNat : Int) == 114) = false := by rw [hc]; rfl
    have b116 : ((s[a].toNat : Int) == 116) = false := by rw [hc]; rfl
    have b98 : ((s[a].toNat : Int) == 98) = false := by rw [hc]; rfl
    have b102 : ((s[a].toNat : Int) == 102) = false := by rw [hc]; rfl
    have b13 : ((s[a].toNat : Int) == 13) = false := by rw [hc]; rfl
    have b10 : ((s[a].toNat : Int) == 10) = false := by rw [hc]; rfl
    have d0 : ((s[a].toNat : Int) == 48) = false := by rw [hc]; rfl
    have d1 : ((s[a].toNat : Int) == 49) = false := by rw [hc]; rfl
    have d2 : ((s[a].toNat : Int) == 50) = false := by rw [hc]; rfl
    have d3 : ((s[a].toNat : Int) == 51) = true := by rw [hc]; rfl
    clear hc
    go_enter Tryz.func63, Tryz.ntmps63
    go_wp2_with fail
    refine (HOct.out _).mono ?_
    rintro e w' ⟨rfl, rfl⟩
    go_wp2_with (first | (at_builtin; refine wpList_append_own _ rfl _ _ 60 rfl base 5 i5 (.int .u8 0) 1 1 Tryz.underlying60 hi hz0 hz1 hz2 rfl (by decide) _ _ _ rfl (HO.out.alloc _) ⟨w.heap.size, 0, none⟩ 1 1 [.int .u8 (n : Int)] rfl rfl (World.news_of_block (heap_alloc_new w _)) (by simp [Value.oneCell']) (by unfold maxLen; omega) (by omega) (by simp; omega) ?_))
    intro v2 w2 hown2 hgrow2
    intros
    go_wp2
    go_ret2
    exact FIN.out _ _ hown2 hgrow2
  · have b110 : ((s[a].toNat : Int) == 110) = false := by rw [hc]; rfl
    have b114 : ((s[a].toNat : Int) == 114) = false := by rw [hc]; rfl
    have b116 : ((s[a].toNat : Int) == 116) = false := by rw [hc]; rfl
    have b98 : ((s[a].toNat : Int) == 98) = false := by rw [hc]; rfl
    have b102 : ((s[a].toNat : Int) == 102) = false := by rw [hc]; rfl
    have b13 : ((s[a].toNat : Int) == 13) = false := by rw [hc]; rfl
    have b10 : ((s[a].toNat : Int) == 10) = false := by rw [hc]; rfl
    have d0 : ((s[a].toNat : Int) == 48) = false := by rw [hc]; rfl
    have d1 : ((s[a].toNat : Int) == 49) = false := by rw [hc]; rfl
    have d2 : ((s[a].toNat : Int) == 50) = false := by rw [hc]; rfl
    have d3 : ((s[a].toNat : Int) == 51) = false := by rw [hc]; rfl
    have d4 : ((s[a].toNat : Int) == 52) = true := by rw [hc]; rfl
    clear hc
    go_enter Tryz.func63, Tryz.ntmps63
    go_wp2_with fail
    refine (HOct.out _).mono ?_
    rintro e w' ⟨rfl, rfl⟩
    go_wp2_with (first | (at_builtin; refine wpList_append_own _ rfl _ _ 60 rfl base 5 i5 (.int .u8 0) 1 1 Tryz.underlying60 hi hz0 hz1 hz2 rfl (by decide) _ _ _ rfl (HO.out.alloc _) ⟨w.heap.size, 0, none⟩ 1 1 [.int .u8 (n : Int)] rfl rfl (World.news_of_block (heap_alloc_new w _)) (by simp [Value.oneCell']) (by unfold maxLen; omega) (by omega) (by simp; omega) ?_))
    intro v2 w2 hown2 hgrow2
    intros
    go_wp2
    go_ret2
    exact FIN.out _ _ hown2 hgrow2
  · have b110 : ((s[a].toNat : Int) == 110) = false := by rw [hc]; rfl
    have b114 : ((s[a].toNat : Int) == 114) = false := by rw [hc]; rfl
    have b116 : ((s[a].toNat : Int) == 116) = false := by rw [hc]; rfl
    have b98 : ((s[a].toNat : Int) == 98) = false := by rw [hc]; rfl
    have b102 : ((s[a].toNat : Int) == 102) = false := by rw [hc]; rfl
    have b13 : ((s[a].toNat : Int) == 13) = false := by rw [hc]; rfl
    have b10 : ((s[a].toNat : Int) == 10) = false := by rw [hc]; rfl
    have d0 : ((s[a].toNat : Int) == 48) = false := by rw [hc]; rfl
    have d1 : ((s[a].toNat : Int) == 49) = false := by rw [hc]; rfl
    have d2 : ((s[a].toNat : Int) == 50) = false := by rw [hc]; rfl
    have d3 : ((s[a].toNat : Int) == 51) = false := by rw [hc]; rfl
    have d4 : ((s[a].toNat : Int) == 52) = false := by rw [hc]; rfl
    have d5 : ((s[a].toNat : Int) == 53) = true := by rw [hc]; rfl
    clear hc
    go_enter Tryz.func63, Tryz.ntmps63
    go_wp2_with fail
    refine (HOct.out _).mono ?_
    rintro e w' ⟨rfl, rfl⟩
    go_wp2_with (first | (at_builtin; refine wpList_append_own _ rfl _ _ 60 rfl base 5 i5 (.int .u8 0) 1 1 Tryz.underlying60 hi hz0 hz1 hz2 rfl (by decide) _ _ _ rfl (HO.out.alloc _) ⟨w.heap.size, 0, none⟩ 1 1 [.int .u8 (n : Int)] rfl rfl (World.news_of_block (heap_alloc_new w _)) (by simp [Value.oneCell']) (by unfold maxLen; omega) (by omega) (by simp; omega) ?_))
    intro v2 w2 hown2 hgrow2
    intros
    go_wp2
    go_ret2
    exact FIN.out _ _ hown2 hgrow2
  · have b110 : ((s[a].toNat : Int) == 110) = false := by rw [hc]; rfl
    have b114 : ((s[a].toNat : Int) == 114) = false := by rw [hc]; rfl
    have b116 : ((s[a].toNat : Int) == 116) = false := by rw [hc]; rfl
    have b98 : ((s[a].toNat : Int) == 98) = false := by rw [hc]; rfl
    have b102 : ((s[a].toNat : Int) == 102) = false := by rw [hc]; rfl
    have b13 : ((s[a].toNat : Int) == 13) = false := by rw [hc]; rfl
    have b10 : ((s[a].toNat : Int) == 10) = false := by rw [hc]; rfl
    have d0 : ((s[a].toNat : Int) == 48) = false := by rw [hc]; rfl
    have d1 : ((s[a].toNat : Int) == 49) = false := by rw [hc]; rfl
    have d2 : ((s[a].toNat : Int) == 50) = false := by rw [hc]; rfl
    have d3 : ((s[a].toNat : Int) == 51) = false := by rw [hc]; rfl
    have d4 : ((s[a].toNat : Int) == 52) = false := by rw [hc]; rfl
    have d5 : ((s[a].toNat : Int) == 53) = false := by rw [hc]; rfl
    have d6 : ((s[a].toNat : Int) == 54) = true := by rw [hc]; rfl
    clear hc
    go_enter Tryz.func63, Tryz.ntmps63
    go_wp2_with fail
    refine (HOct.out _).mono ?_
    rintro e w' ⟨rfl, rfl⟩
    go_wp2_with (first | (at_builtin; refine wpList_append_own _ rfl _ _ 60 rfl base 5 i5 (.int .u8 0) 1 1 Tryz.underlying60 hi hz0 hz1 hz2 rfl (by decide) _ _ _ rfl (HO.out.alloc _) ⟨w.heap.size, 0, none⟩ 1 1 [.int .u8 (n : Int)] rfl rfl (World.news_of_block (heap_alloc_new w _)) (by simp [Value.oneCell']) (by unfold maxLen; omega) (by omega) (by simp; omega) ?_))
    intro v2 w2 hown2 hgrow2
    intros
    go_wp2
    go_ret2
    exact FIN.out _ _ hown2 hgrow2
  · have b110 : ((s[a].toNat : Int) == 110) = false := by rw [hc]; rfl
    have b114 : ((s[a].toNat : Int) == 114) = false := by rw [hc]; rfl
    have b116 : ((s[a].toNat : Int) == 116) = false := by rw [hc]; rfl
    have b98 : ((s[a].toNat : Int) == 98) = false := by rw [hc]; rfl
    have b102 : ((s[a].toNat : Int) == 102) = false := by rw [hc]; rfl
    have b13 : ((s[a].toNat : Int) == 13) = false := by rw [hc]; rfl
    have b10 : ((s[a].toNat : Int) == 10) = false := by rw [hc]; rfl
    have d0 : ((s[a].toNat : Int) == 48) = false := by rw [hc]; rfl
    have d1 : ((s[a].toNat : Int) == 49) = false := by rw [hc]; rfl
    have d2 : ((s[a].toNat : Int) == 50) = false := by rw [hc]; rfl
    have d3 : ((s[a].toNat : Int) == 51) = false := by rw [hc]; rfl
    have d4 : ((s[a].toNat : Int) == 52) = false := by rw [hc]; rfl
    have d5 : ((s[a].toNat : Int) == 53) = false := by rw [hc]; rfl
    have d6 : ((s[a].toNat : Int) == 54) = false := by rw [hc]; rfl
    have d7 : ((s[a].toNat : Int) == 55) = true := by rw [hc]; rfl
    clear hc
    go_enter Tryz.func63, Tryz.ntmps63
    go_wp2_with fail
    refine (HOct.out _).mono ?_
    rintro e w' ⟨rfl, rfl⟩
    go_wp2_with (first | (at_builtin; refine wpList_append_own _ rfl _ _ 60 rfl base 5 i5 (.int .u8 0) 1 1 Tryz.underlying60 hi hz0 hz1 hz2 rfl (by decide) _ _ _ rfl (HO.out.alloc _) ⟨w.heap.size, 0, none⟩ 1 1 [.int .u8 (n : Int)] rfl rfl (World.news_of_block (heap_alloc_new w _)) (by simp [Value.oneCell']) (by unfold maxLen; omega) (by omega) (by simp; omega) ?_))
    intro v2 w2 hown2 hgrow2
    intros
    go_wp2
    go_ret2
    exact FIN.out _ _ hown2 hgrow2

set_option maxHeartbeats 2000000 in
theorem escape_plain (ha : a < s.size) (hs : s.size ≤ 4000000000) (hl : l.length ≤ 4000000000) (hb : base ≤ w.heap.size) (hc : octD s[a] = false) (h1 : s[a] ≠ 110) (h2 : s[a] ≠ 114) (h3 : s[a] ≠ 116) (h4 : s[a] ≠ 98) (h5 : s[a] ≠ 102) (h6 : s[a] ≠ 13) (h7 : s[a] ≠ 10)
    (hown : w.ownsRow base 5 1 (.slice A l.length C) l.length (cellsOf l)) :
    Calls Tryz.prog 63 #[.slice A l.length C, .string s, .int .i64 (a : Int)] w (EscOut base l [s[a]] (a + 1) w) := by
  obtain ⟨i5, hi, hz0, hz1, hz2⟩ := info_parts info5
  have HO := Lib.hid hown
  have b0 : ((a : Int) == (s.size : Int)) = false := by simp; omega
  have hcs : s[a].toNat < 48 ∨ 55 < s[a].toNat := by unfold octD at hc; simp at hc; omega
  have b110 : ((s[a].toNat : Int) == 110) = false := byte_isnt (n := 110) (by decide) h1
  have b114 : ((s[a].toNat : Int) == 114) = false := byte_isnt (n := 114) (by decide) h2
  have b116 : ((s[a].toNat : Int) == 116) = false := byte_isnt (n := 116) (by decide) h3
  have b98 : ((s[a].toNat : Int) == 98) = false := byte_isnt (n := 98) (by decide) h4
  have b102 : ((s[a].toNat : Int) == 102) = false := byte_isnt (n := 102) (by decide) h5
  have b13 : ((s[a].toNat : Int) == 13) = false := byte_isnt (n := 13) (by decide) h6
  have b10 : ((s[a].toNat : Int) == 10) = false := byte_isnt (n := 10) (by decide) h7
  have d0 : ((s[a].toNat : Int) == 48) = false := by simp; omega
  have d1 : ((s[a].toNat : Int) == 49) = false := by simp; omega
  have d2 : ((s[a].toNat : Int) == 50) = false := by simp; omega
  have d3 : ((s[a].toNat : Int) == 51) = false := by simp; omega
  have d4 : ((s[a].toNat : Int) == 52) = false := by simp; omega
  have d5 : ((s[a].toNat : Int) == 53) = false := by simp; omega
  have d6 : ((s[a].toNat : Int) == 54) = false := by simp; omega
  have d7 : ((s[a].toNat : Int) == 55) = false := by simp; omega
  obtain ⟨c, hcc⟩ : ∃ c, s[a] = c := ⟨_, rfl⟩
  rw [hcc] at b110 b114 b116 b98 b102 b13 b10 d0 d1 d2 d3 d4 d5 d6 d7 ⊢
  have HC := Lib.hid hcc
  clear hown hc hcs h1 h2 h3 h4 h5 h6 h7
  go_enter Tryz.func63, Tryz.ntmps63
  go_wp2_with (first | (at_builtin; refine wpList_append_own _ rfl _ _ 60 rfl base 5 i5 (.int .u8 0) 1 1 Tryz.underlying60 hi hz0 hz1 hz2 rfl (by decide) _ _ _ rfl (HO.out.alloc _) ⟨w.heap.size, 0, none⟩ 1 1 [.int .u8 (c.toNat : Int)] rfl rfl (World.news_of_block (heap_alloc_new w _)) (by simp [Value.oneCell']) (by unfold maxLen; omega) (by omega) (by simp; omega) ?_))
  intro v2 w2 hown2 hgrow2
  intros
  go_wp2
  go_ret2
  exact EscOut.mk (by go_num) (by simp) (cells_snoc l c) hown2 (((Below.refl _ _).alloc hb _).grown hgrow2 (by simp; omega) (fun g h => (HO.out.lt g h).1))

theorem escape_any (ha : a ≤ s.size) (hs : s.size ≤ 4000000000) (hl : l.length ≤ 4000000000) (hb : base ≤ w.heap.size)
    (hown : w.ownsRow base 5 1 (.slice A l.length C) l.length (cellsOf l)) :
    Calls Tryz.prog 63 #[.slice A l.length C, .string s, .int .i64 (a : Int)] w (EscOut base l (escL (s.data.toList.drop a)).1 (a + (escL (s.data.toList.drop a)).2) w) := by
  by_cases h : a < s.size
  · have hd := drop_cons s a h
    have nat : ∀ {n : Nat}, s[a] = UInt8.ofNat n → n < 256 → s[a].toNat = n := fun e hn => by rw [e]; simp; omega
    rw [hd, escL]
    by_cases h1 : s[a] = 110
    · rw [if_pos h1]; exact escape_n s a w l A C base h hs hl hb (nat h1 (by decide)) hown
    rw [if_neg h1]
    by_cases h2 : s[a] = 114
    · rw [if_pos h2]; exact escape_r s a w l A C base h hs hl hb (nat h2 (by decide)) hown
    rw [if_neg h2]
    by_cases h3 : s[a] = 116
    · rw [if_pos h3]; exact escape_t s a w l A C base h hs hl hb (nat h3 (by decide)) hown
    rw [if_neg h3]
    by_cases h4 : s[a] = 98
    · rw [if_pos h4]; exact escape_b s a w l A C base h hs hl hb (nat h4 (by decide)) hown
    rw [if_neg h4]
    by_cases h5 : s[a] = 102
    · rw [if_pos h5]; exact escape_f s a w l A C base h hs hl hb (nat h5 (by decide)) hown
    rw [if_neg h5]
    by_cases h6 : s[a] = 13
    · rw [if_pos h6, ← hd]; exact escape_line s a w l A C base h hs (.inl (nat h6 (by decide))) hown
    rw [if_neg h6]
    by_cases h7 : s[a] = 10
    · rw [if_pos h7, ← hd]; exact escape_line s a w l A C base h hs (.inr (nat h7 (by decide))) hown
    rw [if_neg h7]
    by_cases h8 : octD s[a] = true
    · rw [if_pos h8, ← hd]; exact escape_oct s a w l A C base h hs hl hb h8 hown
    · rw [if_neg h8]; exact escape_plain s a w l A C base h hs hl hb (by simpa using h8) h1 h2 h3 h4 h5 h6 h7 hown
  · have hd : s.data.toList.drop a = [] := List.drop_eq_nil_of_le (by simp; omega)
    rw [hd, escL]
    exact escape_end s a w l A C base (by omega) hs hown
end
end Go.Proofs.YtdpbpdikgcepbaaGreatDoor
