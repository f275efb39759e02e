/-
  Lemmas and walks, joined: LexG, LexI, LexH, LexJ, LexM2, LexK, LexL.
-/
import Derived.Test.YtbmiogoigjdceaaDoorQ06
import Derived.Test.YtbmiogoigjdceaaDoorQ04
import Derived.Test.YtbmiogoigjdceaaDoorQ07
import Derived.Laws.IdiomStrings
import Derived.Outline
namespace Go.Proofs.YtbmiogoigjdceaaDoor
open Go.RowKit Oct Fix Lex

theorem drop_cons (s : ByteArray) (a : Nat) (h : a < s.size) : s.data.toList.drop a = s[a] :: s.data.toList.drop (a + 1) := by
  have h1 : a < s.data.toList.length := by simpa using h
  rw [List.drop_eq_getElem_cons h1]
  rfl

/-- A row of bytes of the caller's own, and what it is made longer by. -/
def EscOut (base : Nat) (l : List UInt8) (r : List UInt8) (p : Nat) (w : World) (e : Ending) (w' : World) : Prop :=
  ∃ v', e = .returned (.tuple #[v', .int .i64 (p : Int)]) ∧ w'.ownsRow base 5 1 v' (l ++ r).length (cellsOf (l ++ r)) ∧ Below base w w'
theorem EscOut.mk {base : Nat} {l r : List UInt8} {p : Nat} {w w' : World} {v : Value} {q : Int} {n : Nat} {xs : List Value} (hq : q = (p : Int)) (hn : n = (l ++ r).length) (hx : xs = cellsOf (l ++ r))
    (ho : w'.ownsRow base 5 1 v n xs) (hb : Below base w w') : EscOut base l r p w (.returned (.tuple #[v, .int .i64 q])) w' := by
  subst hn hx hq
  exact ⟨v, rfl, ho, hb⟩
theorem cells_snoc (l : List UInt8) (c : UInt8) : cellsOf l ++ [.int .u8 (c.toNat : Int)] = cellsOf (l ++ [c]) := by rw [cellsOf_append]; rfl

section
variable (s : ByteArray) (a : Nat) (w : World) (l : List UInt8) (A : Option Addr) (C base : Nat)

set_option maxHeartbeats 1000000 in
theorem escape_n (ha : a < s.size) (hs : s.size ≤ 4000000000) (hl : l.length ≤ 4000000000) (hb : base ≤ w.heap.size) (hc : s[a].toNat = 110)
    (hown : w.ownsRow base 5 1 (.slice A l.length C) l.length (cellsOf l)) :
    Calls Tryd.prog 33 #[.slice A l.length C, .string s, .int .i64 (a : Int)] w (EscOut base l [10] (a + 1) w) := by
  obtain ⟨i5, hi, hz0, hz1, hz2⟩ := info_parts info5
  have HO := Lib.hid hown
  have b0 : ((a : Int) == (s.size : Int)) = false := by simp; omega
  have b110 : ((s[a].toNat : Int) == 110) = true := by rw [hc]; rfl
  have b114 : ((s[a].toNat : Int) == 114) = false := by rw [hc]; rfl
  have b116 : ((s[a].toNat : Int) == 116) = false := by rw [hc]; rfl
  have b98 : ((s[a].toNat : Int) == 98) = false := by rw [hc]; rfl
  have b102 : ((s[a].toNat : Int) == 102) = false := by rw [hc]; rfl
  have b13 : ((s[a].toNat : Int) == 13) = false := by rw [hc]; rfl
  have b10 : ((s[a].toNat : Int) == 10) = false := by rw [hc]; rfl
  have HC := Lib.hid hc
  clear hown hc
  go_enter Tryd.func33, Tryd.ntmps33
  go_wp2_with (first | (at_builtin; refine wpList_append_own _ rfl _ _ 39 rfl base 5 i5 (.int .u8 0) 1 1 Tryd.underlying39 hi hz0 hz1 hz2 rfl (by decide) _ _ _ rfl (HO.out.alloc _) ⟨w.heap.size, 0, none⟩ 1 1 [.int .u8 10] rfl rfl (World.news_of_block (heap_alloc_new w _)) (by simp [Value.oneCell']) (by unfold maxLen; omega) (by omega) (by simp; omega) ?_))
  intro v2 w2 hown2 hgrow2
  intros
  go_wp2
  go_ret2
  exact EscOut.mk (by go_num) (by simp) (cells_snoc l 10) hown2 (((Below.refl _ _).alloc hb _).grown hgrow2 (by simp; omega) (fun g h => (HO.out.lt g h).1))

set_option maxHeartbeats 1000000 in
theorem escape_r (ha : a < s.size) (hs : s.size ≤ 4000000000) (hl : l.length ≤ 4000000000) (hb : base ≤ w.heap.size) (hc : s[a].toNat = 114)
    (hown : w.ownsRow base 5 1 (.slice A l.length C) l.length (cellsOf l)) :
    Calls Tryd.prog 33 #[.slice A l.length C, .string s, .int .i64 (a : Int)] w (EscOut base l [13] (a + 1) w) := by
  obtain ⟨i5, hi, hz0, hz1, hz2⟩ := info_parts info5
  have HO := Lib.hid hown
  have b0 : ((a : Int) == (s.size : Int)) = false := by simp; omega
  have b110 : ((s[a].toNat : Int) == 110) = false := by rw [hc]; rfl
  have b114 : ((s[a].toNat : Int) == 114) = true := by rw [hc]; rfl
  have b116 : ((s[a].toNat : Int) == 116) = false := by rw [hc]; rfl
  have b98 : ((s[a].toNat : Int) == 98) = false := by rw [hc]; rfl
  have b102 : ((s[a].toNat : Int) == 102) = false := by rw [hc]; rfl
  have b13 : ((s[a].toNat : Int) == 13) = false := by rw [hc]; rfl
  have b10 : ((s[a].toNat : Int) == 10) = false := by rw [hc]; rfl
  have HC := Lib.hid hc
  clear hown hc
  go_enter Tryd.func33, Tryd.ntmps33
  go_wp2_with (first | (at_builtin; refine wpList_append_own _ rfl _ _ 39 rfl base 5 i5 (.int .u8 0) 1 1 Tryd.underlying39 hi hz0 hz1 hz2 rfl (by decide) _ _ _ rfl (HO.out.alloc _) ⟨w.heap.size, 0, none⟩ 1 1 [.int .u8 13] rfl rfl (World.news_of_block (heap_alloc_new w _)) (by simp [Value.oneCell']) (by unfold maxLen; omega) (by omega) (by simp; omega) ?_))
  intro v2 w2 hown2 hgrow2
  intros
  go_wp2
  go_ret2
  exact EscOut.mk (by go_num) (by simp) (cells_snoc l 13) hown2 (((Below.refl _ _).alloc hb _).grown hgrow2 (by simp; omega) (fun g h => (HO.out.lt g h).1))

set_option maxHeartbeats 1000000 in
theorem escape_t (ha : a < s.size) (hs : s.size ≤ 4000000000) (hl : l.length ≤ 4000000000) (hb : base ≤ w.heap.size) (hc : s[a].toNat = 116)
    (hown : w.ownsRow base 5 1 (.slice A l.length C) l.length (cellsOf l)) :
    Calls Tryd.prog 33 #[.slice A l.length C, .string s, .int .i64 (a : Int)] w (EscOut base l [9] (a + 1) w) := by
  obtain ⟨i5, hi, hz0, hz1, hz2⟩ := info_parts info5
  have HO := Lib.hid hown
  have b0 : ((a : Int) == (s.size : Int)) = false := by simp; omega
  have b110 : ((s[a].toNat : Int) == 110) = false := by rw [hc]; rfl
  have b114 : ((s[a].toNat : Int) == 114) = false := by rw [hc]; rfl
  have b116 : ((s[a].toNat : Int) == 116) = true := by rw [hc]; rfl
  have b98 : ((s[a].toNat : Int) == 98) = false := by rw [hc]; rfl
  have b102 : ((s[a].toNat : Int) == 102) = false := by rw [hc]; rfl
  have b13 : ((s[a].toNat : Int) == 13) = false := by rw [hc]; rfl
  have b10 : ((s[a].toNat : Int) == 10) = false := by rw [hc]; rfl
  have HC := Lib.hid hc
  clear hown hc
  go_enter Tryd.func33, Tryd.ntmps33
  go_wp2_with (first | (at_builtin; refine wpList_append_own _ rfl _ _ 39 rfl base 5 i5 (.int .u8 0) 1 1 Tryd.underlying39 hi hz0 hz1 hz2 rfl (by decide) _ _ _ rfl (HO.out.alloc _) ⟨w.heap.size, 0, none⟩ 1 1 [.int .u8 9] rfl rfl (World.news_of_block (heap_alloc_new w _)) (by simp [Value.oneCell']) (by unfold maxLen; omega) (by omega) (by simp; omega) ?_))
  intro v2 w2 hown2 hgrow2
  intros
  go_wp2
  go_ret2
  exact EscOut.mk (by go_num) (by simp) (cells_snoc l 9) hown2 (((Below.refl _ _).alloc hb _).grown hgrow2 (by simp; omega) (fun g h => (HO.out.lt g h).1))

set_option maxHeartbeats 1000000 in
theorem escape_b (ha : a < s.size) (hs : s.size ≤ 4000000000) (hl : l.length ≤ 4000000000) (hb : base ≤ w.heap.size) (hc : s[a].toNat = 98)
    (hown : w.ownsRow base 5 1 (.slice A l.length C) l.length (cellsOf l)) :
    Calls Tryd.prog 33 #[.slice A l.length C, .string s, .int .i64 (a : Int)] w (EscOut base l [8] (a + 1) w) := by
  obtain ⟨i5, hi, hz0, hz1, hz2⟩ := info_parts info5
  have HO := Lib.hid hown
  have b0 : ((a : Int) == (s.size : Int)) = false := by simp; omega
  have b110 : ((s[a].toNat : Int) == 110) = false := by rw [hc]; rfl
  have b114 : ((s[a].toNat : Int) == 114) = false := by rw [hc]; rfl
  have b116 : ((s[a].toNat : Int) == 116) = false := by rw [hc]; rfl
  have b98 : ((s[a].toNat : Int) == 98) = true := by rw [hc]; rfl
  have b102 : ((s[a].toNat : Int) == 102) = false := by rw [hc]; rfl
  have b13 : ((s[a].toNat : Int) == 13) = false := by rw [hc]; rfl
  have b10 : ((s[a].toNat : Int) == 10) = false := by rw [hc]; rfl
  have HC := Lib.hid hc
  clear hown hc
  go_enter Tryd.func33, Tryd.ntmps33
  go_wp2_with (first | (at_builtin; refine wpList_append_own _ rfl _ _ 39 rfl base 5 i5 (.int .u8 0) 1 1 Tryd.underlying39 hi hz0 hz1 hz2 rfl (by decide) _ _ _ rfl (HO.out.alloc _) ⟨w.heap.size, 0, none⟩ 1 1 [.int .u8 8] rfl rfl (World.news_of_block (heap_alloc_new w _)) (by simp [Value.oneCell']) (by unfold maxLen; omega) (by omega) (by simp; omega) ?_))
  intro v2 w2 hown2 hgrow2
  intros
  go_wp2
  go_ret2
  exact EscOut.mk (by go_num) (by simp) (cells_snoc l 8) hown2 (((Below.refl _ _).alloc hb _).grown hgrow2 (by simp; omega) (fun g h => (HO.out.lt g h).1))

set_option maxHeartbeats 1000000 in
theorem escape_f (ha : a < s.size) (hs : s.size ≤ 4000000000) (hl : l.length ≤ 4000000000) (hb : base ≤ w.heap.size) (hc : s[a].toNat = 102)
    (hown : w.ownsRow base 5 1 (.slice A l.length C) l.length (cellsOf l)) :
    Calls Tryd.prog 33 #[.slice A l.length C, .string s, .int .i64 (a : Int)] w (EscOut base l [12] (a + 1) w) := by
  obtain ⟨i5, hi, hz0, hz1, hz2⟩ := info_parts info5
  have HO := Lib.hid hown
  have b0 : ((a : Int) == (s.size : Int)) = false := by simp; omega
  have b110 : ((s[a].toNat : Int) == 110) = false := by rw [hc]; rfl
  have b114 : ((s[a].toNat : Int) == 114) = false := by rw [hc]; rfl
  have b116 : ((s[a].toNat : Int) == 116) = false := by rw [hc]; rfl
  have b98 : ((s[a].toNat : Int) == 98) = false := by rw [hc]; rfl
  have b102 : ((s[a].toNat : Int) == 102) = true := by rw [hc]; rfl
  have b13 : ((s[a].toNat : Int) == 13) = false := by rw [hc]; rfl
  have b10 : ((s[a].toNat : Int) == 10) = false := by rw [hc]; rfl
  have HC := Lib.hid hc
  clear hown hc
  go_enter Tryd.func33, Tryd.ntmps33
  go_wp2_with (first | (at_builtin; refine wpList_append_own _ rfl _ _ 39 rfl base 5 i5 (.int .u8 0) 1 1 Tryd.underlying39 hi hz0 hz1 hz2 rfl (by decide) _ _ _ rfl (HO.out.alloc _) ⟨w.heap.size, 0, none⟩ 1 1 [.int .u8 12] rfl rfl (World.news_of_block (heap_alloc_new w _)) (by simp [Value.oneCell']) (by unfold maxLen; omega) (by omega) (by simp; omega) ?_))
  intro v2 w2 hown2 hgrow2
  intros
  go_wp2
  go_ret2
  exact EscOut.mk (by go_num) (by simp) (cells_snoc l 12) hown2 (((Below.refl _ _).alloc hb _).grown hgrow2 (by simp; omega) (fun g h => (HO.out.lt g h).1))
end
end Go.Proofs.YtbmiogoigjdceaaDoor
namespace Go.Proofs.YtbmiogoigjdceaaDoor
open Go.RowKit Oct Fix Lex

section
variable (s : ByteArray) (a : Nat) (w : World) (l : List UInt8) (A : Option Addr) (C base : Nat)

set_option maxHeartbeats 1000000 in
theorem escape_end (ha : a = s.size) (_hs : s.size ≤ 4000000000)
    (hown : w.ownsRow base 5 1 (.slice A l.length C) l.length (cellsOf l)) :
    Calls Tryd.prog 33 #[.slice A l.length C, .string s, .int .i64 (a : Int)] w (EscOut base l [] a w) := by
  have HO := Lib.hid hown
  have b0 : ((a : Int) == (s.size : Int)) = true := by simp; omega
  clear hown
  go_enter Tryd.func33, Tryd.ntmps33
  go_wp2_with fail
  go_ret2
  exact EscOut.mk rfl (by simp) (by simp) HO.out (Below.refl _ _)

set_option maxHeartbeats 1000000 in
theorem escape_line (ha : a < s.size) (hs : s.size ≤ 4000000000) (hc : s[a].toNat = 13 ∨ s[a].toNat = 10)
    (hown : w.ownsRow base 5 1 (.slice A l.length C) l.length (cellsOf l)) :
    Calls Tryd.prog 33 #[.slice A l.length C, .string s, .int .i64 (a : Int)] w (EscOut base l [] (a + lineN (s.data.toList.drop a)) w) := by
  have HO := Lib.hid hown
  have b0 : ((a : Int) == (s.size : Int)) = false := by simp; omega
  have HE : Hid (lineS s.data.toList (a : Int) = ((a + lineN (s.data.toList.drop a) : Nat) : Int)) := Lib.hid (by
    unfold lineS
    rw [if_neg (by have : s.data.toList.length = s.size := by simp
                   omega)]
    simp)
  clear hown
  rcases hc with hc | hc
  · have b110 : ((s[a].toNat : Int) == 110) = false := by rw [hc]; rfl
    have b114 : ((s[a].toNat : Int) == 114) = false := by rw [hc]; rfl
    have b116 : ((s[a].toNat : Int) == 116) = false := by rw [hc]; rfl
    have b98 : ((s[a].toNat : Int) == 98) = false := by rw [hc]; rfl
    have b102 : ((s[a].toNat : Int) == 102) = false := by rw [hc]; rfl
    have b13 : ((s[a].toNat : Int) == 13) = true := by rw [hc]; rfl
    clear hc
    go_enter Tryd.func33, Tryd.ntmps33
    go_wp2_with (go_at_call 29; refine (line_any _ _ _ hs).mono ?_; rintro e w' ⟨rfl, rfl⟩)
    go_ret2
    exact EscOut.mk HE.out (by simp) (by simp) HO.out (Below.refl _ _)
  · have b110 : ((s[a].toNat : Int) == 110) = false := by rw [hc]; rfl
    have b114 : ((s[a].toNat : Int) == 114) = false := by rw [hc]; rfl
    have b116 : ((s[a].toNat : Int) == 116) = false := by rw [hc]; rfl
    have b98 : ((s[a].toNat : Int) == 98) = false := by rw [hc]; rfl
    have b102 : ((s[a].toNat : Int) == 102) = false := by rw [hc]; rfl
    have b13 : ((s[a].toNat : Int) == 13) = false := by rw [hc]; rfl
    have b10 : ((s[a].toNat : Int) == 10) = true := by rw [hc]; rfl
    clear hc
    go_enter Tryd.func33, Tryd.ntmps33
    go_wp2_with (go_at_call 29; refine (line_any _ _ _ hs).mono ?_; rintro e w' ⟨rfl, rfl⟩)
    go_ret2
    exact EscOut.mk HE.out (by simp) (by simp) HO.out (Below.refl _ _)

set_option maxHeartbeats 4000000 in
theorem escape_oct (ha : a < s.size) (hs : s.size ≤ 4000000000) (hl : l.length ≤ 4000000000) (hb : base ≤ w.heap.size) (hc : octD s[a] = true)
    (hown : w.ownsRow base 5 1 (.slice A l.length C) l.length (cellsOf l)) :
    Calls Tryd.prog 33 #[.slice A l.length C, .string s, .int .i64 (a : Int)] w (EscOut base l [UInt8.ofNat ((octN 3 0 (s.data.toList.drop a)).1 % 256)] (a + (octN 3 0 (s.data.toList.drop a)).2) w) := by
  obtain ⟨i5, hi, hz0, hz1, hz2⟩ := info_parts info5
  have HO := Lib.hid hown
  have b0 : ((a : Int) == (s.size : Int)) = false := by simp; omega
  have hcs : s[a].toNat = 48 ∨ s[a].toNat = 49 ∨ s[a].toNat = 50 ∨ s[a].toNat = 51 ∨ s[a].toNat = 52 ∨ s[a].toNat = 53 ∨ s[a].toNat = 54 ∨ s[a].toNat = 55 := by unfold octD at hc; simp at hc; omega
  obtain ⟨n, hn⟩ : ∃ n, (octN 3 0 (s.data.toList.drop a)).1 % 256 = n := ⟨_, rfl⟩
  obtain ⟨p, hp⟩ : ∃ p, a + (octN 3 0 (s.data.toList.drop a)).2 = p := ⟨_, rfl⟩
  have hn2 : n < 256 := by omega
  have hoct : ∀ w : World, Calls Tryd.prog 50 #[.string s, .int .i64 (a : Int)] w fun e w' => e = .returned (.tuple #[.int .u8 (n : Int), .int .i64 (p : Int)]) ∧ w = w' := fun w => by
    rw [← hn, ← hp]; exact octal_any s a w (by omega) hs
  have HOct := Lib.hid hoct
  rw [hn, hp]
  have e1 : ((UInt8.ofNat n).toNat : Int) = n := by simp; omega
  have E1 := Lib.hid e1
  clear hown hc hoct hn hp e1
  have fin : ∀ (v2 : Value) (w2 : World), w2.ownsRow base 5 1 v2 (l.length + 1) (cellsOf l ++ [.int .u8 (n : Int)]) → (w.alloc (.cells #[.int .u8 (n : Int)] 5)).grownBy w2 (Value.slice A l.length C).ownBlock →
      EscOut base l [UInt8.ofNat n] p w (.returned (.tuple #[v2, .int .i64 (p : Int)])) w2 := fun _ _ h1 h2 =>
    EscOut.mk rfl (by simp) (by rw [← cells_snoc, E1.out]) h1 (((Below.refl _ _).alloc hb _).grown h2 (by simp; omega) (fun g h => (HO.out.lt g h).1))
  have FIN := Lib.hid fin
  clear fin
  rcases hcs with hc | hc | hc | hc | hc | hc | hc | hc
  · have b110 : ((s[a].toNat : Int) == 110) = false := by rw [hc]; rfl
    have b114 : ((s[a].toNat : Int) == 114) = false := by rw [hc]; rfl
    have b116 : ((s[a].toNat : Int) == 116) = false := by rw [hc]; rfl
    have b98 : ((s[a].toNat : Int) == 98) = false := by rw [hc]; rfl
    have b102 : ((s[a].toNat : Int) == 102) = false := by rw [hc]; rfl
    have b13 : ((s[a].toNat : Int) == 13) = false := by rw [hc]; rfl
    have b10 : ((s[a].toNat : Int) == 10) = false := by rw [hc]; rfl
    have d0 : ((s[a].toNat : Int) == 48) = true := by rw [hc]; rfl
    clear hc
    go_enter Tryd.func33, Tryd.ntmps33
    go_wp2_with fail
    refine (HOct.out _).mono ?_
    rintro e w' ⟨rfl, rfl⟩
    go_wp2_with (first | (at_builtin; refine wpList_append_own _ rfl _ _ 39 rfl base 5 i5 (.int .u8 0) 1 1 Tryd.underlying39 hi hz0 hz1 hz2 rfl (by decide) _ _ _ rfl (HO.out.alloc _) ⟨w.heap.size, 0, none⟩ 1 1 [.int .u8 (n : Int)] rfl rfl (World.news_of_block (heap_alloc_new w _)) (by simp [Value.oneCell']) (by unfold maxLen; omega) (by omega) (by simp; omega) ?_))
    intro v2 w2 hown2 hgrow2
    intros
    go_wp2
    go_ret2
    exact FIN.out _ _ hown2 hgrow2
  · have b110 : ((s[a].toNat : Int) == 110) = false := by rw [hc]; rfl
    have b114 : ((s[a].toNat : Int) == 114) = false := by rw [hc]; rfl
    have b116 : ((s[a].toNat : Int) == 116) = false := by rw [hc]; rfl
    have b98 : ((s[a].toNat : Int) == 98) = false := by rw [hc]; rfl
    have b102 : ((s[a].toNat : Int) == 102) = false := by rw [hc]; rfl
    have b13 : ((s[a].toNat : Int) == 13) = false := by rw [hc]; rfl
    have b10 : ((s[a].toNat : Int) == 10) = false := by rw [hc]; rfl
    have d0 : ((s[a].toNat : Int) == 48) = false := by rw [hc]; rfl
    have d1 : ((s[a].toNat : Int) == 49) = true := by rw [hc]; rfl
    clear hc
    go_enter Tryd.func33, Tryd.ntmps33
    go_wp2_with fail
    refine (HOct.out _).mono ?_
    rintro e w' ⟨rfl, rfl⟩
    go_wp2_with (first | (at_builtin; refine wpList_append_own _ rfl _ _ 39 rfl base 5 i5 (.int .u8 0) 1 1 Tryd.underlying39 hi hz0 hz1 hz2 rfl (by decide) _ _ _ rfl (HO.out.alloc _) ⟨w.heap.size, 0, none⟩ 1 1 [.int .u8 (n : Int)] rfl rfl (World.news_of_block (heap_alloc_new w _)) (by simp [Value.oneCell']) (by unfold maxLen; omega) (by omega) (by simp; omega) ?_))
    intro v2 w2 hown2 hgrow2
    intros
    go_wp2
    go_ret2
    exact FIN.out _ _ hown2 hgrow2
  · have b110 : ((s[a].toNat : Int) == 110) = false := by rw [hc]; rfl
    have b114 : ((s[a].toNat : Int) == 114) = false := by rw [hc]; rfl
    have b116 : ((s[a].toNat : Int) == 116) = false := by rw [hc]; rfl
    have b98 : ((s[a].toNat : Int) == 98) = false := by rw [hc]; rfl
    have b102 : ((s[a].toNat : Int) == 102) = false := by rw [hc]; rfl
    have b13 : ((s[a].toNat : Int) == 13) = false := by rw [hc]; rfl
    have b10 : ((s[a].toNat : Int) == 10) = false := by rw [hc]; rfl
    have d0 : ((s[a].toNat : Int) == 48) = false := by rw [hc]; rfl
    have d1 : ((s[a].toNat : Int) == 49) = false := by rw [hc]; rfl
    have d2 : ((s[a].toNat : Int) == 50) = true := by rw [hc]; rfl
    clear hc
    go_enter Tryd.func33, Tryd.ntmps33
    go_wp2_with fail
    refine (HOct.out _).mono ?_
    rintro e w' ⟨rfl, rfl⟩
    go_wp2_with (first | (at_builtin; refine wpList_append_own _ rfl _ _ 39 rfl base 5 i5 (.int .u8 0) 1 1 Tryd.underlying39 hi hz0 hz1 hz2 rfl (by decide) _ _ _ rfl (HO.out.alloc _) ⟨w.heap.size, 0, none⟩ 1 1 [.int .u8 (n : Int)] rfl rfl (World.news_of_block (heap_alloc_new w _)) (by simp [Value.oneCell']) (by unfold maxLen; omega) (by omega) (by simp; omega) ?_))
    intro v2 w2 hown2 hgrow2
    intros
    go_wp2
    go_ret2
    exact FIN.out _ _ hown2 hgrow2
  · have b110 : ((s[a].toNat : Int) == 110) = false := by rw [hc]; rfl
    have b114 : ((s[a].toNat : Int) == 114) = false := by rw [hc]; rfl
    have b116 : ((s[a].toNat : Int) == 116) = false := by rw [hc]; rfl
    have b98 : ((s[a].toNat : Int) == 98) = false := by rw [hc]; rfl
    have b102 : ((s[a].toNat : Int) == 102) = false := by rw [hc]; rfl
    have b13 : ((s[a].toNat : Int) == 13) = false := by rw [hc]; rfl
    have b10 : ((s[a].toNat : Int) == 10) = false := by rw [hc]; rfl
    have d0 : ((s[a].toNat : Int) == 48) = false := by rw [hc]; rfl
    have d1 : ((s[a].toNat : Int) == 49) = false := by rw [hc]; rfl
    have d2 : ((s[a].toNat : Int) == 50) = false := by rw [hc]; rfl
    have d3 : ((s[a].toNat : Int) == 51) = true := by rw [hc]; rfl
    clear hc
    go_enter Tryd.func33, Tryd.ntmps33
    go_wp2_with fail
    refine (HOct.out _).mono ?_
    rintro e w' ⟨rfl, rfl⟩
    go_wp2_with (first | (at_builtin; refine wpList_append_own _ rfl _ _ 39 rfl base 5 i5 (.int .u8 0) 1 1 Tryd.underlying39 hi hz0 hz1 hz2 rfl (by decide) _ _ _ rfl (HO.out.alloc _) ⟨w.heap.size, 0, none⟩ 1 1 [.int .u8 (n : Int)] rfl rfl (World.news_of_block (heap_alloc_new w _)) (by simp [Value.oneCell']) (by unfold maxLen; omega) (by omega) (by simp; omega) ?_))
    intro v2 w2 hown2 hgrow2
    intros
    go_wp2
    go_ret2
    exact FIN.out _ _ hown2 hgrow2
  · have b110 : ((s[a].toNat : Int) == 110) = false := by rw [hc]; rfl
    have b114 : ((s[a].toNat : Int) == 114) = false := by rw [hc]; rfl
    have b116 : ((s[a].toNat : Int) == 116) = false := by rw [hc]; rfl
    have b98 : ((s[a].toNat : Int) == 98) = false := by rw [hc]; rfl
    have b102 : ((s[a].toNat : Int) == 102) = false := by rw [hc]; rfl
    have b13 : ((s[a].toNat : Int) == 13) = false := by rw [hc]; rfl
    have b10 : ((s[a].toNat : Int) == 10) = false := by rw [hc]; rfl
    have d0 : ((s[a].toNat : Int) == 48) = false := by rw [hc]; rfl
    have d1 : ((s[a].toNat : Int) == 49) = false := by rw [hc]; rfl
    have d2 : ((s[a].toNat : Int) == 50) = false := by rw [hc]; rfl
    have d3 : ((s[a].toNat : Int) == 51) = false := by rw [hc]; rfl
    have d4 : ((s[a].toNat : Int) == 52) = true := by rw [hc]; rfl
    clear hc
    go_enter Tryd.func33, Tryd.ntmps33
    go_wp2_with fail
    refine (HOct.out _).mono ?_
    rintro e w' ⟨rfl, rfl⟩
    go_wp2_with (first | (at_builtin; refine wpList_append_own _ rfl _ _ 39 rfl base 5 i5 (.int .u8 0) 1 1 Tryd.underlying39 hi hz0 hz1 hz2 rfl (by decide) _ _ _ rfl (HO.out.alloc _) ⟨w.heap.size, 0, none⟩ 1 1 [.int .u8 (n : Int)] rfl rfl (World.news_of_block (heap_alloc_new w _)) (by simp [Value.oneCell']) (by unfold maxLen; omega) (by omega) (by simp; omega) ?_))
    intro v2 w2 hown2 hgrow2
    intros
    go_wp2
    go_ret2
    exact FIN.out _ _ hown2 hgrow2
  · have b110 : ((s[a].toNat : Int) == 110) = false := by rw [hc]; rfl
    have b114 : ((s[a].toNat : Int) == 114) = false := by rw [hc]; rfl
    have b116 : ((s[a].toNat : Int) == 116) = false := by rw [hc]; rfl
    have b98 : ((s[a].toNat : Int) == 98) = false := by rw [hc]; rfl
    have b102 : ((s[a].toNat : Int) == 102) = false := by rw [hc]; rfl
    have b13 : ((s[a].toNat : Int) == 13) = false := by rw [hc]; rfl
    have b10 : ((s[a].toNat : Int) == 10) = false := by rw [hc]; rfl
    have d0 : ((s[a].toNat : Int) == 48) = false := by rw [hc]; rfl
    have d1 : ((s[a].toNat : Int) == 49) = false := by rw [hc]; rfl
    have d2 : ((s[a].toNat : Int) == 50) = false := by rw [hc]; rfl
    have d3 : ((s[a].toNat : Int) == 51) = false := by rw [hc]; rfl
    have d4 : ((s[a].toNat : Int) == 52) = false := by rw [hc]; rfl
    have d5 : ((s[a].toNat : Int) == 53) = true := by rw [hc]; rfl
    clear hc
    go_enter Tryd.func33, Tryd.ntmps33
    go_wp2_with fail
    refine (HOct.out _).mono ?_
    rintro e w' ⟨rfl, rfl⟩
    go_wp2_with (first | (at_builtin; refine wpList_append_own _ rfl _ _ 39 rfl base 5 i5 (.int .u8 0) 1 1 Tryd.underlying39 hi hz0 hz1 hz2 rfl (by decide) _ _ _ rfl (HO.out.alloc _) ⟨w.heap.size, 0, none⟩ 1 1 [.int .u8 (n : Int)] rfl rfl (World.news_of_block (heap_alloc_new w _)) (by simp [Value.oneCell']) (by unfold maxLen; omega) (by omega) (by simp; omega) ?_))
    intro v2 w2 hown2 hgrow2
    intros
    go_wp2
    go_ret2
    exact FIN.out _ _ hown2 hgrow2
  · have b110 : ((s[a].toNat : Int) == 110) = false := by rw [hc]; rfl
    have b114 : ((s[a].toNat : Int) == 114) = false := by rw [hc]; rfl
    have b116 : ((s[a].toNat : Int) == 116) = false := by rw [hc]; rfl
    have b98 : ((s[a].toNat : Int) == 98) = false := by rw [hc]; rfl
    have b102 : ((s[a].toNat : Int) == 102) = false := by rw [hc]; rfl
    have b13 : ((s[a].toNat : Int) == 13) = false := by rw [hc]; rfl
    have b10 : ((s[a].toNat : Int) == 10) = false := by rw [hc]; rfl
    have d0 : ((s[a].toNat : Int) == 48) = false := by rw [hc]; rfl
    have d1 : ((s[a].toNat : Int) == 49) = false := by rw [hc]; rfl
    have d2 : ((s[a].toNat : Int) == 50) = false := by rw [hc]; rfl
    have d3 : ((s[a].toNat : Int) == 51) = false := by rw [hc]; rfl
    have d4 : ((s[a].toNat : Int) == 52) = false := by rw [hc]; rfl
    have d5 : ((s[a].toNat : Int) == 53) = false := by rw [hc]; rfl
    have d6 : ((s[a].toNat : Int) == 54) = true := by rw [hc]; rfl
    clear hc
    go_enter Tryd.func33, Tryd.ntmps33
    go_wp2_with fail
    refine (HOct.out _).mono ?_
    rintro e w' ⟨rfl, rfl⟩
    go_wp2_with (first | (at_builtin; refine wpList_append_own _ rfl _ _ 39 rfl base 5 i5 (.int .u8 0) 1 1 Tryd.underlying39 hi hz0 hz1 hz2 rfl (by decide) _ _ _ rfl (HO.out.alloc _) ⟨w.heap.size, 0, none⟩ 1 1 [.int .u8 (n : Int)] rfl rfl (World.news_of_block (heap_alloc_new w _)) (by simp [Value.oneCell']) (by unfold maxLen; omega) (by omega) (by simp; omega) ?_))
    intro v2 w2 hown2 hgrow2
    intros
    go_wp2
    go_ret2
    exact FIN.out _ _ hown2 hgrow2
  · have b110 : ((s[a].toNat : Int) == 110) = false := by rw [hc]; rfl
    have b114 : ((s[a].toNat : Int) == 114) = false := by rw [hc]; rfl
    have b116 : ((s[a].toNat : Int) == 116) = false := by rw [hc]; rfl
    have b98 : ((s[a].toNat : Int) == 98) = false := by rw [hc]; rfl
    have b102 : ((s[a].toNat : Int) == 102) = false := by rw [hc]; rfl
    have b13 : ((s[a].toNat : Int) == 13) = false := by rw [hc]; rfl
    have b10 : ((s[a].toNat : Int) == 10) = false := by rw [hc]; rfl
    have d0 : ((s[a].toNat : Int) == 48) = false := by rw [hc]; rfl
    have d1 : ((s[a].toNat : Int) == 49) = false := by rw [hc]; rfl
    have d2 : ((s[a].toNat : Int) == 50) = false := by rw [hc]; rfl
    have d3 : ((s[a].toNat : Int) == 51) = false := by rw [hc]; rfl
    have d4 : ((s[a].toNat : Int) == 52) = false := by rw [hc]; rfl
    have d5 : ((s[a].toNat : Int) == 53) = false := by rw [hc]; rfl
    have d6 : ((s[a].toNat : Int) == 54) = false := by rw [hc]; rfl
    have d7 : ((s[a].toNat : Int) == 55) = true := by rw [hc]; rfl
    clear hc
    go_enter Tryd.func33, Tryd.ntmps33
    go_wp2_with fail
    refine (HOct.out _).mono ?_
    rintro e w' ⟨rfl, rfl⟩
    go_wp2_with (first | (at_builtin; refine wpList_append_own _ rfl _ _ 39 rfl base 5 i5 (.int .u8 0) 1 1 Tryd.underlying39 hi hz0 hz1 hz2 rfl (by decide) _ _ _ rfl (HO.out.alloc _) ⟨w.heap.size, 0, none⟩ 1 1 [.int .u8 (n : Int)] rfl rfl (World.news_of_block (heap_alloc_new w _)) (by simp [Value.oneCell']) (by unfold maxLen; omega) (by omega) (by simp; omega) ?_))
    intro v2 w2 hown2 hgrow2
    intros
    go_wp2
    go_ret2
    exact FIN.out _ _ hown2 hgrow2

set_option maxHeartbeats 2000000 in
theorem escape_plain (ha : a < s.size) (hs : s.size ≤ 4000000000) (hl : l.length ≤ 4000000000) (hb : base ≤ w.heap.size) (hc : octD s[a] = false) (h1 : s[a] ≠ 110) (h2 : s[a] ≠ 114) (h3 : s[a] ≠ 116) (h4 : s[a] ≠ 98) (h5 : s[a] ≠ 102) (h6 : s[a] ≠ 13) (h7 : s[a] ≠ 10)
    (hown : w.ownsRow base 5 1 (.slice A l.length C) l.length (cellsOf l)) :
    Calls Tryd.prog 33 #[.slice A l.length C, .string s, .int .i64 (a : Int)] w (EscOut base l [s[a]] (a + 1) w) := by
  obtain ⟨i5, hi, hz0, hz1, hz2⟩ := info_parts info5
  have HO := Lib.hid hown
  have b0 : ((a : Int) == (s.size : Int)) = false := by simp; omega
  have hcs : s[a].toNat < 48 ∨ 55 < s[a].toNat := by unfold octD at hc; simp at hc; omega
  have b110 : ((s[a].toNat : Int) == 110) = false := byte_isnt (n := 110) (by decide) h1
  have b114 : ((s[a].toNat : Int) == 114) = false := byte_isnt (n := 114) (by decide) h2
  have b116 : ((s[a].toNat : Int) == 116) = false := byte_isnt (n := 116) (by decide) h3
  have b98 : ((s[a].toNat : Int) == 98) = false := byte_isnt (n := 98) (by decide) h4
  have b102 : ((s[a].toNat : Int) == 102) = false := byte_isnt (n := 102) (by decide) h5
  have b13 : ((s[a].toNat : Int) == 13) = false := byte_isnt (n := 13) (by decide) h6
  have b10 : ((s[a].toNat : Int) == 10) = false := byte_isnt (n := 10) (by decide) h7
  have d0 : ((s[a].toNat : Int) == 48) = false := by simp; omega
  have d1 : ((s[a].toNat : Int) == 49) = false := by simp; omega
  have d2 : ((s[a].toNat : Int) == 50) = false := by simp; omega
  have d3 : ((s[a].toNat : Int) == 51) = false := by simp; omega
  have d4 : ((s[a].toNat : Int) == 52) = false := by simp; omega
  have d5 : ((s[a].toNat : Int) == 53) = false := by simp; omega
  have d6 : ((s[a].toNat : Int) == 54) = false := by simp; omega
  have d7 : ((s[a].toNat : Int) == 55) = false := by simp; omega
  obtain ⟨c, hcc⟩ : ∃ c, s[a] = c := ⟨_, rfl⟩
  rw [hcc] at b110 b114 b116 b98 b102 b13 b10 d0 d1 d2 d3 d4 d5 d6 d7 ⊢
  have HC := Lib.hid hcc
  clear hown hc hcs h1 h2 h3 h4 h5 h6 h7
  go_enter Tryd.func33, Tryd.ntmps33
  go_wp2_with (first | (at_builtin; refine wpList_append_own _ rfl _ _ 39 rfl base 5 i5 (.int .u8 0) 1 1 Tryd.underlying39 hi hz0 hz1 hz2 rfl (by decide) _ _ _ rfl (HO.out.alloc _) ⟨w.heap.size, 0, none⟩ 1 1 [.int .u8 (c.toNat : Int)] rfl rfl (World.news_of_block (heap_alloc_new w _)) (by simp [Value.oneCell']) (by unfold maxLen; omega) (by omega) (by simp; omega) ?_))
  intro v2 w2 hown2 hgrow2
  intros
  go_wp2
  go_ret2
  exact EscOut.mk (by go_num) (by simp) (cells_snoc l c) hown2 (((Below.refl _ _).alloc hb _).grown hgrow2 (by simp; omega) (fun g h => (HO.out.lt g h).1))

theorem escape_any (ha : a ≤ s.size) (hs : s.size ≤ 4000000000) (hl : l.length ≤ 4000000000) (hb : base ≤ w.heap.size)
    (hown : w.ownsRow base 5 1 (.slice A l.length C) l.length (cellsOf l)) :
    Calls Tryd.prog 33 #[.slice A l.length C, .string s, .int .i64 (a : Int)] w (EscOut base l (escL (s.data.toList.drop a)).1 (a + (escL (s.data.toList.drop a)).2) w) := by
  by_cases h : a < s.size
  · have hd := drop_cons s a h
    have nat : ∀ {n : Nat}, s[a] = UInt8.ofNat n → n < 256 → s[a].toNat = n := fun e hn => by rw [e]; simp; omega
    rw [hd, escL]
    by_cases h1 : s[a] = 110
    · rw [if_pos h1]; exact escape_n s a w l A C base h hs hl hb (nat h1 (by decide)) hown
    rw [if_neg h1]
    by_cases h2 : s[a] = 114
    · rw [if_pos h2]; exact escape_r s a w l A C base h hs hl hb (nat h2 (by decide)) hown
    rw [if_neg h2]
    by_cases h3 : s[a] = 116
    · rw [if_pos h3]; exact escape_t s a w l A C base h hs hl hb (nat h3 (by decide)) hown
    rw [if_neg h3]
    by_cases h4 : s[a] = 98
    · rw [if_pos h4]; exact escape_b s a w l A C base h hs hl hb (nat h4 (by decide)) hown
    rw [if_neg h4]
    by_cases h5 : s[a] = 102
    · rw [if_pos h5]; exact escape_f s a w l A C base h hs hl hb (nat h5 (by decide)) hown
    rw [if_neg h5]
    by_cases h6 : s[a] = 13
    · rw [if_pos h6, ← hd]; exact escape_line s a w l A C base h hs (.inl (nat h6 (by decide))) hown
    rw [if_neg h6]
    by_cases h7 : s[a] = 10
    · rw [if_pos h7, ← hd]; exact escape_line s a w l A C base h hs (.inr (nat h7 (by decide))) hown
    rw [if_neg h7]
    by_cases h8 : octD s[a] = true
    · rw [if_pos h8, ← hd]; exact escape_oct s a w l A C base h hs hl hb h8 hown
    · rw [if_neg h8]; exact escape_plain s a w l A C base h hs hl hb (by simpa using h8) h1 h2 h3 h4 h5 h6 h7 hown
  · have hd : s.data.toList.drop a = [] := List.drop_eq_nil_of_le (by simp; omega)
    rw [hd, escL]
    exact escape_end s a w l A C base (by omega) hs hown
end
end Go.Proofs.YtbmiogoigjdceaaDoor
namespace Go.Proofs.YtbmiogoigjdceaaDoor
open Go.RowKit Oct Fix Lex

/-! A token of what was read: where it begins, where it ends, its text. -/
def tA (a : Nat) (R : TR) : Int := if R.err = 0 then (a : Int) else 0
def tT (a : Nat) (R : TR) : Int := if R.err = 0 then ((a + R.len : Nat) : Int) else 0
def tS (R : TR) : ByteArray := ⟨R.txt.toArray⟩
theorem tok_ok {a n : Nat} {k a' t m : Int} {b : ByteArray} {R : TR} (hR : R = ⟨0, k, n, m, b.data.toList⟩) (ha : a' = (a : Int)) (ht : t = ((a + n : Nat) : Int)) :
    Ending.returned (.tuple #[.agg #[.int .i64 k, .int .i64 a', .int .i64 t, .int .i64 m, .string b], .int .i64 0]) = .returned (.tuple #[.agg #[.int .i64 R.kind, .int .i64 (tA a R), .int .i64 (tT a R), .int .i64 R.num, .string (tS R)], .int .i64 R.err]) := by
  subst hR ha ht
  rfl
theorem tok_bad {a : Nat} {c : Int} {R : TR} (hR : R = bad c) (hc : c ≠ 0) :
    Ending.returned (.tuple #[.agg #[.int .i64 0, .int .i64 0, .int .i64 0, .int .i64 0, .string ⟨#[]⟩], .int .i64 c]) = .returned (.tuple #[.agg #[.int .i64 R.kind, .int .i64 (tA a R), .int .i64 (tT a R), .int .i64 R.num, .string (tS R)], .int .i64 R.err]) := by
  subst hR
  unfold tA tT tS bad
  rw [if_neg hc, if_neg hc]

theorem below_tok (w : World) (cs : Array Value) (t : TypeId) : Below w.heap.size w (w.alloc (.cells cs t)) := (Below.refl _ _).alloc (Nat.le_refl _) _

set_option maxHeartbeats 1000000 in
theorem stringToken_ok (a t : Int) (b : ByteArray) (w : World) (h : b.size ≤ 32767) :
    Calls Tryd.prog 34 #[.int .i64 a, .int .i64 t, .string b] w fun e w' => e = .returned (.tuple #[.agg #[.int .i64 3, .int .i64 a, .int .i64 t, .int .i64 0, .string b], .int .i64 0]) ∧ Below w.heap.size w w' := by
  have h' : ¬ (32767 : Int) < (b.size : Int) := by omega
  go_enter Tryd.func34, Tryd.ntmps34
  go_wp2_with fail
  exact bodyPost_ret (v := .tuple #[.agg #[.int .i64 3, .int .i64 a, .int .i64 t, .int .i64 0, .string b], .int .i64 0]) (by simp [results, Tryd.results34, go_sem]) rfl ⟨rfl, below_tok _ _ _⟩
set_option maxHeartbeats 1000000 in
theorem stringToken_long (a t : Int) (b : ByteArray) (w : World) (h : 32767 < b.size) :
    Calls Tryd.prog 34 #[.int .i64 a, .int .i64 t, .string b] w fun e w' => e = .returned (.tuple #[.agg #[.int .i64 0, .int .i64 0, .int .i64 0, .int .i64 0, .string ⟨#[]⟩], .int .i64 5]) ∧ Below w.heap.size w w' := by
  have h' : (32767 : Int) < (b.size : Int) := by omega
  go_enter Tryd.func34, Tryd.ntmps34
  go_wp2_with fail
  exact bodyPost_ret (v := .tuple #[.agg #[.int .i64 0, .int .i64 0, .int .i64 0, .int .i64 0, .string ⟨#[]⟩], .int .i64 5]) (by simp [results, Tryd.results34, go_sem]) rfl ⟨rfl, below_tok _ _ _⟩
/-- What is read of a string's bytes. -/
def strR (n : Nat) (x : List UInt8) : TR := if 32767 < x.length then bad 5 else ⟨0, 3, n, 0, x⟩
theorem stringToken_any (a n : Nat) (t : Int) (b : ByteArray) (w : World) (ht : t = ((a + n : Nat) : Int)) :
    Calls Tryd.prog 34 #[.int .i64 (a : Int), .int .i64 t, .string b] w fun e w' => e = .returned (.tuple #[.agg #[.int .i64 (strR n b.data.toList).kind, .int .i64 (tA a (strR n b.data.toList)), .int .i64 (tT a (strR n b.data.toList)), .int .i64 (strR n b.data.toList).num, .string (tS (strR n b.data.toList))], .int .i64 (strR n b.data.toList).err]) ∧ Below w.heap.size w w' := by
  have hl : b.data.toList.length = b.size := by simp
  by_cases h : 32767 < b.size
  · refine (stringToken_long _ _ b w h).mono fun e w' ⟨h1, h2⟩ => ⟨h1.trans (tok_bad ?_ (by decide)), h2⟩
    unfold strR; rw [if_pos (by omega)]
  · refine (stringToken_ok _ _ b w (by omega)).mono fun e w' ⟨h1, h2⟩ => ⟨h1.trans (tok_ok (n := n) ?_ rfl ht), h2⟩
    unfold strR; rw [if_neg (by omega)]

set_option maxHeartbeats 1000000 in
theorem mark_any (s : ByteArray) (a b : Nat) (w : World) (h : a ≤ b) (h2 : b ≤ s.size) (_hs : s.size ≤ 4000000000) :
    Calls Tryd.prog 19 #[.string s, .int .i64 (a : Int), .int .i64 (b : Int)] w fun e w' => e = .returned (.tuple #[.agg #[.int .i64 6, .int .i64 (a : Int), .int .i64 (b : Int), .int .i64 0, .string (s.extract a b)], .int .i64 0]) ∧ Below w.heap.size w w' := by
  go_enter Tryd.func19, Tryd.ntmps19
  go_wp2_with fail
  exact bodyPost_ret (v := .tuple #[.agg #[.int .i64 6, .int .i64 (a : Int), .int .i64 (b : Int), .int .i64 0, .string (s.extract a b)], .int .i64 0]) (by simp [results, Tryd.results19, go_sem]) rfl ⟨rfl, below_tok _ _ _⟩

/-! ### A name's bytes -/
/-- k bytes of l are read, out is what they denote. -/
def DecAt (l : List UInt8) (k : Nat) (out : List UInt8) : Prop := decL l = (decL (l.drop k)).map (out ++ ·) ∧ out.length ≤ k
theorem DecAt.zero (l : List UInt8) : DecAt l 0 [] := by
  refine ⟨?_, Nat.le_refl _⟩
  rw [List.drop_zero]
  cases decL l <;> rfl
theorem DecAt.plain {l out : List UInt8} {k : Nat} (h : DecAt l k out) (hk : k < l.length) (hc : ¬ l[k] = 35) : DecAt l (k + 1) (out ++ [l[k]]) := by
  obtain ⟨h1, h2⟩ := h
  refine ⟨?_, by simp; omega⟩
  rw [h1, List.drop_eq_getElem_cons hk, decL_plain _ hc]
  cases decL (l.drop (k + 1)) <;> simp
theorem drop_three {l : List UInt8} {k : Nat} (hk : k + 2 < l.length) : l.drop k = l[k] :: l[k + 1] :: l[k + 2] :: l.drop (k + 3) := by
  rw [List.drop_eq_getElem_cons (by omega), List.drop_eq_getElem_cons (by omega), List.drop_eq_getElem_cons (by omega)]
def HashOk (a b : UInt8) : Prop := 0 ≤ digitS a ∧ 0 ≤ digitS b ∧ ¬ 16 * digitS a + digitS b = 0
theorem DecAt.hash {l out : List UInt8} {k : Nat} (h : DecAt l k out) (hk : k + 2 < l.length) (hc : l[k] = 35) (hh : HashOk l[k + 1] l[k + 2]) : DecAt l (k + 3) (out ++ [pairByte l[k + 1] l[k + 2]]) := by
  obtain ⟨h1, h2⟩ := h
  refine ⟨?_, by simp; omega⟩
  rw [h1, drop_three hk, hc, decL_hash _ hh]
  cases decL (l.drop (k + 3)) <;> simp
theorem DecAt.bad {l out : List UInt8} {k : Nat} (h : DecAt l k out) (hk : k + 2 < l.length) (hc : l[k] = 35) (hh : ¬ HashOk l[k + 1] l[k + 2]) : decL l = none := by
  rw [h.1, drop_three hk, hc, decL_bad _ hh]; rfl
theorem DecAt.short {l out : List UInt8} {k : Nat} (h : DecAt l k out) (hk : k < l.length) (hc : l[k] = 35) (hl : ¬ k + 2 < l.length) : decL l = none := by
  rw [h.1, List.drop_eq_getElem_cons hk, hc, decL_short _ (by rw [List.length_drop]; omega)]; rfl
theorem DecAt.done {l out : List UInt8} {k : Nat} (h : DecAt l k out) (hk : l.length ≤ k) : decL l = some out := by
  rw [h.1, List.drop_eq_nil_of_le hk, decL_nil]; simp
def decE (s : ByteArray) : Int := match decL s.data.toList with | none => 3 | some x => if 127 < x.length then 5 else 0
def decT (s : ByteArray) : ByteArray := match decL s.data.toList with | none => ⟨#[]⟩ | some x => if 127 < x.length then ⟨#[]⟩ else ⟨x.toArray⟩
theorem dec_none {s : ByteArray} (h : decL s.data.toList = none) : decT s = ⟨#[]⟩ ∧ decE s = 3 := by unfold decT decE; rw [h]; exact ⟨rfl, rfl⟩
theorem dec_long {s : ByteArray} {x : List UInt8} (h : decL s.data.toList = some x) (hl : 127 < x.length) : decT s = ⟨#[]⟩ ∧ decE s = 5 := by unfold decT decE; rw [h]; simp only [if_pos hl]; exact ⟨trivial, trivial⟩
theorem dec_some {s : ByteArray} {x : List UInt8} (h : decL s.data.toList = some x) (hl : ¬ 127 < x.length) : decT s = ⟨x.toArray⟩ ∧ decE s = 0 := by unfold decT decE; rw [h]; simp only [if_neg hl]; exact ⟨trivial, trivial⟩

/-- Two bytes as digits, as octet.Unhex answers. -/
theorem two_list (s : ByteArray) (k : Nat) (h : k + 2 < s.size) : (s.extract (k + 1) (k + 3)).data.toList = [s[k + 1], s[k + 2]] := by
  rw [ByteArray.data_extract, Array.toList_extract, List.extract_eq_take_drop]
  have h1 : k + 1 < s.data.toList.length := by simp; omega
  have h2 : k + 1 + 1 < s.data.toList.length := by simp; omega
  rw [List.drop_eq_getElem_cons h1, List.drop_eq_getElem_cons h2, show k + 3 - (k + 1) = 2 from by omega]
  rfl
theorem pair_zero {a b : UInt8} (h1 : 0 ≤ digitS a) (h2 : 0 ≤ digitS b) : (pairByte a b).toNat = (16 * digitS a + digitS b).toNat := by
  have := digit_le a
  have := digit_le b
  unfold pairByte
  rw [UInt8.toNat_ofNat']
  omega
end Go.Proofs.YtbmiogoigjdceaaDoor
namespace Go.Proofs.YtbmiogoigjdceaaDoor
open Go.RowKit Oct Fix Lex

theorem unhex_two {s : ByteArray} {a b : UInt8} (h : s.data.toList = [a, b]) :
    (digitS a < 0 ∨ digitS b < 0 → unhexT s = ⟨#[]⟩ ∧ unhexE s = 3) ∧ (0 ≤ digitS a → 0 ≤ digitS b → unhexT s = ⟨#[pairByte a b]⟩ ∧ unhexE s = 0) := by
  refine ⟨fun h1 => unhexE_none ?_, fun h1 h2 => ?_⟩
  · rw [h, unhexS, if_pos h1]
  · have := unhexE_some (s := s) (l := [pairByte a b]) (by rw [h, unhexS, if_neg (by omega), unhexS]; rfl)
    exact this

set_option maxHeartbeats 4000000 in
theorem decoded_any (s : ByteArray) (w : World) (hs : s.size ≤ 4000000000) :
    Calls Tryd.prog 36 #[.string s] w fun e w' => e = .returned (.tuple #[.string (decT s), .int .i64 (decE s)]) ∧ Below w.heap.size w w' := by
  obtain ⟨i5, hi, hz0, hz1, hz2⟩ := info_parts info5
  have hsl : s.data.toList.length = s.size := by simp
  have HSL := Lib.hid hsl
  clear hsl
  go_enter Tryd.func36, Tryd.ntmps36
  go_wp2_with fail
  go_loopw [4, 5] (fun v i wr => ∃ (k : Nat) (out : List UInt8) (A : Option Addr) (C : Nat), k ≤ s.size ∧ i = .int .i64 k ∧ v = .slice A out.length C ∧ DecAt s.data.toList k out ∧ wr.ownsRow w.heap.size 5 1 (.slice A out.length C) out.length (cellsOf out) ∧ Below w.heap.size w wr) (fun _ i _ => s.size - (intOf i).toNat)
  case atStart => exact ⟨0, [], none, 0, by omega, rfl, rfl, DecAt.zero _, World.ownsRow_nil _ _ _ _, Below.refl _ _⟩
  case round =>
    obtain ⟨k, out, A, C, hk, rfl, rfl, hd, hown, hb⟩ := hrel
    have hol := hd.2
    have HD := Lib.hid hd
    have HO := Lib.hid hown
    have HB := Lib.hid hb
    have hbs := hb.size
    clear hd hown hb
    by_cases hlt : k < s.size
    · by_cases hc : s[k] = 35
      · have b35 : ((s[k].toNat : Int) == 35) = true := by rw [hc]; rfl
        by_cases hl : k + 2 < s.size
        · have l1 : ¬ (s.size : Int) < (k : Int) + 3 := by omega
          have l2 : (0 : Int) ≤ (k : Int) + 1 := by omega
          have l3 : (k : Int) + 1 ≤ (k : Int) + 3 := by omega
          have l4 : (k : Int) + 3 ≤ (s.size : Int) := by omega
          have hu := unhex_two (two_list s k hl)
          have HC := Lib.hid hc
          have hes : (s.extract (k + 1) (k + 3)).size ≤ 4000000000 := by rw [ByteArray.size_extract]; omega
          by_cases hp : 0 ≤ digitS s[k + 1] ∧ 0 ≤ digitS s[k + 2]
          · obtain ⟨u1, u2⟩ := hu.2 hp.1 hp.2
            have hpz := pair_zero hp.1 hp.2
            obtain ⟨p, hpp⟩ : ∃ p, pairByte s[k + 1] s[k + 2] = p := ⟨_, rfl⟩
            rw [hpp] at u1 hpz
            by_cases hz : 16 * digitS s[k + 1] + digitS s[k + 2] = 0
            · have ep : p = 0 := by apply UInt8.toNat_inj.1; rw [hpz, hz]; rfl
              subst ep
              have U1 := Lib.hid u1
              have U2 := Lib.hid u2
              have E := Lib.hid (dec_none (s := s) (HD.out.bad (by rw [HSL.out]; exact hl) HC.out (fun h => h.2.2 hz)))
              clear u1 u2 hu hpp hpz hc hp hz
              go_wp2_with fail
              refine (unhex_c _ ⟨#[0]⟩ 0 _ hes U1.out U2.out).mono ?_
              rintro e w2 ⟨rfl, hb2⟩
              have HB2 := Lib.hid hb2
              clear hb2
              go_wp2_with fail
              go_ret2
              exact ⟨ret_two E.out.1.symm E.out.2.symm, HB.out.trans (HB2.out.mono hbs)⟩
            · have ep : p ≠ 0 := by
                intro e
                rw [e] at hpz
                have : (0 : UInt8).toNat = 0 := rfl
                omega
              have EP := Lib.hid ep
              clear ep
              obtain ⟨t, ht⟩ : ∃ t : ByteArray, (⟨#[p]⟩ : ByteArray) = t := ⟨_, rfl⟩
              rw [ht] at u1
              have ht0 : 0 < t.size := by subst ht; exact Nat.one_pos
              have htp : t[0] = p := by subst ht; rfl
              have bq : (t.toList == [0]) = false := by
                rw [Lib.toList_data, ← ht]
                show ([p] == [0]) = false
                rw [beq_eq_false_iff_ne]
                intro e
                injection e with e
                exact EP.out e
              have HTP := Lib.hid htp
              clear ht htp
              have U1 := Lib.hid u1
              have U2 := Lib.hid u2
              have N : Hid (DecAt s.data.toList (k + 3) (out ++ [t[0]])) := Lib.hid (by
                rw [HTP.out, ← hpp]
                exact HD.out.hash (by rw [HSL.out]; exact hl) HC.out ⟨hp.1, hp.2, hz⟩)
              clear u1 u2 hu hpp hpz hc hp hz
              go_wp2_with fail
              refine (unhex_c _ t 0 _ hes U1.out U2.out).mono ?_
              rintro e w2 ⟨rfl, hb2⟩
              have hbs2 := hb2.size
              have ho2 := HO.out.kept (w' := w2) (row := none) ⟨hb2.os, hb2.tape, hb2.output, hb2.size, fun i hi _ => hb2.block i hi⟩ (by cases A <;> simp [Value.ownBlock])
              have HB2 := Lib.hid hb2
              have HO2 := Lib.hid ho2
              clear hb2 ho2
              go_wp2_with (first | (at_builtin; refine wpList_append_own _ rfl _ _ 39 rfl w.heap.size 5 i5 (.int .u8 0) 1 1 Tryd.underlying39 hi hz0 hz1 hz2 rfl (by decide) _ _ _ rfl (HO2.out.alloc _) ⟨w2.heap.size, 0, none⟩ 1 1 [.int .u8 (t[0].toNat : Int)] rfl rfl (World.news_of_block (heap_alloc_new w2 _)) (by simp [Value.oneCell']) (by unfold maxLen; omega) (by omega) (by simp; omega) ?_))
              intro v3 w3 hown3 hgrow3
              intros
              obtain ⟨A3, C3, rfl⟩ := own_form hown3
              go_wp2
              go_roundw
              case rel => exact ⟨k + 3, out ++ [t[0]], A3, C3, by omega, by go_num, by simp, N.out, by rw [← cells_snoc, List.length_append]; exact hown3, ((HB.out.trans (HB2.out.mono hbs)).alloc (by omega) _).grown hgrow3 (by simp; omega) (fun g h => (HO2.out.lt g h).1)⟩
              case measure => simp [intOf]; omega
          · obtain ⟨u1, u2⟩ := hu.1 (by omega)
            have U1 := Lib.hid u1
            have U2 := Lib.hid u2
            have E := Lib.hid (dec_none (s := s) (HD.out.bad (by rw [HSL.out]; exact hl) HC.out (fun h => hp ⟨h.1, h.2.1⟩)))
            clear u1 u2 hu hc hp
            go_wp2_with fail
            refine (unhex_c _ ⟨#[]⟩ 3 _ hes U1.out U2.out).mono ?_
            rintro e w2 ⟨rfl, hb2⟩
            have HB2 := Lib.hid hb2
            clear hb2
            go_wp2_with fail
            go_ret2
            exact ⟨ret_two E.out.1.symm E.out.2.symm, HB.out.trans (HB2.out.mono hbs)⟩
        · have l1 : (s.size : Int) < (k : Int) + 3 := by omega
          have E := Lib.hid (dec_none (s := s) (HD.out.short (by rw [HSL.out]; exact hlt) hc (by rw [HSL.out]; exact hl)))
          clear hc
          go_wp2_with fail
          go_ret2
          exact ⟨ret_two E.out.1.symm E.out.2.symm, HB.out⟩
      · have b35 : ((s[k].toNat : Int) == 35) = false := byte_isnt (n := 35) (by decide) hc
        have N : Hid (DecAt s.data.toList (k + 1) (out ++ [s[k]])) := Lib.hid (HD.out.plain (by rw [HSL.out]; exact hlt) hc)
        clear hc
        go_wp2_with (first | (at_builtin; refine wpList_append_own _ rfl _ _ 39 rfl w.heap.size 5 i5 (.int .u8 0) 1 1 Tryd.underlying39 hi hz0 hz1 hz2 rfl (by decide) _ _ _ rfl (HO.out.alloc _) ⟨wr.heap.size, 0, none⟩ 1 1 [.int .u8 (s[k].toNat : Int)] rfl rfl (World.news_of_block (heap_alloc_new wr _)) (by simp [Value.oneCell']) (by unfold maxLen; omega) (by omega) (by simp; omega) ?_))
        intro v3 w3 hown3 hgrow3
        intros
        obtain ⟨A3, C3, rfl⟩ := own_form hown3
        go_wp2
        go_roundw
        case rel => exact ⟨k + 1, out ++ [s[k]], A3, C3, by omega, by go_num, by simp, N.out, by rw [← cells_snoc, List.length_append]; exact hown3, (HB.out.alloc (by omega) _).grown hgrow3 (by simp; omega) (fun g h => (HO.out.lt g h).1)⟩
        case measure => simp [intOf]; omega
    · have E := HD.out.done (by rw [HSL.out]; omega)
      by_cases hl : 127 < out.length
      · have l1 : (127 : Int) < (out.length : Int) := by omega
        have E2 := Lib.hid (dec_long (s := s) E hl)
        clear E
        go_wp2_with fail
        go_ret2
        exact ⟨ret_two E2.out.1.symm E2.out.2.symm, HB.out⟩
      · have l1 : ¬ (127 : Int) < (out.length : Int) := by omega
        have E2 := Lib.hid (dec_some (s := s) E hl)
        have hconv := run_string_of_own HO.out rfl
        clear E
        go_wp2_with fail
        go_ret2
        exact ⟨ret_two E2.out.1.symm E2.out.2.symm, HB.out⟩
end Go.Proofs.YtbmiogoigjdceaaDoor
namespace Go.Proofs.YtbmiogoigjdceaaDoor.Lex
open Go.Proofs.YtbmiogoigjdceaaDoor.Oct Go.Proofs.YtbmiogoigjdceaaDoor.Fix

theorem run_take (l : List UInt8) : l.take (runL l).length = runL l := (List.prefix_iff_eq_take.1 (List.takeWhile_prefix (l := l) regularS)).symm
theorem run_len (l : List UInt8) : (runL l).length ≤ l.length := (List.takeWhile_prefix (l := l) regularS).length_le
theorem run_idem (l : List UInt8) : runL (runL l) = runL l := by
  unfold runL
  induction l with
  | nil => rfl
  | cons c t ih =>
    rw [List.takeWhile_cons]
    by_cases h : regularS c = true
    · rw [if_pos h, List.takeWhile_cons, if_pos h, ih]
    · rw [if_neg h]; rfl

theorem hex_take (l : List UInt8) (h : (hexL l).1 = 0) : hexL (l.take (hexL l).2.2) = hexL l ∧ (hexL l).2.2 ≤ l.length := by
  induction l with
  | nil => rw [hexL] at h; cases h
  | cons c t ih =>
    by_cases h1 : c = 62
    · subst h1
      rw [hex_cons_end]
      exact ⟨by simp [hexL], by simp⟩
    · by_cases h2 : 0 ≤ digitS c
      · rw [hex_cons_dig t h1 h2] at h ⊢
        obtain ⟨e1, e2⟩ := ih h
        show hexL ((c :: t).take (1 + (hexL t).2.2)) = _ ∧ 1 + (hexL t).2.2 ≤ _
        rw [Nat.add_comm 1, List.take_succ_cons, hex_cons_dig _ h1 h2, e1]
        exact ⟨by rw [Nat.add_comm 1], by simpa using e2⟩
      · by_cases h3 : whiteS c = true
        · rw [hex_cons_white t h1 h2 h3] at h ⊢
          obtain ⟨e1, e2⟩ := ih h
          show hexL ((c :: t).take (1 + (hexL t).2.2)) = _ ∧ 1 + (hexL t).2.2 ≤ _
          rw [Nat.add_comm 1, List.take_succ_cons, hex_cons_white _ h1 h2 h3, e1]
          exact ⟨by rw [Nat.add_comm 1], by simpa using e2⟩
        · rw [hex_cons_bad t h1 h2 h3] at h; cases h

theorem line_take {c : UInt8} (t : List UInt8) (p : Nat) (h : c = 13 ∨ c = 10) (hp : lineN (c :: t) ≤ p) : lineN ((c :: t).take p) = lineN (c :: t) := by
  have hpos := lineN_pos c t
  obtain ⟨q, rfl⟩ : ∃ q, p = q + 1 := ⟨p - 1, by omega⟩
  rw [List.take_succ_cons]
  rcases t with _ | ⟨b, t⟩
  · simp
  · rcases q with _ | q
    · rw [List.take_zero]
      have : lineN (c :: b :: t) = 1 := by omega
      rw [this]; rfl
    · rw [List.take_succ_cons]
      unfold lineN
      by_cases h1 : c = 13 ∧ b = 10
      · rw [if_pos h1, if_pos h1]
      · rw [if_neg h1, if_neg h1, if_pos (by rcases h with h | h <;> simp [h]), if_pos (by rcases h with h | h <;> simp [h])]
theorem oct_take (j m : Nat) (l : List UInt8) (p : Nat) (hp : (octN j m l).2 ≤ p) : octN j m (l.take p) = octN j m l := by
  induction j generalizing m l p with
  | zero => simp [octN]
  | succ j ih =>
    rcases l with _ | ⟨c, t⟩
    · simp
    · by_cases hc : octD c = true
      · rw [octN, if_pos hc] at hp
        obtain ⟨q, rfl⟩ : ∃ q, p = q + 1 := ⟨p - 1, by omega⟩
        rw [List.take_succ_cons, octN, if_pos hc, octN, if_pos hc, ih _ _ q (by omega)]
      · rcases p with _ | p
        · rw [List.take_zero]; simp [octN, hc]
        · rw [List.take_succ_cons]; simp [octN, hc]
theorem oct_len (j m : Nat) (l : List UInt8) : (octN j m l).2 ≤ l.length := by
  induction j generalizing m l with
  | zero => simp [octN]
  | succ j ih =>
    rcases l with _ | ⟨c, t⟩
    · simp [octN]
    · by_cases hc : octD c = true
      · rw [octN, if_pos hc]; simpa using ih _ t
      · simp [octN, hc]
theorem esc_take (c : UInt8) (t : List UInt8) (p : Nat) (hp : (escL (c :: t)).2 ≤ p) : escL ((c :: t).take p) = escL (c :: t) := by
  have hpos := esc_pos c t
  obtain ⟨q, rfl⟩ : ∃ q, p = q + 1 := ⟨p - 1, by omega⟩
  have ht : (c :: t).take (q + 1) = c :: t.take q := List.take_succ_cons
  rw [ht]
  rw [escL] at hp ⊢
  conv => rhs; rw [escL]
  by_cases h1 : c = 110
  · rw [if_pos h1, if_pos h1]
  rw [if_neg h1, if_neg h1]; rw [if_neg h1] at hp
  by_cases h2 : c = 114
  · rw [if_pos h2, if_pos h2]
  rw [if_neg h2, if_neg h2]; rw [if_neg h2] at hp
  by_cases h3 : c = 116
  · rw [if_pos h3, if_pos h3]
  rw [if_neg h3, if_neg h3]; rw [if_neg h3] at hp
  by_cases h4 : c = 98
  · rw [if_pos h4, if_pos h4]
  rw [if_neg h4, if_neg h4]; rw [if_neg h4] at hp
  by_cases h5 : c = 102
  · rw [if_pos h5, if_pos h5]
  rw [if_neg h5, if_neg h5]; rw [if_neg h5] at hp
  by_cases h6 : c = 13
  · rw [if_pos h6, if_pos h6]; rw [if_pos h6] at hp
    rw [← ht, line_take t _ (.inl h6) hp]
  rw [if_neg h6, if_neg h6]; rw [if_neg h6] at hp
  by_cases h7 : c = 10
  · rw [if_pos h7, if_pos h7]; rw [if_pos h7] at hp
    rw [← ht, line_take t _ (.inr h7) hp]
  rw [if_neg h7, if_neg h7]; rw [if_neg h7] at hp
  by_cases h8 : octD c = true
  · rw [if_pos h8, if_pos h8]; rw [if_pos h8] at hp
    rw [← ht, oct_take 3 0 _ _ hp]
  · rw [if_neg h8, if_neg h8]
theorem esc_len (c : UInt8) (t : List UInt8) : (escL (c :: t)).2 ≤ (c :: t).length := by
  have hl := lineN_le (c :: t)
  have ho := oct_len 3 0 (c :: t)
  have h1 : 1 ≤ (c :: t).length := by simp
  rw [escL]
  repeat' split
  all_goals assumption

theorem pre_some {l x : List UInt8} {a n : Nat} {o : Option (List UInt8 × Nat)} (h : pre l a o = some (x, n)) : ∃ y m, o = some (y, m) ∧ x = l ++ y ∧ n = a + m := by
  cases o with
  | none => cases h
  | some o =>
    obtain ⟨y, m⟩ := o
    simp [pre] at h
    exact ⟨y, m, rfl, h.1.symm, h.2.symm⟩

theorem lit_take (f : Nat) : ∀ (d : Nat) (l x : List UInt8) (n : Nat), litL f d l = some (x, n) → 0 < n ∧ n ≤ l.length ∧ ∀ g, n ≤ g → litL g d (l.take n) = some (x, n) := by
  induction f with
  | zero => intro d l x n h; rw [litL] at h; cases h
  | succ f ih =>
    intro d l x n h
    rcases l with _ | ⟨c, t⟩
    · rw [lit_end] at h; cases h
    by_cases h1 : c = 92
    · rcases t with _ | ⟨b, t⟩
      · rw [lit_cut h1] at h; cases h
      rw [lit_back h1 (by simp)] at h
      obtain ⟨y, m, hm, rfl, rfl⟩ := pre_some h
      obtain ⟨i1, i2, i3⟩ := ih _ _ _ _ hm
      have hk := esc_len b t
      rw [List.length_drop] at i2
      refine ⟨by omega, by simp only [List.length_cons] at i2 hk ⊢; omega, fun g hg => ?_⟩
      obtain ⟨g, rfl⟩ : ∃ e, g = e + 1 := ⟨g - 1, by omega⟩
      have e1 : 1 + (escL (b :: t)).2 + m = ((escL (b :: t)).2 + m) + 1 := by omega
      have hkp := esc_pos b t
      have hne : (b :: t).take ((escL (b :: t)).2 + m) ≠ [] := by
        obtain ⟨q, hq⟩ : ∃ q, (escL (b :: t)).2 + m = q + 1 := ⟨(escL (b :: t)).2 + m - 1, by omega⟩
        rw [hq, List.take_succ_cons]; simp
      rw [e1, List.take_succ_cons, lit_back h1 hne, esc_take b t ((escL (b :: t)).2 + m) (by omega)]
      have e2 : ((b :: t).take ((escL (b :: t)).2 + m)).drop (escL (b :: t)).2 = ((b :: t).drop (escL (b :: t)).2).take m := by rw [List.drop_take]; congr 1; omega
      rw [e2, i3 g (by omega)]
      simp [pre]; omega
    by_cases h2 : c = 13 ∨ c = 10
    · rw [lit_line h2] at h
      obtain ⟨y, m, hm, rfl, rfl⟩ := pre_some h
      obtain ⟨i1, i2, i3⟩ := ih _ _ _ _ hm
      have hk := lineN_le (c :: t)
      have hkp := lineN_pos c t
      rw [List.length_drop] at i2
      refine ⟨by omega, by omega, fun g hg => ?_⟩
      obtain ⟨g, rfl⟩ : ∃ e, g = e + 1 := ⟨g - 1, by omega⟩
      have e3 := line_take t (lineN (c :: t) + m) h2 (by omega)
      have e2 : ((c :: t).take (lineN (c :: t) + m)).drop (lineN (c :: t)) = ((c :: t).drop (lineN (c :: t))).take m := by rw [List.drop_take]; congr 1; omega
      obtain ⟨q, hq⟩ : ∃ q, lineN (c :: t) + m = q + 1 := ⟨lineN (c :: t) + m - 1, by omega⟩
      have e4 : (c :: t).take (lineN (c :: t) + m) = c :: t.take q := by rw [hq, List.take_succ_cons]
      rw [e4] at e2 e3 ⊢
      rw [lit_line h2, e3, e2, i3 g (by omega)]
      simp [pre]
    by_cases h3 : c = 41
    · by_cases hd : d = 1
      · subst hd
        rw [lit_done h3] at h
        cases h
        refine ⟨by omega, by simp, fun g hg => ?_⟩
        obtain ⟨g, rfl⟩ : ∃ e, g = e + 1 := ⟨g - 1, by omega⟩
        rw [List.take_succ_cons, lit_done h3]
      · rw [lit_close h3 hd] at h
        obtain ⟨y, m, hm, rfl, rfl⟩ := pre_some h
        obtain ⟨i1, i2, i3⟩ := ih _ _ _ _ hm
        refine ⟨by omega, by simp only [List.length_cons]; omega, fun g hg => ?_⟩
        obtain ⟨g, rfl⟩ : ∃ e, g = e + 1 := ⟨g - 1, by omega⟩
        rw [Nat.add_comm 1, List.take_succ_cons, lit_close h3 hd, i3 g (by omega)]
        simp [pre]; omega
    by_cases h4 : c = 40
    · rw [lit_open h4] at h
      obtain ⟨y, m, hm, rfl, rfl⟩ := pre_some h
      obtain ⟨i1, i2, i3⟩ := ih _ _ _ _ hm
      refine ⟨by omega, by simp only [List.length_cons]; omega, fun g hg => ?_⟩
      obtain ⟨g, rfl⟩ : ∃ e, g = e + 1 := ⟨g - 1, by omega⟩
      rw [Nat.add_comm 1, List.take_succ_cons, lit_open h4, i3 g (by omega)]
      simp [pre]; omega
    · rw [lit_plain h1 h2 h3 h4] at h
      obtain ⟨y, m, hm, rfl, rfl⟩ := pre_some h
      obtain ⟨i1, i2, i3⟩ := ih _ _ _ _ hm
      refine ⟨by omega, by simp only [List.length_cons]; omega, fun g hg => ?_⟩
      obtain ⟨g, rfl⟩ : ∃ e, g = e + 1 := ⟨g - 1, by omega⟩
      rw [Nat.add_comm 1, List.take_succ_cons, lit_plain h1 h2 h3 h4, i3 g (by omega)]
      simp [pre]; omega

theorem hex_pos (l : List UInt8) (h : (hexL l).1 = 0) : 0 < (hexL l).2.2 := by
  rcases l with _ | ⟨c, t⟩
  · rw [hexL] at h; cases h
  · rw [hexL] at h ⊢
    split
    · simp
    · rename_i h1
      rw [if_neg h1] at h
      split
      · simp; omega
      · rename_i h2
        rw [if_neg h2] at h
        split
        · simp; omega
        · rename_i h3; rw [if_neg h3] at h; cases h

theorem word_cases (u : List UInt8) : wordU u = bad 2 ∨ wordU u = bad 5 ∨ ∃ k n x, k ≠ 0 ∧ wordU u = ⟨0, k, u.length, n, x⟩ := by
  unfold wordU
  by_cases h1 : intL u = true
  · rw [if_pos h1]
    by_cases h2 : 2147483647 < valL 0 (bodyL u)
    · rw [if_pos h2]; exact .inl rfl
    · rw [if_neg h2]; exact .inr (.inr ⟨_, _, _, by decide, rfl⟩)
  · rw [if_neg h1]
    by_cases h2 : (u.contains 46 && decide (readE u = 0)) = true
    · rw [if_pos h2]; exact .inr (.inr ⟨_, _, _, by decide, rfl⟩)
    · rw [if_neg h2]
      by_cases h3 : (u.contains 46 && decide (readE u = 2)) = true
      · rw [if_pos h3]; exact .inl rfl
      · rw [if_neg h3]
        by_cases h4 : 127 < u.length
        · rw [if_pos h4]; exact .inr (.inl rfl)
        · rw [if_neg h4]; exact .inr (.inr ⟨_, _, _, by decide, rfl⟩)
theorem word_len (u : List UInt8) (h : (wordU u).err = 0) : (wordU u).len = u.length := by
  rcases word_cases u with e | e | ⟨k, n, x, _, e⟩
  · rw [e] at h; cases h
  · rw [e] at h; cases h
  · rw [e]
theorem word_kind (u : List UInt8) (h : (wordU u).err = 0) : (wordU u).kind ≠ 0 := by
  rcases word_cases u with e | e | ⟨k, n, x, hk, e⟩
  · rw [e] at h; cases h
  · rw [e] at h; cases h
  · rw [e]; exact hk
/-- A token that stands at the head of a list, and the same bytes alone. -/
theorem tok_take (c : UInt8) (t : List UInt8) (hw : whiteS c = false) (h37 : c ≠ 37) (h : (tokR (c :: t)).err = 0) :
    0 < (tokR (c :: t)).len ∧ (tokR (c :: t)).len ≤ (c :: t).length ∧ (tokR (c :: t)).kind ≠ 0 ∧ tokR ((c :: t).take (tokR (c :: t)).len) = tokR (c :: t) := by
  have one : ∀ u : List UInt8, (c :: u).take 1 = [c] := fun u => by simp
  rw [tokR] at h ⊢
  by_cases h1 : c = 91
  · rw [if_pos h1]; exact ⟨by simp [mark], by simp [mark], by simp [mark], by simp [mark, tokR, h1]⟩
  rw [if_neg h1] at h ⊢
  by_cases h2 : c = 93
  · rw [if_pos h2]; exact ⟨by simp [mark], by simp [mark], by simp [mark], by simp [mark, tokR, h2]⟩
  rw [if_neg h2] at h ⊢
  by_cases h3 : c = 123
  · rw [if_pos h3]; exact ⟨by simp [mark], by simp [mark], by simp [mark], by simp [mark, tokR, h3]⟩
  rw [if_neg h3] at h ⊢
  by_cases h4 : c = 125
  · rw [if_pos h4]; exact ⟨by simp [mark], by simp [mark], by simp [mark], by simp [mark, tokR, h4]⟩
  rw [if_neg h4] at h ⊢
  by_cases h5 : c = 60
  · rw [if_pos h5] at h ⊢
    by_cases h6 : t.head? = some 60
    · rw [if_pos h6]
      rcases t with _ | ⟨b, t⟩
      · cases h6
      · simp at h6
        subst h5 h6
        exact ⟨by simp [mark], by simp [mark], by simp [mark], by simp [mark, tokR]⟩
    · rw [if_neg h6] at h ⊢
      unfold hexR at h ⊢
      by_cases h7 : (hexL t).1 = 0
      · rw [if_pos h7] at h ⊢
        obtain ⟨e1, e2⟩ := hex_take t h7
        have e3 := hex_pos t h7
        cases hu : unhexS (evenL (hexL t).2.1) with
        | none => rw [hu] at h; cases h
        | some x =>
          rw [hu] at h
          simp only at h ⊢
          by_cases h8 : 32767 < x.length
          · rw [if_pos h8] at h; cases h
          · rw [if_neg h8]
            refine ⟨by simp; omega, by simp only [List.length_cons]; omega, by simp, ?_⟩
            simp only
            rw [Nat.add_comm 1, List.take_succ_cons, tokR, if_neg h1, if_neg h2, if_neg h3, if_neg h4, if_pos h5, if_neg, hexR, e1, if_pos h7, hu]
            · simp [h8]; omega
            · obtain ⟨q, hq⟩ : ∃ q, (hexL t).2.2 = q + 1 := ⟨(hexL t).2.2 - 1, by omega⟩
              rw [hq]
              rcases t with _ | ⟨b, t⟩
              · simp
              · simpa using h6
      · rw [if_neg h7] at h; exact absurd h h7
  rw [if_neg h5] at h ⊢
  by_cases h6 : c = 62
  · rw [if_pos h6] at h ⊢
    by_cases h7 : t.head? = some 62
    · rw [if_pos h7]
      rcases t with _ | ⟨b, t⟩
      · cases h7
      · simp at h7
        subst h6 h7
        exact ⟨by simp [mark], by simp [mark], by simp [mark], by simp [mark, tokR]⟩
    · rw [if_neg h7] at h; cases h
  rw [if_neg h6] at h ⊢
  by_cases h7 : c = 41
  · rw [if_pos h7] at h; cases h
  rw [if_neg h7] at h ⊢
  by_cases h8 : c = 40
  · rw [if_pos h8] at h ⊢
    unfold litR at h ⊢
    cases hx : litL t.length 1 t with
    | none => rw [hx] at h; cases h
    | some xn =>
      obtain ⟨x, n⟩ := xn
      rw [hx] at h
      simp only at h ⊢
      obtain ⟨i1, i2, i3⟩ := lit_take _ _ _ _ _ hx
      by_cases h9 : 32767 < x.length
      · rw [if_pos h9] at h; cases h
      · rw [if_neg h9]
        refine ⟨by simp; omega, by simp only [List.length_cons]; omega, by simp, ?_⟩
        simp only
        rw [Nat.add_comm 1, List.take_succ_cons, tokR, if_neg h1, if_neg h2, if_neg h3, if_neg h4, if_neg h5, if_neg h6, if_neg h7, if_pos h8, litR, i3 _ (by rw [List.length_take]; omega)]
        simp [h9]; omega
  rw [if_neg h8] at h ⊢
  by_cases h9 : c = 47
  · rw [if_pos h9] at h ⊢
    have e1 := run_take t
    have e2 := run_len t
    have e3 := run_idem t
    unfold nameR at h ⊢
    cases hx : decL (runL t) with
    | none => rw [hx] at h; cases h
    | some x =>
      rw [hx] at h
      simp only at h ⊢
      by_cases h10 : 127 < x.length
      · rw [if_pos h10] at h; cases h
      · rw [if_neg h10]
        refine ⟨by simp; omega, by simp only [List.length_cons]; omega, by simp, ?_⟩
        simp only
        rw [Nat.add_comm 1, List.take_succ_cons, tokR, if_neg h1, if_neg h2, if_neg h3, if_neg h4, if_neg h5, if_neg h6, if_neg h7, if_neg h8, if_pos h9, e1, nameR, e3, hx]
        simp [h10]; omega
  rw [if_neg h9] at h ⊢
  have hr : regularS c = true := by
    unfold regularS delimS
    simp [hw, h1, h2, h3, h4, h5, h6, h7, h8, h9, h37]
  have e1 := run_take (c :: t)
  have e2 := run_len (c :: t)
  have e3 := run_idem (c :: t)
  have el := word_len _ h
  have ep : 0 < (runL (c :: t)).length := by unfold runL; rw [List.takeWhile_cons, hr, if_pos rfl]; simp
  obtain ⟨u, hu⟩ : ∃ u, runL (c :: t) = c :: u := by unfold runL; rw [List.takeWhile_cons, hr, if_pos rfl]; exact ⟨_, rfl⟩
  refine ⟨by rw [el]; exact ep, by rw [el]; exact e2, word_kind _ h, ?_⟩
  rw [el, e1, hu, tokR, if_neg h1, if_neg h2, if_neg h3, if_neg h4, if_neg h5, if_neg h6, if_neg h7, if_neg h8, if_neg h9]
  rw [hu] at e3
  rw [e3]
end Go.Proofs.YtbmiogoigjdceaaDoor.Lex
namespace Go.Proofs.YtbmiogoigjdceaaDoor
open Go.RowKit Oct Fix Lex

/-- A block that was laid at w's end, behind a call that turned nothing below it. -/
theorem tok_cell {w w' : World} {cs : Array Value} {t : TypeId} (h : Below (w.heap.size + 1) (w.alloc (.cells cs t)) w') : Blk w' w.heap.size t cs :=
  (Blk.new w t cs).below h (by omega)
theorem tok_below {w w' : World} {cs : Array Value} {t : TypeId} (h : Below (w.heap.size + 1) (w.alloc (.cells cs t)) w') : Below w.heap.size w w' :=
  (below_tok w cs t).trans (h.mono (by omega))
theorem set_below {w w' : World} {B : Nat} (h : Below B w w') (i : Nat) (u : Value) {g : Nat} (hg : B ≤ g := by omega) : Below B w (w'.setCell ⟨g, i, none⟩ u) := h.setCell hg _

theorem name_dec (s : ByteArray) (a : Nat) : (s.extract (a + 1) (a + 1 + runN s (a + 1))).data.toList = runL (s.data.toList.drop (a + 1)) := by
  rw [ByteArray.data_extract, Array.toList_extract, List.extract_eq_take_drop, Nat.add_sub_cancel_left]
  exact run_take _
theorem nameR_some {t x : List UInt8} (h : decL (runL t) = some x) (hl : ¬ 127 < x.length) : nameR t = ⟨0, 4, 1 + (runL t).length, 0, x⟩ := by unfold nameR; rw [h]; simp only [if_neg hl]
theorem nameR_long {t x : List UInt8} (h : decL (runL t) = some x) (hl : 127 < x.length) : nameR t = bad 5 := by unfold nameR; rw [h]; simp only [if_pos hl]
theorem nameR_none {t : List UInt8} (h : decL (runL t) = none) : nameR t = bad 3 := by unfold nameR; rw [h]

set_option maxHeartbeats 2000000 in
theorem name_bad (s : ByteArray) (a : Nat) (c : Int) (w : World) (h : a < s.size) (hs : s.size ≤ 4000000000) (hc : c = 3 ∨ c = 5)
    (hT : decT (s.extract (a + 1) (a + 1 + runN s (a + 1))) = ⟨#[]⟩) (hE : decE (s.extract (a + 1) (a + 1 + runN s (a + 1))) = c) :
    Calls Tryd.prog 23 #[.string s, .int .i64 (a : Int)] w fun e w' => e = .returned (.tuple #[.agg #[.int .i64 0, .int .i64 0, .int .i64 0, .int .i64 0, .string ⟨#[]⟩], .int .i64 c]) ∧ Below w.heap.size w w' := by
  have hr := runN_le s (a + 1) (by omega)
  have hdec := fun W : World => decoded_any (s.extract (a + 1) (a + 1 + runN s (a + 1))) W (by rw [ByteArray.size_extract]; omega)
  rw [hT, hE] at hdec
  have hrun := fun W : World => run_any s (a + 1) W (by omega) hs
  obtain ⟨p, hp⟩ : ∃ p, a + 1 + runN s (a + 1) = p := ⟨_, rfl⟩
  rw [hp] at hdec hr
  simp only [hp] at hrun
  have HD := Lib.hid hdec
  have HR := Lib.hid hrun
  have hp1 : a + 1 ≤ p := by omega
  have hp2 : (a : Int) + 1 ≤ (p : Int) := by omega
  clear hdec hrun hp hT hE
  rcases hc with rfl | rfl
  all_goals
    go_enter Tryd.func23, Tryd.ntmps23
    go_wp2_with fail
    refine (HR.out _).mono ?_
    rintro e w' ⟨rfl, rfl⟩
    go_wp2_with fail
    refine (HD.out _).mono ?_
    rintro e w2 ⟨rfl, hb⟩
    simp at hb
    have hB := tok_cell hb
    have HB := Lib.hid (tok_below hb)
    have hg := HB.out.size
    have c0 := hB.cell 0
    have c1 := hB.cell 1
    have c2 := hB.cell 2
    have c3 := hB.cell 3
    have c4 := hB.cell 4
    have f0 := hB.frozen 0
    have f1 := hB.frozen 1
    have f2 := hB.frozen 2
    have f3 := hB.frozen 3
    have f4 := hB.frozen 4
    clear hb hB
    simp only [List.getElem?_toArray, List.getElem?_cons_zero, List.getElem?_cons_succ] at c0 c1 c2 c3 c4
    go_wp2_with fail
    exact bodyPost_ret (v := .tuple #[.agg #[.int .i64 0, .int .i64 0, .int .i64 0, .int .i64 0, .string ⟨#[]⟩], .int .i64 _]) (by simp [results, Tryd.results23, go_sem, c0, c1, c2, c3, c4]) rfl ⟨rfl, set_below (set_below (set_below (set_below (set_below HB.out _ _) _ _) _ _) _ _) _ _⟩

set_option maxHeartbeats 2000000 in
theorem name_ok (s t : ByteArray) (a : Nat) (w : World) (h : a < s.size) (hs : s.size ≤ 4000000000)
    (hT : decT (s.extract (a + 1) (a + 1 + runN s (a + 1))) = t) (hE : decE (s.extract (a + 1) (a + 1 + runN s (a + 1))) = 0) :
    Calls Tryd.prog 23 #[.string s, .int .i64 (a : Int)] w fun e w' => e = .returned (.tuple #[.agg #[.int .i64 4, .int .i64 (a : Int), .int .i64 ((a + 1 + runN s (a + 1) : Nat) : Int), .int .i64 0, .string t], .int .i64 0]) ∧ Below w.heap.size w w' := by
  have hr := runN_le s (a + 1) (by omega)
  have hdec := fun W : World => decoded_any (s.extract (a + 1) (a + 1 + runN s (a + 1))) W (by rw [ByteArray.size_extract]; omega)
  rw [hT, hE] at hdec
  have hrun := fun W : World => run_any s (a + 1) W (by omega) hs
  obtain ⟨p, hp⟩ : ∃ p, a + 1 + runN s (a + 1) = p := ⟨_, rfl⟩
  rw [hp] at hdec hr
  simp only [hp] at hrun
  have HD := Lib.hid hdec
  have HR := Lib.hid hrun
  have hp1 : a + 1 ≤ p := by omega
  have hp2 : (a : Int) + 1 ≤ (p : Int) := by omega
  rw [hp]
  clear hdec hrun hp hT hE
  go_enter Tryd.func23, Tryd.ntmps23
  go_wp2_with fail
  refine (HR.out _).mono ?_
  rintro e w' ⟨rfl, rfl⟩
  go_wp2_with fail
  refine (HD.out _).mono ?_
  rintro e w2 ⟨rfl, hb⟩
  simp at hb
  have hB := tok_cell hb
  have HB := Lib.hid (tok_below hb)
  have hg := HB.out.size
  have c0 := hB.cell 0
  have c1 := hB.cell 1
  have c2 := hB.cell 2
  have c3 := hB.cell 3
  have c4 := hB.cell 4
  have f0 := hB.frozen 0
  have f1 := hB.frozen 1
  have f2 := hB.frozen 2
  have f3 := hB.frozen 3
  have f4 := hB.frozen 4
  clear hb hB
  simp only [List.getElem?_toArray, List.getElem?_cons_zero, List.getElem?_cons_succ] at c0 c1 c2 c3 c4
  go_wp2_with fail
  exact bodyPost_ret (v := .tuple #[.agg #[.int .i64 4, .int .i64 (a : Int), .int .i64 (p : Int), .int .i64 0, .string t], .int .i64 0]) (by simp [results, Tryd.results23, go_sem, c0, c1, c2, c3, c4]) rfl ⟨rfl, set_below (set_below (set_below (set_below (set_below HB.out _ _) _ _) _ _) _ _) _ _⟩

theorem name_any (s : ByteArray) (a : Nat) (R : TR) (w : World) (h : a < s.size) (hs : s.size ≤ 4000000000) (hR : nameR (s.data.toList.drop (a + 1)) = R) :
    Calls Tryd.prog 23 #[.string s, .int .i64 (a : Int)] w fun e w' => e = .returned (.tuple #[.agg #[.int .i64 R.kind, .int .i64 (tA a R), .int .i64 (tT a R), .int .i64 R.num, .string (tS R)], .int .i64 R.err]) ∧ Below w.heap.size w w' := by
  have hl := name_dec s a
  cases hx : decL (runL (s.data.toList.drop (a + 1))) with
  | none =>
    obtain ⟨h1, h2⟩ := dec_none (s := s.extract (a + 1) (a + 1 + runN s (a + 1))) (by rw [hl]; exact hx)
    exact (name_bad s a 3 w h hs (.inl rfl) h1 h2).mono fun e w' ⟨e1, e2⟩ => ⟨e1.trans (tok_bad (hR.symm.trans (nameR_none hx)) (by decide)), e2⟩
  | some x =>
    by_cases hlx : 127 < x.length
    · obtain ⟨h1, h2⟩ := dec_long (s := s.extract (a + 1) (a + 1 + runN s (a + 1))) (by rw [hl]; exact hx) hlx
      exact (name_bad s a 5 w h hs (.inr rfl) h1 h2).mono fun e w' ⟨e1, e2⟩ => ⟨e1.trans (tok_bad (hR.symm.trans (nameR_long hx hlx)) (by decide)), e2⟩
    · obtain ⟨h1, h2⟩ := dec_some (s := s.extract (a + 1) (a + 1 + runN s (a + 1))) (by rw [hl]; exact hx) hlx
      exact (name_ok s _ a w h hs h1 h2).mono fun e w' ⟨e1, e2⟩ => ⟨e1.trans (tok_ok (n := 1 + runN s (a + 1)) (hR.symm.trans (nameR_some hx hlx)) rfl (by rw [Nat.add_assoc])), e2⟩

theorem stringToken_c (a n : Nat) (t : Int) (b : ByteArray) (R : TR) (w : World) (ht : t = ((a + n : Nat) : Int)) (hR : strR n b.data.toList = R) :
    Calls Tryd.prog 34 #[.int .i64 (a : Int), .int .i64 t, .string b] w fun e w' => e = .returned (.tuple #[.agg #[.int .i64 R.kind, .int .i64 (tA a R), .int .i64 (tT a R), .int .i64 R.num, .string (tS R)], .int .i64 R.err]) ∧ Below w.heap.size w w' := by
  subst hR
  exact stringToken_any a n t b w ht
theorem evenL_even {l : List UInt8} (h : l.length % 2 = 0) : evenL l = l := by unfold evenL; rw [if_neg (by omega)]
theorem evenL_odd {l : List UInt8} (h : l.length % 2 = 1) : evenL l = l ++ [48] := by unfold evenL; rw [if_pos h]

set_option maxHeartbeats 4000000 in
theorem hexToken_even (a n : Nat) (t : Int) (out x : List UInt8) (A : Option Addr) (C base : Nat) (R : TR) (w : World) (ht : t = ((a + n : Nat) : Int)) (hl : out.length ≤ 4000000000) (hm : out.length % 2 = 0) (hx : unhexS out = some x) (hR : strR n x = R) (hb : base ≤ w.heap.size)
    (hown : w.ownsRow base 5 1 (.slice A out.length C) out.length (cellsOf out)) :
    Calls Tryd.prog 31 #[.int .i64 (a : Int), .int .i64 t, .slice A out.length C] w fun e w' => e = .returned (.tuple #[.agg #[.int .i64 R.kind, .int .i64 (tA a R), .int .i64 (tT a R), .int .i64 R.num, .string (tS R)], .int .i64 R.err]) ∧ Below base w w' := by
  have hst := fun W : World => stringToken_c a n t ⟨x.toArray⟩ R W ht hR
  obtain ⟨u1, u2⟩ := unhexE_some (s := ⟨out.toArray⟩) (l := x) hx
  have bq : ((out.length : Int) % 2 != 0) = false := by simp; omega
  have ho := hown.alloc (.cells #[.int .i64 0, .int .i64 0, .int .i64 0, .int .i64 0, .string ⟨#[]⟩] 24)
  have hconv := run_string_of_own ho rfl
  have HST := Lib.hid hst
  have U1 := Lib.hid u1
  have U2 := Lib.hid u2
  have hes : (⟨out.toArray⟩ : ByteArray).size ≤ 4000000000 := hl
  have HES := Lib.hid hes
  clear hst u1 u2 hm hx hR ho hown ht hes
  go_enter Tryd.func31, Tryd.ntmps31
  go_wp2_with fail
  refine (unhex_c _ ⟨x.toArray⟩ 0 _ HES.out U1.out U2.out).mono ?_
  rintro e w2 ⟨rfl, hb2⟩
  simp at hb2
  have HB2 := Lib.hid hb2
  have hbs2 := hb2.size
  clear hb2 hconv
  go_wp2_with fail
  refine (HST.out _).mono ?_
  rintro e w3 ⟨rfl, hb3⟩
  have hb4 := HB2.out.trans (hb3.mono (by simpa using hbs2))
  have hB := tok_cell hb4
  have HB := Lib.hid (tok_below hb4)
  have hg := HB.out.size
  clear hb3
  have c0 := hB.cell 0
  have c1 := hB.cell 1
  have c2 := hB.cell 2
  have c3 := hB.cell 3
  have c4 := hB.cell 4
  have f0 := hB.frozen 0
  have f1 := hB.frozen 1
  have f2 := hB.frozen 2
  have f3 := hB.frozen 3
  have f4 := hB.frozen 4
  clear hb4 hB
  simp only [List.getElem?_toArray, List.getElem?_cons_zero, List.getElem?_cons_succ] at c0 c1 c2 c3 c4
  go_wp2_with fail
  exact bodyPost_ret (v := .tuple #[.agg #[.int .i64 R.kind, .int .i64 (tA a R), .int .i64 (tT a R), .int .i64 R.num, .string (tS R)], .int .i64 R.err]) (by simp [results, Tryd.results31, go_sem, c0, c1, c2, c3, c4]) rfl ⟨rfl, set_below (set_below (set_below (set_below (set_below (HB.out.mono hb) _ _) _ _) _ _) _ _) _ _⟩

set_option maxHeartbeats 4000000 in
theorem hexToken_odd (a n : Nat) (t : Int) (out x : List UInt8) (A : Option Addr) (C base : Nat) (R : TR) (w : World) (ht : t = ((a + n : Nat) : Int)) (hl : out.length ≤ 3000000000) (hm : out.length % 2 = 1) (hx : unhexS (out ++ [48]) = some x) (hR : strR n x = R) (hb : base ≤ w.heap.size)
    (hown : w.ownsRow base 5 1 (.slice A out.length C) out.length (cellsOf out)) :
    Calls Tryd.prog 31 #[.int .i64 (a : Int), .int .i64 t, .slice A out.length C] w fun e w' => e = .returned (.tuple #[.agg #[.int .i64 R.kind, .int .i64 (tA a R), .int .i64 (tT a R), .int .i64 R.num, .string (tS R)], .int .i64 R.err]) ∧ Below base w w' := by
  obtain ⟨i5, hi, hz0, hz1, hz2⟩ := info_parts info5
  have hst := fun W : World => stringToken_c a n t ⟨x.toArray⟩ R W ht hR
  obtain ⟨u1, u2⟩ := unhexE_some (s := ⟨(out ++ [48]).toArray⟩) (l := x) hx
  have bq : ((out.length : Int) % 2 != 0) = true := by simp; omega
  have ho := (hown.alloc (.cells #[.int .i64 0, .int .i64 0, .int .i64 0, .int .i64 0, .string ⟨#[]⟩] 24)).alloc (.cells #[.int .u8 48] 5)
  have HO := Lib.hid ho
  have HLT := Lib.hid hown.lt
  have HST := Lib.hid hst
  have U1 := Lib.hid u1
  have U2 := Lib.hid u2
  have hes : (⟨(out ++ [48]).toArray⟩ : ByteArray).size ≤ 4000000000 := by
    show (out ++ [48]).length ≤ _
    rw [List.length_append]
    show out.length + 1 ≤ _
    omega
  have HES := Lib.hid hes
  clear hst u1 u2 hm hx hR ho hown ht hes
  go_enter Tryd.func31, Tryd.ntmps31
  go_wp2_with (first | (at_builtin; refine wpList_append_own _ rfl _ _ 39 rfl base 5 i5 (.int .u8 0) 1 1 Tryd.underlying39 hi hz0 hz1 hz2 rfl (by decide) _ _ _ rfl HO.out ⟨w.heap.size + 1, 0, none⟩ 1 1 [.int .u8 48] rfl rfl (World.news_of_block (by have := heap_alloc_new (w.alloc (.cells #[.int .i64 0, .int .i64 0, .int .i64 0, .int .i64 0, .string ⟨#[]⟩] 24)) (.cells #[.int .u8 48] 5); simpa using this)) (by simp [Value.oneCell']) (by unfold maxLen; omega) (by omega) (by simp; omega) ?_))
  intro v1 w1 hown1 hgrow1
  intros
  obtain ⟨A1, C1, rfl⟩ := own_form hown1
  have hconv := run_string_of_own (l := out ++ [48]) (by rw [← cells_snoc]; exact hown1) (by simp)
  have hblk : Blk w1 w.heap.size 24 #[.int .i64 0, .int .i64 0, .int .i64 0, .int .i64 0, .string ⟨#[]⟩] :=
    ((Blk.new w 24 _).alloc _).grown hgrow1 (fun e => by have := (HLT.out _ e.symm).2; omega)
  have hbel : Below base w w1 := (((Below.refl _ _).alloc hb _).alloc (by simp; omega) _).grown hgrow1 (by simp; omega) (fun g h => (HLT.out g h).1)
  have hsz1 : w.heap.size + 2 ≤ w1.heap.size := by have := hgrow1.size; simpa using this
  have HK := Lib.hid hblk
  have HBL := Lib.hid hbel
  clear hblk hbel hown1 hgrow1
  go_wp2_with fail
  refine (unhex_c _ ⟨x.toArray⟩ 0 _ HES.out U1.out U2.out).mono ?_
  rintro e w2 ⟨rfl, hb2⟩
  have HB2 := Lib.hid hb2
  have hbs2 := hb2.size
  clear hb2 hconv
  go_wp2_with fail
  refine (HST.out _).mono ?_
  rintro e w3 ⟨rfl, hb3⟩
  have hb4 := HB2.out.trans (hb3.mono hbs2)
  have hB := HK.out.below hb4 (by omega)
  have HB := Lib.hid (HBL.out.trans (hb4.mono (by omega)))
  have hg := hb4.size
  clear hb3
  have c0 := hB.cell 0
  have c1 := hB.cell 1
  have c2 := hB.cell 2
  have c3 := hB.cell 3
  have c4 := hB.cell 4
  have f0 := hB.frozen 0
  have f1 := hB.frozen 1
  have f2 := hB.frozen 2
  have f3 := hB.frozen 3
  have f4 := hB.frozen 4
  clear hb4 hB
  simp only [List.getElem?_toArray, List.getElem?_cons_zero, List.getElem?_cons_succ] at c0 c1 c2 c3 c4
  go_wp2_with fail
  exact bodyPost_ret (v := .tuple #[.agg #[.int .i64 R.kind, .int .i64 (tA a R), .int .i64 (tT a R), .int .i64 R.num, .string (tS R)], .int .i64 R.err]) (by simp [results, Tryd.results31, go_sem, c0, c1, c2, c3, c4]) rfl ⟨rfl, set_below (set_below (set_below (set_below (set_below HB.out _ _) _ _) _ _) _ _) _ _⟩

theorem hexToken_any (a n : Nat) (t : Int) (out x : List UInt8) (A : Option Addr) (C base : Nat) (R : TR) (w : World) (ht : t = ((a + n : Nat) : Int)) (hl : out.length ≤ 3000000000) (hx : unhexS (evenL out) = some x) (hR : strR n x = R) (hb : base ≤ w.heap.size)
    (hown : w.ownsRow base 5 1 (.slice A out.length C) out.length (cellsOf out)) :
    Calls Tryd.prog 31 #[.int .i64 (a : Int), .int .i64 t, .slice A out.length C] w fun e w' => e = .returned (.tuple #[.agg #[.int .i64 R.kind, .int .i64 (tA a R), .int .i64 (tT a R), .int .i64 R.num, .string (tS R)], .int .i64 R.err]) ∧ Below base w w' := by
  by_cases hm : out.length % 2 = 0
  · exact hexToken_even a n t out x A C base R w ht (by omega) hm (by rw [← evenL_even hm]; exact hx) hR hb hown
  · exact hexToken_odd a n t out x A C base R w ht hl (by omega) (by rw [← evenL_odd (by omega)]; exact hx) hR hb hown
end Go.Proofs.YtbmiogoigjdceaaDoor
namespace Go.Proofs.YtbmiogoigjdceaaDoor
open Go.RowKit Oct Fix Lex

theorem hexR_err {t : List UInt8} {c : Int} (h : (hexL t).1 = c) (hc : c ≠ 0) : hexR t = bad c := by unfold hexR; rw [if_neg (by rw [h]; exact hc), h]
theorem hexR_some {t d x : List UInt8} {n : Nat} (h : hexL t = (0, d, n)) (hx : unhexS (evenL d) = some x) : hexR t = strR (1 + n) x := by
  unfold hexR strR
  rw [h]
  simp only [if_pos]
  rw [hx]
theorem litR_some {t x : List UInt8} {n : Nat} (h : litL t.length 1 t = some (x, n)) : litR t = strR (1 + n) x := by unfold litR strR; rw [h]
theorem litR_none {t : List UInt8} (h : litL t.length 1 t = none) : litR t = bad 4 := by unfold litR; rw [h]
/-- A byte behind an opening mark at a, k further on. -/
theorem drop_p {s : ByteArray} {a k p : Nat} (hp : a + 1 + k = p) (h : p < s.size) : ∃ h' : k < (s.data.toList.drop (a + 1)).length, (s.data.toList.drop (a + 1))[k] = s[p] ∧ (s.data.toList.drop (a + 1)).drop k = s.data.toList.drop p := by
  subst hp
  obtain ⟨h1, h2⟩ := lexDropAt s (a + 1) k h
  exact ⟨h1, h2, by rw [List.drop_drop]⟩
theorem drop_len {s : ByteArray} {a k p : Nat} (hp : a + 1 + k = p) (h : ¬ p < s.size) : (s.data.toList.drop (a + 1)).length ≤ k := by
  rw [List.length_drop]
  simp
  omega

set_option maxRecDepth 100000 in
set_option maxHeartbeats 4000000 in
theorem lexDigits_any (s : ByteArray) (a : Nat) (R : TR) (w : World) (h : a < s.size) (hs : s.size ≤ 3000000000) (hR : hexR (s.data.toList.drop (a + 1)) = R) :
    Calls Tryd.prog 21 #[.string s, .int .i64 (a : Int)] w fun e w' => e = .returned (.tuple #[.agg #[.int .i64 R.kind, .int .i64 (tA a R), .int .i64 (tT a R), .int .i64 R.num, .string (tS R)], .int .i64 R.err]) ∧ Below w.heap.size w w' := by
  obtain ⟨i5, hi, hz0, hz1, hz2⟩ := info_parts info5
  have HR := Lib.hid hR
  clear hR
  go_enter Tryd.func21, Tryd.ntmps21
  go_wp2_with fail
  go_loopw [6, 7] (fun v i wr => ∃ (k p : Nat) (out : List UInt8) (A : Option Addr) (C : Nat), a + 1 + k = p ∧ p ≤ s.size ∧ i = .int .i64 (p : Int) ∧ v = .slice A out.length C ∧ HexAt (s.data.toList.drop (a + 1)) k out ∧ out.length ≤ k ∧ wr.ownsRow (w.heap.size + 1) 5 1 (.slice A out.length C) out.length (cellsOf out) ∧ Below (w.heap.size + 1) (w.alloc (.cells #[.int .i64 0, .int .i64 0, .int .i64 0, .int .i64 0, .string ⟨#[]⟩] 24)) wr) (fun _ i _ => s.size - (intOf i).toNat)
  case atStart => exact ⟨0, a + 1, [], none, 0, by omega, by omega, by go_num, rfl, HexAt.zero _, Nat.le_refl _, World.ownsRow_nil _ _ _ _, Below.refl _ _⟩
  case round =>
    obtain ⟨k, p, out, A, C, hp, hk, rfl, rfl, hd, hol, hown, hb⟩ := hrel
    have hkp : k ≤ p := by omega
    have hap : a + 1 ≤ p := by omega
    have hbs : w.heap.size + 1 ≤ wr.heap.size := by have := hb.size; simpa using this
    have HD := Lib.hid hd
    have HO := Lib.hid hown
    have HP := Lib.hid hp
    have HB := Lib.hid hb
    clear hd hown hb hp
    by_cases hlt : p < s.size
    · obtain ⟨d1, d2, d3⟩ := drop_p HP.out hlt
      by_cases hc : s[p] = 62
      · have b62 : ((s[p].toNat : Int) == 62) = true := by rw [hc]; rfl
        have E := HD.out.stop d1 (by rw [d2]; exact hc)
        obtain ⟨x, hx⟩ := unhex_some (evenL out) (even_dig HD.out.2) (even_even out)
        have hr := (hexR_some E hx).symm.trans HR.out
        have hcall := hexToken_any a (1 + (k + 1)) ((p : Int) + 1) out x A C (w.heap.size + 1) R wr (by have := HP.out; omega) (by omega) hx hr hbs HO.out
        have HC := Lib.hid hcall
        clear d2 d3 hc E hx hr hcall
        go_wp2_with fail
        refine HC.out.mono ?_
        rintro e w2 ⟨rfl, hb2⟩
        have hb3 := HB.out.trans hb2
        have hB := tok_cell hb3
        have HB3 := Lib.hid (tok_below hb3)
        have hg := HB3.out.size
        clear hb2
        have c0 := hB.cell 0
        have c1 := hB.cell 1
        have c2 := hB.cell 2
        have c3 := hB.cell 3
        have c4 := hB.cell 4
        have f0 := hB.frozen 0
        have f1 := hB.frozen 1
        have f2 := hB.frozen 2
        have f3 := hB.frozen 3
        have f4 := hB.frozen 4
        clear hb3 hB
        simp only [List.getElem?_toArray, List.getElem?_cons_zero, List.getElem?_cons_succ] at c0 c1 c2 c3 c4
        go_wp2_with fail
        exact bodyPost_ret (v := .tuple #[.agg #[.int .i64 R.kind, .int .i64 (tA a R), .int .i64 (tT a R), .int .i64 R.num, .string (tS R)], .int .i64 R.err]) (by simp [results, Tryd.results21, go_sem, c0, c1, c2, c3, c4]) rfl ⟨rfl, set_below (set_below (set_below (set_below (set_below HB3.out _ _) _ _) _ _) _ _) _ _⟩
      · have b62 : ((s[p].toNat : Int) == 62) = false := byte_isnt (n := 62) (by decide) hc
        by_cases hdg : 0 ≤ digitS s[p]
        · have N : Hid (HexAt (s.data.toList.drop (a + 1)) (k + 1) (out ++ [s[p]])) := Lib.hid (by rw [← d2]; exact HD.out.dig d1 (by rw [d2]; exact hc) (by rw [d2]; exact hdg))
          clear d2 d3 hc
          go_wp2_with (first | (go_at_call 32; refine (digit_any _ _).mono ?_; rintro e w' ⟨rfl, rfl⟩) | (first | (at_builtin; refine wpList_append_own _ rfl _ _ 39 rfl (w.heap.size + 1) 5 i5 (.int .u8 0) 1 1 Tryd.underlying39 hi hz0 hz1 hz2 rfl (by decide) _ _ _ rfl (HO.out.alloc _) ⟨wr.heap.size, 0, none⟩ 1 1 [.int .u8 (s[p].toNat : Int)] rfl rfl (World.news_of_block (heap_alloc_new wr _)) (by simp [Value.oneCell']) (by unfold maxLen; omega) (by omega) (by simp; omega) ?_)))
          intro v3 w3 hown3 hgrow3
          intros
          obtain ⟨A3, C3, rfl⟩ := own_form hown3
          go_wp2
          go_roundw
          case rel => exact ⟨k + 1, p + 1, out ++ [s[p]], A3, C3, by have := HP.out; omega, by omega, by go_num, by simp, N.out, by simp; omega, by rw [← cells_snoc, List.length_append]; exact hown3, (HB.out.alloc (by omega) _).grown hgrow3 (by simp; omega) (fun g h => (HO.out.lt g h).1)⟩
          case measure => simp [intOf]; omega
        · by_cases hw : whiteS s[p] = true
          · have N : Hid (HexAt (s.data.toList.drop (a + 1)) (k + 1) out) := Lib.hid (HD.out.white d1 (by rw [d2]; exact hc) (by rw [d2]; exact hdg) (by rw [d2]; exact hw))
            have bd : ¬ 0 ≤ digitS s[p] := hdg
            clear d2 d3 hc
            go_wp2_with (first | (go_at_call 32; refine (digit_any _ _).mono ?_; rintro e w' ⟨rfl, rfl⟩) | (go_at_call 28; refine (white_any _ _).mono ?_; rintro e w' ⟨rfl, rfl⟩))
            go_roundw
            case rel => exact ⟨k + 1, p + 1, out, A, C, by have := HP.out; omega, by omega, by go_num, rfl, N.out, by omega, HO.out, HB.out⟩
            case measure => simp [intOf]; omega
          · have hw' : whiteS s[p] = false := by simpa using hw
            have E := HD.out.bad d1 (by rw [d2]; exact hc) (by rw [d2]; exact hdg) (by rw [d2]; exact hw)
            have hr := Lib.hid ((hexR_err E (by decide)).symm.trans HR.out)
            have hb3 := HB.out
            have hB := tok_cell hb3
            have HB3 := Lib.hid (tok_below hb3)
            have hg := HB3.out.size
            clear d2 d3 hc hw E
            have c0 := hB.cell 0
            have c1 := hB.cell 1
            have c2 := hB.cell 2
            have c3 := hB.cell 3
            have c4 := hB.cell 4
            have f0 := hB.frozen 0
            have f1 := hB.frozen 1
            have f2 := hB.frozen 2
            have f3 := hB.frozen 3
            have f4 := hB.frozen 4
            clear hb3 hB
            simp only [List.getElem?_toArray, List.getElem?_cons_zero, List.getElem?_cons_succ] at c0 c1 c2 c3 c4
            go_wp2_with (first | (go_at_call 32; refine (digit_any _ _).mono ?_; rintro e w' ⟨rfl, rfl⟩) | (go_at_call 28; refine (white_any _ _).mono ?_; rintro e w' ⟨rfl, rfl⟩))
            exact bodyPost_ret (v := .tuple #[.agg #[.int .i64 0, .int .i64 0, .int .i64 0, .int .i64 0, .string ⟨#[]⟩], .int .i64 3]) (by simp [results, Tryd.results21, go_sem, c0, c1, c2, c3, c4]) rfl ⟨tok_bad hr.out.symm (by decide), set_below (set_below (set_below (set_below (set_below HB3.out _ _) _ _) _ _) _ _) _ _⟩
    · have E := HD.out.done (drop_len HP.out hlt)
      have hr := Lib.hid ((hexR_err E (by decide)).symm.trans HR.out)
      have hb3 := HB.out
      have hB := tok_cell hb3
      have HB3 := Lib.hid (tok_below hb3)
      have hg := HB3.out.size
      clear E
      have c0 := hB.cell 0
      have c1 := hB.cell 1
      have c2 := hB.cell 2
      have c3 := hB.cell 3
      have c4 := hB.cell 4
      have f0 := hB.frozen 0
      have f1 := hB.frozen 1
      have f2 := hB.frozen 2
      have f3 := hB.frozen 3
      have f4 := hB.frozen 4
      clear hb3 hB
      simp only [List.getElem?_toArray, List.getElem?_cons_zero, List.getElem?_cons_succ] at c0 c1 c2 c3 c4
      go_wp2_with fail
      exact bodyPost_ret (v := .tuple #[.agg #[.int .i64 0, .int .i64 0, .int .i64 0, .int .i64 0, .string ⟨#[]⟩], .int .i64 4]) (by simp [results, Tryd.results21, go_sem, c0, c1, c2, c3, c4]) rfl ⟨tok_bad hr.out.symm (by decide), set_below (set_below (set_below (set_below (set_below HB3.out _ _) _ _) _ _) _ _) _ _⟩
end Go.Proofs.YtbmiogoigjdceaaDoor
