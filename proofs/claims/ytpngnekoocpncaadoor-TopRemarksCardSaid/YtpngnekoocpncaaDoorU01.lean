/-
  Lemmas and walks, joined: TopRm.
-/
import Derived.Test.YtpngnekoocpncaaDoorM20
import Derived.Test.YtpngnekoocpncaaDoorM18
import Derived.BigQuiet
import Derived.Deep.QuietTactic
import Derived.IntWalk
namespace Go.Proofs.YtpngnekoocpncaaDoor
open Go.RowKit Oct Fix Lex

theorem skip_true (r : List UInt8) (h : ∀ c ∈ r, c ≠ 10 ∧ c ≠ 13) : skipN true r = r.length := by
  induction r with
  | nil => rfl
  | cons c t ih =>
    have hc := h c (by simp)
    show (if c = 10 ∨ c = 13 then _ else 1 + skipN true t) = _
    rw [if_neg (by simp [hc.1, hc.2]), ih fun x hx => h x (by simp [hx]), List.length_cons]
    omega
theorem skip_end (r : List UInt8) (h : ∀ c ∈ r, c ≠ 10 ∧ c ≠ 13) : skipN false (37 :: r) = r.length + 1 := by
  show (if whiteS 37 then _ else if (37 : UInt8) = 37 then 1 + skipN true r else 0) = _
  rw [if_neg (by decide), if_pos rfl, skip_true r h]
  omega
theorem upto_remarks (t r : List UInt8) (R : TR) (hR : WholeT t R) (h : ∀ c ∈ r, c ≠ 10 ∧ c ≠ 13) :
    uptoN 1048576 (t ++ 37 :: (r ++ 10 :: (t ++ 37 :: r))) 0 = ([tkOf 0 R, tkOf (t.length + r.length + 2) R], 0, 0) := by
  obtain ⟨⟨c, u, hcu, hwc, h37⟩, h1, h2, h3, h4⟩ := id hR
  obtain ⟨last, hlast⟩ : ∃ x, t.getLast? = some x := ⟨_, List.getLast?_eq_some_getLast (by rw [hcu]; simp)⟩
  have ap : ∀ x : List UInt8, Apart last (37 :: x) := fun x d v e => by
    have e1 := (List.cons.inj e).1
    rw [← e1]
    unfold runOnS
    rw [show regularS 37 = false by decide, Bool.and_false]
  have hsk : ∀ x : List UInt8, skipN false (t ++ x) = 0 := fun x => by rw [hcu]; exact skipN_stop _ hwc h37
  generalize hl : t ++ 37 :: (r ++ 10 :: (t ++ 37 :: r)) = l
  have i0 : nextI l 0 = 0 := by unfold nextI; rw [← hl, List.drop_zero, hsk]
  have r0 : nextR l 0 = R := by unfold nextR; rw [i0, List.drop_zero, ← hl]; exact whole_more hR hlast (ap _)
  have d1 : l.drop t.length = 37 :: (r ++ 10 :: (t ++ 37 :: r)) := by rw [← hl, List.drop_left]
  have i1 : nextI l t.length = t.length + r.length + 2 := by unfold nextI; rw [d1, (skip_remark r _ h).1, hsk]; omega
  have d2 : l.drop (t.length + r.length + 2) = t ++ 37 :: r := by
    rw [show t.length + r.length + 2 = t.length + (r.length + 2) by omega, ← List.drop_drop, d1, List.drop_succ_cons, ← List.drop_drop, List.drop_left]
    rfl
  have r1 : nextR l t.length = R := by unfold nextR; rw [i1, d2]; exact whole_more hR hlast (ap _)
  have hlen : l.length = t.length + r.length + 2 + t.length + (r.length + 1) := by rw [← hl]; simp; omega
  have d3 : l.drop (t.length + r.length + 2 + t.length) = 37 :: r := by rw [← List.drop_drop, d2, List.drop_left]
  have i2 : l.length ≤ nextI l (t.length + r.length + 2 + t.length) := by unfold nextI; rw [d3, skip_end r h]; omega
  have r2 := Lex.next_end i2
  rw [show (1048576 : Nat) = 1048575 + 1 from rfl, upto_more (by rw [r0]; exact h2) (by rw [r0]; exact h3), i0, r0, h4, Nat.zero_add,
    show (1048575 : Nat) = 1048574 + 1 from rfl, upto_more (by rw [r1]; exact h2) (by rw [r1]; exact h3), i1, r1, h4,
    show (1048574 : Nat) = 1048573 + 1 from rfl, upto_end (by rw [r2]) (by rw [r2])]
  rfl
theorem upto_spaced (t : List UInt8) (R : TR) (hR : WholeT t R) : uptoN 1048576 (t ++ 32 :: t) 0 = ([tkOf 0 R, tkOf (t.length + 1) R], 0, 0) := by
  obtain ⟨⟨c, u, hcu, hwc, h37⟩, h1, h2, h3, h4⟩ := id hR
  obtain ⟨last, hlast⟩ : ∃ x, t.getLast? = some x := ⟨_, List.getLast?_eq_some_getLast (by rw [hcu]; simp)⟩
  have ap : ∀ x : List UInt8, Apart last (32 :: x) := fun x d v e => by
    have e1 := (List.cons.inj e).1
    rw [← e1]
    unfold runOnS
    rw [show regularS 32 = false by decide, Bool.and_false]
  have an : Apart last [] := fun d v e => by cases e
  have hsk : ∀ x : List UInt8, skipN false (t ++ x) = 0 := fun x => by rw [hcu]; exact skipN_stop _ hwc h37
  have hsk0 : skipN false t = 0 := by have := hsk []; rw [List.append_nil] at this; exact this
  generalize hl : t ++ 32 :: t = l
  have i0 : nextI l 0 = 0 := by unfold nextI; rw [← hl, List.drop_zero, hsk]
  have r0 : nextR l 0 = R := by unfold nextR; rw [i0, List.drop_zero, ← hl]; exact whole_more hR hlast (ap _)
  have d1 : l.drop t.length = 32 :: t := by rw [← hl, List.drop_left]
  have i1 : nextI l t.length = t.length + 1 := by unfold nextI; rw [d1, skipN_white _ (by decide), hsk0]
  have d2 : l.drop (t.length + 1) = t := by rw [← List.drop_drop, d1]; rfl
  have r1 : nextR l t.length = R := by unfold nextR; rw [i1, d2]; exact h1
  have hlen : l.length = t.length + 1 + t.length := by rw [← hl]; simp; omega
  have i2 : l.length ≤ nextI l (t.length + 1 + t.length) := by unfold nextI; omega
  have r2 := Lex.next_end i2
  rw [show (1048576 : Nat) = 1048575 + 1 from rfl, upto_more (by rw [r0]; exact h2) (by rw [r0]; exact h3), i0, r0, h4, Nat.zero_add,
    show (1048575 : Nat) = 1048574 + 1 from rfl, upto_more (by rw [r1]; exact h2) (by rw [r1]; exact h3), i1, r1, h4,
    show (1048574 : Nat) = 1048573 + 1 from rfl, upto_end (by rw [r2]) (by rw [r2])]
  rfl
def TwoT (p u : Int) (w : World) (e : Ending) (w' : World) : Prop :=
  ∃ (g C : Nat) (p0 q0 q1 : Int), e = .returned (.tuple #[.slice (some ⟨g, 0, none⟩) 2 C, .agg #[.int .i64 0, .int .i64 0]]) ∧ w'.ownsRow w.heap.size 40 5 (.slice (some ⟨g, 0, none⟩) 2 C) 2
    [.int .i64 2, .int .i64 p0, .int .i64 q0, .int .i64 u, .string ⟨#[]⟩, .int .i64 2, .int .i64 p, .int .i64 q1, .int .i64 u, .string ⟨#[]⟩] ∧ Below w.heap.size w w'
theorem two_of (J : ByteArray) (w : World) (hm : MaxLenAt w) (hz : J.size ≤ 100000) {p0 q0 p q1 u : Int} (hr : uptoI J.data.toList 0 1048576 = ([⟨2, p0, q0, u, []⟩, ⟨2, p, q1, u, []⟩], 0, 0)) :
    Calls Tryd.prog 23 #[.string J] w (TwoT p u w) := by
  refine (all_any J _ w hz hm hr).mono ?_
  rintro e w' ⟨A, C, rfl, hown, hb⟩
  obtain ⟨g, cap, hv, _⟩ := hown.form (by show 0 < 2; decide)
  injection hv with h1 h2 h3
  subst h1
  exact ⟨g, C, p0, q0, q1, rfl, hown, hb⟩
theorem twoT {J : ByteArray} {a b : Nat} {n : Nat} {p u : Int} (w : World) (hm : MaxLenAt w) (hz : J.size ≤ 100000) (hp : (b : Int) = p) (hr : uptoN 1048576 J.data.toList 0 = ([tkOf a ⟨0, 2, n, u, []⟩, tkOf b ⟨0, 2, n, u, []⟩], 0, 0)) :
    Calls Tryd.prog 23 #[.string J] w (TwoT p u w) := by
  subst hp
  have hr' : uptoI J.data.toList 0 1048576 = ([tkOf a ⟨0, 2, n, u, []⟩, tkOf b ⟨0, 2, n, u, []⟩], 0, 0) := by
    unfold uptoI
    rw [if_neg (by omega)]
    exact hr
  exact two_of J w hm hz hr'
theorem text5 (w : World) (ht : Tab10 w) : Calls Tryd.prog 25 #[.int .i64 5] w fun e w' => e = .returned (.string ⟨#[48, 46, 48, 48, 48, 53]⟩) ∧ Below w.heap.size w w' :=
  (text_any 5 w ht).mono fun e w' ⟨h1, h2⟩ => ⟨h1.trans (by kernel_rfl), h2⟩
theorem text_size (n : Int) (h1 : -1073741824 ≤ n) (h2 : n ≤ 1073741824) : (bOf (textL n)).size ≤ 100 := by
  have hl := frac_length (n.natAbs % 10000) (by omega)
  have hd := dec_len (n.natAbs / 10000) (by omega)
  rw [bOf_size, textL_in n h1 h2]
  simp only [List.length_append]
  have : (if n < 0 then [45] else ([] : List UInt8)).length ≤ 1 := by split <;> simp
  simp
  omega

set_option maxRecDepth 100000 in
set_option maxHeartbeats 16000000 in
theorem topRemarks_short (u : Int) (r : ByteArray) (w : World) (hw : PLive w) (hr : r.size ≤ 300) :
    Calls Tryd.prog 7 #[.int .i64 u, .string r] w fun e w' => e = .returned (.bool true) ∧ Below w.heap.size w w' := by
  have HL0 := Lib.hid hw
  clear hw
  go_enter Tryd.func7, Tryd.ntmps7
  go_wp2_with fail
  refine (text5 _ HL0.out.2).mono ?_
  rintro e w1 ⟨rfl, hb⟩
  have HB1 := Lib.hid hb
  have HL1 := Lib.hid (HL0.out.below HB1.out (Nat.le_refl _))
  clear hb
  go_wp2_with fail
  go_loop [6] (fun i => ∃ k : Nat, k ≤ r.size ∧ i = .int .i64 (k : Int) ∧ Hid (∀ c ∈ r.data.toList.take k, c ≠ 10 ∧ c ≠ 13)) (fun i => r.size - (intOf i).toNat)
  case atStart => exact ⟨0, by omega, rfl, Lib.hid (by simp)⟩
  case round =>
    obtain ⟨k, hk, rfl, hall⟩ := hrel
    by_cases hlt : k < r.size
    · have k0 : (0 : Int) ≤ (k : Int) := by omega
      have k1 : (k : Int) < (r.size : Int) := by omega
      have ht := take_snoc r k hlt
      obtain ⟨c, hc⟩ : ∃ c, r[k] = c := ⟨_, rfl⟩
      rw [hc] at ht
      have HT := Lib.hid ht
      clear ht
      by_cases h13 : ((c.toNat : Int) == 13) = true
      · go_wp2_with fail
        go_ret
        exact ⟨rfl, HB1.out⟩
      · have h13' : ((c.toNat : Int) == 13) = false := Bool.eq_false_iff.2 h13
        by_cases h10 : ((c.toNat : Int) == 10) = true
        · clear h13
          go_wp2_with fail
          go_ret
          exact ⟨rfl, HB1.out⟩
        · have h10' : ((c.toNat : Int) == 10) = false := Bool.eq_false_iff.2 h10
          have HN : Hid (∀ c ∈ r.data.toList.take (k + 1), c ≠ 10 ∧ c ≠ 13) := Lib.hid (fun x hx => by
            rw [HT.out] at hx
            rcases List.mem_append.1 hx with hx | hx
            · exact hall.out x hx
            · rw [List.mem_singleton.1 hx]
              exact ⟨by rintro rfl; exact h10 rfl, by rintro rfl; exact h13 rfl⟩)
          clear h10 h13
          go_wp2_with fail
          go_round
          case rel => exact ⟨k + 1, by omega, by go_num, HN⟩
          case measure => simp [intOf]; omega
    · have hall2 : ∀ c ∈ r.data.toList, c ≠ 10 ∧ c ≠ 13 := by
        have := hall.out
        rw [List.take_of_length_le (by simp; omega)] at this
        exact this
      have HA := Lib.hid hall2
      clear hall hall2
      by_cases hu : u < -1073741824 ∨ 1073741824 < u
      · obtain ⟨e1, e2⟩ := pReal_out hu
        have HR := Lib.hid (fun W ht => (e2 ▸ plnReal_any u W ht : Calls Tryd.prog 11 #[.int .i64 u] W fun e w' => e = .returned (.tuple #[.string (bOf (textL u)), .int .i64 2]) ∧ Below W.heap.size W w'))
        clear e1 e2 hu
        go_wp2_with fail
        refine (HR.out _ HL1.out.2).mono ?_
        rintro e w2 ⟨rfl, hb⟩
        have HB2 := Lib.hid (HB1.out.trans (hb.mono HB1.out.size))
        clear hb
        go_wp2_with fail
        go_ret
        exact ⟨rfl, HB2.out⟩
      · have e2 := pReal_in hu
        have hR := real_whole u (by omega) (by omega)
        have hts := text_size u (by omega) (by omega)
        have htd : (bOf (textL u)).data.toList = textL u := rfl
        have HR := Lib.hid (fun W ht => (e2 ▸ plnReal_any u W ht : Calls Tryd.prog 11 #[.int .i64 u] W fun e w' => e = .returned (.tuple #[.string (bOf (textL u)), .int .i64 0]) ∧ Below W.heap.size W w'))
        obtain ⟨T, hT⟩ : ∃ T, bOf (textL u) = T := ⟨_, rfl⟩
        rw [hT] at htd hts
        simp only [hT] at HR
        rw [← htd] at hR
        clear hT e2 htd
        have hr1 := upto_spaced T.data.toList _ hR
        have hr2 := upto_remarks T.data.toList r.data.toList _ hR HA.out
        have hA1 := fun W hm => twoT (J := T ++ ⟨#[32]⟩ ++ T) (p := ((T.data.toList.length + 1 : Nat) : Int)) W hm (by simp only [ByteArray.size_append]; show T.size + 1 + T.size ≤ _; omega) rfl (by simp only [ByteArray.data_append, Array.toList_append, List.append_assoc]; exact hr1)
        have hA2 := fun W hm => twoT (J := T ++ ⟨#[37]⟩ ++ r ++ ⟨#[10]⟩ ++ T ++ ⟨#[37]⟩ ++ r) (b := T.data.toList.length + r.data.toList.length + 2) (p := (T.size : Int) + (r.size : Int) + 2) W hm (by simp only [ByteArray.size_append]; show T.size + 1 + r.size + 1 + T.size + 1 + r.size ≤ _; omega) (by rw [size_len, size_len]; push_cast; rfl) (by simp only [ByteArray.data_append, Array.toList_append, List.append_assoc]; exact hr2)
        have HA1 := Lib.hid hA1
        have HA2 := Lib.hid hA2
        clear hr1 hr2 hA1 hA2 hR
        go_wp2_with fail
        refine (HR.out _ HL1.out.2).mono ?_
        rintro e w2 ⟨rfl, hb⟩
        have HB2 := Lib.hid (HB1.out.trans (hb.mono HB1.out.size))
        have HL2 := Lib.hid (HL0.out.below HB2.out (Nat.le_refl _))
        clear hb
        go_wp2_with fail
        refine (HA1.out _ HL2.out.1).mono ?_
        rintro e v3 ⟨g3, C3, p0, q0, q1, rfl, hown, hb⟩
        go_upto_region 15 with (fail)
        obtain ⟨w3, hw3⟩ : ∃ w3, v3.alloc (.cells #[.int .i64 0, .int .i64 0] 35) = w3 := ⟨_, rfl⟩
        have HF3 := Lib.hid (show Blk w3 v3.heap.size 35 #[.int .i64 0, .int .i64 0] by rw [← hw3]; exact Blk.new _ _ _)
        have HB3 := Lib.hid (show Below w.heap.size w w3 by rw [← hw3]; exact (HB2.out.trans (hb.mono HB2.out.size)).alloc (Nat.le_trans HB2.out.size hb.size) _)
        have HO3 := Lib.hid (show w3.ownsRow w2.heap.size 40 5 (.slice (some ⟨g3, 0, none⟩) 2 C3) 2 [.int .i64 2, .int .i64 p0, .int .i64 q0, .int .i64 u, .string ⟨#[]⟩, .int .i64 2, .int .i64 ((T.data.toList.length + 1 : Nat) : Int), .int .i64 q1, .int .i64 u, .string ⟨#[]⟩] by rw [← hw3]; exact hown.alloc _)
        have HL3 := Lib.hid (HL0.out.below HB3.out (Nat.le_refl _))
        rw [hw3]
        clear hw3 hb hown
        obtain ⟨b3, hb3⟩ : ∃ b3, v3.heap.size = b3 := ⟨_, rfl⟩
        rw [hb3] at HF3
        simp only [hb3]
        clear hb3
        go_wp2_with fail
        refine (HA2.out _ HL3.out.1).mono ?_
        rintro e v4 ⟨g4, C4, s0, t0, t1, rfl, hown, hb⟩
        go_upto_region 16 with (fail)
        obtain ⟨w4, hw4⟩ : ∃ w4, v4.alloc (.cells #[.int .i64 0, .int .i64 0] 35) = w4 := ⟨_, rfl⟩
        have hF4 : Blk w4 v4.heap.size 35 #[.int .i64 0, .int .i64 0] := by rw [← hw4]; exact Blk.new _ _ _
        have hF3 : Blk w4 b3 35 #[.int .i64 0, .int .i64 0] := by rw [← hw4]; exact (HF3.out.below hb HF3.out.lt).alloc _
        have HB4 := Lib.hid (show Below w.heap.size w w4 by rw [← hw4]; exact (HB3.out.trans (hb.mono HB3.out.size)).alloc (Nat.le_trans HB3.out.size hb.size) _)
        have hO3 := (own_below HO3.out hb (Nat.le_refl _)).alloc (.cells #[.int .i64 0, .int .i64 0] 35)
        have hO4 := hown.alloc (.cells #[.int .i64 0, .int .i64 0] 35)
        rw [hw4] at hO3 hO4 ⊢
        clear hw4 hb hown
        obtain ⟨b4, hb4⟩ : ∃ b4, v4.heap.size = b4 := ⟨_, rfl⟩
        rw [hb4] at hF4
        simp only [hb4]
        clear hb4
        have f3 := hF3.cell 1
        have f4 := hF4.cell 1
        have r3 := hO3.cellAt 3 (by decide)
        have r8 := hO3.cellAt 8 (by decide)
        have x3 := hO4.cellAt 3 (by decide)
        have x6 := hO4.cellAt 6 (by decide)
        have x8 := hO4.cellAt 8 (by decide)
        simp only [List.getElem?_toArray, List.getElem?_cons_zero, List.getElem?_cons_succ] at f3 f4 r3 r8 x3 x6 x8
        clear hF3 hF4 hO3 hO4
        have m1 : IntKind.i64.wrap ((T.size : Int) + (r.size : Int)) = (T.size : Int) + (r.size : Int) := IntWalk.i64_in _ (by omega)
        have m2 : IntKind.i64.wrap ((T.size : Int) + (r.size : Int) + 2) = (T.size : Int) + (r.size : Int) + 2 := IntWalk.i64_in _ (by omega)
        go_wp2_with fail
        go_quiet (fail)
        go_wp2_with fail
        go_ret
        exact ⟨rfl, below_drewN HB4.out _⟩

set_option maxRecDepth 100000 in
set_option maxHeartbeats 4000000 in
theorem topRemarksWalk (u : Int) (r : ByteArray) (w : World) (hw : PLive w) :
    Calls Tryd.prog 7 #[.int .i64 u, .string r] w fun e w' => e = .returned (.bool true) ∧ Below w.heap.size w w' := by
  by_cases h : r.size ≤ 300
  · exact topRemarks_short u r w hw h
  · have HL0 := Lib.hid hw
    clear hw
    go_enter Tryd.func7, Tryd.ntmps7
    go_wp2_with fail
    refine (text5 _ HL0.out.2).mono ?_
    rintro e w1 ⟨rfl, hb⟩
    go_wp2_with fail
    go_ret
    exact ⟨rfl, hb⟩
end Go.Proofs.YtpngnekoocpncaaDoor
