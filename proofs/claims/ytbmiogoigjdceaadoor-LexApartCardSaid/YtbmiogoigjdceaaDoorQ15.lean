/-
  Lemmas and walks, joined: LexT, LexU, LexV.
-/
import Derived.Test.YtbmiogoigjdceaaDoorQ08
import Derived.Test.YtbmiogoigjdceaaDoorQ14
namespace Go.Proofs.YtbmiogoigjdceaaDoor
open Go.RowKit Oct Fix Lex

set_option maxRecDepth 100000 in
set_option maxHeartbeats 4000000 in
theorem name_r (s : ByteArray) (w : World) (hs : s.size ≤ 4000000000) :
    Calls Tryd.prog 42 #[.string s] w fun e w' => e = .returned (.tuple #[.string (decT s), .int .i64 (decE s)]) ∧ Below w.heap.size w w' := by
  obtain ⟨i5, hi, hz0, hz1, hz2⟩ := info_parts info5
  have hsl : s.data.toList.length = s.size := by simp
  have HSL := Lib.hid hsl
  clear hsl
  go_enter Tryd.func42, Tryd.ntmps42
  go_wp2_with fail
  go_loopw [4, 5] (fun v i wr => ∃ (k : Nat) (out : List UInt8) (A : Option Addr) (C : Nat), k ≤ s.size ∧ i = .int .i64 k ∧ v = .slice A out.length C ∧ DecAt s.data.toList k out ∧ wr.ownsRow w.heap.size 5 1 (.slice A out.length C) out.length (cellsOf out) ∧ Below w.heap.size w wr) (fun _ i _ => s.size - (intOf i).toNat)
  case atStart => exact ⟨0, [], none, 0, by omega, rfl, rfl, DecAt.zero _, World.ownsRow_nil _ _ _ _, Below.refl _ _⟩
  case round =>
    obtain ⟨k, out, A, C, hk, rfl, rfl, hd, hown, hb⟩ := hrel
    have hol := hd.2
    have HD := Lib.hid hd
    have HO := Lib.hid hown
    have HB := Lib.hid hb
    have hbs := hb.size
    clear hd hown hb
    by_cases hlt : k < s.size
    · by_cases hc : s[k] = 35
      · have b35 : ((s[k].toNat : Int) == 35) = true := by rw [hc]; rfl
        by_cases hl : k + 2 < s.size
        · have b1 : k + 1 < s.size := by omega
          have l1 : ¬ (s.size : Int) ≤ (k : Int) + 2 := by omega
          have p1 : (0 : Int) ≤ (k : Int) + 1 := by omega
          have p2 : (k : Int) + 1 < (s.size : Int) := by omega
          have p3 : (0 : Int) ≤ (k : Int) + 2 := by omega
          have p4 : (k : Int) + 2 < (s.size : Int) := by omega
          have g1 := digit_le s[k + 1]
          have g2 := digit_le s[k + 2]
          have HC := Lib.hid hc
          have hw1 : IntKind.i64.wrap ((k : Int) + 1) = (k : Int) + 1 := IntWalk.i64_in _ (by omega)
          have hw2 : IntKind.i64.wrap ((k : Int) + 2) = (k : Int) + 2 := IntWalk.i64_in _ (by omega)
          have ht1 : ((k : Int) + 1).toNat = k + 1 := by omega
          have ht2 : ((k : Int) + 2).toNat = k + 2 := by omega
          by_cases hp : HashOk s[k + 1] s[k + 2]
          · obtain ⟨q1, q2, q3⟩ := hp
            have q3' : (16 * digitS s[k + 1] + digitS s[k + 2] == 0) = false := by simpa using q3
            have N : Hid (DecAt s.data.toList (k + 3) (out ++ [pairByte s[k + 1] s[k + 2]])) := Lib.hid (HD.out.hash (by rw [HSL.out]; exact hl) HC.out ⟨q1, q2, q3⟩)
            have hpi := pairByte_int s[k + 1] s[k + 2] q1 q2
            have HPI := Lib.hid hpi
            clear hc q3 hpi
            go_wp2_with fail
            go_quiet ((go_at_call 62; exact Calls.quiet_of_same (digit_rq _ _)))
            clear hw1 hw2
            have ho2 : Hid ((wr.drewN nq).ownsRow w.heap.size 5 1 (.slice A out.length C) out.length (cellsOf out)) := HO
            go_wp2_with (first | (at_builtin; refine wpList_append_own _ rfl _ _ 39 rfl w.heap.size 5 i5 (.int .u8 0) 1 1 Tryd.underlying39 hi hz0 hz1 hz2 rfl (by decide) _ _ _ rfl (ho2.out.alloc _) ⟨wr.heap.size, 0, none⟩ 1 1 [.int .u8 (16 * digitS s[k + 1] + digitS s[k + 2])] rfl rfl (World.news_of_block (heap_alloc_new (wr.drewN nq) _)) (by simp [Value.oneCell']) (by unfold maxLen; omega) (by omega) (by simp; omega) ?_))
            intro v3 w3 hown3 hgrow3
            intros
            obtain ⟨A3, C3, rfl⟩ := own_form hown3
            go_wp2
            go_roundw
            case rel => exact ⟨k + 3, out ++ [pairByte s[k + 1] s[k + 2]], A3, C3, by omega, by go_num, by simp, N.out, by rw [← cells_snoc, List.length_append, HPI.out]; exact hown3, ((below_drewN HB.out nq).alloc (by simpa using hbs) _).grown hgrow3 (by simp; omega) (fun g h => (HO.out.lt g h).1)⟩
            case measure => simp [intOf]; omega
          · have E := Lib.hid (dec_none (s := s) (HD.out.bad (by rw [HSL.out]; exact hl) HC.out hp))
            unfold HashOk at hp
            clear hc
            by_cases n1 : digitS s[k + 1] < 0
            · clear hp
              go_wp2_with fail
              go_quiet ((go_at_call 62; exact Calls.quiet_of_same (digit_rq _ _)))
              clear hw1 hw2
              go_wp2_with fail
              go_ret2
              exact ⟨ret_two E.out.1.symm E.out.2.symm, below_drewN HB.out _⟩
            · by_cases n2 : digitS s[k + 2] < 0
              · clear hp
                go_wp2_with fail
                go_quiet ((go_at_call 62; exact Calls.quiet_of_same (digit_rq _ _)))
                clear hw1 hw2
                go_wp2_with fail
                go_ret2
                exact ⟨ret_two E.out.1.symm E.out.2.symm, below_drewN HB.out _⟩
              · have q3 : (16 * digitS s[k + 1] + digitS s[k + 2] == 0) = true := by
                  have : ¬ ¬ 16 * digitS s[k + 1] + digitS s[k + 2] = 0 := fun h => hp ⟨by omega, by omega, h⟩
                  simpa using this
                clear hp
                go_wp2_with fail
                go_quiet ((go_at_call 62; exact Calls.quiet_of_same (digit_rq _ _)))
                clear hw1 hw2
                go_wp2_with fail
                go_ret2
                exact ⟨ret_two E.out.1.symm E.out.2.symm, below_drewN HB.out _⟩
        · have l1 : (s.size : Int) ≤ (k : Int) + 2 := by omega
          have E := Lib.hid (dec_none (s := s) (HD.out.short (by rw [HSL.out]; exact hlt) hc (by rw [HSL.out]; exact hl)))
          clear hc
          go_wp2_with fail
          go_ret2
          exact ⟨ret_two E.out.1.symm E.out.2.symm, HB.out⟩
      · have b35 : ((s[k].toNat : Int) == 35) = false := byte_isnt (n := 35) (by decide) hc
        have N : Hid (DecAt s.data.toList (k + 1) (out ++ [s[k]])) := Lib.hid (HD.out.plain (by rw [HSL.out]; exact hlt) hc)
        clear hc
        go_wp2_with (first | (at_builtin; refine wpList_append_own _ rfl _ _ 39 rfl w.heap.size 5 i5 (.int .u8 0) 1 1 Tryd.underlying39 hi hz0 hz1 hz2 rfl (by decide) _ _ _ rfl (HO.out.alloc _) ⟨wr.heap.size, 0, none⟩ 1 1 [.int .u8 (s[k].toNat : Int)] rfl rfl (World.news_of_block (heap_alloc_new wr _)) (by simp [Value.oneCell']) (by unfold maxLen; omega) (by omega) (by simp; omega) ?_))
        intro v3 w3 hown3 hgrow3
        intros
        obtain ⟨A3, C3, rfl⟩ := own_form hown3
        go_wp2
        go_roundw
        case rel => exact ⟨k + 1, out ++ [s[k]], A3, C3, by omega, by go_num, by simp, N.out, by rw [← cells_snoc, List.length_append]; exact hown3, (HB.out.alloc (by omega) _).grown hgrow3 (by simp; omega) (fun g h => (HO.out.lt g h).1)⟩
        case measure => simp [intOf]; omega
    · have E := HD.out.done (by rw [HSL.out]; omega)
      by_cases hl : 127 < out.length
      · have l1 : (127 : Int) < (out.length : Int) := by omega
        have E2 := Lib.hid (dec_long (s := s) E hl)
        clear E
        go_wp2_with fail
        go_ret2
        exact ⟨ret_two E2.out.1.symm E2.out.2.symm, HB.out⟩
      · have l1 : ¬ (127 : Int) < (out.length : Int) := by omega
        have E2 := Lib.hid (dec_some (s := s) E hl)
        have hconv := run_string_of_own HO.out rfl
        clear E
        go_wp2_with fail
        go_ret2
        exact ⟨ret_two E2.out.1.symm E2.out.2.symm, HB.out⟩
end Go.Proofs.YtbmiogoigjdceaaDoor
namespace Go.Proofs.YtbmiogoigjdceaaDoor
open Go.RowKit Oct Fix Lex

/-- What hex and text answer: the text, the place behind it, the error. -/
def TxtEnd (a : Nat) (R : TR) (w : World) (e : Ending) (w' : World) : Prop := e = .returned (.tuple #[.string (tS R), .int .i64 (tT a R), .int .i64 R.err]) ∧ Below w.heap.size w w'
theorem txt_ok {a n : Nat} {R : TR} {b : ByteArray} {t : Int} {w w' : World} {k m : Int} (hR : R = ⟨0, k, n, m, b.data.toList⟩) (ht : t = ((a + n : Nat) : Int)) (hb : Below w.heap.size w w') : TxtEnd a R w (.returned (.tuple #[.string b, .int .i64 t, .int .i64 0])) w' := by
  subst hR ht
  exact ⟨rfl, hb⟩
theorem txt_bad {a : Nat} {R : TR} {c : Int} {w w' : World} (hR : R = bad c) (hc : c ≠ 0) (hb : Below w.heap.size w w') : TxtEnd a R w (.returned (.tuple #[.string ⟨#[]⟩, .int .i64 0, .int .i64 c])) w' := by
  subst hR
  refine ⟨?_, hb⟩
  unfold tT tS bad
  rw [if_neg hc]
theorem strR_ok {n : Nat} {x : List UInt8} (h : ¬ 32767 < x.length) : strR n x = ⟨0, 3, n, 0, x⟩ := by unfold strR; rw [if_neg h]
theorem strR_long {n : Nat} {x : List UInt8} (h : 32767 < x.length) : strR n x = bad 5 := by unfold strR; rw [if_pos h]

theorem unhex_rc (s t : ByteArray) (c : Int) (w : World) (hs : s.size ≤ 4000000000) (h : unhexT s = t) (hc : unhexE s = c) :
    Calls Tryd.prog 64 #[.string s] w fun e w' => e = .returned (.tuple #[.string t, .int .i64 c]) ∧ Below w.heap.size w w' := h ▸ hc ▸ unhex_r s w hs

set_option maxRecDepth 100000 in
set_option maxHeartbeats 8000000 in
theorem hex_rany (s : ByteArray) (a : Nat) (b : Int) (R : TR) (w : World) (h : a < s.size) (hs : s.size ≤ 3000000000) (hb : b = (a : Int) + 1) (hR : hexR (s.data.toList.drop (a + 1)) = R) :
    Calls Tryd.prog 44 #[.string s, .int .i64 b] w (TxtEnd a R w) := by
  subst hb
  obtain ⟨i5, hi, hz0, hz1, hz2⟩ := info_parts info5
  have HR := Lib.hid hR
  clear hR
  go_enter Tryd.func44, Tryd.ntmps44
  go_wp2_with fail
  go_loopw [1, 7] (fun i v wr => ∃ (k p : Nat) (out : List UInt8) (A : Option Addr) (C : Nat), a + 1 + k = p ∧ p ≤ s.size ∧ i = .int .i64 (p : Int) ∧ v = .slice A out.length C ∧ HexAt (s.data.toList.drop (a + 1)) k out ∧ out.length ≤ k ∧ wr.ownsRow w.heap.size 5 1 (.slice A out.length C) out.length (cellsOf out) ∧ Below w.heap.size w wr) (fun i _ _ => s.size - (intOf i).toNat)
  case atStart => exact ⟨0, a + 1, [], none, 0, by omega, by omega, by go_num, rfl, HexAt.zero _, Nat.le_refl _, World.ownsRow_nil _ _ _ _, Below.refl _ _⟩
  case round =>
    obtain ⟨k, p, out, A, C, hp, hk, rfl, rfl, hd, hol, hown, hb⟩ := hrel
    have hkp : k ≤ p := by omega
    have hap : a + 1 ≤ p := by omega
    have hbs := hb.size
    have HD := Lib.hid hd
    have HO := Lib.hid hown
    have HP := Lib.hid hp
    have HB := Lib.hid hb
    clear hd hown hb hp
    by_cases hlt : p < s.size
    · obtain ⟨d1, d2, d3⟩ := drop_p HP.out hlt
      by_cases hc : s[p] = 62
      · have b62 : ((s[p].toNat : Int) != 62) = false := by rw [hc]; rfl
        have E := HD.out.stop d1 (by rw [d2]; exact hc)
        obtain ⟨x, hx⟩ := unhex_some (evenL out) (even_dig HD.out.2) (even_even out)
        have hr := (hexR_some E hx).symm.trans HR.out
        have xl := unhexS_even _ _ hx
        by_cases hm : out.length % 2 = 0
        · rw [evenL_even hm] at hx xl
          obtain ⟨u1, u2⟩ := unhexE_some (s := ⟨out.toArray⟩) (l := x) hx
          have bq : ((out.length : Int) % 2 != 0) = false := by simp; omega
          have hconv := run_string_of_own HO.out rfl
          have hes : (⟨out.toArray⟩ : ByteArray).size ≤ 4000000000 := by show out.length ≤ _; omega
          have HES := Lib.hid hes
          obtain ⟨X, hX⟩ : ∃ X : ByteArray, (⟨x.toArray⟩ : ByteArray) = X := ⟨_, rfl⟩
          have hXl : X.data.toList = x := by rw [← hX]
          have hXs : X.size = x.length := by rw [← hX]; rfl
          rw [hX] at u1
          have U1 := Lib.hid u1
          have U2 := Lib.hid u2
          by_cases hlx : 32767 < x.length
          · have l1 : (32767 : Int) < (X.size : Int) := by omega
            have hr2 := Lib.hid (hr.symm.trans (strR_long hlx))
            clear d2 d3 hc E hx hr xl hm u1 u2 hes hX hXl hXs
            go_wp2_with fail
            refine (unhex_rc _ X 0 _ HES.out U1.out U2.out).mono ?_
            rintro e w2 ⟨rfl, hb2⟩
            have HB2 := Lib.hid (HB.out.trans (hb2.mono hbs))
            clear hb2 hconv
            go_wp2_with fail
            go_ret3
            exact txt_bad hr2.out (by decide) HB2.out
          · have l1 : ¬ (32767 : Int) < (X.size : Int) := by omega
            have hr2 := Lib.hid (hr.symm.trans (strR_ok hlx))
            have HXL := Lib.hid hXl
            clear d2 d3 hc E hx hr xl hm u1 u2 hes hX hXl hXs
            go_wp2_with fail
            refine (unhex_rc _ X 0 _ HES.out U1.out U2.out).mono ?_
            rintro e w2 ⟨rfl, hb2⟩
            have HB2 := Lib.hid (HB.out.trans (hb2.mono hbs))
            clear hb2 hconv
            go_wp2_with fail
            go_ret3
            exact txt_ok (n := 1 + (k + 1)) (by rw [HXL.out]; exact hr2.out) (by have := HP.out; omega) HB2.out
        · rw [evenL_odd (by omega)] at hx xl
          obtain ⟨u1, u2⟩ := unhexE_some (s := ⟨(out ++ [48]).toArray⟩) (l := x) hx
          have bq : ((out.length : Int) % 2 != 0) = true := by simp; omega
          have hes : (⟨(out ++ [48]).toArray⟩ : ByteArray).size ≤ 4000000000 := by
            show (out ++ [48]).length ≤ _
            rw [List.length_append]
            show out.length + 1 ≤ _
            omega
          have HES := Lib.hid hes
          obtain ⟨X, hX⟩ : ∃ X : ByteArray, (⟨x.toArray⟩ : ByteArray) = X := ⟨_, rfl⟩
          have hXl : X.data.toList = x := by rw [← hX]
          have hXs : X.size = x.length := by rw [← hX]; rfl
          rw [hX] at u1
          have U1 := Lib.hid u1
          have U2 := Lib.hid u2
          have l1 : (32767 : Int) < (X.size : Int) ∨ ¬ (32767 : Int) < (X.size : Int) := by omega
          have hr2 := Lib.hid hr
          have HXL := Lib.hid hXl
          have HXS := Lib.hid hXs
          clear d2 d3 hc E hx hr xl hm u1 u2 hes hX hXl hXs
          rcases l1 with l1 | l1
          all_goals
            go_wp2_with (first | (at_builtin; refine wpList_append_own _ rfl _ _ 39 rfl w.heap.size 5 i5 (.int .u8 0) 1 1 Tryd.underlying39 hi hz0 hz1 hz2 rfl (by decide) _ _ _ rfl (HO.out.alloc _) ⟨wr.heap.size, 0, none⟩ 1 1 [.int .u8 48] rfl rfl (World.news_of_block (heap_alloc_new wr _)) (by simp [Value.oneCell']) (by unfold maxLen; omega) (by omega) (by simp; omega) ?_))
            intro v3 w3 hown3 hgrow3
            intros
            obtain ⟨A3, C3, rfl⟩ := own_form hown3
            have hconv := run_string_of_own (l := out ++ [48]) (by rw [← cells_snoc]; exact hown3) (by simp)
            have hb3 := (HB.out.alloc (by omega) (.cells #[.int .u8 48] 5)).grown hgrow3 (by simp; omega) (fun g h => (HO.out.lt g h).1)
            have hbs3 := hb3.size
            have HB3 := Lib.hid hb3
            clear hown3 hgrow3 hb3
            go_wp2_with fail
            refine (unhex_rc _ X 0 _ HES.out U1.out U2.out).mono ?_
            rintro e w4 ⟨rfl, hb4⟩
            have HB4 := Lib.hid (HB3.out.trans (hb4.mono hbs3))
            clear hb4 hconv
            go_wp2_with fail
            go_ret3
            first
            | exact txt_bad (hr2.out.symm.trans (strR_long (by have := HXS.out; omega))) (by decide) HB4.out
            | exact txt_ok (n := 1 + (k + 1)) (by rw [HXL.out]; exact hr2.out.symm.trans (strR_ok (by have := HXS.out; omega))) (by have := HP.out; omega) HB4.out
      · have b62 : ((s[p].toNat : Int) != 62) = true := by have e62 : ((s[p].toNat : Int) == 62) = false := byte_isnt (n := 62) (by decide) hc; simp only [bne]; rw [e62]; rfl
        by_cases hdg : 0 ≤ digitS s[p]
        · have N : Hid (HexAt (s.data.toList.drop (a + 1)) (k + 1) (out ++ [s[p]])) := Lib.hid (by rw [← d2]; exact HD.out.dig d1 (by rw [d2]; exact hc) (by rw [d2]; exact hdg))
          clear d2 d3 hc
          go_wp2_with (first | (go_at_call 62; refine (digit_r _ _).mono ?_; rintro e w' ⟨rfl, rfl⟩) | (first | (at_builtin; refine wpList_append_own _ rfl _ _ 39 rfl w.heap.size 5 i5 (.int .u8 0) 1 1 Tryd.underlying39 hi hz0 hz1 hz2 rfl (by decide) _ _ _ rfl (HO.out.alloc _) ⟨wr.heap.size, 0, none⟩ 1 1 [.int .u8 (s[p].toNat : Int)] rfl rfl (World.news_of_block (heap_alloc_new wr _)) (by simp [Value.oneCell']) (by unfold maxLen; omega) (by omega) (by simp; omega) ?_)))
          intro v3 w3 hown3 hgrow3
          intros
          obtain ⟨A3, C3, rfl⟩ := own_form hown3
          go_wp2
          go_roundw
          case rel => exact ⟨k + 1, p + 1, out ++ [s[p]], A3, C3, by have := HP.out; omega, by omega, by go_num, by simp, N.out, by simp; omega, by rw [← cells_snoc, List.length_append]; exact hown3, (HB.out.alloc (by omega) _).grown hgrow3 (by simp; omega) (fun g h => (HO.out.lt g h).1)⟩
          case measure => simp [intOf]; omega
        · by_cases hw : whiteS s[p] = true
          · have N : Hid (HexAt (s.data.toList.drop (a + 1)) (k + 1) out) := Lib.hid (HD.out.white d1 (by rw [d2]; exact hc) (by rw [d2]; exact hdg) (by rw [d2]; exact hw))
            clear d2 d3 hc
            go_wp2_with (first | (go_at_call 62; refine (digit_r _ _).mono ?_; rintro e w' ⟨rfl, rfl⟩) | (go_at_call 27; refine (white_r _ _).mono ?_; rintro e w' ⟨rfl, rfl⟩))
            go_roundw
            case rel => exact ⟨k + 1, p + 1, out, A, C, by have := HP.out; omega, by omega, by go_num, rfl, N.out, by omega, HO.out, HB.out⟩
            case measure => simp [intOf]; omega
          · have hw' : whiteS s[p] = false := by simpa using hw
            have E := HD.out.bad d1 (by rw [d2]; exact hc) (by rw [d2]; exact hdg) (by rw [d2]; exact hw)
            have hr := Lib.hid ((hexR_err E (by decide)).symm.trans HR.out)
            clear d2 d3 hc hw E
            go_wp2_with (first | (go_at_call 62; refine (digit_r _ _).mono ?_; rintro e w' ⟨rfl, rfl⟩) | (go_at_call 27; refine (white_r _ _).mono ?_; rintro e w' ⟨rfl, rfl⟩))
            go_ret3
            exact txt_bad hr.out.symm (by decide) HB.out
    · have E := HD.out.done (drop_len HP.out hlt)
      have hr := Lib.hid ((hexR_err E (by decide)).symm.trans HR.out)
      clear E
      go_wp2_with fail
      go_ret3
      exact txt_bad hr.out.symm (by decide) HB.out
end Go.Proofs.YtbmiogoigjdceaaDoor
namespace Go.Proofs.YtbmiogoigjdceaaDoor
open Go.RowKit Oct Fix Lex

def escB (s : ByteArray) (a : Nat) : ByteArray := ⟨(escL (s.data.toList.drop a)).1.toArray⟩
def escP (s : ByteArray) (a : Nat) : Nat := a + (escL (s.data.toList.drop a)).2
def EscEnd (s : ByteArray) (a : Nat) (w : World) (e : Ending) (w' : World) : Prop := e = .returned (.tuple #[.string (escB s a), .int .i64 (escP s a : Int)]) ∧ Below w.heap.size w w'
theorem esc_end {s b : ByteArray} {a n : Nat} {t : Int} {l : List UInt8} {w w' : World} (he : escL (s.data.toList.drop a) = (l, n)) (hl : b.data.toList = l) (ht : t = ((a + n : Nat) : Int)) (hb : Below w.heap.size w w') :
    EscEnd s a w (.returned (.tuple #[.string b, .int .i64 t])) w' := by
  subst ht
  refine ⟨?_, hb⟩
  unfold escB escP
  rw [he]
  simp only
  congr
  rw [← hl]

theorem conv_one (w : World) (x : Int) (b : UInt8) (hx : (b.toNat : Int) = x) :
    (convert 39 9 (.slice (some ⟨w.heap.size, 0, none⟩) 1 1)).run Tryd.prog (w.alloc (.cells #[.int .u8 x] 5)) = .ok (.string ⟨#[b]⟩) (w.alloc (.cells #[.int .u8 x] 5)) := by
  subst hx
  exact run_string_of_own (base := 0) (l := [b]) (World.ownsRow_lit w #[.int .u8 (b.toNat : Int)] 1 (Nat.zero_le _) (by unfold maxLen; omega) rfl) rfl

section
variable (s : ByteArray) (a : Nat) (w : World) (hs : s.size ≤ 4000000000) (ha : a + 1 < s.size)
include hs ha

set_option maxRecDepth 100000 in
set_option maxHeartbeats 4000000 in
theorem escR_n (hc : s[a + 1] = 110) : Calls Tryd.prog 63 #[.string s, .int .i64 (a : Int)] w (EscEnd s (a + 1) w) := by
  have p1 : (0 : Int) ≤ (a : Int) + 1 := by omega
  have p2 : (a : Int) + 1 < (s.size : Int) := by omega
  have e0 : (⟨#[110, 114, 116, 98, 102]⟩ : ByteArray)[0].toNat = 110 := rfl
  have e1 : (⟨#[110, 114, 116, 98, 102]⟩ : ByteArray)[1].toNat = 114 := rfl
  have e2 : (⟨#[110, 114, 116, 98, 102]⟩ : ByteArray)[2].toNat = 116 := rfl
  have e3 : (⟨#[110, 114, 116, 98, 102]⟩ : ByteArray)[3].toNat = 98 := rfl
  have e4 : (⟨#[110, 114, 116, 98, 102]⟩ : ByteArray)[4].toNat = 102 := rfl
  have b110 : ((s[a + 1].toNat : Int) == 110) = true := by rw [hc]; rfl
  have E : Hid (escL (s.data.toList.drop (a + 1)) = ([10], 1)) := Lib.hid (by rw [drop_cons s (a + 1) ha, hc, escL]; rfl)
  clear hc
  go_enter Tryd.func63, Tryd.ntmps63
  go_wp2_with fail
  go_loop [9] (fun i => ∃ n : Int, (n = 0) ∧ i = .int .i64 n) (fun i => 5 - (intOf i).toNat)
  case atStart => exact ⟨0, by simp, rfl⟩
  case round =>
    obtain ⟨n, hn, rfl⟩ := hrel
    rcases hn with rfl
    · go_wp2_with fail
      go_ret2
      exact esc_end E.out rfl (by go_num) (Below.refl _ _)

set_option maxRecDepth 100000 in
set_option maxHeartbeats 4000000 in
theorem escR_r (hc : s[a + 1] = 114) : Calls Tryd.prog 63 #[.string s, .int .i64 (a : Int)] w (EscEnd s (a + 1) w) := by
  have p1 : (0 : Int) ≤ (a : Int) + 1 := by omega
  have p2 : (a : Int) + 1 < (s.size : Int) := by omega
  have e0 : (⟨#[110, 114, 116, 98, 102]⟩ : ByteArray)[0].toNat = 110 := rfl
  have e1 : (⟨#[110, 114, 116, 98, 102]⟩ : ByteArray)[1].toNat = 114 := rfl
  have e2 : (⟨#[110, 114, 116, 98, 102]⟩ : ByteArray)[2].toNat = 116 := rfl
  have e3 : (⟨#[110, 114, 116, 98, 102]⟩ : ByteArray)[3].toNat = 98 := rfl
  have e4 : (⟨#[110, 114, 116, 98, 102]⟩ : ByteArray)[4].toNat = 102 := rfl
  have b110 : ((s[a + 1].toNat : Int) == 110) = false := by rw [hc]; rfl
  have b114 : ((s[a + 1].toNat : Int) == 114) = true := by rw [hc]; rfl
  have E : Hid (escL (s.data.toList.drop (a + 1)) = ([13], 1)) := Lib.hid (by rw [drop_cons s (a + 1) ha, hc, escL]; rfl)
  clear hc
  go_enter Tryd.func63, Tryd.ntmps63
  go_wp2_with fail
  go_loop [9] (fun i => ∃ n : Int, (n = 0 ∨ n = 1) ∧ i = .int .i64 n) (fun i => 5 - (intOf i).toNat)
  case atStart => exact ⟨0, by simp, rfl⟩
  case round =>
    obtain ⟨n, hn, rfl⟩ := hrel
    rcases hn with rfl | rfl
    · go_wp2_with fail
      go_round
      case rel => exact ⟨1, by simp, rfl⟩
      case measure => simp [intOf]
    · go_wp2_with fail
      go_ret2
      exact esc_end E.out rfl (by go_num) (Below.refl _ _)

set_option maxRecDepth 100000 in
set_option maxHeartbeats 4000000 in
theorem escR_t (hc : s[a + 1] = 116) : Calls Tryd.prog 63 #[.string s, .int .i64 (a : Int)] w (EscEnd s (a + 1) w) := by
  have p1 : (0 : Int) ≤ (a : Int) + 1 := by omega
  have p2 : (a : Int) + 1 < (s.size : Int) := by omega
  have e0 : (⟨#[110, 114, 116, 98, 102]⟩ : ByteArray)[0].toNat = 110 := rfl
  have e1 : (⟨#[110, 114, 116, 98, 102]⟩ : ByteArray)[1].toNat = 114 := rfl
  have e2 : (⟨#[110, 114, 116, 98, 102]⟩ : ByteArray)[2].toNat = 116 := rfl
  have e3 : (⟨#[110, 114, 116, 98, 102]⟩ : ByteArray)[3].toNat = 98 := rfl
  have e4 : (⟨#[110, 114, 116, 98, 102]⟩ : ByteArray)[4].toNat = 102 := rfl
  have b110 : ((s[a + 1].toNat : Int) == 110) = false := by rw [hc]; rfl
  have b114 : ((s[a + 1].toNat : Int) == 114) = false := by rw [hc]; rfl
  have b116 : ((s[a + 1].toNat : Int) == 116) = true := by rw [hc]; rfl
  have E : Hid (escL (s.data.toList.drop (a + 1)) = ([9], 1)) := Lib.hid (by rw [drop_cons s (a + 1) ha, hc, escL]; rfl)
  clear hc
  go_enter Tryd.func63, Tryd.ntmps63
  go_wp2_with fail
  go_loop [9] (fun i => ∃ n : Int, (n = 0 ∨ n = 1 ∨ n = 2) ∧ i = .int .i64 n) (fun i => 5 - (intOf i).toNat)
  case atStart => exact ⟨0, by simp, rfl⟩
  case round =>
    obtain ⟨n, hn, rfl⟩ := hrel
    rcases hn with rfl | rfl | rfl
    · go_wp2_with fail
      go_round
      case rel => exact ⟨1, by simp, rfl⟩
      case measure => simp [intOf]
    · go_wp2_with fail
      go_round
      case rel => exact ⟨2, by simp, rfl⟩
      case measure => simp [intOf]
    · go_wp2_with fail
      go_ret2
      exact esc_end E.out rfl (by go_num) (Below.refl _ _)

set_option maxRecDepth 100000 in
set_option maxHeartbeats 4000000 in
theorem escR_b (hc : s[a + 1] = 98) : Calls Tryd.prog 63 #[.string s, .int .i64 (a : Int)] w (EscEnd s (a + 1) w) := by
  have p1 : (0 : Int) ≤ (a : Int) + 1 := by omega
  have p2 : (a : Int) + 1 < (s.size : Int) := by omega
  have e0 : (⟨#[110, 114, 116, 98, 102]⟩ : ByteArray)[0].toNat = 110 := rfl
  have e1 : (⟨#[110, 114, 116, 98, 102]⟩ : ByteArray)[1].toNat = 114 := rfl
  have e2 : (⟨#[110, 114, 116, 98, 102]⟩ : ByteArray)[2].toNat = 116 := rfl
  have e3 : (⟨#[110, 114, 116, 98, 102]⟩ : ByteArray)[3].toNat = 98 := rfl
  have e4 : (⟨#[110, 114, 116, 98, 102]⟩ : ByteArray)[4].toNat = 102 := rfl
  have b110 : ((s[a + 1].toNat : Int) == 110) = false := by rw [hc]; rfl
  have b114 : ((s[a + 1].toNat : Int) == 114) = false := by rw [hc]; rfl
  have b116 : ((s[a + 1].toNat : Int) == 116) = false := by rw [hc]; rfl
  have b98 : ((s[a + 1].toNat : Int) == 98) = true := by rw [hc]; rfl
  have E : Hid (escL (s.data.toList.drop (a + 1)) = ([8], 1)) := Lib.hid (by rw [drop_cons s (a + 1) ha, hc, escL]; rfl)
  clear hc
  go_enter Tryd.func63, Tryd.ntmps63
  go_wp2_with fail
  go_loop [9] (fun i => ∃ n : Int, (n = 0 ∨ n = 1 ∨ n = 2 ∨ n = 3) ∧ i = .int .i64 n) (fun i => 5 - (intOf i).toNat)
  case atStart => exact ⟨0, by simp, rfl⟩
  case round =>
    obtain ⟨n, hn, rfl⟩ := hrel
    rcases hn with rfl | rfl | rfl | rfl
    · go_wp2_with fail
      go_round
      case rel => exact ⟨1, by simp, rfl⟩
      case measure => simp [intOf]
    · go_wp2_with fail
      go_round
      case rel => exact ⟨2, by simp, rfl⟩
      case measure => simp [intOf]
    · go_wp2_with fail
      go_round
      case rel => exact ⟨3, by simp, rfl⟩
      case measure => simp [intOf]
    · go_wp2_with fail
      go_ret2
      exact esc_end E.out rfl (by go_num) (Below.refl _ _)

set_option maxRecDepth 100000 in
set_option maxHeartbeats 4000000 in
theorem escR_f (hc : s[a + 1] = 102) : Calls Tryd.prog 63 #[.string s, .int .i64 (a : Int)] w (EscEnd s (a + 1) w) := by
  have p1 : (0 : Int) ≤ (a : Int) + 1 := by omega
  have p2 : (a : Int) + 1 < (s.size : Int) := by omega
  have e0 : (⟨#[110, 114, 116, 98, 102]⟩ : ByteArray)[0].toNat = 110 := rfl
  have e1 : (⟨#[110, 114, 116, 98, 102]⟩ : ByteArray)[1].toNat = 114 := rfl
  have e2 : (⟨#[110, 114, 116, 98, 102]⟩ : ByteArray)[2].toNat = 116 := rfl
  have e3 : (⟨#[110, 114, 116, 98, 102]⟩ : ByteArray)[3].toNat = 98 := rfl
  have e4 : (⟨#[110, 114, 116, 98, 102]⟩ : ByteArray)[4].toNat = 102 := rfl
  have b110 : ((s[a + 1].toNat : Int) == 110) = false := by rw [hc]; rfl
  have b114 : ((s[a + 1].toNat : Int) == 114) = false := by rw [hc]; rfl
  have b116 : ((s[a + 1].toNat : Int) == 116) = false := by rw [hc]; rfl
  have b98 : ((s[a + 1].toNat : Int) == 98) = false := by rw [hc]; rfl
  have b102 : ((s[a + 1].toNat : Int) == 102) = true := by rw [hc]; rfl
  have E : Hid (escL (s.data.toList.drop (a + 1)) = ([12], 1)) := Lib.hid (by rw [drop_cons s (a + 1) ha, hc, escL]; rfl)
  clear hc
  go_enter Tryd.func63, Tryd.ntmps63
  go_wp2_with fail
  go_loop [9] (fun i => ∃ n : Int, (n = 0 ∨ n = 1 ∨ n = 2 ∨ n = 3 ∨ n = 4) ∧ i = .int .i64 n) (fun i => 5 - (intOf i).toNat)
  case atStart => exact ⟨0, by simp, rfl⟩
  case round =>
    obtain ⟨n, hn, rfl⟩ := hrel
    rcases hn with rfl | rfl | rfl | rfl | rfl
    · go_wp2_with fail
      go_round
      case rel => exact ⟨1, by simp, rfl⟩
      case measure => simp [intOf]
    · go_wp2_with fail
      go_round
      case rel => exact ⟨2, by simp, rfl⟩
      case measure => simp [intOf]
    · go_wp2_with fail
      go_round
      case rel => exact ⟨3, by simp, rfl⟩
      case measure => simp [intOf]
    · go_wp2_with fail
      go_round
      case rel => exact ⟨4, by simp, rfl⟩
      case measure => simp [intOf]
    · go_wp2_with fail
      go_ret2
      exact esc_end E.out rfl (by go_num) (Below.refl _ _)

set_option maxRecDepth 100000 in
set_option maxHeartbeats 8000000 in
theorem escR_crlf (hc : s[a + 1] = 13) (h2 : a + 2 < s.size) (hd : s[a + 2] = 10) : Calls Tryd.prog 63 #[.string s, .int .i64 (a : Int)] w (EscEnd s (a + 1) w) := by
  have p1 : (0 : Int) ≤ (a : Int) + 1 := by omega
  have p2 : (a : Int) + 1 < (s.size : Int) := by omega
  have e0 : (⟨#[110, 114, 116, 98, 102]⟩ : ByteArray)[0].toNat = 110 := rfl
  have e1 : (⟨#[110, 114, 116, 98, 102]⟩ : ByteArray)[1].toNat = 114 := rfl
  have e2 : (⟨#[110, 114, 116, 98, 102]⟩ : ByteArray)[2].toNat = 116 := rfl
  have e3 : (⟨#[110, 114, 116, 98, 102]⟩ : ByteArray)[3].toNat = 98 := rfl
  have e4 : (⟨#[110, 114, 116, 98, 102]⟩ : ByteArray)[4].toNat = 102 := rfl
  have b110 : ((s[a + 1].toNat : Int) == 110) = false := by rw [hc]; rfl
  have b114 : ((s[a + 1].toNat : Int) == 114) = false := by rw [hc]; rfl
  have b116 : ((s[a + 1].toNat : Int) == 116) = false := by rw [hc]; rfl
  have b98 : ((s[a + 1].toNat : Int) == 98) = false := by rw [hc]; rfl
  have b102 : ((s[a + 1].toNat : Int) == 102) = false := by rw [hc]; rfl
  have b13 : ((s[a + 1].toNat : Int) == 13) = true := by rw [hc]; rfl
  have q1 : (0 : Int) ≤ (a : Int) + 2 := by omega
  have q2 : (a : Int) + 2 < (s.size : Int) := by omega
  have b10 : ((s[a + 2].toNat : Int) == 10) = true := by rw [hd]; rfl
  have E : Hid (escL (s.data.toList.drop (a + 1)) = ([], 2)) := Lib.hid (by rw [drop_cons s (a + 1) ha, drop_cons s (a + 1 + 1) h2, hc, hd, escL]; rfl)
  clear hc hd
  go_enter Tryd.func63, Tryd.ntmps63
  go_wp2_with fail
  go_loop [9] (fun i => ∃ n : Int, (n = 0 ∨ n = 1 ∨ n = 2 ∨ n = 3 ∨ n = 4 ∨ n = 5) ∧ i = .int .i64 n) (fun i => 5 - (intOf i).toNat)
  case atStart => exact ⟨0, by simp, rfl⟩
  case round =>
    obtain ⟨n, hn, rfl⟩ := hrel
    rcases hn with rfl | rfl | rfl | rfl | rfl | rfl
    · go_wp2_with fail
      go_round
      case rel => exact ⟨1, by simp, rfl⟩
      case measure => simp [intOf]
    · go_wp2_with fail
      go_round
      case rel => exact ⟨2, by simp, rfl⟩
      case measure => simp [intOf]
    · go_wp2_with fail
      go_round
      case rel => exact ⟨3, by simp, rfl⟩
      case measure => simp [intOf]
    · go_wp2_with fail
      go_round
      case rel => exact ⟨4, by simp, rfl⟩
      case measure => simp [intOf]
    · go_wp2_with fail
      go_round
      case rel => exact ⟨5, by simp, rfl⟩
      case measure => simp [intOf]
    · go_wp2_with fail
      go_ret2
      exact esc_end E.out rfl (by go_num) (Below.refl _ _)

set_option maxRecDepth 100000 in
set_option maxHeartbeats 8000000 in
theorem escR_cr (hc : s[a + 1] = 13) (h2 : a + 2 < s.size) (hd : s[a + 2] ≠ 10) : Calls Tryd.prog 63 #[.string s, .int .i64 (a : Int)] w (EscEnd s (a + 1) w) := by
  have p1 : (0 : Int) ≤ (a : Int) + 1 := by omega
  have p2 : (a : Int) + 1 < (s.size : Int) := by omega
  have e0 : (⟨#[110, 114, 116, 98, 102]⟩ : ByteArray)[0].toNat = 110 := rfl
  have e1 : (⟨#[110, 114, 116, 98, 102]⟩ : ByteArray)[1].toNat = 114 := rfl
  have e2 : (⟨#[110, 114, 116, 98, 102]⟩ : ByteArray)[2].toNat = 116 := rfl
  have e3 : (⟨#[110, 114, 116, 98, 102]⟩ : ByteArray)[3].toNat = 98 := rfl
  have e4 : (⟨#[110, 114, 116, 98, 102]⟩ : ByteArray)[4].toNat = 102 := rfl
  have b110 : ((s[a + 1].toNat : Int) == 110) = false := by rw [hc]; rfl
  have b114 : ((s[a + 1].toNat : Int) == 114) = false := by rw [hc]; rfl
  have b116 : ((s[a + 1].toNat : Int) == 116) = false := by rw [hc]; rfl
  have b98 : ((s[a + 1].toNat : Int) == 98) = false := by rw [hc]; rfl
  have b102 : ((s[a + 1].toNat : Int) == 102) = false := by rw [hc]; rfl
  have b13 : ((s[a + 1].toNat : Int) == 13) = true := by rw [hc]; rfl
  have q1 : (0 : Int) ≤ (a : Int) + 2 := by omega
  have q2 : (a : Int) + 2 < (s.size : Int) := by omega
  have b10 : ((s[a + 2].toNat : Int) == 10) = false := byte_isnt (n := 10) (by decide) hd
  have E : Hid (escL (s.data.toList.drop (a + 1)) = ([], 1)) := Lib.hid (by
    rw [drop_cons s (a + 1) ha, drop_cons s (a + 1 + 1) h2, hc, escL]
    have : lineN (13 :: s[a + 1 + 1] :: s.data.toList.drop (a + 1 + 1 + 1)) = 1 := by unfold lineN; rw [if_neg (fun h => hd h.2)]; rfl
    rw [this]; rfl)
  clear hc hd
  go_enter Tryd.func63, Tryd.ntmps63
  go_wp2_with fail
  go_loop [9] (fun i => ∃ n : Int, (n = 0 ∨ n = 1 ∨ n = 2 ∨ n = 3 ∨ n = 4 ∨ n = 5) ∧ i = .int .i64 n) (fun i => 5 - (intOf i).toNat)
  case atStart => exact ⟨0, by simp, rfl⟩
  case round =>
    obtain ⟨n, hn, rfl⟩ := hrel
    rcases hn with rfl | rfl | rfl | rfl | rfl | rfl
    · go_wp2_with fail
      go_round
      case rel => exact ⟨1, by simp, rfl⟩
      case measure => simp [intOf]
    · go_wp2_with fail
      go_round
      case rel => exact ⟨2, by simp, rfl⟩
      case measure => simp [intOf]
    · go_wp2_with fail
      go_round
      case rel => exact ⟨3, by simp, rfl⟩
      case measure => simp [intOf]
    · go_wp2_with fail
      go_round
      case rel => exact ⟨4, by simp, rfl⟩
      case measure => simp [intOf]
    · go_wp2_with fail
      go_round
      case rel => exact ⟨5, by simp, rfl⟩
      case measure => simp [intOf]
    · go_wp2_with fail
      go_ret2
      exact esc_end E.out rfl (by go_num) (Below.refl _ _)

set_option maxRecDepth 100000 in
set_option maxHeartbeats 8000000 in
theorem escR_crend (hc : s[a + 1] = 13) (h2 : ¬ a + 2 < s.size) : Calls Tryd.prog 63 #[.string s, .int .i64 (a : Int)] w (EscEnd s (a + 1) w) := by
  have p1 : (0 : Int) ≤ (a : Int) + 1 := by omega
  have p2 : (a : Int) + 1 < (s.size : Int) := by omega
  have e0 : (⟨#[110, 114, 116, 98, 102]⟩ : ByteArray)[0].toNat = 110 := rfl
  have e1 : (⟨#[110, 114, 116, 98, 102]⟩ : ByteArray)[1].toNat = 114 := rfl
  have e2 : (⟨#[110, 114, 116, 98, 102]⟩ : ByteArray)[2].toNat = 116 := rfl
  have e3 : (⟨#[110, 114, 116, 98, 102]⟩ : ByteArray)[3].toNat = 98 := rfl
  have e4 : (⟨#[110, 114, 116, 98, 102]⟩ : ByteArray)[4].toNat = 102 := rfl
  have b110 : ((s[a + 1].toNat : Int) == 110) = false := by rw [hc]; rfl
  have b114 : ((s[a + 1].toNat : Int) == 114) = false := by rw [hc]; rfl
  have b116 : ((s[a + 1].toNat : Int) == 116) = false := by rw [hc]; rfl
  have b98 : ((s[a + 1].toNat : Int) == 98) = false := by rw [hc]; rfl
  have b102 : ((s[a + 1].toNat : Int) == 102) = false := by rw [hc]; rfl
  have b13 : ((s[a + 1].toNat : Int) == 13) = true := by rw [hc]; rfl
  have q2 : ¬ (a : Int) + 2 < (s.size : Int) := by omega
  have E : Hid (escL (s.data.toList.drop (a + 1)) = ([], 1)) := Lib.hid (by
    rw [drop_cons s (a + 1) ha, List.drop_eq_nil_of_le (by simp; omega), hc, escL]; rfl)
  clear hc
  go_enter Tryd.func63, Tryd.ntmps63
  go_wp2_with fail
  go_loop [9] (fun i => ∃ n : Int, (n = 0 ∨ n = 1 ∨ n = 2 ∨ n = 3 ∨ n = 4 ∨ n = 5) ∧ i = .int .i64 n) (fun i => 5 - (intOf i).toNat)
  case atStart => exact ⟨0, by simp, rfl⟩
  case round =>
    obtain ⟨n, hn, rfl⟩ := hrel
    rcases hn with rfl | rfl | rfl | rfl | rfl | rfl
    · go_wp2_with fail
      go_round
      case rel => exact ⟨1, by simp, rfl⟩
      case measure => simp [intOf]
    · go_wp2_with fail
      go_round
      case rel => exact ⟨2, by simp, rfl⟩
      case measure => simp [intOf]
    · go_wp2_with fail
      go_round
      case rel => exact ⟨3, by simp, rfl⟩
      case measure => simp [intOf]
    · go_wp2_with fail
      go_round
      case rel => exact ⟨4, by simp, rfl⟩
      case measure => simp [intOf]
    · go_wp2_with fail
      go_round
      case rel => exact ⟨5, by simp, rfl⟩
      case measure => simp [intOf]
    · go_wp2_with fail
      go_ret2
      exact esc_end E.out rfl (by go_num) (Below.refl _ _)

set_option maxRecDepth 100000 in
set_option maxHeartbeats 8000000 in
theorem escR_lf (hc : s[a + 1] = 10) : Calls Tryd.prog 63 #[.string s, .int .i64 (a : Int)] w (EscEnd s (a + 1) w) := by
  have p1 : (0 : Int) ≤ (a : Int) + 1 := by omega
  have p2 : (a : Int) + 1 < (s.size : Int) := by omega
  have e0 : (⟨#[110, 114, 116, 98, 102]⟩ : ByteArray)[0].toNat = 110 := rfl
  have e1 : (⟨#[110, 114, 116, 98, 102]⟩ : ByteArray)[1].toNat = 114 := rfl
  have e2 : (⟨#[110, 114, 116, 98, 102]⟩ : ByteArray)[2].toNat = 116 := rfl
  have e3 : (⟨#[110, 114, 116, 98, 102]⟩ : ByteArray)[3].toNat = 98 := rfl
  have e4 : (⟨#[110, 114, 116, 98, 102]⟩ : ByteArray)[4].toNat = 102 := rfl
  have b110 : ((s[a + 1].toNat : Int) == 110) = false := by rw [hc]; rfl
  have b114 : ((s[a + 1].toNat : Int) == 114) = false := by rw [hc]; rfl
  have b116 : ((s[a + 1].toNat : Int) == 116) = false := by rw [hc]; rfl
  have b98 : ((s[a + 1].toNat : Int) == 98) = false := by rw [hc]; rfl
  have b102 : ((s[a + 1].toNat : Int) == 102) = false := by rw [hc]; rfl
  have b13 : ((s[a + 1].toNat : Int) == 13) = false := by rw [hc]; rfl
  have b10 : ((s[a + 1].toNat : Int) == 10) = true := by rw [hc]; rfl
  have E : Hid (escL (s.data.toList.drop (a + 1)) = ([], 1)) := Lib.hid (by
    rw [drop_cons s (a + 1) ha, hc, escL]
    have : ∀ t, lineN (10 :: t) = 1 := fun t => by cases t <;> rfl
    rw [this]; rfl)
  clear hc
  go_enter Tryd.func63, Tryd.ntmps63
  go_wp2_with fail
  go_loop [9] (fun i => ∃ n : Int, (n = 0 ∨ n = 1 ∨ n = 2 ∨ n = 3 ∨ n = 4 ∨ n = 5) ∧ i = .int .i64 n) (fun i => 5 - (intOf i).toNat)
  case atStart => exact ⟨0, by simp, rfl⟩
  case round =>
    obtain ⟨n, hn, rfl⟩ := hrel
    rcases hn with rfl | rfl | rfl | rfl | rfl | rfl
    · go_wp2_with fail
      go_round
      case rel => exact ⟨1, by simp, rfl⟩
      case measure => simp [intOf]
    · go_wp2_with fail
      go_round
      case rel => exact ⟨2, by simp, rfl⟩
      case measure => simp [intOf]
    · go_wp2_with fail
      go_round
      case rel => exact ⟨3, by simp, rfl⟩
      case measure => simp [intOf]
    · go_wp2_with fail
      go_round
      case rel => exact ⟨4, by simp, rfl⟩
      case measure => simp [intOf]
    · go_wp2_with fail
      go_round
      case rel => exact ⟨5, by simp, rfl⟩
      case measure => simp [intOf]
    · go_wp2_with fail
      go_ret2
      exact esc_end E.out rfl (by go_num) (Below.refl _ _)

set_option maxRecDepth 100000 in
set_option maxHeartbeats 8000000 in
theorem escR_plain (hc : octD s[a + 1] = false) (hnl : s[a + 1] ≠ 110 ∧ s[a + 1] ≠ 114 ∧ s[a + 1] ≠ 116 ∧ s[a + 1] ≠ 98 ∧ s[a + 1] ≠ 102) (h13 : s[a + 1] ≠ 13) (h10 : s[a + 1] ≠ 10) : Calls Tryd.prog 63 #[.string s, .int .i64 (a : Int)] w (EscEnd s (a + 1) w) := by
  have p1 : (0 : Int) ≤ (a : Int) + 1 := by omega
  have p2 : (a : Int) + 1 < (s.size : Int) := by omega
  have e0 : (⟨#[110, 114, 116, 98, 102]⟩ : ByteArray)[0].toNat = 110 := rfl
  have e1 : (⟨#[110, 114, 116, 98, 102]⟩ : ByteArray)[1].toNat = 114 := rfl
  have e2 : (⟨#[110, 114, 116, 98, 102]⟩ : ByteArray)[2].toNat = 116 := rfl
  have e3 : (⟨#[110, 114, 116, 98, 102]⟩ : ByteArray)[3].toNat = 98 := rfl
  have e4 : (⟨#[110, 114, 116, 98, 102]⟩ : ByteArray)[4].toNat = 102 := rfl
  have b110 : ((s[a + 1].toNat : Int) == 110) = false := byte_isnt (n := 110) (by decide) (by simp_all)
  have b114 : ((s[a + 1].toNat : Int) == 114) = false := byte_isnt (n := 114) (by decide) (by simp_all)
  have b116 : ((s[a + 1].toNat : Int) == 116) = false := byte_isnt (n := 116) (by decide) (by simp_all)
  have b98 : ((s[a + 1].toNat : Int) == 98) = false := byte_isnt (n := 98) (by decide) (by simp_all)
  have b102 : ((s[a + 1].toNat : Int) == 102) = false := byte_isnt (n := 102) (by decide) (by simp_all)
  have b13 : ((s[a + 1].toNat : Int) == 13) = false := byte_isnt (n := 13) (by decide) h13
  have b10 : ((s[a + 1].toNat : Int) == 10) = false := byte_isnt (n := 10) (by decide) h10
  have E : Hid (escL (s.data.toList.drop (a + 1)) = ([s[a + 1]], 1)) := Lib.hid (by
    rw [drop_cons s (a + 1) ha, escL, if_neg hnl.1, if_neg hnl.2.1, if_neg hnl.2.2.1, if_neg hnl.2.2.2.1, if_neg hnl.2.2.2.2, if_neg h13, if_neg h10, if_neg (by rw [hc]; decide)])
  have hcc : (s[a + 1].toNat : Int) < 48 ∨ (48 ≤ (s[a + 1].toNat : Int) ∧ 55 < (s[a + 1].toNat : Int)) := by unfold octD at hc; simp at hc; omega
  have X : Hid ((s.extract (a + 1) (a + 2)).data.toList = [s[a + 1]]) := Lib.hid (by
    rw [ByteArray.data_extract, Array.toList_extract, List.extract_eq_take_drop, drop_cons s (a + 1) ha, show a + 2 - (a + 1) = 1 from by omega]; rfl)
  have q3 : (a : Int) + 2 ≤ (s.size : Int) := by omega
  have q4 : (a : Int) + 1 < (a : Int) + 4 := by omega
  clear hc hnl h13 h10
  rcases hcc with hcc | ⟨hcc, hcc2⟩
  all_goals
    go_enter Tryd.func63, Tryd.ntmps63
    go_wp2_with fail
    go_loop [9] (fun i => ∃ n : Int, (n = 0 ∨ n = 1 ∨ n = 2 ∨ n = 3 ∨ n = 4 ∨ n = 5) ∧ i = .int .i64 n) (fun i => 5 - (intOf i).toNat)
    case atStart => exact ⟨0, by simp, rfl⟩
    case round =>
      obtain ⟨n, hn, rfl⟩ := hrel
      rcases hn with rfl | rfl | rfl | rfl | rfl | rfl
      · go_wp2_with fail
        go_round
        case rel => exact ⟨1, by simp, rfl⟩
        case measure => simp [intOf]
      · go_wp2_with fail
        go_round
        case rel => exact ⟨2, by simp, rfl⟩
        case measure => simp [intOf]
      · go_wp2_with fail
        go_round
        case rel => exact ⟨3, by simp, rfl⟩
        case measure => simp [intOf]
      · go_wp2_with fail
        go_round
        case rel => exact ⟨4, by simp, rfl⟩
        case measure => simp [intOf]
      · go_wp2_with fail
        go_round
        case rel => exact ⟨5, by simp, rfl⟩
        case measure => simp [intOf]
      · go_wp2_with fail
        go_loop [10, 11] (fun m i => m = .int .i64 0 ∧ i = .int .i64 ((a : Int) + 1)) (fun _ _ => 0)
        case atStart => exact ⟨rfl, rfl⟩
        case round =>
          obtain ⟨rfl, rfl⟩ := hrel
          go_wp2_with fail
          go_ret2
          exact esc_end E.out X.out (by go_num) (Below.refl _ _)

set_option maxRecDepth 100000 in
set_option maxHeartbeats 8000000 in
theorem escR_oct (hc : octD s[a + 1] = true) (hnl : s[a + 1] ≠ 110 ∧ s[a + 1] ≠ 114 ∧ s[a + 1] ≠ 116 ∧ s[a + 1] ≠ 98 ∧ s[a + 1] ≠ 102) (h13 : s[a + 1] ≠ 13) (h10 : s[a + 1] ≠ 10) : Calls Tryd.prog 63 #[.string s, .int .i64 (a : Int)] w (EscEnd s (a + 1) w) := by
  have p1 : (0 : Int) ≤ (a : Int) + 1 := by omega
  have p2 : (a : Int) + 1 < (s.size : Int) := by omega
  have e0 : (⟨#[110, 114, 116, 98, 102]⟩ : ByteArray)[0].toNat = 110 := rfl
  have e1 : (⟨#[110, 114, 116, 98, 102]⟩ : ByteArray)[1].toNat = 114 := rfl
  have e2 : (⟨#[110, 114, 116, 98, 102]⟩ : ByteArray)[2].toNat = 116 := rfl
  have e3 : (⟨#[110, 114, 116, 98, 102]⟩ : ByteArray)[3].toNat = 98 := rfl
  have e4 : (⟨#[110, 114, 116, 98, 102]⟩ : ByteArray)[4].toNat = 102 := rfl
  have b110 : ((s[a + 1].toNat : Int) == 110) = false := byte_isnt (n := 110) (by decide) (by simp_all)
  have b114 : ((s[a + 1].toNat : Int) == 114) = false := byte_isnt (n := 114) (by decide) (by simp_all)
  have b116 : ((s[a + 1].toNat : Int) == 116) = false := byte_isnt (n := 116) (by decide) (by simp_all)
  have b98 : ((s[a + 1].toNat : Int) == 98) = false := byte_isnt (n := 98) (by decide) (by simp_all)
  have b102 : ((s[a + 1].toNat : Int) == 102) = false := byte_isnt (n := 102) (by decide) (by simp_all)
  have b13 : ((s[a + 1].toNat : Int) == 13) = false := byte_isnt (n := 13) (by decide) h13
  have b10 : ((s[a + 1].toNat : Int) == 10) = false := byte_isnt (n := 10) (by decide) h10
  obtain ⟨q, hq⟩ : ∃ q, octN 3 0 (s.data.toList.drop (a + 1)) = q := ⟨_, rfl⟩
  have E : Hid (escL (s.data.toList.drop (a + 1)) = ([UInt8.ofNat (q.1 % 256)], q.2)) := Lib.hid (by
    rw [← hq]
    rw [drop_cons s (a + 1) ha, escL, if_neg hnl.1, if_neg hnl.2.1, if_neg hnl.2.2.1, if_neg hnl.2.2.2.1, if_neg hnl.2.2.2.2, if_neg h13, if_neg h10, if_pos hc]
    )
  have HQ := Lib.hid hq
  have hcc : ¬ (s[a + 1].toNat : Int) < 48 ∧ ¬ 55 < (s[a + 1].toNat : Int) := by unfold octD at hc; simp at hc; omega
  have HCC := Lib.hid hcc
  have hz : 1 ≤ q.2 := by rw [← hq, drop_cons s (a + 1) ha, octN, if_pos hc]; simp
  have HZ := Lib.hid hz
  clear hc hnl h13 h10 hq hcc hz
  go_enter Tryd.func63, Tryd.ntmps63
  go_wp2_with fail
  go_loop [9] (fun i => ∃ n : Int, (n = 0 ∨ n = 1 ∨ n = 2 ∨ n = 3 ∨ n = 4 ∨ n = 5) ∧ i = .int .i64 n) (fun i => 5 - (intOf i).toNat)
  case atStart => exact ⟨0, by simp, rfl⟩
  case round =>
    obtain ⟨n, hn, rfl⟩ := hrel
    rcases hn with rfl | rfl | rfl | rfl | rfl | rfl
    · go_wp2_with fail
      go_round
      case rel => exact ⟨1, by simp, rfl⟩
      case measure => simp [intOf]
    · go_wp2_with fail
      go_round
      case rel => exact ⟨2, by simp, rfl⟩
      case measure => simp [intOf]
    · go_wp2_with fail
      go_round
      case rel => exact ⟨3, by simp, rfl⟩
      case measure => simp [intOf]
    · go_wp2_with fail
      go_round
      case rel => exact ⟨4, by simp, rfl⟩
      case measure => simp [intOf]
    · go_wp2_with fail
      go_round
      case rel => exact ⟨5, by simp, rfl⟩
      case measure => simp [intOf]
    · go_wp2_with fail
      go_loop [10, 11] (fun n i => ∃ j m p : Nat, j ≤ 3 ∧ a + 1 + j = p ∧ p ≤ s.size ∧ i = .int .i64 (p : Int) ∧ n = .int .i64 (m : Int) ∧ OctAt (s.data.toList.drop (a + 1)) j m ∧ (j = 0 → m = 0)) (fun _ i => s.size - (intOf i).toNat)
      case atStart => exact ⟨0, 0, a + 1, by omega, by omega, by omega, by go_num, rfl, OctAt.zero _, fun _ => rfl⟩
      case round =>
        obtain ⟨j, m, p, hj, hp, hk, rfl, rfl, hr, hz⟩ := hrel
        have HR := Lib.hid hr
        have HZ2 := Lib.hid hz
        have HP := Lib.hid hp
        have hm := hr.2.1
        have hap : a + 1 ≤ p := by omega
        clear hr hz hp
        have len : (s.data.toList.drop (a + 1)).length = s.size - (a + 1) := by rw [List.length_drop]; simp
        have HLen := Lib.hid len
        clear len
        have done : octN 3 0 (s.data.toList.drop (a + 1)) = (m, j) → q = (m, j) ∧ 1 ≤ j := fun h => by
          have e := HQ.out.symm.trans h
          have z := HZ.out
          rw [e] at z
          exact ⟨e, z⟩
        have DONE := Lib.hid done
        clear done
        have hconv := conv_one w ((m : Int) % 256) (UInt8.ofNat (m % 256)) (by simp)
        by_cases hlt : p < s.size
        · by_cases h3 : j = 3
          · have d := DONE.out (by subst h3; exact HR.out.full)
            have l3 : ¬ (p : Int) < (a : Int) + 4 := by have := HP.out; omega
            have g3 : (a : Int) + 1 < (p : Int) := by have := HP.out; omega
            have D := Lib.hid d
            clear h3 d
            go_wp2_with fail
            go_ret2
            exact esc_end (l := [UInt8.ofNat (m % 256)]) (n := j) (by rw [E.out, D.out.1]) rfl (by have := HP.out; omega) ((Below.refl _ _).alloc (Nat.le_refl _) _)
          · have hj3 : j < 3 := by omega
            have l3 : (p : Int) < (a : Int) + 4 := by have := HP.out; omega
            obtain ⟨d1, d2⟩ := lexDropAt s (a + 1) j (by have := HP.out; omega)
            have d3 : (s.data.toList.drop (a + 1))[j] = s[p] := d2.trans (by congr 1)
            by_cases h1 : (s[p].toNat : Int) < 48
            · have d := DONE.out (HR.out.stop d1 (by rw [d3]; unfold octD; simp; omega))
              have g3 : (a : Int) + 1 < (p : Int) := by have := HP.out; omega
              have D := Lib.hid d
              clear d2 d3 d
              go_wp2_with fail
              go_ret2
              exact esc_end (l := [UInt8.ofNat (m % 256)]) (n := j) (by rw [E.out, D.out.1]) rfl (by have := HP.out; omega) ((Below.refl _ _).alloc (Nat.le_refl _) _)
            · by_cases h2 : 55 < (s[p].toNat : Int)
              · have d := DONE.out (HR.out.stop d1 (by rw [d3]; unfold octD; simp; omega))
                have g3 : (a : Int) + 1 < (p : Int) := by have := HP.out; omega
                have D := Lib.hid d
                clear d2 d3 d
                go_wp2_with fail
                go_ret2
                exact esc_end (l := [UInt8.ofNat (m % 256)]) (n := j) (by rw [E.out, D.out.1]) rfl (by have := HP.out; omega) ((Below.refl _ _).alloc (Nat.le_refl _) _)
              · have N := HR.out.more HZ2.out hj3 d1 (by rw [d3]; unfold octD; simp; omega)
                rw [d3] at N
                have NN := Lib.hid N
                clear d2 d3 N
                go_wp2_with fail
                go_round
                case rel => exact ⟨j + 1, 8 * m + (s[p].toNat - 48), p + 1, by omega, by have := HP.out; omega, by omega, by go_num, by congr 1; omega, NN.out, fun h => by omega⟩
                case measure => simp [intOf]; omega
        · have d := DONE.out (HR.out.short (by rw [HLen.out]; have := HP.out; omega))
          have g3 : (a : Int) + 1 < (p : Int) := by have := HP.out; omega
          have D := Lib.hid d
          clear d
          go_wp2_with fail
          go_ret2
          exact esc_end (l := [UInt8.ofNat (m % 256)]) (n := j) (by rw [E.out, D.out.1]) rfl (by have := HP.out; omega) ((Below.refl _ _).alloc (Nat.le_refl _) _)
end

theorem escape_rany (s : ByteArray) (a : Nat) (w : World) (hs : s.size ≤ 4000000000) (ha : a + 1 < s.size) :
    Calls Tryd.prog 63 #[.string s, .int .i64 (a : Int)] w (EscEnd s (a + 1) w) := by
  by_cases h1 : s[a + 1] = 110
  · exact escR_n s a w hs ha h1
  by_cases h2 : s[a + 1] = 114
  · exact escR_r s a w hs ha h2
  by_cases h3 : s[a + 1] = 116
  · exact escR_t s a w hs ha h3
  by_cases h4 : s[a + 1] = 98
  · exact escR_b s a w hs ha h4
  by_cases h5 : s[a + 1] = 102
  · exact escR_f s a w hs ha h5
  by_cases h6 : s[a + 1] = 13
  · by_cases h : a + 2 < s.size
    · by_cases hd : s[a + 2] = 10
      · exact escR_crlf s a w hs ha h6 h hd
      · exact escR_cr s a w hs ha h6 h hd
    · exact escR_crend s a w hs ha h6 h
  by_cases h7 : s[a + 1] = 10
  · exact escR_lf s a w hs ha h7
  by_cases h8 : octD s[a + 1] = true
  · exact escR_oct s a w hs ha h8 ⟨h1, h2, h3, h4, h5⟩ h6 h7
  · exact escR_plain s a w hs ha (by simpa using h8) ⟨h1, h2, h3, h4, h5⟩ h6 h7
end Go.Proofs.YtbmiogoigjdceaaDoor
