/-
  Lemmas and walks, joined: LexH, LexJ, LexK, LexL, LexN, LexB, LexC, LexD, LexE.
-/
import Derived.Test.YtdpbpdikgcepbaaGreatDoorHz08
import Derived.Test.YtdpbpdikgcepbaaGreatDoorHz11
import Derived.Test.YtdpbpdikgcepbaaGreatDoorHz06
import Derived.Laws.IdiomStrings
import Derived.Lib.BufferRead
import Derived.Lib.ConvBytes
import Derived.Outline
namespace Go.Proofs.YtdpbpdikgcepbaaGreatDoor
open Go.RowKit Oct Fix Lex

/-! A token of what was read: where it begins, where it ends, its text. -/
def tA (a : Nat) (R : TR) : Int := if R.err = 0 then (a : Int) else 0
def tT (a : Nat) (R : TR) : Int := if R.err = 0 then ((a + R.len : Nat) : Int) else 0
def tS (R : TR) : ByteArray := ⟨R.txt.toArray⟩
theorem tok_ok {a n : Nat} {k a' t m : Int} {b : ByteArray} {R : TR} (hR : R = ⟨0, k, n, m, b.data.toList⟩) (ha : a' = (a : Int)) (ht : t = ((a + n : Nat) : Int)) :
    Ending.returned (.tuple #[.agg #[.int .i64 k, .int .i64 a', .int .i64 t, .int .i64 m, .string b], .int .i64 0]) = .returned (.tuple #[.agg #[.int .i64 R.kind, .int .i64 (tA a R), .int .i64 (tT a R), .int .i64 R.num, .string (tS R)], .int .i64 R.err]) := by
  subst hR ha ht
  rfl
theorem tok_bad {a : Nat} {c : Int} {R : TR} (hR : R = bad c) (hc : c ≠ 0) :
    Ending.returned (.tuple #[.agg #[.int .i64 0, .int .i64 0, .int .i64 0, .int .i64 0, .string ⟨#[]⟩], .int .i64 c]) = .returned (.tuple #[.agg #[.int .i64 R.kind, .int .i64 (tA a R), .int .i64 (tT a R), .int .i64 R.num, .string (tS R)], .int .i64 R.err]) := by
  subst hR
  unfold tA tT tS bad
  rw [if_neg hc, if_neg hc]

theorem below_tok (w : World) (cs : Array Value) (t : TypeId) : Below w.heap.size w (w.alloc (.cells cs t)) := (Below.refl _ _).alloc (Nat.le_refl _) _

set_option maxHeartbeats 1000000 in
theorem stringToken_ok (a t : Int) (b : ByteArray) (w : World) (h : b.size ≤ 32767) :
    Calls Tryz.prog 64 #[.int .i64 a, .int .i64 t, .string b] w fun e w' => e = .returned (.tuple #[.agg #[.int .i64 3, .int .i64 a, .int .i64 t, .int .i64 0, .string b], .int .i64 0]) ∧ Below w.heap.size w w' := by
  have h' : ¬ (32767 : Int) < (b.size : Int) := by omega
  go_enter Tryz.func64, Tryz.ntmps64
  go_wp2_with fail
  exact bodyPost_ret (v := .tuple #[.agg #[.int .i64 3, .int .i64 a, .int .i64 t, .int .i64 0, .string b], .int .i64 0]) (by simp [results, Tryz.results64, go_sem]) rfl ⟨rfl, below_tok _ _ _⟩
set_option maxHeartbeats 1000000 in
theorem stringToken_long (a t : Int) (b : ByteArray) (w : World) (h : 32767 < b.size) :
    Calls Tryz.prog 64 #[.int .i64 a, .int .i64 t, .string b] w fun e w' => e = .returned (.tuple #[.agg #[.int .i64 0, .int .i64 0, .int .i64 0, .int .i64 0, .string ⟨#[]⟩], .int .i64 5]) ∧ Below w.heap.size w w' := by
  have h' : (32767 : Int) < (b.size : Int) := by omega
  go_enter Tryz.func64, Tryz.ntmps64
  go_wp2_with fail
  exact bodyPost_ret (v := .tuple #[.agg #[.int .i64 0, .int .i64 0, .int .i64 0, .int .i64 0, .string ⟨#[]⟩], .int .i64 5]) (by simp [results, Tryz.results64, go_sem]) rfl ⟨rfl, below_tok _ _ _⟩
/-- What is read of a string's bytes. -/
def strR (n : Nat) (x : List UInt8) : TR := if 32767 < x.length then bad 5 else ⟨0, 3, n, 0, x⟩
theorem stringToken_any (a n : Nat) (t : Int) (b : ByteArray) (w : World) (ht : t = ((a + n : Nat) : Int)) :
    Calls Tryz.prog 64 #[.int .i64 (a : Int), .int .i64 t, .string b] w fun e w' => e = .returned (.tuple #[.agg #[.int .i64 (strR n b.data.toList).kind, .int .i64 (tA a (strR n b.data.toList)), .int .i64 (tT a (strR n b.data.toList)), .int .i64 (strR n b.data.toList).num, .string (tS (strR n b.data.toList))], .int .i64 (strR n b.data.toList).err]) ∧ Below w.heap.size w w' := by
  have hl : b.data.toList.length = b.size := by simp
  by_cases h : 32767 < b.size
  · refine (stringToken_long _ _ b w h).mono fun e w' ⟨h1, h2⟩ => ⟨h1.trans (tok_bad ?_ (by decide)), h2⟩
    unfold strR; rw [if_pos (by omega)]
  · refine (stringToken_ok _ _ b w (by omega)).mono fun e w' ⟨h1, h2⟩ => ⟨h1.trans (tok_ok (n := n) ?_ rfl ht), h2⟩
    unfold strR; rw [if_neg (by omega)]

set_option maxHeartbeats 1000000 in
theorem mark_any (s : ByteArray) (a b : Nat) (w : World) (h : a ≤ b) (h2 : b ≤ s.size) (_hs : s.size ≤ 4000000000) :
    Calls Tryz.prog 39 #[.string s, .int .i64 (a : Int), .int .i64 (b : Int)] w fun e w' => e = .returned (.tuple #[.agg #[.int .i64 6, .int .i64 (a : Int), .int .i64 (b : Int), .int .i64 0, .string (s.extract a b)], .int .i64 0]) ∧ Below w.heap.size w w' := by
  go_enter Tryz.func39, Tryz.ntmps39
  go_wp2_with fail
  exact bodyPost_ret (v := .tuple #[.agg #[.int .i64 6, .int .i64 (a : Int), .int .i64 (b : Int), .int .i64 0, .string (s.extract a b)], .int .i64 0]) (by simp [results, Tryz.results39, go_sem]) rfl ⟨rfl, below_tok _ _ _⟩

/-! ### A name's bytes -/
/-- k bytes of l are read, out is what they denote. -/
def DecAt (l : List UInt8) (k : Nat) (out : List UInt8) : Prop := decL l = (decL (l.drop k)).map (out ++ ·) ∧ out.length ≤ k
theorem DecAt.zero (l : List UInt8) : DecAt l 0 [] := by
  refine ⟨?_, Nat.le_refl _⟩
  rw [List.drop_zero]
  cases decL l <;> rfl
theorem DecAt.plain {l out : List UInt8} {k : Nat} (h : DecAt l k out) (hk : k < l.length) (hc : ¬ l[k] = 35) : DecAt l (k + 1) (out ++ [l[k]]) := by
  obtain ⟨h1, h2⟩ := h
  refine ⟨?_, by simp; omega⟩
  rw [h1, List.drop_eq_getElem_cons hk, decL_plain _ hc]
  cases decL (l.drop (k + 1)) <;> simp
theorem drop_three {l : List UInt8} {k : Nat} (hk : k + 2 < l.length) : l.drop k = l[k] :: l[k + 1] :: l[k + 2] :: l.drop (k + 3) := by
  rw [List.drop_eq_getElem_cons (by omega), List.drop_eq_getElem_cons (by omega), List.drop_eq_getElem_cons (by omega)]
def HashOk (a b : UInt8) : Prop := 0 ≤ digitS a ∧ 0 ≤ digitS b ∧ ¬ 16 * digitS a + digitS b = 0
theorem DecAt.hash {l out : List UInt8} {k : Nat} (h : DecAt l k out) (hk : k + 2 < l.length) (hc : l[k] = 35) (hh : HashOk l[k + 1] l[k + 2]) : DecAt l (k + 3) (out ++ [pairByte l[k + 1] l[k + 2]]) := by
  obtain ⟨h1, h2⟩ := h
  refine ⟨?_, by simp; omega⟩
  rw [h1, drop_three hk, hc, decL_hash _ hh]
  cases decL (l.drop (k + 3)) <;> simp
theorem DecAt.bad {l out : List UInt8} {k : Nat} (h : DecAt l k out) (hk : k + 2 < l.length) (hc : l[k] = 35) (hh : ¬ HashOk l[k + 1] l[k + 2]) : decL l = none := by
  rw [h.1, drop_three hk, hc, decL_bad _ hh]; rfl
theorem DecAt.short {l out : List UInt8} {k : Nat} (h : DecAt l k out) (hk : k < l.length) (hc : l[k] = 35) (hl : ¬ k + 2 < l.length) : decL l = none := by
  rw [h.1, List.drop_eq_getElem_cons hk, hc, decL_short _ (by rw [List.length_drop]; omega)]; rfl
theorem DecAt.done {l out : List UInt8} {k : Nat} (h : DecAt l k out) (hk : l.length ≤ k) : decL l = some out := by
  rw [h.1, List.drop_eq_nil_of_le hk, decL_nil]; simp
def decE (s : ByteArray) : Int := match decL s.data.toList with | none => 3 | some x => if 127 < x.length then 5 else 0
def decT (s : ByteArray) : ByteArray := match decL s.data.toList with | none => ⟨#[]⟩ | some x => if 127 < x.length then ⟨#[]⟩ else ⟨x.toArray⟩
theorem dec_none {s : ByteArray} (h : decL s.data.toList = none) : decT s = ⟨#[]⟩ ∧ decE s = 3 := by unfold decT decE; rw [h]; exact ⟨rfl, rfl⟩
theorem dec_long {s : ByteArray} {x : List UInt8} (h : decL s.data.toList = some x) (hl : 127 < x.length) : decT s = ⟨#[]⟩ ∧ decE s = 5 := by unfold decT decE; rw [h]; simp only [if_pos hl]; exact ⟨trivial, trivial⟩
theorem dec_some {s : ByteArray} {x : List UInt8} (h : decL s.data.toList = some x) (hl : ¬ 127 < x.length) : decT s = ⟨x.toArray⟩ ∧ decE s = 0 := by unfold decT decE; rw [h]; simp only [if_neg hl]; exact ⟨trivial, trivial⟩

/-- Two bytes as digits, as octet.Unhex answers. -/
theorem two_list (s : ByteArray) (k : Nat) (h : k + 2 < s.size) : (s.extract (k + 1) (k + 3)).data.toList = [s[k + 1], s[k + 2]] := by
  rw [ByteArray.data_extract, Array.toList_extract, List.extract_eq_take_drop]
  have h1 : k + 1 < s.data.toList.length := by simp; omega
  have h2 : k + 1 + 1 < s.data.toList.length := by simp; omega
  rw [List.drop_eq_getElem_cons h1, List.drop_eq_getElem_cons h2, show k + 3 - (k + 1) = 2 from by omega]
  rfl
theorem pair_zero {a b : UInt8} (h1 : 0 ≤ digitS a) (h2 : 0 ≤ digitS b) : (pairByte a b).toNat = (16 * digitS a + digitS b).toNat := by
  have := digit_le a
  have := digit_le b
  unfold pairByte
  rw [UInt8.toNat_ofNat']
  omega
end Go.Proofs.YtdpbpdikgcepbaaGreatDoor
namespace Go.Proofs.YtdpbpdikgcepbaaGreatDoor
open Go.RowKit Oct Fix Lex

theorem unhex_two {s : ByteArray} {a b : UInt8} (h : s.data.toList = [a, b]) :
    (digitS a < 0 ∨ digitS b < 0 → unhexT s = ⟨#[]⟩ ∧ unhexE s = 3) ∧ (0 ≤ digitS a → 0 ≤ digitS b → unhexT s = ⟨#[pairByte a b]⟩ ∧ unhexE s = 0) := by
  refine ⟨fun h1 => unhexE_none ?_, fun h1 h2 => ?_⟩
  · rw [h, unhexS, if_pos h1]
  · have := unhexE_some (s := s) (l := [pairByte a b]) (by rw [h, unhexS, if_neg (by omega), unhexS]; rfl)
    exact this

set_option maxHeartbeats 4000000 in
theorem decoded_any (s : ByteArray) (w : World) (hs : s.size ≤ 4000000000) :
    Calls Tryz.prog 66 #[.string s] w fun e w' => e = .returned (.tuple #[.string (decT s), .int .i64 (decE s)]) ∧ Below w.heap.size w w' := by
  obtain ⟨i5, hi, hz0, hz1, hz2⟩ := info_parts info5
  have hsl : s.data.toList.length = s.size := by simp
  have HSL := Lib.hid hsl
  clear hsl
  go_enter Tryz.func66, Tryz.ntmps66
  go_wp2_with fail
  go_loopw [4, 5] (fun v i wr => ∃ (k : Nat) (out : List UInt8) (A : Option Addr) (C : Nat), k ≤ s.size ∧ i = .int .i64 k ∧ v = .slice A out.length C ∧ DecAt s.data.toList k out ∧ wr.ownsRow w.heap.size 5 1 (.slice A out.length C) out.length (cellsOf out) ∧ Below w.heap.size w wr) (fun _ i _ => s.size - (intOf i).toNat)
  case atStart => exact ⟨0, [], none, 0, by omega, rfl, rfl, DecAt.zero _, World.ownsRow_nil _ _ _ _, Below.refl _ _⟩
  case round =>
    obtain ⟨k, out, A, C, hk, rfl, rfl, hd, hown, hb⟩ := hrel
    have hol := hd.2
    have HD := Lib.hid hd
    have HO := Lib.hid hown
    have HB := Lib.hid hb
    have hbs := hb.size
    clear hd hown hb
    by_cases hlt : k < s.size
    · by_cases hc : s[k] = 35
      · have b35 : ((s[k].toNat : Int) == 35) = true := by rw [hc]; rfl
        by_cases hl : k + 2 < s.size
        · have l1 : ¬ (s.size : Int) < (k : Int) + 3 := by omega
          have l2 : (0 : Int) ≤ (k : Int) + 1 := by omega
          have l3 : (k : Int) + 1 ≤ (k : Int) + 3 := by omega
          have l4 : (k : Int) + 3 ≤ (s.size : Int) := by omega
          have hu := unhex_two (two_list s k hl)
          have HC := Lib.hid hc
          have hes : (s.extract (k + 1) (k + 3)).size ≤ 4000000000 := by rw [ByteArray.size_extract]; omega
          by_cases hp : 0 ≤ digitS s[k + 1] ∧ 0 ≤ digitS s[k + 2]
          · obtain ⟨u1, u2⟩ := hu.2 hp.1 hp.2
            have hpz := pair_zero hp.1 hp.2
            obtain ⟨p, hpp⟩ : ∃ p, pairByte s[k + 1] s[k + 2] = p := ⟨_, rfl⟩
            rw [hpp] at u1 hpz
            by_cases hz : 16 * digitS s[k + 1] + digitS s[k + 2] = 0
            · have ep : p = 0 := by apply UInt8.toNat_inj.1; rw [hpz, hz]; rfl
              subst ep
              have U1 := Lib.hid u1
              have U2 := Lib.hid u2
              have E := Lib.hid (dec_none (s := s) (HD.out.bad (by rw [HSL.out]; exact hl) HC.out (fun h => h.2.2 hz)))
              clear u1 u2 hu hpp hpz hc hp hz
              go_wp2_with fail
              refine (unhex_c _ ⟨#[0]⟩ 0 _ hes U1.out U2.out).mono ?_
              rintro e w2 ⟨rfl, hb2⟩
              have HB2 := Lib.hid hb2
              clear hb2
              go_wp2_with fail
              go_ret2
              exact ⟨ret_two E.out.1.symm E.out.2.symm, HB.out.trans (HB2.out.mono hbs)⟩
            · have ep : p ≠ 0 := by
                intro e
                rw [e] at hpz
                have : (0 : UInt8).toNat = 0 := rfl
                omega
              have EP := Lib.hid ep
              clear ep
              obtain ⟨t, ht⟩ : ∃ t : ByteArray, (⟨#[p]⟩ : ByteArray) = t := ⟨_, rfl⟩
              rw [ht] at u1
              have ht0 : 0 < t.size := by subst ht; exact Nat.one_pos
              have htp : t[0] = p := by subst ht; rfl
              have bq : (t.toList == [0]) = false := by
                rw [Lib.toList_data, ← ht]
                show ([p] == [0]) = false
                rw [beq_eq_false_iff_ne]
                intro e
                injection e with e
                exact EP.out e
              have HTP := Lib.hid htp
              clear ht htp
              have U1 := Lib.hid u1
              have U2 := Lib.hid u2
              have N : Hid (DecAt s.data.toList (k + 3) (out ++ [t[0]])) := Lib.hid (by
                rw [HTP.out, ← hpp]
                exact HD.out.hash (by rw [HSL.out]; exact hl) HC.out ⟨hp.1, hp.2, hz⟩)
              clear u1 u2 hu hpp hpz hc hp hz
              go_wp2_with fail
              refine (unhex_c _ t 0 _ hes U1.out U2.out).mono ?_
              rintro e w2 ⟨rfl, hb2⟩
              have hbs2 := hb2.size
              have ho2 := HO.out.kept (w' := w2) (row := none) ⟨hb2.os, hb2.tape, hb2.output, hb2.size, fun i hi _ => hb2.block i hi⟩ (by cases A <;> simp [Value.ownBlock])
              have HB2 := Lib.hid hb2
              have HO2 := Lib.hid ho2
              clear hb2 ho2
              go_wp2_with (first | (at_builtin; refine wpList_append_own _ rfl _ _ 60 rfl w.heap.size 5 i5 (.int .u8 0) 1 1 Tryz.underlying60 hi hz0 hz1 hz2 rfl (by decide) _ _ _ rfl (HO2.out.alloc _) ⟨w2.heap.size, 0, none⟩ 1 1 [.int .u8 (t[0].toNat : Int)] rfl rfl (World.news_of_block (heap_alloc_new w2 _)) (by simp [Value.oneCell']) (by unfold maxLen; omega) (by omega) (by simp; omega) ?_))
              intro v3 w3 hown3 hgrow3
              intros
              obtain ⟨A3, C3, rfl⟩ := own_form hown3
              go_wp2
              go_roundw
              case rel => exact ⟨k + 3, out ++ [t[0]], A3, C3, by omega, by go_num, by simp, N.out, by rw [← cells_snoc, List.length_append]; exact hown3, ((HB.out.trans (HB2.out.mono hbs)).alloc (by omega) _).grown hgrow3 (by simp; omega) (fun g h => (HO2.out.lt g h).1)⟩
              case measure => simp [intOf]; omega
          · obtain ⟨u1, u2⟩ := hu.1 (by omega)
            have U1 := Lib.hid u1
            have U2 := Lib.hid u2
            have E := Lib.hid (dec_none (s := s) (HD.out.bad (by rw [HSL.out]; exact hl) HC.out (fun h => hp ⟨h.1, h.2.1⟩)))
            clear u1 u2 hu hc hp
            go_wp2_with fail
            refine (unhex_c _ ⟨#[]⟩ 3 _ hes U1.out U2.out).mono ?_
            rintro e w2 ⟨rfl, hb2⟩
            have HB2 := Lib.hid hb2
            clear hb2
            go_wp2_with fail
            go_ret2
            exact ⟨ret_two E.out.1.symm E.out.2.symm, HB.out.trans (HB2.out.mono hbs)⟩
        · have l1 : (s.size : Int) < (k : Int) + 3 := by omega
          have E := Lib.hid (dec_none (s := s) (HD.out.short (by rw [HSL.out]; exact hlt) hc (by rw [HSL.out]; exact hl)))
          clear hc
          go_wp2_with fail
          go_ret2
          exact ⟨ret_two E.out.1.symm E.out.2.symm, HB.out⟩
      · have b35 : ((s[k].toNat : Int) == 35) = false := byte_isnt (n := 35) (by decide) hc
        have N : Hid (DecAt s.data.toList (k + 1) (out ++ [s[k]])) := Lib.hid (HD.out.plain (by rw [HSL.out]; exact hlt) hc)
        clear hc
        go_wp2_with (first | (at_builtin; refine wpList_append_own _ rfl _ _ 60 rfl w.heap.size 5 i5 (.int .u8 0) 1 1 Tryz.underlying60 hi hz0 hz1 hz2 rfl (by decide) _ _ _ rfl (HO.out.alloc _) ⟨wr.heap.size, 0, none⟩ 1 1 [.int .u8 (s[k].toNat : Int)] rfl rfl (World.news_of_block (heap_alloc_new wr _)) (by simp [Value.oneCell']) (by unfold maxLen; omega) (by omega) (by simp; omega) ?_))
        intro v3 w3 hown3 hgrow3
        intros
        obtain ⟨A3, C3, rfl⟩ := own_form hown3
        go_wp2
        go_roundw
        case rel => exact ⟨k + 1, out ++ [s[k]], A3, C3, by omega, by go_num, by simp, N.out, by rw [← cells_snoc, List.length_append]; exact hown3, (HB.out.alloc (by omega) _).grown hgrow3 (by simp; omega) (fun g h => (HO.out.lt g h).1)⟩
        case measure => simp [intOf]; omega
    · have E := HD.out.done (by rw [HSL.out]; omega)
      by_cases hl : 127 < out.length
      · have l1 : (127 : Int) < (out.length : Int) := by omega
        have E2 := Lib.hid (dec_long (s := s) E hl)
        clear E
        go_wp2_with fail
        go_ret2
        exact ⟨ret_two E2.out.1.symm E2.out.2.symm, HB.out⟩
      · have l1 : ¬ (127 : Int) < (out.length : Int) := by omega
        have E2 := Lib.hid (dec_some (s := s) E hl)
        have hconv := run_string_of_own HO.out rfl
        clear E
        go_wp2_with fail
        go_ret2
        exact ⟨ret_two E2.out.1.symm E2.out.2.symm, HB.out⟩
end Go.Proofs.YtdpbpdikgcepbaaGreatDoor
namespace Go.Proofs.YtdpbpdikgcepbaaGreatDoor
open Go.RowKit Oct Fix Lex

/-- A block that was laid at w's end, behind a call that turned nothing below it. -/
theorem tok_cell {w w' : World} {cs : Array Value} {t : TypeId} (h : Below (w.heap.size + 1) (w.alloc (.cells cs t)) w') : Blk w' w.heap.size t cs :=
  (Blk.new w t cs).below h (by omega)
theorem tok_below {w w' : World} {cs : Array Value} {t : TypeId} (h : Below (w.heap.size + 1) (w.alloc (.cells cs t)) w') : Below w.heap.size w w' :=
  (below_tok w cs t).trans (h.mono (by omega))
theorem set_below {w w' : World} {B : Nat} (h : Below B w w') (i : Nat) (u : Value) {g : Nat} (hg : B ≤ g := by omega) : Below B w (w'.setCell ⟨g, i, none⟩ u) := h.setCell hg _

theorem name_dec (s : ByteArray) (a : Nat) : (s.extract (a + 1) (a + 1 + runN s (a + 1))).data.toList = runL (s.data.toList.drop (a + 1)) := by
  rw [ByteArray.data_extract, Array.toList_extract, List.extract_eq_take_drop, Nat.add_sub_cancel_left]
  exact run_take _
theorem nameR_some {t x : List UInt8} (h : decL (runL t) = some x) (hl : ¬ 127 < x.length) : nameR t = ⟨0, 4, 1 + (runL t).length, 0, x⟩ := by unfold nameR; rw [h]; simp only [if_neg hl]
theorem nameR_long {t x : List UInt8} (h : decL (runL t) = some x) (hl : 127 < x.length) : nameR t = bad 5 := by unfold nameR; rw [h]; simp only [if_pos hl]
theorem nameR_none {t : List UInt8} (h : decL (runL t) = none) : nameR t = bad 3 := by unfold nameR; rw [h]

set_option maxHeartbeats 2000000 in
theorem name_bad (s : ByteArray) (a : Nat) (c : Int) (w : World) (h : a < s.size) (hs : s.size ≤ 4000000000) (hc : c = 3 ∨ c = 5)
    (hT : decT (s.extract (a + 1) (a + 1 + runN s (a + 1))) = ⟨#[]⟩) (hE : decE (s.extract (a + 1) (a + 1 + runN s (a + 1))) = c) :
    Calls Tryz.prog 42 #[.string s, .int .i64 (a : Int)] w fun e w' => e = .returned (.tuple #[.agg #[.int .i64 0, .int .i64 0, .int .i64 0, .int .i64 0, .string ⟨#[]⟩], .int .i64 c]) ∧ Below w.heap.size w w' := by
  have hr := runN_le s (a + 1) (by omega)
  have hdec := fun W : World => decoded_any (s.extract (a + 1) (a + 1 + runN s (a + 1))) W (by rw [ByteArray.size_extract]; omega)
  rw [hT, hE] at hdec
  have hrun := fun W : World => run_any s (a + 1) W (by omega) hs
  obtain ⟨p, hp⟩ : ∃ p, a + 1 + runN s (a + 1) = p := ⟨_, rfl⟩
  rw [hp] at hdec hr
  simp only [hp] at hrun
  have HD := Lib.hid hdec
  have HR := Lib.hid hrun
  have hp1 : a + 1 ≤ p := by omega
  have hp2 : (a : Int) + 1 ≤ (p : Int) := by omega
  clear hdec hrun hp hT hE
  rcases hc with rfl | rfl
  all_goals
    go_enter Tryz.func42, Tryz.ntmps42
    go_wp2_with fail
    refine (HR.out _).mono ?_
    rintro e w' ⟨rfl, rfl⟩
    go_wp2_with fail
    refine (HD.out _).mono ?_
    rintro e w2 ⟨rfl, hb⟩
    simp at hb
    have hB := tok_cell hb
    have HB := Lib.hid (tok_below hb)
    have hg := HB.out.size
    have c0 := hB.cell 0
    have c1 := hB.cell 1
    have c2 := hB.cell 2
    have c3 := hB.cell 3
    have c4 := hB.cell 4
    have f0 := hB.frozen 0
    have f1 := hB.frozen 1
    have f2 := hB.frozen 2
    have f3 := hB.frozen 3
    have f4 := hB.frozen 4
    clear hb hB
    simp only [List.getElem?_toArray, List.getElem?_cons_zero, List.getElem?_cons_succ] at c0 c1 c2 c3 c4
    go_wp2_with fail
    exact bodyPost_ret (v := .tuple #[.agg #[.int .i64 0, .int .i64 0, .int .i64 0, .int .i64 0, .string ⟨#[]⟩], .int .i64 _]) (by simp [results, Tryz.results42, go_sem, c0, c1, c2, c3, c4]) rfl ⟨rfl, set_below (set_below (set_below (set_below (set_below HB.out _ _) _ _) _ _) _ _) _ _⟩

set_option maxHeartbeats 2000000 in
theorem name_ok (s t : ByteArray) (a : Nat) (w : World) (h : a < s.size) (hs : s.size ≤ 4000000000)
    (hT : decT (s.extract (a + 1) (a + 1 + runN s (a + 1))) = t) (hE : decE (s.extract (a + 1) (a + 1 + runN s (a + 1))) = 0) :
    Calls Tryz.prog 42 #[.string s, .int .i64 (a : Int)] w fun e w' => e = .returned (.tuple #[.agg #[.int .i64 4, .int .i64 (a : Int), .int .i64 ((a + 1 + runN s (a + 1) : Nat) : Int), .int .i64 0, .string t], .int .i64 0]) ∧ Below w.heap.size w w' := by
  have hr := runN_le s (a + 1) (by omega)
  have hdec := fun W : World => decoded_any (s.extract (a + 1) (a + 1 + runN s (a + 1))) W (by rw [ByteArray.size_extract]; omega)
  rw [hT, hE] at hdec
  have hrun := fun W : World => run_any s (a + 1) W (by omega) hs
  obtain ⟨p, hp⟩ : ∃ p, a + 1 + runN s (a + 1) = p := ⟨_, rfl⟩
  rw [hp] at hdec hr
  simp only [hp] at hrun
  have HD := Lib.hid hdec
  have HR := Lib.hid hrun
  have hp1 : a + 1 ≤ p := by omega
  have hp2 : (a : Int) + 1 ≤ (p : Int) := by omega
  rw [hp]
  clear hdec hrun hp hT hE
  go_enter Tryz.func42, Tryz.ntmps42
  go_wp2_with fail
  refine (HR.out _).mono ?_
  rintro e w' ⟨rfl, rfl⟩
  go_wp2_with fail
  refine (HD.out _).mono ?_
  rintro e w2 ⟨rfl, hb⟩
  simp at hb
  have hB := tok_cell hb
  have HB := Lib.hid (tok_below hb)
  have hg := HB.out.size
  have c0 := hB.cell 0
  have c1 := hB.cell 1
  have c2 := hB.cell 2
  have c3 := hB.cell 3
  have c4 := hB.cell 4
  have f0 := hB.frozen 0
  have f1 := hB.frozen 1
  have f2 := hB.frozen 2
  have f3 := hB.frozen 3
  have f4 := hB.frozen 4
  clear hb hB
  simp only [List.getElem?_toArray, List.getElem?_cons_zero, List.getElem?_cons_succ] at c0 c1 c2 c3 c4
  go_wp2_with fail
  exact bodyPost_ret (v := .tuple #[.agg #[.int .i64 4, .int .i64 (a : Int), .int .i64 (p : Int), .int .i64 0, .string t], .int .i64 0]) (by simp [results, Tryz.results42, go_sem, c0, c1, c2, c3, c4]) rfl ⟨rfl, set_below (set_below (set_below (set_below (set_below HB.out _ _) _ _) _ _) _ _) _ _⟩

theorem name_any (s : ByteArray) (a : Nat) (R : TR) (w : World) (h : a < s.size) (hs : s.size ≤ 4000000000) (hR : nameR (s.data.toList.drop (a + 1)) = R) :
    Calls Tryz.prog 42 #[.string s, .int .i64 (a : Int)] w fun e w' => e = .returned (.tuple #[.agg #[.int .i64 R.kind, .int .i64 (tA a R), .int .i64 (tT a R), .int .i64 R.num, .string (tS R)], .int .i64 R.err]) ∧ Below w.heap.size w w' := by
  have hl := name_dec s a
  cases hx : decL (runL (s.data.toList.drop (a + 1))) with
  | none =>
    obtain ⟨h1, h2⟩ := dec_none (s := s.extract (a + 1) (a + 1 + runN s (a + 1))) (by rw [hl]; exact hx)
    exact (name_bad s a 3 w h hs (.inl rfl) h1 h2).mono fun e w' ⟨e1, e2⟩ => ⟨e1.trans (tok_bad (hR.symm.trans (nameR_none hx)) (by decide)), e2⟩
  | some x =>
    by_cases hlx : 127 < x.length
    · obtain ⟨h1, h2⟩ := dec_long (s := s.extract (a + 1) (a + 1 + runN s (a + 1))) (by rw [hl]; exact hx) hlx
      exact (name_bad s a 5 w h hs (.inr rfl) h1 h2).mono fun e w' ⟨e1, e2⟩ => ⟨e1.trans (tok_bad (hR.symm.trans (nameR_long hx hlx)) (by decide)), e2⟩
    · obtain ⟨h1, h2⟩ := dec_some (s := s.extract (a + 1) (a + 1 + runN s (a + 1))) (by rw [hl]; exact hx) hlx
      exact (name_ok s _ a w h hs h1 h2).mono fun e w' ⟨e1, e2⟩ => ⟨e1.trans (tok_ok (n := 1 + runN s (a + 1)) (hR.symm.trans (nameR_some hx hlx)) rfl (by rw [Nat.add_assoc])), e2⟩

theorem stringToken_c (a n : Nat) (t : Int) (b : ByteArray) (R : TR) (w : World) (ht : t = ((a + n : Nat) : Int)) (hR : strR n b.data.toList = R) :
    Calls Tryz.prog 64 #[.int .i64 (a : Int), .int .i64 t, .string b] w fun e w' => e = .returned (.tuple #[.agg #[.int .i64 R.kind, .int .i64 (tA a R), .int .i64 (tT a R), .int .i64 R.num, .string (tS R)], .int .i64 R.err]) ∧ Below w.heap.size w w' := by
  subst hR
  exact stringToken_any a n t b w ht
theorem evenL_even {l : List UInt8} (h : l.length % 2 = 0) : evenL l = l := by unfold evenL; rw [if_neg (by omega)]
theorem evenL_odd {l : List UInt8} (h : l.length % 2 = 1) : evenL l = l ++ [48] := by unfold evenL; rw [if_pos h]

set_option maxHeartbeats 4000000 in
theorem hexToken_even (a n : Nat) (t : Int) (out x : List UInt8) (A : Option Addr) (C base : Nat) (R : TR) (w : World) (ht : t = ((a + n : Nat) : Int)) (hl : out.length ≤ 4000000000) (hm : out.length % 2 = 0) (hx : unhexS out = some x) (hR : strR n x = R) (hb : base ≤ w.heap.size)
    (hown : w.ownsRow base 5 1 (.slice A out.length C) out.length (cellsOf out)) :
    Calls Tryz.prog 61 #[.int .i64 (a : Int), .int .i64 t, .slice A out.length C] w fun e w' => e = .returned (.tuple #[.agg #[.int .i64 R.kind, .int .i64 (tA a R), .int .i64 (tT a R), .int .i64 R.num, .string (tS R)], .int .i64 R.err]) ∧ Below base w w' := by
  have hst := fun W : World => stringToken_c a n t ⟨x.toArray⟩ R W ht hR
  obtain ⟨u1, u2⟩ := unhexE_some (s := ⟨out.toArray⟩) (l := x) hx
  have bq : ((out.length : Int) % 2 != 0) = false := by simp; omega
  have ho := hown.alloc (.cells #[.int .i64 0, .int .i64 0, .int .i64 0, .int .i64 0, .string ⟨#[]⟩] 42)
  have hconv := run_string_of_own ho rfl
  have HST := Lib.hid hst
  have U1 := Lib.hid u1
  have U2 := Lib.hid u2
  have hes : (⟨out.toArray⟩ : ByteArray).size ≤ 4000000000 := hl
  have HES := Lib.hid hes
  clear hst u1 u2 hm hx hR ho hown ht hes
  go_enter Tryz.func61, Tryz.ntmps61
  go_wp2_with fail
  refine (unhex_c _ ⟨x.toArray⟩ 0 _ HES.out U1.out U2.out).mono ?_
  rintro e w2 ⟨rfl, hb2⟩
  simp at hb2
  have HB2 := Lib.hid hb2
  have hbs2 := hb2.size
  clear hb2 hconv
  go_wp2_with fail
  refine (HST.out _).mono ?_
  rintro e w3 ⟨rfl, hb3⟩
  have hb4 := HB2.out.trans (hb3.mono (by simpa using hbs2))
  have hB := tok_cell hb4
  have HB := Lib.hid (tok_below hb4)
  have hg := HB.out.size
  clear hb3
  have c0 := hB.cell 0
  have c1 := hB.cell 1
  have c2 := hB.cell 2
  have c3 := hB.cell 3
  have c4 := hB.cell 4
  have f0 := hB.frozen 0
  have f1 := hB.frozen 1
  have f2 := hB.frozen 2
  have f3 := hB.frozen 3
  have f4 := hB.frozen 4
  clear hb4 hB
  simp only [List.getElem?_toArray, List.getElem?_cons_zero, List.getElem?_cons_succ] at c0 c1 c2 c3 c4
  go_wp2_with fail
  exact bodyPost_ret (v := .tuple #[.agg #[.int .i64 R.kind, .int .i64 (tA a R), .int .i64 (tT a R), .int .i64 R.num, .string (tS R)], .int .i64 R.err]) (by simp [results, Tryz.results61, go_sem, c0, c1, c2, c3, c4]) rfl ⟨rfl, set_below (set_below (set_below (set_below (set_below (HB.out.mono hb) _ _) _ _) _ _) _ _) _ _⟩

set_option maxHeartbeats 4000000 in
theorem hexToken_odd (a n : Nat) (t : Int) (out x : List UInt8) (A : Option Addr) (C base : Nat) (R : TR) (w : World) (ht : t = ((a + n : Nat) : Int)) (hl : out.length ≤ 3000000000) (hm : out.length % 2 = 1) (hx : unhexS (out ++ [48]) = some x) (hR : strR n x = R) (hb : base ≤ w.heap.size)
    (hown : w.ownsRow base 5 1 (.slice A out.length C) out.length (cellsOf out)) :
    Calls Tryz.prog 61 #[.int .i64 (a : Int), .int .i64 t, .slice A out.length C] w fun e w' => e = .returned (.tuple #[.agg #[.int .i64 R.kind, .int .i64 (tA a R), .int .i64 (tT a R), .int .i64 R.num, .string (tS R)], .int .i64 R.err]) ∧ Below base w w' := by
  obtain ⟨i5, hi, hz0, hz1, hz2⟩ := info_parts info5
  have hst := fun W : World => stringToken_c a n t ⟨x.toArray⟩ R W ht hR
  obtain ⟨u1, u2⟩ := unhexE_some (s := ⟨(out ++ [48]).toArray⟩) (l := x) hx
  have bq : ((out.length : Int) % 2 != 0) = true := by simp; omega
  have ho := (hown.alloc (.cells #[.int .i64 0, .int .i64 0, .int .i64 0, .int .i64 0, .string ⟨#[]⟩] 42)).alloc (.cells #[.int .u8 48] 5)
  have HO := Lib.hid ho
  have HLT := Lib.hid hown.lt
  have HST := Lib.hid hst
  have U1 := Lib.hid u1
  have U2 := Lib.hid u2
  have hes : (⟨(out ++ [48]).toArray⟩ : ByteArray).size ≤ 4000000000 := by
    show (out ++ [48]).length ≤ _
    rw [List.length_append]
    show out.length + 1 ≤ _
    omega
  have HES := Lib.hid hes
  clear hst u1 u2 hm hx hR ho hown ht hes
  go_enter Tryz.func61, Tryz.ntmps61
  go_wp2_with (first | (at_builtin; refine wpList_append_own _ rfl _ _ 60 rfl base 5 i5 (.int .u8 0) 1 1 Tryz.underlying60 hi hz0 hz1 hz2 rfl (by decide) _ _ _ rfl HO.out ⟨w.heap.size + 1, 0, none⟩ 1 1 [.int .u8 48] rfl rfl (World.news_of_block (by have := heap_alloc_new (w.alloc (.cells #[.int .i64 0, .int .i64 0, .int .i64 0, .int .i64 0, .string ⟨#[]⟩] 42)) (.cells #[.int .u8 48] 5); simpa using this)) (by simp [Value.oneCell']) (by unfold maxLen; omega) (by omega) (by simp; omega) ?_))
  intro v1 w1 hown1 hgrow1
  intros
  obtain ⟨A1, C1, rfl⟩ := own_form hown1
  have hconv := run_string_of_own (l := out ++ [48]) (by rw [← cells_snoc]; exact hown1) (by simp)
  have hblk : Blk w1 w.heap.size 42 #[.int .i64 0, .int .i64 0, .int .i64 0, .int .i64 0, .string ⟨#[]⟩] :=
    ((Blk.new w 42 _).alloc _).grown hgrow1 (fun e => by have := (HLT.out _ e.symm).2; omega)
  have hbel : Below base w w1 := (((Below.refl _ _).alloc hb _).alloc (by simp; omega) _).grown hgrow1 (by simp; omega) (fun g h => (HLT.out g h).1)
  have hsz1 : w.heap.size + 2 ≤ w1.heap.size := by have := hgrow1.size; simpa using this
  have HK := Lib.hid hblk
  have HBL := Lib.hid hbel
  clear hblk hbel hown1 hgrow1
  go_wp2_with fail
  refine (unhex_c _ ⟨x.toArray⟩ 0 _ HES.out U1.out U2.out).mono ?_
  rintro e w2 ⟨rfl, hb2⟩
  have HB2 := Lib.hid hb2
  have hbs2 := hb2.size
  clear hb2 hconv
  go_wp2_with fail
  refine (HST.out _).mono ?_
  rintro e w3 ⟨rfl, hb3⟩
  have hb4 := HB2.out.trans (hb3.mono hbs2)
  have hB := HK.out.below hb4 (by omega)
  have HB := Lib.hid (HBL.out.trans (hb4.mono (by omega)))
  have hg := hb4.size
  clear hb3
  have c0 := hB.cell 0
  have c1 := hB.cell 1
  have c2 := hB.cell 2
  have c3 := hB.cell 3
  have c4 := hB.cell 4
  have f0 := hB.frozen 0
  have f1 := hB.frozen 1
  have f2 := hB.frozen 2
  have f3 := hB.frozen 3
  have f4 := hB.frozen 4
  clear hb4 hB
  simp only [List.getElem?_toArray, List.getElem?_cons_zero, List.getElem?_cons_succ] at c0 c1 c2 c3 c4
  go_wp2_with fail
  exact bodyPost_ret (v := .tuple #[.agg #[.int .i64 R.kind, .int .i64 (tA a R), .int .i64 (tT a R), .int .i64 R.num, .string (tS R)], .int .i64 R.err]) (by simp [results, Tryz.results61, go_sem, c0, c1, c2, c3, c4]) rfl ⟨rfl, set_below (set_below (set_below (set_below (set_below HB.out _ _) _ _) _ _) _ _) _ _⟩

theorem hexToken_any (a n : Nat) (t : Int) (out x : List UInt8) (A : Option Addr) (C base : Nat) (R : TR) (w : World) (ht : t = ((a + n : Nat) : Int)) (hl : out.length ≤ 3000000000) (hx : unhexS (evenL out) = some x) (hR : strR n x = R) (hb : base ≤ w.heap.size)
    (hown : w.ownsRow base 5 1 (.slice A out.length C) out.length (cellsOf out)) :
    Calls Tryz.prog 61 #[.int .i64 (a : Int), .int .i64 t, .slice A out.length C] w fun e w' => e = .returned (.tuple #[.agg #[.int .i64 R.kind, .int .i64 (tA a R), .int .i64 (tT a R), .int .i64 R.num, .string (tS R)], .int .i64 R.err]) ∧ Below base w w' := by
  by_cases hm : out.length % 2 = 0
  · exact hexToken_even a n t out x A C base R w ht (by omega) hm (by rw [← evenL_even hm]; exact hx) hR hb hown
  · exact hexToken_odd a n t out x A C base R w ht hl (by omega) (by rw [← evenL_odd (by omega)]; exact hx) hR hb hown
end Go.Proofs.YtdpbpdikgcepbaaGreatDoor
namespace Go.Proofs.YtdpbpdikgcepbaaGreatDoor
open Go.RowKit Oct Fix Lex

theorem hexR_err {t : List UInt8} {c : Int} (h : (hexL t).1 = c) (hc : c ≠ 0) : hexR t = bad c := by unfold hexR; rw [if_neg (by rw [h]; exact hc), h]
theorem hexR_some {t d x : List UInt8} {n : Nat} (h : hexL t = (0, d, n)) (hx : unhexS (evenL d) = some x) : hexR t = strR (1 + n) x := by
  unfold hexR strR
  rw [h]
  simp only [if_pos]
  rw [hx]
theorem litR_some {t x : List UInt8} {n : Nat} (h : litL t.length 1 t = some (x, n)) : litR t = strR (1 + n) x := by unfold litR strR; rw [h]
theorem litR_none {t : List UInt8} (h : litL t.length 1 t = none) : litR t = bad 4 := by unfold litR; rw [h]
/-- A byte behind an opening mark at a, k further on. -/
theorem drop_p {s : ByteArray} {a k p : Nat} (hp : a + 1 + k = p) (h : p < s.size) : ∃ h' : k < (s.data.toList.drop (a + 1)).length, (s.data.toList.drop (a + 1))[k] = s[p] ∧ (s.data.toList.drop (a + 1)).drop k = s.data.toList.drop p := by
  subst hp
  obtain ⟨h1, h2⟩ := lexDropAt s (a + 1) k h
  exact ⟨h1, h2, by rw [List.drop_drop]⟩
theorem drop_len {s : ByteArray} {a k p : Nat} (hp : a + 1 + k = p) (h : ¬ p < s.size) : (s.data.toList.drop (a + 1)).length ≤ k := by
  rw [List.length_drop]
  simp
  omega

set_option maxRecDepth 100000 in
set_option maxHeartbeats 4000000 in
theorem lexDigits_any (s : ByteArray) (a : Nat) (R : TR) (w : World) (h : a < s.size) (hs : s.size ≤ 3000000000) (hR : hexR (s.data.toList.drop (a + 1)) = R) :
    Calls Tryz.prog 40 #[.string s, .int .i64 (a : Int)] w fun e w' => e = .returned (.tuple #[.agg #[.int .i64 R.kind, .int .i64 (tA a R), .int .i64 (tT a R), .int .i64 R.num, .string (tS R)], .int .i64 R.err]) ∧ Below w.heap.size w w' := by
  obtain ⟨i5, hi, hz0, hz1, hz2⟩ := info_parts info5
  have HR := Lib.hid hR
  clear hR
  go_enter Tryz.func40, Tryz.ntmps40
  go_wp2_with fail
  go_loopw [6, 7] (fun v i wr => ∃ (k p : Nat) (out : List UInt8) (A : Option Addr) (C : Nat), a + 1 + k = p ∧ p ≤ s.size ∧ i = .int .i64 (p : Int) ∧ v = .slice A out.length C ∧ HexAt (s.data.toList.drop (a + 1)) k out ∧ out.length ≤ k ∧ wr.ownsRow (w.heap.size + 1) 5 1 (.slice A out.length C) out.length (cellsOf out) ∧ Below (w.heap.size + 1) (w.alloc (.cells #[.int .i64 0, .int .i64 0, .int .i64 0, .int .i64 0, .string ⟨#[]⟩] 42)) wr) (fun _ i _ => s.size - (intOf i).toNat)
  case atStart => exact ⟨0, a + 1, [], none, 0, by omega, by omega, by go_num, rfl, HexAt.zero _, Nat.le_refl _, World.ownsRow_nil _ _ _ _, Below.refl _ _⟩
  case round =>
    obtain ⟨k, p, out, A, C, hp, hk, rfl, rfl, hd, hol, hown, hb⟩ := hrel
    have hkp : k ≤ p := by omega
    have hap : a + 1 ≤ p := by omega
    have hbs : w.heap.size + 1 ≤ wr.heap.size := by have := hb.size; simpa using this
    have HD := Lib.hid hd
    have HO := Lib.hid hown
    have HP := Lib.hid hp
    have HB := Lib.hid hb
    clear hd hown hb hp
    by_cases hlt : p < s.size
    · obtain ⟨d1, d2, d3⟩ := drop_p HP.out hlt
      by_cases hc : s[p] = 62
      · have b62 : ((s[p].toNat : Int) == 62) = true := by rw [hc]; rfl
        have E := HD.out.stop d1 (by rw [d2]; exact hc)
        obtain ⟨x, hx⟩ := unhex_some (evenL out) (even_dig HD.out.2) (even_even out)
        have hr := (hexR_some E hx).symm.trans HR.out
        have hcall := hexToken_any a (1 + (k + 1)) ((p : Int) + 1) out x A C (w.heap.size + 1) R wr (by have := HP.out; omega) (by omega) hx hr hbs HO.out
        have HC := Lib.hid hcall
        clear d2 d3 hc E hx hr hcall
        go_wp2_with fail
        refine HC.out.mono ?_
        rintro e w2 ⟨rfl, hb2⟩
        have hb3 := HB.out.trans hb2
        have hB := tok_cell hb3
        have HB3 := Lib.hid (tok_below hb3)
        have hg := HB3.out.size
        clear hb2
        have c0 := hB.cell 0
        have c1 := hB.cell 1
        have c2 := hB.cell 2
        have c3 := hB.cell 3
        have c4 := hB.cell 4
        have f0 := hB.frozen 0
        have f1 := hB.frozen 1
        have f2 := hB.frozen 2
        have f3 := hB.frozen 3
        have f4 := hB.frozen 4
        clear hb3 hB
        simp only [List.getElem?_toArray, List.getElem?_cons_zero, List.getElem?_cons_succ] at c0 c1 c2 c3 c4
        go_wp2_with fail
        exact bodyPost_ret (v := .tuple #[.agg #[.int .i64 R.kind, .int .i64 (tA a R), .int .i64 (tT a R), .int .i64 R.num, .string (tS R)], .int .i64 R.err]) (by simp [results, Tryz.results40, go_sem, c0, c1, c2, c3, c4]) rfl ⟨rfl, set_below (set_below (set_below (set_below (set_below HB3.out _ _) _ _) _ _) _ _) _ _⟩
      · have b62 : ((s[p].toNat : Int) == 62) = false := byte_isnt (n := 62) (by decide) hc
        by_cases hdg : 0 ≤ digitS s[p]
        · have N : Hid (HexAt (s.data.toList.drop (a + 1)) (k + 1) (out ++ [s[p]])) := Lib.hid (by rw [← d2]; exact HD.out.dig d1 (by rw [d2]; exact hc) (by rw [d2]; exact hdg))
          clear d2 d3 hc
          go_wp2_with (first | (go_at_call 62; refine (digit_any _ _).mono ?_; rintro e w' ⟨rfl, rfl⟩) | (first | (at_builtin; refine wpList_append_own _ rfl _ _ 60 rfl (w.heap.size + 1) 5 i5 (.int .u8 0) 1 1 Tryz.underlying60 hi hz0 hz1 hz2 rfl (by decide) _ _ _ rfl (HO.out.alloc _) ⟨wr.heap.size, 0, none⟩ 1 1 [.int .u8 (s[p].toNat : Int)] rfl rfl (World.news_of_block (heap_alloc_new wr _)) (by simp [Value.oneCell']) (by unfold maxLen; omega) (by omega) (by simp; omega) ?_)))
          intro v3 w3 hown3 hgrow3
          intros
          obtain ⟨A3, C3, rfl⟩ := own_form hown3
          go_wp2
          go_roundw
          case rel => exact ⟨k + 1, p + 1, out ++ [s[p]], A3, C3, by have := HP.out; omega, by omega, by go_num, by simp, N.out, by simp; omega, by rw [← cells_snoc, List.length_append]; exact hown3, (HB.out.alloc (by omega) _).grown hgrow3 (by simp; omega) (fun g h => (HO.out.lt g h).1)⟩
          case measure => simp [intOf]; omega
        · by_cases hw : whiteS s[p] = true
          · have N : Hid (HexAt (s.data.toList.drop (a + 1)) (k + 1) out) := Lib.hid (HD.out.white d1 (by rw [d2]; exact hc) (by rw [d2]; exact hdg) (by rw [d2]; exact hw))
            have bd : ¬ 0 ≤ digitS s[p] := hdg
            clear d2 d3 hc
            go_wp2_with (first | (go_at_call 62; refine (digit_any _ _).mono ?_; rintro e w' ⟨rfl, rfl⟩) | (go_at_call 60; refine (white_any _ _).mono ?_; rintro e w' ⟨rfl, rfl⟩))
            go_roundw
            case rel => exact ⟨k + 1, p + 1, out, A, C, by have := HP.out; omega, by omega, by go_num, rfl, N.out, by omega, HO.out, HB.out⟩
            case measure => simp [intOf]; omega
          · have hw' : whiteS s[p] = false := by simpa using hw
            have E := HD.out.bad d1 (by rw [d2]; exact hc) (by rw [d2]; exact hdg) (by rw [d2]; exact hw)
            have hr := Lib.hid ((hexR_err E (by decide)).symm.trans HR.out)
            have hb3 := HB.out
            have hB := tok_cell hb3
            have HB3 := Lib.hid (tok_below hb3)
            have hg := HB3.out.size
            clear d2 d3 hc hw E
            have c0 := hB.cell 0
            have c1 := hB.cell 1
            have c2 := hB.cell 2
            have c3 := hB.cell 3
            have c4 := hB.cell 4
            have f0 := hB.frozen 0
            have f1 := hB.frozen 1
            have f2 := hB.frozen 2
            have f3 := hB.frozen 3
            have f4 := hB.frozen 4
            clear hb3 hB
            simp only [List.getElem?_toArray, List.getElem?_cons_zero, List.getElem?_cons_succ] at c0 c1 c2 c3 c4
            go_wp2_with (first | (go_at_call 62; refine (digit_any _ _).mono ?_; rintro e w' ⟨rfl, rfl⟩) | (go_at_call 60; refine (white_any _ _).mono ?_; rintro e w' ⟨rfl, rfl⟩))
            exact bodyPost_ret (v := .tuple #[.agg #[.int .i64 0, .int .i64 0, .int .i64 0, .int .i64 0, .string ⟨#[]⟩], .int .i64 3]) (by simp [results, Tryz.results40, go_sem, c0, c1, c2, c3, c4]) rfl ⟨tok_bad hr.out.symm (by decide), set_below (set_below (set_below (set_below (set_below HB3.out _ _) _ _) _ _) _ _) _ _⟩
    · have E := HD.out.done (drop_len HP.out hlt)
      have hr := Lib.hid ((hexR_err E (by decide)).symm.trans HR.out)
      have hb3 := HB.out
      have hB := tok_cell hb3
      have HB3 := Lib.hid (tok_below hb3)
      have hg := HB3.out.size
      clear E
      have c0 := hB.cell 0
      have c1 := hB.cell 1
      have c2 := hB.cell 2
      have c3 := hB.cell 3
      have c4 := hB.cell 4
      have f0 := hB.frozen 0
      have f1 := hB.frozen 1
      have f2 := hB.frozen 2
      have f3 := hB.frozen 3
      have f4 := hB.frozen 4
      clear hb3 hB
      simp only [List.getElem?_toArray, List.getElem?_cons_zero, List.getElem?_cons_succ] at c0 c1 c2 c3 c4
      go_wp2_with fail
      exact bodyPost_ret (v := .tuple #[.agg #[.int .i64 0, .int .i64 0, .int .i64 0, .int .i64 0, .string ⟨#[]⟩], .int .i64 4]) (by simp [results, Tryz.results40, go_sem, c0, c1, c2, c3, c4]) rfl ⟨tok_bad hr.out.symm (by decide), set_below (set_below (set_below (set_below (set_below HB3.out _ _) _ _) _ _) _ _) _ _⟩
end Go.Proofs.YtdpbpdikgcepbaaGreatDoor
namespace Go.Proofs.YtdpbpdikgcepbaaGreatDoor
open Go.RowKit Oct Fix Lex

theorem esc_one (t : List UInt8) : (escL t).1.length ≤ 1 := by
  rcases t with _ | ⟨c, t⟩
  · simp [escL]
  · rw [escL]
    repeat' split
    all_goals simp
theorem esc_le (t : List UInt8) : (escL t).2 ≤ t.length := by
  rcases t with _ | ⟨c, t⟩
  · simp [escL]
  · exact esc_len c t
theorem lit_back_any {g d : Nat} {c : UInt8} {t : List UInt8} (h : c = 92) : litL (g + 1) d (c :: t) = pre (escL t).1 (1 + (escL t).2) (litL g d ((c :: t).drop (1 + (escL t).2))) := by
  by_cases ht : t = []
  · subst ht
    rw [lit_cut h]
    simp [escL, lit_end, pre]
  · rw [lit_back h ht, Nat.add_comm 1 (escL t).2, List.drop_succ_cons]
theorem line_S (s : ByteArray) (p : Nat) (h : p ≤ s.size) : lineS s.data.toList (p : Int) = ((p + lineN (s.data.toList.drop p) : Nat) : Int) := by
  unfold lineS
  rw [if_neg (by have : s.data.toList.length = s.size := by simp
                 omega)]
  simp

set_option maxRecDepth 100000 in
set_option maxHeartbeats 8000000 in
theorem literal_any (s : ByteArray) (a : Nat) (R : TR) (w : World) (h : a < s.size) (hs : s.size ≤ 3000000000) (hR : litR (s.data.toList.drop (a + 1)) = R) :
    Calls Tryz.prog 41 #[.string s, .int .i64 (a : Int)] w fun e w' => e = .returned (.tuple #[.agg #[.int .i64 R.kind, .int .i64 (tA a R), .int .i64 (tT a R), .int .i64 R.num, .string (tS R)], .int .i64 R.err]) ∧ Below w.heap.size w w' := by
  obtain ⟨i5, hi, hz0, hz1, hz2⟩ := info_parts info5
  have HR := Lib.hid hR
  clear hR
  go_enter Tryz.func41, Tryz.ntmps41
  go_wp2_with fail
  go_loopw [6, 7, 8] (fun v dp i wr => ∃ (k p d f : Nat) (out : List UInt8) (A : Option Addr) (C : Nat), a + 1 + k = p ∧ p ≤ s.size ∧ i = .int .i64 (p : Int) ∧ dp = .int .i64 (d : Int) ∧ 1 ≤ d ∧ d ≤ k + 1 ∧ v = .slice A out.length C ∧ LitAt (s.data.toList.drop (a + 1)) k out d f ∧ out.length ≤ k ∧ wr.ownsRow (w.heap.size + 1) 5 1 (.slice A out.length C) out.length (cellsOf out) ∧ Below (w.heap.size + 1) (w.alloc (.cells #[.int .i64 0, .int .i64 0, .int .i64 0, .int .i64 0, .string ⟨#[]⟩] 42)) wr) (fun _ _ i _ => s.size - (intOf i).toNat)
  case atStart => exact ⟨0, a + 1, 1, _, [], none, 0, by omega, by omega, by go_num, rfl, by omega, by omega, rfl, LitAt.zero _, Nat.le_refl _, World.ownsRow_nil _ _ _ _, Below.refl _ _⟩
  case round =>
    obtain ⟨k, p, d, f, out, A, C, hp, hk, rfl, rfl, hd1, hdk, rfl, hd, hol, hown, hb⟩ := hrel
    have hkp : k ≤ p := by omega
    have hap : a + 1 ≤ p := by omega
    have hbs : w.heap.size + 1 ≤ wr.heap.size := by have := hb.size; simpa using this
    have HD := Lib.hid hd
    have HO := Lib.hid hown
    have HP := Lib.hid hp
    have HB := Lib.hid hb
    clear hd hown hb hp
    by_cases hlt : p < s.size
    · obtain ⟨d1, d2, d3⟩ := drop_p HP.out hlt
      have d4 := drop_cons s p hlt
      rw [d4] at d3
      by_cases h1 : s[p] = 92
      · have b92 : ((s[p].toNat : Int) == 92) = true := by rw [h1]; rfl
        obtain ⟨g, N⟩ := HD.out.step d1 (n := 1 + (escL (s.data.toList.drop (p + 1))).2) (m := (escL (s.data.toList.drop (p + 1))).1) (d' := d) (by omega) (fun g => by rw [d3]; exact lit_back_any h1)
        have hcall := escape_any s (p + 1) wr out A C (w.heap.size + 1) (by omega) (by omega) (by omega) hbs HO.out
        have hel := esc_le (s.data.toList.drop (p + 1))
        rw [List.length_drop, show s.data.toList.length = s.size from by simp] at hel
        have heo := esc_one (s.data.toList.drop (p + 1))
        obtain ⟨m, hm⟩ : ∃ m, (escL (s.data.toList.drop (p + 1))).1 = m := ⟨_, rfl⟩
        obtain ⟨n, hn⟩ : ∃ n, (escL (s.data.toList.drop (p + 1))).2 = n := ⟨_, rfl⟩
        rw [hm, hn] at N hcall
        rw [hn] at hel
        rw [hm] at heo
        have NN := Lib.hid N
        have HC := Lib.hid hcall
        clear d2 d3 d4 h1 hcall N hm hn
        go_wp2_with fail
        refine HC.out.mono ?_
        rintro e w3 ⟨v3, rfl, hown3, hb3⟩
        obtain ⟨A3, C3, rfl⟩ := own_form hown3
        have HO3 := Lib.hid hown3
        have HB3 := Lib.hid hb3
        clear hown3 hb3
        go_wp2_with fail
        go_roundw
        case rel => exact ⟨k + (1 + n), p + 1 + n, d, g, out ++ m, A3, C3, by have := HP.out; omega, by omega, by go_num, rfl, hd1, by omega, by simp, NN.out, by rw [List.length_append]; omega, HO3.out, HB.out.trans HB3.out⟩
        case measure => simp [intOf]; omega
      · have b92 : ((s[p].toNat : Int) == 92) = false := byte_isnt (n := 92) (by decide) h1
        by_cases h2 : s[p] = 13 ∨ s[p] = 10
        · obtain ⟨g, N⟩ := HD.out.step d1 (n := lineN (s.data.toList.drop p)) (m := [10]) (d' := d) (by rw [d4]; exact lineN_pos _ _) (fun g => by rw [d3, ← d4]; have := lit_line (f := g) (d := d) (t := s.data.toList.drop (p + 1)) h2; rw [← d4] at this; exact this)
          have hll := lineN_le (s.data.toList.drop p)
          rw [List.length_drop, show s.data.toList.length = s.size from by simp] at hll
          have hlp : 0 < lineN (s.data.toList.drop p) := by rw [d4]; exact lineN_pos _ _
          have hls := line_S s p (by omega)
          obtain ⟨n, hn⟩ : ∃ n, lineN (s.data.toList.drop p) = n := ⟨_, rfl⟩
          rw [hn] at N hll hlp hls
          have NN := Lib.hid N
          have HLS := Lib.hid hls
          have b13 : ((s[p].toNat : Int) == 13) = true ∨ (((s[p].toNat : Int) == 13) = false ∧ ((s[p].toNat : Int) == 10) = true) := by
            rcases h2 with h2 | h2
            · exact .inl (by rw [h2]; rfl)
            · exact .inr (by rw [h2]; exact ⟨rfl, rfl⟩)
          clear d2 d3 d4 h1 h2 N hn hls
          rcases b13 with b13 | ⟨b13, b10⟩
          all_goals
            go_wp2_with (first | (at_builtin; refine wpList_append_own _ rfl _ _ 60 rfl (w.heap.size + 1) 5 i5 (.int .u8 0) 1 1 Tryz.underlying60 hi hz0 hz1 hz2 rfl (by decide) _ _ _ rfl (HO.out.alloc _) ⟨wr.heap.size, 0, none⟩ 1 1 [.int .u8 10] rfl rfl (World.news_of_block (heap_alloc_new wr _)) (by simp [Value.oneCell']) (by unfold maxLen; omega) (by omega) (by simp; omega) ?_))
            intro v3 w3 hown3 hgrow3
            intros
            obtain ⟨A3, C3, rfl⟩ := own_form hown3
            go_wp2_with (go_at_call 31; refine (line_c _ _ _ _ (by omega) HLS.out).mono ?_; rintro e w' ⟨rfl, rfl⟩)
            go_roundw
            case rel => exact ⟨k + n, p + n, d, g, out ++ [10], A3, C3, by have := HP.out; omega, by omega, by go_num, rfl, hd1, by omega, by simp, NN.out, by rw [List.length_append]; simp; omega, by have := cells_snoc out 10; rw [List.length_append]; rw [← this]; exact hown3, (HB.out.alloc (by omega) _).grown hgrow3 (by simp; omega) (fun g h => (HO.out.lt g h).1)⟩
            case measure => simp [intOf]; omega
        · have b13 : ((s[p].toNat : Int) == 13) = false := byte_isnt (n := 13) (by decide) (fun e => h2 (.inl e))
          have b10 : ((s[p].toNat : Int) == 10) = false := byte_isnt (n := 10) (by decide) (fun e => h2 (.inr e))
          by_cases h3 : s[p] = 40
          · have b40 : ((s[p].toNat : Int) == 40) = true := by rw [h3]; rfl
            have b41 : ((s[p].toNat : Int) == 41) = false := by rw [h3]; rfl
            have bz : ((d : Int) + 1 == 0) = false := by simp; omega
            obtain ⟨g, N⟩ := HD.out.step d1 (n := 1) (m := [s[p]]) (d' := d + 1) (by omega) (fun g => by rw [d3]; exact (lit_open h3).trans (by rw [h3]; rfl))
            have NN := Lib.hid N
            clear d2 d3 d4 h1 h2 h3 N
            go_wp2_with (first | (at_builtin; refine wpList_append_own _ rfl _ _ 60 rfl (w.heap.size + 1) 5 i5 (.int .u8 0) 1 1 Tryz.underlying60 hi hz0 hz1 hz2 rfl (by decide) _ _ _ rfl (HO.out.alloc _) ⟨wr.heap.size, 0, none⟩ 1 1 [.int .u8 (s[p].toNat : Int)] rfl rfl (World.news_of_block (heap_alloc_new wr _)) (by simp [Value.oneCell']) (by unfold maxLen; omega) (by omega) (by simp; omega) ?_))
            intro v3 w3 hown3 hgrow3
            intros
            obtain ⟨A3, C3, rfl⟩ := own_form hown3
            go_wp2
            go_roundw
            case rel => exact ⟨k + 1, p + 1, d + 1, g, out ++ [s[p]], A3, C3, by have := HP.out; omega, by omega, by go_num, by go_num, by omega, by omega, by simp, NN.out, by simp; omega, by rw [← cells_snoc, List.length_append]; exact hown3, (HB.out.alloc (by omega) _).grown hgrow3 (by simp; omega) (fun g h => (HO.out.lt g h).1)⟩
            case measure => simp [intOf]; omega
          · have b40 : ((s[p].toNat : Int) == 40) = false := byte_isnt (n := 40) (by decide) h3
            by_cases h4 : s[p] = 41
            · have b41 : ((s[p].toNat : Int) == 41) = true := by rw [h4]; rfl
              by_cases h5 : d = 1
              · have bz : ((d : Int) - 1 == 0) = true := by simp; omega
                have E : litL (s.data.toList.drop (a + 1)).length 1 (s.data.toList.drop (a + 1)) = some (out, k + 1) := by
                  obtain ⟨e1, e2⟩ := HD.out
                  obtain ⟨f', rfl⟩ : ∃ f', f = f' + 1 := ⟨f - 1, by omega⟩
                  rw [e1, d3, h5, lit_done h4]
                  simp [pre]
                have hr := (litR_some E).symm.trans HR.out
                have hconv := run_string_of_own HO.out rfl
                have hcall := fun W : World => stringToken_c a (1 + (k + 1)) ((p : Int) + 1) ⟨out.toArray⟩ R W (by have := HP.out; omega) hr
                have HC := Lib.hid hcall
                clear d2 d3 d4 h1 h2 h3 h4 h5 E hr hcall
                go_wp2_with fail
                refine (HC.out _).mono ?_
                rintro e w2 ⟨rfl, hb2⟩
                have hb3 := HB.out.trans (hb2.mono hbs)
                have hB := tok_cell hb3
                have HB3 := Lib.hid (tok_below hb3)
                have hg := HB3.out.size
                clear hb2 hconv
                have c0 := hB.cell 0
                have c1 := hB.cell 1
                have c2 := hB.cell 2
                have c3 := hB.cell 3
                have c4 := hB.cell 4
                have f0 := hB.frozen 0
                have f1 := hB.frozen 1
                have f2 := hB.frozen 2
                have f3 := hB.frozen 3
                have f4 := hB.frozen 4
                clear hb3 hB
                simp only [List.getElem?_toArray, List.getElem?_cons_zero, List.getElem?_cons_succ] at c0 c1 c2 c3 c4
                go_wp2_with fail
                exact bodyPost_ret (v := .tuple #[.agg #[.int .i64 R.kind, .int .i64 (tA a R), .int .i64 (tT a R), .int .i64 R.num, .string (tS R)], .int .i64 R.err]) (by simp [results, Tryz.results41, go_sem, c0, c1, c2, c3, c4]) rfl ⟨rfl, set_below (set_below (set_below (set_below (set_below HB3.out _ _) _ _) _ _) _ _) _ _⟩
              · have bz : ((d : Int) - 1 == 0) = false := by simp; omega
                obtain ⟨g, N⟩ := HD.out.step d1 (n := 1) (m := [s[p]]) (d' := d - 1) (by omega) (fun g => by rw [d3]; exact (lit_close h4 h5).trans (by rw [h4]; rfl))
                have NN := Lib.hid N
                clear d2 d3 d4 h1 h2 h3 h4 N
                go_wp2_with (first | (at_builtin; refine wpList_append_own _ rfl _ _ 60 rfl (w.heap.size + 1) 5 i5 (.int .u8 0) 1 1 Tryz.underlying60 hi hz0 hz1 hz2 rfl (by decide) _ _ _ rfl (HO.out.alloc _) ⟨wr.heap.size, 0, none⟩ 1 1 [.int .u8 (s[p].toNat : Int)] rfl rfl (World.news_of_block (heap_alloc_new wr _)) (by simp [Value.oneCell']) (by unfold maxLen; omega) (by omega) (by simp; omega) ?_))
                intro v3 w3 hown3 hgrow3
                intros
                obtain ⟨A3, C3, rfl⟩ := own_form hown3
                go_wp2
                go_roundw
                case rel => exact ⟨k + 1, p + 1, d - 1, g, out ++ [s[p]], A3, C3, by have := HP.out; omega, by omega, by go_num, by congr 1; omega, by omega, by omega, by simp, NN.out, by simp; omega, by rw [← cells_snoc, List.length_append]; exact hown3, (HB.out.alloc (by omega) _).grown hgrow3 (by simp; omega) (fun g h => (HO.out.lt g h).1)⟩
                case measure => simp [intOf]; omega
            · have b41 : ((s[p].toNat : Int) == 41) = false := byte_isnt (n := 41) (by decide) h4
              have bz : ((d : Int) == 0) = false := by simp; omega
              obtain ⟨g, N⟩ := HD.out.step d1 (n := 1) (m := [s[p]]) (d' := d) (by omega) (fun g => by rw [d3]; exact lit_plain h1 h2 h4 h3)
              have NN := Lib.hid N
              clear d2 d3 d4 h1 h2 h3 h4 N
              go_wp2_with (first | (at_builtin; refine wpList_append_own _ rfl _ _ 60 rfl (w.heap.size + 1) 5 i5 (.int .u8 0) 1 1 Tryz.underlying60 hi hz0 hz1 hz2 rfl (by decide) _ _ _ rfl (HO.out.alloc _) ⟨wr.heap.size, 0, none⟩ 1 1 [.int .u8 (s[p].toNat : Int)] rfl rfl (World.news_of_block (heap_alloc_new wr _)) (by simp [Value.oneCell']) (by unfold maxLen; omega) (by omega) (by simp; omega) ?_))
              intro v3 w3 hown3 hgrow3
              intros
              obtain ⟨A3, C3, rfl⟩ := own_form hown3
              go_wp2
              go_roundw
              case rel => exact ⟨k + 1, p + 1, d, g, out ++ [s[p]], A3, C3, by have := HP.out; omega, by omega, by go_num, rfl, by omega, by omega, by simp, NN.out, by simp; omega, by rw [← cells_snoc, List.length_append]; exact hown3, (HB.out.alloc (by omega) _).grown hgrow3 (by simp; omega) (fun g h => (HO.out.lt g h).1)⟩
              case measure => simp [intOf]; omega
    · have E : litL (s.data.toList.drop (a + 1)).length 1 (s.data.toList.drop (a + 1)) = none := by
        rw [HD.out.1, List.drop_eq_nil_of_le (drop_len HP.out hlt), lit_end]
        rfl
      have hr := Lib.hid ((litR_none E).symm.trans HR.out)
      have hb3 := HB.out
      have hB := tok_cell hb3
      have HB3 := Lib.hid (tok_below hb3)
      have hg := HB3.out.size
      clear E
      have c0 := hB.cell 0
      have c1 := hB.cell 1
      have c2 := hB.cell 2
      have c3 := hB.cell 3
      have c4 := hB.cell 4
      have f0 := hB.frozen 0
      have f1 := hB.frozen 1
      have f2 := hB.frozen 2
      have f3 := hB.frozen 3
      have f4 := hB.frozen 4
      clear hb3 hB
      simp only [List.getElem?_toArray, List.getElem?_cons_zero, List.getElem?_cons_succ] at c0 c1 c2 c3 c4
      go_wp2_with fail
      exact bodyPost_ret (v := .tuple #[.agg #[.int .i64 0, .int .i64 0, .int .i64 0, .int .i64 0, .string ⟨#[]⟩], .int .i64 4]) (by simp [results, Tryz.results41, go_sem, c0, c1, c2, c3, c4]) rfl ⟨tok_bad hr.out.symm (by decide), set_below (set_below (set_below (set_below (set_below HB3.out _ _) _ _) _ _) _ _) _ _⟩
end Go.Proofs.YtdpbpdikgcepbaaGreatDoor
namespace Go.Proofs.YtdpbpdikgcepbaaGreatDoor
open Go.RowKit Oct Fix Lex

theorem digMore {l : List UInt8} {k : Nat} (h : k < l.length) (hk : (l.take k).all isDig = true) (hc : isDig l[k] = true) : (l.take (k + 1)).all isDig = true := by
  rw [List.take_succ_eq_append_getElem h, List.all_append, hk]
  simp [hc]
theorem all_stop {l : List UInt8} {k : Nat} (h : k < l.length) (hc : isDig l[k] = false) : l.all isDig = false := by
  rw [Bool.eq_false_iff]
  intro ha
  rw [List.all_eq_true] at ha
  rw [ha _ (List.getElem_mem h)] at hc
  cases hc
theorem dig_of {b : UInt8} (h1 : ¬ (b.toNat : Int) < 48) (h2 : ¬ 57 < (b.toNat : Int)) : isDig b = true := by unfold isDig; simp; omega
theorem dig_low {b : UInt8} (h1 : (b.toNat : Int) < 48) : isDig b = false := by unfold isDig; simp; omega
theorem dig_high {b : UInt8} (h1 : 57 < (b.toNat : Int)) : isDig b = false := by unfold isDig; simp; omega

theorem int_no {s B : ByteArray} (hB : B.data.toList = bodyL s.data.toList) {k : Nat} (h : k < B.size) (hc : isDig B[k] = false) : intL s.data.toList = false := by
  unfold intL
  rw [← hB, all_stop (l := B.data.toList) (k := k) (by simpa using h) hc]
  rfl
theorem int_yes {s B : ByteArray} (hB : B.data.toList = bodyL s.data.toList) (h : (B.data.toList.take B.size).all isDig = true) : intL s.data.toList = !B.toList.isEmpty := by
  unfold intL
  rw [List.take_of_length_le (by simp)] at h
  rw [← hB, h, Bool.true_and, Lib.toList_data]

theorem body_le (l : List UInt8) : (bodyL l).length ≤ l.length := by
  rcases l with _ | ⟨c, t⟩
  · exact Nat.le_refl _
  · show (if c = 45 then t else if c = 43 then t else c :: t).length ≤ (c :: t).length
    split
    · simp
    · split
      · simp
      · exact Nat.le_refl _

set_option maxHeartbeats 1000000 in
theorem lexWhole_any (s : ByteArray) (w : World) (hs : s.size ≤ 4000000000) :
    Calls Tryz.prog 67 #[.string s] w fun e w' => e = .returned (.bool (intL s.data.toList)) ∧ w = w' := by
  obtain ⟨B, hB⟩ : ∃ B, uns s = B := ⟨_, rfl⟩
  have hL : B.data.toList = bodyL s.data.toList := by rw [← hB]; exact uns_list s
  have hsz : B.size ≤ 4000000000 := by
    have e1 : B.data.toList.length = B.size := by simp
    have e2 : s.data.toList.length = s.size := by simp
    have e3 := body_le s.data.toList
    rw [← hL] at e3
    omega
  have HB := Lib.hid hB
  have HL := Lib.hid hL
  clear hB hL
  go_enter Tryz.func67, Tryz.ntmps67
  go_wp2_with fail
  refine (unsigned_any s _ hs).mono ?_
  rintro e w' ⟨rfl, rfl⟩
  rw [HB.out]
  go_wp2
  go_loop [8] (fun i => ∃ k : Nat, k ≤ B.size ∧ i = .int .i64 k ∧ (B.data.toList.take k).all isDig = true) (fun i => B.size - (intOf i).toNat)
  case atStart => exact ⟨0, by omega, rfl, by simp⟩
  case round =>
    obtain ⟨k, hk, rfl, hr⟩ := hrel
    have HR := Lib.hid hr
    clear hr
    by_cases hlt : k < B.size
    · by_cases h1 : (B[k].toNat : Int) < 48
      · have E := Lib.hid (int_no HL.out hlt (dig_low h1))
        go_wp2
        go_ret
        exact ⟨ret_bool E.out.symm, rfl⟩
      · by_cases h2 : 57 < (B[k].toNat : Int)
        · have E := Lib.hid (int_no HL.out hlt (dig_high h2))
          go_wp2
          go_ret
          exact ⟨ret_bool E.out.symm, rfl⟩
        · have E := Lib.hid (dig_of h1 h2)
          go_wp2
          go_round
          case rel => exact ⟨k + 1, by omega, by go_num, digMore (by simpa using hlt) HR.out E.out⟩
          case measure => simp [intOf]; omega
    · have ek : k = B.size := by omega
      subst ek
      have E : Hid (intL s.data.toList = !B.toList.isEmpty) := Lib.hid (int_yes HL.out HR.out)
      by_cases h0 : B.toList.isEmpty = true
      · have h0' : B.toList = [] := List.isEmpty_iff.1 h0
        have E2 : Hid (intL s.data.toList = false) := Lib.hid (by rw [E.out, h0]; rfl)
        clear h0
        go_wp2
        go_ret
        exact ⟨ret_bool E2.out.symm, rfl⟩
      · have h0' : B.toList.isEmpty = false := by simpa using h0
        have E2 : Hid (intL s.data.toList = true) := Lib.hid (by rw [E.out, h0']; rfl)
        clear h0
        go_wp2
        go_ret
        exact ⟨ret_bool E2.out.symm, rfl⟩

end Go.Proofs.YtdpbpdikgcepbaaGreatDoor
namespace Go.Proofs.YtdpbpdikgcepbaaGreatDoor
open Go.RowKit Oct Fix Lex

set_option maxHeartbeats 2000000 in
theorem integer_sign (s : ByteArray) (w : World) (hs : s.size ≤ 4000000000) (h0 : 0 < s.size) (hc : s[0] = 43 ∨ s[0] = 45) :
    Calls Tryz.prog 103 #[.string s] w fun e w' => e = .returned (.bool (intL s.data.toList)) ∧ w = w' := by
  have hne := str_ne h0
  have E0 := Lib.hid (uns_sign h0 hc)
  rcases hc with h1 | h1
  · have b1 : ((s[0].toNat : Int) == 43) = true := by rw [h1]; rfl
    clear h1
    have HL : Hid ((s.extract 1 s.size).data.toList = bodyL s.data.toList) := Lib.hid (by rw [← E0.out]; exact uns_list s)
    have hsz : (s.extract 1 s.size).size ≤ 4000000000 := by rw [ByteArray.size_extract]; omega
    go_enter Tryz.func103, Tryz.ntmps103
    go_wp2_with fail
    obtain ⟨B, hB⟩ : ∃ B, s.extract 1 s.size = B := ⟨_, rfl⟩
    rw [hB] at HL hsz
    rw [hB]
    clear hB
    go_loop [3] (fun i => ∃ k : Nat, k ≤ B.size ∧ i = .int .i64 k ∧ (B.data.toList.take k).all isDig = true) (fun i => B.size - (intOf i).toNat)
    case atStart => exact ⟨0, by omega, rfl, by simp⟩
    case round =>
      obtain ⟨k, hk, rfl, hr⟩ := hrel
      have HR := Lib.hid hr
      clear hr
      by_cases hlt : k < B.size
      · by_cases h1 : (B[k].toNat : Int) < 48
        · have E := Lib.hid (int_no HL.out hlt (dig_low h1))
          go_wp2
          go_ret
          exact ⟨ret_bool E.out.symm, rfl⟩
        · by_cases h2 : 57 < (B[k].toNat : Int)
          · have E := Lib.hid (int_no HL.out hlt (dig_high h2))
            go_wp2
            go_ret
            exact ⟨ret_bool E.out.symm, rfl⟩
          · have E := Lib.hid (dig_of h1 h2)
            go_wp2
            go_round
            case rel => exact ⟨k + 1, by omega, by go_num, digMore (by simpa using hlt) HR.out E.out⟩
            case measure => simp [intOf]; omega
      · have ek : k = B.size := by omega
        subst ek
        have E : Hid (intL s.data.toList = !B.toList.isEmpty) := Lib.hid (int_yes HL.out HR.out)
        by_cases h0 : B.toList.isEmpty = true
        · have h0' : B.toList = [] := List.isEmpty_iff.1 h0
          have E2 : Hid (intL s.data.toList = false) := Lib.hid (by rw [E.out, h0]; rfl)
          clear h0
          go_wp2
          go_ret
          exact ⟨ret_bool E2.out.symm, rfl⟩
        · have h0' : B.toList.isEmpty = false := by simpa using h0
          have E2 : Hid (intL s.data.toList = true) := Lib.hid (by rw [E.out, h0']; rfl)
          clear h0
          go_wp2
          go_ret
          exact ⟨ret_bool E2.out.symm, rfl⟩
  · have b1 : ((s[0].toNat : Int) == 43) = false := by rw [h1]; rfl
    have b2 : ((s[0].toNat : Int) == 45) = true := by rw [h1]; rfl
    clear h1
    have HL : Hid ((s.extract 1 s.size).data.toList = bodyL s.data.toList) := Lib.hid (by rw [← E0.out]; exact uns_list s)
    have hsz : (s.extract 1 s.size).size ≤ 4000000000 := by rw [ByteArray.size_extract]; omega
    go_enter Tryz.func103, Tryz.ntmps103
    go_wp2_with fail
    obtain ⟨B, hB⟩ : ∃ B, s.extract 1 s.size = B := ⟨_, rfl⟩
    rw [hB] at HL hsz
    rw [hB]
    clear hB
    go_loop [3] (fun i => ∃ k : Nat, k ≤ B.size ∧ i = .int .i64 k ∧ (B.data.toList.take k).all isDig = true) (fun i => B.size - (intOf i).toNat)
    case atStart => exact ⟨0, by omega, rfl, by simp⟩
    case round =>
      obtain ⟨k, hk, rfl, hr⟩ := hrel
      have HR := Lib.hid hr
      clear hr
      by_cases hlt : k < B.size
      · by_cases h1 : (B[k].toNat : Int) < 48
        · have E := Lib.hid (int_no HL.out hlt (dig_low h1))
          go_wp2
          go_ret
          exact ⟨ret_bool E.out.symm, rfl⟩
        · by_cases h2 : 57 < (B[k].toNat : Int)
          · have E := Lib.hid (int_no HL.out hlt (dig_high h2))
            go_wp2
            go_ret
            exact ⟨ret_bool E.out.symm, rfl⟩
          · have E := Lib.hid (dig_of h1 h2)
            go_wp2
            go_round
            case rel => exact ⟨k + 1, by omega, by go_num, digMore (by simpa using hlt) HR.out E.out⟩
            case measure => simp [intOf]; omega
      · have ek : k = B.size := by omega
        subst ek
        have E : Hid (intL s.data.toList = !B.toList.isEmpty) := Lib.hid (int_yes HL.out HR.out)
        by_cases h0 : B.toList.isEmpty = true
        · have h0' : B.toList = [] := List.isEmpty_iff.1 h0
          have E2 : Hid (intL s.data.toList = false) := Lib.hid (by rw [E.out, h0]; rfl)
          clear h0
          go_wp2
          go_ret
          exact ⟨ret_bool E2.out.symm, rfl⟩
        · have h0' : B.toList.isEmpty = false := by simpa using h0
          have E2 : Hid (intL s.data.toList = true) := Lib.hid (by rw [E.out, h0']; rfl)
          clear h0
          go_wp2
          go_ret
          exact ⟨ret_bool E2.out.symm, rfl⟩

set_option maxHeartbeats 2000000 in
theorem integer_plain (s : ByteArray) (w : World) (hs : s.size ≤ 4000000000) (h0 : 0 < s.size) (h1 : s[0] ≠ 43) (h2 : s[0] ≠ 45) :
    Calls Tryz.prog 103 #[.string s] w fun e w' => e = .returned (.bool (intL s.data.toList)) ∧ w = w' := by
  have hne := str_ne h0
  have E0 := Lib.hid (uns_plain h0 h1 h2)
  have b1 : ((s[0].toNat : Int) == 43) = false := byte_isnt (n := 43) (by decide) h1
  have b2 : ((s[0].toNat : Int) == 45) = false := byte_isnt (n := 45) (by decide) h2
  clear h1 h2
  have HL : Hid (s.data.toList = bodyL s.data.toList) := Lib.hid ((congrArg (fun b : ByteArray => b.data.toList) E0.out).symm.trans (uns_list s))
  go_enter Tryz.func103, Tryz.ntmps103
  go_wp2_with fail
  go_loop [3] (fun i => ∃ k : Nat, k ≤ s.size ∧ i = .int .i64 k ∧ (s.data.toList.take k).all isDig = true) (fun i => s.size - (intOf i).toNat)
  case atStart => exact ⟨0, by omega, rfl, by simp⟩
  case round =>
    obtain ⟨k, hk, rfl, hr⟩ := hrel
    have HR := Lib.hid hr
    clear hr
    by_cases hlt : k < s.size
    · by_cases h1 : (s[k].toNat : Int) < 48
      · have E := Lib.hid (int_no HL.out hlt (dig_low h1))
        go_wp2
        go_ret
        exact ⟨ret_bool E.out.symm, rfl⟩
      · by_cases h2 : 57 < (s[k].toNat : Int)
        · have E := Lib.hid (int_no HL.out hlt (dig_high h2))
          go_wp2
          go_ret
          exact ⟨ret_bool E.out.symm, rfl⟩
        · have E := Lib.hid (dig_of h1 h2)
          go_wp2
          go_round
          case rel => exact ⟨k + 1, by omega, by go_num, digMore (by simpa using hlt) HR.out E.out⟩
          case measure => simp [intOf]; omega
    · have ek : k = s.size := by omega
      subst ek
      have E : Hid (intL s.data.toList = !s.toList.isEmpty) := Lib.hid (int_yes HL.out HR.out)
      by_cases h0 : s.toList.isEmpty = true
      · have h0' : s.toList = [] := List.isEmpty_iff.1 h0
        have E2 : Hid (intL s.data.toList = false) := Lib.hid (by rw [E.out, h0]; rfl)
        clear h0
        go_wp2
        go_ret
        exact ⟨ret_bool E2.out.symm, rfl⟩
      · have h0' : s.toList.isEmpty = false := by simpa using h0
        have E2 : Hid (intL s.data.toList = true) := Lib.hid (by rw [E.out, h0']; rfl)
        clear h0
        go_wp2
        go_ret
        exact ⟨ret_bool E2.out.symm, rfl⟩

set_option maxHeartbeats 2000000 in
theorem integer_none (s : ByteArray) (w : World) (h0 : ¬ 0 < s.size) :
    Calls Tryz.prog 103 #[.string s] w fun e w' => e = .returned (.bool (intL s.data.toList)) ∧ w = w' := by
  have hl : s.data.toList = [] := List.eq_nil_of_length_eq_zero (by have e : s.data.toList.length = s.size := (by simp); omega)
  have he : s.toList = [] := by rw [Lib.toList_data]; exact hl
  have hsz : s.size = 0 := by omega
  have HS := Lib.hid hsz
  have E : Hid (intL s.data.toList = false) := Lib.hid (by rw [hl]; rfl)
  clear hl hsz
  go_enter Tryz.func103, Tryz.ntmps103
  go_wp2_with fail
  go_loop [3] (fun i => i = .int .i64 0) (fun _ => 0)
  case atStart => rfl
  case round =>
    obtain rfl := hrel
    have hz : ¬ (0 : Int) < (s.size : Int) := by have := HS.out; omega
    go_wp2
    go_ret
    exact ⟨ret_bool E.out.symm, rfl⟩

theorem integer_r (s : ByteArray) (w : World) (hs : s.size ≤ 4000000000) :
    Calls Tryz.prog 103 #[.string s] w fun e w' => e = .returned (.bool (intL s.data.toList)) ∧ w = w' := by
  by_cases h0 : 0 < s.size
  · by_cases h1 : s[0] = 43
    · exact integer_sign s w hs h0 (Or.inl h1)
    · by_cases h2 : s[0] = 45
      · exact integer_sign s w hs h0 (Or.inr h2)
      · exact integer_plain s w hs h0 h1 h2
  · exact integer_none s w h0

def hasPoint (s : ByteArray) : Bool := s.data.toList.contains 46

set_option maxHeartbeats 1000000 in
theorem point_r (s : ByteArray) (w : World) (hs : s.size ≤ 4000000000) :
    Calls Tryz.prog 105 #[.string s] w fun e w' => e = .returned (.bool (hasPoint s)) ∧ w = w' := by
  go_enter Tryz.func105, Tryz.ntmps105
  go_wp2
  go_loop [3] (fun i => ∃ k : Nat, k ≤ s.size ∧ i = .int .i64 k ∧ ∀ j, j < k → (h : j < s.size) → s[j] ≠ 46) (fun i => s.size - (intOf i).toNat)
  case atStart => exact ⟨0, Nat.zero_le _, rfl, fun _ h => absurd h (Nat.not_lt_zero _)⟩
  case round =>
    obtain ⟨k, hk, rfl, hn⟩ := hrel
    have HN := Lib.hid hn
    clear hn
    by_cases hlt : k < s.size
    · by_cases hc : s[k] = 46
      · have b : ((s[k].toNat : Int) == 46) = true := by rw [hc]; rfl
        have E : Hid (hasPoint s = true) := Lib.hid (by
          unfold hasPoint
          rw [List.contains_iff_mem, ← hc]
          exact List.getElem_mem (l := s.data.toList) (by simpa using hlt))
        clear hc
        go_wp2
        go_ret
        exact ⟨ret_bool E.out.symm, rfl⟩
      · have b : ((s[k].toNat : Int) == 46) = false := byte_isnt (n := 46) (by decide) hc
        have HC := Lib.hid hc
        clear hc
        go_wp2
        go_round
        case rel => exact ⟨k + 1, by omega, by go_num, fun j hj h => by
          rcases Nat.lt_succ_iff_lt_or_eq.1 hj with h' | rfl
          · exact HN.out j h' h
          · exact HC.out⟩
        case measure => simp [intOf]; omega
    · have E : Hid (hasPoint s = false) := Lib.hid (by
        unfold hasPoint
        rw [Bool.eq_false_iff]
        intro hm
        rw [List.contains_iff_mem] at hm
        obtain ⟨j, hj, e⟩ := List.getElem_of_mem hm
        have hj' : j < s.size := by simpa using hj
        exact HN.out j (by omega) hj' e)
      go_wp2
      go_ret
      exact ⟨ret_bool E.out.symm, rfl⟩
end Go.Proofs.YtdpbpdikgcepbaaGreatDoor
namespace Go.Proofs.YtdpbpdikgcepbaaGreatDoor
open Go.RowKit Oct Fix Lex

def intV (s : ByteArray) : Int := if 2147483647 < valL 0 (bodyL s.data.toList) then 0 else intN s.data.toList
def intE (s : ByteArray) : Int := if 2147483647 < valL 0 (bodyL s.data.toList) then 2 else 0

/-- '[]byte(s)': a new row of the bytes; what lay there before is as it was. -/
theorem bytes_made (s : ByteArray) (w : World) : ∃ (C : Nat) (w' : World), (convert 9 60 (.string s)).run Tryz.prog w = .ok (.slice (some ⟨w.heap.size, 0, none⟩) s.size C) w' ∧ Below w.heap.size w w' ∧
    ∀ j (h : j < s.size), w'.cell? ⟨w.heap.size, j, none⟩ = some (.int .u8 (s[j].toNat : Int)) := by
  refine ⟨_, _, Lib.run_convert_string_bytes w 9 60 5 s Tryz.underlying9 Tryz.underlying60 Tryz.underlying5, ⟨rfl, rfl, rfl, by rw [Lib.bytesWorld_size]; omega, fun k hk => Lib.bytesWorld_at_old w _ s k hk⟩, fun j hj => ?_⟩
  rw [Lib.bytesWorld_cell w _ s j hj]
  have hl : j < s.data.toList.length := by simpa using hj
  rw [List.getD_eq_getElem?_getD, List.getElem?_eq_getElem hl]
  rfl

theorem valL_step {l : List UInt8} {k : Nat} (h : k < l.length) (hd : l.all isDig = true) : valL 0 (l.take (k + 1)) = 10 * valL 0 (l.take k) + ((l[k].toNat : Int) - 48) ∧ 0 ≤ valL 0 (l.take k) ∧ valL 0 (l.take (k + 1)) ≤ valL 0 l ∧ 48 ≤ l[k].toNat ∧ l[k].toNat ≤ 57 := by
  have h1 := dig_val_more l k h hd
  have h2 := valL_take l k hd
  have h3 := isDig_yes (List.all_eq_true.1 hd _ (List.getElem_mem h))
  exact ⟨h1.1, h2.1, h1.2, h3.1, h3.2⟩

end Go.Proofs.YtdpbpdikgcepbaaGreatDoor
namespace Go.Proofs.YtdpbpdikgcepbaaGreatDoor
open Go.RowKit Oct Fix Lex

theorem ret_ints {a b c d : Int} (h1 : c = a) (h2 : d = b) : Ending.returned (.tuple #[.int .i64 a, .int .i64 b]) = .returned (.tuple #[.int .i64 c, .int .i64 d]) := by rw [h1, h2]
theorem valL_nonneg (l : List UInt8) (hd : l.all isDig = true) : 0 ≤ valL 0 l := by
  have h := valL_take l l.length hd
  rw [List.take_of_length_le (Nat.le_refl _)] at h
  exact h.1
theorem minus_at (s : ByteArray) (h : 0 < s.size) : minusL s.data.toList = (s[0] == 45) := by
  have hl : 0 < s.data.toList.length := by simpa using h
  have e : s[0] = s.data.toList[0]'hl := rfl
  rw [e]
  clear e
  revert hl
  generalize s.data.toList = l
  intro hl
  rcases l with _ | ⟨c, t⟩
  · cases hl
  · rfl

set_option maxHeartbeats 2000000 in
theorem integer_any (s : ByteArray) (w : World) (hs : s.size ≤ 4000000000) (hi : intL s.data.toList = true) :
    Calls Tryz.prog 68 #[.string s] w fun e w' => e = .returned (.tuple #[.int .i64 (intV s), .int .i64 (intE s)]) ∧ Below w.heap.size w w' := by
  obtain ⟨B, hB⟩ : ∃ B, uns s = B := ⟨_, rfl⟩
  have hL : B.data.toList = bodyL s.data.toList := by rw [← hB]; exact uns_list s
  have hsz : B.size ≤ 4000000000 := by
    have e1 : B.data.toList.length = B.size := by simp
    have e2 : s.data.toList.length = s.size := by simp
    have e3 := body_le s.data.toList
    rw [← hL] at e3
    omega
  have hdig : B.data.toList.all isDig = true := by
    unfold intL at hi
    rw [Bool.and_eq_true] at hi
    rw [hL]; exact hi.1
  have h0 : 0 < s.size := by
    rcases Nat.eq_zero_or_pos s.size with h | h
    · have hl : s.data.toList = [] := List.eq_nil_of_length_eq_zero (by have e : s.data.toList.length = s.size := (by simp); omega)
      rw [hl] at hi
      cases hi
    · exact h
  obtain ⟨C, wc, hrun, hbel, hcell⟩ := bytes_made B w
  have HB := Lib.hid hB
  have HL := Lib.hid hL
  have HD := Lib.hid hdig
  have HBel := Lib.hid hbel
  have HC := Lib.hid hcell
  have HI := Lib.hid hi
  clear hB hL hi hdig hbel hcell
  go_enter Tryz.func68, Tryz.ntmps68
  go_wp2_with (go_at_call 90; refine (unsigned_any s _ hs).mono ?_; rintro e w' ⟨rfl, rfl⟩; rw [HB.out])
  go_loopw [4, 11] (fun n i wr => ∃ k : Nat, k ≤ B.size ∧ i = .int .i64 k ∧ n = .int .i64 (valL 0 (B.data.toList.take k)) ∧ valL 0 (B.data.toList.take k) ≤ 2147483647 ∧ wr = wc) (fun _ i _ => B.size - (intOf i).toNat)
  case atStart => exact ⟨0, by omega, rfl, by simp [valL], by simp [valL], rfl⟩
  case round =>
    obtain ⟨k, hk, rfl, rfl, hv, rfl⟩ := hrel
    by_cases hlt : k < B.size
    · have hl : k < B.data.toList.length := by simpa using hlt
      obtain ⟨v1, v2, v3, v4, v5⟩ := valL_step hl HD.out
      have hc := HC.out k hlt
      have e48 : (B.data.toList[k]'hl) = B[k] := rfl
      rw [e48] at v1 v4 v5
      obtain ⟨X, hX⟩ : ∃ X, valL 0 (B.data.toList.take k) = X := ⟨_, rfl⟩
      obtain ⟨Y, hY⟩ : ∃ Y, valL 0 (B.data.toList.take (k + 1)) = Y := ⟨_, rfl⟩
      obtain ⟨c, hcc⟩ : ∃ c, B[k].toNat = c := ⟨_, rfl⟩
      rw [hX] at v1 v2 hv
      rw [hY] at v1 v3
      rw [hcc] at v1 v4 v5 hc
      rw [hX]
      have HY := Lib.hid hY
      have EW : Hid (wrap64 (wrap64 (10 * X) + ((c : Int) - 48) % 256) = Y) := Lib.hid (by unfold wrap64; omega)
      have V1 := Lib.hid v1
      have V3 := Lib.hid v3
      have V4 := Lib.hid (And.intro v4 v5)
      clear hX hY hcc v1 v3 v4 v5
      have HV := Lib.hid hv
      clear hv hrun e48
      go_wp2_with fail
      · rename_i hgt
        rw [EW.out] at hgt
        go_ret2
        have hb : 2147483647 < valL 0 (bodyL s.data.toList) := by rw [← HL.out]; exact Int.lt_of_lt_of_le hgt V3.out
        exact ⟨ret_ints (by unfold intV; rw [if_pos hb]) (by unfold intE; rw [if_pos hb]), HBel.out⟩
      · rename_i hle
        rw [EW.out] at hle
        exact ⟨⟨k + 1, by omega, by go_num, by rw [EW.out, HY.out], by rw [HY.out]; exact hle, trivial⟩, by simp [intOf]; omega⟩
    · have ek : k = B.size := by omega
      subst ek
      have e0 : B.data.toList.take B.size = B.data.toList := List.take_of_length_le (by simp)
      rw [e0, HL.out] at hv
      have eI : intE s = 0 := by unfold intE; rw [if_neg (by omega)]
      have e0' : valL 0 (B.data.toList.take B.size) = valL 0 (bodyL s.data.toList) := by rw [e0, HL.out]
      have hnn := valL_nonneg (bodyL s.data.toList) (by rw [← HL.out]; exact HD.out)
      rw [e0']
      obtain ⟨X, hX⟩ : ∃ X, valL 0 (bodyL s.data.toList) = X := ⟨_, rfl⟩
      rw [hX] at hv hnn
      rw [hX]
      have hm := minus_at s h0
      have HX := Lib.hid hX
      have EI := Lib.hid eI
      clear hX eI e0 e0' hrun
      by_cases h1 : s[0] = 45
      · have b1 : ((s[0].toNat : Int) == 45) = true := by rw [h1]; rfl
        have EV : Hid (intV s = -X) := Lib.hid (by
          rw [h1] at hm
          unfold intV intN
          rw [HX.out, if_neg (by omega), hm]; rfl)
        clear h1 hm
        go_wp2_with fail
        go_ret2
        exact ⟨ret_ints (by rw [EV.out]) (by rw [EI.out]), HBel.out⟩
      · have b1 : ((s[0].toNat : Int) == 45) = false := byte_isnt (n := 45) (by decide) h1
        have EV : Hid (intV s = X) := Lib.hid (by
          have hm' : minusL s.data.toList = false := by rw [hm]; simpa using h1
          unfold intV intN
          rw [HX.out, if_neg (by omega), hm']; rfl)
        clear h1 hm
        go_wp2_with fail
        go_ret2
        exact ⟨ret_ints (by rw [EV.out]) (by rw [EI.out]), HBel.out⟩
end Go.Proofs.YtdpbpdikgcepbaaGreatDoor
