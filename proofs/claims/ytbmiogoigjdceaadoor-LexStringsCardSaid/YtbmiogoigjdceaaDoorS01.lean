/-
  Lemmas and walks, joined: LexSt.
-/
import Derived.Test.YtbmiogoigjdceaaDoorQ18
import Derived.Test.YtbmiogoigjdceaaDoorR01
import Derived.Deep.RegionHeldLaw
namespace Go.Proofs.YtbmiogoigjdceaaDoor
open Go.RowKit Oct Fix Lex

theorem hex_rc (s t : ByteArray) (w : World) (hs : s.size ≤ 4000000000) (h : hexB s = t) :
    Calls Tryd.prog 17 #[.string s] w fun e w' => e = .returned (.string t) ∧ Below w.heap.size w w' := h ▸ hex_r s w hs
theorem mk_str (l : List UInt8) : ∃ b : ByteArray, b.data.toList = l := ⟨⟨l.toArray⟩, rfl⟩
theorem cut_one (s : ByteArray) (k : Nat) (h : k < s.size) : (s.extract k (k + 1)).data.toList = [s[k]] := by
  rw [ByteArray.data_extract, Array.toList_extract, List.extract_eq_take_drop, drop_cons s k h, show k + 1 - k = 1 from by omega]
  rfl
theorem take_more (s : ByteArray) (k : Nat) (h : k < s.size) : s.data.toList.take (k + 1) = s.data.toList.take k ++ [s[k]] := by
  rw [List.take_succ_eq_append_getElem (by simpa using h)]; rfl
theorem wide_len (b : Bool) (l : List UInt8) : (wideL b l).length ≤ 4 * l.length := by
  induction l with
  | nil => exact Nat.le_refl _
  | cons c l ih =>
    have e : wideL b (c :: l) = c :: (sepL b ++ wideL b l) := by unfold wideL; simp
    rw [e]
    cases b <;> simp [sepL] <;> omega

theorem str_next (S s : ByteArray) (n : Nat) (w : World) (hm : MaxLenAt w) (hz : S.size ≤ 100000) (hi : nxI S.data.toList 0 = 0) (hR : nxR S.data.toList 0 = ⟨0, 3, n + 1, 0, s.data.toList⟩) :
    Calls Tryd.prog 9 #[.string S, .int .i64 0] w fun e w' => e = .returned (.tuple #[.agg #[.int .i64 3, .int .i64 0, .int .i64 ((n : Int) + 1), .int .i64 0, .string s], .int .i64 0]) ∧ Below w.heap.size w w' := by
  have h := lexNext_any S 0 w hz hm
  rw [hi, hR] at h
  refine h.mono fun e w' ⟨e1, e2⟩ => ⟨e1.trans ?_, e2⟩
  have : tT 0 (⟨0, 3, n + 1, 0, s.data.toList⟩ : TR) = (n : Int) + 1 := by
    unfold tT
    rw [if_pos rfl]
    push_cast
    omega
  rw [this]
  rfl
theorem conv_three (w : World) (x y z : Int) (a b c : UInt8) (hx : (a.toNat : Int) = x) (hy : (b.toNat : Int) = y) (hz : (c.toNat : Int) = z) :
    (convert 39 9 (.slice (some ⟨w.heap.size, 0, none⟩) 3 3)).run Tryd.prog (w.alloc (.cells #[.int .u8 x, .int .u8 y, .int .u8 z] 5)).drew = .ok (.string ⟨#[a, b, c]⟩) (w.alloc (.cells #[.int .u8 x, .int .u8 y, .int .u8 z] 5)).drew := by
  subst hx hy hz
  exact run_string_of_own (base := 0) (l := [a, b, c]) (World.ownsRow_lit w #[.int .u8 (a.toNat : Int), .int .u8 (b.toNat : Int), .int .u8 (c.toNat : Int)] 3 (Nat.zero_le _) (by unfold maxLen; omega) rfl).drew rfl

set_option maxRecDepth 100000 in
set_option maxHeartbeats 8000000 in
theorem strings_in (s : ByteArray) (u : Int) (w : World) (hm : MaxLenAt w) (hs : s.size ≤ 500) (u0 : 0 ≤ u) (u1 : u ≤ 255) :
    Calls Tryd.prog 7 #[.string s, .int .u8 u] w fun e w' => e = .returned (.bool true) ∧ Below w.heap.size w w' := by
  have hs' : ¬ (500 : Int) < (s.size : Int) := by omega
  have HM := Lib.hid hm
  obtain ⟨h, hh⟩ : ∃ h, hexB s = h := ⟨_, rfl⟩
  have hl : h.data.toList = hexS s.data.toList := by rw [← hh]; rfl
  have hz : h.size = 2 * s.size := by rw [← size_len, hl, hexS_length, size_len]
  have hhs : h.size ≤ 1000 := by omega
  have HC := Lib.hid (fun W => hex_rc s h W (by omega) hh)
  have HL := Lib.hid hl
  have HZ := Lib.hid hz
  have hr0 : 0 ≤ u % 3 := by omega
  have hr1 : u % 3 < 3 := by omega
  obtain ⟨b, hb⟩ : ∃ b : Bool, (u % 3 == 1) = b := ⟨_, rfl⟩
  clear hm hh hl hz
  go_enter Tryd.func7, Tryd.ntmps7
  go_wp2_with fail
  refine (HC.out _).mono ?_
  rintro e w1 ⟨rfl, hb1⟩
  have HB1 := Lib.hid hb1
  clear hb1
  go_wp2_with fail
  go_loop [6, 8] (fun wv iv => ∃ (k : Nat) (E : ByteArray), k ≤ h.size ∧ iv = .int .i64 (k : Int) ∧ wv = .string E ∧ E.data.toList = 60 :: wideL b (h.data.toList.take k) ∧ E.size ≤ 1 + 4 * k) (fun _ iv => h.size - (intOf iv).toNat)
  case atStart => exact ⟨0, ⟨#[60]⟩, by omega, rfl, rfl, rfl, by decide⟩
  case round =>
    obtain ⟨k, E, hk, rfl, rfl, he, hes⟩ := hrel
    have HE := Lib.hid he
    clear he
    by_cases hlt : k < h.size
    · have hk0 : (0 : Int) ≤ (k : Int) := by omega
      have hk1 : (k : Int) + 1 ≤ (h.size : Int) := by omega
      have hc := cut_one h k hlt
      have ht := take_more h k hlt
      have hx : (h.extract k (k + 1)).size = 1 := by rw [← size_len, hc]; rfl
      have hx' : (h.extract k (k + 1)).size ≤ 1 := by omega
      have HX := Lib.hid hx
      have HCc := Lib.hid hc
      have HT := Lib.hid ht
      clear hc ht hx
      cases b with
      | false =>
        have HBb := Lib.hid hb
        go_wp2_with fail
        go_round
        case rel => exact ⟨k + 1, E ++ h.extract k (k + 1), by omega, by go_num, rfl, by rw [HT.out, wide_snoc, ByteArray.data_append, Array.toList_append, HE.out, HCc.out]; rfl, by rw [ByteArray.size_append, HX.out]; omega⟩
        case measure => simp [intOf]; omega
      | true =>
        go_wp2_with fail
        go_round
        case rel => exact ⟨k + 1, E ++ h.extract k (k + 1) ++ ⟨#[32, 13, 10]⟩, by omega, by go_num, rfl, by rw [HT.out, wide_snoc, ByteArray.data_append, Array.toList_append, ByteArray.data_append, Array.toList_append, HE.out, HCc.out]; simp [sepL], by rw [ByteArray.size_append, ByteArray.size_append, HX.out]; show _ + 1 + 3 ≤ _; omega⟩
        case measure => simp [intOf]; omega
    · have ek : k = h.size := by omega
      subst ek
      have he2 : E.data.toList = 60 :: wideL b (hexS s.data.toList) := by rw [HE.out, List.take_of_length_le (by rw [size_len]; exact Nat.le_refl _), HL.out]
      have HE2 := Lib.hid he2
      clear he2
      go_wp2_with fail
      go_loopw [7, 9] (fun ov iv wr => ∃ (j : Nat) (F : ByteArray), j ≤ s.size ∧ iv = .int .i64 (j : Int) ∧ ov = .string F ∧ F.data.toList = 40 :: octsL (s.data.toList.take j) ∧ F.size = 1 + 4 * j ∧ Below w.heap.size w wr) (fun _ iv _ => s.size - (intOf iv).toNat)
      case atStart => exact ⟨0, ⟨#[40]⟩, by omega, rfl, rfl, rfl, rfl, HB1.out⟩
      case round =>
        obtain ⟨j, F, hj, rfl, rfl, hf, hfs, hbw⟩ := hrel
        have HF := Lib.hid hf
        have hfs2 : F.size ≤ 2001 := by omega
        have HFS := Lib.hid hfs
        have HBw := Lib.hid hbw
        have hbs := hbw.size
        clear hf hfs hbw
        by_cases hlt2 : j < s.size
        · have x0 : 0 ≤ (s[j].toNat : Int) := by omega
          have x1 : (s[j].toNat : Int) < 256 := by have := s[j].toNat_lt; omega
          have k1 : ¬ 9223372036854775807 < F.size + 1 := by omega
          have k2 : ¬ 9223372036854775807 < F.size + 1 + 3 := by omega
          have k3 : ¬ 9223372036854775807 < F.size + 4 := by omega
          have w1 : IntKind.u8.wrap ((s[j].toNat : Int) / 64) = (s[j].toNat : Int) / 64 := by rw [IntKind.wrap_u8]; omega
          have w2 : IntKind.u8.wrap ((s[j].toNat : Int) / 8) = (s[j].toNat : Int) / 8 := by rw [IntKind.wrap_u8]; omega
          have w3 : ((s[j].toNat : Int) / 8).tmod 8 = (s[j].toNat : Int) / 8 % 8 := Int.tmod_eq_emod_of_nonneg (by omega)
          have w4 : ((s[j].toNat : Int)).tmod 8 = (s[j].toNat : Int) % 8 := Int.tmod_eq_emod_of_nonneg (by omega)
          have w5 : IntKind.u8.wrap (48 + (s[j].toNat : Int) / 64) = 48 + (s[j].toNat : Int) / 64 := by rw [IntKind.wrap_u8]; omega
          have w6 : IntKind.u8.wrap (48 + (s[j].toNat : Int) / 8 % 8) = 48 + (s[j].toNat : Int) / 8 % 8 := by rw [IntKind.wrap_u8]; omega
          have w7 : IntKind.u8.wrap (48 + (s[j].toNat : Int) % 8) = 48 + (s[j].toNat : Int) % 8 := by rw [IntKind.wrap_u8]; omega
          obtain ⟨y1, e1⟩ : ∃ y, UInt8.ofNat (48 + s[j].toNat / 64) = y := ⟨_, rfl⟩
          obtain ⟨y2, e2⟩ : ∃ y, UInt8.ofNat (48 + s[j].toNat / 8 % 8) = y := ⟨_, rfl⟩
          obtain ⟨y3, e3⟩ : ∃ y, UInt8.ofNat (48 + s[j].toNat % 8) = y := ⟨_, rfl⟩
          have hconv := conv_three wr (48 + (s[j].toNat : Int) / 64) (48 + (s[j].toNat : Int) / 8 % 8) (48 + (s[j].toNat : Int) % 8) y1 y2 y3 (by rw [← e1, UInt8.toNat_ofNat']; omega) (by rw [← e2, UInt8.toNat_ofNat']; omega) (by rw [← e3, UInt8.toNat_ofNat']; omega)
          have NF : Hid ((F ++ ⟨#[92]⟩ ++ ⟨#[y1, y2, y3]⟩).data.toList = 40 :: octsL (s.data.toList.take (j + 1)) ∧ (F ++ ⟨#[92]⟩ ++ ⟨#[y1, y2, y3]⟩).size = 1 + 4 * (j + 1)) := Lib.hid (by
            refine ⟨?_, ?_⟩
            · rw [take_more s j hlt2, octs_snoc, ByteArray.data_append, Array.toList_append, ByteArray.data_append, Array.toList_append, HF.out, ← e1, ← e2, ← e3]
              unfold oct3
              simp
            · rw [ByteArray.size_append, ByteArray.size_append, HFS.out]
              show 1 + 4 * j + 1 + 3 = _
              omega)
          clear e1 e2 e3
          go_wp2_with fail
          go_region_held_law (fun _ => True) (first | exact trivial) (fail)
          all_goals
            clear w1 w2 w3 w4 w5 w6 w7 hconv
            go_wp2_with fail
            go_roundw
            case rel => exact ⟨j + 1, F ++ ⟨#[92]⟩ ++ ⟨#[y1, y2, y3]⟩, by omega, by go_num, rfl, NF.out.1, NF.out.2, (HBw.out.alloc hbs _).drew⟩
            case measure => simp [intOf]; omega
        · have ej : j = s.size := by omega
          subst ej
          have hf2 : F.data.toList = 40 :: octsL s.data.toList := by rw [HF.out, List.take_of_length_le (by rw [size_len]; exact Nat.le_refl _)]
          have HMr : Hid (MaxLenAt wr) := Lib.hid (HM.out.upto HBw.out (Nat.le_refl _))
          have hE : E.size ≤ 4001 := by omega
          obtain ⟨c1, c2⟩ := next_hex b s.data.toList [120] (by rw [size_len]; omega)
          obtain ⟨d1, d2⟩ := next_octs s.data.toList [120] (by rw [size_len]; omega)
          have eE : (E ++ ⟨#[62, 120]⟩).data.toList = 60 :: (wideL b (hexS s.data.toList) ++ 62 :: [120]) := by rw [ByteArray.data_append, Array.toList_append, HE2.out]; simp
          have eF : (F ++ ⟨#[41, 120]⟩).data.toList = 40 :: (octsL s.data.toList ++ 41 :: [120]) := by rw [ByteArray.data_append, Array.toList_append, hf2]; simp
          have lE : (wideL b (hexS s.data.toList)).length + 1 = E.size := by rw [← size_len, HE2.out]; rfl
          have lF : (octsL s.data.toList).length + 1 = F.size := by rw [← size_len, hf2]; rfl
          have zE : (E ++ ⟨#[62, 120]⟩).size ≤ 100000 := by rw [ByteArray.size_append]; show E.size + 2 ≤ _; omega
          have zF : (F ++ ⟨#[41, 120]⟩).size ≤ 100000 := by rw [ByteArray.size_append]; show F.size + 2 ≤ _; omega
          have N1 := Lib.hid (fun W hW => str_next (E ++ ⟨#[62, 120]⟩) s E.size W hW zE (by rw [nxI_zero, eE]; exact c1) (by rw [nxR_zero, eE, c2]; congr 1; omega))
          have N2 := Lib.hid (fun W hW => str_next (F ++ ⟨#[41, 120]⟩) s F.size W hW zF (by rw [nxI_zero, eF]; exact d1) (by rw [nxR_zero, eF, d2]; congr 1; omega))
          clear c1 c2 d1 d2 eE eF lE lF zE zF hf2
          go_wp2_with fail
          refine (N1.out _ HMr.out).mono ?_
          rintro e w2 ⟨rfl, hb2⟩
          have HB2 := Lib.hid (HBw.out.trans (hb2.mono hbs))
          have HM2 : Hid (MaxLenAt w2) := Lib.hid (HMr.out.upto hb2 (Nat.le_refl _))
          clear hb2
          go_upto_region 16 with (fail)
          obtain ⟨w3, hw3⟩ : ∃ w3, w2.alloc (.cells #[.int .i64 3, .int .i64 0, .int .i64 ((E.size : Int) + 1), .int .i64 0, .string s] 24) = w3 := ⟨_, rfl⟩
          have HX := Lib.hid (show Blk w3 w2.heap.size 24 #[.int .i64 3, .int .i64 0, .int .i64 ((E.size : Int) + 1), .int .i64 0, .string s] by rw [← hw3]; exact Blk.new _ _ _)
          have HB3 := Lib.hid (show Below w.heap.size w w3 by rw [← hw3]; exact HB2.out.alloc HB2.out.size _)
          have HM3 : Hid (MaxLenAt w3) := Lib.hid (by rw [← hw3]; exact HM2.out.alloc _)
          rw [hw3]
          clear hw3
          obtain ⟨g2, hg2⟩ : ∃ g2, w2.heap.size = g2 := ⟨_, rfl⟩
          rw [hg2] at HX
          simp only [hg2]
          clear hg2
          go_wp2_with fail
          refine (N2.out _ HM3.out).mono ?_
          rintro e w4 ⟨rfl, hb4⟩
          go_upto_region 17 with (fail)
          obtain ⟨w5, hw5⟩ : ∃ w5, w4.alloc (.cells #[.int .i64 3, .int .i64 0, .int .i64 ((F.size : Int) + 1), .int .i64 0, .string s] 24) = w5 := ⟨_, rfl⟩
          have hX5 : Blk w5 g2 24 #[.int .i64 3, .int .i64 0, .int .i64 ((E.size : Int) + 1), .int .i64 0, .string s] := by rw [← hw5]; exact (HX.out.below hb4 HX.out.lt).alloc _
          have hY5 : Blk w5 w4.heap.size 24 #[.int .i64 3, .int .i64 0, .int .i64 ((F.size : Int) + 1), .int .i64 0, .string s] := by rw [← hw5]; exact Blk.new _ _ _
          have HB5 := Lib.hid (show Below w.heap.size w w5 by rw [← hw5]; exact (HB3.out.trans (hb4.mono HB3.out.size)).alloc (Nat.le_trans HB3.out.size hb4.size) _)
          have HM5 : Hid (MaxLenAt w5) := Lib.hid (by rw [← hw5]; exact (HM3.out.upto hb4 (Nat.le_refl _)).alloc _)
          rw [hw5]
          clear hw5 hb4
          obtain ⟨g4, hg4⟩ : ∃ g4, w4.heap.size = g4 := ⟨_, rfl⟩
          rw [hg4] at hY5
          simp only [hg4]
          clear hg4
          have x0 := hX5.cell 0
          have x2 := hX5.cell 2
          have x4 := hX5.cell 4
          have y0 := hY5.cell 0
          have y2 := hY5.cell 2
          have y4 := hY5.cell 4
          simp only [List.getElem?_toArray, List.getElem?_cons_zero, List.getElem?_cons_succ] at x0 x2 x4 y0 y2 y4
          clear hX5 hY5
          go_wp2_with fail
          refine (lives_ok _ HM5.out).mono ?_
          rintro e w6 ⟨rfl, hb6⟩
          go_wp2_with fail
          go_ret
          exact ⟨rfl, HB5.out.trans (hb6.mono HB5.out.size)⟩

theorem strings_out (s : ByteArray) (u : Int) (w : World) (hm : MaxLenAt w) (hs : 500 < s.size) :
    Calls Tryd.prog 7 #[.string s, .int .u8 u] w fun e w' => e = .returned (.bool true) ∧ Below w.heap.size w w' := by
  have hs' : (500 : Int) < (s.size : Int) := by omega
  have HM := Lib.hid hm
  clear hm
  go_enter Tryd.func7, Tryd.ntmps7
  go_wp2_with fail
  refine (lives_ok _ HM.out).mono ?_
  rintro e w3 ⟨rfl, hb3⟩
  go_wp2_with fail
  go_ret
  exact ⟨rfl, hb3⟩

theorem lexStringsWalk (s : ByteArray) (u : Int) (w : World) (hm : MaxLenAt w) (wu : (Lit.int .u8 u).wf = true) :
    Calls Tryd.prog 7 #[.string s, .int .u8 u] w fun e w' => e = .returned (.bool true) ∧ Below w.heap.size w w' := by
  have hu : 0 ≤ u ∧ u ≤ 255 := by
    simp [Lit.wf, IntKind.min, IntKind.max, IntKind.signed, IntKind.bits] at wu
    omega
  by_cases h : 500 < s.size
  · exact strings_out s u w hm h
  · exact strings_in s u w hm (by omega) hu.1 hu.2
end Go.Proofs.YtbmiogoigjdceaaDoor
