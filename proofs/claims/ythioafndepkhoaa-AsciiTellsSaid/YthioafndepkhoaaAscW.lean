/-
  The document's Run.
-/
import Derived.Test.YthioafndepkhoaaAscV
import Derived.Test.YthioafndepkhoaaAscL
namespace Go.Proofs.Ythioafndepkhoaa
open Go.RowKit Oct Asc Go.Shelf
attribute [-go_sem] Builtin.append_

/-- Does the literal run go on behind k bytes? -/
def litGo (l : List UInt8) (k : Nat) : Bool := decide (k < 128) && decide (k < l.length) && decide (eqN (l.drop k) < 3)
set_option maxRecDepth 100000 in
set_option maxHeartbeats 8000000 in
theorem runR_any (s : ByteArray) (w : World) (hs : s.size ≤ 4000000) :
    Calls Try.prog 16 #[.string s] w fun e w' => e = .returned (.string ⟨(runE s.data.toList ++ [128]).toArray⟩) ∧ Below w.heap.size w w' := by
  obtain ⟨i5, hi, hz0, hz1, hz2⟩ := info_parts info5
  obtain ⟨L, hL⟩ : ∃ L, runE s.data.toList = L := ⟨_, rfl⟩
  obtain ⟨N, hN⟩ : ∃ N, w.heap.size = N := ⟨_, rfl⟩
  have hwhole : s.extract 0 s.size = s := by
    apply ByteArray.ext
    apply Array.ext'
    exact ext_drop s 0
  rw [hL, hN]
  have hst := Lib.hid (show RunTo N w L (s.extract 0 s.size) [] (.slice none 0 0) w from ⟨World.ownsRow_nil _ _ _ _, by rw [← hN]; exact Below.refl _ _, by rw [List.nil_append, hwhole, hL], by rw [hwhole]; simp; omega⟩)
  have HNW := Lib.hid hN
  have hsl : s.data.toList.length = s.size := by simp
  have HSL := Lib.hid hsl
  clear hL hN hwhole hsl
  go_enter Try.func16, Try.ntmps16
  go_wp2_with fail
  go_loopw [3, 4] (fun v i wr => ∃ (a : Nat) (o : List UInt8), i = .int .i64 (a : Int) ∧ a ≤ s.size ∧ Hid (RunTo N w L (s.extract a s.size) o v wr)) (fun _ i _ => s.size - (intOf i).toNat)
  case atStart => exact ⟨0, [], rfl, Nat.zero_le _, hst⟩
  case round =>
    obtain ⟨a, o, rfl, ha, HR⟩ := hrel
    obtain ⟨h1, h2, h3, h4⟩ := HR.out
    obtain ⟨A, C, hv⟩ := own_form h1
    obtain ⟨q, hq⟩ : ∃ q, o.length = q := ⟨_, rfl⟩
    rw [hq] at hv h1 h4
    rw [ext_drop] at h3
    rw [ByteArray.size_extract] at h4
    subst hv
    have HO := Lib.hid h1
    have HB := Lib.hid h2
    have HL := Lib.hid h3
    have HQ := Lib.hid hq
    clear hst HR
    by_cases hlt : a < s.size
    · have a0 : (0 : Int) ≤ (a : Int) := by omega
      have a1 : (a : Int) < (s.size : Int) := by omega
      obtain ⟨E, hE⟩ : ∃ E, eqN (s.data.toList.drop a) = E := ⟨_, rfl⟩
      have HEq := Lib.hid (fun W : World => alike_in s a W hlt (by omega))
      rw [hE] at HEq
      have HE := Lib.hid hE
      have hdl : (s.data.toList.drop a).length = s.size - a := by rw [List.length_drop, HSL.out]
      have hne : s.data.toList.drop a ≠ [] := by intro e; rw [e] at hdl; simp at hdl; omega
      have HNE := Lib.hid hne
      by_cases h3e : 3 ≤ E
      · have h3i : (3 : Int) ≤ (E : Int) := by omega
        obtain ⟨e1, e2⟩ := eqN_le (s.data.toList.drop a)
        rw [hE] at e1 e2
        rw [hdl] at e1
        clear hne hdl h1 h2 h3 hE hq
        go_wp2_with fail
        refine (HEq.out _).mono ?_
        rintro e w1 ⟨rfl, d1, rfl⟩
        obtain ⟨W, hW⟩ : ∃ W, wr.drewN d1 = W := ⟨_, rfl⟩
        have hrow : W.ownsRow N 5 1 (.slice A q C) q (cellsOf o) := by rw [← hW]; exact HO.out
        have hbW : Below N w W := by rw [← hW]; exact below_drewN HB.out _
        rw [hW]
        obtain ⟨b, hb⟩ : ∃ b : UInt8, UInt8.ofNat (257 - E) = b := ⟨_, rfl⟩
        have hbw : (b.toNat : Int) = 257 - (E : Int) := by rw [← hb, UInt8.toNat_ofNat']; omega
        have hWN : N ≤ W.heap.size := by have := hbW.size; rw [HNW.out] at this; exact this
        obtain ⟨v2, w2, hrun, hown2, hgrow2, _⟩ := run_append_own (P := Try.prog) (w := W.alloc (.cells #[.int .u8 (b.toNat : Int), .int .u8 (s[a].toNat : Int)] 5)) N 30 30 5 i5 (.int .u8 0) 1 1 Try.underlying30 hi hz0 hz1 hz2 rfl (by decide) (.slice A q C) q (cellsOf o) (hrow.alloc _) ⟨W.heap.size, 0, none⟩ 2 2 [.int .u8 (b.toNat : Int), .int .u8 (s[a].toNat : Int)] (by rfl) (World.news_of_block (heap_alloc_new W _)) (by simp [Value.oneCell']) (by unfold maxLen; omega) (by omega) (by rw [World.size_alloc]; omega)
        replace hrun : Sem.run Try.prog (Builtin.append_ #[30, 30] 30 #[.slice A q C, .slice (some ⟨W.heap.size, 0, none⟩) 2 2]) (W.alloc (.cells #[.int .u8 (257 - (E : Int)), .int .u8 (s[a].toNat : Int)] 5)) = .ok v2 w2 := by rw [← hbw]; exact hrun
        have hb2 : Below N w w2 := (hbW.alloc hWN _).grown hgrow2 (by rw [World.size_alloc]; omega) (fun g h => (hrow.lt g h).1)
        have hN2 := Lib.hid (show RunTo N w L (s.extract (a + E) s.size) (o ++ [b, s[a]]) v2 w2 from by
          have hlen : (o ++ [b, s[a]]).length = q + 2 := by rw [List.length_append, HQ.out]; rfl
          refine ⟨?_, hb2, ?_, ?_⟩
          · rw [hlen, cellsOf_append]
            exact hown2
          · obtain ⟨c, t, hct⟩ := List.exists_cons_of_ne_nil HNE.out
            have hc0 : s[a] = c := by
              have h5 : (s.data.toList.drop a)[0]? = some c := by rw [hct]; rfl
              have h6 : (s.data.toList.drop a)[0]? = some s[a] := by
                rw [List.getElem?_drop, List.getElem?_eq_getElem (by rw [HSL.out]; omega)]; rfl
              rw [h6] at h5
              injection h5
            have hd : s.data.toList.drop (a + E) = (c :: t).drop E := by rw [← hct, List.drop_drop]
            rw [HL.out, ext_drop, hd, hc0, hct, runE_run (by rw [← hct, HE.out]; exact h3e), ← hct, HE.out, hb]
            simp
          · rw [hlen, ByteArray.size_extract]; omega)
        obtain ⟨A4, C4, hv4⟩ := own_form hown2
        have hE0 : (0 : Int) ≤ (E : Int) := by omega
        have hE2 : (E : Int) ≤ 128 := by omega
        have hE3 : (a : Int) + (E : Int) ≤ (s.size : Int) := by omega
        have hE4 : a + E ≤ s.size := by omega
        clear hrow hbW hb hbw hown2 hgrow2 hb2 hW
        go_wp2_with fail
        go_roundw
        case rel => exact ⟨a + E, _, by go_num, hE4, by rw [hv4] at hN2; exact hN2⟩
        case measure => simp [intOf]; omega
      · have h3i : ¬ (3 : Int) ≤ (E : Int) := by omega
        have h3n : E < 3 := by omega
        obtain ⟨T, hT⟩ : ∃ T, litT 128 (s.data.toList.drop a) = T := ⟨_, rfl⟩
        have HT := Lib.hid hT
        have HDL := Lib.hid hdl
        obtain ⟨t1, t2⟩ := litT_le 128 (s.data.toList.drop a)
        have t3 := litT_pos (k := 128) (by decide) hne (by omega)
        rw [hT] at t1 t2 t3
        rw [hdl] at t1
        clear hne h1 h2 h3 hE hq hT
        go_wp2_with fail
        refine (HEq.out _).mono ?_
        rintro e w1 ⟨rfl, d1, rfl⟩
        go_wp2_with fail
        go_loopw [5] (fun i w4 => ∃ k d : Nat, k ≤ 128 ∧ a + k ≤ s.size ∧ i = .int .i64 (k : Int) ∧ Hid (∀ j, j < k → eqN ((s.data.toList.drop a).drop j) < 3) ∧ w4 = wr.drewN d) (fun i _ => 128 - (intOf i).toNat)
        case atStart => exact ⟨0, d1, by omega, by omega, rfl, Lib.hid (fun j hj => by omega), rfl⟩
        case round =>
          obtain ⟨k, d, hk1, hk2, rfl, HJ, rfl⟩ := hrel
          have k0 : (0 : Int) ≤ (k : Int) := by omega
          have k1 : (0 : Int) ≤ (a : Int) + (k : Int) := by omega
          go_upto_region 9 with fail
          go_cut [44] (fun b wx => b = .bool (litGo (s.data.toList.drop a) k) ∧ ∃ m, wx = wr.drewN m)
          case first =>
            as_aux_lemma =>
              by_cases g1 : k < 128
              · have i1 : (k : Int) < 128 := by omega
                by_cases g2 : a + k < s.size
                · have i2 : (a : Int) + (k : Int) < (s.size : Int) := by omega
                  obtain ⟨F, hF⟩ : ∃ F, eqN (s.data.toList.drop (a + k)) = F := ⟨_, rfl⟩
                  have HF := Lib.hid (fun W : World => alike_in s (a + k) W g2 (by omega))
                  rw [hF] at HF
                  have hcast : (((a + k : Nat) : Int)) = (a : Int) + (k : Int) := by omega
                  rw [hcast] at HF
                  by_cases g3 : F < 3
                  · have i3 : (F : Int) < 3 := by omega
                    have G : Hid (litGo (s.data.toList.drop a) k = true) := Lib.hid (by unfold litGo; rw [HDL.out, List.drop_drop, hF, decide_eq_true g1, decide_eq_true (show k < s.size - a by omega), decide_eq_true g3]; rfl)
                    clear hF
                    go_wp2_with fail
                    refine (HF.out _).mono ?_
                    rintro e w2 ⟨rfl, d2, rfl⟩
                    go_wp2_with fail
                    go_meet
                    rw [G.out]
                    exact ⟨rfl, _, rfl⟩
                  · have i3 : decide ((F : Int) < 3) = false := decide_eq_false (by omega)
                    have G : Hid (litGo (s.data.toList.drop a) k = false) := Lib.hid (by unfold litGo; rw [HDL.out, List.drop_drop, hF, decide_eq_false g3]; simp)
                    clear hF
                    go_wp2_with fail
                    refine (HF.out _).mono ?_
                    rintro e w2 ⟨rfl, d2, rfl⟩
                    go_wp2_with fail
                    go_meet
                    rw [G.out]
                    exact ⟨rfl, _, rfl⟩
                · have i2 : decide ((a : Int) + (k : Int) < (s.size : Int)) = false := decide_eq_false (by omega)
                  have G : Hid (litGo (s.data.toList.drop a) k = false) := Lib.hid (by unfold litGo; rw [HDL.out, decide_eq_false (show ¬ k < s.size - a by omega)]; simp)
                  go_wp2_with fail
                  go_meet
                  rw [G.out]
                  exact ⟨rfl, _, rfl⟩
              · have i1 : decide ((k : Int) < 128) = false := decide_eq_false (by omega)
                have G : Hid (litGo (s.data.toList.drop a) k = false) := Lib.hid (by unfold litGo; rw [decide_eq_false g1]; simp)
                go_wp2_with fail
                go_meet
                rw [G.out]
                exact ⟨rfl, _, rfl⟩
          case rest =>
            obtain ⟨rfl, mm, rfl⟩ := hcut
            by_cases hg : litGo (s.data.toList.drop a) k = true
            · have hg2 := hg
              unfold litGo at hg2
              simp only [Bool.and_eq_true, decide_eq_true_eq] at hg2
              obtain ⟨⟨g1, g2⟩, g3⟩ := hg2
              rw [HDL.out] at g2
              have HJ2 := Lib.hid (fun j (hj : j < k + 1) => show eqN ((s.data.toList.drop a).drop j) < 3 by
                by_cases e : j = k
                · subst e; exact g3
                · exact HJ.out j (by omega))
              rw [hg]
              clear hg g3
              go_wp2_with fail
              go_roundw
              case rel => exact ⟨k + 1, mm, by omega, by omega, by go_num, HJ2, rfl⟩
              case measure => simp [intOf]; omega
            · have hgf : litGo (s.data.toList.drop a) k = false := by simpa using hg
              have hTk : T = k := by
                rw [← HT.out]
                refine litT_at (by omega) (by rw [HDL.out]; omega) HJ.out ?_
                unfold litGo at hgf
                rw [HDL.out] at hgf
                by_cases g1 : k < 128
                · by_cases g2 : k < s.size - a
                  · rw [decide_eq_true g1, decide_eq_true g2] at hgf
                    simp only [Bool.and_self, Bool.true_and, decide_eq_false_iff_not] at hgf
                    exact .inr (by omega)
                  · exact .inl (by rw [HDL.out]; omega)
                · exact .inl (by rw [HDL.out]; omega)
              subst hTk
              rw [hgf]
              have HJ2 := HJ
              clear hg hgf HJ k0 k1 hk1 hk2
              have hT0 : (0 : Int) ≤ (T : Int) := by omega
              have hT1 : (1 : Int) ≤ (T : Int) := by omega
              have hT2 : (T : Int) ≤ 128 := by omega
              have hT3 : (a : Int) + (T : Int) ≤ (s.size : Int) := by omega
              have hT4 : (0 : Int) ≤ (a : Int) + (T : Int) := by omega
              have hT5 : (a : Int) ≤ (a : Int) + (T : Int) := by omega
              go_wp2_with fail
              obtain ⟨W, hW⟩ : ∃ W, wr.drewN mm = W := ⟨_, rfl⟩
              have hrow : W.drew.ownsRow N 5 1 (.slice A q C) q (cellsOf o) := by rw [← hW]; exact HO.out
              have hbW : Below N w W := by rw [← hW]; exact below_drewN HB.out _
              rw [hW]
              obtain ⟨z, zz0⟩ : ∃ z, a + T = z := ⟨_, rfl⟩
              have zz1 : (a : Int) ≤ (z : Int) := by omega
              have zz2 : (z : Int) ≤ (s.size : Int) := by omega
              have zz3 : (0 : Int) ≤ (z : Int) := by omega
              have zz4 : IntKind.i64.wrap ((a : Int) + (T : Int)) = (z : Int) := by rw [show (a : Int) + (T : Int) = (z : Int) by omega]; exact IntWalk.i64_in _ (by omega)
              obtain ⟨X, hX⟩ : ∃ X, s.extract a z = X := ⟨_, rfl⟩
              have hXl : X.data.toList = (s.data.toList.drop a).take T := by
                rw [← hX, ByteArray.data_extract, Array.toList_extract, List.extract_eq_take_drop, show z - a = T by omega]
              have hXs : X.size = T := by rw [← hX, ByteArray.size_extract]; omega
              obtain ⟨b, hb⟩ : ∃ b : UInt8, UInt8.ofNat (T - 1) = b := ⟨_, rfl⟩
              have hbi : (b.toNat : Int) = (T : Int) - 1 := by rw [← hb, UInt8.toNat_ofNat']; omega
              have hbw : (b.toNat : Int) = IntKind.u8.wrap (IntKind.i64.wrap ((T : Int) - 1)) := by
                rw [IntWalk.i64_in _ (by omega)]
                show (b.toNat : Int) = ((T : Int) - 1) % 256
                omega
              have hWN : N ≤ W.heap.size := by have := hbW.size; rw [HNW.out] at this; exact this
              have hw2 : q + 1 ≤ 8000001 := by omega
              obtain ⟨v2, w2, hrun, hown2, hgrow2, _⟩ := run_append_own (P := Try.prog) (w := W.drew.alloc (.cells #[.int .u8 (b.toNat : Int)] 5)) N 30 30 5 i5 (.int .u8 0) 1 1 Try.underlying30 hi hz0 hz1 hz2 rfl (by decide) (.slice A q C) q (cellsOf o) (hrow.alloc _) ⟨W.heap.size, 0, none⟩ 1 1 [.int .u8 (b.toNat : Int)] (by rfl) (World.news_of_block (heap_alloc_new W.drew _)) (by simp [Value.oneCell']) (by unfold maxLen; omega) (by omega) (by show N ≤ (W.drew.alloc _).heap.size; rw [World.size_alloc]; show N ≤ W.heap.size + 1; omega)
              replace hrun : Sem.run Try.prog (Builtin.append_ #[30, 30] 30 #[.slice A q C, .slice (some ⟨W.heap.size, 0, none⟩) 1 1]) (W.alloc (.cells #[.int .u8 (IntKind.u8.wrap (IntKind.i64.wrap ((T : Int) - 1)))] 5)).drew = .ok v2 w2 := by rw [← hbw]; exact hrun
              have hb2 : Below N w w2 := ((below_drewN hbW 1).alloc (by show N ≤ W.heap.size; exact hWN) _).grown hgrow2 (by rw [World.size_alloc]; show N ≤ W.heap.size + 1; omega) (fun g h => (hrow.lt g h).1)
              have hb2s : N ≤ w2.heap.size := by have := hb2.size; rw [HNW.out] at this; exact this
              obtain ⟨v4, w4, hrun4, hown4, hgrow4, _⟩ := run_append_string_at (P := Try.prog) w2 N 30 9 30 5 i5 Try.underlying30 Try.underlying9 hi hz0 hz1 hz2 v2 (q + 1) _ hown2 X (by unfold maxLen; omega) (by omega) hb2s
              have hb4 : Below N w w4 := hb2.grown hgrow4 hb2s (fun g h => (hown2.lt g h).1)
              have hN2 := Lib.hid (show RunTo N w L (s.extract (a + T) s.size) (o ++ (b :: (s.data.toList.drop a).take T)) v4 w4 from by
                have hlen : (o ++ (b :: (s.data.toList.drop a).take T)).length = q + 1 + X.size := by
                  rw [List.length_append, HQ.out, List.length_cons, ← hXl, ← len_size rfl]
                  omega
                refine ⟨?_, hb4, ?_, ?_⟩
                · rw [hlen]
                  rw [str_cellsA, hXl] at hown4
                  have e : cellsOf (o ++ (b :: (s.data.toList.drop a).take T)) = cellsOf o ++ [.int .u8 (b.toNat : Int)] ++ cellsOf ((s.data.toList.drop a).take T) := by unfold cellsOf; simp
                  rw [e]
                  exact hown4
                · have hd : s.data.toList.drop (a + T) = (s.data.toList.drop a).drop T := by rw [List.drop_drop]
                  rw [HL.out, ext_drop, hd, runE_lit (l := s.data.toList.drop a) HNE.out (by rw [HE.out]; omega), HT.out, hb]
                  simp
                · rw [hlen, ByteArray.size_extract]; omega)
              obtain ⟨A4, C4, hv4⟩ := own_form hown4
              have hT6 : a + T ≤ s.size := by omega
              clear hrow hbW hXl hb hbi hbw hown2 hgrow2 hb2 hb2s hown4 hgrow4 hb4 hW
              go_region_held3 (fun _ => True) (first | exact trivial) (fail)
              all_goals
                go_wp2_with fail
                go_roundw
                case rel => exact ⟨a + T, _, by go_num, hT6, by rw [hv4, hXs] at hN2; exact hN2⟩
                case measure => simp [intOf]; omega
    · have hae : a = s.size := by omega
      subst hae
      have hR0 : s.data.toList.drop s.size = [] := List.drop_of_length_le (by rw [HSL.out]; exact Nat.le_refl _)
      have hWN : N ≤ wr.heap.size := by have := h2.size; rw [HNW.out] at this; exact this
      obtain ⟨v2, w2, hrun, hown2, hgrow2, _⟩ := run_append_own (P := Try.prog) (w := wr.alloc (.cells #[.int .u8 128] 5)) N 30 30 5 i5 (.int .u8 0) 1 1 Try.underlying30 hi hz0 hz1 hz2 rfl (by decide) (.slice A q C) q (cellsOf o) (h1.alloc _) ⟨wr.heap.size, 0, none⟩ 1 1 [.int .u8 128] (by rfl) (World.news_of_block (heap_alloc_new wr _)) (by simp [Value.oneCell']) (by unfold maxLen; omega) (by omega) (by rw [World.size_alloc]; omega)
      have hb2 : Below N w w2 := (h2.alloc hWN _).grown hgrow2 (by rw [World.size_alloc]; omega) (fun g h => (h1.lt g h).1)
      obtain ⟨A4, C4, hv4⟩ := own_form hown2
      have hconv := run_string_of_own (l := o ++ [128]) (by rw [cellsOf_append]; exact hown2) (by rw [List.length_append, HQ.out]; rfl)
      have HB2 := Lib.hid hb2
      have HL2 := Lib.hid (show o ++ [128] = L ++ [128] by rw [HL.out, hR0, runE_nil, List.append_nil])
      subst hv4
      clear hown2 hgrow2 hb2 h1 h2 h3 hq
      go_wp2_with fail
      go_ret
      exact ⟨by rw [← HL2.out]; rfl, HB2.out⟩
end Go.Proofs.Ythioafndepkhoaa
