/-
  ascii's Run.
-/
import Derived.Test.YthioafndepkhoaaAscJ
import Derived.Test.YthioafndepkhoaaStrAt
namespace Go.Proofs.Ythioafndepkhoaa
open Go.RowKit Oct Asc Go.Shelf
attribute [-go_sem] Builtin.append_

theorem str_cellsA (s : ByteArray) : Lib.strCells s = cellsOf s.data.toList := by
  unfold Lib.strCells cellsOf
  simp
/-- What Run has written: a row of the call's own. -/
def RunTo (N : Nat) (w : World) (L : List UInt8) (R : ByteArray) (o : List UInt8) (v : Value) (wr : World) : Prop :=
  wr.ownsRow N 5 1 v o.length (cellsOf o) ∧ Below N w wr ∧ L = o ++ runE R.data.toList ∧ o.length + 2 * R.size ≤ 2 * 4000000

set_option maxRecDepth 100000 in
set_option maxHeartbeats 4000000 in
theorem run_any (s : ByteArray) (w : World) (hs : s.size ≤ 4000000) :
    Calls Try.prog 15 #[.string s] w fun e w' => e = .returned (.string ⟨(runE s.data.toList ++ [128]).toArray⟩) ∧ Below w.heap.size w w' := by
  obtain ⟨i5, hi, hz0, hz1, hz2⟩ := info_parts info5
  obtain ⟨L, hL⟩ : ∃ L, runE s.data.toList = L := ⟨_, rfl⟩
  obtain ⟨N, hN⟩ : ∃ N, w.heap.size = N := ⟨_, rfl⟩
  rw [hL, hN]
  have hst := Lib.hid (show RunTo N w L s [] (.slice none 0 0) w from ⟨World.ownsRow_nil _ _ _ _, by rw [← hN]; exact Below.refl _ _, by rw [List.nil_append, hL], by simp; omega⟩)
  have HNW := Lib.hid hN
  clear hL hN
  go_enter Try.func15, Try.ntmps15
  go_wp2_with fail
  go_loopw [0, 3] (fun sv v wr => ∃ (R : ByteArray) (o : List UInt8), sv = .string R ∧ R.size ≤ s.size ∧ Hid (RunTo N w L R o v wr)) (fun sv _ _ => match sv with | .string R => R.size | _ => 0)
  case atStart => exact ⟨s, [], rfl, Nat.le_refl _, hst⟩
  case round =>
    obtain ⟨R, o, rfl, hRs, HR⟩ := hrel
    obtain ⟨h1, h2, h3, h4⟩ := HR.out
    obtain ⟨A, C, hv⟩ := own_form h1
    obtain ⟨q, hq⟩ : ∃ q, o.length = q := ⟨_, rfl⟩
    rw [hq] at hv h1 h4
    subst hv
    have HO := Lib.hid h1
    have HB := Lib.hid h2
    have HL := Lib.hid h3
    have HQ := Lib.hid hq
    clear hst HR
    rcases Nat.eq_zero_or_pos R.size with hz | hpos
    · have hR0 : R.data.toList = [] := List.eq_nil_of_length_eq_zero (by have e : R.data.toList.length = R.size := (by simp); omega)
      have hemp : R.toList.isEmpty = true := by
        cases h : R.toList.isEmpty with
        | true => rfl
        | false => exact absurd hR0 (empty_no h)
      have hWN : N ≤ wr.heap.size := by have := h2.size; rw [HNW.out] at this; exact this
      obtain ⟨v2, w2, hrun, hown2, hgrow2, _⟩ := run_append_own (P := Try.prog) (w := wr.alloc (.cells #[.int .u8 128] 5)) N 30 30 5 i5 (.int .u8 0) 1 1 Try.underlying30 hi hz0 hz1 hz2 rfl (by decide) (.slice A q C) q (cellsOf o) (h1.alloc _) ⟨wr.heap.size, 0, none⟩ 1 1 [.int .u8 128] (by rfl) (World.news_of_block (heap_alloc_new wr _)) (by simp [Value.oneCell']) (by unfold maxLen; omega) (by omega) (by rw [World.size_alloc]; omega)
      have hb2 : Below N w w2 := (h2.alloc hWN _).grown hgrow2 (by rw [World.size_alloc]; omega) (fun g h => (h1.lt g h).1)
      obtain ⟨A4, C4, hv4⟩ := own_form hown2
      have hconv := run_string_of_own (l := o ++ [128]) (by rw [cellsOf_append]; exact hown2) (by rw [List.length_append, HQ.out]; rfl)
      have HB2 := Lib.hid hb2
      have HL2 := Lib.hid (show o ++ [128] = L ++ [128] by rw [HL.out, hR0, runE_nil, List.append_nil])
      subst hv4
      clear hown2 hgrow2 hb2 h1 h2 h3 hq
      go_wp2_with fail
      go_ret
      exact ⟨by rw [← HL2.out]; rfl, HB2.out⟩
    · have hl : R.data.toList.length = R.size := by simp
      have hne : R.data.toList ≠ [] := by intro e; rw [e] at hl; simp at hl; omega
      have hne2 : R.toList.isEmpty = false := by
        cases h : R.toList.isEmpty with
        | false => rfl
        | true => exact absurd (empty_yes h) hne
      obtain ⟨E, hE⟩ : ∃ E, eqN R.data.toList = E := ⟨_, rfl⟩
      have HEq := Lib.hid (fun W : World => equal_any R W hpos (by omega))
      rw [hE] at HEq
      have HE := Lib.hid hE
      by_cases h3e : 3 ≤ E
      · have h3i : (3 : Int) ≤ (E : Int) := by omega
        obtain ⟨e1, e2⟩ := eqN_le R.data.toList
        rw [hE] at e1 e2
        rw [hl] at e1
        have HNE := Lib.hid hne
        clear hne hl h1 h2 h3 hE hq
        go_wp2_with fail
        refine (HEq.out _).mono ?_
        rintro e w1 ⟨rfl, d1, rfl⟩
        obtain ⟨W, hW⟩ : ∃ W, wr.drewN d1 = W := ⟨_, rfl⟩
        have hrow : W.ownsRow N 5 1 (.slice A q C) q (cellsOf o) := by rw [← hW]; exact HO.out
        have hbW : Below N w W := by rw [← hW]; exact below_drewN HB.out _
        rw [hW]
        obtain ⟨Y, hY⟩ : ∃ Y, R.extract E R.size = Y := ⟨_, rfl⟩
        have hYl : Y.data.toList = R.data.toList.drop E := by rw [← hY]; exact (ext_many rfl E).2
        have hYs : Y.size = R.size - E := by rw [← hY, ByteArray.size_extract]; omega
        obtain ⟨b, hb⟩ : ∃ b : UInt8, UInt8.ofNat (257 - E) = b := ⟨_, rfl⟩
        have hbw : (b.toNat : Int) = 257 - (E : Int) := by rw [← hb, UInt8.toNat_ofNat']; omega
        have hWN : N ≤ W.heap.size := by have := hbW.size; rw [HNW.out] at this; exact this
        obtain ⟨v2, w2, hrun, hown2, hgrow2, _⟩ := run_append_own (P := Try.prog) (w := W.alloc (.cells #[.int .u8 (b.toNat : Int), .int .u8 (R[0].toNat : Int)] 5)) N 30 30 5 i5 (.int .u8 0) 1 1 Try.underlying30 hi hz0 hz1 hz2 rfl (by decide) (.slice A q C) q (cellsOf o) (hrow.alloc _) ⟨W.heap.size, 0, none⟩ 2 2 [.int .u8 (b.toNat : Int), .int .u8 (R[0].toNat : Int)] (by rfl) (World.news_of_block (heap_alloc_new W _)) (by simp [Value.oneCell']) (by unfold maxLen; omega) (by omega) (by rw [World.size_alloc]; omega)
        replace hrun : Sem.run Try.prog (Builtin.append_ #[30, 30] 30 #[.slice A q C, .slice (some ⟨W.heap.size, 0, none⟩) 2 2]) (W.alloc (.cells #[.int .u8 (257 - (E : Int)), .int .u8 (R[0].toNat : Int)] 5)) = .ok v2 w2 := by rw [← hbw]; exact hrun
        have hb2 : Below N w w2 := (hbW.alloc hWN _).grown hgrow2 (by rw [World.size_alloc]; omega) (fun g h => (hrow.lt g h).1)
        have hN2 := Lib.hid (show RunTo N w L Y (o ++ [b, R[0]]) v2 w2 from by
          have hlen : (o ++ [b, R[0]]).length = q + 2 := by rw [List.length_append, HQ.out]; rfl
          refine ⟨?_, hb2, ?_, ?_⟩
          · rw [hlen, cellsOf_append]
            exact hown2
          · obtain ⟨c, t, hct⟩ := List.exists_cons_of_ne_nil HNE.out
            have hc0 : R[0] = c := by
              have : R.data.toList[0]? = some c := by rw [hct]; rfl
              have h2 : R.data.toList[0]? = some R[0] := by rw [List.getElem?_eq_getElem (by rw [hct]; simp)]; rfl
              rw [h2] at this
              injection this
            rw [HL.out, hYl, hc0, hct, runE_run (by rw [← hct, HE.out]; exact h3e), ← hct, HE.out, hb]
            simp
          · rw [hlen]; omega)
        obtain ⟨A4, C4, hv4⟩ := own_form hown2
        have hE0 : (0 : Int) ≤ (E : Int) := by omega
        have hE2 : (E : Int) ≤ 128 := by omega
        have hE3 : (E : Int) ≤ (R.size : Int) := by omega
        have hR0 : (0 : Int) < (R.size : Int) := by omega
        have hYlt : Y.size < R.size := by omega
        have hYs2 : Y.size ≤ s.size := by omega
        clear hrow hbW hYl hb hbw hown2 hgrow2 hb2 hW
        go_wp2_with fail
        go_roundw
        case rel => exact ⟨Y, _, rfl, hYs2, by rw [hv4] at hN2; exact hN2⟩
        case measure => exact hYlt
      · have h3i : ¬ (3 : Int) ≤ (E : Int) := by omega
        obtain ⟨T, hT⟩ : ∃ T, litT 128 R.data.toList = T := ⟨_, rfl⟩
        have HLt := Lib.hid (fun W : World => literal_any R W hpos (by omega) (by rw [hE]; omega))
        rw [hT] at HLt
        have HT := Lib.hid hT
        have HNE := Lib.hid hne
        obtain ⟨t1, t2⟩ := litT_le 128 R.data.toList
        have t3 := litT_pos (k := 128) (by decide) hne (by omega)
        rw [hT] at t1 t2 t3
        rw [hl] at t1
        clear hne hl h1 h2 h3 hE hq
        go_wp2_with fail
        refine (HEq.out _).mono ?_
        rintro e w1 ⟨rfl, d1, rfl⟩
        go_wp2_with fail
        refine (HLt.out _).mono ?_
        rintro e w1 ⟨rfl, d2, rfl⟩
        go_wp2_with fail
        obtain ⟨W, hW⟩ : ∃ W, wr.drewN (d1 + d2) = W := ⟨_, rfl⟩
        have hrow : W.drew.ownsRow N 5 1 (.slice A q C) q (cellsOf o) := by rw [← hW]; exact HO.out
        have hbW : Below N w W := by rw [← hW]; exact below_drewN HB.out _
        rw [hW]
        obtain ⟨X, hX⟩ : ∃ X, R.extract 0 T = X := ⟨_, rfl⟩
        have hXl : X.data.toList = R.data.toList.take T := by rw [← hX]; exact (ext_many rfl T).1
        have hXs : X.size = T := by rw [← hX, ByteArray.size_extract]; omega
        obtain ⟨Y, hY⟩ : ∃ Y, R.extract T R.size = Y := ⟨_, rfl⟩
        have hYl : Y.data.toList = R.data.toList.drop T := by rw [← hY]; exact (ext_many rfl T).2
        have hYs : Y.size = R.size - T := by rw [← hY, ByteArray.size_extract]; omega
        obtain ⟨b, hb⟩ : ∃ b : UInt8, UInt8.ofNat (T - 1) = b := ⟨_, rfl⟩
        have hbi : (b.toNat : Int) = (T : Int) - 1 := by rw [← hb, UInt8.toNat_ofNat']; omega
        have hbw : (b.toNat : Int) = IntKind.u8.wrap (IntKind.i64.wrap ((T : Int) - 1)) := by
          rw [IntWalk.i64_in _ (by omega)]
          show (b.toNat : Int) = ((T : Int) - 1) % 256
          omega
        have hWN : N ≤ W.heap.size := by have := hbW.size; rw [HNW.out] at this; exact this
        have hw2 : q + 1 ≤ 8000001 := by omega
        obtain ⟨v2, w2, hrun, hown2, hgrow2, _⟩ := run_append_own (P := Try.prog) (w := W.drew.alloc (.cells #[.int .u8 (b.toNat : Int)] 5)) N 30 30 5 i5 (.int .u8 0) 1 1 Try.underlying30 hi hz0 hz1 hz2 rfl (by decide) (.slice A q C) q (cellsOf o) (hrow.alloc _) ⟨W.heap.size, 0, none⟩ 1 1 [.int .u8 (b.toNat : Int)] (by rfl) (World.news_of_block (heap_alloc_new W.drew _)) (by simp [Value.oneCell']) (by unfold maxLen; omega) (by omega) (by show N ≤ (W.drew.alloc _).heap.size; rw [World.size_alloc]; show N ≤ W.heap.size + 1; omega)
        replace hrun : Sem.run Try.prog (Builtin.append_ #[30, 30] 30 #[.slice A q C, .slice (some ⟨W.heap.size, 0, none⟩) 1 1]) (W.alloc (.cells #[.int .u8 (IntKind.u8.wrap (IntKind.i64.wrap ((T : Int) - 1)))] 5)).drew = .ok v2 w2 := by rw [← hbw]; exact hrun
        have hb2 : Below N w w2 := ((below_drewN hbW 1).alloc (by show N ≤ W.heap.size; exact hWN) _).grown hgrow2 (by rw [World.size_alloc]; show N ≤ W.heap.size + 1; omega) (fun g h => (hrow.lt g h).1)
        have hb2s : N ≤ w2.heap.size := by have := hb2.size; rw [HNW.out] at this; exact this
        obtain ⟨v4, w4, hrun4, hown4, hgrow4, _⟩ := run_append_string_at (P := Try.prog) w2 N 30 9 30 5 i5 Try.underlying30 Try.underlying9 hi hz0 hz1 hz2 v2 (q + 1) _ hown2 X (by unfold maxLen; omega) (by omega) hb2s
        have hb4 : Below N w w4 := hb2.grown hgrow4 hb2s (fun g h => (hown2.lt g h).1)
        have hN2 := Lib.hid (show RunTo N w L Y (o ++ (b :: R.data.toList.take T)) v4 w4 from by
          have hlen : (o ++ (b :: R.data.toList.take T)).length = q + 1 + X.size := by
            rw [List.length_append, HQ.out, List.length_cons, ← hXl, ← len_size rfl]
            omega
          refine ⟨?_, hb4, ?_, ?_⟩
          · rw [hlen]
            rw [str_cellsA, hXl] at hown4
            have e : cellsOf (o ++ (b :: R.data.toList.take T)) = cellsOf o ++ [.int .u8 (b.toNat : Int)] ++ cellsOf (R.data.toList.take T) := by unfold cellsOf; simp
            rw [e]
            exact hown4
          · rw [HL.out, runE_lit (l := R.data.toList) HNE.out (by rw [HE.out]; omega), HT.out, hYl, hb]
            simp
          · rw [hlen]; omega)
        have hT0 : (0 : Int) ≤ (T : Int) := by omega
        have hT1 : (1 : Int) ≤ (T : Int) := by omega
        have hT2 : (T : Int) ≤ 128 := by omega
        have hT3 : (T : Int) ≤ (R.size : Int) := by omega
        obtain ⟨A4, C4, hv4⟩ := own_form hown4
        clear hrow hbW hXl hYl hb hbi hbw hown2 hgrow2 hb2 hb2s hown4 hgrow4 hb4 hW
        go_region_held3 (fun _ => True) (first | exact trivial) (fail)
        have hYlt : Y.size < R.size := by omega
        have hYs2 : Y.size ≤ s.size := by omega
        go_wp2_with fail
        go_roundw
        case rel => exact ⟨Y, _, rfl, hYs2, by rw [hv4, hXs] at hN2; exact hN2⟩
        case measure => exact hYlt
end Go.Proofs.Ythioafndepkhoaa
