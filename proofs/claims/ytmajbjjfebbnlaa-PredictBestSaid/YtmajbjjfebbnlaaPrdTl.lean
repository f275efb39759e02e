/-
  For all arguments PredictTells returns true: Encode and Decode answer what the document's do (no condition on the arguments).
-/
import Derived.Test.YtmajbjjfebbnlaaPrdLv
import Derived.Test.YtmajbjjfebbnlaaPrdI
import Derived.Test.YtmajbjjfebbnlaaPrdF
import Derived.Test.YtmajbjjfebbnlaaRowKeep
import Derived.Deep.RegionHeld3
import Derived.Lib.SmallJoins
import Derived.HandedShaped
import Derived.OpenShut
import Derived.ChangeMaps5
namespace Go.Proofs.Ytmajbjjfebbnlaa
open Go.ChangeShapes Go.WideShapes Go.ChangeAt Go.RowKit Oct Prd

theorem decD_any (s : ByteArray) (pr co cl : Int) (w : World) (hs : s.size ≤ 4000) (h0 : I64 pr) (h1 : I64 co) (h2 : I64 cl) :
    Calls Try.prog 11 #[parmsV pr co cl, .string s] w (CodeIs (decF pr co cl s.data.toList) w) := by
  unfold CodeIs decF
  by_cases hok : okP pr co cl = false
  · rw [if_pos hok]
    exact badDecode s pr co cl w h0 h1 h2 hok
  · rw [if_neg hok]
    have hok' : okP pr co cl = true := by simpa using hok
    by_cases hp : pr = 1
    · rw [if_pos hp, list_arr rfl]
      exact oneDecode s pr co cl w h0 h1 h2 hok' hp hs
    · rw [if_neg hp]
      obtain ⟨p, c, k, n, rfl, rfl, rfl, hn, hn', hn1, hn2, hc1, hc2, hk2, hpp⟩ := ok_parts hok'
      have hpr : p = 2 ∨ 10 ≤ p ∧ p ≤ 15 := by
        rcases hpp with h | h
        · exact absurd (by rw [h]; rfl) hp
        · exact h
      have hl : s.data.toList.length = s.size := by simp
      rw [hn', hl, Int.toNat_natCast, Int.toNat_natCast]
      by_cases hr : s.size % (n + tgs p) = 0
      · rw [if_neg (fun h => h hr)]
        obtain ⟨m, hm⟩ : ∃ m, s.size / (n + tgs p) = m := ⟨_, rfl⟩
        rw [hm]
        obtain ⟨⟨x, r⟩, hF⟩ : ∃ z, decRes (decR p c (n + tgs p) s.data.toList m) = z := ⟨_, rfl⟩
        rw [hF]
        refine decD_rows s s.data.toList p c k n (n + tgs p) m x r w rfl hpr hok' hn rfl ?_ hs hc2 hk2 hF
        have := Nat.div_add_mod s.size (n + tgs p)
        rw [hr, hm] at this
        exact this.symm
      · rw [if_pos hr]
        exact unevenDecode s p c k n w hpr hok' hn hn1 hn2 hc2 hk2 hs hr

set_option maxRecDepth 100000 in
set_option maxHeartbeats 16000000 in
theorem prdTells_in (s : ByteArray) (pr co cl : Int) (w : World) (hs : s.size ≤ 1000) (h0 : I64 pr) (h1 : I64 co) (h2 : I64 cl) :
    Calls Try.prog 3 #[parmsV pr co cl, .string s] w fun e w' => e = .returned (.bool true) ∧ Below w.heap.size w w' := by
  obtain ⟨S1, hS1⟩ : ∃ S : ByteArray, ⟨(encF pr co cl s.data.toList).2.toArray⟩ = S := ⟨_, rfl⟩
  obtain ⟨x1, hx1⟩ : ∃ x, (encF pr co cl s.data.toList).1 = x := ⟨_, rfl⟩
  obtain ⟨S2, hS2⟩ : ∃ S : ByteArray, ⟨(decF pr co cl s.data.toList).2.toArray⟩ = S := ⟨_, rfl⟩
  obtain ⟨x2, hx2⟩ : ∃ x, (decF pr co cl s.data.toList).1 = x := ⟨_, rfl⟩
  have P1 := Lib.hid (fun W : World => encP_any s pr co cl W (by omega) h0 h1 h2)
  have R1 := Lib.hid (fun W : World => encD_any s pr co cl W (by omega) h0 h1 h2)
  have P2 := Lib.hid (fun W : World => decP_any s pr co cl W (by omega) h0 h1 h2)
  have R2 := Lib.hid (fun W : World => decD_any s pr co cl W (by omega) h0 h1 h2)
  unfold CodeIs at P1 R1 P2 R2
  rw [hS1, hx1] at P1 R1
  rw [hS2, hx2] at P2 R2
  obtain ⟨x3, hx3⟩ : ∃ x, chkE pr co cl = x := ⟨_, rfl⟩
  obtain ⟨x4, hx4⟩ : ∃ x, rowN pr co cl = x := ⟨_, rfl⟩
  have P3 := Lib.hid (fun W : World => checkP_any pr co cl W h0 h1 h2)
  have R3 := Lib.hid (fun W : World => checkD_any pr co cl W h0 h1 h2)
  have P4 := Lib.hid (fun W : World => rowP_any pr co cl W h0 h1 h2)
  have R4 := Lib.hid (fun W : World => rowD_any pr co cl W h0 h1 h2)
  rw [hx3] at P3 R3
  rw [hx4] at P4 R4
  unfold parmsV at P1 R1 P2 R2 P3 R3 P4 R4 ⊢
  have f1 : ¬ (1000 : Int) < (s.size : Int) := by omega
  obtain ⟨N, hN⟩ : ∃ N, w.heap.size = N := ⟨_, rfl⟩
  obtain ⟨V, hV⟩ : ∃ V, w.alloc (.cells #[.int .i64 pr, .int .i64 co, .int .i64 cl] 23) = V := ⟨_, rfl⟩
  have hVs : V.heap.size = N + 1 := by rw [← hV, World.size_alloc, hN]
  have bP : Blk V N 23 #[.int .i64 pr, .int .i64 co, .int .i64 cl] := by rw [← hV, ← hN]; exact Blk.new w _ _
  have HP := Lib.hid (fun (W : World) (hb : Below (N + 1) V W) => bP.below hb (by omega))
  have HVN := Lib.hid (show Below N w V by rw [← hV, ← hN]; exact (Below.refl _ w).alloc (Nat.le_refl _) _)
  have HB0 := Lib.hid (show Below (N + 1) V V by rw [← hVs]; exact Below.refl _ V)
  have HS0 := Lib.hid (show N + 1 ≤ V.heap.size by omega)
  have HNN := Lib.hid hN
  have p0 := bP.cell 0
  have p1 := bP.cell 1
  have p2 := bP.cell 2
  simp only [List.getElem?_toArray, List.getElem?_cons_zero, List.getElem?_cons_succ] at p0 p1 p2
  clear hS1 hS2 hx1 hx2 hx3 hx4 h0 h1 h2 bP hVs hs
  go_enter Try.func3, Try.ntmps3
  rw [hN]
  go_wp2_with fail
  try rw [hV]
  clear hN hV
  refine (P1.out _).mono ?_
  rintro e w1 ⟨rfl, hb⟩
  have HB1 := Lib.hid (HB0.out.trans (hb.mono HS0.out))
  have HS1 := Lib.hid (Nat.le_trans HS0.out hb.size)
  clear hb p0 p1 p2
  have p0 := (HP.out w1 HB1.out).cell 0
  have p1 := (HP.out w1 HB1.out).cell 1
  have p2 := (HP.out w1 HB1.out).cell 2
  simp only [List.getElem?_toArray, List.getElem?_cons_zero, List.getElem?_cons_succ] at p0 p1 p2
  go_wp2_with fail
  refine (R1.out _).mono ?_
  rintro e w2 ⟨rfl, hb⟩
  have HB2 := Lib.hid (HB1.out.trans (hb.mono HS1.out))
  have HS2 := Lib.hid (Nat.le_trans HS1.out hb.size)
  clear hb p0 p1 p2
  have p0 := (HP.out w2 HB2.out).cell 0
  have p1 := (HP.out w2 HB2.out).cell 1
  have p2 := (HP.out w2 HB2.out).cell 2
  simp only [List.getElem?_toArray, List.getElem?_cons_zero, List.getElem?_cons_succ] at p0 p1 p2
  go_wp2_with fail
  refine (P2.out _).mono ?_
  rintro e w3 ⟨rfl, hb⟩
  have HB3 := Lib.hid (HB2.out.trans (hb.mono HS2.out))
  have HS3 := Lib.hid (Nat.le_trans HS2.out hb.size)
  clear hb p0 p1 p2
  have p0 := (HP.out w3 HB3.out).cell 0
  have p1 := (HP.out w3 HB3.out).cell 1
  have p2 := (HP.out w3 HB3.out).cell 2
  simp only [List.getElem?_toArray, List.getElem?_cons_zero, List.getElem?_cons_succ] at p0 p1 p2
  go_wp2_with fail
  refine (R2.out _).mono ?_
  rintro e w4 ⟨rfl, hb⟩
  have HB4 := Lib.hid (HB3.out.trans (hb.mono HS3.out))
  have HS4 := Lib.hid (Nat.le_trans HS3.out hb.size)
  clear hb p0 p1 p2
  have p0 := (HP.out w4 HB4.out).cell 0
  have p1 := (HP.out w4 HB4.out).cell 1
  have p2 := (HP.out w4 HB4.out).cell 2
  simp only [List.getElem?_toArray, List.getElem?_cons_zero, List.getElem?_cons_succ] at p0 p1 p2
  go_wp2_with fail
  have HSt := Lib.hid (fun (W2 : World) (hb : Below (N + 1) V W2) => (show W2.cell? ⟨N, 0, none⟩ = some (.int .i64 pr) ∧ W2.cell? ⟨N, 1, none⟩ = some (.int .i64 co) ∧ W2.cell? ⟨N, 2, none⟩ = some (.int .i64 cl) from ⟨(HP.out W2 hb).cell 0, (HP.out W2 hb).cell 1, (HP.out W2 hb).cell 2⟩))
  go_region_held3 (fun W2 => W2.cell? ⟨N, 0, none⟩ = some (.int .i64 pr) ∧ W2.cell? ⟨N, 1, none⟩ = some (.int .i64 co) ∧ W2.cell? ⟨N, 2, none⟩ = some (.int .i64 cl)) (first | exact ⟨p0, p1, p2⟩ | exact HSt.out _ HB5.out | exact HSt.out _ HB6.out | exact HSt.out _ HB7.out | exact HSt.out _ HB8.out | exact HSt.out _ HB9.out)
    ((first
      | (go_at_call 12; refine (P3.out _).mono ?_; rintro e w5 ⟨rfl, hb⟩; have HB5 := Lib.hid (HB4.out.drew.trans (hb.mono HS4.out)); have HS5 := Lib.hid (Nat.le_trans HS4.out hb.size); clear hb)
      | (go_at_call 13; refine (R3.out _).mono ?_; rintro e w6 ⟨rfl, hb⟩; have HB6 := Lib.hid (HB5.out.trans (hb.mono HS5.out)); have HS6 := Lib.hid (Nat.le_trans HS5.out hb.size); clear hb)
      | (go_at_call 14; refine (P4.out _).mono ?_; rintro e w7 ⟨rfl, hb⟩; have HB7 := Lib.hid (HB6.out.trans (hb.mono HS6.out)); have HS7 := Lib.hid (Nat.le_trans HS6.out hb.size); clear hb)
      | (go_at_call 15; refine (R4.out _).mono ?_; rintro e w8 ⟨rfl, hb⟩; have HB8 := Lib.hid (HB7.out.trans (hb.mono HS7.out)); have HS8 := Lib.hid (Nat.le_trans HS7.out hb.size); clear hb)
      | (go_at_call 7; refine (prdLives_any _).mono ?_; rintro e w9 ⟨rfl, hb⟩; have HB9 := Lib.hid (HB8.out.trans (hb.mono HS8.out)); clear hb)))
  all_goals
    go_wp2
    go_ret
    exact ⟨rfl, HVN.out.trans (HB9.out.mono (by omega))⟩

set_option maxRecDepth 100000 in
set_option maxHeartbeats 4000000 in
theorem prdTells_any (s : ByteArray) (pr co cl : Int) (w : World) (h0 : I64 pr) (h1 : I64 co) (h2 : I64 cl) :
    Calls Try.prog 3 #[.agg #[.int .i64 pr, .int .i64 co, .int .i64 cl], .string s] w fun e w' => e = .returned (.bool true) ∧ Below w.heap.size w w' := by
  by_cases hb : s.size ≤ 1000
  · exact prdTells_in s pr co cl w hb h0 h1 h2
  · have hp : (1000 : Int) < (s.size : Int) := by omega
    have HB0 := Lib.hid (show Below w.heap.size w (w.alloc (.cells #[.int .i64 pr, .int .i64 co, .int .i64 cl] 23)) from (Below.refl _ w).alloc (Nat.le_refl _) _)
    clear hb h0 h1 h2
    go_enter Try.func3, Try.ntmps3
    go_wp2_with fail
    refine (prdLives_any _).mono ?_
    rintro e w1 ⟨rfl, hb⟩
    have HB1 := Lib.hid (HB0.out.trans (hb.mono HB0.out.size))
    clear hb
    go_wp2_with fail
    go_ret
    exact ⟨rfl, HB1.out⟩
theorem i64_wf {z : Int} (h : (Lit.int .i64 z).wf = true) : I64 z := by
  unfold I64
  simp [Lit.wf, IntKind.min, IntKind.max, IntKind.signed, IntKind.bits] at h
  omega

/-! ### The row. -/
theorem predictTells_laidOut : laidOutB Try.prog = true := by kernel_rfl
theorem predictTells_own : ownKnob Try.prog.godebug = none := by kernel_rfl
theorem predictTells_types (t : TypeId) (ht : t ∈ Try.f3.params.toList) : Try.prog.readableRec t = true ∧ t < Try.prog.types.size := by
  rw [Try.params3] at ht
  simp only [List.mem_cons, List.not_mem_nil, or_false] at ht
  rcases ht with rfl | rfl
  · exact ⟨by kernel_rfl, of_decide_eq_true (by kernel_rfl)⟩
  · exact ⟨by kernel_rfl, of_decide_eq_true (by kernel_rfl)⟩
theorem predictTells_fn {H : Type} (ds' : List (DataW H)) (h : ds'.length = Try.f3.params.size) : Rows.predictTellsSpec.fn H ds' = { results := [.lit (.bool true)], args := ds' } := by
  have h' : ds'.length = 2 := h.trans (by kernel_rfl)
  match ds', h' with
  | [_, _], _ => rfl

set_option maxRecDepth 100000 in
theorem predictTells_lifted (os : Os) (started : os.Started) (H : Type) (enc : TypeId × Value → H) :
    ReturnsInHanded {} Try.checked os 3 .any (Rows.predictTellsSpec.pre6 enc Try.prog Try.f3 Rows.predictTellsRow.domain false) (Rows.predictTellsSpec.post enc Try.prog Try.f3 false true false false) := by
  refine returnsInHanded_of_change_shaped (C := Try.checked) predictTells_own started (by kernel_rfl) Try.func3
    (ChangeSpec.witness6 (enc := enc) (C := Try.checked) false ⟨#[], #[.agg #[.int .i64 0, .int .i64 0, .int .i64 0], .string ⟨#[]⟩], []⟩ 8 (by kernel_rfl) (by kernel_rfl) (by kernel_rfl) (by kernel_rfl)) ?_
  intro W base args ds gs before hval0 hW hcnd0 _ hsh _
  have hval : ∀ (j : Nat) t v, Try.f3.params[j]? = some t → args[j]? = some v → Value.okWide Try.prog W .any base t v := hval0
  have hW' := hW
  obtain ⟨p, q, hA0, hV, rfl, hfz, hnd⟩ := hW
  have hA : DataW.TrodAll enc Try.prog W 0 (fun _ => true) true Try.f3.params.toList args.toList ds p := hA0
  rw [Try.params3] at hA hval
  obtain ⟨v0, vs0, d0, ds0, p0, q0, hargs, rfl, rfl, h0, r0⟩ := trodAll_cons hA
  obtain ⟨v1, vs1, d1, ds1, p1, q1, rfl, rfl, rfl, h1, r1⟩ := trodAll_cons r0
  obtain ⟨rfl, rfl, rfl⟩ := trodAll_nil r1
  obtain rfl : args = #[v0, v1] := by cases args; simp_all
  obtain ⟨rfl, rfl⟩ := trodVars_none hV
  obtain ⟨x0, x1, x2, y0, y1, y2, m0, rfl, rfl, rfl, t0, t1, t2⟩ := Go.Joins.open_agg3 Try.underlying23 (by kernel_rfl) (by kernel_rfl) (hval 0 23 v0 rfl rfl) h0
  obtain ⟨z0, e0, rfl, g0⟩ := DataW.trod_int Try.underlying3 t0
  obtain ⟨z1, e1, rfl, g1⟩ := DataW.trod_int Try.underlying3 t1
  obtain ⟨z2, e2, rfl, g2⟩ := DataW.trod_int Try.underlying3 t2
  obtain rfl : x0 = .int .i64 z0 := by injection e0
  obtain rfl : x1 = .int .i64 z1 := by injection e1
  obtain rfl : x2 = .int .i64 z2 := by injection e2
  obtain ⟨a1, rfl, rfl, rfl, w1⟩ := Go.ChangeMaps.open_string Try.underlying9 (hval 1 9 v1 rfl rfl) h1
  clear hA0 hval0
  refine (prdTells_any a1 z0 z1 z2 W (i64_wf g0) (i64_wf g1) (i64_wf g2)).mono fun e W' ⟨he, hb⟩ => ?_
  subst he
  exact ⟨_, rfl, post_keep predictTells_laidOut (fun t ht => predictTells_types t ht) rfl hW' (fun ds' hds => predictTells_fn ds' hds) (by kernel_rfl) Try.underlying4 hb⟩

theorem predictTells_holds : Rows.PredictTellsSaid :=
  OpenClaim.holds_of_wide 3 Try.f3 rfl rfl rfl rfl rfl rfl rfl ⟨rfl, rfl, rfl, rfl, rfl⟩ rfl rfl rfl rfl rfl (by kernel_rfl) Try.func3 (by kernel_rfl)
    (of_decide_eq_true (by kernel_rfl)) (by unfold Func.isWrapper; first | (rw [if_pos (by decide +kernel)]; kernel_rfl) | (rw [if_neg (by decide +kernel)]; exact ⟨rfl, rfl⟩))
    (fun os started H enc _ => predictTells_lifted os started H enc)
end Go.Proofs.Ytmajbjjfebbnlaa
