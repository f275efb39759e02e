/-
  For all arguments PredictBest returns true: Best and Paeth answer what the document's do (no condition on the arguments).
-/
import Derived.Test.YtmajbjjfebbnlaaPrdTl
import Derived.Laws.IdiomArrays
import Derived.Test.YtmajbjjfebbnlaaPrdEb
namespace Go.Proofs.Ytmajbjjfebbnlaa
open Go.ChangeShapes Go.WideShapes Go.ChangeAt Go.RowKit Oct Prd

set_option maxRecDepth 100000 in
set_option maxHeartbeats 16000000 in
theorem prdBest_in (p r : ByteArray) (c : Int) (a b d : UInt8) (w : World) (hp : p.size ≤ 300) (hr : r.size ≤ 300) (hc : I64 c) :
    Calls Try.prog 4 #[.string p, .string r, .int .i64 c, .agg #[.int .u8 (a.toNat : Int), .int .u8 (b.toNat : Int), .int .u8 (d.toNat : Int)]] w fun e w' => e = .returned (.bool true) ∧ Below w.heap.size w w' := by
  obtain ⟨x, hx⟩ : ∃ x : Nat, bestR p.data.toList r.data.toList (max c 1).toNat = x := ⟨_, rfl⟩
  have P1 := Lib.hid (fun W : World => Big.bestP_any p r c W (by omega) (by omega) hc.2)
  have R1 := Lib.hid (fun W : World => Big.bestS_any p r c W (by omega) (by omega) hc.2)
  rw [hx] at P1 R1
  obtain ⟨y, hy⟩ : ∃ y : Int, ((paethF a b d).toNat : Int) = y := ⟨_, rfl⟩
  have P2 := Lib.hid (fun W : World => paeth_any a b d W)
  have R2 := Lib.hid (fun W : World => paethR_any a b d W)
  rw [hy] at P2 R2
  obtain ⟨ai, hai⟩ : ∃ ai : Int, (a.toNat : Int) = ai := ⟨_, rfl⟩
  obtain ⟨bi, hbi⟩ : ∃ bi : Int, (b.toNat : Int) = bi := ⟨_, rfl⟩
  obtain ⟨di, hdi⟩ : ∃ di : Int, (d.toNat : Int) = di := ⟨_, rfl⟩
  rw [hai, hbi, hdi] at P2 R2 ⊢
  have f1 : ¬ (300 : Int) < (p.size : Int) := by omega
  have f2 : ¬ (300 : Int) < (r.size : Int) := by omega
  obtain ⟨N, hN⟩ : ∃ N, w.heap.size = N := ⟨_, rfl⟩
  obtain ⟨V, hV⟩ : ∃ V, w.alloc (.cells #[.int .u8 ai, .int .u8 bi, .int .u8 di] 31) = V := ⟨_, rfl⟩
  have hVs : V.heap.size = N + 1 := by rw [← hV, World.size_alloc, hN]
  have bP : Blk V N 31 #[.int .u8 ai, .int .u8 bi, .int .u8 di] := by rw [← hV, ← hN]; exact Blk.new w _ _
  have HP := Lib.hid (fun (W : World) (hb : Below (N + 1) V W) => bP.below hb (by omega))
  have HVN := Lib.hid (show Below N w V by rw [← hV, ← hN]; exact (Below.refl _ w).alloc (Nat.le_refl _) _)
  have HB0 := Lib.hid (show Below (N + 1) V V by rw [← hVs]; exact Below.refl _ V)
  have HS0 := Lib.hid (show N + 1 ≤ V.heap.size by omega)
  have HSt := Lib.hid (fun (W2 : World) (hb : Below (N + 1) V W2) => (show W2.cell? ⟨N, 0, none⟩ = some (.int .u8 ai) ∧ W2.cell? ⟨N, 1, none⟩ = some (.int .u8 bi) ∧ W2.cell? ⟨N, 2, none⟩ = some (.int .u8 di) from ⟨(HP.out W2 hb).cell 0, (HP.out W2 hb).cell 1, (HP.out W2 hb).cell 2⟩))
  have p0 := bP.cell 0
  have p1 := bP.cell 1
  have p2 := bP.cell 2
  simp only [List.getElem?_toArray, List.getElem?_cons_zero, List.getElem?_cons_succ] at p0 p1 p2
  clear hx hy hai hbi hdi bP hVs hp hr hc
  go_enter Try.func4, Try.ntmps4
  rw [hN]
  go_wp2_with fail
  try rw [hV]
  clear hN hV
  go_region_held3 (fun W2 => W2.cell? ⟨N, 0, none⟩ = some (.int .u8 ai) ∧ W2.cell? ⟨N, 1, none⟩ = some (.int .u8 bi) ∧ W2.cell? ⟨N, 2, none⟩ = some (.int .u8 di)) (first | exact ⟨p0, p1, p2⟩ | exact HSt.out _ HB1.out | exact HSt.out _ HB2.out | exact HSt.out _ HB3.out)
    ((first
      | (go_at_call 16; refine (P1.out _).mono ?_; rintro e w1 ⟨rfl, hb⟩; have HB1 := Lib.hid (HB0.out.drew.trans (hb.mono HS0.out)); have HS1 := Lib.hid (Nat.le_trans HS0.out hb.size); clear hb)
      | (go_at_call 17; refine (R1.out _).mono ?_; rintro e w2 ⟨rfl, hb⟩; have HB2 := Lib.hid (HB1.out.trans (hb.mono HS1.out)); have HS2 := Lib.hid (Nat.le_trans HS1.out hb.size); clear hb)
      | (go_at_call 18; refine (P2.out _).mono ?_; rintro e wa ⟨rfl, rfl⟩)
      | (go_at_call 19; refine (R2.out _).mono ?_; rintro e wb ⟨rfl, rfl⟩)
      | (go_at_call 7; refine (prdLives_any _).mono ?_; rintro e w3 ⟨rfl, hb⟩; have HB3 := Lib.hid (HB2.out.trans (hb.mono HS2.out)); clear hb)))
  all_goals
    go_wp2
    go_ret
    exact ⟨rfl, HVN.out.trans (HB3.out.mono (by omega))⟩

set_option maxRecDepth 100000 in
set_option maxHeartbeats 4000000 in
theorem prdBest_p (p r : ByteArray) (c x y z : Int) (w : World) (h : ¬ p.size ≤ 300) :
    Calls Try.prog 4 #[.string p, .string r, .int .i64 c, .agg #[.int .u8 x, .int .u8 y, .int .u8 z]] w fun e w' => e = .returned (.bool true) ∧ Below w.heap.size w w' := by
  have f1 : (300 : Int) < (p.size : Int) := by omega
  have HB0 := Lib.hid (show Below w.heap.size w (w.alloc (.cells #[.int .u8 x, .int .u8 y, .int .u8 z] 31)) from (Below.refl _ w).alloc (Nat.le_refl _) _)
  clear h
  go_enter Try.func4, Try.ntmps4
  go_wp2_with fail
  refine (prdLives_any _).mono ?_
  rintro e w1 ⟨rfl, hb⟩
  have HB1 := Lib.hid (HB0.out.trans (hb.mono HB0.out.size))
  clear hb
  go_wp2_with fail
  go_ret
  exact ⟨rfl, HB1.out⟩
set_option maxRecDepth 100000 in
set_option maxHeartbeats 4000000 in
theorem prdBest_r (p r : ByteArray) (c x y z : Int) (w : World) (h0 : p.size ≤ 300) (h : ¬ r.size ≤ 300) :
    Calls Try.prog 4 #[.string p, .string r, .int .i64 c, .agg #[.int .u8 x, .int .u8 y, .int .u8 z]] w fun e w' => e = .returned (.bool true) ∧ Below w.heap.size w w' := by
  have f1 : ¬ (300 : Int) < (p.size : Int) := by omega
  have f2 : (300 : Int) < (r.size : Int) := by omega
  have HB0 := Lib.hid (show Below w.heap.size w (w.alloc (.cells #[.int .u8 x, .int .u8 y, .int .u8 z] 31)) from (Below.refl _ w).alloc (Nat.le_refl _) _)
  clear h
  go_enter Try.func4, Try.ntmps4
  go_wp2_with fail
  refine (prdLives_any _).mono ?_
  rintro e w1 ⟨rfl, hb⟩
  have HB1 := Lib.hid (HB0.out.trans (hb.mono HB0.out.size))
  clear hb
  go_wp2_with fail
  go_ret
  exact ⟨rfl, HB1.out⟩
theorem u8_wf {c : Int} (h : (Lit.int .u8 c).wf = true) : ∃ b : UInt8, c = (b.toNat : Int) := by
  simp [Lit.wf, IntKind.min, IntKind.max, IntKind.signed, IntKind.bits] at h
  refine ⟨UInt8.ofNat c.toNat, ?_⟩
  rw [UInt8.toNat_ofNat']
  omega
theorem prdBest_any (p r : ByteArray) (c x y z : Int) (w : World) (hc : I64 c) (hx : (Lit.int .u8 x).wf = true) (hy : (Lit.int .u8 y).wf = true) (hz : (Lit.int .u8 z).wf = true) :
    Calls Try.prog 4 #[.string p, .string r, .int .i64 c, .agg #[.int .u8 x, .int .u8 y, .int .u8 z]] w fun e w' => e = .returned (.bool true) ∧ Below w.heap.size w w' := by
  obtain ⟨a, rfl⟩ := u8_wf hx
  obtain ⟨b, rfl⟩ := u8_wf hy
  obtain ⟨d, rfl⟩ := u8_wf hz
  by_cases h1 : p.size ≤ 300
  · by_cases h2 : r.size ≤ 300
    · exact prdBest_in p r c a b d w h1 h2 hc
    · exact prdBest_r p r c _ _ _ w h1 h2
  · exact prdBest_p p r c _ _ _ w h1

/-! ### The row. -/
theorem predictBest_laidOut : laidOutB Try.prog = true := by kernel_rfl
theorem predictBest_own : ownKnob Try.prog.godebug = none := by kernel_rfl
theorem predictBest_types (t : TypeId) (ht : t ∈ Try.f4.params.toList) : Try.prog.readableRec t = true ∧ t < Try.prog.types.size := by
  rw [Try.params4] at ht
  simp only [List.mem_cons, List.not_mem_nil, or_false] at ht
  rcases ht with rfl | rfl | rfl | rfl
  · exact ⟨by kernel_rfl, of_decide_eq_true (by kernel_rfl)⟩
  · exact ⟨by kernel_rfl, of_decide_eq_true (by kernel_rfl)⟩
  · exact ⟨by kernel_rfl, of_decide_eq_true (by kernel_rfl)⟩
  · exact ⟨by kernel_rfl, of_decide_eq_true (by kernel_rfl)⟩
theorem predictBest_fn {H : Type} (ds' : List (DataW H)) (h : ds'.length = Try.f4.params.size) : Rows.predictBestSpec.fn H ds' = { results := [.lit (.bool true)], args := ds' } := by
  have h' : ds'.length = 4 := h.trans (by kernel_rfl)
  match ds', h' with
  | [_, _, _, _], _ => rfl

set_option maxRecDepth 100000 in
theorem predictBest_lifted (os : Os) (started : os.Started) (H : Type) (enc : TypeId × Value → H) :
    ReturnsInHanded {} Try.checked os 4 .any (Rows.predictBestSpec.pre6 enc Try.prog Try.f4 Rows.predictBestRow.domain false) (Rows.predictBestSpec.post enc Try.prog Try.f4 false true false false) := by
  refine returnsInHanded_of_change_shaped (C := Try.checked) predictBest_own started (by kernel_rfl) Try.func4
    (ChangeSpec.witness6 (enc := enc) (C := Try.checked) false ⟨#[], #[.string ⟨#[]⟩, .string ⟨#[]⟩, .int .i64 0, .agg #[.int .u8 0, .int .u8 0, .int .u8 0]], []⟩ 8 (by kernel_rfl) (by kernel_rfl) (by kernel_rfl) (by kernel_rfl)) ?_
  intro W base args ds gs before hval0 hW hcnd0 _ hsh _
  have hval : ∀ (j : Nat) t v, Try.f4.params[j]? = some t → args[j]? = some v → Value.okWide Try.prog W .any base t v := hval0
  have hW' := hW
  obtain ⟨p, q, hA0, hV, rfl, hfz, hnd⟩ := hW
  have hA : DataW.TrodAll enc Try.prog W 0 (fun _ => true) true Try.f4.params.toList args.toList ds p := hA0
  rw [Try.params4] at hA hval
  obtain ⟨v0, vs0, d0, ds0, p0, q0, hargs, rfl, rfl, h0, r0⟩ := trodAll_cons hA
  obtain ⟨v1, vs1, d1, ds1, p1, q1, rfl, rfl, rfl, h1, r1⟩ := trodAll_cons r0
  obtain ⟨v2, vs2, d2, ds2, p2, q2, rfl, rfl, rfl, h2, r2⟩ := trodAll_cons r1
  obtain ⟨v3, vs3, d3, ds3, p3, q3, rfl, rfl, rfl, h3, r3⟩ := trodAll_cons r2
  obtain ⟨rfl, rfl, rfl⟩ := trodAll_nil r3
  obtain rfl : args = #[v0, v1, v2, v3] := by cases args; simp_all
  obtain ⟨rfl, rfl⟩ := trodVars_none hV
  obtain ⟨a0, rfl, rfl, rfl, w0⟩ := Go.ChangeMaps.open_string Try.underlying9 (hval 0 9 v0 rfl rfl) h0
  obtain ⟨a1, rfl, rfl, rfl, w1⟩ := Go.ChangeMaps.open_string Try.underlying9 (hval 1 9 v1 rfl rfl) h1
  obtain ⟨a2, rfl, rfl, rfl, w2⟩ := open_int Try.underlying3 (hval 2 3 v2 rfl rfl) h2
  obtain ⟨cs, rfl, hsz, _⟩ : ∃ cs, v3 = .agg cs ∧ cs.size = Try.prog.cellsOf 31 ∧ Row.okWide Try.prog W .any base 31 cs := by
    have := hval 3 31 v3 rfl rfl
    simpa [Value.okWide, Try.underlying31] using this
  have hc3 : Try.prog.cellsOf 31 = 3 := by kernel_rfl
  rw [hc3] at hsz
  obtain ⟨x0, x1, x2, rfl⟩ := Go.Joins.array3 hsz
  obtain ⟨fuel, hf⟩ := h3
  obtain ⟨y0, y1, y2, m0, hxy, t0, t1, t2⟩ := trod_array3 Try.underlying31 (by kernel_rfl) hf
  obtain ⟨z0, e0, rfl, g0⟩ := DataW.trod_int Try.underlying5 t0
  obtain ⟨z1, e1, rfl, g1⟩ := DataW.trod_int Try.underlying5 t1
  obtain ⟨z2, e2, rfl, g2⟩ := DataW.trod_int Try.underlying5 t2
  obtain rfl : x0 = .int .u8 z0 := by injection e0
  obtain rfl : x1 = .int .u8 z1 := by injection e1
  obtain rfl : x2 = .int .u8 z2 := by injection e2
  simp only [Prod.mk.injEq] at hxy
  obtain ⟨rfl, rfl⟩ := hxy
  clear hA0 hval0
  refine (prdBest_any a0 a1 a2 z0 z1 z2 W (i64_wf w2) g0 g1 g2).mono fun e W' ⟨he, hb⟩ => ?_
  subst he
  exact ⟨_, rfl, post_keep predictBest_laidOut (fun t ht => predictBest_types t ht) rfl hW' (fun ds' hds => predictBest_fn ds' hds) (by kernel_rfl) Try.underlying4 hb⟩

theorem predictBest_holds : Rows.PredictBestSaid :=
  OpenClaim.holds_of_wide 4 Try.f4 rfl rfl rfl rfl rfl rfl rfl ⟨rfl, rfl, rfl, rfl, rfl⟩ rfl rfl rfl rfl rfl (by kernel_rfl) Try.func4 (by kernel_rfl)
    (of_decide_eq_true (by kernel_rfl)) (by unfold Func.isWrapper; first | (rw [if_pos (by decide +kernel)]; kernel_rfl) | (rw [if_neg (by decide +kernel)]; exact ⟨rfl, rfl⟩))
    (fun os started H enc _ => predictBest_lifted os started H enc)
end Go.Proofs.Ytmajbjjfebbnlaa
