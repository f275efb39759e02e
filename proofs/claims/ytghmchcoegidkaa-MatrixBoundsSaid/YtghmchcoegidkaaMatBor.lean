/-
  For every matrix m, rectangle r and point p, MatrixBounds returns true. (No condition.)
-/
import Derived.Test.YtghmchcoegidkaaMatBo
import Derived.Test.YtghmchcoegidkaaMatRow
namespace Go.Proofs.Ytghmchcoegidkaa
open Go.ChangeShapes Go.WideShapes Go.ChangeAt Go.RowKit Fix Mat

/-! ### The row. -/
theorem matrixBounds_laidOut : laidOutB Try.prog = true := by kernel_rfl
theorem matrixBounds_own : ownKnob Try.prog.godebug = none := by kernel_rfl
theorem matrixBounds_types (t : TypeId) (ht : t ∈ Try.f7.params.toList) : Try.prog.readableRec t = true ∧ t < Try.prog.types.size := by
  rw [Try.params7] at ht
  simp only [List.mem_cons, List.not_mem_nil, or_false] at ht
  rcases ht with rfl | rfl | rfl
  · exact ⟨by kernel_rfl, of_decide_eq_true (by kernel_rfl)⟩
  · exact ⟨by kernel_rfl, of_decide_eq_true (by kernel_rfl)⟩
  · exact ⟨by kernel_rfl, of_decide_eq_true (by kernel_rfl)⟩
theorem matrixBounds_fn {H : Type} (ds' : List (DataW H)) (h : ds'.length = Try.f7.params.size) : Rows.matrixBoundsSpec.fn H ds' = { results := [.lit (.bool true)], args := ds' } := by
  have h' : ds'.length = 3 := h.trans (by kernel_rfl)
  match ds', h' with
  | [_, _, _], _ => rfl

set_option maxRecDepth 100000 in
theorem matrixBounds_lifted (os : Os) (started : os.Started) (H : Type) (enc : TypeId × Value → H) :
    ReturnsInHanded {} Try.checked os 7 .any (Rows.matrixBoundsSpec.pre6 enc Try.prog Try.f7 Rows.matrixBoundsRow.domain false) (Rows.matrixBoundsSpec.post enc Try.prog Try.f7 false true false false) := by
  refine returnsInHanded_of_change_shaped (C := Try.checked) matrixBounds_own started (by kernel_rfl) Try.func7
    (ChangeSpec.witness6 (enc := enc) (C := Try.checked) false ⟨#[], #[.agg #[.int .i64 0, .int .i64 0, .int .i64 0, .int .i64 0, .int .i64 0, .int .i64 0], .agg #[.int .i64 0, .int .i64 0, .int .i64 0, .int .i64 0], .agg #[.int .i64 0, .int .i64 0]], []⟩ 8 (by kernel_rfl) (by kernel_rfl) (by kernel_rfl) (by kernel_rfl)) ?_
  intro W base args ds gs before hval0 hW hcnd0 _ hsh _
  have hval : ∀ (j : Nat) t v, Try.f7.params[j]? = some t → args[j]? = some v → Value.okWide Try.prog W .any base t v := hval0
  have hW' := hW
  obtain ⟨p, q, hA0, hV, rfl, hfz, hnd⟩ := hW
  have hA : DataW.TrodAll enc Try.prog W 0 (fun _ => true) true Try.f7.params.toList args.toList ds p := hA0
  rw [Try.params7] at hA hval
  obtain ⟨v0, vs0, d0, ds0, p0, q0, hargs, rfl, rfl, h0, r0⟩ := trodAll_cons hA
  obtain ⟨v1, vs1, d1, ds1, p1, q1, rfl, rfl, rfl, h1, r1⟩ := trodAll_cons r0
  obtain ⟨v2, vs2, d2, ds2, p2, q2, rfl, rfl, rfl, h2, r2⟩ := trodAll_cons r1
  obtain ⟨rfl, rfl, rfl⟩ := trodAll_nil r2
  obtain rfl : args = #[v0, v1, v2] := by cases args; simp_all
  obtain ⟨rfl, rfl⟩ := trodVars_none hV
  obtain ⟨a0, rfl⟩ := open_mx (hval 0 23 v0 rfl rfl) h0
  obtain ⟨a1, b1, c1, d1, rfl⟩ := open_rc (hval 1 27 v1 rfl rfl) h1
  obtain ⟨a2, b2, rfl⟩ := open_pt (hval 2 25 v2 rfl rfl) h2
  clear hA0 hval0
  refine (bounds_any a0 ⟨a1, b1, c1, d1⟩ a2 b2 W).mono fun e W' ⟨he, hb⟩ => ?_
  subst he
  exact ⟨_, rfl, post_keep matrixBounds_laidOut (fun t ht => matrixBounds_types t ht) rfl hW' (fun ds' hds => matrixBounds_fn ds' hds) (by kernel_rfl) Try.underlying4 hb⟩

theorem matrixBounds_holds : Rows.MatrixBoundsSaid :=
  OpenClaim.holds_of_wide 7 Try.f7 rfl rfl rfl rfl rfl rfl rfl ⟨rfl, rfl, rfl, rfl, rfl⟩ rfl rfl rfl rfl rfl (by kernel_rfl) Try.func7 (by kernel_rfl)
    (of_decide_eq_true (by kernel_rfl)) (by unfold Func.isWrapper; first | (rw [if_pos (by decide +kernel)]; kernel_rfl) | (rw [if_neg (by decide +kernel)]; exact ⟨rfl, rfl⟩))
    (fun os started H enc _ => matrixBounds_lifted os started H enc)
end Go.Proofs.Ytghmchcoegidkaa
