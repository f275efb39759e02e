/-
  For all matrices a, b, every point p, rectangle r and object o, MatrixTells returns true. (No condition.)
-/
import Derived.Test.YthihmbicalacfaaMatRn
import Derived.Test.YthihmbicalacfaaMatRl
import Derived.Test.YthihmbicalacfaaMatRow
namespace Go.Proofs.Ythihmbicalacfaa
open Go.ChangeShapes Go.WideShapes Go.ChangeAt Go.RowKit Fix Mat

/-! ### The row. -/
theorem matrixTells_laidOut : laidOutB Try.prog = true := by kernel_rfl
theorem matrixTells_own : ownKnob Try.prog.godebug = none := by kernel_rfl
theorem matrixTells_types (t : TypeId) (ht : t ∈ Try.f3.params.toList) : Try.prog.readableRec t = true ∧ t < Try.prog.types.size := by
  rw [Try.params3] at ht
  simp only [List.mem_cons, List.not_mem_nil, or_false] at ht
  rcases ht with rfl | rfl | rfl | rfl | rfl
  · exact ⟨by kernel_rfl, of_decide_eq_true (by kernel_rfl)⟩
  · exact ⟨by kernel_rfl, of_decide_eq_true (by kernel_rfl)⟩
  · exact ⟨by kernel_rfl, of_decide_eq_true (by kernel_rfl)⟩
  · exact ⟨by kernel_rfl, of_decide_eq_true (by kernel_rfl)⟩
  · exact ⟨by kernel_rfl, of_decide_eq_true (by kernel_rfl)⟩
theorem matrixTells_fn {H : Type} (ds' : List (DataW H)) (h : ds'.length = Try.f3.params.size) : Rows.matrixTellsSpec.fn H ds' = { results := [.lit (.bool true)], args := ds' } := by
  have h' : ds'.length = 5 := h.trans (by kernel_rfl)
  match ds', h' with
  | [_, _, _, _, _], _ => rfl

set_option maxRecDepth 100000 in
theorem matrixTells_lifted (os : Os) (started : os.Started) (H : Type) (enc : TypeId × Value → H) :
    ReturnsInHanded {} Try.checked os 3 .any (Rows.matrixTellsSpec.pre6 enc Try.prog Try.f3 Rows.matrixTellsRow.domain false) (Rows.matrixTellsSpec.post enc Try.prog Try.f3 false true false false) := by
  refine returnsInHanded_of_change_shaped (C := Try.checked) matrixTells_own started (by kernel_rfl) Try.func3
    (ChangeSpec.witness6 (enc := enc) (C := Try.checked) false ⟨#[], #[.agg #[.int .i64 0, .int .i64 0, .int .i64 0, .int .i64 0, .int .i64 0, .int .i64 0], .agg #[.int .i64 0, .int .i64 0, .int .i64 0, .int .i64 0, .int .i64 0, .int .i64 0], .agg #[.int .i64 0, .int .i64 0], .agg #[.int .i64 0, .int .i64 0, .int .i64 0, .int .i64 0], .agg #[.int .i64 0, .int .i64 0, .int .i64 0, .string ⟨#[]⟩, .slice none 0 0, .slice none 0 0]], []⟩ 8 (by kernel_rfl) (by kernel_rfl) (by kernel_rfl) (by kernel_rfl)) ?_
  intro W base args ds gs before hval0 hW hcnd0 _ hsh _
  have hval : ∀ (j : Nat) t v, Try.f3.params[j]? = some t → args[j]? = some v → Value.okWide Try.prog W .any base t v := hval0
  have hW' := hW
  obtain ⟨p, q, hA0, hV, rfl, hfz, hnd⟩ := hW
  have hA : DataW.TrodAll enc Try.prog W 0 (fun _ => true) true Try.f3.params.toList args.toList ds p := hA0
  rw [Try.params3] at hA hval
  obtain ⟨v0, vs0, d0, ds0, p0, q0, hargs, rfl, rfl, h0, r0⟩ := trodAll_cons hA
  obtain ⟨v1, vs1, d1, ds1, p1, q1, rfl, rfl, rfl, h1, r1⟩ := trodAll_cons r0
  obtain ⟨v2, vs2, d2, ds2, p2, q2, rfl, rfl, rfl, h2, r2⟩ := trodAll_cons r1
  obtain ⟨v3, vs3, d3, ds3, p3, q3, rfl, rfl, rfl, h3, r3⟩ := trodAll_cons r2
  obtain ⟨v4, vs4, d4, ds4, p4, q4, rfl, rfl, rfl, h4, r4⟩ := trodAll_cons r3
  obtain ⟨rfl, rfl, rfl⟩ := trodAll_nil r4
  obtain rfl : args = #[v0, v1, v2, v3, v4] := by cases args; simp_all
  obtain ⟨rfl, rfl⟩ := trodVars_none hV
  obtain ⟨a0, rfl⟩ := open_mx (hval 0 23 v0 rfl rfl) h0
  obtain ⟨a1, rfl⟩ := open_mx (hval 1 23 v1 rfl rfl) h1
  obtain ⟨a2, b2, rfl⟩ := open_pt (hval 2 25 v2 rfl rfl) h2
  obtain ⟨a3, b3, c3, d3, rfl⟩ := open_rc (hval 3 27 v3 rfl rfl) h3
  obtain ⟨f4, k4, n4, e4, s4, ka4, oa4, kl4, kc4, ol4, oc4, rfl, hk4, hd4⟩ := open_ob (hval 4 31 v4 rfl rfl) h4
  clear hA0 hval0
  refine (tells_any a0 a1 a2 b2 ⟨a3, b3, c3, d3⟩ f4 k4 n4 e4 s4 ka4 oa4 kl4 kc4 ol4 oc4 W hk4 hd4).mono fun e W' ⟨he, hb⟩ => ?_
  subst he
  exact ⟨_, rfl, post_keep matrixTells_laidOut (fun t ht => matrixTells_types t ht) rfl hW' (fun ds' hds => matrixTells_fn ds' hds) (by kernel_rfl) Try.underlying4 hb⟩

theorem matrixTells_holds : Rows.MatrixTellsSaid :=
  OpenClaim.holds_of_wide 3 Try.f3 rfl rfl rfl rfl rfl rfl rfl ⟨rfl, rfl, rfl, rfl, rfl⟩ rfl rfl rfl rfl rfl (by kernel_rfl) Try.func3 (by kernel_rfl)
    (of_decide_eq_true (by kernel_rfl)) (by unfold Func.isWrapper; first | (rw [if_pos (by decide +kernel)]; kernel_rfl) | (rw [if_neg (by decide +kernel)]; exact ⟨rfl, rfl⟩))
    (fun os started H enc _ => matrixTells_lifted os started H enc)
end Go.Proofs.Ythihmbicalacfaa
