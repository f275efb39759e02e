/-
  PredictTags: for all colours, columns and strings predictors 10 to 14 put their own tag ahead of every row, and the tag that predictor 15 chooses has the least sum (no condition on the arguments).
-/
import Derived.Test.YticliemmplefoaaPrdTg
import Derived.Test.YticliemmplefoaaRowKeep
import Derived.HandedShaped
import Derived.OpenShut
import Derived.ChangeMaps5
namespace Go.Proofs.Yticliemmplefoaa
open Go.ChangeShapes Go.WideShapes Go.ChangeAt Go.RowKit Oct Prd

theorem u8_nat {z : Int} (h : (Lit.int .u8 z).wf = true) : ∃ a : Nat, z = (a : Int) ∧ a < 256 := by
  simp [Lit.wf, IntKind.min, IntKind.max, IntKind.signed, IntKind.bits] at h
  exact ⟨z.toNat, by omega, by omega⟩
theorem prdTags_r (a b : Int) (s : ByteArray) (w : World) (ha : (Lit.int .u8 a).wf = true) (hb : (Lit.int .u8 b).wf = true) :
    Calls Try.prog 3 #[.int .u8 a, .int .u8 b, .string s] w fun e w' => e = .returned (.bool true) ∧ Below w.heap.size w w' := by
  obtain ⟨a', rfl, ha'⟩ := u8_nat ha
  obtain ⟨b', rfl, hb'⟩ := u8_nat hb
  exact prdTags_any a' b' s w ha' hb'

/-! ### The row. -/
theorem predictTags_laidOut : laidOutB Try.prog = true := by kernel_rfl
theorem predictTags_own : ownKnob Try.prog.godebug = none := by kernel_rfl
theorem predictTags_types (t : TypeId) (ht : t ∈ Try.f3.params.toList) : Try.prog.readableRec t = true ∧ t < Try.prog.types.size := by
  rw [Try.params3] at ht
  simp only [List.mem_cons, List.not_mem_nil, or_false] at ht
  rcases ht with rfl | rfl | rfl
  · exact ⟨by kernel_rfl, of_decide_eq_true (by kernel_rfl)⟩
  · exact ⟨by kernel_rfl, of_decide_eq_true (by kernel_rfl)⟩
  · exact ⟨by kernel_rfl, of_decide_eq_true (by kernel_rfl)⟩
theorem predictTags_fn {H : Type} (ds' : List (DataW H)) (h : ds'.length = Try.f3.params.size) : Rows.predictTagsSpec.fn H ds' = { results := [.lit (.bool true)], args := ds' } := by
  have h' : ds'.length = 3 := h.trans (by kernel_rfl)
  match ds', h' with
  | [_, _, _], _ => rfl

set_option maxRecDepth 100000 in
theorem predictTags_lifted (os : Os) (started : os.Started) (H : Type) (enc : TypeId × Value → H) :
    ReturnsInHanded {} Try.checked os 3 .any (Rows.predictTagsSpec.pre6 enc Try.prog Try.f3 Rows.predictTagsRow.domain false) (Rows.predictTagsSpec.post enc Try.prog Try.f3 false true false false) := by
  refine returnsInHanded_of_change_shaped (C := Try.checked) predictTags_own started (by kernel_rfl) Try.func3
    (ChangeSpec.witness6 (enc := enc) (C := Try.checked) false ⟨#[], #[.int .u8 0, .int .u8 0, .string ⟨#[]⟩], []⟩ 8 (by kernel_rfl) (by kernel_rfl) (by kernel_rfl) (by kernel_rfl)) ?_
  intro W base args ds gs before hval0 hW hcnd0 _ hsh _
  have hval : ∀ (j : Nat) t v, Try.f3.params[j]? = some t → args[j]? = some v → Value.okWide Try.prog W .any base t v := hval0
  have hW' := hW
  obtain ⟨p, q, hA0, hV, rfl, hfz, hnd⟩ := hW
  have hA : DataW.TrodAll enc Try.prog W 0 (fun _ => true) true Try.f3.params.toList args.toList ds p := hA0
  rw [Try.params3] at hA hval
  obtain ⟨v0, vs0, d0, ds0, p0, q0, hargs, rfl, rfl, h0, r0⟩ := trodAll_cons hA
  obtain ⟨v1, vs1, d1, ds1, p1, q1, rfl, rfl, rfl, h1, r1⟩ := trodAll_cons r0
  obtain ⟨v2, vs2, d2, ds2, p2, q2, rfl, rfl, rfl, h2, r2⟩ := trodAll_cons r1
  obtain ⟨rfl, rfl, rfl⟩ := trodAll_nil r2
  obtain rfl : args = #[v0, v1, v2] := by cases args; simp_all
  obtain ⟨rfl, rfl⟩ := trodVars_none hV
  obtain ⟨a0, rfl, rfl, rfl, w0⟩ := open_int Try.underlying5 (hval 0 5 v0 rfl rfl) h0
  obtain ⟨a1, rfl, rfl, rfl, w1⟩ := open_int Try.underlying5 (hval 1 5 v1 rfl rfl) h1
  obtain ⟨a2, rfl, rfl, rfl, w2⟩ := Go.ChangeMaps.open_string Try.underlying9 (hval 2 9 v2 rfl rfl) h2
  clear hA0 hval0
  refine (prdTags_r a0 a1 a2 W w0 w1).mono fun e W' ⟨he, hb⟩ => ?_
  subst he
  exact ⟨_, rfl, post_keep predictTags_laidOut (fun t ht => predictTags_types t ht) rfl hW' (fun ds' hds => predictTags_fn ds' hds) (by kernel_rfl) Try.underlying4 hb⟩

theorem predictTags_holds : Rows.PredictTagsSaid :=
  OpenClaim.holds_of_wide 3 Try.f3 rfl rfl rfl rfl rfl rfl rfl ⟨rfl, rfl, rfl, rfl, rfl⟩ rfl rfl rfl rfl rfl (by kernel_rfl) Try.func3 (by kernel_rfl)
    (of_decide_eq_true (by kernel_rfl)) (by unfold Func.isWrapper; first | (rw [if_pos (by decide +kernel)]; kernel_rfl) | (rw [if_neg (by decide +kernel)]; exact ⟨rfl, rfl⟩))
    (fun os started H enc _ => predictTags_lifted os started H enc)

end Go.Proofs.Yticliemmplefoaa
