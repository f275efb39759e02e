/-
  For all lists of lengths and symbols, CodeBack returns true. (No condition.)
-/
import Derived.Test.YtbgechfmbogbpaaCodBk
import Derived.Test.YtbgechfmbogbpaaCodRow
namespace Go.Proofs.Ytbgechfmbogbpaa
open Go.ChangeShapes Go.WideShapes Go.ChangeAt Go.RowKit Cod

/-! ### The row. -/
theorem codeBack_laidOut : laidOutB Try.prog = true := by kernel_rfl
theorem codeBack_own : ownKnob Try.prog.godebug = none := by kernel_rfl
theorem codeBack_types (t : TypeId) (ht : t ∈ Try.f6.params.toList) : Try.prog.readableRec t = true ∧ t < Try.prog.types.size := by
  rw [Try.params6] at ht
  simp only [List.mem_cons, List.not_mem_nil, or_false] at ht
  rcases ht with rfl | rfl
  · exact ⟨by kernel_rfl, of_decide_eq_true (by kernel_rfl)⟩
  · exact ⟨by kernel_rfl, of_decide_eq_true (by kernel_rfl)⟩
theorem codeBack_fn {H : Type} (ds' : List (DataW H)) (h : ds'.length = Try.f6.params.size) : Rows.codeBackSpec.fn H ds' = { results := [.lit (.bool true)], args := ds' } := by
  have h' : ds'.length = 2 := h.trans (by kernel_rfl)
  match ds', h' with
  | [_, _], _ => rfl

set_option maxRecDepth 100000 in
theorem codeBack_lifted (os : Os) (started : os.Started) (H : Type) (enc : TypeId × Value → H) :
    ReturnsInHanded {} Try.checked os 6 .any (Rows.codeBackSpec.pre6 enc Try.prog Try.f6 Rows.codeBackRow.domain false) (Rows.codeBackSpec.post enc Try.prog Try.f6 false true false false) := by
  refine returnsInHanded_of_change_shaped (C := Try.checked) codeBack_own started (by kernel_rfl) Try.func6
    (ChangeSpec.witness6 (enc := enc) (C := Try.checked) false ⟨#[], #[.slice none 0 0, .slice none 0 0], []⟩ 8 (by kernel_rfl) (by kernel_rfl) (by kernel_rfl) (by kernel_rfl)) ?_
  intro W base args ds gs before hval0 hW hcnd0 _ hsh _
  have hval : ∀ (j : Nat) t v, Try.f6.params[j]? = some t → args[j]? = some v → Value.okWide Try.prog W .any base t v := hval0
  have hW' := hW
  obtain ⟨p, q, hA0, hV, rfl, hfz, hnd⟩ := hW
  have hA : DataW.TrodAll enc Try.prog W 0 (fun _ => true) true Try.f6.params.toList args.toList ds p := hA0
  rw [Try.params6] at hA hval
  obtain ⟨v0, vs0, d0, ds0, p0, q0, hargs, rfl, rfl, h0, r0⟩ := trodAll_cons hA
  obtain ⟨v1, vs1, d1, ds1, p1, q1, rfl, rfl, rfl, h1, r1⟩ := trodAll_cons r0
  obtain ⟨rfl, rfl, rfl⟩ := trodAll_nil r1
  obtain rfl : args = #[v0, v1] := by cases args; simp_all
  obtain ⟨rfl, rfl⟩ := trodVars_none hV
  obtain ⟨A0, cap0, l0, rfl, g0, gn0, gw0⟩ := ints_of (hval 0 22 v0 rfl rfl) h0
  obtain ⟨A1, cap1, l1, rfl, g1, gn1, gw1⟩ := ints_of (hval 1 22 v1 rfl rfl) h1
  clear hA0 hval0
  refine (back_any A0 A1 cap0 cap1 l0 l1 W g0 g1 gn0 gw1).mono fun e W' ⟨he, hb⟩ => ?_
  subst he
  exact ⟨_, rfl, post_keep codeBack_laidOut (fun t ht => codeBack_types t ht) rfl hW' (fun ds' hds => codeBack_fn ds' hds) (by kernel_rfl) Try.underlying4 hb⟩

theorem codeBack_holds : Rows.CodeBackSaid :=
  OpenClaim.holds_of_wide 6 Try.f6 rfl rfl rfl rfl rfl rfl rfl ⟨rfl, rfl, rfl, rfl, rfl⟩ rfl rfl rfl rfl rfl (by kernel_rfl) Try.func6 (by kernel_rfl)
    (of_decide_eq_true (by kernel_rfl)) (by unfold Func.isWrapper; first | (rw [if_pos (by decide +kernel)]; kernel_rfl) | (rw [if_neg (by decide +kernel)]; exact ⟨rfl, rfl⟩))
    (fun os started H enc _ => codeBack_lifted os started H enc)
end Go.Proofs.Ytbgechfmbogbpaa
