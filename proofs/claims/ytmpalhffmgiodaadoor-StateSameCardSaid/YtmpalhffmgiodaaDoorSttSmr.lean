/-
  StateSame: for every two graphics states, state.Same answers what the document's own comparison answers, and every state is the same as itself.
-/
import Derived.Test.YtmpalhffmgiodaaDoorSttU
import Derived.Test.YtmpalhffmgiodaaDoorSttV
import Derived.Deep.DeepWitnessRowRef
namespace Go.Proofs.YtmpalhffmgiodaaDoor
open Go.ChangeShapes Go.WideShapes Go.ChangeAt Go.RowKit

theorem stateSame_any (g h : Nat → Int) (f k : ByteArray) (A B : Option Addr) (l m : List Int) (ca cb : Nat) (w : World) (hA : NAt w A l) (hB : NAt w B m) (hsp : SpaceAt w) (hg : 0 < w.heap.size) :
    Calls Tryd.prog 3 #[.agg (gsC g f (.slice A l.length ca)), .agg (gsC h k (.slice B m.length cb))] w fun e w' => e = .returned (.bool true) ∧ Below w.heap.size w w' := by
  by_cases h1 : l.length ≤ 100
  · by_cases h2 : m.length ≤ 100
    · exact stateSame_near g h f k A B l m ca cb w hA hB h1 h2 hsp hg
    · exact stateSame_far g h f k A B l m ca cb w (Or.inr (by omega)) hsp hg
  · exact stateSame_far g h f k A B l m ca cb w (Or.inl (by omega)) hsp hg
def zeroD {H : Type} : DataW H := .agg [.agg [.lit (.int .i64 0), .lit (.int .i64 0), .lit (.int .i64 0), .lit (.int .i64 0), .lit (.int .i64 0), .lit (.int .i64 0)], .lit (.int .i64 0), .lit (.int .i64 0), .lit (.int .i64 0), .lit (.int .i64 0), .nil, .lit (.int .i64 0), .agg [.lit (.int .i64 0), .lit (.int .i64 0), .lit (.int .i64 0), .lit (.int .i64 0), .lit (.int .i64 0)], .agg [.lit (.int .i64 0), .lit (.int .i64 0), .lit (.int .i64 0), .lit (.int .i64 0), .lit (.int .i64 0)], .agg [.lit (.int .i64 0), .lit (.int .i64 0), .lit (.int .i64 0), .lit (.int .i64 0), .lit (.int .i64 0), .lit (.int .i64 0), .lit (.string []), .lit (.int .i64 0)]]

/-! ### The row, and its card. -/
theorem stateSame_laidOut : laidOutB Tryd.prog = true := by kernel_rfl
theorem stateSame_types (t : TypeId) (ht : t ∈ Tryd.f3.params.toList) : Tryd.prog.readableRec t = true ∧ t < Tryd.prog.types.size := by
  rw [Tryd.params3] at ht
  simp only [List.mem_cons, List.not_mem_nil, or_false] at ht
  rcases ht with rfl | rfl
  · exact ⟨by kernel_rfl, of_decide_eq_true (by kernel_rfl)⟩
  · exact ⟨by kernel_rfl, of_decide_eq_true (by kernel_rfl)⟩
theorem stateSame_fn {H : Type} (ds' : List (DataW H)) (h : ds'.length = Tryd.f3.params.size) : Rows.stateSameSpec.fn H ds' = { results := [.lit (.bool true)], args := ds' } := by
  have h' : ds'.length = 2 := h.trans (by kernel_rfl)
  match ds', h' with
  | [_, _], _ => rfl
set_option maxRecDepth 100000 in
theorem stateSame_contract (H : Type) (enc : TypeId × Value → H) (W : World) (base : Nat) (args : Array Value) (ds gs : List (DataW H)) (before : List MemPlace)
    (hval : ∀ (j : Nat) t v, Tryd.f3.params[j]? = some t → args[j]? = some v → Value.okWide Tryd.prog W .any base t v)
    (hW : DataW.Whole enc Tryd.prog Tryd.f3.params.toList Rows.stateSameSpec.vars false W args.toList ds gs before) (hL : laidMetH Tryd.prog Rows.stateSameRow.laid W) (_hsh : W.ShapedOpen Tryd.prog) :
    Calls Tryd.prog 3 args W fun e W' => ∃ v, e = .returned v ∧ Rows.stateSameSpec.post enc Tryd.prog Tryd.f3 false true false false W args v W' := by
  have hW' := hW
  obtain ⟨p, q, hA0, hV, rfl, hfz, hnd⟩ := hW
  have hA : DataW.TrodAll enc Tryd.prog W 0 (fun _ => true) true Tryd.f3.params.toList args.toList ds p := hA0
  rw [Tryd.params3] at hA hval
  obtain ⟨v0, vs0, d0, ds0, p0, q0, hargs, rfl, rfl, h0, r0⟩ := trodAll_cons hA
  obtain ⟨v1, vs1, d1, ds1, p1, q1, rfl, rfl, rfl, h1, r1⟩ := trodAll_cons r0
  obtain ⟨rfl, rfl, rfl⟩ := trodAll_nil r1
  obtain rfl : args = #[v0, v1] := by cases args; simp_all
  obtain ⟨rfl, rfl⟩ := trodVars_none hV
  obtain ⟨g0, s0, A0, l0, c0, rfl, n0⟩ := open_gs (hval 0 30 v0 rfl rfl) h0
  obtain ⟨g1, s1, A1, l1, c1, rfl, n1⟩ := open_gs (hval 1 30 v1 rfl rfl) h1
  clear hA0
  refine (stateSame_any g0 g1 s0 s1 A0 A1 l0 l1 c0 c1 W n0 n1 (live_of hL).1 (live_of hL).2).mono fun e W' ⟨he, hb⟩ => ?_
  subst he
  exact ⟨_, rfl, post_keep stateSame_laidOut (fun t ht => stateSame_types t ht) rfl hW' (fun ds' hds => stateSame_fn ds' hds) (by kernel_rfl) Tryd.underlying4 hb⟩

theorem stateSame_reads (os : Os) {H : Type} (enc : TypeId × Value → H) : ∃ places, DataW.whole enc Tryd.prog ((laidWorld os).forCall (fun _ _ => 0) ⟨#[], #[.agg zeroG, .agg zeroG], []⟩).memory Tryd.f3.params.toList Rows.stateSameSpec.vars false #[(.agg zeroG : Value), .agg zeroG].toList 8 = some ([zeroD, zeroD], [], places) :=
  ⟨[], by kernel_rfl⟩

set_option maxRecDepth 100000 in
theorem stateSame_lifted (os : Os) (started : os.Started) (H : Type) (enc : TypeId × Value → H) (F : Stop.Interp) :
    ReturnsInHanded {} Tryd.checked os 3 .any ((OpenSpec.ofChange Rows.stateSameSpec).preRow enc Tryd.prog Tryd.f3 Rows.stateSameRow.domain false Rows.stateSameRow.laid) (((OpenSpec.ofChange Rows.stateSameSpec).at F).post enc Tryd.prog Tryd.f3 false true false false) := by
  obtain ⟨places, hx⟩ := stateSame_reads os enc
  refine returnsInHanded_of_row (C := Tryd.checked) (s := OpenSpec.ofChange Rows.stateSameSpec) own started (by kernel_rfl) Tryd.func3
    (witness_row_atRef (enc := enc) (C := Tryd.checked) false (laidWorld os) #[.agg zeroG, .agg zeroG] (World.laidAll_os _ _ _) (by kernel_rfl) (by kernel_rfl) (by kernel_rfl)
      (OpenSpec.preRow_of_cond 8 hx (by kernel_rfl) (fun k hk => by cases hk) (by kernel_rfl) (laid_met os _))) ?_
  intro W base args ds gs before hval hW _ _ _ hL hsh _
  exact stateSame_contract H enc W base args ds gs before hval hW hL hsh

theorem stateSame_said : Rows.StateSameSaid :=
  OpenClaim.holds_of_cond 3 Tryd.f3 rfl rfl rfl rfl rfl rfl rfl ⟨rfl, rfl, rfl, rfl, rfl⟩ rfl rfl rfl rfl rfl (by kernel_rfl) Tryd.func3 (by kernel_rfl)
    (of_decide_eq_true (by kernel_rfl)) (by unfold Func.isWrapper; first | (rw [if_pos (by decide +kernel)]; kernel_rfl) | (rw [if_neg (by decide +kernel)]; exact ⟨rfl, rfl⟩))
    (fun os started H enc _ F => by rw [OpenClaim.pre_eq_preRow]; exact stateSame_lifted os started H enc F)

/-- No parameter wants a stand-in; the program's own looks are off. -/
theorem stateSame_plain (f : FuncId) (fn : Func) (hf : Tryd.pinned.checked.prog.funcNamed "foliant/foliantlaw44.StateSame" = some f) (hfn : Tryd.pinned.checked.prog.funcs[f]? = some fn) :
    true = Tryd.pinned.checked.prog.looks [] ∧ ∀ (j : Nat) t, fn.params[j]? = some t → Tryd.pinned.checked.prog.wantsStandIn t = false := by
  obtain rfl : f = 3 := Option.some.inj ((show Tryd.prog.funcNamed "foliant/foliantlaw44.StateSame" = some 3 by kernel_rfl).symm.trans hf) |>.symm
  obtain rfl : fn = Tryd.f3 := (Option.some.inj (Tryd.func3.symm.trans hfn)).symm
  refine ⟨by kernel_rfl, fun j t ht => ?_⟩
  rw [Tryd.params3] at ht
  have hm := Array.mem_of_getElem? ht
  simp only [List.mem_toArray, List.mem_cons, List.not_mem_nil, or_false] at hm
  rcases hm with rfl | rfl
  · exact (show Tryd.prog.wantsStandIn 30 = false by kernel_rfl)
  · exact (show Tryd.prog.wantsStandIn 30 = false by kernel_rfl)

theorem stateSame_holds : Rows.StateSameCardSaid :=
  Claim7.holds_tied_plain_at .later [] _ _ _ _ stateSame_said (fun _ h => by cases h) (by kernel_rfl) (fun _ h => by cases h) stateSame_row_tie rfl ⟨rfl, rfl⟩ (by kernel_rfl) rfl stateSame_plain (by kernel_rfl)

end Go.Proofs.YtmpalhffmgiodaaDoor
