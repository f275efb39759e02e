/-
  The last step of a row whose arguments lead to no memory: the call has made new memory, and below it all is as it was.
-/
import Derived.Test.YticliemmplefoaaRows
import Derived.ProofKit
import Derived.Below
import Derived.ChangeSame
namespace Go.Proofs.Yticliemmplefoaa
open Go.WideShapes Go.ChangeShapes Go.RowKit

/-- Arguments and variables that lead to no memory, and a world that agrees with the old one below its size. -/
theorem post_new {H : Type} {enc : TypeId × Value → H} {P : Program} {f : Func} {s : ChangeSpec} {apart fresh handsOn again : Bool} {W W' : World} {args : Array Value} {v : Value} {ds gs : List (DataW H)}
    (whole : DataW.Whole enc P f.params.toList s.vars apart W args.toList ds gs [])
    (results : ∀ (b : Nat) (sp : Nat → Bool) (hd : Bool), DataW.TrodAll enc P W' b sp hd f.resultTypes.toList (v.resultList f.resultTypes.size) (s.fn H (ds ++ gs)).results [])
    (arguments : ∀ sp : Nat → Bool, DataW.TrodAll enc P W' 0 sp true f.params.toList args.toList (s.fn H (ds ++ gs)).args [])
    (variables : ∀ sp : Nat → Bool, DataW.TrodVars enc P W' sp s.vars (s.fn H (ds ++ gs)).vars [])
    (below : Below W.heap.size W W')
    (ok : ∀ (j : Nat) (t : TypeId) (r : Value), f.resultTypes[j]? = some t → (v.resultList f.resultTypes.size)[j]? = some r → Value.okWide P W' .any 0 t r) :
    s.post enc P f apart fresh handsOn again W args v W' := by
  have kept : W.keptBut W' (fun p => p ∈ ([] : List MemPlace) ∧ p ∈ [] ++ ([] ++ [])) := below.frame _
  have both := trodAll_append (arguments fun _ => true) (results 0 (fun _ => true) true)
  refine ⟨ds, gs, [], [], [], [], whole, results _ _ _, arguments _, variables _, ?_, fun _ => ⟨ok, _, _, [], ⟨[], [], both, variables _, rfl, fun b off h => ?_, fun h => ?_⟩, ?_⟩⟩
  · exact World.keptBut_mono (fun p hp => ⟨hp.1, by cases hp.1⟩) kept
  · cases h
  · exact List.nodup_nil
  · intro p hp
    cases hp
end Go.Proofs.Yticliemmplefoaa
