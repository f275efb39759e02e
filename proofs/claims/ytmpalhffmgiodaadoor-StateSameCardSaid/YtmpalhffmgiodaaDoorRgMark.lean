/-
  Ranges over functions inside a loop: the marks that they leave among a frame's deferred calls, taken over at its end.
-/
import Derived.RangeFuncLeaves
import Derived.RangeFuncRecord
import Derived.RangeFuncWrites
import Derived.LoopNIn
import Derived.Test.YtmpalhffmgiodaaDoorBlk
namespace Go.Proofs.YtmpalhffmgiodaaDoor
open Go Go.RowKit

/-- The frame's deferred calls are marks: blocks from B on, each another one, each still open and empty. -/
def Marked (B : Nat) (W : World) : List Deferred → Prop
  | [] => True
  | d :: ds => (∃ D, d = { target := .collected D, args := #[] } ∧ B ≤ D ∧ W.heap[D]? = some (.deferred (some [])) ∧ ∀ d' ∈ ds, d'.target ≠ .collected D) ∧ Marked B W ds
theorem Marked.kept {B : Nat} {W W' : World} (hk : ∀ D, B ≤ D → W.heap[D]? = some (.deferred (some [])) → W'.heap[D]? = some (.deferred (some []))) : ∀ {ds : List Deferred}, Marked B W ds → Marked B W' ds
  | [], _ => trivial
  | _ :: _, ⟨⟨D, e, hB, h, hne⟩, hm⟩ => ⟨⟨D, e, hB, hk D hB h, hne⟩, hm.kept hk⟩
theorem Marked.below {B : Nat} {W : World} : ∀ {ds : List Deferred}, Marked B W ds → ∀ d ∈ ds, ∃ D, d.target = .collected D ∧ D < W.heap.size
  | [], _ => fun _ h => by cases h
  | _ :: _, ⟨⟨D, e, _, h, _⟩, hm⟩ => fun d hd => by
    rcases List.mem_cons.1 hd with rfl | hd
    · exact ⟨D, by rw [e], (Array.getElem?_eq_some_iff.1 h).1⟩
    · exact hm.below d hd
theorem Marked.far {B S : Nat} {W0 W W' : World} (hS : W0.heap.size = S) (hk : ∀ D, D < S → W.heap[D]? = some (.deferred (some [])) → W'.heap[D]? = some (.deferred (some []))) : ∀ {ds : List Deferred}, Marked B W0 ds → Marked B W ds → Marked B W' ds
  | [], _, _ => trivial
  | _ :: _, ⟨⟨D0, e0, _, h0, _⟩, hm0⟩, ⟨⟨D, e, hB, h, hne⟩, hm⟩ => by
    have hDD : D = D0 := by
      rw [e0] at e
      injection e with e _
      injection e with e
      exact e.symm
    have hlt : D < S := by rw [hDD, ← hS]; exact (Array.getElem?_eq_some_iff.1 h0).1
    exact ⟨⟨D, e, hB, hk D hlt h, hne⟩, Marked.far hS hk hm0 hm⟩
/-- One more mark, of a block that is new. -/
theorem Marked.push {B D S : Nat} {W W' : World} {ds : List Deferred} (h : Marked B W' ds) (hD : W'.heap[D]? = some (.deferred (some []))) (hB : B ≤ D) (hold : Marked B W ds) (hS : W.heap.size = S) (hn : S ≤ D) : Marked B W' ({ target := .collected D, args := #[] } :: ds) :=
  ⟨⟨D, rfl, hB, hD, fun d' hd' e => by
    obtain ⟨D', e', hlt⟩ := hold.below d' hd'
    rw [e'] at e
    injection e with e
    omega⟩, h⟩
theorem Marked.shut {B D : Nat} {W : World} (hlt : D < W.heap.size) : ∀ {ds : List Deferred}, Marked B W ds → (∀ d' ∈ ds, d'.target ≠ .collected D) → Marked B (W.putObj D (.deferred none)) ds
  | [], _, _ => trivial
  | d :: ds, ⟨⟨D', e, hB, h, hne⟩, hm⟩, hd => by
    have hDD : D' ≠ D := fun e' => hd d (List.mem_cons_self ..) (by rw [e, e'])
    exact ⟨⟨D', e, hB, (World.putObj_heap_other (by omega)).trans h, hne⟩, hm.shut hlt (fun d' h' => hd d' (List.mem_cons_of_mem _ h'))⟩
/-- A frame that returns with its marks: each is shut, then the results are read. -/
theorem leaves_marks {F : Fence} {n : Nat} {P : Program} {fn : Func} {tmps : Array Value} {R : Ending → World → Prop} {B : Nat} {S : World → Prop}
    (hS : ∀ W D, S W → B ≤ D → W.heap[D]? = some (.deferred (some [])) → S (W.putObj D (.deferred none))) (hend : ∀ W, S W → ∃ v, (results fn tmps).run P W = .ok v W ∧ R (.returned v) W) :
    ∀ (ds : List Deferred) (W : World), Marked B W ds → S W → LeavesInM F n P fn tmps R ds .returning W
  | [], W, _, hs => hend W hs
  | d :: ds, W, ⟨⟨D, e, hB, h, hne⟩, hm⟩, hs => by
    subst e
    refine ⟨by simp, .inl ⟨D, _, rfl, run_takeDeferred h, ?_⟩⟩
    exact leaves_marks hS hend ds _ (hm.shut (Array.getElem?_eq_some_iff.1 h).1 hne) (hS W D hs hB h)
end Go.Proofs.YtmpalhffmgiodaaDoor
