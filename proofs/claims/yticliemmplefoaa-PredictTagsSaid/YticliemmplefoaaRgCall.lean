/-
  Drawn regions of many operations, taken one by one: the books as literals, the temporary that an operation writes by its number, a call that is ready whatever it answers.
-/
import Derived.Test.YticliemmplefoaaRgDet
namespace Go.Proofs.Yticliemmplefoaa
open Go Go.RowKit

/-- The region's books as literals. -/
theorem wpAnyH_norm {P : Program} {md : Region.Mode} {ops : Array Oper} {Q : Exit → Act → World → Prop} {S : World → Prop} {fuel f' : Nat} {listed l' : Array Bool} {a : Act} {w : World} (hl : listed = l') (hf : fuel = f') (h : wpAnyH P md ops Q S f' l' a w) : wpAnyH P md ops Q S fuel listed a w := by subst hl hf; exact h
section
variable {P : Program} {ops : Array Oper} {Q : Exit → Act → World → Prop} {md : Region.Mode} {S : World → Prop}
/-- A call that is ready, whatever it answers. -/
theorem call_ready {α : Type} {i : Nat} {o : Oper} {fuel : Nat} {listed : Array Bool} {a : Act} {w : World} (val : α → Value) (R : α → World → Prop) (hi : ops[i]? = some o) (hw : Region.wanted o (yielded ops a.tmps) = true)
    (hy : ∃ f args, (execOp a.eval o).run P w = .ok (.enter f args) w ∧ Calls P f args w (fun e w' => ∃ x, e = .returned (val x) ∧ R x w'))
    (hS : ∀ x w', R x w' → S w') (h : ∀ x w', R x w' → S w' → wpAnyH P md ops Q S fuel (listed.setIfInBounds i true) (a.put o.dst (val x)) w') :
    wpOp P ops Q i (fun a' w' => S w' ∧ wpAnyH P md ops Q S fuel (listed.setIfInBounds i true) a' w') a w := by
  unfold Go.wpOp
  simp only [hi]
  obtain ⟨f, args, hr, hc⟩ := hy
  simp only [hw, if_true, Oper.wp, hr, Oper.upon]
  refine .inl (hc.mono ?_)
  rintro e w' ⟨x, rfl, hR⟩
  exact ⟨hS x w' hR, h x w' hR (hS x w' hR)⟩
theorem wpAnyH_call {α : Type} {i d : Nat} {o : Oper} {fuel : Nat} {listed : Array Bool} {a : Act} {w : World} (val : α → Value) (R : α → World → Prop) (hr : Region.ready md ops listed = [i]) (hi : ops[i]? = some o) (hd : o.dst = some d) (hw : Region.wanted o (yielded ops a.tmps) = true)
    (hy : ∃ f args, (execOp a.eval o).run P w = .ok (.enter f args) w ∧ Calls P f args w (fun e w' => ∃ x, e = .returned (val x) ∧ R x w'))
    (hS : ∀ x w', R x w' → S w') (h : ∀ x w', R x w' → S w' → wpAnyH P md ops Q S fuel (listed.setIfInBounds i true) (a.put (some d) (val x)) w') :
    wpAnyH P md ops Q S (fuel + 1) listed a w :=
  wpAnyH_ready hr (by simp) (fun j hj => by
    have e : j = i := by simpa using hj
    subst e
    exact call_ready val R hi hw hy hS (by rw [hd]; exact h))
theorem wpAnyH_take' {i d : Nat} {oi : Oper} {v : Value} {fuel : Nat} {listed : Array Bool} {a : Act} {w : World} (hi : ops[i]? = some oi) (hd : oi.dst = some d)
    (hs : Region.noSelect ops = true) (hf : Region.free md ops listed i = true) (hr : (Region.ready md ops listed).contains i = true)
    (hQ : ∀ c a w, Q (.panic c) (a.put (some d) v) w → Q (.panic c) a w) (hy : YieldsIf P ops S oi v a) (hS : S w)
    (h : wpAnyH P md ops Q S fuel (listed.setIfInBounds i true) (a.put (some d) v) w) : wpAnyH P md ops Q S (fuel + 1) listed a w :=
  wpAnyH_take hi hs hf hr (by rw [hd]; exact hQ) hy hS (by rw [hd]; exact h)
theorem DetAll.call' {T i d : Nat} {oi : Oper} {v : Value} {fuel : Nat} {listed : Array Bool} {a : Act} (hi : ops[i]? = some oi) (hd : oi.dst = some d) (hs : Region.noSelect ops = true) (hT : waits md ops T i = true)
    (hf : Region.free md ops listed i = true) (hr : (Region.ready md ops listed).contains i = true) (hw : Region.wanted oi (yielded ops a.tmps) = true)
    (hy : ∀ w, S w → ∃ f args, (execOp a.eval oi).run P w = .ok (.enter f args) w ∧ Calls P f args w (fun e w' => e = .returned v ∧ S w'))
    (h : DetAll P md ops Q S T fuel (listed.setIfInBounds i true) (a.put (some d) v)) : DetAll P md ops Q S T (fuel + 1) listed a :=
  DetAll.call hi hs hT hf hr hw hy (by rw [hd]; exact h)
end
end Go.Proofs.Yticliemmplefoaa
