/-
  A drawn region of calls whose answers hang on no order: each of them answers a known value in every world that meets S, and leaves a world that meets S.
-/
import Derived.Test.YticliemmplefoaaBase0
import Derived.Deep.RegionHeld
namespace Go.Proofs.Yticliemmplefoaa
open Go Go.RowKit

section
variable {P : Program} {ops : Array Oper} {Q : Exit → Act → World → Prop} {md : Region.Mode} {S : World → Prop}

/-- In state a, in every world that meets S, operation o leaves v in its temporary and a world that meets S. -/
def Det (P : Program) (ops : Array Oper) (S : World → Prop) (o : Oper) (v : Value) (a : Act) : Prop :=
  (Region.wanted o (yielded ops a.tmps) = true ∧ ∀ w, S w → ∃ f args, (execOp a.eval o).run P w = .ok (.enter f args) w ∧ Calls P f args w (fun e w' => e = .returned v ∧ S w')) ∨
  (Region.wanted o (yielded ops a.tmps) = false ∧ v = undef)
theorem Det.of_same {o : Oper} {v : Value} {a a' : Act} (hy : Det P ops S o v a) (he : execOp a'.eval o = execOp a.eval o)
    (hw : Region.wanted o (yielded ops a'.tmps) = Region.wanted o (yielded ops a.tmps)) : Det P ops S o v a' := by
  unfold Det at *
  rw [he, hw]
  exact hy
theorem Det.wpOp {i : Nat} {o : Oper} {v : Value} {a : Act} (hi : ops[i]? = some o) (hy : Det P ops S o v a)
    {K : Act → World → Prop} {w : World} (hS : S w) (h : ∀ w', S w' → K (a.put o.dst v) w') : wpOp P ops Q i K a w := by
  unfold Go.wpOp
  simp only [hi]
  rcases hy with ⟨hw, hv⟩ | ⟨hw, rfl⟩
  · obtain ⟨f, args, hr, hc⟩ := hv w hS
    simp only [hw, if_true, Oper.wp, hr, Oper.upon]
    refine .inl (hc.mono ?_)
    rintro e w' ⟨rfl, hs⟩
    exact h w' hs
  · simp only [hw, Bool.false_eq_true, if_false]
    exact h w hS

/-- All that may come up is so, until T alone may come up: from there on, in every world that meets S, the rest goes. -/
def DetAll (P : Program) (md : Region.Mode) (ops : Array Oper) (Q : Exit → Act → World → Prop) (S : World → Prop) (T : Nat) : Nat → Array Bool → Act → Prop
  | 0, listed, a => (∀ j ∈ Region.ready md ops listed, j = T) ∧ ∀ w, S w → wpAnyH P md ops Q S 0 listed a w
  | fuel + 1, listed, a => ((∀ j ∈ Region.ready md ops listed, j = T) ∧ ∀ w, S w → wpAnyH P md ops Q S (fuel + 1) listed a w) ∨
      (Region.ready md ops listed ≠ [] ∧ ∀ j ∈ Region.ready md ops listed, ∃ oj vj, ops[j]? = some oj ∧ Det P ops S oj vj a ∧ DetAll P md ops Q S T fuel (listed.setIfInBounds j true) (a.put oj.dst vj))

theorem DetAll.run {T : Nat} : ∀ (fuel : Nat) (listed : Array Bool) (a : Act), DetAll P md ops Q S T fuel listed a → ∀ w, S w → wpAnyH P md ops Q S fuel listed a w := by
  intro fuel
  induction fuel with
  | zero => exact fun _ _ h => h.2
  | succ fuel ih =>
    intro listed a h w hS
    rcases h with h | ⟨hne, hall⟩
    · exact h.2 w hS
    · refine ⟨fun h0 => absurd h0 hne, fun j hj => ?_⟩
      obtain ⟨oj, vj, hoj, hd, hD⟩ := hall j hj
      exact hd.wpOp hoj hS (fun w' hS' => ⟨hS', ih _ _ hD w' hS'⟩)
theorem DetAll.leaf {T : Nat} {fuel : Nat} {listed : Array Bool} {a : Act} (hr : Region.ready md ops listed = [T]) (h : ∀ w, S w → wpAnyH P md ops Q S fuel listed a w) : DetAll P md ops Q S T fuel listed a := by
  have hT : ∀ j ∈ Region.ready md ops listed, j = T := fun j hj => by rw [hr] at hj; simpa using hj
  cases fuel with
  | zero => exact ⟨hT, h⟩
  | succ fuel => exact Or.inl ⟨hT, h⟩
/-- Does operation T wait for operation i? -/
def waits (md : Region.Mode) (ops : Array Oper) (T i : Nat) : Bool := match ops[T]? with
  | some o => o.after.any fun e => Region.binds md e && e.on == i
  | none => false
theorem waits_spec {T i : Nat} (h : waits md ops T i = true) {listed : Array Bool} (hi : i ∈ Region.ready md ops listed) : T ∉ Region.ready md ops listed := fun hT => by
  obtain ⟨_, o, ho, hall⟩ := mem_ready.1 hT
  unfold waits at h
  rw [ho] at h
  obtain ⟨e, he, hb⟩ := Array.any_eq_true'.1 h
  simp only [Bool.and_eq_true, beq_iff_eq] at hb
  have h1 := hall e he hb.1
  have h0 := (mem_ready.1 hi).1
  rw [hb.2] at h1
  rcases Nat.lt_or_ge i listed.size with h' | h'
  · simp [h'] at h0 h1; rw [h0] at h1; cases h1
  · simp [Array.getElem?_eq_none h'] at h1

theorem DetAll.first {T i : Nat} {oi : Oper} {v : Value} (hi : ops[i]? = some oi) (hs : Region.noSelect ops = true) (hT : waits md ops T i = true) :
    ∀ (fuel : Nat) (listed : Array Bool) (a : Act),
      (∀ j oj, ops[j]? = some oj → j ≠ i → listed.getD j true = false → (∀ e ∈ oj.after, Region.binds md e = true → e.on ≠ i) → oi.apart ops oj = true) →
      i ∈ Region.ready md ops listed → Det P ops S oi v a → DetAll P md ops Q S T fuel (listed.setIfInBounds i true) (a.put oi.dst v) → DetAll P md ops Q S T (fuel + 1) listed a := by
  have hsel := Region.noSelect_spec hs
  intro fuel
  induction fuel with
  | zero =>
    intro listed a _ hr hy H
    refine Or.inr ⟨fun h => (by rw [h] at hr; cases hr), fun j hj => ?_⟩
    by_cases hji : j = i
    · subst hji; exact ⟨oi, v, hi, hy, H⟩
    · have := H.1 j (ready_mono hj hji)
      subst this
      exact absurd hj (waits_spec hT hr)
  | succ fuel ih =>
    intro listed a hfree hr hy H
    refine Or.inr ⟨fun h => (by rw [h] at hr; cases hr), fun j hj => ?_⟩
    by_cases hji : j = i
    · subst hji; exact ⟨oi, v, hi, hy, H⟩
    · have hj2 := ready_mono hj hji
      rcases H with ⟨hl, _⟩ | ⟨_, hn⟩
      · have := hl j hj2
        subst this
        exact absurd hj (waits_spec hT hr)
      · obtain ⟨oj, vj, hoj, hdj, hDj⟩ := hn j hj2
        obtain ⟨hjun, oj', hoj', hall⟩ := mem_ready.1 hj
        have hnot : ∀ e ∈ oj.after, Region.binds md e = true → e.on ≠ i := fun e he hb heq => by
          rw [hoj] at hoj'
          cases hoj'
          have h1 := hall e he hb
          have h0 := (mem_ready.1 hr).1
          rw [heq] at h1
          rcases Nat.lt_or_ge i listed.size with h' | h'
          · simp [h'] at h0 h1; rw [h0] at h1; cases h1
          · simp [Array.getElem?_eq_none h'] at h1
        obtain ⟨h1, h2, h3⟩ := Oper.apart_spec (hfree j oj hoj hji hjun hnot)
        refine ⟨oj, vj, hoj, hdj.of_same (execOp_put oj (fun cs b => hsel j oj cs b hoj) a oi.dst v h1).symm (wanted_put oj a oi.dst v h1).symm, ih _ _ ?_ (ready_mono hr (Ne.symm hji)) (hy.of_same (execOp_put oi (fun cs b => hsel i oi cs b hi) a oj.dst vj h3) (wanted_put oi a oj.dst vj h3)) ?_⟩
        · intro k ok hk hki hun hno
          refine hfree k ok hk hki ?_ hno
          by_cases hjk : j = k
          · subst hjk; exact hjun
          · rw [getD_set_ne true hjk] at hun; exact hun
        · rw [Array.setIfInBounds_comm _ _ hji, ← Act.put_comm a v vj h2]
          exact hDj
/-- A call is taken first. -/
theorem DetAll.call {T i : Nat} {oi : Oper} {v : Value} {fuel : Nat} {listed : Array Bool} {a : Act} (hi : ops[i]? = some oi) (hs : Region.noSelect ops = true) (hT : waits md ops T i = true)
    (hf : Region.free md ops listed i = true) (hr : (Region.ready md ops listed).contains i = true) (hw : Region.wanted oi (yielded ops a.tmps) = true)
    (hy : ∀ w, S w → ∃ f args, (execOp a.eval oi).run P w = .ok (.enter f args) w ∧ Calls P f args w (fun e w' => e = .returned v ∧ S w'))
    (h : DetAll P md ops Q S T fuel (listed.setIfInBounds i true) (a.put oi.dst v)) : DetAll P md ops Q S T (fuel + 1) listed a :=
  DetAll.first hi hs hT fuel listed a (Region.free_spec hi hf) (by simpa using hr) (Or.inl ⟨hw, hy⟩) h
end
end Go.Proofs.Yticliemmplefoaa
