/-
  What the laws call of a machine that lies in memory: New, State, Depth, the comparison of two of its states, an operator of a list.
-/
import Derived.Test.YtbagmjedkcipgaaDoorMgJSttSt
import Derived.Test.YtbagmjedkcipgaaDoorMgSttT
import Derived.Test.YtbagmjedkcipgaaDoorMgSttSm
namespace Go.Proofs.YtbagmjedkcipgaaDoor
open Go.RowKit Mat

/-- The state of a new machine. -/
def st0 (m : Mx) : St := ⟨fun k => [m.a, m.b, m.c, m.d, m.e, m.f, 10000, 0, 0, 100000, 0, 0, 0, 0, 0, 0, 0, 0, 0, 0, 0, 0, 0, 1000000, 0, 0, 0, 0].getD k 0, ⟨#[]⟩, none, [], 0⟩
theorem st0_cells (m : Mx) : (st0 m).cells = firstC m := rfl
theorem st0_at {H x : Nat} {w : World} (m : Mx) (hx : Blk w x 57 (mkM (firstC m) (.slice none 0 0))) (hH : H ≤ x) : MAt H x w (st0 m) (.slice none 0 0) [] :=
  ⟨by unfold mst; rw [st0_cells]; exact hx, rfl, World.ownsRow_nil _ _ _ _, by simp [Value.ownBlock], fun g hg => (by simp [Value.ownBlock] at hg), (by decide),
    ⟨nat_nil w, (by simp [st0]), fun z hz => (by simp [st0] at hz), fun _ => ⟨rfl, rfl⟩, fun a ha => (by simp [st0] at ha)⟩, fun t ht => (by cases ht), hH⟩
theorem new_at (m : Mx) (w : World) (h : okM m = true) {H : Nat} (hH : H ≤ w.heap.size) : Calls Tryd.prog 7 #[mxV m] w fun e w' => ∃ x, e = .returned (.pointer (some ⟨x, 0, none⟩)) ∧ w.heap.size ≤ x ∧ MAt H x w' (st0 m) (.slice none 0 0) [] ∧ Below w.heap.size w w' := by
  obtain ⟨a, b, c, d, e, f⟩ := m
  refine (new_ok a b c d e f w h).mono ?_
  rintro e' w' ⟨x, rfl, hx, hX, hb⟩
  exact ⟨x, rfl, hx, st0_at _ hX (Nat.le_trans hH hx), hb⟩
theorem new_none (m : Mx) (w : World) (h : okM m = false) : Calls Tryd.prog 7 #[mxV m] w fun e w' => e = .returned (.pointer none) ∧ Below w.heap.size w w' := by
  obtain ⟨a, b, c, d, e, f⟩ := m
  exact new_no a b c d e f w h

section
variable {H x : Nat} {w : World} {s : St} {v : Value} {ss : List St}
theorem depth_at (h : MAt H x w s v ss) : Calls Tryd.prog 10 #[.pointer (some ⟨x, 0, none⟩)] w fun e w' => e = .returned (.int .i64 (ss.length : Int)) ∧ w = w' := by
  obtain ⟨A0, c0, hv⟩ := own_form h.saved
  exact depth_any x (mst s v) A0 ss.length c0 w h.blk (by rw [mst_v, hv])
/-- A state that was returned: the machine's own, its dashes in a row that is nobody's. -/
structure Copy (w w' : World) (x : Nat) (v : Value) (s t : St) : Prop where
  g : t.g = s.g
  f : t.f = s.f
  l : t.l = s.l
  is : StIs w' x v t
  row : w'.ownsRow w.heap.size 2 1 (.slice t.A t.l.length t.c) t.l.length (numC t.l)
theorem state_at (h : MAt H x w s v ss) : Calls Tryd.prog 9 #[.pointer (some ⟨x, 0, none⟩)] w fun e w' => ∃ t : St, e = .returned (.agg t.cells.toArray) ∧ Copy w w' x v s t ∧ Below w.heap.size w w' := by
  refine (state_dash x (mst s v) s.A s.c s.l w h.blk (mst_ok s h.one) (mst_d s v) h.now.nat (by have := h.now.len; omega) h.now.nil).mono ?_
  rintro e w' ⟨u, rfl, _, h3, h4⟩
  obtain ⟨B, c, rfl⟩ := own_form h3
  refine ⟨⟨s.g, s.f, B, s.l, c⟩, ?_, ⟨rfl, rfl, rfl, ⟨own_nat h3, h.now.len, h.now.pos, fun hB => ?_, fun a ha => ?_⟩, h3⟩, h4⟩
  · rw [mst_g]
    rfl
  · rcases h3.2 with ⟨e1, e2⟩ | ⟨g, cap, cur, e1, _⟩
    · injection e1 with _ e3 e4
      exact ⟨e4, List.eq_nil_of_length_eq_zero e3⟩
    · injection e1 with e1
      rw [show B = none from hB] at e1
      cases e1
  · have hxl := h.blk.lt
    rcases h3.2 with ⟨e1, e2⟩ | ⟨g, cap, cur, e1, _⟩
    · injection e1 with e1
      rw [show B = some a from ha] at e1; cases e1
    · injection e1 with e1
      rw [show B = some a from ha] at e1
      injection e1 with e1
      subst e1
      have := h3.lt g (by rw [show B = some _ from ha]; rfl)
      refine ⟨this.2, by show g ≠ x; omega, fun e => ?_⟩
      have := saved_lt h e
      change g < _ at this
      omega
theorem refSame_at {t u : St} {w1 : World} {x1 : Nat} {v1 v2 : Value} (h1 : StIs w1 x v1 t) (h2 : StIs w1 x1 v2 u) (eg : t.g = u.g) (ef : t.f = u.f) (el : t.l = u.l) :
    Calls Tryd.prog 13 #[.agg t.cells.toArray, .agg u.cells.toArray] w1 fun e w' => e = .returned (.bool true) ∧ Below w1.heap.size w1 w' := by
  have := refSame_any t.g u.g t.f u.f t.A u.A t.l u.l t.c u.c w1 h1.nat h2.nat (by have := h1.len; omega)
  rw [eg, ef, el, sameG_self] at this
  unfold St.cells
  rw [eg, ef, el]
  exact this
theorem gsame_at {t u : St} {w1 : World} {x1 : Nat} {v1 v2 : Value} (h1 : StIs w1 x v1 t) (h2 : StIs w1 x1 v2 u) (eg : t.g = u.g) (ef : t.f = u.f) (el : t.l = u.l) :
    Calls Tryd.prog 12 #[.agg t.cells.toArray, .agg u.cells.toArray] w1 fun e w' => e = .returned (.bool true) ∧ Below w1.heap.size w1 w' := by
  have := gsame_any t.g u.g t.f u.f t.A u.A t.l u.l t.c u.c w1 h1.nat h2.nat (by have := h1.len; omega)
  rw [eg, ef, el, sameG_self] at this
  unfold St.cells
  rw [eg, ef, el]
  exact this
/-- A machine's own blocks lie from H on. -/
theorem MAt.far {W0 w' : World} (h : MAt H x w s v ss) (ht : Two w w' x v.ownBlock) (hb : Below H W0 w) (hH : H ≤ W0.heap.size) : Below H W0 w' :=
  two_below hb ht h.xH h.vH hH
/-- What was returned as a state: the machine's numbers, its font and its dashes. -/
def CopyAt (W : World) (x : Nat) (v : Value) (s : St) (G : Array Value) : Prop := ∃ t : St, G = t.cells.toArray ∧ t.g = s.g ∧ t.f = s.f ∧ t.l = s.l ∧ StIs W x v t
theorem Copy.at_ {w' : World} {t : St} (h : Copy w w' x v s t) : CopyAt w' x v s t.cells.toArray := ⟨t, rfl, h.g, h.f, h.l, h.is⟩
theorem CopyAt.two {W W' : World} {v' : Value} {G : Array Value} (h : CopyAt W x v s G) (ht : Two W W' x v.ownBlock) (hv : NewRow W v v') : CopyAt W' x v' s G := by
  obtain ⟨t, h1, h2, h3, h4, h5⟩ := h
  exact ⟨t, h1, h2, h3, h4, h5.step ht hv⟩
theorem CopyAt.below {W W' : World} {G : Array Value} (h : CopyAt W x v s G) (hb : Below W.heap.size W W') : CopyAt W' x v s G := h.two (belowTwo hb x _) (NewRow.refl _ _)
theorem CopyAt.ref {W : World} {x1 : Nat} {v1 : Value} {G G1 : Array Value} (h : CopyAt W x v s G) (h1 : CopyAt W x1 v1 s G1) : Calls Tryd.prog 13 #[.agg G, .agg G1] W fun e w' => e = .returned (.bool true) ∧ Below W.heap.size W w' := by
  obtain ⟨t, rfl, a2, a3, a4, a5⟩ := h
  obtain ⟨u, rfl, b2, b3, b4, b5⟩ := h1
  exact refSame_at a5 b5 (a2.trans b2.symm) (a3.trans b3.symm) (a4.trans b4.symm)
theorem CopyAt.same {W : World} {x1 : Nat} {v1 : Value} {G G1 : Array Value} (h : CopyAt W x v s G) (h1 : CopyAt W x1 v1 s G1) : Calls Tryd.prog 12 #[.agg G, .agg G1] W fun e w' => e = .returned (.bool true) ∧ Below W.heap.size W w' := by
  obtain ⟨t, rfl, a2, a3, a4, a5⟩ := h
  obtain ⟨u, rfl, b2, b3, b4, b5⟩ := h1
  exact gsame_at a5 b5 (a2.trans b2.symm) (a3.trans b3.symm) (a4.trans b4.symm)
theorem cells_size (s : St) : s.cells.toArray.size = 30 := rfl
theorem cells_all (s : St) : s.cells.toArray.all (·.oneCell') = true := all_oneCell_toArray (cells_one s)
end
end Go.Proofs.YtbagmjedkcipgaaDoor
