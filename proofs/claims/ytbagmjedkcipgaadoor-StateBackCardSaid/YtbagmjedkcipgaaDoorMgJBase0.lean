/-
  Lemmas and walks, joined: Base0, Blk, RgMark, Two, RgDet, RgCall.
-/
import Derived.Test.YtbagmjedkcipgaaDoorRows
import Derived.Below
import Derived.WalkKit
import Derived.Deep.QuietTactic
import Derived.Laws.OwnMore
import Derived.Laws.Rows
import Derived.Maps.AppendAt
import Derived.OwnWalk
import Derived.RangeFuncLeaves
import Derived.RangeFuncRecord
import Derived.RangeFuncWrites
import Derived.LoopNIn
import Derived.Deep.RegionHeld
namespace Go.Proofs.YtbagmjedkcipgaaDoor
open Go.RowKit

theorem ret_int {k : IntKind} {a b : Int} (h : a = b) : Ending.returned (.int k a) = .returned (.int k b) := by rw [h]
theorem ret_bool {a b : Bool} (h : a = b) : Ending.returned (.bool a) = .returned (.bool b) := by rw [h]
theorem below_drewN {B : Nat} {a w : World} (h : Below B a w) (n : Nat) : Below B a (w.drewN n) := ⟨h.os, h.tape, h.output, h.size, h.block⟩
/-- A contract that keeps the world, for a drawn region's quiet call. -/
theorem same_q {P : Program} {f : FuncId} {args : Array Value} {w : World} {v : Value} (h : Calls P f args w fun e w' => e = .returned v ∧ w = w') : Calls P f args w fun e w' => e = .returned v ∧ w' = w :=
  h.mono fun _ _ ⟨he, hw⟩ => ⟨he, hw.symm⟩
end Go.Proofs.YtbagmjedkcipgaaDoor
namespace Go.Proofs.YtbagmjedkcipgaaDoor
open Go.RowKit

/-- Block g is just the cells cs, of element type t, none frozen. -/
def Blk (w : World) (g : Nat) (t : TypeId) (cs : Array Value) : Prop := w.heap[g]? = some (.cells cs t (0, 0))

section
variable {w w' : World} {g : Nat} {t : TypeId} {cs : Array Value}
theorem Blk.lt (h : Blk w g t cs) : g < w.heap.size := by
  rcases Nat.lt_or_ge g w.heap.size with hlt | hge
  · exact hlt
  · unfold Blk at h; rw [Array.getElem?_eq_none hge] at h; cases h
theorem Blk.cell (h : Blk w g t cs) (i : Nat) : w.cell? ⟨g, i, none⟩ = cs[i]? := cell_of_row w g i cs t (0, 0) h
theorem Blk.frozen (h : Blk w g t cs) (i : Nat) : w.frozen? ⟨g, i, none⟩ = false := by
  unfold Blk at h
  simp [World.frozen?, h]
theorem Blk.new (w : World) (t : TypeId) (cs : Array Value) : Blk (w.alloc (.cells cs t)) w.heap.size t cs := heap_alloc_new w _
theorem Blk.drewN (h : Blk w g t cs) (n : Nat) : Blk (w.drewN n) g t cs := h
theorem Blk.alloc (h : Blk w g t cs) (o : Obj) : Blk (w.alloc o) g t cs := (Below.heap_alloc w o g h.lt).trans h
theorem Blk.set_ (h : Blk w g t cs) (i : Nat) (u : Value) : Blk (w.setCell ⟨g, i, none⟩ u) g t (cs.setIfInBounds i u) := by
  unfold Blk at h ⊢
  simp [World.setCell, Array.getElem?_modify, h]
theorem Blk.far (h : Blk w g t cs) {p : Addr} (hp : g ≠ p.block) (u : Value) : Blk (w.setCell p u) g t cs := (Below.heap_setCell w p u g hp).trans h
theorem Blk.below {B : Nat} (h : Blk w g t cs) (hb : Below B w w') (hg : g < B) : Blk w' g t cs := (hb.block g hg).trans h
theorem Blk.grown {row : Option Nat} (h : Blk w g t cs) (hb : w.grownBy w' row) (hg : some g ≠ row) : Blk w' g t cs := (hb.block g h.lt hg).trans h
end

/-- What a value that owns a row looks like. -/
theorem own_form {w : World} {base : Nat} {e : TypeId} {size : Nat} {v : Value} {n : Nat} {xs : List Value} (h : w.ownsRow base e size v n xs) : ∃ A c, v = .slice A n c := by
  rcases h.2 with ⟨rfl, rfl⟩ | ⟨k, cap, cur, rfl, _⟩
  · exact ⟨_, _, rfl⟩
  · exact ⟨_, _, rfl⟩

theorem grown_drewN {w w' : World} {row : Option Nat} (h : w.grownBy w' row) (n : Nat) : w.grownBy (w'.drewN n) row := ⟨h.os, h.tape, h.output, h.size, h.block⟩
theorem grown_set {w w' : World} {g : Nat} (h : w.grownBy w' (some g)) (i : Nat) (u : Value) : w.grownBy (w'.setCell ⟨g, i, none⟩ u) (some g) :=
  h.trans ⟨rfl, rfl, rfl, by simp [World.setCell], fun k _ hne => Below.heap_setCell _ _ _ _ (fun e => hne (by rw [e]))⟩
end Go.Proofs.YtbagmjedkcipgaaDoor
namespace Go.Proofs.YtbagmjedkcipgaaDoor
open Go Go.RowKit

/-- The frame's deferred calls are marks: blocks from B on, each another one, each still open and empty. -/
def Marked (B : Nat) (W : World) : List Deferred → Prop
  | [] => True
  | d :: ds => (∃ D, d = { target := .collected D, args := #[] } ∧ B ≤ D ∧ W.heap[D]? = some (.deferred (some [])) ∧ ∀ d' ∈ ds, d'.target ≠ .collected D) ∧ Marked B W ds
theorem Marked.kept {B : Nat} {W W' : World} (hk : ∀ D, B ≤ D → W.heap[D]? = some (.deferred (some [])) → W'.heap[D]? = some (.deferred (some []))) : ∀ {ds : List Deferred}, Marked B W ds → Marked B W' ds
  | [], _ => trivial
  | _ :: _, ⟨⟨D, e, hB, h, hne⟩, hm⟩ => ⟨⟨D, e, hB, hk D hB h, hne⟩, hm.kept hk⟩
theorem Marked.below {B : Nat} {W : World} : ∀ {ds : List Deferred}, Marked B W ds → ∀ d ∈ ds, ∃ D, d.target = .collected D ∧ D < W.heap.size
  | [], _ => fun _ h => by cases h
  | _ :: _, ⟨⟨D, e, _, h, _⟩, hm⟩ => fun d hd => by
    rcases List.mem_cons.1 hd with rfl | hd
    · exact ⟨D, by rw [e], (Array.getElem?_eq_some_iff.1 h).1⟩
    · exact hm.below d hd
theorem Marked.far {B S : Nat} {W0 W W' : World} (hS : W0.heap.size = S) (hk : ∀ D, D < S → W.heap[D]? = some (.deferred (some [])) → W'.heap[D]? = some (.deferred (some []))) : ∀ {ds : List Deferred}, Marked B W0 ds → Marked B W ds → Marked B W' ds
  | [], _, _ => trivial
  | _ :: _, ⟨⟨D0, e0, _, h0, _⟩, hm0⟩, ⟨⟨D, e, hB, h, hne⟩, hm⟩ => by
    have hDD : D = D0 := by
      rw [e0] at e
      injection e with e _
      injection e with e
      exact e.symm
    have hlt : D < S := by rw [hDD, ← hS]; exact (Array.getElem?_eq_some_iff.1 h0).1
    exact ⟨⟨D, e, hB, hk D hlt h, hne⟩, Marked.far hS hk hm0 hm⟩
/-- One more mark, of a block that is new. -/
theorem Marked.push {B D S : Nat} {W W' : World} {ds : List Deferred} (h : Marked B W' ds) (hD : W'.heap[D]? = some (.deferred (some []))) (hB : B ≤ D) (hold : Marked B W ds) (hS : W.heap.size = S) (hn : S ≤ D) : Marked B W' ({ target := .collected D, args := #[] } :: ds) :=
  ⟨⟨D, rfl, hB, hD, fun d' hd' e => by
    obtain ⟨D', e', hlt⟩ := hold.below d' hd'
    rw [e'] at e
    injection e with e
    omega⟩, h⟩
theorem Marked.shut {B D : Nat} {W : World} (hlt : D < W.heap.size) : ∀ {ds : List Deferred}, Marked B W ds → (∀ d' ∈ ds, d'.target ≠ .collected D) → Marked B (W.putObj D (.deferred none)) ds
  | [], _, _ => trivial
  | d :: ds, ⟨⟨D', e, hB, h, hne⟩, hm⟩, hd => by
    have hDD : D' ≠ D := fun e' => hd d (List.mem_cons_self ..) (by rw [e, e'])
    exact ⟨⟨D', e, hB, (World.putObj_heap_other (by omega)).trans h, hne⟩, hm.shut hlt (fun d' h' => hd d' (List.mem_cons_of_mem _ h'))⟩
/-- A frame that returns with its marks: each is shut, then the results are read. -/
theorem leaves_marks {F : Fence} {n : Nat} {P : Program} {fn : Func} {tmps : Array Value} {R : Ending → World → Prop} {B : Nat} {S : World → Prop}
    (hS : ∀ W D, S W → B ≤ D → W.heap[D]? = some (.deferred (some [])) → S (W.putObj D (.deferred none))) (hend : ∀ W, S W → ∃ v, (results fn tmps).run P W = .ok v W ∧ R (.returned v) W) :
    ∀ (ds : List Deferred) (W : World), Marked B W ds → S W → LeavesInM F n P fn tmps R ds .returning W
  | [], W, _, hs => hend W hs
  | d :: ds, W, ⟨⟨D, e, hB, h, hne⟩, hm⟩, hs => by
    subst e
    refine ⟨by simp, .inl ⟨D, _, rfl, run_takeDeferred h, ?_⟩⟩
    exact leaves_marks hS hend ds _ (hm.shut (Array.getElem?_eq_some_iff.1 h).1 hne) (hS W D hs hB h)
end Go.Proofs.YtbagmjedkcipgaaDoor
namespace Go.Proofs.YtbagmjedkcipgaaDoor
open Go.RowKit

/-- What a call on a writer may turn: its block g, its row r, and new blocks. -/
structure Two (w w' : World) (g : Nat) (r : Option Nat) : Prop where
  os : w'.os = w.os
  tape : w'.tape = w.tape
  output : w'.output = w.output
  size : w.heap.size ≤ w'.heap.size
  block : ∀ k, k < w.heap.size → k ≠ g → some k ≠ r → w'.heap[k]? = w.heap[k]?
theorem Two.refl (w : World) (g : Nat) (r : Option Nat) : Two w w g r := ⟨rfl, rfl, rfl, Nat.le_refl _, fun _ _ _ _ => rfl⟩
theorem Two.drewN {w w' : World} {g : Nat} {r : Option Nat} (h : Two w w' g r) (n : Nat) : Two w (w'.drewN n) g r := ⟨h.os, h.tape, h.output, h.size, h.block⟩
theorem Two.trans {a b c : World} {g : Nat} {r r' : Option Nat} (h : Two a b g r) (k : Two b c g r') (hr : r' = r ∨ ∃ k, r' = some k ∧ a.heap.size ≤ k) : Two a c g r :=
  ⟨k.os.trans h.os, k.tape.trans h.tape, k.output.trans h.output, Nat.le_trans h.size k.size, fun i hi h1 h2 =>
    (k.block i (Nat.lt_of_lt_of_le hi h.size) h1 (fun e => by
      rcases hr with rfl | ⟨j, rfl, hj⟩
      · exact h2 e
      · injection e with e; omega)).trans (h.block i hi h1 h2)⟩
theorem Two.set_ {a w : World} {g : Nat} {r : Option Nat} (h : Two a w g r) (i : Nat) (u : Value) : Two a (w.setCell ⟨g, i, none⟩ u) g r :=
  h.trans ⟨rfl, rfl, rfl, by simp [World.setCell], fun k _ hne _ => Below.heap_setCell _ _ _ _ hne⟩ (Or.inl rfl)
theorem Two.row {a w : World} {g k : Nat} {r : Option Nat} (h : Two a w g r) (hk : some k = r ∨ a.heap.size ≤ k) (i : Nat) (u : Value) : Two a (w.setCell ⟨k, i, none⟩ u) g r :=
  h.trans (r' := some k) ⟨rfl, rfl, rfl, by simp [World.setCell], fun j _ _ hne => Below.heap_setCell _ _ _ _ (fun e => hne (by rw [e]))⟩ (by
    rcases hk with e | e
    · exact Or.inl e
    · exact Or.inr ⟨k, rfl, e⟩)
theorem Two.grown {a w w' : World} {g : Nat} {r r' : Option Nat} (h : Two a w g r) (hg : w.grownBy w' r') (hr : r' = r ∨ r' = none ∨ ∃ k, r' = some k ∧ a.heap.size ≤ k) : Two a w' g r :=
  ⟨hg.os.trans h.os, hg.tape.trans h.tape, hg.output.trans h.output, Nat.le_trans h.size hg.size, fun i hi h1 h2 =>
    (hg.block i (Nat.lt_of_lt_of_le hi h.size) (fun e => by
      rcases hr with rfl | rfl | ⟨j, rfl, hj⟩
      · exact h2 e
      · cases e
      · injection e with e; omega)).trans (h.block i hi h1 h2)⟩
theorem Two.alloc {a w : World} {g : Nat} {r : Option Nat} (h : Two a w g r) (o : Obj) : Two a (w.alloc o) g r := h.grown (World.grownBy_alloc w o none) (Or.inr (Or.inl rfl))
theorem Two.below {a w : World} {g B : Nat} {r : Option Nat} (h : Two a w g r) (hB : B ≤ a.heap.size) (hg : B ≤ g) (hr : ∀ k, r = some k → B ≤ k) : Below B a w :=
  ⟨h.os, h.tape, h.output, h.size, fun k hk => h.block k (by omega) (by omega) (fun e => by have := hr k e.symm; omega)⟩
theorem Two.blk {a w : World} {g g' : Nat} {r : Option Nat} {t : TypeId} {cs : Array Value} (h : Two a w g r) (hb : Blk a g' t cs) (h1 : g' ≠ g) (h2 : some g' ≠ r) : Blk w g' t cs := (h.block g' hb.lt h1 h2).trans hb

end Go.Proofs.YtbagmjedkcipgaaDoor
namespace Go.Proofs.YtbagmjedkcipgaaDoor
open Go Go.RowKit

section
variable {P : Program} {ops : Array Oper} {Q : Exit → Act → World → Prop} {md : Region.Mode} {S : World → Prop}

/-- In state a, in every world that meets S, operation o leaves v in its temporary and a world that meets S. -/
def Det (P : Program) (ops : Array Oper) (S : World → Prop) (o : Oper) (v : Value) (a : Act) : Prop :=
  (Region.wanted o (yielded ops a.tmps) = true ∧ ∀ w, S w → ∃ f args, (execOp a.eval o).run P w = .ok (.enter f args) w ∧ Calls P f args w (fun e w' => e = .returned v ∧ S w')) ∨
  (Region.wanted o (yielded ops a.tmps) = false ∧ v = undef)
theorem Det.of_same {o : Oper} {v : Value} {a a' : Act} (hy : Det P ops S o v a) (he : execOp a'.eval o = execOp a.eval o)
    (hw : Region.wanted o (yielded ops a'.tmps) = Region.wanted o (yielded ops a.tmps)) : Det P ops S o v a' := by
  unfold Det at *
  rw [he, hw]
  exact hy
theorem Det.wpOp {i : Nat} {o : Oper} {v : Value} {a : Act} (hi : ops[i]? = some o) (hy : Det P ops S o v a)
    {K : Act → World → Prop} {w : World} (hS : S w) (h : ∀ w', S w' → K (a.put o.dst v) w') : wpOp P ops Q i K a w := by
  unfold Go.wpOp
  simp only [hi]
  rcases hy with ⟨hw, hv⟩ | ⟨hw, rfl⟩
  · obtain ⟨f, args, hr, hc⟩ := hv w hS
    simp only [hw, if_true, Oper.wp, hr, Oper.upon]
    refine .inl (hc.mono ?_)
    rintro e w' ⟨rfl, hs⟩
    exact h w' hs
  · simp only [hw, Bool.false_eq_true, if_false]
    exact h w hS

/-- All that may come up is so, until T alone may come up: from there on, in every world that meets S, the rest goes. -/
def DetAll (P : Program) (md : Region.Mode) (ops : Array Oper) (Q : Exit → Act → World → Prop) (S : World → Prop) (T : Nat) : Nat → Array Bool → Act → Prop
  | 0, listed, a => (∀ j ∈ Region.ready md ops listed, j = T) ∧ ∀ w, S w → wpAnyH P md ops Q S 0 listed a w
  | fuel + 1, listed, a => ((∀ j ∈ Region.ready md ops listed, j = T) ∧ ∀ w, S w → wpAnyH P md ops Q S (fuel + 1) listed a w) ∨
      (Region.ready md ops listed ≠ [] ∧ ∀ j ∈ Region.ready md ops listed, ∃ oj vj, ops[j]? = some oj ∧ Det P ops S oj vj a ∧ DetAll P md ops Q S T fuel (listed.setIfInBounds j true) (a.put oj.dst vj))

theorem DetAll.run {T : Nat} : ∀ (fuel : Nat) (listed : Array Bool) (a : Act), DetAll P md ops Q S T fuel listed a → ∀ w, S w → wpAnyH P md ops Q S fuel listed a w := by
  intro fuel
  induction fuel with
  | zero => exact fun _ _ h => h.2
  | succ fuel ih =>
    intro listed a h w hS
    rcases h with h | ⟨hne, hall⟩
    · exact h.2 w hS
    · refine ⟨fun h0 => absurd h0 hne, fun j hj => ?_⟩
      obtain ⟨oj, vj, hoj, hd, hD⟩ := hall j hj
      exact hd.wpOp hoj hS (fun w' hS' => ⟨hS', ih _ _ hD w' hS'⟩)
theorem DetAll.leaf {T : Nat} {fuel : Nat} {listed : Array Bool} {a : Act} (hr : Region.ready md ops listed = [T]) (h : ∀ w, S w → wpAnyH P md ops Q S fuel listed a w) : DetAll P md ops Q S T fuel listed a := by
  have hT : ∀ j ∈ Region.ready md ops listed, j = T := fun j hj => by rw [hr] at hj; simpa using hj
  cases fuel with
  | zero => exact ⟨hT, h⟩
  | succ fuel => exact Or.inl ⟨hT, h⟩
/-- Does operation T wait for operation i? -/
def waits (md : Region.Mode) (ops : Array Oper) (T i : Nat) : Bool := match ops[T]? with
  | some o => o.after.any fun e => Region.binds md e && e.on == i
  | none => false
theorem waits_spec {T i : Nat} (h : waits md ops T i = true) {listed : Array Bool} (hi : i ∈ Region.ready md ops listed) : T ∉ Region.ready md ops listed := fun hT => by
  obtain ⟨_, o, ho, hall⟩ := mem_ready.1 hT
  unfold waits at h
  rw [ho] at h
  obtain ⟨e, he, hb⟩ := Array.any_eq_true'.1 h
  simp only [Bool.and_eq_true, beq_iff_eq] at hb
  have h1 := hall e he hb.1
  have h0 := (mem_ready.1 hi).1
  rw [hb.2] at h1
  rcases Nat.lt_or_ge i listed.size with h' | h'
  · simp [h'] at h0 h1; rw [h0] at h1; cases h1
  · simp [Array.getElem?_eq_none h'] at h1

theorem DetAll.first {T i : Nat} {oi : Oper} {v : Value} (hi : ops[i]? = some oi) (hs : Region.noSelect ops = true) (hT : waits md ops T i = true) :
    ∀ (fuel : Nat) (listed : Array Bool) (a : Act),
      (∀ j oj, ops[j]? = some oj → j ≠ i → listed.getD j true = false → (∀ e ∈ oj.after, Region.binds md e = true → e.on ≠ i) → oi.apart ops oj = true) →
      i ∈ Region.ready md ops listed → Det P ops S oi v a → DetAll P md ops Q S T fuel (listed.setIfInBounds i true) (a.put oi.dst v) → DetAll P md ops Q S T (fuel + 1) listed a := by
  have hsel := Region.noSelect_spec hs
  intro fuel
  induction fuel with
  | zero =>
    intro listed a _ hr hy H
    refine Or.inr ⟨fun h => (by rw [h] at hr; cases hr), fun j hj => ?_⟩
    by_cases hji : j = i
    · subst hji; exact ⟨oi, v, hi, hy, H⟩
    · have := H.1 j (ready_mono hj hji)
      subst this
      exact absurd hj (waits_spec hT hr)
  | succ fuel ih =>
    intro listed a hfree hr hy H
    refine Or.inr ⟨fun h => (by rw [h] at hr; cases hr), fun j hj => ?_⟩
    by_cases hji : j = i
    · subst hji; exact ⟨oi, v, hi, hy, H⟩
    · have hj2 := ready_mono hj hji
      rcases H with ⟨hl, _⟩ | ⟨_, hn⟩
      · have := hl j hj2
        subst this
        exact absurd hj (waits_spec hT hr)
      · obtain ⟨oj, vj, hoj, hdj, hDj⟩ := hn j hj2
        obtain ⟨hjun, oj', hoj', hall⟩ := mem_ready.1 hj
        have hnot : ∀ e ∈ oj.after, Region.binds md e = true → e.on ≠ i := fun e he hb heq => by
          rw [hoj] at hoj'
          cases hoj'
          have h1 := hall e he hb
          have h0 := (mem_ready.1 hr).1
          rw [heq] at h1
          rcases Nat.lt_or_ge i listed.size with h' | h'
          · simp [h'] at h0 h1; rw [h0] at h1; cases h1
          · simp [Array.getElem?_eq_none h'] at h1
        obtain ⟨h1, h2, h3⟩ := Oper.apart_spec (hfree j oj hoj hji hjun hnot)
        refine ⟨oj, vj, hoj, hdj.of_same (execOp_put oj (fun cs b => hsel j oj cs b hoj) a oi.dst v h1).symm (wanted_put oj a oi.dst v h1).symm, ih _ _ ?_ (ready_mono hr (Ne.symm hji)) (hy.of_same (execOp_put oi (fun cs b => hsel i oi cs b hi) a oj.dst vj h3) (wanted_put oi a oj.dst vj h3)) ?_⟩
        · intro k ok hk hki hun hno
          refine hfree k ok hk hki ?_ hno
          by_cases hjk : j = k
          · subst hjk; exact hjun
          · rw [getD_set_ne true hjk] at hun; exact hun
        · rw [Array.setIfInBounds_comm _ _ hji, ← Act.put_comm a v vj h2]
          exact hDj
/-- A call is taken first. -/
theorem DetAll.call {T i : Nat} {oi : Oper} {v : Value} {fuel : Nat} {listed : Array Bool} {a : Act} (hi : ops[i]? = some oi) (hs : Region.noSelect ops = true) (hT : waits md ops T i = true)
    (hf : Region.free md ops listed i = true) (hr : (Region.ready md ops listed).contains i = true) (hw : Region.wanted oi (yielded ops a.tmps) = true)
    (hy : ∀ w, S w → ∃ f args, (execOp a.eval oi).run P w = .ok (.enter f args) w ∧ Calls P f args w (fun e w' => e = .returned v ∧ S w'))
    (h : DetAll P md ops Q S T fuel (listed.setIfInBounds i true) (a.put oi.dst v)) : DetAll P md ops Q S T (fuel + 1) listed a :=
  DetAll.first hi hs hT fuel listed a (Region.free_spec hi hf) (by simpa using hr) (Or.inl ⟨hw, hy⟩) h
end
end Go.Proofs.YtbagmjedkcipgaaDoor
namespace Go.Proofs.YtbagmjedkcipgaaDoor
open Go Go.RowKit

/-- The region's books as literals. -/
theorem wpAnyH_norm {P : Program} {md : Region.Mode} {ops : Array Oper} {Q : Exit → Act → World → Prop} {S : World → Prop} {fuel f' : Nat} {listed l' : Array Bool} {a : Act} {w : World} (hl : listed = l') (hf : fuel = f') (h : wpAnyH P md ops Q S f' l' a w) : wpAnyH P md ops Q S fuel listed a w := by subst hl hf; exact h
section
variable {P : Program} {ops : Array Oper} {Q : Exit → Act → World → Prop} {md : Region.Mode} {S : World → Prop}
/-- A call that is ready, whatever it answers. -/
theorem call_ready {α : Type} {i : Nat} {o : Oper} {fuel : Nat} {listed : Array Bool} {a : Act} {w : World} (val : α → Value) (R : α → World → Prop) (hi : ops[i]? = some o) (hw : Region.wanted o (yielded ops a.tmps) = true)
    (hy : ∃ f args, (execOp a.eval o).run P w = .ok (.enter f args) w ∧ Calls P f args w (fun e w' => ∃ x, e = .returned (val x) ∧ R x w'))
    (hS : ∀ x w', R x w' → S w') (h : ∀ x w', R x w' → S w' → wpAnyH P md ops Q S fuel (listed.setIfInBounds i true) (a.put o.dst (val x)) w') :
    wpOp P ops Q i (fun a' w' => S w' ∧ wpAnyH P md ops Q S fuel (listed.setIfInBounds i true) a' w') a w := by
  unfold Go.wpOp
  simp only [hi]
  obtain ⟨f, args, hr, hc⟩ := hy
  simp only [hw, if_true, Oper.wp, hr, Oper.upon]
  refine .inl (hc.mono ?_)
  rintro e w' ⟨x, rfl, hR⟩
  exact ⟨hS x w' hR, h x w' hR (hS x w' hR)⟩
theorem wpAnyH_call {α : Type} {i d : Nat} {o : Oper} {fuel : Nat} {listed : Array Bool} {a : Act} {w : World} (val : α → Value) (R : α → World → Prop) (hr : Region.ready md ops listed = [i]) (hi : ops[i]? = some o) (hd : o.dst = some d) (hw : Region.wanted o (yielded ops a.tmps) = true)
    (hy : ∃ f args, (execOp a.eval o).run P w = .ok (.enter f args) w ∧ Calls P f args w (fun e w' => ∃ x, e = .returned (val x) ∧ R x w'))
    (hS : ∀ x w', R x w' → S w') (h : ∀ x w', R x w' → S w' → wpAnyH P md ops Q S fuel (listed.setIfInBounds i true) (a.put (some d) (val x)) w') :
    wpAnyH P md ops Q S (fuel + 1) listed a w :=
  wpAnyH_ready hr (by simp) (fun j hj => by
    have e : j = i := by simpa using hj
    subst e
    exact call_ready val R hi hw hy hS (by rw [hd]; exact h))
theorem wpAnyH_take' {i d : Nat} {oi : Oper} {v : Value} {fuel : Nat} {listed : Array Bool} {a : Act} {w : World} (hi : ops[i]? = some oi) (hd : oi.dst = some d)
    (hs : Region.noSelect ops = true) (hf : Region.free md ops listed i = true) (hr : (Region.ready md ops listed).contains i = true)
    (hQ : ∀ c a w, Q (.panic c) (a.put (some d) v) w → Q (.panic c) a w) (hy : YieldsIf P ops S oi v a) (hS : S w)
    (h : wpAnyH P md ops Q S fuel (listed.setIfInBounds i true) (a.put (some d) v) w) : wpAnyH P md ops Q S (fuel + 1) listed a w :=
  wpAnyH_take hi hs hf hr (by rw [hd]; exact hQ) hy hS (by rw [hd]; exact h)
theorem DetAll.call' {T i d : Nat} {oi : Oper} {v : Value} {fuel : Nat} {listed : Array Bool} {a : Act} (hi : ops[i]? = some oi) (hd : oi.dst = some d) (hs : Region.noSelect ops = true) (hT : waits md ops T i = true)
    (hf : Region.free md ops listed i = true) (hr : (Region.ready md ops listed).contains i = true) (hw : Region.wanted oi (yielded ops a.tmps) = true)
    (hy : ∀ w, S w → ∃ f args, (execOp a.eval oi).run P w = .ok (.enter f args) w ∧ Calls P f args w (fun e w' => e = .returned v ∧ S w'))
    (h : DetAll P md ops Q S T fuel (listed.setIfInBounds i true) (a.put (some d) v)) : DetAll P md ops Q S T (fuel + 1) listed a :=
  DetAll.call hi hs hT hf hr hw hy (by rw [hd]; exact h)
end
end Go.Proofs.YtbagmjedkcipgaaDoor
