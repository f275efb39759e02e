/-
  A range over a function whose rounds may panic: one round out of its walk (a round goes on, or gives up), a call of yield, and the statement.
-/
import Derived.RangeFuncBox
import Derived.RangeFuncNested
import Derived.RangeFuncBound
import Derived.RangeFuncCalls
import Derived.RangeFuncLeaves
import Derived.RegionIn
import Derived.Sort.QuietIn
import Derived.Test.YticliemmplefoaaBlk
namespace Go.Proofs.Yticliemmplefoaa
open Go.RowKit
variable {F : Fence} {n : Nat} {P : Program}

/-- How a round may end here: it goes on, or it gives up. -/
def GoesOn (P : Program) (l : Nat) (R : Ending → World → Prop) : Exit → Act → World → Prop
  | .normal, _, w => ∃ v w', (Instr.endRound l none).run P w = .ok v w' ∧ R (.returned v) w'
  | .panic chain, a, w => a.defers = [] ∧ R (.panicked chain) w
  | _, _, _ => False

theorem round_pan {l : Nat} {f : FuncId} {fn : Func} {tmps : Array Value} {assign body : Code} {w : World} {R : Ending → World → Prop} (hF : F.fn f) (hfn : P.funcs[f]? = some fn)
    (h : assign.wpIn (F.inRound l) n P (Exit.then (fun a1 w1 => ∃ w2, (Instr.beginRound l).run P w1 = .ok () w2 ∧ body.wpIn (F.inRound l) n P (GoesOn P l R) a1 w2) (fun _ _ _ => False)) { tmps := tmps, defers := [] } w) :
    RoundIn F n P l f tmps assign body w R := by
  refine ⟨hF, fun c cs room => ?_⟩
  let b : Frame := { (default : Frame) with fn := f, kind := .normal, roundOf := some l }
  have start : Frame.round l f tmps assign body .normal = b.atR { tmps := tmps, defers := [] } [.code assign, .beginRound, .code body] := by simp [Frame.round, Frame.atR, b]
  have room' : (F.inRound l).room ((c :: cs).length + 1 + n) := room
  have hF' : (F.inRound l).fn b.fn := hF
  obtain ⟨e, a1, w1, q1, go1⟩ := h b [.beginRound, .code body] (c :: cs) rfl hF' room'
  rw [← start] at go1
  cases e with
  | normal =>
    obtain ⟨w2, begin, walk⟩ := q1
    have one : StepsIn (Machine.fenced P (F.inRound l)) P (lone (b.atR a1 [.beginRound, .code body]) (c :: cs) w1) (lone (b.atR a1 [.code body]) (c :: cs) w2) :=
      .one (fenced_calm (fr := b.atR a1 [.beginRound, .code body]) hF' room' rfl) (stepR_beginRound rfl begin)
    obtain ⟨e2, a2, w3, q2, go2⟩ := walk b [] (c :: cs) rfl hF' room'
    cases e2 with
    | normal =>
      obtain ⟨v, w4, fin, r⟩ := q2
      exact ⟨.returned v, w4, r, (StepsIn.trans go1 one).trans (StepsIn.trans go2 (.one (fenced_calm (fr := b.atR a2 []) hF' room' rfl) (stepR_round_end rfl rfl fin)))⟩
    | panic chain =>
      obtain ⟨hd, r⟩ := q2
      obtain ⟨todo, steps⟩ := go2
      have hl : ({ b.atR a2 todo with mode := .panicking chain } : Frame).leaving P w3 (.panicked chain) := ⟨rfl, hd, fn, hfn⟩
      exact ⟨.panicked chain, w3, r, (StepsIn.trans go1 one).trans (StepsIn.trans steps (.one (fenced_leaving hF' room' hl) (step_leave_panicked hl)))⟩
    | ret => exact q2.elim
    | exit id => exact q2.elim
    | goto t => exact q2.elim
    | outgrown => exact q2.elim
  | ret => exact q1.elim
  | exit id => exact q1.elim
  | goto t => exact q1.elim
  | panic chain => exact q1.elim
  | outgrown => exact q1.elim

/-- The record of a loop. -/
def recOf (fn : FuncId) (tmps : Array Value) (ps : Array Tmp) (assign body : Code) (D : Nat) (st : LoopState) : Loop := { state := st, pending := none, fn, tmps, params := ps, assign, body, defers := D }
/-- A call of yield is one round: the assignment, then the body, in the world where the record is busy. -/
theorem yield_pan {l D : Nat} {f : FuncId} {fn : Func} {tmps : Array Value} {ps : Array Tmp} {assign body : Code} {args : Array Value} {W : World} {a1 : Act} {R : Ending → World → Prop} (hF : F.fn f) (hfn : P.funcs[f]? = some fn)
    (hl : W.heap[l]? = some (.loop (recOf f tmps ps assign body D .ready))) (hs : args.size = ps.size)
    (hassign : ∀ K : Act → World → Prop, K a1 W → assign.wpIn (F.inRound l) n P (Exit.then K (fun _ _ _ => False)) { tmps := (ps.zip args).foldl (fun t (p, v) => t.setIfInBounds p v) tmps, defers := [] } W)
    (hbody : body.wpIn (F.inRound l) n P (fun e a w => match e with
      | .normal => w.heap[l]? = some (.loop (recOf f tmps ps assign body D .busy)) ∧ R (.returned (.bool true)) (w.putObj l (.loop (recOf f tmps ps assign body D .ready)))
      | .panic chain => a.defers = [] ∧ R (.panicked chain) w
      | _ => False) a1 (W.putObj l (.loop (recOf f tmps ps assign body D .busy)))) : YieldAt F n P l args W R := by
  refine ⟨f, _, assign, body, run_yield hl hs, round_pan hF hfn (hassign _ ⟨_, run_beginRound hl rfl, wpIn_mono hbody ?_⟩)⟩
  intro e a w hq
  cases e with
  | normal => exact ⟨_, _, run_endRound none hq.1, hq.2⟩
  | panic chain => exact hq
  | ret => exact hq.elim
  | exit id => exact hq.elim
  | goto t => exact hq.elim
  | outgrown => exact hq.elim

/-! ### A walk of one function's own activations: a panic that leaves a round wants to know whose the round is. -/
def WpAt (P : Program) (_n : Nat) (fid : FuncId) (c : Code) (Q : Exit → Act → World → Prop) (a : Act) (w : World) : Prop :=
  ∀ (b : Frame) (k : List Item) (cs : List Frame), b.roundOf = none → b.fn = fid →
    ∃ e a' w', Q e a' w' ∧ ArrivesIn (Machine.fenced P Fence.wide) P (lone (b.atR a (.code c :: k)) cs w) b k cs e a' w'
theorem wpAt_of {fid : FuncId} {c : Code} {Q : Exit → Act → World → Prop} {a : Act} {w : World} (h : c.wpIn Fence.wide n P Q a w) : WpAt P n fid c Q a w :=
  fun b k cs hr _ => h b k cs hr trivial (room_wide _)
theorem wpAt_seq {fid : FuncId} {x y : Code} {Q : Exit → Act → World → Prop} {a : Act} {w : World} (h : ∀ K : Act → World → Prop, (∀ a w, WpAt P n fid y Q a w → K a w) → WpAt P n fid x (Exit.then K Q) a w) : WpAt P n fid (Code.seq x y) Q a w := by
  intro b k cs hr hf
  have first : StepsIn (Machine.fenced P Fence.wide) P (lone (b.atR a (.code (.seq x y) :: k)) cs w) (lone (b.atR a (.code x :: .code y :: k)) cs w) := .one (fenced_wide _ _) stepR_seq
  obtain ⟨e, a1, w1, q, go⟩ := h (WpAt P n fid y Q) (fun _ _ h => h) b (.code y :: k) cs hr hf
  cases e with
  | normal =>
    obtain ⟨e2, a2, w2, q2, go2⟩ := q b k cs hr hf
    exact ⟨e2, a2, w2, q2, .of_steps (first.trans go) go2⟩
  | exit id => exact ⟨_, a1, w1, q, .of_steps first (.pass (x := .code y) rfl (fun _ _ => .inl (by simp)) go)⟩
  | goto t => exact ⟨_, a1, w1, q, .of_steps first (.pass (x := .code y) rfl (fun _ _ => .inl (by simp)) go)⟩
  | ret => exact ⟨_, a1, w1, q, .of_steps first (.pass (x := .code y) rfl (fun _ _ => .inl (by simp)) go)⟩
  | panic ch => exact ⟨_, a1, w1, q, .of_steps first (.pass (x := .code y) rfl (fun _ _ => .inl (by simp)) go)⟩
  | outgrown => exact ⟨_, a1, w1, q, .of_steps first (.pass (x := .code y) rfl (fun _ _ => .inl (by simp)) go)⟩
/-- A function's contract from a walk of its own activations. -/
theorem calls_at {f : FuncId} {fn : Func} {c : Code} {args : Array Value} {w : World} {R : Ending → World → Prop} (hf : P.funcs[f]? = some fn) (hb : fn.body = some c)
    (h : WpAt P n f c (bodyPostM Fence.wide n P fn R) { tmps := args ++ Array.replicate (fn.ntmps - args.size) undef, defers := [] } w) : CallsIn Fence.wide n P f args w R := by
  refine ⟨trivial, fun cs room => ?_⟩
  let b : Frame := { (default : Frame) with fn := f, kind := .normal, roundOf := none }
  have enter : Frame.enter P f args .normal = b.atR { tmps := args ++ Array.replicate (fn.ntmps - args.size) undef, defers := [] } [.code c] := by simp [Frame.enter, Frame.atR, hf, hb, b]
  obtain ⟨e, a1, w1, q, go⟩ := h b [] cs rfl rfl
  rw [← enter] at go
  cases e with
  | normal =>
    obtain ⟨e2, w2, fr, r, steps, hfn, hl⟩ := leaves_stepsInM a1.defers .returning w1 { b.atR a1 [] with mode := .returning } cs rfl rfl rfl hf rfl trivial room q
    exact ⟨e2, w2, fr, r, ComesIn.of_steps (StepsIn.trans go (.one (fenced_wide _ _) (stepR_end rfl))) steps, hfn, hl⟩
  | ret =>
    obtain ⟨todo, s0⟩ := go.1 rfl
    obtain ⟨e2, w2, fr, r, steps, hfn, hl⟩ := leaves_stepsInM a1.defers .returning w1 { b.atR a1 todo with mode := .returning } cs rfl rfl rfl hf rfl trivial room q
    exact ⟨e2, w2, fr, r, ComesIn.of_steps s0 steps, hfn, hl⟩
  | panic chain =>
    obtain ⟨todo, s0⟩ := go
    obtain ⟨e2, w2, fr, r, steps, hfn, hl⟩ := leaves_stepsInM a1.defers (.panicking chain) w1 { b.atR a1 todo with mode := .panicking chain } cs rfl rfl rfl hf rfl trivial room q
    exact ⟨e2, w2, fr, r, ComesIn.of_steps s0 steps, hfn, hl⟩
  | exit id => exact q.elim
  | goto t => exact q.elim
  | outgrown => exact ⟨.outgrown, w1, b, q, go.resolve_left (by simp [b]), rfl, trivial⟩

/-- The statement, at an outermost loop of function fid: the function that is ranged over is called with yield; behind it the record is ready, or it has given up. -/
theorem range_at {fid : FuncId} {g : Operand} {ps : Array Tmp} {assign body : Code} {Q : Exit → Act → World → Prop} {a : Act} {w : World} {gf : Nat} {lb : Array Value}
    (hg : a.eval g = .func (.func gf) #[] lb) (eg : ∀ args w, (callFunc gf args).run P w = .ok (.enter gf args) w)
    (h : CallsIn Fence.wide (n - 1) P gf (#[.func (.yield (w.heap.size + 1)) #[] #[]] ++ lb) ((w.alloc (.deferred (some []))).alloc (.loop (recOf fid a.tmps ps assign body w.heap.size .ready))) fun e w3 =>
      (∃ v, e = .returned v ∧ w3.heap[w.heap.size + 1]? = some (.loop (recOf fid a.tmps ps assign body w.heap.size .ready)) ∧
        ∀ o, Q .normal { a with defers := { target := .collected w.heap.size, args := #[] } :: a.defers } (w3.putObj (w.heap.size + 1) o)) ∨
      (∃ chain, e = .panicked chain ∧ Q (.panic chain) { a with defers := { target := .collected w.heap.size, args := #[] } :: a.defers } w3)) :
    WpAt P n fid (Code.rangeFunc g ps assign body) Q a w := by
  intro b k cs hro hfn
  obtain ⟨W1, hW1⟩ : ∃ W1, (w.alloc (.deferred (some []))).alloc (.loop (recOf fid a.tmps ps assign body w.heap.size .ready)) = W1 := ⟨_, rfl⟩
  rw [hW1] at h
  have he : (Instr.enterLoop b.fn a.tmps ps assign body b.roundOf).run P w = .ok (w.heap.size + 1, [{ target := .collected w.heap.size, args := #[] }]) W1 := by
    rw [hro, hfn, ← hW1]
    exact run_enterLoop_outer _ _ _ _ _
  have hres : (resolve a.eval (rangeCall g (w.heap.size + 1)) 0).run P W1 = .ok { target := .fn (.func gf) lb, args := #[.func (.yield (w.heap.size + 1)) #[] #[]] } W1 := by
    simp only [resolve, hg]
    simp [go_sem]
  have hinv : (invoke (Target.fn (.func gf) lb) #[.func (.yield (w.heap.size + 1)) #[] #[]]).run P W1 = .ok (.enter gf (#[.func (.yield (w.heap.size + 1)) #[] #[]] ++ lb)) W1 := by simp [invoke, go_sem, eg]
  have henter := stepR_rangeFunc (P := P) (b := b) (a := a) (k := k) (cs := cs) (w := w) he hres hinv
  obtain ⟨e, w3, fr, hR, steps, hf2, hl⟩ := h.2 (b.atR { a with defers := [{ target := .collected w.heap.size, args := #[] }] ++ a.defers } (.inRangeFunc (w.heap.size + 1) :: k) :: cs) (room_wide _)
  rcases hR with ⟨v, rfl, hrec, hq⟩ | ⟨chain, rfl, hq⟩
  · have hend := run_endLoop (P := P) hrec (by unfold recOf; simp)
    refine ⟨.normal, { a with defers := { target := .collected w.heap.size, args := #[] } :: a.defers }, w3.putObj (w.heap.size + 1) (.loop { recOf fid a.tmps ps assign body w.heap.size .ready with state := .exhausted }), hq _, ?_⟩
    show StepsIn _ P _ (lone (b.atR _ k) cs _)
    refine .head (fenced_wide _ _) henter (StepsIn.trans steps (.head (fenced_wide _ _) ?_ (.one (fenced_wide _ _) (stepR_endRangeFunc hend))))
    rw [← finish_atR_inRangeFunc (w.heap.size + 1) v]
    exact step_leave_returned hl
  · refine ⟨.panic chain, _, w3, hq, .inRangeFunc (w.heap.size + 1) :: k, .head (fenced_wide _ _) henter (StepsIn.trans steps (.one (fenced_wide _ _) ?_))⟩
    rw [← Frame.raise_atR]
    exact step_leave_panicked hl
end Go.Proofs.Yticliemmplefoaa
