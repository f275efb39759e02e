/-
  A drawn region inside a round: it may be walked without the fence (an operation that yields in whatever world is taken first there).
-/
import Derived.OrdersIn
import Derived.Orders
import Derived.CallsIn
import Derived.ControlIn
import Derived.RangeFuncCalls
import Derived.StillTailTactics
import Derived.Test.YtbgechfmbogbpaaBase0
namespace Go.Proofs.Ytbgechfmbogbpaa
open Go.RowKit
variable {P : Program} {l n : Nat} {ops : Array Oper} {Q : Exit → Act → World → Prop}

theorem rowsIn_of {row : String} {args : Array Value} {w : World} {R : Value → World → Prop} (h : Rows P row args w R) : RowsIn (Fence.wide.inRound l) n P row args w R :=
  fun c cs _ => let ⟨v, w', r, s⟩ := h c cs; ⟨v, w', r, stepsIn_wide.2 s⟩
theorem uponIn_of {o : Oper} {a : Act} {K : Act → World → Prop} {r : Result Next} (h : o.upon P a K Q r) : o.uponIn (Fence.wide.inRound l) n P a K Q r := by
  cases r with
  | ok x w' =>
    cases x with
    | value v => exact h
    | skip => exact h
    | defer d => exact h
    | enter f args => exact ⟨fun h => (by cases h), CallsIn.inRound l (callsIn_wide.2 h)⟩
    | row row args => exact ⟨fun h => (by cases h), rowsIn_of h⟩
    | _ => exact h.elim
  | halt hh w' =>
    cases hh with
    | panic v => exact h
    | _ => exact h.elim
theorem wpIn_of {o : Oper} {a : Act} {w : World} {K : Act → World → Prop} (hd : ∀ c, o.op ≠ .defer c) (h : o.wp P a w K Q) : o.wpIn (Fence.wide.inRound l) n P a w K Q := by
  refine ⟨fun _ _ => trivial, ?_⟩
  rw [Oper.semAt_eq _ _ _ hd]
  exact uponIn_of h
theorem wpAnyIn_of (md : Region.Mode) (hd : ∀ (i : Nat) (o : Oper), ops[i]? = some o → ∀ c, o.op ≠ Op.defer c) (hl : ¬ LetsOut Q) : ∀ (fuel : Nat) (listed : Array Bool) (a : Act) (w : World), wpAny P md ops Q fuel listed a w → wpAnyIn (Fence.wide.inRound l) n P md ops Q fuel listed a w
  | 0, _, _, _, h => h
  | fuel + 1, listed, a, w, h => by
    refine ⟨h.1, fun i hi => ?_⟩
    have h2 := h.2 i hi
    unfold wpOp at h2
    unfold wpOpIn
    cases ho : ops[i]? with
    | none => rw [ho] at h2; exact wpAnyIn_of md hd hl fuel _ _ _ h2
    | some o =>
      rw [ho] at h2
      show if Region.wanted o (yielded ops a.tmps) then _ else _
      by_cases hw : Region.wanted o (yielded ops a.tmps) = true
      · rw [if_pos hw]
        have h3 : o.wp P a w (wpAny P md ops Q fuel (listed.setIfInBounds i true)) Q ∨ (o.asks P a w ∧ LetsOut Q) := by
          have := h2
          simp only [hw, if_true] at this
          exact this
        rcases h3 with h3 | h3
        · exact wpIn_of (hd i o ho) (Oper.wp_mono (fun a w h => wpAnyIn_of md hd hl fuel _ a w h) h3)
        · exact absurd h3.2 hl
      · rw [if_neg hw]
        have h3 : wpAny P md ops Q fuel (listed.setIfInBounds i true) (a.put o.dst undef) w := by
          have := h2
          simp only [hw] at this
          exact this
        exact ⟨fun _ _ => trivial, wpAnyIn_of md hd hl fuel _ _ _ h3⟩
def Oper.defersNot (o : Oper) : Bool := match o.op with | .defer _ => false | _ => true
theorem noDefer_spec (h : (ops.all Oper.defersNot) = true) : ∀ (i : Nat) (o : Oper), ops[i]? = some o → ∀ c, o.op ≠ Op.defer c := by
  intro i o ho c hc
  have hm : o ∈ ops := Array.mem_of_getElem? ho
  have := (Array.all_eq_true_iff_forall_mem.1 h) o hm
  unfold Oper.defersNot at this
  rw [hc] at this
  cases this
/-- The law: a drawn region in a round, out of its walk by wpAny. -/
theorem region_in {id : Nat} {a : Act} {w : World} (hm : P.follows .mixedOrders = true) (hd : ∀ (i : Nat) (o : Oper), ops[i]? = some o → ∀ c, o.op ≠ Op.defer c) (hl : ¬ LetsOut Q)
    (h : wpAny P .any ops Q ops.size (Array.replicate ops.size false) a { w with drawn := w.drawn + 1 }) : (Code.region id ops true).wpIn (Fence.wide.inRound l) n P Q a w :=
  wpIn_region_any hm (wpAnyIn_of .any hd hl _ _ _ _ h)
/-- The same for a region of loads and of plain operations, and then of a row in order. -/
theorem region_in_tail {id : Nat} {a : Act} {w : World} {L : List Oper} (n0 : Nat) (hm : P.follows .mixedOrders = true) (hd : ∀ (i : Nat) (o : Oper), L.toArray[i]? = some o → ∀ c, o.op ≠ Op.defer c) (hl : ¬ LetsOut Q)
    (hB : Region.lexTailB .any L.toArray n0 = true)
    (h : wpStill P L.toArray w.drew (fun a' => wpList P L.toArray Q (L.drop n0) a' w.drew) (L.take n0) a) : (Code.region id L.toArray true).wpIn (Fence.wide.inRound l) n P Q a w := by
  refine region_in hm hd hl ?_
  have hB2 := hB
  unfold Region.lexTailB at hB2
  simp only [Bool.and_eq_true, decide_eq_true_eq] at hB2
  rcases hB2 with ⟨⟨⟨⟨sel, lt⟩, sink⟩, chain⟩, lex⟩
  have lt' : n0 < L.length := by simpa using lt
  have tk : (L.take n0).length = n0 := by rw [List.length_take]; omega
  have dr : (L.drop n0).length = L.toArray.size - n0 := by simp
  have start : HeadInv .any L.toArray n0 (Array.replicate L.toArray.size false) :=
    ⟨by simp, fun j oj _ hh => (by rw [getD_replicate_false] at hh; cases hh), fun t _ ht => getD_in (by simpa using ht) (getD_replicate_false _ _)⟩
  have whole := wpAny_of_head (Q' := Q) (g := L.toArray.size - n0) (fun L' a' hh => (by
    have s := wpAny_of_seq (md := .any) (Q' := Q) (L.drop n0) n0 L' a' w.drew (fun j => by simp [List.getElem?_drop]) (by rw [dr]; exact hh.1) hh.2
    rw [dr] at s
    exact s)) _ _ _ (wpAnyL_lex (md := .any) (g := L.toArray.size - n0) sel sink chain lt (L.take n0) 0 _ a (fun j hj => by rw [tk] at hj; simp [hj]) (by rw [tk]; omega) start (by rw [tk]; exact lex) h)
  rw [tk, Nat.add_sub_cancel' (Nat.le_of_lt lt)] at whole
  exact whole
end Go.Proofs.Ytbgechfmbogbpaa
