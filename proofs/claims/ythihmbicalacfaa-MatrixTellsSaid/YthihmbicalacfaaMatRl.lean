/-
  An object that came in: its keys and its elements, to their depth.
-/
import Derived.Test.YthihmbicalacfaaMatRj
import Derived.Test.YthihmbicalacfaaMatRow
namespace Go.Proofs.Ythihmbicalacfaa
open Go.ChangeShapes Go.WideShapes Go.ChangeAt Go.RowKit Fix Mat

theorem KidsAt.more {w : World} : ∀ (f : Nat) {oa : Option Addr} {ol : Nat}, KidsAt f w oa ol → KidsAt (f + 1) w oa ol := by
  intro f
  induction f with
  | zero =>
    intro oa ol h
    have h0 : ol = 0 := h
    exact ⟨by omega, fun j hj => absurd hj (by omega)⟩
  | succ f ih =>
    intro oa ol h
    refine ⟨h.1, fun j hj => ?_⟩
    obtain ⟨b, off, x, y, z, t, qa, ra, ql, qc, rl, rc, e, hc, hk, hd⟩ := h.2 j hj
    exact ⟨b, off, x, y, z, t, qa, ra, ql, qc, rl, rc, e, hc, hk, ih hd⟩
section
variable {H : Type} {enc : TypeId × Value → H} {w : World} {base : Nat} {spare : Nat → Bool} {held : Bool}
theorem keys_open {fuel : Nat} {c : Value} {x : DataW H × List MemPlace} (h : DataW.trod enc Try.prog w base spare held fuel 28 [c] = some x) : ∃ ka kl kc, c = .slice ka kl kc ∧ KeysAt w ka kl := by
  rcases DataW.trod_slice Try.underlying28 h with ⟨hcs, _⟩ | ⟨a, len, cap, elems, rest, n, _, hcs, _, _, hl, hm, hel, hi, _, _⟩
  · injection hcs with h1
    exact ⟨none, 0, 0, h1, by omega, fun j hj => absurd hj (Nat.not_lt_zero _)⟩
  · injection hcs with h1
    subst h1
    refine ⟨some a, len, cap, rfl, by unfold maxLen at hm; omega, fun j hj => ?_⟩
    have each : ∀ j, j < len → ∃ t : ByteArray, w.cell? ((a.add (j * 1)).add 0) = some (.string t) := fun j hj => by
      have h2 := hi j hj
      rw [show Try.prog.cellsOf 9 = 1 by kernel_rfl, List.getElem?_eq_getElem (by omega)] at h2
      obtain ⟨cs, hc, ht⟩ := Option.bind_eq_some_iff.1 h2
      obtain ⟨t, rfl, _⟩ := DataW.trod_string Try.underlying9 ht
      obtain ⟨_, _, hat⟩ := World.cells?_some hc
      exact ⟨t, hat 0 (by decide)⟩
    obtain ⟨_, h0⟩ := each 0 (by omega)
    obtain ⟨t, h3⟩ := each j hj
    obtain ⟨b, off, spot⟩ := a
    have hspot : spot = none := by simpa [Addr.add] using World.cell?_spot h0
    subst hspot
    rw [Go.WideShapes.add_plain, Go.WideShapes.add_plain, Nat.mul_one, Nat.add_zero] at h3
    exact ⟨b, off, t, rfl, h3⟩
theorem obj_open : ∀ (fuel : Nat) (cs : List Value) (x : DataW H × List MemPlace), DataW.trod enc Try.prog w base spare held fuel 31 cs = some x →
    ∃ (k n g : Int) (s : ByteArray) (ka oa : Option Addr) (kl kc ol oc : Nat), cs = [.int .i64 k, .int .i64 n, .int .i64 g, .string s, .slice ka kl kc, .slice oa ol oc] ∧ KeysAt w ka kl ∧ KidsAt fuel w oa ol := by
  intro fuel
  induction fuel using Nat.strongRecOn with
  | ind fuel ih =>
    intro cs x h
    obtain ⟨xs, n, hn, _, hcl, hlen, hf⟩ := DataW.trod_struct Try.underlying31 h
    have hl : xs.length = 6 := hlen
    rw [show Try.prog.cellsOf 31 = 6 by kernel_rfl] at hcl
    match cs, hcl with
    | [c0, c1, c2, c3, c4, c5], _ =>
      have e0 : DataW.trod enc Try.prog w base spare held n 3 (List.take (Try.prog.cellsOf 3) (List.drop 0 [c0, c1, c2, c3, c4, c5])) = xs[0]? := hf 0 _ rfl
      rw [show Try.prog.cellsOf 3 = 1 by kernel_rfl, List.getElem?_eq_getElem (by omega)] at e0
      replace e0 : DataW.trod enc Try.prog w base spare held n 3 [c0] = some xs[0] := e0
      have e1 : DataW.trod enc Try.prog w base spare held n 2 (List.take (Try.prog.cellsOf 2) (List.drop 1 [c0, c1, c2, c3, c4, c5])) = xs[1]? := hf 1 _ rfl
      rw [show Try.prog.cellsOf 2 = 1 by kernel_rfl, List.getElem?_eq_getElem (by omega)] at e1
      replace e1 : DataW.trod enc Try.prog w base spare held n 2 [c1] = some xs[1] := e1
      have e2 : DataW.trod enc Try.prog w base spare held n 3 (List.take (Try.prog.cellsOf 3) (List.drop 2 [c0, c1, c2, c3, c4, c5])) = xs[2]? := hf 2 _ rfl
      rw [show Try.prog.cellsOf 3 = 1 by kernel_rfl, List.getElem?_eq_getElem (by omega)] at e2
      replace e2 : DataW.trod enc Try.prog w base spare held n 3 [c2] = some xs[2] := e2
      have e3 : DataW.trod enc Try.prog w base spare held n 9 (List.take (Try.prog.cellsOf 9) (List.drop 3 [c0, c1, c2, c3, c4, c5])) = xs[3]? := hf 3 _ rfl
      rw [show Try.prog.cellsOf 9 = 1 by kernel_rfl, List.getElem?_eq_getElem (by omega)] at e3
      replace e3 : DataW.trod enc Try.prog w base spare held n 9 [c3] = some xs[3] := e3
      have e4 : DataW.trod enc Try.prog w base spare held n 28 (List.take (Try.prog.cellsOf 28) (List.drop 4 [c0, c1, c2, c3, c4, c5])) = xs[4]? := hf 4 _ rfl
      rw [show Try.prog.cellsOf 28 = 1 by kernel_rfl, List.getElem?_eq_getElem (by omega)] at e4
      replace e4 : DataW.trod enc Try.prog w base spare held n 28 [c4] = some xs[4] := e4
      have e5 : DataW.trod enc Try.prog w base spare held n 29 (List.take (Try.prog.cellsOf 29) (List.drop 5 [c0, c1, c2, c3, c4, c5])) = xs[5]? := hf 5 _ rfl
      rw [show Try.prog.cellsOf 29 = 1 by kernel_rfl, List.getElem?_eq_getElem (by omega)] at e5
      replace e5 : DataW.trod enc Try.prog w base spare held n 29 [c5] = some xs[5] := e5
      obtain ⟨k, h0, _⟩ := DataW.trod_int Try.underlying3 e0
      obtain ⟨m, h1, _⟩ := DataW.trod_int Try.underlying2 e1
      obtain ⟨g, h2, _⟩ := DataW.trod_int Try.underlying3 e2
      obtain ⟨s, h3, _⟩ := DataW.trod_string Try.underlying9 e3
      obtain ⟨ka, kl, kc, h4, hk⟩ := keys_open e4
      injection h0 with h0
      injection h1 with h1
      injection h2 with h2
      injection h3 with h3
      subst h0 h1 h2 h3 h4 hn
      rcases DataW.trod_slice Try.underlying29 e5 with ⟨hcs, _⟩ | ⟨a, len, cap, elems, rest, n', hn', hcs, _, _, hll, hm, hel, hi, _, _⟩
      · injection hcs with h5
        subst h5
        exact ⟨k, m, g, s, ka, none, kl, kc, 0, 0, rfl, hk, by omega, fun j hj => absurd hj (Nat.not_lt_zero _)⟩
      · injection hcs with h5
        subst h5 hn'
        refine ⟨k, m, g, s, ka, some a, kl, kc, len, cap, rfl, hk, by unfold maxLen at hm; omega, fun j hj => ?_⟩
        have each : ∀ j, j < len → ∃ cs', (∀ i, i < 6 → w.cell? ((a.add (j * 6)).add i) = cs'[i]?) ∧ ∃ y, DataW.trod enc Try.prog w base spare held n' 31 cs' = some y := fun j hj => by
          have hj2 := hi j hj
          rw [show Try.prog.cellsOf 31 = 6 by kernel_rfl, List.getElem?_eq_getElem (by omega)] at hj2
          obtain ⟨cs', hc, ht⟩ := Option.bind_eq_some_iff.1 hj2
          obtain ⟨_, _, hat⟩ := World.cells?_some hc
          exact ⟨cs', hat, _, ht⟩
        obtain ⟨cs0, hat0, y0, ht0⟩ := each 0 (by omega)
        obtain ⟨cs', hat, y, ht⟩ := each j hj
        obtain ⟨_, _, _, _, _, _, _, _, _, _, rfl, _, _⟩ := ih n' (by omega) cs0 _ ht0
        obtain ⟨k', m', g', s', ka', oa', kl', kc', ol', oc', rfl, hk', hd'⟩ := ih n' (by omega) cs' _ ht
        obtain ⟨b, off, spot⟩ := a
        have hspot : spot = none := by simpa [Addr.add] using World.cell?_spot (hat0 0 (by decide))
        subst hspot
        have hat2 : ∀ i, i < 6 → w.cell? ⟨b, off + j * 6 + i, none⟩ = [Value.int .i64 k', .int .i64 m', .int .i64 g', .string s', .slice ka' kl' kc', .slice oa' ol' oc'][i]? := fun i hi6 => by
          have h := hat i hi6
          rw [Go.WideShapes.add_plain, Go.WideShapes.add_plain] at h
          exact h
        exact ⟨b, off, k', m', g', s', ka', oa', kl', kc', ol', oc', rfl, ⟨hat2 0 (by decide), hat2 1 (by decide), hat2 2 (by decide), hat2 3 (by decide), hat2 4 (by decide), hat2 5 (by decide)⟩, hk', KidsAt.more _ hd'⟩
theorem open_ob {r : Reach} {b0 : Nat} {v : Value} {d : DataW H} {p : List MemPlace} (hv : Value.okWide Try.prog w r b0 31 v) (h : DataW.Trod enc Try.prog w base spare held 31 v d p) :
    ∃ (f : Nat) (k n g : Int) (s : ByteArray) (ka oa : Option Addr) (kl kc ol oc : Nat), v = .agg #[.int .i64 k, .int .i64 n, .int .i64 g, .string s, .slice ka kl kc, .slice oa ol oc] ∧ KeysAt w ka kl ∧ KidsAt f w oa ol := by
  obtain ⟨cs, rfl, hsz⟩ := okWide_struct Try.underlying31 hv
  obtain ⟨fuel, hf⟩ := h
  obtain ⟨k, n, g, s, ka, oa, kl, kc, ol, oc, hcs, hk, hd⟩ := obj_open fuel _ _ hf
  refine ⟨fuel, k, n, g, s, ka, oa, kl, kc, ol, oc, ?_, hk, hd⟩
  have hcs2 : cs.toList = [.int .i64 k, .int .i64 n, .int .i64 g, .string s, .slice ka kl kc, .slice oa ol oc] := hcs
  rw [← Array.toList_inj.1 (show cs.toList = (#[.int .i64 k, .int .i64 n, .int .i64 g, .string s, .slice ka kl kc, .slice oa ol oc] : Array Value).toList from hcs2)]
end
end Go.Proofs.Ythihmbicalacfaa
