/-
  Graphics states that came in as arguments; the listed variables; a world that holds them.
-/
import Derived.Test.YtbagmjedkcipgaaDoorMgSttC
import Derived.Test.YtbagmjedkcipgaaDoorMgJRowEnd
import Derived.Test.YtbagmjedkcipgaaDoorCards
import Derived.Test.YtbagmjedkcipgaaDoorTie
import Derived.ProofKit
import Derived.HandedShaped
import Derived.OpenShut
import Derived.Deep.DeepHandedRow
import Derived.Lib.LaidTab
import Derived.Lay
import Derived.Stop.LaidErr
import Derived.ChangeMaps5
import Derived.ChangeSlices
import Derived.ChangeArms
import Derived.WideShapes
namespace Go.Proofs.YtbagmjedkcipgaaDoor
open Go.ChangeShapes Go.WideShapes Go.ChangeAt Go.RowKit

theorem arr30 {α : Type} {cs : Array α} (h : cs.size = 30) : ∃ c0 c1 c2 c3 c4 c5 c6 c7 c8 c9 c10 c11 c12 c13 c14 c15 c16 c17 c18 c19 c20 c21 c22 c23 c24 c25 c26 c27 c28 c29, cs = #[c0, c1, c2, c3, c4, c5, c6, c7, c8, c9, c10, c11, c12, c13, c14, c15, c16, c17, c18, c19, c20, c21, c22, c23, c24, c25, c26, c27, c28, c29] := by
  obtain ⟨l⟩ := cs
  match l, h with
  | [c0, c1, c2, c3, c4, c5, c6, c7, c8, c9, c10, c11, c12, c13, c14, c15, c16, c17, c18, c19, c20, c21, c22, c23, c24, c25, c26, c27, c28, c29], _ => exact ⟨c0, c1, c2, c3, c4, c5, c6, c7, c8, c9, c10, c11, c12, c13, c14, c15, c16, c17, c18, c19, c20, c21, c22, c23, c24, c25, c26, c27, c28, c29, rfl⟩
theorem ints_list : ∀ (cs : List Value), (∀ i, i < cs.length → ∃ z, cs[i]? = some (.int .i64 z)) → ∃ zs : List Int, cs = zs.map fun z => .int .i64 z
  | [], _ => ⟨[], rfl⟩
  | c :: cs, h => by
    obtain ⟨z, hz⟩ := h 0 (by simp)
    obtain ⟨zs, hzs⟩ := ints_list cs (fun i hi => by simpa using h (i + 1) (by simpa using hi))
    exact ⟨z :: zs, by rw [List.map_cons, ← hzs]; simpa using hz⟩
section
variable {H : Type} {enc : TypeId × Value → H} {w : World} {base : Nat} {spare : Nat → Bool} {held : Bool} {r : Reach} {b0 : Nat} {v : Value} {d : DataW H} {p : List MemPlace}
theorem field_num {n : Nat} {t : TypeId} {cs : List Value} {y : Option (DataW H × List MemPlace)} {xs : List (DataW H × List MemPlace)} {i : Nat} (ht : Tryd.prog.underlying t = some (.int .i64)) (hi : i < xs.length) (hy : y = xs[i]?) (h : DataW.trod enc Tryd.prog w base spare held n t cs = y) : ∃ z, cs = [.int .i64 z] := by
  rw [hy, List.getElem?_eq_getElem hi] at h
  obtain ⟨z, hz, _⟩ := DataW.trod_int ht h
  exact ⟨z, hz⟩
/-- A struct of numbers. -/
theorem nums_struct {T : TypeId} {fs : Array Field} {fuel : Nat} {cs : List Value} {x : DataW H × List MemPlace} (ht : Tryd.prog.underlying T = some (.struct fs)) (hsz : Tryd.prog.cellsOf T = fs.size)
    (hall : ∀ (i : Nat) (f : Field), fs[i]? = some f → f.offset = i ∧ Tryd.prog.underlying f.type = some (.int .i64) ∧ Tryd.prog.cellsOf f.type = 1) (h : DataW.trod enc Tryd.prog w base spare held fuel T cs = some x) : ∃ zs : List Int, zs.length = fs.size ∧ cs = zs.map fun z => .int .i64 z := by
  obtain ⟨xs, n, _, _, hcl, hlen, hf⟩ := DataW.trod_struct ht h
  obtain ⟨zs, hzs⟩ := ints_list cs (fun i hi => by
    have hi' : i < fs.size := by omega
    obtain ⟨h1, h2, h3⟩ := hall i fs[i] (Array.getElem?_eq_getElem hi')
    obtain ⟨z, hz⟩ := field_num h2 (by omega) rfl (hf i fs[i] (Array.getElem?_eq_getElem hi'))
    rw [h1, h3] at hz
    refine ⟨z, ?_⟩
    have := congrArg (·[0]?) hz
    simpa [List.getElem?_take, List.getElem?_drop] using this)
  exact ⟨zs, by rw [← hsz, ← hcl, hzs, List.length_map], hzs⟩
set_option maxRecDepth 100000 in
set_option maxHeartbeats 4000000 in
theorem open_gs (hv : Value.okWide Tryd.prog w r b0 40 v) (h : DataW.Trod enc Tryd.prog w base spare held 40 v d p) :
    ∃ (g : Nat → Int) (f : ByteArray) (A : Option Addr) (l : List Int) (ca : Nat), v = .agg (gsC g f (.slice A l.length ca)) ∧ NAt w A l := by
  obtain ⟨cs, rfl, hsz⟩ := okWide_struct Tryd.underlying40 hv
  obtain ⟨c0, c1, c2, c3, c4, c5, c6, c7, c8, c9, c10, c11, c12, c13, c14, c15, c16, c17, c18, c19, c20, c21, c22, c23, c24, c25, c26, c27, c28, c29, rfl⟩ := arr30 (hsz.trans (by kernel_rfl))
  obtain ⟨fuel, hf⟩ := h
  obtain ⟨xs, n, _, _, _, hlen, hf2⟩ := DataW.trod_struct Tryd.underlying40 hf
  have hl : xs.length = 10 := hlen
  clear hf hv hsz
  have e0 := hf2 0 _ rfl
  replace e0 : DataW.trod enc Tryd.prog w base spare held n 23 (List.take (Tryd.prog.cellsOf 23) (List.drop 0 [c0, c1, c2, c3, c4, c5, c6, c7, c8, c9, c10, c11, c12, c13, c14, c15, c16, c17, c18, c19, c20, c21, c22, c23, c24, c25, c26, c27, c28, c29])) = xs[0]? := e0
  rw [show Tryd.prog.cellsOf 23 = 6 by kernel_rfl, List.getElem?_eq_getElem (by rw [hl]; decide)] at e0
  replace e0 : DataW.trod enc Tryd.prog w base spare held n 23 [c0, c1, c2, c3, c4, c5] = _ := e0
  obtain ⟨l0, m0, f0⟩ := nums_struct Tryd.underlying23 (by kernel_rfl) (fun j f hj => by
    have hj' : j < 6 := (Array.getElem?_eq_some_iff.1 hj).1
    rcases (show j = 0 ∨ j = 1 ∨ j = 2 ∨ j = 3 ∨ j = 4 ∨ j = 5 by omega) with rfl | rfl | rfl | rfl | rfl | rfl <;> (injection hj with hj; subst hj; exact ⟨rfl, by kernel_rfl, by kernel_rfl⟩)) e0
  obtain ⟨z0, z1, z2, z3, z4, z5, rfl⟩ : ∃ z0 z1 z2 z3 z4 z5, l0 = [z0, z1, z2, z3, z4, z5] := by
    match l0, m0 with
    | [z0, z1, z2, z3, z4, z5], _ => exact ⟨z0, z1, z2, z3, z4, z5, rfl⟩
  simp only [List.map_cons, List.map_nil, List.cons.injEq, and_true] at f0
  obtain ⟨f0_, f1_, f2_, f3_, f4_, f5_⟩ := f0
  have e1 := hf2 1 _ rfl
  replace e1 : DataW.trod enc Tryd.prog w base spare held n 2 (List.take (Tryd.prog.cellsOf 2) (List.drop 6 [c0, c1, c2, c3, c4, c5, c6, c7, c8, c9, c10, c11, c12, c13, c14, c15, c16, c17, c18, c19, c20, c21, c22, c23, c24, c25, c26, c27, c28, c29])) = xs[1]? := e1
  rw [show Tryd.prog.cellsOf 2 = 1 by kernel_rfl, List.getElem?_eq_getElem (by rw [hl]; decide)] at e1
  replace e1 : DataW.trod enc Tryd.prog w base spare held n 2 [c6] = _ := e1
  obtain ⟨z6, f6, _⟩ := DataW.trod_int Tryd.underlying2 e1
  injection f6 with f6 _
  have e2 := hf2 2 _ rfl
  replace e2 : DataW.trod enc Tryd.prog w base spare held n 3 (List.take (Tryd.prog.cellsOf 3) (List.drop 7 [c0, c1, c2, c3, c4, c5, c6, c7, c8, c9, c10, c11, c12, c13, c14, c15, c16, c17, c18, c19, c20, c21, c22, c23, c24, c25, c26, c27, c28, c29])) = xs[2]? := e2
  rw [show Tryd.prog.cellsOf 3 = 1 by kernel_rfl, List.getElem?_eq_getElem (by rw [hl]; decide)] at e2
  replace e2 : DataW.trod enc Tryd.prog w base spare held n 3 [c7] = _ := e2
  obtain ⟨z7, f7, _⟩ := DataW.trod_int Tryd.underlying3 e2
  injection f7 with f7 _
  have e3 := hf2 3 _ rfl
  replace e3 : DataW.trod enc Tryd.prog w base spare held n 3 (List.take (Tryd.prog.cellsOf 3) (List.drop 8 [c0, c1, c2, c3, c4, c5, c6, c7, c8, c9, c10, c11, c12, c13, c14, c15, c16, c17, c18, c19, c20, c21, c22, c23, c24, c25, c26, c27, c28, c29])) = xs[3]? := e3
  rw [show Tryd.prog.cellsOf 3 = 1 by kernel_rfl, List.getElem?_eq_getElem (by rw [hl]; decide)] at e3
  replace e3 : DataW.trod enc Tryd.prog w base spare held n 3 [c8] = _ := e3
  obtain ⟨z8, f8, _⟩ := DataW.trod_int Tryd.underlying3 e3
  injection f8 with f8 _
  have e4 := hf2 4 _ rfl
  replace e4 : DataW.trod enc Tryd.prog w base spare held n 2 (List.take (Tryd.prog.cellsOf 2) (List.drop 9 [c0, c1, c2, c3, c4, c5, c6, c7, c8, c9, c10, c11, c12, c13, c14, c15, c16, c17, c18, c19, c20, c21, c22, c23, c24, c25, c26, c27, c28, c29])) = xs[4]? := e4
  rw [show Tryd.prog.cellsOf 2 = 1 by kernel_rfl, List.getElem?_eq_getElem (by rw [hl]; decide)] at e4
  replace e4 : DataW.trod enc Tryd.prog w base spare held n 2 [c9] = _ := e4
  obtain ⟨z9, f9, _⟩ := DataW.trod_int Tryd.underlying2 e4
  injection f9 with f9 _
  have e5 := hf2 5 _ rfl
  replace e5 : DataW.trod enc Tryd.prog w base spare held n 34 (List.take (Tryd.prog.cellsOf 34) (List.drop 10 [c0, c1, c2, c3, c4, c5, c6, c7, c8, c9, c10, c11, c12, c13, c14, c15, c16, c17, c18, c19, c20, c21, c22, c23, c24, c25, c26, c27, c28, c29])) = xs[5]? := e5
  rw [show Tryd.prog.cellsOf 34 = 1 by kernel_rfl, List.getElem?_eq_getElem (by rw [hl]; decide)] at e5
  replace e5 : DataW.trod enc Tryd.prog w base spare held n 34 [c10] = _ := e5
  obtain ⟨A, l, ca, f10, hN⟩ : ∃ (A : Option Addr) (l : List Int) (ca : Nat), c10 = .slice A l.length ca ∧ NAt w A l := by
    rcases open_ints Tryd.underlying34 Tryd.underlying2 (show Tryd.prog.cellsOf 2 = 1 by kernel_rfl) e5 with ⟨hcs, _⟩ | ⟨ad, len', cap', zs, hcs, _, hl', hm, hz, _, hi, hw⟩
    · injection hcs with hcs _
      exact ⟨none, [], 0, hcs, fun j hj => absurd hj (Nat.not_lt_zero _)⟩
    · injection hcs with hcs _
      have hlz : len' ≤ zs.length := by rw [hz]; split <;> omega
      refine ⟨some ad, zs.take len', cap', by rw [List.length_take, Nat.min_eq_left hlz]; exact hcs, fun j hj => ?_⟩
      have hj' : j < len' := by rw [List.length_take] at hj; omega
      have h0 := hi 0 (by omega)
      have h1 := hi j (by omega)
      obtain ⟨b, off, spot⟩ := ad
      have hspot : spot = none := by simpa [Addr.add] using World.cell?_spot h0
      subst hspot
      have hb : b < w.heap.size := World.block_lt_of_cell? w _ (by simpa [Addr.add] using h0)
      refine ⟨b, off, rfl, hb, ?_⟩
      rw [Go.WideShapes.add_plain] at h1
      rw [h1, List.getElem_take]
      simp [List.getD, show j < zs.length by omega]
  have e6 := hf2 6 _ rfl
  replace e6 : DataW.trod enc Tryd.prog w base spare held n 2 (List.take (Tryd.prog.cellsOf 2) (List.drop 11 [c0, c1, c2, c3, c4, c5, c6, c7, c8, c9, c10, c11, c12, c13, c14, c15, c16, c17, c18, c19, c20, c21, c22, c23, c24, c25, c26, c27, c28, c29])) = xs[6]? := e6
  rw [show Tryd.prog.cellsOf 2 = 1 by kernel_rfl, List.getElem?_eq_getElem (by rw [hl]; decide)] at e6
  replace e6 : DataW.trod enc Tryd.prog w base spare held n 2 [c11] = _ := e6
  obtain ⟨z11, f11, _⟩ := DataW.trod_int Tryd.underlying2 e6
  injection f11 with f11 _
  have e7 := hf2 7 _ rfl
  replace e7 : DataW.trod enc Tryd.prog w base spare held n 36 (List.take (Tryd.prog.cellsOf 36) (List.drop 12 [c0, c1, c2, c3, c4, c5, c6, c7, c8, c9, c10, c11, c12, c13, c14, c15, c16, c17, c18, c19, c20, c21, c22, c23, c24, c25, c26, c27, c28, c29])) = xs[7]? := e7
  rw [show Tryd.prog.cellsOf 36 = 5 by kernel_rfl, List.getElem?_eq_getElem (by rw [hl]; decide)] at e7
  replace e7 : DataW.trod enc Tryd.prog w base spare held n 36 [c12, c13, c14, c15, c16] = _ := e7
  obtain ⟨l7, m7, f7⟩ := nums_struct Tryd.underlying36 (by kernel_rfl) (fun j f hj => by
    have hj' : j < 5 := (Array.getElem?_eq_some_iff.1 hj).1
    rcases (show j = 0 ∨ j = 1 ∨ j = 2 ∨ j = 3 ∨ j = 4 by omega) with rfl | rfl | rfl | rfl | rfl <;> (injection hj with hj; subst hj; exact ⟨rfl, by kernel_rfl, by kernel_rfl⟩)) e7
  obtain ⟨z12, z13, z14, z15, z16, rfl⟩ : ∃ z12 z13 z14 z15 z16, l7 = [z12, z13, z14, z15, z16] := by
    match l7, m7 with
    | [z12, z13, z14, z15, z16], _ => exact ⟨z12, z13, z14, z15, z16, rfl⟩
  simp only [List.map_cons, List.map_nil, List.cons.injEq, and_true] at f7
  obtain ⟨f12_, f13_, f14_, f15_, f16_⟩ := f7
  have e8 := hf2 8 _ rfl
  replace e8 : DataW.trod enc Tryd.prog w base spare held n 36 (List.take (Tryd.prog.cellsOf 36) (List.drop 17 [c0, c1, c2, c3, c4, c5, c6, c7, c8, c9, c10, c11, c12, c13, c14, c15, c16, c17, c18, c19, c20, c21, c22, c23, c24, c25, c26, c27, c28, c29])) = xs[8]? := e8
  rw [show Tryd.prog.cellsOf 36 = 5 by kernel_rfl, List.getElem?_eq_getElem (by rw [hl]; decide)] at e8
  replace e8 : DataW.trod enc Tryd.prog w base spare held n 36 [c17, c18, c19, c20, c21] = _ := e8
  obtain ⟨l8, m8, f8⟩ := nums_struct Tryd.underlying36 (by kernel_rfl) (fun j f hj => by
    have hj' : j < 5 := (Array.getElem?_eq_some_iff.1 hj).1
    rcases (show j = 0 ∨ j = 1 ∨ j = 2 ∨ j = 3 ∨ j = 4 by omega) with rfl | rfl | rfl | rfl | rfl <;> (injection hj with hj; subst hj; exact ⟨rfl, by kernel_rfl, by kernel_rfl⟩)) e8
  obtain ⟨z17, z18, z19, z20, z21, rfl⟩ : ∃ z17 z18 z19 z20 z21, l8 = [z17, z18, z19, z20, z21] := by
    match l8, m8 with
    | [z17, z18, z19, z20, z21], _ => exact ⟨z17, z18, z19, z20, z21, rfl⟩
  simp only [List.map_cons, List.map_nil, List.cons.injEq, and_true] at f8
  obtain ⟨f17_, f18_, f19_, f20_, f21_⟩ := f8
  have e9 := hf2 9 _ rfl
  replace e9 : DataW.trod enc Tryd.prog w base spare held n 38 (List.take (Tryd.prog.cellsOf 38) (List.drop 22 [c0, c1, c2, c3, c4, c5, c6, c7, c8, c9, c10, c11, c12, c13, c14, c15, c16, c17, c18, c19, c20, c21, c22, c23, c24, c25, c26, c27, c28, c29])) = xs[9]? := e9
  rw [show Tryd.prog.cellsOf 38 = 8 by kernel_rfl, List.getElem?_eq_getElem (by rw [hl]; decide)] at e9
  replace e9 : DataW.trod enc Tryd.prog w base spare held n 38 [c22, c23, c24, c25, c26, c27, c28, c29] = _ := e9
  obtain ⟨ys, n9, _, _, _, hlen9, hf9⟩ := DataW.trod_struct Tryd.underlying38 e9
  have hl9 : ys.length = 8 := hlen9
  have t0 := hf9 0 _ rfl
  replace t0 : DataW.trod enc Tryd.prog w base spare held n9 2 (List.take (Tryd.prog.cellsOf 2) (List.drop 0 [c22, c23, c24, c25, c26, c27, c28, c29])) = ys[0]? := t0
  rw [show Tryd.prog.cellsOf 2 = 1 by kernel_rfl, List.getElem?_eq_getElem (by rw [hl9]; decide)] at t0
  replace t0 : DataW.trod enc Tryd.prog w base spare held n9 2 [c22] = _ := t0
  obtain ⟨z22, f22, _⟩ := DataW.trod_int Tryd.underlying2 t0
  injection f22 with f22 _
  have t1 := hf9 1 _ rfl
  replace t1 : DataW.trod enc Tryd.prog w base spare held n9 2 (List.take (Tryd.prog.cellsOf 2) (List.drop 1 [c22, c23, c24, c25, c26, c27, c28, c29])) = ys[1]? := t1
  rw [show Tryd.prog.cellsOf 2 = 1 by kernel_rfl, List.getElem?_eq_getElem (by rw [hl9]; decide)] at t1
  replace t1 : DataW.trod enc Tryd.prog w base spare held n9 2 [c23] = _ := t1
  obtain ⟨z23, f23, _⟩ := DataW.trod_int Tryd.underlying2 t1
  injection f23 with f23 _
  have t2 := hf9 2 _ rfl
  replace t2 : DataW.trod enc Tryd.prog w base spare held n9 2 (List.take (Tryd.prog.cellsOf 2) (List.drop 2 [c22, c23, c24, c25, c26, c27, c28, c29])) = ys[2]? := t2
  rw [show Tryd.prog.cellsOf 2 = 1 by kernel_rfl, List.getElem?_eq_getElem (by rw [hl9]; decide)] at t2
  replace t2 : DataW.trod enc Tryd.prog w base spare held n9 2 [c24] = _ := t2
  obtain ⟨z24, f24, _⟩ := DataW.trod_int Tryd.underlying2 t2
  injection f24 with f24 _
  have t3 := hf9 3 _ rfl
  replace t3 : DataW.trod enc Tryd.prog w base spare held n9 2 (List.take (Tryd.prog.cellsOf 2) (List.drop 3 [c22, c23, c24, c25, c26, c27, c28, c29])) = ys[3]? := t3
  rw [show Tryd.prog.cellsOf 2 = 1 by kernel_rfl, List.getElem?_eq_getElem (by rw [hl9]; decide)] at t3
  replace t3 : DataW.trod enc Tryd.prog w base spare held n9 2 [c25] = _ := t3
  obtain ⟨z25, f25, _⟩ := DataW.trod_int Tryd.underlying2 t3
  injection f25 with f25 _
  have t4 := hf9 4 _ rfl
  replace t4 : DataW.trod enc Tryd.prog w base spare held n9 2 (List.take (Tryd.prog.cellsOf 2) (List.drop 4 [c22, c23, c24, c25, c26, c27, c28, c29])) = ys[4]? := t4
  rw [show Tryd.prog.cellsOf 2 = 1 by kernel_rfl, List.getElem?_eq_getElem (by rw [hl9]; decide)] at t4
  replace t4 : DataW.trod enc Tryd.prog w base spare held n9 2 [c26] = _ := t4
  obtain ⟨z26, f26, _⟩ := DataW.trod_int Tryd.underlying2 t4
  injection f26 with f26 _
  have t5 := hf9 5 _ rfl
  replace t5 : DataW.trod enc Tryd.prog w base spare held n9 2 (List.take (Tryd.prog.cellsOf 2) (List.drop 5 [c22, c23, c24, c25, c26, c27, c28, c29])) = ys[5]? := t5
  rw [show Tryd.prog.cellsOf 2 = 1 by kernel_rfl, List.getElem?_eq_getElem (by rw [hl9]; decide)] at t5
  replace t5 : DataW.trod enc Tryd.prog w base spare held n9 2 [c27] = _ := t5
  obtain ⟨z27, f27, _⟩ := DataW.trod_int Tryd.underlying2 t5
  injection f27 with f27 _
  have t6 := hf9 6 _ rfl
  replace t6 : DataW.trod enc Tryd.prog w base spare held n9 9 (List.take (Tryd.prog.cellsOf 9) (List.drop 6 [c22, c23, c24, c25, c26, c27, c28, c29])) = ys[6]? := t6
  rw [show Tryd.prog.cellsOf 9 = 1 by kernel_rfl, List.getElem?_eq_getElem (by rw [hl9]; decide)] at t6
  replace t6 : DataW.trod enc Tryd.prog w base spare held n9 9 [c28] = _ := t6
  obtain ⟨s28, f28, _⟩ := DataW.trod_string Tryd.underlying9 t6
  injection f28 with f28 _
  have t7 := hf9 7 _ rfl
  replace t7 : DataW.trod enc Tryd.prog w base spare held n9 3 (List.take (Tryd.prog.cellsOf 3) (List.drop 7 [c22, c23, c24, c25, c26, c27, c28, c29])) = ys[7]? := t7
  rw [show Tryd.prog.cellsOf 3 = 1 by kernel_rfl, List.getElem?_eq_getElem (by rw [hl9]; decide)] at t7
  replace t7 : DataW.trod enc Tryd.prog w base spare held n9 3 [c29] = _ := t7
  obtain ⟨z29, f29, _⟩ := DataW.trod_int Tryd.underlying3 t7
  injection f29 with f29 _
  subst f0_ f1_ f2_ f3_ f4_ f5_ f6 f7 f8 f9 f10 f11 f12_ f13_ f14_ f15_ f16_ f17_ f18_ f19_ f20_ f21_ f22 f23 f24 f25 f26 f27 f28 f29
  exact ⟨fun k => [z0, z1, z2, z3, z4, z5, z6, z7, z8, z9, z11, z12, z13, z14, z15, z16, z17, z18, z19, z20, z21, z22, z23, z24, z25, z26, z27, z29].getD k 0, s28, A, l, ca, rfl, hN⟩
end

/-! ### The listed variables -/
def spaceTab : List Int := (List.range 256).map fun i => if spN i then 1 else 0
theorem spaceTab_at (i : Nat) (h : i < 256) : spaceTab.getD i 0 = if spN i then 1 else 0 := by
  simp [spaceTab, List.getD, h]
theorem gSpace : Tryd.prog.globalNamed "strings.asciiSpace" = some 0 := by kernel_rfl
theorem gSpaceType : (Tryd.prog.globals[0]?).map (·.type) = some 102 := by kernel_rfl
theorem cellsSpace : Tryd.prog.cellsOf 102 = 256 := by kernel_rfl
theorem cellsU8 : Tryd.prog.cellsOf 5 = 1 := by kernel_rfl
theorem laid_space : (Rows.laid_strings_asciiSpace : DataW Unit) = Lib.tabData .u8 spaceTab := by kernel_rfl
theorem own : ownKnob Tryd.prog.godebug = none := by kernel_rfl
theorem live_of {W : World} (h : laidMet Tryd.prog [("unicode/utf8.acceptRanges", Rows.laid_unicode_utf8_acceptRanges), ("unicode.White_Space", Rows.laid_unicode_White_Space), ("strings.asciiSpace", Rows.laid_strings_asciiSpace), ("unicode/utf8.first", Rows.laid_unicode_utf8_first)] W) : SpaceAt W ∧ 0 < W.heap.size := by
  have h2 : laidMet Tryd.prog (("strings.asciiSpace", Lib.tabData .u8 spaceTab) :: [("unicode/utf8.first", Rows.laid_unicode_utf8_first)]) W := by
    have := laidMet.tail (laidMet.tail h)
    rwa [laid_space] at this
  have h3 := Lib.tabIs_of_head gSpace gSpaceType Tryd.underlying102 Tryd.underlying5 cellsU8 cellsSpace h2
  have h4 : SpaceAt W := fun i hi => by
    rw [h3.cell gSpace i (by simp [spaceTab, hi]), spaceTab_at i hi]
  exact ⟨h4, World.block_lt_of_cell? W _ (h4 0 (by decide))⟩
noncomputable def laidWorld (os : Os) : World := World.laidAll Tryd.prog os [("unicode/utf8.acceptRanges", Rows.laid_unicode_utf8_acceptRanges), ("unicode.White_Space", Rows.laid_unicode_White_Space), ("strings.asciiSpace", Rows.laid_strings_asciiSpace), ("unicode/utf8.first", Rows.laid_unicode_utf8_first)]
theorem laid_met (os : Os) (args : Array Value) : laidMet Tryd.prog [("unicode/utf8.acceptRanges", Rows.laid_unicode_utf8_acceptRanges), ("unicode.White_Space", Rows.laid_unicode_White_Space), ("strings.asciiSpace", Rows.laid_strings_asciiSpace), ("unicode/utf8.first", Rows.laid_unicode_utf8_first)] ((laidWorld os).forCall (fun _ _ => 0) ⟨#[], args, []⟩).memory :=
  laidMet_laidAll args (by kernel_rfl) (by kernel_rfl)
end Go.Proofs.YtbagmjedkcipgaaDoor
