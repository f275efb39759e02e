/-
  Lemmas and walks, joined: ObjA, ObjB, ObjC.
-/
import Derived.Test.YtbagmjedkcipgaaDoorMgJBase0
import Derived.ChangeArms
import Derived.DataReads
import Derived.ChangeSlices
import Derived.ChangeMaps5
import Derived.HandedShaped
import Derived.WideShapes
import Derived.Deep.Slices
import Derived.WalkKit
import Derived.WalkSpells
import Derived.WalkLawsBesides
import Derived.Lib.Hide
import Derived.LoopTactic
import Derived.LoopNIn
import Derived.IntWalk
import Derived.BigQuiet
import Derived.Deep.QuietTactic
import Derived.Deep.Cut
namespace Go.Proofs.YtbagmjedkcipgaaDoor
open Go.RowKit Go.ChangeShapes Go.WideShapes

inductive Tree where
  | mk (k n g : Int) (s : ByteArray) (keys : List ByteArray) (kids : List Tree)
/-- Strings in memory. -/
def StrsIs (W : World) (A : Option Addr) (l : List ByteArray) : Prop := ∀ j (h : j < l.length), ∃ b off : Nat, A = some ⟨b, off, none⟩ ∧ b < W.heap.size ∧ W.cell? ⟨b, off + j, none⟩ = some (.string l[j])
theorem StrsIs.below {W W' : World} {A : Option Addr} {l : List ByteArray} (h : StrsIs W A l) (hb : Below W.heap.size W W') : StrsIs W' A l := fun j hj => by
  obtain ⟨b, off, h1, h2, h3⟩ := h j hj
  exact ⟨b, off, h1, Nat.lt_of_lt_of_le h2 hb.size, (hb.cell (p := ⟨b, _, none⟩) h2).trans h3⟩
mutual
/-- These six cells are this object. -/
def ObjIs (W : World) : Tree → List Value → Prop
  | .mk k n g s keys kids, cs => ∃ (qa ra : Option Addr) (qc rc : Nat), cs = [.int .i64 k, .int .i64 n, .int .i64 g, .string s, .slice qa keys.length qc, .slice ra kids.length rc] ∧ (keys.length ≤ maxLen ∧ kids.length ≤ maxLen) ∧ StrsIs W qa keys ∧ KidsIs W ra 0 kids
def KidsIs (W : World) (A : Option Addr) : Nat → List Tree → Prop
  | _, [] => True
  | j, t :: ts => (∃ (b off : Nat) (cs : List Value), A = some ⟨b, off, none⟩ ∧ b < W.heap.size ∧ cs.length = 6 ∧ (∀ i, i < 6 → W.cell? ⟨b, off + j * 6 + i, none⟩ = cs[i]?) ∧ ObjIs W t cs) ∧ KidsIs W A (j + 1) ts
end
/-- The object of number i of a row. -/
def KidAt (W : World) (A : Option Addr) (i : Nat) (t : Tree) : Prop := ∃ (b off : Nat) (cs : List Value), A = some ⟨b, off, none⟩ ∧ b < W.heap.size ∧ cs.length = 6 ∧ (∀ m, m < 6 → W.cell? ⟨b, off + i * 6 + m, none⟩ = cs[m]?) ∧ ObjIs W t cs
theorem kids_at {W : World} {A : Option Addr} : ∀ (ts : List Tree) (j : Nat), KidsIs W A j ts → ∀ i (h : i < ts.length), KidAt W A (j + i) ts[i]
  | t :: ts, j, h, 0, _ => h.1
  | t :: ts, j, h, i + 1, hi => by
    have := kids_at ts (j + 1) h.2 i (by simpa using hi)
    rw [show j + 1 + i = j + (i + 1) by omega] at this
    simpa using this
theorem kids_mk {W : World} {A : Option Addr} : ∀ (ts : List Tree) (j : Nat), (∀ i (h : i < ts.length), KidAt W A (j + i) ts[i]) → KidsIs W A j ts
  | [], _, _ => trivial
  | t :: ts, j, h => ⟨h 0 (by simp), kids_mk ts (j + 1) (fun i hi => by
      have := h (i + 1) (by simpa using hi)
      rw [show j + (i + 1) = j + 1 + i by omega] at this
      simpa using this)⟩
mutual
theorem ObjIs.below {W W' : World} (hb : Below W.heap.size W W') : ∀ (t : Tree) (cs : List Value), ObjIs W t cs → ObjIs W' t cs
  | .mk _ _ _ _ _ kids, _, ⟨qa, ra, qc, rc, h1, hm, h2, h3⟩ => ⟨qa, ra, qc, rc, h1, hm, h2.below hb, KidsIs.below hb ra kids 0 h3⟩
theorem KidsIs.below {W W' : World} (hb : Below W.heap.size W W') (A : Option Addr) : ∀ (ts : List Tree) (j : Nat), KidsIs W A j ts → KidsIs W' A j ts
  | [], _, _ => trivial
  | t :: ts, j, ⟨⟨b, off, cs, h1, h2, h3, h4, h5⟩, h6⟩ => ⟨⟨b, off, cs, h1, Nat.lt_of_lt_of_le h2 hb.size, h3, fun i hi => (hb.cell (p := ⟨b, _, none⟩) h2).trans (h4 i hi), ObjIs.below hb t cs h5⟩, KidsIs.below hb A ts (j + 1) h6⟩
end
theorem list_choose {α : Type} {P : Nat → α → Prop} : ∀ n : Nat, (∀ i, i < n → ∃ t, P i t) → ∃ l : List α, l.length = n ∧ ∀ i (h : i < l.length), P i l[i]
  | 0, _ => ⟨[], rfl, fun i h => absurd h (Nat.not_lt_zero i)⟩
  | n + 1, h => by
    obtain ⟨l, h1, h2⟩ := list_choose n (fun i hi => h i (by omega))
    obtain ⟨t, ht⟩ := h n (by omega)
    refine ⟨l ++ [t], by simp [h1], fun i hi => ?_⟩
    by_cases hl : i < l.length
    · rw [List.getElem_append_left hl]; exact h2 i hl
    · have : i = n := by simp [h1] at hi; omega
      subst this
      rw [List.getElem_append_right (by omega)]
      simpa [h1] using ht

section
variable {H : Type} {enc : TypeId × Value → H} {w : World} {base : Nat} {spare : Nat → Bool} {held : Bool}
theorem strs_of' {fuel : Nat} {cs : List Value} {x : DataW H × List MemPlace} (h : DataW.trod enc Tryd.prog w base spare held fuel 48 cs = some x) :
    ∃ (A : Option Addr) (cap : Nat) (l : List ByteArray), cs = [.slice A l.length cap] ∧ StrsIs w A l ∧ l.length ≤ maxLen := by
  rcases DataW.trod_slice Tryd.underlying48 h with ⟨hcs, _⟩ | ⟨a, len, cap, elems, rest, n, _, hcs, _, _, hle, hcm, hel, hi, _⟩
  · exact ⟨none, 0, [], hcs, fun j hj => absurd hj (Nat.not_lt_zero _), Nat.zero_le _⟩
  · have each : ∀ i, i < len → ∃ s : ByteArray, w.cell? (a.add i) = some (.string s) := fun i hil => by
      have h1 := hi i hil
      rw [List.getElem?_eq_getElem (by omega), show Tryd.prog.cellsOf 9 = 1 by kernel_rfl] at h1
      obtain ⟨cs', hc, ht⟩ := Option.bind_eq_some_iff.1 h1
      obtain ⟨s, rfl, _⟩ := DataW.trod_string Tryd.underlying9 ht
      obtain ⟨_, _, hat⟩ := World.cells?_some hc
      refine ⟨s, ?_⟩
      have := hat 0 (by decide)
      rw [Nat.mul_one, Go.Deep.add_add] at this
      simpa using this
    obtain ⟨l, hl1, hl2⟩ := list_choose len each
    subst hl1
    refine ⟨some a, cap, l, hcs, fun j hj => ?_, Nat.le_trans hle hcm⟩
    have h0 := hl2 0 (by omega)
    have h1 := hl2 j hj
    obtain ⟨b, off, spot⟩ := a
    have hspot : spot = none := by simpa [Addr.add] using World.cell?_spot h0
    subst hspot
    refine ⟨b, off, rfl, World.block_lt_of_cell? w _ (by simpa [Addr.add] using h0), ?_⟩
    rw [Go.WideShapes.add_plain] at h1
    exact h1
theorem field_at {n : Nat} {t : TypeId} {cs : List Value} {y : Option (DataW H × List MemPlace)} {xs : List (DataW H × List MemPlace)} {i : Nat} (hi : i < xs.length) (hy : y = xs[i]?) (h : DataW.trod enc Tryd.prog w base spare held n t cs = y) : DataW.trod enc Tryd.prog w base spare held n t cs = some xs[i] := by
  rw [h, hy, List.getElem?_eq_getElem hi]

set_option maxRecDepth 100000 in
theorem obj_of : ∀ (fuel : Nat) (cs : List Value) (x : DataW H × List MemPlace), DataW.trod enc Tryd.prog w base spare held fuel 50 cs = some x → ∃ t, ObjIs w t cs := by
  intro fuel
  induction fuel using Nat.strongRecOn with
  | _ fuel ih =>
    intro cs x h
    obtain ⟨xs, n, hfu, _, hcl, hlen, hf⟩ := DataW.trod_struct Tryd.underlying50 h
    have hl : xs.length = 6 := hlen
    rw [show Tryd.prog.cellsOf 50 = 6 by kernel_rfl] at hcl
    match cs, hcl with
    | [c0, c1, c2, c3, c4, c5], _ =>
      have e0 := field_at (by rw [hl]; decide) rfl (hf 0 _ rfl)
      have e1 := field_at (by rw [hl]; decide) rfl (hf 1 _ rfl)
      have e2 := field_at (by rw [hl]; decide) rfl (hf 2 _ rfl)
      have e3 := field_at (by rw [hl]; decide) rfl (hf 3 _ rfl)
      have e4 := field_at (by rw [hl]; decide) rfl (hf 4 _ rfl)
      have e5 := field_at (by rw [hl]; decide) rfl (hf 5 _ rfl)
      replace e0 : DataW.trod enc Tryd.prog w base spare held n 3 (List.take (Tryd.prog.cellsOf 3) (List.drop 0 [c0, c1, c2, c3, c4, c5])) = _ := e0
      replace e1 : DataW.trod enc Tryd.prog w base spare held n 2 (List.take (Tryd.prog.cellsOf 2) (List.drop 1 [c0, c1, c2, c3, c4, c5])) = _ := e1
      replace e2 : DataW.trod enc Tryd.prog w base spare held n 3 (List.take (Tryd.prog.cellsOf 3) (List.drop 2 [c0, c1, c2, c3, c4, c5])) = _ := e2
      replace e3 : DataW.trod enc Tryd.prog w base spare held n 9 (List.take (Tryd.prog.cellsOf 9) (List.drop 3 [c0, c1, c2, c3, c4, c5])) = _ := e3
      replace e4 : DataW.trod enc Tryd.prog w base spare held n 48 (List.take (Tryd.prog.cellsOf 48) (List.drop 4 [c0, c1, c2, c3, c4, c5])) = _ := e4
      replace e5 : DataW.trod enc Tryd.prog w base spare held n 31 (List.take (Tryd.prog.cellsOf 31) (List.drop 5 [c0, c1, c2, c3, c4, c5])) = _ := e5
      rw [show Tryd.prog.cellsOf 3 = 1 by kernel_rfl] at e0 e2
      rw [show Tryd.prog.cellsOf 2 = 1 by kernel_rfl] at e1
      rw [show Tryd.prog.cellsOf 9 = 1 by kernel_rfl] at e3
      rw [show Tryd.prog.cellsOf 48 = 1 by kernel_rfl] at e4
      rw [show Tryd.prog.cellsOf 31 = 1 by kernel_rfl] at e5
      obtain ⟨k, f0, _⟩ := DataW.trod_int Tryd.underlying3 e0
      obtain ⟨z, f1, _⟩ := DataW.trod_int Tryd.underlying2 e1
      obtain ⟨g, f2, _⟩ := DataW.trod_int Tryd.underlying3 e2
      obtain ⟨s, f3, _⟩ := DataW.trod_string Tryd.underlying9 e3
      obtain ⟨qa, qc, keys, f4, hk, hkm⟩ := strs_of' e4
      injection f0 with f0 _
      injection f1 with f1 _
      injection f2 with f2 _
      injection f3 with f3 _
      injection f4 with f4 _
      subst f0 f1 f2 f3 f4
      rcases DataW.trod_slice Tryd.underlying31 e5 with ⟨hcs, _⟩ | ⟨a, len, cap, elems, rest, n2, hn2, hcs, _, _, hle, hcm, hel, hi, _⟩
      · injection hcs with hcs _
        subst hcs
        exact ⟨.mk k z g s keys [], qa, none, qc, 0, rfl, ⟨hkm, Nat.zero_le _⟩, hk, trivial⟩
      · injection hcs with hcs _
        subst hcs
        have each : ∀ i, i < len → ∃ t, KidAt w (some a) i t := fun i hil => by
          have h1 := hi i hil
          rw [List.getElem?_eq_getElem (by omega), show Tryd.prog.cellsOf 50 = 6 by kernel_rfl] at h1
          obtain ⟨cs', hc, ht⟩ := Option.bind_eq_some_iff.1 h1
          obtain ⟨t, ht2⟩ := ih n2 (by omega) cs' _ ht
          obtain ⟨_, hc2, hat⟩ := World.cells?_some hc
          have h0 := hat 0 (by decide)
          rw [List.getElem?_eq_getElem (by omega)] at h0
          have hz : ∃ v, w.cell? a = some v := by
            have h2 := hi 0 (by omega)
            rw [List.getElem?_eq_getElem (by omega), show Tryd.prog.cellsOf 50 = 6 by kernel_rfl] at h2
            obtain ⟨cs2, hc3, _⟩ := Option.bind_eq_some_iff.1 h2
            obtain ⟨_, hc4, hat2⟩ := World.cells?_some hc3
            have h3 := hat2 0 (by decide)
            rw [List.getElem?_eq_getElem (by omega)] at h3
            exact ⟨_, by simpa [Addr.add] using h3⟩
          obtain ⟨b, off, spot⟩ := a
          obtain ⟨v0, hv0⟩ := hz
          have hspot : spot = none := World.cell?_spot hv0
          subst hspot
          refine ⟨t, b, off, cs', rfl, World.block_lt_of_cell? w _ hv0, hc2, fun m hm => ?_, ht2⟩
          have := hat m hm
          rw [Go.WideShapes.add_plain, Go.WideShapes.add_plain] at this
          exact this
        obtain ⟨ts, ht1, ht2⟩ := list_choose len each
        subst ht1
        exact ⟨.mk k z g s keys ts, qa, some a, qc, cap, rfl, ⟨hkm, Nat.le_trans hle hcm⟩, hk, kids_mk ts 0 (fun i h => by rw [Nat.zero_add]; exact ht2 i h)⟩
end
end Go.Proofs.YtbagmjedkcipgaaDoor
namespace Go.Proofs.YtbagmjedkcipgaaDoor
open Go.RowKit

set_option maxRecDepth 100000 in
set_option maxHeartbeats 4000000 in
theorem size_any : ∀ (N : Nat) (t : Tree), SizeOf.sizeOf t ≤ N → ∀ (cs : List Value) (W : World), ObjIs W t cs →
    Calls Tryd.prog 14 #[.agg cs.toArray] W fun e w' => ∃ z : Int, e = .returned (.int .i64 z) ∧ Below W.heap.size W w' := by
  intro N
  induction N with
  | zero =>
    intro t ht
    cases t
    simp at ht
  | succ N ih =>
    intro t ht cs W h
    cases t with
    | mk k n g s keys kids =>
      obtain ⟨qa, ra, qc, rc, rfl, ⟨hm1, hm2⟩, hk, hkk⟩ := h
      unfold maxLen at hm1 hm2
      have hKid : ∀ i (h : i < kids.length), SizeOf.sizeOf kids[i] ≤ N := fun i hi => by
        have h1 := List.sizeOf_lt_of_mem (List.getElem_mem hi)
        simp at ht
        omega
      obtain ⟨H, hH⟩ : ∃ H, W.heap.size = H := ⟨_, rfl⟩
      have HC := Lib.hid (fun (V : World) (hV : Below H W V) (i : Nat) (hi : i < kids.length) => by
        obtain ⟨b, off, cs, h1, h2, h3, h4, h5⟩ := kids_at kids 0 (KidsIs.below (by rw [hH]; exact hV) ra kids 0 hkk) i hi
        exact (⟨b, off, cs, h1, h2, h3, (fun m hm => by have := h4 m hm; rwa [Nat.zero_add] at this), h5⟩ : ∃ (b off : Nat) (cs : List Value), ra = some ⟨b, off, none⟩ ∧ b < V.heap.size ∧ cs.length = 6 ∧ (∀ m, m < 6 → V.cell? ⟨b, off + i * 6 + m, none⟩ = cs[m]?) ∧ ObjIs V kids[i] cs))
      have HK := Lib.hid (fun (V : World) (hV : Below H W V) => hk.below (by rw [hH]; exact hV))
      have HI := Lib.hid (fun (i : Nat) (hi : i < kids.length) (cs : List Value) (V : World) (h : ObjIs V kids[i] cs) => ih kids[i] (hKid i hi) cs V h)
      obtain ⟨p, hp⟩ : ∃ p, keys.length = p := ⟨_, rfl⟩
      obtain ⟨q, hq⟩ : ∃ q, kids.length = q := ⟨_, rfl⟩
      have HP := Lib.hid (And.intro hp hq)
      have hpI : (p : Int) ≤ 9223372036854775807 := by omega
      have hqI : (q : Int) ≤ 9223372036854775807 := by omega
      rw [hp, hq]
      have hB0 : Below H W (W.alloc (.cells #[.int .i64 k, .int .i64 n, .int .i64 g, .string s, .slice qa p qc, .slice ra q rc] 50)) := (Below.refl _ W).alloc (Nat.le_of_eq hH.symm) _
      have bl0 := Blk.new W 50 #[.int .i64 k, .int .i64 n, .int .i64 g, .string s, .slice qa p qc, .slice ra q rc]
      obtain ⟨V, hV⟩ : ∃ V, W.alloc (.cells #[.int .i64 k, .int .i64 n, .int .i64 g, .string s, .slice qa p qc, .slice ra q rc] 50) = V := ⟨_, rfl⟩
      rw [hV, hH] at bl0
      rw [hV] at hB0
      have HV := Lib.hid (And.intro hV (And.intro hB0 (And.intro bl0 hH)))
      clear hk hkk hKid ih ht hp hq hV hB0 bl0 hm1 hm2
      go_enter Tryd.func14, Tryd.ntmps14
      go_upto_region 3 with fail
      rw [HV.out.1]
      go_loopw [3, 16] (fun vn vi wr => ∃ (z : Int) (i : Nat), i ≤ p ∧ vn = .int .i64 z ∧ vi = .int .i64 (i : Int) ∧ Hid (Below H W wr ∧ Blk wr H 50 #[.int .i64 k, .int .i64 n, .int .i64 g, .string s, .slice qa p qc, .slice ra q rc])) (fun _ vi _ => p - (intOf vi).toNat)
      case atStart => exact ⟨_, 0, by omega, rfl, rfl, Lib.hid ⟨HV.out.2.1, HV.out.2.2.1⟩⟩
      case round =>
        obtain ⟨z, i, hi, rfl, rfl, HN⟩ := hrel
        by_cases hlt : i < p
        · have hik : (i : Int) < (p : Int) := by omega
          have hik0 : (0 : Int) ≤ (i : Int) := by omega
          obtain ⟨b, off, rfl, _, c0⟩ := (HK.out wr HN.out.1) i (by rw [HP.out.1]; exact hlt)
          go_wp2_with fail
          go_roundw
          case rel => exact ⟨_, i + 1, by omega, rfl, by go_num, HN⟩
          case measure => simp [intOf]; omega
        · obtain rfl : i = p := by omega
          have c5 := HN.out.2.cell 5
          go_upto_region 8 with fail
          go_loopw [3, 29] (fun vn vi wr => ∃ (z : Int) (j : Nat), j ≤ q ∧ vn = .int .i64 z ∧ vi = .int .i64 (j : Int) ∧ Hid (Below H W wr)) (fun _ vi _ => q - (intOf vi).toNat)
          case atStart => exact ⟨_, 0, by omega, rfl, rfl, Lib.hid HN.out.1⟩
          case round =>
            obtain ⟨z2, j, hj, rfl, rfl, HN2⟩ := hrel
            by_cases hlt2 : j < q
            · have hjk : (j : Int) < (q : Int) := by omega
              have hjk0 : (0 : Int) ≤ (j : Int) := by omega
              have hjl : j < kids.length := by rw [HP.out.2]; exact hlt2
              obtain ⟨b, off, cs, rfl, hbl, hcl, hat, hob⟩ := HC.out _ HN2.out j hjl
              match cs, hcl with
              | [d0, d1, d2, d3, d4, d5], _ =>
                have e0 := hat 0 (by decide)
                have e1 := hat 1 (by decide)
                have e2 := hat 2 (by decide)
                have e3 := hat 3 (by decide)
                have e4 := hat 4 (by decide)
                have e5 := hat 5 (by decide)
                simp only [List.getElem?_cons_zero, List.getElem?_cons_succ, Nat.add_zero] at e0 e1 e2 e3 e4 e5
                have hob0 := hob
                obtain ⟨tk, tn, tg, ts, tkeys, tkids, htr⟩ : ∃ tk tn tg ts tkeys tkids, kids[j] = .mk tk tn tg ts tkeys tkids := by
                  cases kids[j]
                  exact ⟨_, _, _, _, _, _, rfl⟩
                rw [htr] at hob
                obtain ⟨qa2, ra2, qc2, rc2, hcs, _⟩ := hob
                simp only [List.cons.injEq, and_true] at hcs
                obtain ⟨rfl, rfl, rfl, rfl, rfl, rfl⟩ := hcs
                obtain ⟨x4, hx4⟩ : ∃ x, tkeys.length = x := ⟨_, rfl⟩
                obtain ⟨x5, hx5⟩ : ∃ x, tkids.length = x := ⟨_, rfl⟩
                rw [hx4] at e4 hob0
                rw [hx5] at e5 hob0
                have HCall := Lib.hid (fun (V : World) (hV : Below wr.heap.size wr V) => HI.out j hjl _ V (ObjIs.below hV _ _ hob0))
                clear hat hob0 htr hx4 hx5
                obtain ⟨U, hU⟩ : ∃ U, wr.alloc (.cells #[.int .i64 tk, .int .i64 tn, .int .i64 tg, .string ts, .slice qa2 x4 qc2, .slice ra2 x5 rc2] 50) = U := ⟨_, rfl⟩
                have hbU : Below wr.heap.size wr U := by rw [← hU]; exact (Below.refl _ wr).alloc (Nat.le_refl _) _
                have blU : Blk U wr.heap.size 50 #[.int .i64 tk, .int .i64 tn, .int .i64 tg, .string ts, .slice qa2 x4 qc2, .slice ra2 x5 rc2] := by rw [← hU]; exact Blk.new wr _ _
                have HU := Lib.hid (And.intro hU (And.intro hbU blU))
                clear hU hbU blU
                go_upto_region 10 with fail
                rw [HU.out.1]
                have g0 := HU.out.2.2.cell 0
                have g1 := HU.out.2.2.cell 1
                have g2 := HU.out.2.2.cell 2
                have g3 := HU.out.2.2.cell 3
                have g4 := HU.out.2.2.cell 4
                have g5 := HU.out.2.2.cell 5
                clear e0 e1 e2 e3 e4 e5
                go_wp2_with fail
                refine (HCall.out U HU.out.2.1).mono ?_
                rintro e w1 ⟨z3, rfl, hb⟩
                have HB := Lib.hid (HN2.out.trans ((HU.out.2.1.trans (hb.mono HU.out.2.1.size)).mono (by rw [← HV.out.2.2.2]; exact HN2.out.size)))
                clear hb g0 g1 g2 g3 g4 g5
                go_wp2_with fail
                go_roundw
                case rel => exact ⟨_, j + 1, by omega, rfl, by go_num, HB⟩
                case measure => simp [intOf]; omega
            · obtain rfl : j = q := by omega
              go_wp2_with fail
              go_ret
              exact ⟨_, rfl, by have := HN2.out; rwa [← HV.out.2.2.2] at this⟩
end Go.Proofs.YtbagmjedkcipgaaDoor
namespace Go.Proofs.YtbagmjedkcipgaaDoor
open Go.RowKit Go.ChangeShapes Go.WideShapes

structure OpT where
  nm : ByteArray
  args : List Tree
  data : ByteArray
/-- The operator of number i of a row. -/
def OpAt (W : World) (A : Option Addr) (i : Nat) (o : OpT) : Prop := ∃ (b off : Nat) (ra : Option Addr) (rc : Nat), A = some ⟨b, off, none⟩ ∧ b < W.heap.size ∧ W.cell? ⟨b, off + i * 3, none⟩ = some (.string o.nm) ∧ W.cell? ⟨b, off + i * 3 + 1, none⟩ = some (.slice ra o.args.length rc) ∧
  W.cell? ⟨b, off + i * 3 + 2, none⟩ = some (.string o.data) ∧ KidsIs W ra 0 o.args ∧ o.args.length ≤ maxLen
def OpsIs (W : World) (A : Option Addr) (l : List OpT) : Prop := ∀ j (h : j < l.length), OpAt W A j l[j]
theorem OpAt.below {W W' : World} {A : Option Addr} {i : Nat} {o : OpT} (h : OpAt W A i o) (hb : Below W.heap.size W W') : OpAt W' A i o := by
  obtain ⟨b, off, ra, rc, h1, h2, h3, h4, h5, h6, h7⟩ := h
  exact ⟨b, off, ra, rc, h1, Nat.lt_of_lt_of_le h2 hb.size, (hb.cell (p := ⟨b, _, none⟩) h2).trans h3, (hb.cell (p := ⟨b, _, none⟩) h2).trans h4, (hb.cell (p := ⟨b, _, none⟩) h2).trans h5, KidsIs.below hb ra _ 0 h6, h7⟩
theorem OpsIs.below {W W' : World} {A : Option Addr} {l : List OpT} (h : OpsIs W A l) (hb : Below W.heap.size W W') : OpsIs W' A l := fun j hj => (h j hj).below hb

section
variable {H : Type} {enc : TypeId × Value → H} {w : World} {base : Nat} {spare : Nat → Bool} {held : Bool}
set_option maxRecDepth 100000 in
theorem kids_of {n : Nat} {c : Value} {x : DataW H × List MemPlace} (e5 : DataW.trod enc Tryd.prog w base spare held n 31 [c] = some x) : ∃ (ra : Option Addr) (ts : List Tree) (rc : Nat), c = .slice ra ts.length rc ∧ KidsIs w ra 0 ts ∧ ts.length ≤ maxLen := by
  rcases DataW.trod_slice Tryd.underlying31 e5 with ⟨hcs, _⟩ | ⟨a, len, cap, elems, rest, n2, hn2, hcs, _, _, hle, hcm, hel, hi, _⟩
  · injection hcs with hcs _
    exact ⟨none, [], 0, hcs, trivial, Nat.zero_le _⟩
  · injection hcs with hcs _
    have each : ∀ i, i < len → ∃ t, KidAt w (some a) i t := fun i hil => by
      have h1 := hi i hil
      rw [List.getElem?_eq_getElem (by omega), show Tryd.prog.cellsOf 50 = 6 by kernel_rfl] at h1
      obtain ⟨cs', hc, ht⟩ := Option.bind_eq_some_iff.1 h1
      obtain ⟨t, ht2⟩ := obj_of n2 cs' _ ht
      obtain ⟨_, hc2, hat⟩ := World.cells?_some hc
      have hz : ∃ v, w.cell? a = some v := by
        have h2 := hi 0 (by omega)
        rw [List.getElem?_eq_getElem (by omega), show Tryd.prog.cellsOf 50 = 6 by kernel_rfl] at h2
        obtain ⟨cs2, hc3, _⟩ := Option.bind_eq_some_iff.1 h2
        obtain ⟨_, hc4, hat2⟩ := World.cells?_some hc3
        have h3 := hat2 0 (by decide)
        rw [List.getElem?_eq_getElem (by omega)] at h3
        exact ⟨_, by simpa [Addr.add] using h3⟩
      obtain ⟨b, off, spot⟩ := a
      obtain ⟨v0, hv0⟩ := hz
      have hspot : spot = none := World.cell?_spot hv0
      subst hspot
      refine ⟨t, b, off, cs', rfl, World.block_lt_of_cell? w _ hv0, hc2, fun m hm => ?_, ht2⟩
      have := hat m hm
      rw [Go.WideShapes.add_plain, Go.WideShapes.add_plain] at this
      exact this
    obtain ⟨ts, ht1, ht2⟩ := list_choose len each
    subst ht1
    exact ⟨some a, ts, cap, hcs, kids_mk ts 0 (fun i h => by rw [Nat.zero_add]; exact ht2 i h), Nat.le_trans hle hcm⟩
set_option maxRecDepth 100000 in
/-- A list of operators that came in. -/
theorem ops_of {v : Value} {d : DataW H} {p : List MemPlace} {r : Reach} {b0 : Nat} (hv : Value.okWide Tryd.prog w r b0 24 v) (h : DataW.Trod enc Tryd.prog w base spare held 24 v d p) :
    ∃ (A : Option Addr) (cap : Nat) (l : List OpT), v = .slice A l.length cap ∧ OpsIs w A l ∧ l.length ≤ maxLen := by
  obtain ⟨a0, len0, cap0, rfl⟩ := okWide_slice Tryd.underlying24 hv
  obtain ⟨fu, hf⟩ := h
  rcases DataW.trod_slice Tryd.underlying24 hf with ⟨hcs, _⟩ | ⟨a, len, cap, elems, rest, n, _, hcs, _, _, hle, hcm, hel, hi, _⟩
  · simp [Value.cells] at hcs
    obtain ⟨rfl, rfl, rfl⟩ := hcs
    exact ⟨none, 0, [], rfl, fun j hj => absurd hj (Nat.not_lt_zero _), Nat.zero_le _⟩
  · simp [Value.cells] at hcs
    obtain ⟨rfl, rfl, rfl⟩ := hcs
    have each : ∀ i, i < len0 → ∃ o, OpAt w (some a) i o := fun i hil => by
      have h1 := hi i hil
      rw [List.getElem?_eq_getElem (by omega), show Tryd.prog.cellsOf 33 = 3 by kernel_rfl] at h1
      obtain ⟨cs, hc, ht⟩ := Option.bind_eq_some_iff.1 h1
      obtain ⟨_, hc2, hat⟩ := World.cells?_some hc
      have hz : ∃ v, w.cell? a = some v := by
        have h2 := hi 0 (by omega)
        rw [List.getElem?_eq_getElem (by omega), show Tryd.prog.cellsOf 33 = 3 by kernel_rfl] at h2
        obtain ⟨cs2, hc3, _⟩ := Option.bind_eq_some_iff.1 h2
        obtain ⟨_, hc4, hat2⟩ := World.cells?_some hc3
        have h3 := hat2 0 (by decide)
        rw [List.getElem?_eq_getElem (by omega)] at h3
        exact ⟨_, by simpa [Addr.add] using h3⟩
      obtain ⟨xs, n3, hfu, _, _, hlen, hf3⟩ := DataW.trod_struct Tryd.underlying33 ht
      have hl : xs.length = 3 := hlen
      match cs, hc2 with
      | [c0, c1, c2], _ =>
        have e0 := field_at (by rw [hl]; decide) rfl (hf3 0 _ rfl)
        have e1 := field_at (by rw [hl]; decide) rfl (hf3 1 _ rfl)
        have e2 := field_at (by rw [hl]; decide) rfl (hf3 2 _ rfl)
        replace e0 : DataW.trod enc Tryd.prog w base spare held n3 9 (List.take (Tryd.prog.cellsOf 9) (List.drop 0 [c0, c1, c2])) = _ := e0
        replace e1 : DataW.trod enc Tryd.prog w base spare held n3 31 (List.take (Tryd.prog.cellsOf 31) (List.drop 1 [c0, c1, c2])) = _ := e1
        replace e2 : DataW.trod enc Tryd.prog w base spare held n3 9 (List.take (Tryd.prog.cellsOf 9) (List.drop 2 [c0, c1, c2])) = _ := e2
        rw [show Tryd.prog.cellsOf 9 = 1 by kernel_rfl] at e0 e2
        rw [show Tryd.prog.cellsOf 31 = 1 by kernel_rfl] at e1
        obtain ⟨nm, f0, _⟩ := DataW.trod_string Tryd.underlying9 e0
        obtain ⟨data, f2, _⟩ := DataW.trod_string Tryd.underlying9 e2
        obtain ⟨ra, ts, rc, f1, hk, hkm⟩ := kids_of e1
        injection f0 with f0 _
        injection f2 with f2 _
        subst f0 f1 f2
        obtain ⟨b, off, spot⟩ := a
        obtain ⟨v0, hv0⟩ := hz
        have hspot : spot = none := World.cell?_spot hv0
        subst hspot
        have a0 := hat 0 (by decide)
        have a1 := hat 1 (by decide)
        have a2 := hat 2 (by decide)
        rw [Go.WideShapes.add_plain, Go.WideShapes.add_plain] at a0 a1 a2
        exact ⟨⟨nm, ts, data⟩, b, off, ra, rc, rfl, World.block_lt_of_cell? w _ hv0, a0, a1, a2, hk, hkm⟩
    obtain ⟨l, hl1, hl2⟩ := list_choose len0 each
    subst hl1
    exact ⟨some a, cap0, l, rfl, hl2, Nat.le_trans hle hcm⟩
end
end Go.Proofs.YtbagmjedkcipgaaDoor
