/-
  value, the document's Size: it answers, for any object.
-/
import Derived.Test.YthihmbicalacfaaMatRg
namespace Go.Proofs.Ythihmbicalacfaa
open Go.RowKit Fix Mat

/-- A row of strings. -/
def KeysAt (w : World) (ka : Option Addr) (kl : Nat) : Prop := kl ≤ 9223372036854775807 ∧ ∀ j, j < kl → ∃ (b off : Nat) (t : ByteArray), ka = some ⟨b, off, none⟩ ∧ w.cell? ⟨b, off + j, none⟩ = some (.string t)
theorem KeysAt.below {B : Nat} {w w' : World} {ka : Option Addr} {kl : Nat} (h : KeysAt w ka kl) (hb : Below B w w') (hB : w.heap.size ≤ B) : KeysAt w' ka kl := ⟨h.1, fun j hj => by
  obtain ⟨b, off, t, e, h0⟩ := h.2 j hj
  exact ⟨b, off, t, e, (hb.cell (p := ⟨b, _, none⟩) (Nat.lt_of_lt_of_le (World.block_lt_of_cell? w _ h0) hB)).trans h0⟩⟩
/-- A row of objects, to a depth. -/
def KidsAt : Nat → World → Option Addr → Nat → Prop
  | 0, _, _, ol => ol = 0
  | f + 1, w, oa, ol => ol ≤ 9223372036854775807 ∧ ∀ j, j < ol → ∃ (b off : Nat) (x y z : Int) (t : ByteArray) (qa ra : Option Addr) (ql qc rl rc : Nat),  oa = some ⟨b, off, none⟩ ∧ (w.cell? ⟨b, off + j * 6, none⟩ = some (.int .i64 x) ∧ w.cell? ⟨b, off + j * 6 + 1, none⟩ = some (.int .i64 y) ∧ w.cell? ⟨b, off + j * 6 + 2, none⟩ = some (.int .i64 z) ∧ w.cell? ⟨b, off + j * 6 + 3, none⟩ = some (.string t) ∧ w.cell? ⟨b, off + j * 6 + 4, none⟩ = some (.slice qa ql qc) ∧ w.cell? ⟨b, off + j * 6 + 5, none⟩ = some (.slice ra rl rc)) ∧ KeysAt w qa ql ∧ KidsAt f w ra rl
theorem KidsAt.below {B : Nat} {w w' : World} (hb : Below B w w') (hB : w.heap.size ≤ B) : ∀ (f : Nat) {oa : Option Addr} {ol : Nat}, KidsAt f w oa ol → KidsAt f w' oa ol := by
  intro f
  induction f with
  | zero => exact fun h => h
  | succ f ih =>
    intro oa ol h
    refine ⟨h.1, fun j hj => ?_⟩
    obtain ⟨b, off, x, y, z, t, qa, ra, ql, qc, rl, rc, e, ⟨h0, h1, h2, h3, h4, h5⟩, hk, hd⟩ := h.2 j hj
    have hlt : b < B := Nat.lt_of_lt_of_le (World.block_lt_of_cell? w _ h0) hB
    exact ⟨b, off, x, y, z, t, qa, ra, ql, qc, rl, rc, e, ⟨(hb.cell (p := ⟨b, _, none⟩) hlt).trans h0, (hb.cell (p := ⟨b, _, none⟩) hlt).trans h1, (hb.cell (p := ⟨b, _, none⟩) hlt).trans h2, (hb.cell (p := ⟨b, _, none⟩) hlt).trans h3, (hb.cell (p := ⟨b, _, none⟩) hlt).trans h4, (hb.cell (p := ⟨b, _, none⟩) hlt).trans h5⟩, hk.below hb hB, ih hd⟩
/-- Size answers on each element. -/
def SizesAt (w : World) (oa : Option Addr) (ol : Nat) : Prop := ol ≤ 9223372036854775807 ∧ ∀ j, j < ol → ∃ (b off : Nat) (x y z : Int) (t : ByteArray) (qa ra : Option Addr) (ql qc rl rc : Nat),  oa = some ⟨b, off, none⟩ ∧ (w.cell? ⟨b, off + j * 6, none⟩ = some (.int .i64 x) ∧ w.cell? ⟨b, off + j * 6 + 1, none⟩ = some (.int .i64 y) ∧ w.cell? ⟨b, off + j * 6 + 2, none⟩ = some (.int .i64 z) ∧ w.cell? ⟨b, off + j * 6 + 3, none⟩ = some (.string t) ∧ w.cell? ⟨b, off + j * 6 + 4, none⟩ = some (.slice qa ql qc) ∧ w.cell? ⟨b, off + j * 6 + 5, none⟩ = some (.slice ra rl rc)) ∧
  ∀ W, Below w.heap.size w W → Calls Try.prog 9 #[.agg #[.int .i64 x, .int .i64 y, .int .i64 z, .string t, .slice qa ql qc, .slice ra rl rc]] W fun e w' => ∃ r, e = .returned (.int .i64 r) ∧ Below W.heap.size W w'

set_option maxRecDepth 100000 in
set_option maxHeartbeats 4000000 in
theorem size_step (k n g : Int) (s : ByteArray) (ka oa : Option Addr) (kl kc ol oc : Nat) (w : World) (hk : KeysAt w ka kl) (ho : SizesAt w oa ol) :
    Calls Try.prog 9 #[.agg #[.int .i64 k, .int .i64 n, .int .i64 g, .string s, .slice ka kl kc, .slice oa ol oc]] w fun e w' => ∃ r, e = .returned (.int .i64 r) ∧ Below w.heap.size w w' := by
  have HK := Lib.hid hk
  have HO := Lib.hid ho
  obtain ⟨N, hN⟩ : ∃ N, w.heap.size = N := ⟨_, rfl⟩
  obtain ⟨V, hV⟩ : ∃ V, w.alloc (.cells #[.int .i64 k, .int .i64 n, .int .i64 g, .string s, .slice ka kl kc, .slice oa ol oc] 31) = V := ⟨_, rfl⟩
  have HA := Lib.hid (show Blk V N 31 #[.int .i64 k, .int .i64 n, .int .i64 g, .string s, .slice ka kl kc, .slice oa ol oc] by rw [← hV, ← hN]; exact Blk.new w _ _)
  have HB := Lib.hid (show Below N w V by rw [← hV, ← hN]; exact (Below.refl _ w).alloc (Nat.le_refl _) _)
  have HKV := Lib.hid (hk.below HB.out (Nat.le_of_eq hN))
  have HN := Lib.hid hN
  rw [hN]
  go_enter Try.func9, Try.ntmps9
  go_upto_region 1 with fail
  clear hk ho hV hN
  obtain ⟨⟨a0, a1, a2, a3, a4, a5⟩, _⟩ := six_cells HA.out
  go_wp2_with fail
  go_loopw [3, 16] (fun v i wr => ∃ (j : Nat) (r : Int), j ≤ kl ∧ i = .int .i64 (j : Int) ∧ v = .int .i64 r ∧ wr = V) (fun _ i _ => kl - (intOf i).toNat)
  case atStart => exact ⟨0, _, by omega, rfl, rfl, rfl⟩
  case round =>
    obtain ⟨j, r, hj, rfl, rfl, rfl⟩ := hrel
    by_cases hlt : j < kl
    · obtain ⟨b, off, t, rfl, hc⟩ := HKV.out.2 j hlt
      have hjk : (j : Int) < (kl : Int) := by omega
      have hww : IntKind.i64.wrap ((j : Int) + 1) = (j : Int) + 1 := IntWalk.i64_in _ (by have := HKV.out.1; omega)
      have hj0 : (0 : Int) ≤ (j : Int) := by omega
      go_wp2_with fail
      go_roundw
      case rel => exact ⟨j + 1, _, by omega, by go_num, rfl, trivial⟩
      case measure => simp [intOf]; omega
    · obtain rfl : j = kl := by omega
      go_wp2_with fail
      clear a0 a1 a2 a3 a4 a5 hlt hj
      go_loopw [3, 29] (fun v i wr => ∃ (j : Nat) (r : Int), j ≤ ol ∧ i = .int .i64 (j : Int) ∧ v = .int .i64 r ∧ Hid (Below N w wr)) (fun _ i _ => ol - (intOf i).toNat)
      case atStart => exact ⟨0, _, by omega, rfl, rfl, HB⟩
      case round =>
        obtain ⟨i, q, hi, rfl, rfl, HI⟩ := hrel
        by_cases hlt : i < ol
        · obtain ⟨b, off, x, y, z, t, qa, ra, ql, qc, rl, rc, rfl, ⟨h0, h1, h2, h3, h4, h5⟩, hrec⟩ := HO.out.2 i hlt
          have HRec := Lib.hid hrec
          have hb : b < N := by rw [← HN.out]; exact World.block_lt_of_cell? w _ h0
          have r0 := (HI.out.cell (p := ⟨b, _, none⟩) hb).trans h0
          have r1 := (HI.out.cell (p := ⟨b, _, none⟩) hb).trans h1
          have r2 := (HI.out.cell (p := ⟨b, _, none⟩) hb).trans h2
          have r3 := (HI.out.cell (p := ⟨b, _, none⟩) hb).trans h3
          have r4 := (HI.out.cell (p := ⟨b, _, none⟩) hb).trans h4
          have r5 := (HI.out.cell (p := ⟨b, _, none⟩) hb).trans h5
          have hjk : (i : Int) < (ol : Int) := by omega
          have hww : IntKind.i64.wrap ((i : Int) + 1) = (i : Int) + 1 := IntWalk.i64_in _ (by have := HO.out.1; omega)
          have hj0 : (0 : Int) ≤ (i : Int) := by omega
          have HNw := Lib.hid (show N ≤ wr.heap.size from by rw [← HN.out]; exact HI.out.size)
          clear h0 h1 h2 h3 h4 h5 hrec hb
          obtain ⟨Gn, hGn⟩ : ∃ G, wr.heap.size = G := ⟨_, rfl⟩
          obtain ⟨w4, hw4⟩ : ∃ W, wr.alloc (.cells #[.int .i64 x, .int .i64 y, .int .i64 z, .string t, .slice qa ql qc, .slice ra rl rc] 31) = W := ⟨_, rfl⟩
          have HI4 := Lib.hid (show Below N w w4 by rw [← hw4]; exact HI.out.alloc HNw.out _)
          have HBn := Lib.hid (show Blk w4 Gn 31 #[.int .i64 x, .int .i64 y, .int .i64 z, .string t, .slice qa ql qc, .slice ra rl rc] by rw [← hw4, ← hGn]; exact Blk.new wr _ _)
          go_upto_region 10 with fail
          clear r0 r1 r2 r3 r4 r5 hw4 hGn
          obtain ⟨⟨t0, t1, t2, t3, t4, t5⟩, _⟩ := six_cells HBn.out
          have HI4' := Lib.hid (show Below w.heap.size w w4 by rw [HN.out]; exact HI4.out)
          have HNw4 := Lib.hid (show N ≤ w4.heap.size by rw [← HN.out]; exact HI4.out.size)
          go_wp2_with fail
          refine (HRec.out w4 HI4'.out).mono ?_
          rintro e w5 ⟨r5, rfl, hb5⟩
          have HI5 := Lib.hid (HI4.out.trans (hb5.mono HNw4.out))
          clear hb5 t0 t1 t2 t3 t4 t5
          go_wp2_with fail
          go_roundw
          case rel => exact ⟨i + 1, _, by omega, by go_num, rfl, HI5⟩
          case measure => simp [intOf]; omega
        · obtain rfl : i = ol := by omega
          go_wp2_with fail
          go_ret
          exact ⟨_, rfl, HI.out⟩

theorem size05 : ∀ (f : Nat) (k n g : Int) (s : ByteArray) (ka oa : Option Addr) (kl kc ol oc : Nat) (w : World), KeysAt w ka kl → KidsAt f w oa ol →
    Calls Try.prog 9 #[.agg #[.int .i64 k, .int .i64 n, .int .i64 g, .string s, .slice ka kl kc, .slice oa ol oc]] w fun e w' => ∃ r, e = .returned (.int .i64 r) ∧ Below w.heap.size w w' := by
  intro f
  induction f with
  | zero =>
    intro k n g s ka oa kl kc ol oc w hk ho
    have h0 : ol = 0 := ho
    exact size_step k n g s ka oa kl kc ol oc w hk ⟨by omega, fun j hj => absurd hj (by omega)⟩
  | succ f ih =>
    intro k n g s ka oa kl kc ol oc w hk ho
    refine size_step k n g s ka oa kl kc ol oc w hk ⟨ho.1, fun j hj => ?_⟩
    obtain ⟨b, off, x, y, z, t, qa, ra, ql, qc, rl, rc, e, hc, hk2, hd⟩ := ho.2 j hj
    exact ⟨b, off, x, y, z, t, qa, ra, ql, qc, rl, rc, e, hc, fun W hb => ih x y z t qa ra ql qc rl rc W (hk2.below hb (Nat.le_refl _)) (KidsAt.below hb (Nat.le_refl _) f hd)⟩
end Go.Proofs.Ythihmbicalacfaa
