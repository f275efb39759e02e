/-
  code's Lengths at the counts of the document's example.
-/
import Derived.Test.YtbgechfmbogbpaaCodU
import Derived.Test.YtbgechfmbogbpaaCodO
import Derived.Test.YtbgechfmbogbpaaCodLv
namespace Go.Proofs.Ytbgechfmbogbpaa
open Go.RowKit Cod Go.Shelf

def lnC : List Int := [5, 0, 1, 1]
def lnS : List Int := [2, 3, 0]
def lnW : List C2 := [(1, false), (1, false), (5, false)]
def incS (lens : List Int) : Nat → List Int
  | 0 => lens
  | j + 1 => (incS lens j).set (lnS.getD j 0).toNat ((incS lens j).getD (lnS.getD j 0).toNat 0 + 1)
def lnN : List Int := (numsK lnW 15 15).1
def lenK : Nat → List Int
  | 0 => [0, 0, 0, 0]
  | k + 1 => incS (lenK k) (lnN.getD k 0).toNat
theorem ln_all : lnC.all (okN 2147483647) = true := by decide +kernel
theorem ln_sg : sgK lnC 4 = [0, 2, 3] := by decide +kernel
theorem ln_ins : insS 0 (fun a b => decide (lnC.getD a.toNat 0 < lnC.getD b.toNat 0)) [0, 2, 3] = lnS := by decide +kernel
theorem ln_coins : (lnS.map fun x => (lnC.getD x.toNat 0, false)) = lnW := by decide +kernel
theorem ln_row : ∀ i, i < 15 → 2 ≤ (rowF lnW i).length ∧ (rowF lnW i).length < 20 ∧ (lnW.length + (pairsL (rowF lnW i)).length < 20) ∧ (0 < (pairsL (rowF lnW i)).length) ∧ ∀ c ∈ rowF lnW i, 0 ≤ c.1 ∧ c.1 ≤ 1000000000 := by decide +kernel
theorem ln_take : ∀ k, k < 15 → (numsK lnW 15 k).2 ≤ (rowF lnW (15 - 1 - k)).length := by decide +kernel
theorem ln_nums : lnN.length = 15 ∧ ∀ k, k < 15 → 0 ≤ lnN.getD k 0 ∧ lnN.getD k 0 ≤ 3 := by decide +kernel
theorem ln_len : ∀ k, k < 16 → ∀ j, j < 4 → (incS (lenK k) j).length = 4 ∧ ∀ m, m < 4 → 0 ≤ (incS (lenK k) j).getD m 0 ∧ (incS (lenK k) j).getD m 0 ≤ 100 := by decide +kernel
theorem ln_end : lenK 15 = [1, 0, 2, 2] := by decide +kernel
theorem ln_sign : ∀ j, j < 3 → lnS.getD j 0 = ((lnS.getD j 0).toNat : Int) ∧ (lnS.getD j 0).toNat < 4 := by decide +kernel
theorem iat_kept {w w' : World} {r X : Nat} {l : List Int} (h : IAt w (some ⟨r, 0, none⟩) l) (hg : w.grownBy w' (some X)) (hne : r ≠ X) : IAt w' (some ⟨r, 0, none⟩) l := fun j hj => by
  obtain ⟨b, off, e, hlt, hc⟩ := h j hj
  injection e with e
  injection e with e1 e2
  subst e1 e2
  exact ⟨r, 0, rfl, Nat.lt_of_lt_of_le hlt hg.size, hg.cell (a := ⟨r, _, none⟩) hc (by intro e; injection e with e; exact hne e)⟩
theorem iat_cell {w : World} {r : Nat} {l : List Int} (h : IAt w (some ⟨r, 0, none⟩) l) (j : Nat) (hj : j < l.length) : w.cell? ⟨r, j, none⟩ = some (.int .i64 (l.getD j 0)) := by
  obtain ⟨b, off, e, hlt, hc⟩ := h j hj
  injection e with e
  injection e with e1 e2
  subst e1 e2
  rw [Nat.zero_add] at hc
  rw [hc, List.getD, List.getElem?_eq_getElem hj]
  rfl
theorem irow_cell {w : World} {r : Nat} {l : List Int} (h : IRow w r l) (j : Nat) (hj : j < l.length) : w.cell? ⟨r, j, none⟩ = some (.int .i64 (l.getD j 0)) := by
  rw [h.cell j hj, List.getD, List.getElem?_eq_getElem hj]
  rfl

set_option maxRecDepth 100000 in
set_option maxHeartbeats 4000000 in
theorem lengths_example : LenSpec := by
  intro w A cap h
  obtain ⟨N, hN⟩ : ∃ N, w.heap.size = N := ⟨_, rfl⟩
  have HN := Lib.hid hN
  have HCo := Lib.hid (show Calls Try.prog 32 #[.slice A 4 cap, .func (.func 38) #[] #[]] w fun e w' => e = .returned (.bool false) ∧ w = w' from by
    have := Lncontains_any A cap lnC w h (by decide)
    rw [ln_all] at this
    exact this)
  have HRa := Lib.hid (show Calls Try.prog 39 #[.slice A 4 cap] w fun e w' => ∃ R c : Nat, e = .returned (.slice (some ⟨R, 0, none⟩) 3 c) ∧ OwnI w' N (.slice (some ⟨R, 0, none⟩) 3 c) 3 lnS ∧ Below N w w' from by
    have := rarest_any A cap lnC w h (by decide) (by rw [show lnC.length = 4 from rfl, ln_sg]; decide)
    rw [show lnC.length = 4 from rfl, ln_sg, ln_ins, hN] at this
    exact this)
  have HA := Lib.hid h
  rw [hN]
  clear h hN
  go_enter Try.func17, Try.ntmps17
  have hmk : ∀ w : World, (Instr.makeSlice 22 (.int .i64 4) (.int .i64 4)).run Try.prog w = .ok (.slice (some ⟨w.heap.size, 0, none⟩) 4 4) (w.alloc (.cells (rI [0, 0, 0, 0]) 3)) := fun w => make_ints 4 (by decide) w
  go_wp2_with (first | (go_at_call 32; refine HCo.out.mono ?_; rintro e w1 ⟨rfl, rfl⟩) | (go_at_call 39; refine HRa.out.mono ?_; rintro e w1 ⟨R, c, rfl, ho, hb⟩))
  have hs1 : N ≤ w1.heap.size := by rw [← HN.out]; exact Nat.le_trans (by rw [HN.out]; exact Nat.le_refl _) (by have := hb.size; rw [HN.out] at this; exact this)
  obtain ⟨X, hX⟩ : ∃ X, w1.heap.size = X := ⟨_, rfl⟩
  rw [hX] at hs1
  have hbX : Below X w1 (w1.alloc (.cells (rI [0, 0, 0, 0]) 3)) := by rw [← hX]; exact (Below.refl _ w1).alloc (Nat.le_refl _) _
  have hr0 : IRow (w1.alloc (.cells (rI [0, 0, 0, 0]) 3)) X (lenK 0) := by rw [← hX]; exact lit_row w1 [0, 0, 0, 0]
  have hA1 : IAt w1 A lnC := HA.out.below (by rw [HN.out]; exact hb)
  have hA2 := hA1.below (by rw [hX]; exact hbX)
  have hS1 : IAt w1 (some ⟨R, 0, none⟩) lnS := own_iat ho rfl
  have hS2 := hS1.below (by rw [hX]; exact hbX)
  obtain ⟨_, _, hRc, _⟩ := seg_own ho
  have hRX : R < X := by
    obtain ⟨b, off, e, hlt, _⟩ := hS1 0 (by decide)
    injection e with e
    injection e with e1 e2
    omega
  obtain ⟨W, hW⟩ : ∃ W, w1.alloc (.cells (rI [0, 0, 0, 0]) 3) = W := ⟨_, rfl⟩
  rw [hW] at hbX hr0 hA2 hS2
  have hWs : W.heap.size = X + 1 := by rw [← hW, World.size_alloc, hX]
  rw [hW, hX]
  refine (coins_any A (some ⟨R, 0, none⟩) cap c lnC lnS W hA2 hS2 (by decide) (by decide) (by decide)).mono ?_
  rintro e w3 ⟨A2, c2, rfl, ho3, hb3⟩
  rw [ln_coins, show lnS.length = 3 from rfl] at ho3
  rw [show lnS.length = 3 from rfl]
  obtain ⟨g, rfl⟩ := ownK_some ho3 (by decide)
  have hk3 : KAt w3.heap.size w3 (some ⟨g, 0, none⟩) lnW := own_kat ho3 rfl
  obtain ⟨_, hgw, hgc, _⟩ := seg_own ho3
  have hb13 : Below N w w3 := (hb.trans (hbX.mono hs1)).trans (hb3.mono (by omega))
  have hs3 : X + 1 ≤ w3.heap.size := by have := hb3.size; omega
  have hr3 : IRow w3 X (lenK 0) := Blk.below hr0 hb3 (by omega)
  have hS3 := hS2.below hb3
  have hg3 : g < w3.heap.size := by
    obtain ⟨b, off, e, hlt, _⟩ := hk3 0 (by decide)
    injection e with e
    injection e with e1 e2
    omega
  have HCh := Lib.hid (chosen_any g c2 lnW 15 w3 hk3 hg3 hgc (by decide) (by decide) (by decide) ln_row ln_take)
  have HR3 := Lib.hid hr3
  have HS3 := Lib.hid hS3
  have HB3 := Lib.hid hb13
  clear hmk hA1 hA2 hS1 hS2 hr0 hbX hb3 hk3 ho3 hgw hgc hr3 hS3 ho hb hW hX hb13
  go_wp2_with (go_at_call 40; refine HCh.out.mono ?_; rintro e w4 ⟨A4, c4, rfl, ho4, hb4⟩)
  obtain ⟨a4, rfl⟩ : ∃ g, A4 = some ⟨g, 0, none⟩ := by
    rcases ho4.2 with ⟨h0, h1⟩ | ⟨g, c3, _, h1, _⟩
    · omega
    · injection h1 with h1 h2 h3
      exact ⟨g, h1⟩
  have hN4 : IAt w4 (some ⟨a4, 0, none⟩) lnN := own_iat ho4 ln_nums.1
  have ha4 : X < a4 := by
    obtain ⟨_, h2, _, _⟩ := seg_own ho4
    omega
  have hr4 : IRow w4 X (lenK 0) := Blk.below HR3.out hb4 (by omega)
  have hS4 := HS3.out.below hb4
  have HN4 := Lib.hid hN4
  have HS4 := Lib.hid hS4
  have HR4 := Lib.hid hr4
  have HB4 := Lib.hid (HB3.out.trans (hb4.mono (by have := HB3.out.size; rw [HN.out] at this; exact this)))
  have HG4 := Lib.hid (World.grownBy.refl w4 (some X))
  have hRc' : (3 : Int) ≤ (c : Int) := by omega
  clear hN4 hr4 hS4 hb4 ho4 HCh HR3 HS3 HB3
  go_loopw [50] (fun v wr => ∃ k : Nat, k ≤ 15 ∧ v = .int .i64 (k : Int) ∧ Hid (IRow wr X (lenK k)) ∧ Hid (w4.grownBy wr (some X))) (fun v _ => 15 - (intOf v).toNat)
  case atStart => exact ⟨0, by omega, rfl, HR4, HG4⟩
  case round =>
    clear HR4 HG4
    obtain ⟨k, hk, rfl, HR, HG⟩ := hrel
    by_cases hlt : k < 15
    · have i1 : (k : Int) < 15 := by omega
      have i0 : (0 : Int) ≤ (k : Int) := by omega
      have q1 := iat_cell (iat_kept HN4.out HG.out (by omega)) k (by rw [ln_nums.1]; exact hlt)
      obtain ⟨hn0, hn1⟩ := ln_nums.2 k hlt
      obtain ⟨n, hn⟩ : ∃ n : Nat, (lnN.getD k 0).toNat = n := ⟨_, rfl⟩
      have hnn : lnN.getD k 0 = (n : Int) := by omega
      rw [hnn] at q1
      have n3 : (n : Int) ≤ 3 := by omega
      have n0 : (0 : Int) ≤ (n : Int) := by omega
      have nc : (n : Int) ≤ (c : Int) := by omega
      have HNX := Lib.hid (show lenK (k + 1) = incS (lenK k) n by rw [← hn]; rfl)
      clear hn0 hn1 hn hnn
      go_wp2_with fail
      go_loopw [58] (fun v wr => ∃ j : Nat, j ≤ n ∧ v = .int .i64 (j : Int) ∧ Hid (IRow wr X (incS (lenK k) j)) ∧ Hid (w4.grownBy wr (some X))) (fun v _ => n - (intOf v).toNat)
      case atStart => exact ⟨0, by omega, rfl, HR, HG⟩
      case round =>
        clear HR HG
        obtain ⟨j, hj, rfl, HRj, HGj⟩ := hrel
        by_cases hjn : j < n
        · have j1 : (j : Int) < (n : Int) := by omega
          have j0 : (0 : Int) ≤ (j : Int) := by omega
          have p1 := iat_cell (iat_kept HS4.out HGj.out (by omega)) j (by show j < 3; omega)
          obtain ⟨hs0, hs1'⟩ := ln_sign j (by omega)
          obtain ⟨s, hs⟩ : ∃ s : Nat, (lnS.getD j 0).toNat = s := ⟨_, rfl⟩
          rw [hs0, hs] at p1
          rw [hs] at hs1'
          obtain ⟨hll, hlv⟩ := ln_len k (by omega) j (by omega)
          have p2 := irow_cell HRj.out s (by rw [hll]; exact hs1')
          obtain ⟨hv0, hv1⟩ := hlv s hs1'
          have HSET := Lib.hid (show incS (lenK k) (j + 1) = (incS (lenK k) j).set s ((incS (lenK k) j).getD s 0 + 1) by rw [← hs]; rfl)
          obtain ⟨y, hy⟩ : ∃ y, (incS (lenK k) j).getD s 0 = y := ⟨_, rfl⟩
          rw [hy] at p2 hv0 hv1
          have HY := Lib.hid hy
          have y1 : IntKind.i64.wrap (y + 1) = y + 1 := IntWalk.i64_in _ (by omega)
          have s0 : (0 : Int) ≤ (s : Int) := by omega
          have s1 : (s : Int) < 4 := by omega
          have pf := HRj.out.frozen s
          have HNR := Lib.hid (show IRow (wr.setCell ⟨X, s, none⟩ (.int .i64 (y + 1))) X (incS (lenK k) (j + 1)) by rw [HSET.out, HY.out]; exact HRj.out.set_ s (y + 1))
          have HNG := Lib.hid (grown_set HGj.out s (.int .i64 (y + 1)))
          clear hs0 hs hll hlv hv0 hv1 hy hs1' HSET HY
          go_wp2_with fail
          go_roundw
          case rel => exact ⟨j + 1, by omega, by go_num, HNR, HNG⟩
          case measure => simp [intOf]; omega
        · obtain rfl : j = n := by omega
          have j1 : ¬ (j : Int) < (j : Int) := by omega
          have HE := Lib.hid (show IRow wr X (lenK (k + 1)) by rw [HNX.out]; exact HRj.out)
          go_wp2_with fail
          go_roundw
          case rel => exact ⟨k + 1, by omega, by go_num, HE, HGj⟩
          case measure => simp [intOf]; omega
    · obtain rfl : k = 15 := by omega
      go_wp2_with fail
      go_ret2
      exact ⟨X, rfl, hs1, by have := HR.out; rw [ln_end] at this; exact this, HB4.out.grown HG.out (by have := HB4.out.size; rw [HN.out] at this; exact this) (fun q hq => by injection hq with hq; omega)⟩
end Go.Proofs.Ytbgechfmbogbpaa
