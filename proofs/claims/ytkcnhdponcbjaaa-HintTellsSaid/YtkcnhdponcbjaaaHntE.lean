/-
  hint's spread: the columns' least numbers and widths.
-/
import Derived.Test.YtkcnhdponcbjaaaHntC
import Derived.StillTailTactics
namespace Go.Proofs.Ytkcnhdponcbjaaa
open Go.RowKit Bt Hnt

theorem least_step (c : Nat) (l : List H3) (x : Int) {k : Nat} (hk : k < l.length) : leastC c (l.take (k + 1)) x = min (leastC c (l.take k) x) (clm c l[k]) := by
  unfold leastC
  rw [List.take_succ_eq_append_getElem hk, List.foldl_append]
  rfl
theorem most_step (c : Nat) (l : List H3) (x : Int) {k : Nat} (hk : k < l.length) : mostCs c (l.take (k + 1)) x = max (mostCs c (l.take k) x) (clm c l[k]) := by
  unfold mostCs
  rw [List.take_succ_eq_append_getElem hk, List.foldl_append]
  rfl
theorem lst_eq {l : List H3} {h : H3} {c : Nat} (hl : 0 < l.length) (e : l[0]'hl = h) : lst c l = leastC c l (clm c h) := by
  match l with
  | a :: l => subst e; rfl
theorem mst_eq {l : List H3} {h : H3} {c : Nat} (hl : 0 < l.length) (e : l[0]'hl = h) : mst c l = mostCs c l (clm c h) := by
  match l with
  | a :: l => subst e; rfl
/-- Three numbers in a row of memory. -/
def A3 (w : World) (b : Nat) (x y z : Int) : Prop := Blk w b 61 #[.int .i64 x, .int .i64 y, .int .i64 z]
theorem A3.cells {w : World} {b : Nat} {x y z : Int} (h : A3 w b x y z) : w.cell? ⟨b, 0, none⟩ = some (.int .i64 x) ∧ w.cell? ⟨b, 1, none⟩ = some (.int .i64 y) ∧ w.cell? ⟨b, 2, none⟩ = some (.int .i64 z) := ⟨(Blk.cell h 0).trans rfl, (Blk.cell h 1).trans rfl, (Blk.cell h 2).trans rfl⟩
theorem A3.free {w : World} {b : Nat} {x y z : Int} (h : A3 w b x y z) : w.frozen? ⟨b, 0, none⟩ = false ∧ w.frozen? ⟨b, 1, none⟩ = false ∧ w.frozen? ⟨b, 2, none⟩ = false := ⟨Blk.frozen h 0, Blk.frozen h 1, Blk.frozen h 2⟩
theorem A3.s0 {w : World} {b : Nat} {x y z : Int} (h : A3 w b x y z) (v : Int) : A3 (w.setCell ⟨b, 0, none⟩ (.int .i64 v)) b v y z := (Blk.set_ h 0 _).trans (by simp)
theorem A3.s1 {w : World} {b : Nat} {x y z : Int} (h : A3 w b x y z) (v : Int) : A3 (w.setCell ⟨b, 1, none⟩ (.int .i64 v)) b x v z := (Blk.set_ h 1 _).trans (by simp)
theorem A3.s2 {w : World} {b : Nat} {x y z : Int} (h : A3 w b x y z) (v : Int) : A3 (w.setCell ⟨b, 2, none⟩ (.int .i64 v)) b x y v := (Blk.set_ h 2 _).trans (by simp)
theorem A3.far_ {w : World} {b : Nat} {x y z : Int} (h : A3 w b x y z) {p : Addr} (hp : b ≠ p.block) (u : Value) : A3 (w.setCell p u) b x y z := Blk.far h hp u
theorem A3.below {w w' : World} {b B : Nat} {x y z : Int} (h : A3 w b x y z) (hb : Below B w w') (hg : b < B) : A3 w' b x y z := Blk.below h hb hg
/-- The three rows of spread. -/
def Spr (N : Nat) (w : World) (m : Nat) (a b c d e f g h i : Int) (wr : World) : Prop := Below N w wr ∧ A3 wr N a b c ∧ A3 wr (N + 1) d e f ∧ A3 wr m g h i ∧ N + 1 < m
theorem Spr.lt {N : Nat} {w : World} {m : Nat} {a b c d e f g h i : Int} {wr : World} (s : Spr N w m a b c d e f g h i wr) : m < wr.heap.size := Blk.lt s.2.2.2.1
theorem Spr.more {N : Nat} {w : World} {m : Nat} {a b c d e f g h i : Int} {wr w' : World} (s : Spr N w m a b c d e f g h i wr) (hb : Below wr.heap.size wr w') : Spr N w m a b c d e f g h i w' := by
  have hlt := s.lt
  obtain ⟨h1, h2, h3, h4, h5⟩ := s
  exact ⟨h1.trans (hb.mono (by omega)), h2.below hb (by omega), h3.below hb (by omega), h4.below hb (by omega), h5⟩
theorem Spr.drewN {N : Nat} {w : World} {m : Nat} {a b c d e f g h i : Int} {wr : World} (s : Spr N w m a b c d e f g h i wr) (n : Nat) : Spr N w m a b c d e f g h i (wr.drewN n) := by
  obtain ⟨h1, h2, h3, h4, h5⟩ := s
  exact ⟨⟨h1.os, h1.tape, h1.output, h1.size, h1.block⟩, h2, h3, h4, h5⟩
theorem Spr.l0 {N : Nat} {w : World} {m : Nat} {a b c d e f g h i : Int} {wr : World} (s : Spr N w m a b c d e f g h i wr) (v : Int) : Spr N w m v b c d e f g h i (wr.setCell ⟨N, 0, none⟩ (.int .i64 v)) := by
  obtain ⟨h1, h2, h3, h4, h5⟩ := s
  exact ⟨h1.setCell (Nat.le_refl _) _, h2.s0 v, h3.far_ (by simp) _, h4.far_ (by show m ≠ N; omega) _, h5⟩
theorem Spr.w0 {N : Nat} {w : World} {m : Nat} {a b c d e f g h i : Int} {wr : World} (s : Spr N w m a b c d e f g h i wr) (v : Int) : Spr N w m a b c v e f g h i (wr.setCell ⟨N + 1, 0, none⟩ (.int .i64 v)) := by
  obtain ⟨h1, h2, h3, h4, h5⟩ := s
  exact ⟨h1.setCell (by simp) _, h2.far_ (by simp) _, h3.s0 v, h4.far_ (by show m ≠ N + 1; omega) _, h5⟩
theorem Spr.m0 {N : Nat} {w : World} {m : Nat} {a b c d e f g h i : Int} {wr : World} (s : Spr N w m a b c d e f g h i wr) (v : Int) : Spr N w m a b c d e f v h i (wr.setCell ⟨m, 0, none⟩ (.int .i64 v)) := by
  obtain ⟨h1, h2, h3, h4, h5⟩ := s
  exact ⟨h1.setCell (by show N ≤ m; omega) _, h2.far_ (by show N ≠ m; omega) _, h3.far_ (by show N + 1 ≠ m; omega) _, h4.s0 v, h5⟩
theorem Spr.l1 {N : Nat} {w : World} {m : Nat} {a b c d e f g h i : Int} {wr : World} (s : Spr N w m a b c d e f g h i wr) (v : Int) : Spr N w m a v c d e f g h i (wr.setCell ⟨N, 1, none⟩ (.int .i64 v)) := by
  obtain ⟨h1, h2, h3, h4, h5⟩ := s
  exact ⟨h1.setCell (Nat.le_refl _) _, h2.s1 v, h3.far_ (by simp) _, h4.far_ (by show m ≠ N; omega) _, h5⟩
theorem Spr.w1 {N : Nat} {w : World} {m : Nat} {a b c d e f g h i : Int} {wr : World} (s : Spr N w m a b c d e f g h i wr) (v : Int) : Spr N w m a b c d v f g h i (wr.setCell ⟨N + 1, 1, none⟩ (.int .i64 v)) := by
  obtain ⟨h1, h2, h3, h4, h5⟩ := s
  exact ⟨h1.setCell (by simp) _, h2.far_ (by simp) _, h3.s1 v, h4.far_ (by show m ≠ N + 1; omega) _, h5⟩
theorem Spr.m1 {N : Nat} {w : World} {m : Nat} {a b c d e f g h i : Int} {wr : World} (s : Spr N w m a b c d e f g h i wr) (v : Int) : Spr N w m a b c d e f g v i (wr.setCell ⟨m, 1, none⟩ (.int .i64 v)) := by
  obtain ⟨h1, h2, h3, h4, h5⟩ := s
  exact ⟨h1.setCell (by show N ≤ m; omega) _, h2.far_ (by show N ≠ m; omega) _, h3.far_ (by show N + 1 ≠ m; omega) _, h4.s1 v, h5⟩
theorem Spr.l2 {N : Nat} {w : World} {m : Nat} {a b c d e f g h i : Int} {wr : World} (s : Spr N w m a b c d e f g h i wr) (v : Int) : Spr N w m a b v d e f g h i (wr.setCell ⟨N, 2, none⟩ (.int .i64 v)) := by
  obtain ⟨h1, h2, h3, h4, h5⟩ := s
  exact ⟨h1.setCell (Nat.le_refl _) _, h2.s2 v, h3.far_ (by simp) _, h4.far_ (by show m ≠ N; omega) _, h5⟩
theorem Spr.w2 {N : Nat} {w : World} {m : Nat} {a b c d e f g h i : Int} {wr : World} (s : Spr N w m a b c d e f g h i wr) (v : Int) : Spr N w m a b c d e v g h i (wr.setCell ⟨N + 1, 2, none⟩ (.int .i64 v)) := by
  obtain ⟨h1, h2, h3, h4, h5⟩ := s
  exact ⟨h1.setCell (by simp) _, h2.far_ (by simp) _, h3.s2 v, h4.far_ (by show m ≠ N + 1; omega) _, h5⟩
theorem Spr.m2 {N : Nat} {w : World} {m : Nat} {a b c d e f g h i : Int} {wr : World} (s : Spr N w m a b c d e f g h i wr) (v : Int) : Spr N w m a b c d e f g h v (wr.setCell ⟨m, 2, none⟩ (.int .i64 v)) := by
  obtain ⟨h1, h2, h3, h4, h5⟩ := s
  exact ⟨h1.setCell (by show N ≤ m; omega) _, h2.far_ (by show N ≠ m; omega) _, h3.far_ (by show N + 1 ≠ m; omega) _, h4.s2 v, h5⟩

set_option maxRecDepth 100000 in
set_option maxHeartbeats 16000000 in
theorem spread_any (A : Option Addr) (cap : Nat) (l : List H3) (w : World) (h : HAt w A l) (hne : l ≠ []) (hl : l.length ≤ 2048) (hok : allOk l) :
    Calls Try.prog 44 #[.slice A l.length cap] w fun e w' => e = .returned (.tuple #[.agg #[.int .i64 (lst 0 l), .int .i64 (lst 1 l), .int .i64 (lst 2 l)], .agg #[.int .i64 (wdt 0 l : Nat), .int .i64 (wdt 1 l : Nat), .int .i64 (wdt 2 l : Nat)]]) ∧ Below w.heap.size w w' := by
  obtain ⟨N, hN⟩ : ∃ N, w.heap.size = N := ⟨_, rfl⟩
  obtain ⟨n, hn⟩ : ∃ n, l.length = n := ⟨_, rfl⟩
  have hl0 : 0 < l.length := List.length_pos_iff.2 hne
  have hn0 : 0 < n := by rw [← hn]; exact hl0
  have HN := Lib.hid hn
  have H0 := Lib.hid (fun (W : World) (hb : Below N w W) => h.below (hN ▸ hb))
  have HS := Lib.hid hN
  obtain ⟨b, off, rfl, hbs, c0, c1, c2⟩ := h 0 hl0
  obtain ⟨x0, hx⟩ : ∃ x, (l[0]'hl0).1 = x := ⟨_, rfl⟩
  obtain ⟨y0, hy⟩ : ∃ y, (l[0]'hl0).2.1 = y := ⟨_, rfl⟩
  obtain ⟨z0, hz⟩ : ∃ z, (l[0]'hl0).2.2 = z := ⟨_, rfl⟩
  rw [hx] at c0
  rw [hy] at c1
  rw [hz] at c2
  simp only [Nat.zero_mul, Nat.add_zero] at c0 c1 c2
  have HE0 := Lib.hid (show l[0]'hl0 = (x0, y0, z0) by rw [← hx, ← hy, ← hz])
  have hnb : (n : Int) ≤ 2048 := by omega
  obtain ⟨V, hV⟩ : ∃ V, (w.alloc (.cells #[.int .i64 0, .int .i64 0, .int .i64 0] 61)).alloc (.cells #[.int .i64 0, .int .i64 0, .int .i64 0] 61) = V := ⟨_, rfl⟩
  have HVs := Lib.hid (show V.heap.size = N + 2 by rw [← hV, World.size_alloc, World.size_alloc, hN])
  have HV0 := Lib.hid (show A3 V N 0 0 0 by rw [← hV, ← hN]; exact (Blk.new w _ _).alloc _)
  have HV1 := Lib.hid (show A3 V (N + 1) 0 0 0 by
    rw [← hV]
    have := Blk.new (w.alloc (.cells #[.int .i64 0, .int .i64 0, .int .i64 0] 61)) 61 #[.int .i64 0, .int .i64 0, .int .i64 0]
    rw [World.size_alloc, hN] at this
    exact this)
  have HVB := Lib.hid (show Below N w V by rw [← hV, ← hN]; exact ((Below.refl _ w).alloc (Nat.le_refl _) _).alloc (by simp) _)
  have hbN : b < N := by rw [← hN]; exact hbs
  have HC := Lib.hid (fun (W : World) (hb : Below N w W) => (show W.cell? ⟨b, off, none⟩ = some (.int .i64 x0) ∧ W.cell? ⟨b, off + 1, none⟩ = some (.int .i64 y0) ∧ W.cell? ⟨b, off + 2, none⟩ = some (.int .i64 z0) from
    ⟨(hb.cell (p := ⟨b, _, none⟩) hbN).trans c0, (hb.cell (p := ⟨b, _, none⟩) hbN).trans c1, (hb.cell (p := ⟨b, _, none⟩) hbN).trans c2⟩))
  have HOk := Lib.hid hok
  have HNe := Lib.hid hne
  have i0 := lst_in hok hne (c := 0) (by omega)
  have i1 := lst_in hok hne (c := 1) (by omega)
  have i2 := lst_in hok hne (c := 2) (by omega)
  have j0 := mst_in hok hne (c := 0) (by omega)
  have j1 := mst_in hok hne (c := 1) (by omega)
  have j2 := mst_in hok hne (c := 2) (by omega)
  obtain ⟨W0, hW0⟩ : ∃ v, wdt 0 l = v := ⟨_, rfl⟩
  obtain ⟨W1, hW1⟩ : ∃ v, wdt 1 l = v := ⟨_, rfl⟩
  obtain ⟨W2, hW2⟩ : ∃ v, wdt 2 l = v := ⟨_, rfl⟩
  have PN0 := Lib.hid (fun W : World => need_any (mst 0 l - lst 0 l) W (by omega) (by omega))
  have PN1 := Lib.hid (fun W : World => need_any (mst 1 l - lst 1 l) W (by omega) (by omega))
  have PN2 := Lib.hid (fun W : World => need_any (mst 2 l - lst 2 l) W (by omega) (by omega))
  have G0 := Lib.hid (IntWalk.i64_in (mst 0 l - lst 0 l) (by omega))
  have G1 := Lib.hid (IntWalk.i64_in (mst 1 l - lst 1 l) (by omega))
  have G2 := Lib.hid (IntWalk.i64_in (mst 2 l - lst 2 l) (by omega))
  rw [show needN (mst 0 l - lst 0 l) = W0 from hW0] at PN0
  rw [show needN (mst 1 l - lst 1 l) = W1 from hW1] at PN1
  rw [show needN (mst 2 l - lst 2 l) = W2 from hW2] at PN2
  rw [hW0, hW1, hW2]
  obtain ⟨la, hla⟩ : ∃ v, lst 0 l = v := ⟨_, rfl⟩
  obtain ⟨lb, hlb⟩ : ∃ v, lst 1 l = v := ⟨_, rfl⟩
  obtain ⟨lc, hlc⟩ : ∃ v, lst 2 l = v := ⟨_, rfl⟩
  obtain ⟨ma, hma⟩ : ∃ v, mst 0 l = v := ⟨_, rfl⟩
  obtain ⟨mb, hmb⟩ : ∃ v, mst 1 l = v := ⟨_, rfl⟩
  obtain ⟨mc, hmc⟩ : ∃ v, mst 2 l = v := ⟨_, rfl⟩
  simp only [hla, hlb, hlc, hma, hmb, hmc] at PN0 PN1 PN2 G0 G1 G2 ⊢
  have Ela := Lib.hid hla
  have Elb := Lib.hid hlb
  have Elc := Lib.hid hlc
  have Ema := Lib.hid hma
  have Emb := Lib.hid hmb
  have Emc := Lib.hid hmc
  clear i0 i1 i2 j0 j1 j2 hla hlb hlc hma hmb hmc hW0 hW1 hW2
  rw [hN, hn]
  clear h hne hl hok hx hy hz c0 c1 c2 hbs hbN
  go_enter Try.func44, Try.ntmps44
  go_upto_region 1 with fail
  try rw [hV]
  try rw [hN]
  clear hV hN hn
  obtain ⟨c0, c1, c2⟩ := HC.out V HVB.out
  go_wp2_with fail
  refine (rowOf_any _ _ _ _).mono ?_
  rintro e w1 ⟨rfl, hb⟩
  have HB1 := Lib.hid (HVB.out.trans (hb.mono (by rw [HVs.out]; omega)))
  have HA0 := Lib.hid (HV0.out.below hb (by rw [HVs.out]; omega))
  have HA1 := Lib.hid (HV1.out.below hb (by rw [HVs.out]; omega))
  have HS1 := Lib.hid (show N + 2 ≤ w1.heap.size by have := hb.size; rw [HVs.out] at this; exact this)
  clear hb c0 c1 c2
  obtain ⟨q0, q1, q2⟩ := HA0.out.free
  obtain ⟨r0, r1, r2⟩ := HA0.out.cells
  go_upto_region 2 with fail
  obtain ⟨w2, hw2⟩ : ∃ w2, ((w1.setCell ⟨N, 0, none⟩ (.int .i64 x0)).setCell ⟨N, 1, none⟩ (.int .i64 y0)).setCell ⟨N, 2, none⟩ (.int .i64 z0) = w2 := ⟨_, rfl⟩
  try rw [hw2]
  have HA2 := Lib.hid (show A3 w2 N x0 y0 z0 by rw [← hw2]; exact ((HA0.out.s0 x0).s1 y0).s2 z0)
  have HW2 := Lib.hid (show A3 w2 (N + 1) 0 0 0 by rw [← hw2]; exact ((HA1.out.far_ (by simp) _).far_ (by simp) _).far_ (by simp) _)
  have HB2 := Lib.hid (show Below N w w2 by rw [← hw2]; exact ((HB1.out.setCell (Nat.le_refl _) _).setCell (Nat.le_refl _) _).setCell (Nat.le_refl _) _)
  have HS2 := Lib.hid (show N + 2 ≤ w2.heap.size by rw [← hw2]; simpa [World.setCell] using HS1.out)
  clear hw2 q0 q1 q2 r0 r1 r2
  obtain ⟨r0, r1, r2⟩ := HA2.out.cells
  obtain ⟨m, hm⟩ : ∃ m, w2.heap.size = m := ⟨_, rfl⟩
  obtain ⟨w3, hw3⟩ : ∃ w3, w2.alloc (.cells #[.int .i64 x0, .int .i64 y0, .int .i64 z0] 61) = w3 := ⟨_, rfl⟩
  have HSp := Lib.hid (show Spr N w m x0 y0 z0 0 0 0 x0 y0 z0 w3 by
    have h2 := HS2.out
    rw [← hw3]
    refine ⟨HB2.out.alloc (by omega) _, Blk.alloc HA2.out _, Blk.alloc HW2.out _, ?_, by omega⟩
    rw [← hm]
    exact Blk.new _ _ _)
  go_upto_region 3 with fail
  try rw [hw3]
  try rw [hm]
  clear hw3 hm r0 r1 r2
  go_wp2_with fail
  go_loopw [17] (fun i wr => ∃ k : Nat, k ≤ n ∧ i = .int .i64 (k : Int) ∧ Hid (Spr N w m (leastC 0 (l.take k) x0) (leastC 1 (l.take k) y0) (leastC 2 (l.take k) z0) 0 0 0 (mostCs 0 (l.take k) x0) (mostCs 1 (l.take k) y0) (mostCs 2 (l.take k) z0) wr)) (fun i _ => n - (intOf i).toNat)
  case atStart => exact ⟨0, by omega, rfl, HSp⟩
  case round =>
    obtain ⟨k, hk, rfl, HS0⟩ := hrel
    by_cases hlt : k < n
    · have hkl : k < l.length := by rw [HN.out]; exact hlt
      obtain ⟨b3, off3, hA, hbs, c0, c1, c2⟩ := H0.out wr HS0.out.1 k hkl
      obtain ⟨rfl, rfl⟩ : b = b3 ∧ off = off3 := by simpa using hA
      obtain ⟨x, hx⟩ : ∃ x, l[k].1 = x := ⟨_, rfl⟩
      obtain ⟨y, hy⟩ : ∃ y, l[k].2.1 = y := ⟨_, rfl⟩
      obtain ⟨z, hz⟩ : ∃ z, l[k].2.2 = z := ⟨_, rfl⟩
      have HE := Lib.hid (show l[k] = (x, y, z) by rw [← hx, ← hy, ← hz])
      rw [hx] at c0
      rw [hy] at c1
      rw [hz] at c2
      have HStep := Lib.hid (show ∀ c, leastC c (l.take (k + 1)) = leastC c (l.take (k + 1)) from fun _ => rfl)
      obtain ⟨a, ha⟩ : ∃ v, leastC 0 (l.take k) x0 = v := ⟨_, rfl⟩
      obtain ⟨b2, hb2⟩ : ∃ v, leastC 1 (l.take k) y0 = v := ⟨_, rfl⟩
      obtain ⟨c, hc⟩ : ∃ v, leastC 2 (l.take k) z0 = v := ⟨_, rfl⟩
      obtain ⟨g, hg⟩ : ∃ v, mostCs 0 (l.take k) x0 = v := ⟨_, rfl⟩
      obtain ⟨h, hh⟩ : ∃ v, mostCs 1 (l.take k) y0 = v := ⟨_, rfl⟩
      obtain ⟨i, hi⟩ : ∃ v, mostCs 2 (l.take k) z0 = v := ⟨_, rfl⟩
      rw [ha, hb2, hc, hg, hh, hi] at HS0
      have HNext := Lib.hid (show leastC 0 (l.take (k + 1)) x0 = min a x ∧ leastC 1 (l.take (k + 1)) y0 = min b2 y ∧ leastC 2 (l.take (k + 1)) z0 = min c z ∧ mostCs 0 (l.take (k + 1)) x0 = max g x ∧ mostCs 1 (l.take (k + 1)) y0 = max h y ∧ mostCs 2 (l.take (k + 1)) z0 = max i z from by
        rw [least_step 0 l x0 hkl, least_step 1 l y0 hkl, least_step 2 l z0 hkl, most_step 0 l x0 hkl, most_step 1 l y0 hkl, most_step 2 l z0 hkl, ha, hb2, hc, hg, hh, hi, HE.out]
        exact ⟨rfl, rfl, rfl, rfl, rfl, rfl⟩)
      have hik : (k : Int) < (n : Int) := by omega
      clear hx hy hz hbs hA ha hb2 hc hg hh hi HStep
      obtain ⟨m2, hm2⟩ : ∃ m2, wr.heap.size = m2 := ⟨_, rfl⟩
      obtain ⟨w5, hw5⟩ : ∃ w5, wr.alloc (.cells #[.int .i64 x, .int .i64 y, .int .i64 z] 35) = w5 := ⟨_, rfl⟩
      have HS5 := Lib.hid (show Spr N w m a b2 c 0 0 0 g h i w5 by rw [← hw5]; exact HS0.out.more ((Below.refl _ _).alloc (Nat.le_refl _) _))
      have b5 : Blk w5 m2 35 #[.int .i64 x, .int .i64 y, .int .i64 z] := by rw [← hw5, ← hm2]; exact Blk.new _ _ _
      go_upto_region 6 with fail
      try rw [hw5]
      try rw [hm2]
      clear hw5 hm2 c0 c1 c2
      have p0 := b5.cell 0
      have p1 := b5.cell 1
      have p2 := b5.cell 2
      simp only [List.getElem?_toArray, List.getElem?_cons_zero, List.getElem?_cons_succ] at p0 p1 p2
      clear b5
      go_wp2_with fail
      refine (rowOf_any _ _ _ _).mono ?_
      rintro e w6 ⟨rfl, hb⟩
      have HS6 := Lib.hid (HS5.out.more hb)
      clear hb p0 p1 p2
      have ix0 : ∀ w : World, (Instr.index 61 (.agg #[.int .i64 x, .int .i64 y, .int .i64 z]) (.int .i64 0)).run Try.prog w = .ok (.int .i64 x) w := fun _ => by kernel_rfl
      have ix1 : ∀ w : World, (Instr.index 61 (.agg #[.int .i64 x, .int .i64 y, .int .i64 z]) (.int .i64 1)).run Try.prog w = .ok (.int .i64 y) w := fun _ => by kernel_rfl
      have ix2 : ∀ w : World, (Instr.index 61 (.agg #[.int .i64 x, .int .i64 y, .int .i64 z]) (.int .i64 2)).run Try.prog w = .ok (.int .i64 z) w := fun _ => by kernel_rfl
      go_wp2_with fail
      go_loopw [23] (fun o wq => ∃ j : Nat, j ≤ 3 ∧ o = .int .i64 (j : Int) ∧ Hid (Spr N w m (if 0 < j then min a x else a) (if 1 < j then min b2 y else b2) (if 2 < j then min c z else c) 0 0 0 (if 0 < j then max g x else g) (if 1 < j then max h y else h) (if 2 < j then max i z else i) wq)) (fun o _ => 3 - (intOf o).toNat)
      case atStart => exact ⟨0, by omega, rfl, HS6⟩
      case round =>
        obtain ⟨j, hj, rfl, S⟩ := hrel
        have hcs : j = 0 ∨ j = 1 ∨ j = 2 ∨ j = 3 := by omega
        rcases hcs with hj1 | hj1 | hj1 | hj1
        · obtain rfl : j = 0 := by omega
          obtain ⟨r0, r1, r2⟩ := S.out.2.1.cells
          obtain ⟨q0, q1, q2⟩ := S.out.2.1.free
          obtain ⟨u0, u1, u2⟩ := S.out.2.2.2.1.cells
          obtain ⟨v0, v1, v2⟩ := S.out.2.2.2.1.free
          have e1 : ¬ m = N := by have := S.out.2.2.2.2; omega
          have e2 : ¬ N = m := by have := S.out.2.2.2.2; omega
          have S2 := Lib.hid ((S.out.l0 (min a x)).m0 (max g x))
          go_wp2_with fail
          go_roundw
          case rel =>
            have e5 : (if x < a then x else a) = min a x := by split <;> omega
            have e6 : (if g < x then x else g) = max g x := by split <;> omega
            rw [e5, e6]
            exact ⟨1, by omega, by go_num, S2⟩
          case measure => simp [intOf]
        · obtain rfl : j = 1 := by omega
          obtain ⟨r0, r1, r2⟩ := S.out.2.1.cells
          obtain ⟨q0, q1, q2⟩ := S.out.2.1.free
          obtain ⟨u0, u1, u2⟩ := S.out.2.2.2.1.cells
          obtain ⟨v0, v1, v2⟩ := S.out.2.2.2.1.free
          have e1 : ¬ m = N := by have := S.out.2.2.2.2; omega
          have e2 : ¬ N = m := by have := S.out.2.2.2.2; omega
          have S2 := Lib.hid ((S.out.l1 (min b2 y)).m1 (max h y))
          go_wp2_with fail
          go_roundw
          case rel =>
            have e5 : (if y < b2 then y else b2) = min b2 y := by split <;> omega
            have e6 : (if h < y then y else h) = max h y := by split <;> omega
            rw [e5, e6]
            exact ⟨2, by omega, by go_num, S2⟩
          case measure => simp [intOf]
        · obtain rfl : j = 2 := by omega
          obtain ⟨r0, r1, r2⟩ := S.out.2.1.cells
          obtain ⟨q0, q1, q2⟩ := S.out.2.1.free
          obtain ⟨u0, u1, u2⟩ := S.out.2.2.2.1.cells
          obtain ⟨v0, v1, v2⟩ := S.out.2.2.2.1.free
          have e1 : ¬ m = N := by have := S.out.2.2.2.2; omega
          have e2 : ¬ N = m := by have := S.out.2.2.2.2; omega
          have S2 := Lib.hid ((S.out.l2 (min c z)).m2 (max i z))
          go_wp2_with fail
          go_roundw
          case rel =>
            have e5 : (if z < c then z else c) = min c z := by split <;> omega
            have e6 : (if i < z then z else i) = max i z := by split <;> omega
            rw [e5, e6]
            exact ⟨3, by omega, by go_num, S2⟩
          case measure => simp [intOf]
        · obtain rfl : j = 3 := by omega
          obtain ⟨n0, n1, n2, n3, n4, n5⟩ := HNext.out
          have S2 := Lib.hid (show Spr N w m (leastC 0 (l.take (k + 1)) x0) (leastC 1 (l.take (k + 1)) y0) (leastC 2 (l.take (k + 1)) z0) 0 0 0 (mostCs 0 (l.take (k + 1)) x0) (mostCs 1 (l.take (k + 1)) y0) (mostCs 2 (l.take (k + 1)) z0) wr by rw [n0, n1, n2, n3, n4, n5]; exact S.out)
          clear n0 n1 n2 n3 n4 n5
          go_wp2_with fail
          go_roundw
          case rel => exact ⟨k + 1, by omega, by go_num, S2⟩
          case measure => simp [intOf]; omega
    · obtain rfl : k = n := by omega
      have hT : l.take k = l := List.take_of_length_le (by rw [HN.out]; exact Nat.le_refl _)
      have e0 : leastC 0 (l.take k) x0 = la := by rw [hT]; exact (lst_eq (c := 0) hl0 HE0.out).symm.trans Ela.out
      have f0 : mostCs 0 (l.take k) x0 = ma := by rw [hT]; exact (mst_eq (c := 0) hl0 HE0.out).symm.trans Ema.out
      have e1 : leastC 1 (l.take k) y0 = lb := by rw [hT]; exact (lst_eq (c := 1) hl0 HE0.out).symm.trans Elb.out
      have f1 : mostCs 1 (l.take k) y0 = mb := by rw [hT]; exact (mst_eq (c := 1) hl0 HE0.out).symm.trans Emb.out
      have e2 : leastC 2 (l.take k) z0 = lc := by rw [hT]; exact (lst_eq (c := 2) hl0 HE0.out).symm.trans Elc.out
      have f2 : mostCs 2 (l.take k) z0 = mc := by rw [hT]; exact (mst_eq (c := 2) hl0 HE0.out).symm.trans Emc.out
      rw [e0, e1, e2, f0, f1, f2] at HS0
      clear e0 e1 e2 f0 f1 f2
      clear hT
      go_wp2_with fail
      go_loopw [43] (fun o wq => ∃ j : Nat, j ≤ 3 ∧ o = .int .i64 (j : Int) ∧ Hid (Spr N w m la lb lc (if 0 < j then (W0 : Int) else 0) (if 1 < j then (W1 : Int) else 0) (if 2 < j then (W2 : Int) else 0) ma mb mc wq)) (fun o _ => 3 - (intOf o).toNat)
      case atStart => exact ⟨0, by omega, rfl, HS0⟩
      case round =>
        obtain ⟨j, hj, rfl, S⟩ := hrel
        have hcs : j = 0 ∨ j = 1 ∨ j = 2 ∨ j = 3 := by omega
        rcases hcs with hj1 | hj1 | hj1 | hj1
        · obtain rfl : j = 0 := by omega
          obtain ⟨r0, r1, r2⟩ := S.out.2.1.cells
          obtain ⟨u0, u1, u2⟩ := S.out.2.2.2.1.cells
          obtain ⟨q0, q1, q2⟩ := S.out.2.2.1.free
          obtain ⟨s0, s1, s2⟩ := S.out.2.2.1.cells
          have S2 := Lib.hid ((S.out.drewN 1).w0 (W0 : Nat))
          go_wp2_with fail
          have g1 := G0.out
          go_still_tail 10, (by kernel_rfl)
          still_call (same_q (PN0.out _))
          repeat still_step
          refine wpStill_nil ?_
          clear g1
          go_wp2
          go_roundw
          case rel => exact ⟨1, by omega, by go_num, S2⟩
          case measure => simp [intOf]
        · obtain rfl : j = 1 := by omega
          obtain ⟨r0, r1, r2⟩ := S.out.2.1.cells
          obtain ⟨u0, u1, u2⟩ := S.out.2.2.2.1.cells
          obtain ⟨q0, q1, q2⟩ := S.out.2.2.1.free
          obtain ⟨s0, s1, s2⟩ := S.out.2.2.1.cells
          have S2 := Lib.hid ((S.out.drewN 1).w1 (W1 : Nat))
          go_wp2_with fail
          have g1 := G1.out
          go_still_tail 10, (by kernel_rfl)
          still_call (same_q (PN1.out _))
          repeat still_step
          refine wpStill_nil ?_
          clear g1
          go_wp2
          go_roundw
          case rel => exact ⟨2, by omega, by go_num, S2⟩
          case measure => simp [intOf]
        · obtain rfl : j = 2 := by omega
          obtain ⟨r0, r1, r2⟩ := S.out.2.1.cells
          obtain ⟨u0, u1, u2⟩ := S.out.2.2.2.1.cells
          obtain ⟨q0, q1, q2⟩ := S.out.2.2.1.free
          obtain ⟨s0, s1, s2⟩ := S.out.2.2.1.cells
          have S2 := Lib.hid ((S.out.drewN 1).w2 (W2 : Nat))
          go_wp2_with fail
          have g1 := G2.out
          go_still_tail 10, (by kernel_rfl)
          still_call (same_q (PN2.out _))
          repeat still_step
          refine wpStill_nil ?_
          clear g1
          go_wp2
          go_roundw
          case rel => exact ⟨3, by omega, by go_num, S2⟩
          case measure => simp [intOf]
        · obtain rfl : j = 3 := by omega
          have S3 := Lib.hid (show Spr N w m la lb lc (W0 : Int) (W1 : Int) (W2 : Int) ma mb mc wr from S.out)
          obtain ⟨r0, r1, r2⟩ := S3.out.2.1.cells
          obtain ⟨u0, u1, u2⟩ := S3.out.2.2.1.cells
          obtain ⟨q0, q1, q2⟩ := S3.out.2.2.1.free
          obtain ⟨s0, s1, s2⟩ := S3.out.2.1.free
          go_wp2_with fail
          go_region
          have S4 := Lib.hid ((((((S3.out.l0 la).l1 lb).l2 lc).w0 (W0 : Nat)).w1 (W1 : Nat)).w2 (W2 : Nat) |>.drewN 1)
          generalize hz : World.drew _ = wz
          have S5 := Lib.hid (show Spr N w m la lb lc (W0 : Int) (W1 : Int) (W2 : Int) ma mb mc wz by rw [← hz]; exact S4.out)
          clear hz S4 r0 r1 r2 u0 u1 u2 q0 q1 q2 s0 s1 s2
          obtain ⟨d0, d1, d2⟩ := S5.out.2.1.cells
          obtain ⟨g0, g1, g2⟩ := S5.out.2.2.1.cells
          go_wp2_with fail
          exact bodyPost_ret (v := .tuple #[.agg #[.int .i64 la, .int .i64 lb, .int .i64 lc], .agg #[.int .i64 (W0 : Nat), .int .i64 (W1 : Nat), .int .i64 (W2 : Nat)]]) (by simp [results, Try.results44, go_sem, d0, d1, d2, g0, g1, g2]) rfl ⟨rfl, S5.out.1⟩
end Go.Proofs.Ytkcnhdponcbjaaa
