/-
  matrix, the document's: Object.
-/
import Derived.Test.YthihmbicalacfaaMatRh
import Derived.Test.YthihmbicalacfaaRgDet
namespace Go.Proofs.Ythihmbicalacfaa
open Go.RowKit Fix Mat

/-- The object at R is there, all else is as it was. -/
def ObS (V : World) (R : Nat) (W : World) : Prop := V.grownBy W (some R) ∧ ∃ u0 u1 u2 u3 u4 u5, Blk W R 31 #[u0, u1, u2, u3, u4, u5]
theorem ObS.keep {V : World} {R : Nat} {W W' : World} (h : ObS V R W) (hb : Below W.heap.size W W') : ObS V R W' := by
  obtain ⟨hg, u0, u1, u2, u3, u4, u5, hu⟩ := h
  exact ⟨hg.trans ⟨hb.os, hb.tape, hb.output, hb.size, fun k hk _ => hb.block k hk⟩, u0, u1, u2, u3, u4, u5, hu.below hb hu.lt⟩
theorem ObS.blk {V : World} {N R : Nat} {W : World} (h : ObS V R W) (hne : N ≠ R) {t : TypeId} {cs : Array Value} (hb : Blk V N t cs) : Blk W N t cs := hb.grown h.1 (by simpa using hne)
theorem below_of_grown {w V W : World} {N R : Nat} (h : Below N w V) (hg : V.grownBy W (some R)) (hN : N ≤ R) (hlt : ∀ k, k < N → k < V.heap.size) : Below N w W :=
  ⟨hg.os.trans h.os, hg.tape.trans h.tape, hg.output.trans h.output, Nat.le_trans h.size hg.size, fun k hk => (hg.block k (hlt k hk) (by simp; omega)).trans (h.block k hk)⟩
theorem ObS.alloc {V : World} {R : Nat} {W : World} (h : ObS V R W) (o : Obj) : ObS V R (W.alloc o) := h.keep ((Below.refl _ W).alloc (Nat.le_refl _) o)
theorem row_new (W : World) (l : List (Int × Int)) (c : List Value) (hc : obC l = c) : ORow (W.alloc (.cells c.toArray 31)) W.heap.size l := fun j u hu => by
  rw [hc] at hu
  rw [(Blk.new W 31 c.toArray).cell j]
  simpa using hu
theorem ObS.opened {V : World} {R : Nat} {W : World} (h : ObS V R W) : ∃ u : Nat → Value,
    (W.cell? ⟨R, 0, none⟩ = some (u 0) ∧ W.cell? ⟨R, 1, none⟩ = some (u 1) ∧ W.cell? ⟨R, 2, none⟩ = some (u 2) ∧ W.cell? ⟨R, 3, none⟩ = some (u 3) ∧ W.cell? ⟨R, 4, none⟩ = some (u 4) ∧ W.cell? ⟨R, 5, none⟩ = some (u 5)) ∧
    (W.frozen? ⟨R, 0, none⟩ = false ∧ W.frozen? ⟨R, 1, none⟩ = false ∧ W.frozen? ⟨R, 2, none⟩ = false ∧ W.frozen? ⟨R, 3, none⟩ = false ∧ W.frozen? ⟨R, 4, none⟩ = false ∧ W.frozen? ⟨R, 5, none⟩ = false) ∧
    ∀ x0 x1 x2 x3 x4 x5 : Value, ObS V R ((((((W.setCell ⟨R, 0, none⟩ x0).setCell ⟨R, 1, none⟩ x1).setCell ⟨R, 2, none⟩ x2).setCell ⟨R, 3, none⟩ x3).setCell ⟨R, 4, none⟩ x4).setCell ⟨R, 5, none⟩ x5) := by
  obtain ⟨hg, u0, u1, u2, u3, u4, u5, hu⟩ := h
  obtain ⟨hc, hf⟩ := six_cells hu
  refine ⟨fun k => match k with | 0 => u0 | 1 => u1 | 2 => u2 | 3 => u3 | 4 => u4 | _ => u5, hc, hf, fun x0 x1 x2 x3 x4 x5 => ?_⟩
  exact ⟨grown_set (grown_set (grown_set (grown_set (grown_set (grown_set hg 0 _) 1 _) 2 _) 3 _) 4 _) 5 _, _, _, _, _, _, _, (((((hu.set_ 0 _).set_ 1 _).set_ 2 _).set_ 3 _).set_ 4 _).set_ 5 _⟩
/-- The region's books as literals. -/
theorem wpAnyH_norm {P : Program} {md : Region.Mode} {ops : Array Oper} {Q : Exit → Act → World → Prop} {S : World → Prop} {fuel f' : Nat} {listed l' : Array Bool} {a : Act} {w : World} (hl : listed = l') (hf : fuel = f') (h : wpAnyH P md ops Q S f' l' a w) : wpAnyH P md ops Q S fuel listed a w := by subst hl hf; exact h
theorem obC_six (m : Mx) : obC (objW m 6) = [.int .i64 (kindU m.a), .int .i64 (numW m.a), .int .i64 0, .string ⟨#[]⟩, .slice none 0 0, .slice none 0 0, .int .i64 (kindU m.b), .int .i64 (numW m.b), .int .i64 0, .string ⟨#[]⟩, .slice none 0 0, .slice none 0 0, .int .i64 (kindU m.c), .int .i64 (numW m.c), .int .i64 0, .string ⟨#[]⟩, .slice none 0 0, .slice none 0 0, .int .i64 (kindU m.d), .int .i64 (numW m.d), .int .i64 0, .string ⟨#[]⟩, .slice none 0 0, .slice none 0 0, .int .i64 (kindU m.e), .int .i64 (numW m.e), .int .i64 0, .string ⟨#[]⟩, .slice none 0 0, .slice none 0 0, .int .i64 (kindU m.f), .int .i64 (numW m.f), .int .i64 0, .string ⟨#[]⟩, .slice none 0 0, .slice none 0 0] := rfl

set_option maxRecDepth 100000 in
set_option maxHeartbeats 16000000 in
theorem object42 (m : Mx) (w : World) :
    Calls Try.prog 31 #[mxV m] w fun e w' => ∃ g c', e = .returned (.agg #[.int .i64 6, .int .i64 0, .int .i64 0, .string ⟨#[]⟩, .slice none 0 0, .slice (some ⟨g, 0, none⟩) 6 c']) ∧ ORow w' g (objW m 6) ∧ w.heap.size ≤ g ∧ Below w.heap.size w w' := by
  unfold mxV
  obtain ⟨N, hN⟩ : ∃ N, w.heap.size = N := ⟨_, rfl⟩
  obtain ⟨R, hR⟩ : ∃ R, N + 1 = R := ⟨_, rfl⟩
  obtain ⟨V, hV⟩ : ∃ V, (w.alloc (.cells #[.int .i64 m.a, .int .i64 m.b, .int .i64 m.c, .int .i64 m.d, .int .i64 m.e, .int .i64 m.f] 23)).alloc (.cells #[.int .i64 0, .int .i64 0, .int .i64 0, .string ⟨#[]⟩, .slice none 0 0, .slice none 0 0] 31) = V := ⟨_, rfl⟩
  have hVs : V.heap.size = R + 1 := by rw [← hV]; simp [hN]; omega
  have bA : Blk V N 23 #[.int .i64 m.a, .int .i64 m.b, .int .i64 m.c, .int .i64 m.d, .int .i64 m.e, .int .i64 m.f] := by
    rw [← hV, ← hN]
    exact (Blk.new w _ _).alloc _
  have bB : Blk V R 31 #[.int .i64 0, .int .i64 0, .int .i64 0, .string ⟨#[]⟩, .slice none 0 0, .slice none 0 0] := by
    rw [← hV]
    have := Blk.new (w.alloc (.cells #[.int .i64 m.a, .int .i64 m.b, .int .i64 m.c, .int .i64 m.d, .int .i64 m.e, .int .i64 m.f] 23)) 31 #[.int .i64 0, .int .i64 0, .int .i64 0, .string ⟨#[]⟩, .slice none 0 0, .slice none 0 0]
    rw [World.size_alloc, hN, hR] at this
    exact this
  have HBV := Lib.hid (show Below N w V by rw [← hV, ← hN]; exact ((Below.refl _ w).alloc (Nat.le_refl _) _).alloc (by simp) _)
  have HA := Lib.hid bA
  have HNR := Lib.hid (show N ≠ R ∧ N ≤ R ∧ R < V.heap.size by omega)
  have HL : Hid (∀ W, ObS V R W → (W.cell? ⟨N, 0, none⟩ = some (.int .i64 m.a) ∧ W.cell? ⟨N, 1, none⟩ = some (.int .i64 m.b) ∧ W.cell? ⟨N, 2, none⟩ = some (.int .i64 m.c) ∧ W.cell? ⟨N, 3, none⟩ = some (.int .i64 m.d) ∧ W.cell? ⟨N, 4, none⟩ = some (.int .i64 m.e) ∧ W.cell? ⟨N, 5, none⟩ = some (.int .i64 m.f))) := Lib.hid (fun W h => (six_cells (h.blk HNR.out.1 HA.out)).1)
  have hS0 : ObS V R V.drew := ⟨⟨rfl, rfl, rfl, Nat.le_refl _, fun _ _ _ => rfl⟩, _, _, _, _, _, _, bB.drewN 1⟩
  obtain ⟨k0, hk0⟩ : ∃ k, kindU m.a = k := ⟨_, rfl⟩
  obtain ⟨n0, hn0⟩ : ∃ n, numW m.a = n := ⟨_, rfl⟩
  have HN0 : Hid (∀ W, Calls Try.prog 54 #[.int .i64 m.a] W fun e w' => e = .returned (.agg #[.int .i64 k0, .int .i64 n0, .int .i64 0, .string ⟨#[]⟩, .slice none 0 0, .slice none 0 0]) ∧ Below W.heap.size W w') := Lib.hid (fun W => by have h := num42 m.a W; rw [hk0, hn0] at h; exact h)
  obtain ⟨k1, hk1⟩ : ∃ k, kindU m.b = k := ⟨_, rfl⟩
  obtain ⟨n1, hn1⟩ : ∃ n, numW m.b = n := ⟨_, rfl⟩
  have HN1 : Hid (∀ W, Calls Try.prog 54 #[.int .i64 m.b] W fun e w' => e = .returned (.agg #[.int .i64 k1, .int .i64 n1, .int .i64 0, .string ⟨#[]⟩, .slice none 0 0, .slice none 0 0]) ∧ Below W.heap.size W w') := Lib.hid (fun W => by have h := num42 m.b W; rw [hk1, hn1] at h; exact h)
  obtain ⟨k2, hk2⟩ : ∃ k, kindU m.c = k := ⟨_, rfl⟩
  obtain ⟨n2, hn2⟩ : ∃ n, numW m.c = n := ⟨_, rfl⟩
  have HN2 : Hid (∀ W, Calls Try.prog 54 #[.int .i64 m.c] W fun e w' => e = .returned (.agg #[.int .i64 k2, .int .i64 n2, .int .i64 0, .string ⟨#[]⟩, .slice none 0 0, .slice none 0 0]) ∧ Below W.heap.size W w') := Lib.hid (fun W => by have h := num42 m.c W; rw [hk2, hn2] at h; exact h)
  obtain ⟨k3, hk3⟩ : ∃ k, kindU m.d = k := ⟨_, rfl⟩
  obtain ⟨n3, hn3⟩ : ∃ n, numW m.d = n := ⟨_, rfl⟩
  have HN3 : Hid (∀ W, Calls Try.prog 54 #[.int .i64 m.d] W fun e w' => e = .returned (.agg #[.int .i64 k3, .int .i64 n3, .int .i64 0, .string ⟨#[]⟩, .slice none 0 0, .slice none 0 0]) ∧ Below W.heap.size W w') := Lib.hid (fun W => by have h := num42 m.d W; rw [hk3, hn3] at h; exact h)
  obtain ⟨k4, hk4⟩ : ∃ k, kindU m.e = k := ⟨_, rfl⟩
  obtain ⟨n4, hn4⟩ : ∃ n, numW m.e = n := ⟨_, rfl⟩
  have HN4 : Hid (∀ W, Calls Try.prog 54 #[.int .i64 m.e] W fun e w' => e = .returned (.agg #[.int .i64 k4, .int .i64 n4, .int .i64 0, .string ⟨#[]⟩, .slice none 0 0, .slice none 0 0]) ∧ Below W.heap.size W w') := Lib.hid (fun W => by have h := num42 m.e W; rw [hk4, hn4] at h; exact h)
  obtain ⟨k5, hk5⟩ : ∃ k, kindU m.f = k := ⟨_, rfl⟩
  obtain ⟨n5, hn5⟩ : ∃ n, numW m.f = n := ⟨_, rfl⟩
  have HN5 : Hid (∀ W, Calls Try.prog 54 #[.int .i64 m.f] W fun e w' => e = .returned (.agg #[.int .i64 k5, .int .i64 n5, .int .i64 0, .string ⟨#[]⟩, .slice none 0 0, .slice none 0 0]) ∧ Below W.heap.size W w') := Lib.hid (fun W => by have h := num42 m.f W; rw [hk5, hn5] at h; exact h)
  have HOb : Hid (∀ W : World, ORow (W.alloc (.cells #[.int .i64 k0, .int .i64 n0, .int .i64 0, .string ⟨#[]⟩, .slice none 0 0, .slice none 0 0, .int .i64 k1, .int .i64 n1, .int .i64 0, .string ⟨#[]⟩, .slice none 0 0, .slice none 0 0, .int .i64 k2, .int .i64 n2, .int .i64 0, .string ⟨#[]⟩, .slice none 0 0, .slice none 0 0, .int .i64 k3, .int .i64 n3, .int .i64 0, .string ⟨#[]⟩, .slice none 0 0, .slice none 0 0, .int .i64 k4, .int .i64 n4, .int .i64 0, .string ⟨#[]⟩, .slice none 0 0, .slice none 0 0, .int .i64 k5, .int .i64 n5, .int .i64 0, .string ⟨#[]⟩, .slice none 0 0, .slice none 0 0] 31)) W.heap.size (objW m 6)) := Lib.hid (fun W => row_new W (objW m 6) [.int .i64 k0, .int .i64 n0, .int .i64 0, .string ⟨#[]⟩, .slice none 0 0, .slice none 0 0, .int .i64 k1, .int .i64 n1, .int .i64 0, .string ⟨#[]⟩, .slice none 0 0, .slice none 0 0, .int .i64 k2, .int .i64 n2, .int .i64 0, .string ⟨#[]⟩, .slice none 0 0, .slice none 0 0, .int .i64 k3, .int .i64 n3, .int .i64 0, .string ⟨#[]⟩, .slice none 0 0, .slice none 0 0, .int .i64 k4, .int .i64 n4, .int .i64 0, .string ⟨#[]⟩, .slice none 0 0, .slice none 0 0, .int .i64 k5, .int .i64 n5, .int .i64 0, .string ⟨#[]⟩, .slice none 0 0, .slice none 0 0] (by rw [obC_six, hk0, hn0, hk1, hn1, hk2, hn2, hk3, hn3, hk4, hn4, hk5, hn5]))
  clear hk0 hn0 hk1 hn1 hk2 hn2 hk3 hn3 hk4 hn4 hk5 hn5
  rw [hN]
  go_enter Try.func31, Try.ntmps31
  go_upto_region 1 with fail
  clear bA bB hV hN hVs hR
  refine wp_region_held_drew (S := ObS V R) (by kernel_rfl) hS0 (fun hHeld => ?_)
  obtain ⟨U, hU⟩ : ∃ U, V.drew = U := ⟨_, rfl⟩
  rw [hU] at hHeld
  rw [hU]
  clear hU hS0
  refine wpAnyH_take (i := 0) (v := ?v0) rfl (by kernel_rfl) (by kernel_rfl) (by kernel_rfl) (fun _ _ _ h => h) (Or.inl ⟨by rfl, ?hy0⟩) hHeld ?rest0
  case hy0 => (intro w hSw; obtain ⟨s0, s1, s2, s3, s4, s5⟩ := HL.out w hSw; go_simp; first | done | with_reducible rfl)
  case' rest0 =>
    try simp only [Act.put, List.setIfInBounds_toArray]
  refine wpAnyH_take (i := 1) (v := ?v1) rfl (by kernel_rfl) (by kernel_rfl) (by kernel_rfl) (fun _ _ _ h => h) (Or.inl ⟨by rfl, ?hy1⟩) hHeld ?rest1
  case hy1 => (intro w hSw; obtain ⟨s0, s1, s2, s3, s4, s5⟩ := HL.out w hSw; go_simp; first | done | with_reducible rfl)
  case' rest1 =>
    try simp only [Act.put]
  refine wpAnyH_take (i := 3) (v := ?v2) rfl (by kernel_rfl) (by kernel_rfl) (by kernel_rfl) (fun _ _ _ h => h) (Or.inl ⟨by rfl, ?hy2⟩) hHeld ?rest2
  case hy2 => (intro w hSw; obtain ⟨s0, s1, s2, s3, s4, s5⟩ := HL.out w hSw; go_simp; first | done | with_reducible rfl)
  case' rest2 =>
    try simp only [Act.put]
  refine wpAnyH_take (i := 4) (v := ?v3) rfl (by kernel_rfl) (by kernel_rfl) (by kernel_rfl) (fun _ _ _ h => h) (Or.inl ⟨by rfl, ?hy3⟩) hHeld ?rest3
  case hy3 => (intro w hSw; obtain ⟨s0, s1, s2, s3, s4, s5⟩ := HL.out w hSw; go_simp; first | done | with_reducible rfl)
  case' rest3 =>
    try simp only [Act.put]
  refine wpAnyH_take (i := 6) (v := ?v4) rfl (by kernel_rfl) (by kernel_rfl) (by kernel_rfl) (fun _ _ _ h => h) (Or.inl ⟨by rfl, ?hy4⟩) hHeld ?rest4
  case hy4 => (intro w hSw; obtain ⟨s0, s1, s2, s3, s4, s5⟩ := HL.out w hSw; go_simp; first | done | with_reducible rfl)
  case' rest4 =>
    try simp only [Act.put]
  refine wpAnyH_take (i := 7) (v := ?v5) rfl (by kernel_rfl) (by kernel_rfl) (by kernel_rfl) (fun _ _ _ h => h) (Or.inl ⟨by rfl, ?hy5⟩) hHeld ?rest5
  case hy5 => (intro w hSw; obtain ⟨s0, s1, s2, s3, s4, s5⟩ := HL.out w hSw; go_simp; first | done | with_reducible rfl)
  case' rest5 =>
    try simp only [Act.put]
  refine wpAnyH_take (i := 9) (v := ?v6) rfl (by kernel_rfl) (by kernel_rfl) (by kernel_rfl) (fun _ _ _ h => h) (Or.inl ⟨by rfl, ?hy6⟩) hHeld ?rest6
  case hy6 => (intro w hSw; obtain ⟨s0, s1, s2, s3, s4, s5⟩ := HL.out w hSw; go_simp; first | done | with_reducible rfl)
  case' rest6 =>
    try simp only [Act.put]
  refine wpAnyH_take (i := 10) (v := ?v7) rfl (by kernel_rfl) (by kernel_rfl) (by kernel_rfl) (fun _ _ _ h => h) (Or.inl ⟨by rfl, ?hy7⟩) hHeld ?rest7
  case hy7 => (intro w hSw; obtain ⟨s0, s1, s2, s3, s4, s5⟩ := HL.out w hSw; go_simp; first | done | with_reducible rfl)
  case' rest7 =>
    try simp only [Act.put]
  refine wpAnyH_take (i := 12) (v := ?v8) rfl (by kernel_rfl) (by kernel_rfl) (by kernel_rfl) (fun _ _ _ h => h) (Or.inl ⟨by rfl, ?hy8⟩) hHeld ?rest8
  case hy8 => (intro w hSw; obtain ⟨s0, s1, s2, s3, s4, s5⟩ := HL.out w hSw; go_simp; first | done | with_reducible rfl)
  case' rest8 =>
    try simp only [Act.put]
  refine wpAnyH_take (i := 13) (v := ?v9) rfl (by kernel_rfl) (by kernel_rfl) (by kernel_rfl) (fun _ _ _ h => h) (Or.inl ⟨by rfl, ?hy9⟩) hHeld ?rest9
  case hy9 => (intro w hSw; obtain ⟨s0, s1, s2, s3, s4, s5⟩ := HL.out w hSw; go_simp; first | done | with_reducible rfl)
  case' rest9 =>
    try simp only [Act.put]
  refine wpAnyH_take (i := 15) (v := ?v10) rfl (by kernel_rfl) (by kernel_rfl) (by kernel_rfl) (fun _ _ _ h => h) (Or.inl ⟨by rfl, ?hy10⟩) hHeld ?rest10
  case hy10 => (intro w hSw; obtain ⟨s0, s1, s2, s3, s4, s5⟩ := HL.out w hSw; go_simp; first | done | with_reducible rfl)
  case' rest10 =>
    try simp only [Act.put]
  refine wpAnyH_take (i := 16) (v := ?v11) rfl (by kernel_rfl) (by kernel_rfl) (by kernel_rfl) (fun _ _ _ h => h) (Or.inl ⟨by rfl, ?hy11⟩) hHeld ?rest11
  case hy11 => (intro w hSw; obtain ⟨s0, s1, s2, s3, s4, s5⟩ := HL.out w hSw; go_simp; first | done | with_reducible rfl)
  case' rest11 =>
    try simp only [Act.put]
  refine wpAnyH_norm (l' := #[true, true, false, true, true, false, true, true, false, true, true, false, true, true, false, true, true, false, false, false, false]) (f' := 9) (by kernel_rfl) (by kernel_rfl) ?_
  refine DetAll.run (T := 18) _ _ _ ?_ _ hHeld
  clear hHeld
  refine DetAll.call (i := 2) (v := .agg #[.int .i64 k0, .int .i64 n0, .int .i64 0, .string ⟨#[]⟩, .slice none 0 0, .slice none 0 0]) rfl (by kernel_rfl) (by kernel_rfl) (by kernel_rfl) (by kernel_rfl) (by kernel_rfl) ?cy0 ?cr0
  case cy0 => exact fun W hSw => ⟨54, #[.int .i64 m.a], by kernel_rfl, (HN0.out W).mono (fun e w' h => ⟨h.1, hSw.keep h.2⟩)⟩
  case' cr0 =>
    try simp only [Act.put, List.setIfInBounds_toArray, List.set_cons_zero, List.set_cons_succ]
  refine DetAll.call (i := 5) (v := .agg #[.int .i64 k1, .int .i64 n1, .int .i64 0, .string ⟨#[]⟩, .slice none 0 0, .slice none 0 0]) rfl (by kernel_rfl) (by kernel_rfl) (by kernel_rfl) (by kernel_rfl) (by kernel_rfl) ?cy1 ?cr1
  case cy1 => exact fun W hSw => ⟨54, #[.int .i64 m.b], by kernel_rfl, (HN1.out W).mono (fun e w' h => ⟨h.1, hSw.keep h.2⟩)⟩
  case' cr1 =>
    try simp only [Act.put, List.setIfInBounds_toArray, List.set_cons_zero, List.set_cons_succ]
  refine DetAll.call (i := 8) (v := .agg #[.int .i64 k2, .int .i64 n2, .int .i64 0, .string ⟨#[]⟩, .slice none 0 0, .slice none 0 0]) rfl (by kernel_rfl) (by kernel_rfl) (by kernel_rfl) (by kernel_rfl) (by kernel_rfl) ?cy2 ?cr2
  case cy2 => exact fun W hSw => ⟨54, #[.int .i64 m.c], by kernel_rfl, (HN2.out W).mono (fun e w' h => ⟨h.1, hSw.keep h.2⟩)⟩
  case' cr2 =>
    try simp only [Act.put, List.setIfInBounds_toArray, List.set_cons_zero, List.set_cons_succ]
  refine DetAll.call (i := 11) (v := .agg #[.int .i64 k3, .int .i64 n3, .int .i64 0, .string ⟨#[]⟩, .slice none 0 0, .slice none 0 0]) rfl (by kernel_rfl) (by kernel_rfl) (by kernel_rfl) (by kernel_rfl) (by kernel_rfl) ?cy3 ?cr3
  case cy3 => exact fun W hSw => ⟨54, #[.int .i64 m.d], by kernel_rfl, (HN3.out W).mono (fun e w' h => ⟨h.1, hSw.keep h.2⟩)⟩
  case' cr3 =>
    try simp only [Act.put, List.setIfInBounds_toArray, List.set_cons_zero, List.set_cons_succ]
  refine DetAll.call (i := 14) (v := .agg #[.int .i64 k4, .int .i64 n4, .int .i64 0, .string ⟨#[]⟩, .slice none 0 0, .slice none 0 0]) rfl (by kernel_rfl) (by kernel_rfl) (by kernel_rfl) (by kernel_rfl) (by kernel_rfl) ?cy4 ?cr4
  case cy4 => exact fun W hSw => ⟨54, #[.int .i64 m.e], by kernel_rfl, (HN4.out W).mono (fun e w' h => ⟨h.1, hSw.keep h.2⟩)⟩
  case' cr4 =>
    try simp only [Act.put, List.setIfInBounds_toArray, List.set_cons_zero, List.set_cons_succ]
  refine DetAll.call (i := 17) (v := .agg #[.int .i64 k5, .int .i64 n5, .int .i64 0, .string ⟨#[]⟩, .slice none 0 0, .slice none 0 0]) rfl (by kernel_rfl) (by kernel_rfl) (by kernel_rfl) (by kernel_rfl) (by kernel_rfl) ?cy5 ?cr5
  case cy5 => exact fun W hSw => ⟨54, #[.int .i64 m.f], by kernel_rfl, (HN5.out W).mono (fun e w' h => ⟨h.1, hSw.keep h.2⟩)⟩
  case' cr5 =>
    try simp only [Act.put, List.setIfInBounds_toArray, List.set_cons_zero, List.set_cons_succ]
  refine DetAll.leaf (by kernel_rfl) (fun W3 hS3 => ?_)
  refine wpAnyH_norm (l' := #[true, true, true, true, true, true, true, true, true, true, true, true, true, true, true, true, true, true, false, false, false]) (f' := 3) (by kernel_rfl) (by kernel_rfl) ?_
  refine Exists.elim (⟨_, rfl⟩ : ∃ G, W3.heap.size = G) (fun G hG => ?_)
  refine Exists.elim (⟨_, rfl⟩ : ∃ X, W3.alloc (.cells #[.int .i64 k0, .int .i64 n0, .int .i64 0, .string ⟨#[]⟩, .slice none 0 0, .slice none 0 0, .int .i64 k1, .int .i64 n1, .int .i64 0, .string ⟨#[]⟩, .slice none 0 0, .slice none 0 0, .int .i64 k2, .int .i64 n2, .int .i64 0, .string ⟨#[]⟩, .slice none 0 0, .slice none 0 0, .int .i64 k3, .int .i64 n3, .int .i64 0, .string ⟨#[]⟩, .slice none 0 0, .slice none 0 0, .int .i64 k4, .int .i64 n4, .int .i64 0, .string ⟨#[]⟩, .slice none 0 0, .slice none 0 0, .int .i64 k5, .int .i64 n5, .int .i64 0, .string ⟨#[]⟩, .slice none 0 0, .slice none 0 0] 31) = X) (fun U3 hU3 => ?_)
  have HS4 : Hid (ObS V R U3) := Lib.hid (by rw [← hU3]; exact hS3.alloc _)
  have HG : Hid (ORow U3 G (objW m 6) ∧ V.heap.size ≤ G) := Lib.hid ⟨by have h := HOb.out W3; rw [hU3, hG] at h; exact h, by rw [← hG]; exact hS3.1.size⟩
  refine wpAnyH_ready (rs := [18]) (by kernel_rfl) (by simp) ?_
  refine AllReadyH.cons rfl (fun K hK => ?_) AllReadyH.nil
  go_simp
  refine hK.out _ _ (by first | exact HS4.out | (rw [hU3]; exact HS4.out)) (fun hHeld => ?_)
  try rw [hU3]
  try rw [hG]
  try rw [hU3] at hHeld
  clear hK K hG hU3 hS3
  refine wpAnyH_take (i := 19) (v := ?v90) rfl (by kernel_rfl) (by kernel_rfl) (by kernel_rfl) (fun _ _ _ h => h) (Or.inl ⟨by rfl, ?hy90⟩) hHeld ?rest90
  case hy90 => (intro w hSw; go_simp; first | done | with_reducible rfl)
  case' rest90 =>
    try simp only [Act.put, List.setIfInBounds_toArray, List.set_cons_zero, List.set_cons_succ]
  refine wpAnyH_ready (rs := [20]) (by kernel_rfl) (by simp) ?_
  refine AllReadyH.cons rfl (fun K hK => ?_) AllReadyH.nil
  clear hHeld
  refine Exists.elim HS4.out.opened (fun u hu => ?_)
  have c0 := hu.1.1
  have c1 := hu.1.2.1
  have c2 := hu.1.2.2.1
  have c3 := hu.1.2.2.2.1
  have c4 := hu.1.2.2.2.2.1
  have c5 := hu.1.2.2.2.2.2
  have f0 := hu.2.1.1
  have f1 := hu.2.1.2.1
  have f2 := hu.2.1.2.2.1
  have f3 := hu.2.1.2.2.2.1
  have f4 := hu.2.1.2.2.2.2.1
  have f5 := hu.2.1.2.2.2.2.2
  have HS5 := Lib.hid (hu.2.2 (.int .i64 6) (.int .i64 0) (.int .i64 0) (.string ⟨#[]⟩) (.slice none 0 0) (.slice (some ⟨G, 0, none⟩) 6 6))
  clear hu
  go_simp
  refine hK.out _ _ HS5.out (fun hHeld => ?_)
  clear hK K hHeld
  refine wpAnyH_done (by kernel_rfl) ?_ _
  go_wp2_with fail
  have hGR : G ≠ R := by have := HG.out.2; have := HNR.out.2.2; omega
  refine bodyPost_ret (v := .agg #[.int .i64 6, .int .i64 0, .int .i64 0, .string ⟨#[]⟩, .slice none 0 0, .slice (some ⟨G, 0, none⟩) 6 6]) (by simp [results, Try.results31, go_sem, c0, c1, c2, c3, c4, c5]) rfl ?_
  exact ⟨G, ⟨6, rfl⟩, (((((HG.out.1.far (p := ⟨R, 0, none⟩) hGR _).far (p := ⟨R, 1, none⟩) hGR _).far (p := ⟨R, 2, none⟩) hGR _).far (p := ⟨R, 3, none⟩) hGR _).far (p := ⟨R, 4, none⟩) hGR _).far (p := ⟨R, 5, none⟩) hGR _, by have := HG.out.2; have := HNR.out; omega, below_of_grown HBV.out HS5.out.1 HNR.out.2.1 (fun k hk => by have := HNR.out; omega)⟩
end Go.Proofs.Ythihmbicalacfaa
