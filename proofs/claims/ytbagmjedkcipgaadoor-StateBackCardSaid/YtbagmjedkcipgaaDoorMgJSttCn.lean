/-
  Lemmas and walks, joined: SttCn, SttCf.
-/
import Derived.Test.YtbagmjedkcipgaaDoorMgSttCm
import Derived.Deep.RegionWith
namespace Go.Proofs.YtbagmjedkcipgaaDoor
open Go.RowKit Mat

set_option maxRecDepth 100000 in
theorem valueM_ok (a b c d e f : Int) (w : World) : Calls Tryd.prog 33 #[mxV ⟨a, b, c, d, e, f⟩, .int .i64 0] w fun e' w' => e' = .returned (mxV ⟨a, b, c, d, e, f⟩) ∧ Below w.heap.size w w' := by
  obtain ⟨U, hU⟩ : ∃ U, (w.alloc (.cells #[.int .i64 a, .int .i64 b, .int .i64 c, .int .i64 d, .int .i64 e, .int .i64 f] 23)).alloc (.cells #[.int .i64 0, .int .i64 0, .int .i64 0, .int .i64 0, .int .i64 0, .int .i64 0] 23) = U := ⟨_, rfl⟩
  have b0 : Blk U w.heap.size 23 #[.int .i64 a, .int .i64 b, .int .i64 c, .int .i64 d, .int .i64 e, .int .i64 f] := by rw [← hU]; exact (Blk.new w _ _).alloc _
  have b1 : Blk U (w.heap.size + 1) 23 #[.int .i64 0, .int .i64 0, .int .i64 0, .int .i64 0, .int .i64 0, .int .i64 0] := by
    rw [← hU]
    have := Blk.new (w.alloc (.cells #[.int .i64 a, .int .i64 b, .int .i64 c, .int .i64 d, .int .i64 e, .int .i64 f] 23)) 23 #[.int .i64 0, .int .i64 0, .int .i64 0, .int .i64 0, .int .i64 0, .int .i64 0]
    rw [World.size_alloc] at this
    exact this
  have hB : Below w.heap.size w U := by rw [← hU]; exact ((Below.refl _ w).alloc (Nat.le_refl _) _).alloc (by simp) _
  have HU := Lib.hid (And.intro hU (And.intro b0 (And.intro b1 hB)))
  unfold mxV
  clear hU b0 b1 hB
  go_enter Tryd.func33, Tryd.ntmps33
  go_wp2_with fail
  rw [HU.out.1]
  refine (upOn_ok _).mono ?_
  rintro e' w1 ⟨rfl, rfl⟩
  have c0 := HU.out.2.1.cell 0
  have d0 := HU.out.2.2.1.cell 0
  have g0 := HU.out.2.2.1.frozen 0
  have c1 := HU.out.2.1.cell 1
  have d1 := HU.out.2.2.1.cell 1
  have g1 := HU.out.2.2.1.frozen 1
  have c2 := HU.out.2.1.cell 2
  have d2 := HU.out.2.2.1.cell 2
  have g2 := HU.out.2.2.1.frozen 2
  have c3 := HU.out.2.1.cell 3
  have d3 := HU.out.2.2.1.cell 3
  have g3 := HU.out.2.2.1.frozen 3
  have c4 := HU.out.2.1.cell 4
  have d4 := HU.out.2.2.1.cell 4
  have g4 := HU.out.2.2.1.frozen 4
  have c5 := HU.out.2.1.cell 5
  have d5 := HU.out.2.2.1.cell 5
  have g5 := HU.out.2.2.1.frozen 5
  have hf : Blk ((((((U.setCell ⟨w.heap.size + 1, 0, none⟩ (.int .i64 a)).setCell ⟨w.heap.size + 1, 1, none⟩ (.int .i64 b)).setCell ⟨w.heap.size + 1, 2, none⟩ (.int .i64 c)).setCell ⟨w.heap.size + 1, 3, none⟩ (.int .i64 d)).setCell ⟨w.heap.size + 1, 4, none⟩ (.int .i64 e)).setCell ⟨w.heap.size + 1, 5, none⟩ (.int .i64 f)) (w.heap.size + 1) 23 #[.int .i64 a, .int .i64 b, .int .i64 c, .int .i64 d, .int .i64 e, .int .i64 f] := by
    have h := ((((((HU.out.2.2.1.set_ 0 (.int .i64 a)).set_ 1 (.int .i64 b)).set_ 2 (.int .i64 c)).set_ 3 (.int .i64 d)).set_ 4 (.int .i64 e)).set_ 5 (.int .i64 f))
    simpa using h
  have hlv := Lib.hid (ldv_row (P := Tryd.prog) hf 23 _ Tryd.underlying23 rfl (by kernel_rfl))
  have HB6 := Lib.hid (below_six HU.out.2.2.2 (Nat.le_succ _) (.int .i64 a) (.int .i64 b) (.int .i64 c) (.int .i64 d) (.int .i64 e) (.int .i64 f))
  clear hf
  go_wp2_with fail
  exact bodyPost_ret (v := mxV ⟨a, b, c, d, e, f⟩) (by simp [results, Tryd.results33, asAddr, hlv.out, mxV]) rfl ⟨rfl, HB6.out⟩
theorem valueM_two (q : Mx) (w : World) : Calls Tryd.prog 33 #[mxV q, .int .i64 2] w fun e w' => e = gUp 2 ∧ Below w.heap.size w w' := by
  unfold mxV
  go_enter Tryd.func33, Tryd.ntmps33
  go_wp2_with fail
  refine (upOn_two _).mono ?_
  rintro e w' ⟨rfl, rfl⟩
  exact ⟨rfl, rfl, ((Below.refl _ w).alloc (Nat.le_refl _) _).alloc (by simp) _⟩

set_option maxRecDepth 100000 in
set_option maxHeartbeats 8000000 in
theorem c3_ok (n : Nat) (M : Array Value) (B off ac : Nat) (l : List (Int × Int)) (p m q : Mx) (W : World) (hb : Blk W n 57 M) (hm : ∀ k, k < 6 → M[k]? = (mxC m)[k]?)
    (h : NumsAt W B off l) (hl : l.length = 6) (hu : unitsL l = [p.a, p.b, p.c, p.d, p.e, p.f]) (hs : okNums l = true)
    (hmul : ∀ V : World, Calls Tryd.prog 34 #[mxV p, mxV m] V fun e w' => e = .returned (.tuple #[mxV q, .int .i64 0]) ∧ Below V.heap.size V w') :
    Calls Tryd.prog 32 #[.pointer (some ⟨n, 0, none⟩), .slice (some ⟨B, off, none⟩) 6 ac] W fun e w' => e = .returned (.tuple #[]) ∧ Blk w' n 57 ((((((M.setIfInBounds 0 (.int .i64 q.a)).setIfInBounds 1 (.int .i64 q.b)).setIfInBounds 2 (.int .i64 q.c)).setIfInBounds 3 (.int .i64 q.d)).setIfInBounds 4 (.int .i64 q.e)).setIfInBounds 5 (.int .i64 q.f)) ∧ Two W w' n none := by
  obtain ⟨pa, pb, pc, pd, pe, pf⟩ := p
  obtain ⟨ma, mb, mc, md, me, mf⟩ := m
  obtain ⟨qa, qb, qc, qd, qe, qf⟩ := q
  have HP := Lib.hid (fun (V : World) (hV : Below W.heap.size W V) => matrix_ok B off ac l pa pb pc pd pe pf V (h.below hV) hl hu hs)
  have HMu := Lib.hid hmul
  have HVa := Lib.hid (fun V : World => valueM_ok qa qb qc qd qe qf V)
  have cells : ∀ V : World, Below W.heap.size W V → Blk V n 57 M ∧ (V.cell? ⟨n, 0, none⟩ = some (.int .i64 ma) ∧ V.cell? ⟨n, 1, none⟩ = some (.int .i64 mb) ∧ V.cell? ⟨n, 2, none⟩ = some (.int .i64 mc) ∧ V.cell? ⟨n, 3, none⟩ = some (.int .i64 md) ∧ V.cell? ⟨n, 4, none⟩ = some (.int .i64 me) ∧ V.cell? ⟨n, 5, none⟩ = some (.int .i64 mf)) := fun V hV => by
    have b := hb.below hV hb.lt
    exact ⟨b, (b.cell 0).trans ((hm 0 (by decide)).trans rfl), (b.cell 1).trans ((hm 1 (by decide)).trans rfl), (b.cell 2).trans ((hm 2 (by decide)).trans rfl), (b.cell 3).trans ((hm 3 (by decide)).trans rfl), (b.cell 4).trans ((hm 4 (by decide)).trans rfl), (b.cell 5).trans ((hm 5 (by decide)).trans rfl)⟩
  have HC := Lib.hid cells
  obtain ⟨_, x0, x1, x2, x3, x4, x5⟩ := HC.out W.drew (below_drewN (Below.refl _ W) 1)
  unfold mxV at HP HMu HVa
  clear hb hm h hl hu hs hmul cells
  go_enter Tryd.func32, Tryd.ntmps32
  go_wp2_with fail
  go_region_with (first
    | (go_at_call 35; refine (HP.out _ (by exact below_drewN (Below.refl _ W) 1)).mono ?_; rintro e w1 ⟨rfl, hb1⟩; have HW1 := Lib.hid ((below_drewN (Below.refl _ W) 1).trans (hb1.mono (Nat.le_refl _))); obtain ⟨_, y0, y1, y2, y3, y4, y5⟩ := HC.out w1 HW1.out)
    | (go_at_call 34; refine (HMu.out _).mono ?_; rintro e w2 ⟨rfl, hb2⟩; have HW2 := Lib.hid (HW1.out.trans (hb2.mono HW1.out.size)))
    | (go_at_call 33; refine (HVa.out _).mono ?_; rintro e w3 ⟨rfl, hb3⟩; have HW3 := Lib.hid (HW2.out.trans (hb3.mono HW2.out.size)); obtain ⟨bz, z0, z1, z2, z3, z4, z5⟩ := HC.out w3 HW3.out; have g0 := bz.frozen 0; have g1 := bz.frozen 1; have g2 := bz.frozen 2; have g3 := bz.frozen 3; have g4 := bz.frozen 4; have g5 := bz.frozen 5; have HBZ := Lib.hid bz; clear bz))
  all_goals
    go_wp2
    go_end0
    exact ⟨rfl, (((((HBZ.out.set_ 0 _).set_ 1 _).set_ 2 _).set_ 3 _).set_ 4 _).set_ 5 _, ((((((belowTwo HW3.out n none).set_ 0 _).set_ 1 _).set_ 2 _).set_ 3 _).set_ 4 _).set_ 5 _⟩
set_option maxRecDepth 100000 in
set_option maxHeartbeats 8000000 in
theorem c3_bad (n : Nat) (M : Array Value) (B off ac : Nat) (l : List (Int × Int)) (m : Mx) (W : World) (hb : Blk W n 57 M) (hm : ∀ k, k < 6 → M[k]? = (mxC m)[k]?)
    (h : NumsAt W B off l) (hl : l.length = 6) (hs : okNums l = false) :
    Calls Tryd.prog 32 #[.pointer (some ⟨n, 0, none⟩), .slice (some ⟨B, off, none⟩) 6 ac] W fun e w' => e = gUp 2 ∧ Two W w' n none := by
  obtain ⟨ma, mb, mc, md, me, mf⟩ := m
  obtain ⟨pa, pb, pc, pd, pe, pf, hu⟩ : ∃ a b c d e f, unitsL l = [a, b, c, d, e, f] := by
    match l, hl with
    | [_, _, _, _, _, _], _ => exact ⟨_, _, _, _, _, _, rfl⟩
  have HP := Lib.hid (fun (V : World) (hV : Below W.heap.size W V) => matrix_no B off ac l pa pb pc pd pe pf V (h.below hV) hl hu hs)
  have b := hb.drewN 1
  have x0 : W.drew.cell? ⟨n, 0, none⟩ = some (.int .i64 ma) := (b.cell 0).trans ((hm 0 (by decide)).trans rfl)
  have x1 : W.drew.cell? ⟨n, 1, none⟩ = some (.int .i64 mb) := (b.cell 1).trans ((hm 1 (by decide)).trans rfl)
  have x2 : W.drew.cell? ⟨n, 2, none⟩ = some (.int .i64 mc) := (b.cell 2).trans ((hm 2 (by decide)).trans rfl)
  have x3 : W.drew.cell? ⟨n, 3, none⟩ = some (.int .i64 md) := (b.cell 3).trans ((hm 3 (by decide)).trans rfl)
  have x4 : W.drew.cell? ⟨n, 4, none⟩ = some (.int .i64 me) := (b.cell 4).trans ((hm 4 (by decide)).trans rfl)
  have x5 : W.drew.cell? ⟨n, 5, none⟩ = some (.int .i64 mf) := (b.cell 5).trans ((hm 5 (by decide)).trans rfl)
  clear hb hm h hl hu hs b
  go_enter Tryd.func32, Tryd.ntmps32
  go_wp2_with fail
  go_region_dies
  all_goals
    refine (HP.out _ (by exact below_drewN (Below.refl _ W) 1)).mono ?_
    rintro e w5 ⟨rfl, hb5⟩
    exact ⟨rfl, rfl, belowTwo ((below_drewN (Below.refl _ W) 1).trans (hb5.mono (Nat.le_refl _))) n none⟩
end Go.Proofs.YtbagmjedkcipgaaDoor
namespace Go.Proofs.YtbagmjedkcipgaaDoor
open Go.RowKit Mat
set_option maxRecDepth 100000 in
set_option maxHeartbeats 8000000 in
theorem c3_far (n : Nat) (M : Array Value) (B off ac : Nat) (l : List (Int × Int)) (p m q : Mx) (W : World) (hb : Blk W n 57 M) (hm : ∀ k, k < 6 → M[k]? = (mxC m)[k]?)
    (h : NumsAt W B off l) (hl : l.length = 6) (hu : unitsL l = [p.a, p.b, p.c, p.d, p.e, p.f]) (hs : okNums l = true)
    (hmul : ∀ V : World, Calls Tryd.prog 34 #[mxV p, mxV m] V fun e w' => e = .returned (.tuple #[mxV q, .int .i64 2]) ∧ Below V.heap.size V w') :
    Calls Tryd.prog 32 #[.pointer (some ⟨n, 0, none⟩), .slice (some ⟨B, off, none⟩) 6 ac] W fun e w' => e = gUp 2 ∧ Two W w' n none := by
  obtain ⟨pa, pb, pc, pd, pe, pf⟩ := p
  obtain ⟨ma, mb, mc, md, me, mf⟩ := m
  obtain ⟨qa, qb, qc, qd, qe, qf⟩ := q
  have HP := Lib.hid (fun (V : World) (hV : Below W.heap.size W V) => matrix_ok B off ac l pa pb pc pd pe pf V (h.below hV) hl hu hs)
  have HMu := Lib.hid hmul
  have HVa := Lib.hid (fun V : World => valueM_two ⟨qa, qb, qc, qd, qe, qf⟩ V)
  have cells : ∀ V : World, Below W.heap.size W V → (V.cell? ⟨n, 0, none⟩ = some (.int .i64 ma) ∧ V.cell? ⟨n, 1, none⟩ = some (.int .i64 mb) ∧ V.cell? ⟨n, 2, none⟩ = some (.int .i64 mc) ∧ V.cell? ⟨n, 3, none⟩ = some (.int .i64 md) ∧ V.cell? ⟨n, 4, none⟩ = some (.int .i64 me) ∧ V.cell? ⟨n, 5, none⟩ = some (.int .i64 mf)) := fun V hV => by
    have b := hb.below hV hb.lt
    exact ⟨(b.cell 0).trans ((hm 0 (by decide)).trans rfl), (b.cell 1).trans ((hm 1 (by decide)).trans rfl), (b.cell 2).trans ((hm 2 (by decide)).trans rfl), (b.cell 3).trans ((hm 3 (by decide)).trans rfl), (b.cell 4).trans ((hm 4 (by decide)).trans rfl), (b.cell 5).trans ((hm 5 (by decide)).trans rfl)⟩
  have HC := Lib.hid cells
  obtain ⟨x0, x1, x2, x3, x4, x5⟩ := HC.out W.drew (below_drewN (Below.refl _ W) 1)
  unfold mxV at HP HMu HVa
  clear hb hm h hl hu hs hmul cells
  go_enter Tryd.func32, Tryd.ntmps32
  go_wp2_with fail
  go_region_dies
  all_goals
    refine (HP.out _ (by exact below_drewN (Below.refl _ W) 1)).mono ?_
    rintro e w1 ⟨rfl, hb1⟩
    have HW1 := Lib.hid ((below_drewN (Below.refl _ W) 1).trans (hb1.mono (Nat.le_refl _)))
    obtain ⟨y0, y1, y2, y3, y4, y5⟩ := HC.out w1 HW1.out
    rename_i K hK
    refine hK _ _ ?_
    clear hb1
    first
      | (refine wpAny_ready (rs := [8]) (by decide +kernel) (by simp) ?_; refine AllReady.cons rfl (fun K' hK' => ?_) AllReady.nil; go_simp)
      | ((refine wpAny_ready (rs := [7]) (by decide +kernel) (by simp) ?_; refine AllReady.cons rfl (fun K' hK' => ?_) AllReady.nil; go_simp); refine hK' _ _ ?_; clear hK' K'; (refine wpAny_ready (rs := [8]) (by decide +kernel) (by simp) ?_; refine AllReady.cons rfl (fun K' hK' => ?_) AllReady.nil; go_simp))
    refine (HMu.out _).mono ?_
    rintro e w2 ⟨rfl, hb2⟩
    have HW2 := Lib.hid (HW1.out.trans (hb2.mono HW1.out.size))
    refine hK' _ _ ?_
    clear hK' K' hb2
    refine wpAny_ready (rs := [9, 10]) (by decide +kernel) (by simp) ?_
    refine AllReady.cons rfl (fun K' hK' => ?_) (AllReady.cons rfl (fun K' hK' => ?_) AllReady.nil)
    all_goals
      go_simp
      refine hK' _ _ ?_
      clear hK' K'
      first | (refine wpAny_ready (rs := [9]) (by decide +kernel) (by simp) ?_; refine AllReady.cons rfl (fun K' hK' => ?_) AllReady.nil; go_simp) | (refine wpAny_ready (rs := [10]) (by decide +kernel) (by simp) ?_; refine AllReady.cons rfl (fun K' hK' => ?_) AllReady.nil; go_simp)
      refine hK' _ _ ?_
      clear hK' K'
      (refine wpAny_ready (rs := [11]) (by decide +kernel) (by simp) ?_; refine AllReady.cons rfl (fun K' hK' => ?_) AllReady.nil; go_simp)
      refine (HVa.out _).mono ?_
      rintro e w3 ⟨rfl, hb3⟩
      exact ⟨rfl, rfl, belowTwo (HW2.out.trans (hb3.mono HW2.out.size)) n none⟩
end Go.Proofs.YtbagmjedkcipgaaDoor
