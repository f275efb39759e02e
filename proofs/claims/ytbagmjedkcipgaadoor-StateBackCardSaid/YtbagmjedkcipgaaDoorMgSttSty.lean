/-
  The law StateStays: an operator that is rejected changes nothing, and a state that was returned shares no memory with the machine.
-/
import Derived.Test.YtbagmjedkcipgaaDoorMgSttLw
import Derived.Test.YtbagmjedkcipgaaDoorMgSttDo
import Derived.Test.YtbagmjedkcipgaaDoorMgJBase0
namespace Go.Proofs.YtbagmjedkcipgaaDoor
open Go.RowKit Mat
attribute [-go_sem] loadCells

/-- Between two operators: the machine, and a copy of its state in block n. -/
structure RndAt (H x n : Nat) (s : St) (v : Value) (ss : List St) (G : Array Value) (W0 W : World) : Prop where
  m : MAt H x W s v ss
  b : Below H W0 W
  c : CopyAt W x v s G
  w : Blk W n 40 G
  nx : n ≠ x
  nv : v.ownBlock ≠ some n
section
variable {H x n : Nat} {s : St} {v : Value} {ss : List St} {G : Array Value} {W0 W W' : World}
theorem RndAt.keep (h : RndAt H x n s v ss G W0 W) (hm : MAt H x W' s v ss) (ht : Two W W' x v.ownBlock) (hH : H ≤ W0.heap.size) : RndAt H x n s v ss G W0 W' :=
  ⟨hm, h.m.far ht h.b hH, h.c.two ht (NewRow.refl _ _), ht.blk h.w h.nx (fun e => h.nv e.symm), h.nx, h.nv⟩
theorem RndAt.below (h : RndAt H x n s v ss G W0 W) (hb : Below W.heap.size W W') (hH : H ≤ W0.heap.size) : RndAt H x n s v ss G W0 W' :=
  h.keep (h.m.below hb) (belowTwo hb x _) hH
end
/-- A predicate on worlds behind a name of its own (the walk takes no hypothesis whose head is a letter). -/
def OnW (Y : World → Prop) (W : World) : Prop := Y W
theorem onW {Y Y' : World → Prop} {W : World} (h : Y' = Y) (k : Y' W) : OnW Y W := by rw [← h]; exact k
theorem onW_out {Y Y' : World → Prop} {W : World} (h : Y' = Y) (k : OnW Y W) : Y' W := by rw [h]; exact k
/-- An operator in memory: its three cells. -/
theorem ld_op {W : World} {b off : Nat} {u0 u1 u2 : Value} (h0 : W.cell? ⟨b, off, none⟩ = some u0) (h1 : W.cell? ⟨b, off + 1, none⟩ = some u1) (h2 : W.cell? ⟨b, off + 2, none⟩ = some u2) : (loadCells ⟨b, off, none⟩ 3).run Tryd.prog W = .ok #[u0, u1, u2] W :=
  run_loadCells_list (P := Tryd.prog) W ⟨b, off, none⟩ [u0, u1, u2] (fun j u hu => by
    rw [Addr.add_mid]
    match j, hu with
    | 0, hu => injection hu with hu; subst hu; exact h0
    | 1, hu => injection hu with hu; subst hu; exact h1
    | 2, hu => injection hu with hu; subst hu; exact h2)

set_option maxRecDepth 100000 in
set_option maxHeartbeats 16000000 in
theorem stateStays_any (m : Mx) (A : Option Addr) (ca : Nat) (l : List OpT) (w : World) (hO : OpsIs w A l) (hm : l.length ≤ maxLen) (hsp : SpaceAt w) (hg : 0 < w.heap.size) :
    Calls Tryd.prog 4 #[mxV m, .slice A l.length ca] w fun e w' => e = .returned (.bool true) ∧ Below w.heap.size w w' := by
  obtain ⟨C, hC⟩ : ∃ C, mxC m = C := ⟨_, rfl⟩
  obtain ⟨V, hV⟩ : ∃ V, w.alloc (.cells C 23) = V := ⟨_, rfl⟩
  have hVm : Blk V w.heap.size 23 C := by rw [← hV]; exact Blk.new w _ _
  have hVb : Below w.heap.size w V := by rw [← hV]; exact (Below.refl _ w).alloc (Nat.le_refl _) _
  have hVs : V.heap.size = w.heap.size + 1 := by rw [← hV, World.size_alloc]
  have HSm := Lib.hid (small_any A ca l V (hO.below hVb) hm)
  have HL := Lib.hid (fun (W : World) (hW : Below w.heap.size w W) => (lives_any W (hsp.below hW hg) (Nat.lt_of_lt_of_le hg hW.size)).mono fun e w' (h : _ ∧ _) => And.intro h.1 (below_then hW h.2 hW.size))
  have HM : Hid (∀ W : World, Below V.heap.size V W → (loadCells ⟨w.heap.size, 0, none⟩ 6).run Tryd.prog W = .ok C W) := Lib.hid (fun W hW => by
    have hb := hVm.below hW (by omega)
    have := run_loadCells_list (P := Tryd.prog) W ⟨w.heap.size, 0, none⟩ C.toList (fun j u hu => by
      rw [Addr.add_mid, Nat.zero_add, hb.cell]
      simpa using hu)
    rw [← hC] at this ⊢
    exact this)
  have HN1 := Lib.hid (fun (W : World) (hW : w.heap.size ≤ W.heap.size) (h : okM m = true) => new_at m W h hW)
  have HN0 := Lib.hid (fun (W : World) (h : okM m = false) => new_none m W h)
  rw [show mxV m = .agg C by rw [← hC]; rfl] at HN1 HN0 ⊢
  have HS := Lib.hid (And.intro hsp hg)
  have HO := Lib.hid hO
  obtain ⟨p, hp⟩ : ∃ p, l.length = p := ⟨_, rfl⟩
  have HP := Lib.hid hp
  rw [hp] at HSm hm ⊢
  unfold maxLen at hm
  have hpI : (p : Int) ≤ 9223372036854775807 := by omega
  have HV := Lib.hid (And.intro hV (And.intro hVm (And.intro hVb hVs)))
  clear hO hm hsp hg hV hVm hVb hVs hC hp
  go_enter Tryd.func4, Tryd.ntmps4
  go_upto_region 1 with fail
  rw [HV.out.1]
  go_wp2_with fail
  refine HSm.out.mono ?_
  rintro e w1 ⟨z, rfl, hb1⟩
  have HB1 := Lib.hid hb1
  have hl1 := HM.out w1 hb1
  clear hb1
  cases z with
  | false =>
    go_wp2_with fail
    refine (HL.out _ (below_then HV.out.2.2.1 HB1.out HV.out.2.2.1.size)).mono ?_
    rintro e w2 ⟨rfl, hb⟩
    go_wp2_with fail
    go_ret
    exact ⟨rfl, hb⟩
  | true =>
    have HW1 := Lib.hid (below_then HV.out.2.2.1 HB1.out HV.out.2.2.1.size)
    by_cases hok : okM m = true
    case neg =>
      have hok' := Bool.eq_false_iff.2 hok
      clear hok
      go_wp2_with fail
      refine (HN0.out _ hok').mono ?_
      rintro e w2 ⟨rfl, hb⟩
      have HW2 := Lib.hid (below_then HW1.out hb HW1.out.size)
      clear hb hl1
      go_wp2_with fail
      refine (HL.out _ HW2.out).mono ?_
      rintro e w3 ⟨rfl, hb⟩
      go_wp2_with fail
      go_ret
      exact ⟨rfl, hb⟩
    go_wp2_with fail
    refine (HN1.out _ HW1.out.size hok).mono ?_
    rintro e w2 ⟨x, rfl, hx, hX, hb⟩
    have HW2 := Lib.hid (below_then HW1.out hb HW1.out.size)
    have HX2 := Lib.hid hX
    clear hb hl1 hx hX hok HN1 HN0 HM HSm
    go_wp2_with fail
    go_loopw [6] (fun iv wr => ∃ (i : Nat) (s : St) (v : Value) (ss : List St), i ≤ p ∧ iv = .int .i64 (i : Int) ∧ Hid (Below w.heap.size w wr ∧ MAt w.heap.size x wr s v ss)) (fun iv _ => p - (intOf iv).toNat)
    case atStart => exact ⟨0, _, _, _, by omega, rfl, Lib.hid ⟨HW2.out, HX2.out⟩⟩
    case round =>
      obtain ⟨i, s, v, ss, hi, rfl, HI⟩ := hrel
      by_cases hlt : i < p
      · have hik : (i : Int) < (p : Int) := by omega
        have hik0 : (0 : Int) ≤ (i : Int) := by omega
        have hil : i < l.length := by rw [HP.out]; exact hlt
        obtain ⟨b, off, ra, rc, rfl, hb, c0, c1, c2, hk, hkm⟩ := HO.out i hil
        obtain ⟨nm, hnm⟩ : ∃ x, l[i].nm = x := ⟨_, rfl⟩
        obtain ⟨dt, hdt⟩ : ∃ x, l[i].data = x := ⟨_, rfl⟩
        obtain ⟨ts, hts⟩ : ∃ x, l[i].args = x := ⟨_, rfl⟩
        rw [hnm] at c0
        rw [hdt] at c2
        rw [hts] at c1 hk hkm
        obtain ⟨c, hD⟩ := do_any w.heap.size x s v ss nm dt ts ra rc hkm
        obtain ⟨q, hq⟩ : ∃ q, ts.length = q := ⟨_, rfl⟩
        rw [hq] at c1 hD
        have HD := Lib.hid (fun (W : World) (hW : Below w.heap.size w W) (hM : MAt w.heap.size x W s v ss) => hD W hM (HS.out.1.below hW HS.out.2) (Nat.lt_of_lt_of_le HS.out.2 hW.size) hW.size (KidsIs.below hW ra ts 0 hk))
        have HL3 : Hid (∀ W : World, Below w.heap.size w W → (loadCells ⟨b, off + i * 3, none⟩ 3).run Tryd.prog W = .ok #[.string nm, .slice ra q rc, .string dt] W) := Lib.hid (fun W hW => ld_op ((hW.cell (p := ⟨b, off + i * 3, none⟩) hb).trans c0) ((hW.cell (p := ⟨b, off + i * 3 + 1, none⟩) hb).trans c1) ((hW.cell (p := ⟨b, off + i * 3 + 2, none⟩) hb).trans c2))
        clear hD hnm hdt hts hq hk hkm c0 c1 c2 hb hil
        obtain ⟨Z, hZ⟩ : ∃ Z, zeroG = Z := ⟨_, rfl⟩
        have hZs : Z.size = 30 := by rw [← hZ]; rfl
        unfold zeroG at hZ
        go_upto_region 9 with fail
        go_wp2_with fail
        refine (state_at HI.out.2).mono ?_
        rintro e w3 ⟨t, rfl, hcp, hb3⟩
        have hW3 := below_then HI.out.1 hb3 HI.out.1.size
        have hM3 := HI.out.2.below hb3
        have hC3 := hcp.at_
        have hGs := cells_size t
        have hG1 := cells_all t
        generalize t.cells.toArray = G at *
        clear hcp
        go_wp2_with fail
        refine (depth_at hM3).mono ?_
        rintro e w3' ⟨rfl, rfl⟩
        have hs := stg_new hGs hG1 hZs w3
        obtain ⟨w4, hw4⟩ : ∃ w4, w3.alloc (.cells G 40) = w4 := ⟨_, rfl⟩
        have hb4 : Below w3.heap.size w3 w4 := by rw [← hw4]; exact (Below.refl _ w3).alloc (Nat.le_refl _) _
        have hG4 : Blk w4 w3.heap.size 40 G := by rw [← hw4]; exact Blk.new w3 _ _
        rw [hw4] at hs
        have hR : RndAt w.heap.size x w3.heap.size s v ss G w w4 := ⟨hM3.below hb4, below_then hW3 hb4 hW3.size, hC3.below hb4, hG4, by have := hM3.blk.lt; omega, fun e => by have := saved_lt hM3 e; omega⟩
        have HB4 := Lib.hid hR.b
        have HDp := Lib.hid (fun (W : World) (hM : MAt w.heap.size x W s v ss) => depth_at hM)
        have HR := Lib.hid hR
        clear hR
        go_upto_region 10 with fail
        have hR := HR.out
        obtain ⟨n, hn⟩ : ∃ n, w3.heap.size = n := ⟨_, rfl⟩
        obtain ⟨d, hd⟩ : ∃ d : Nat, ss.length = d := ⟨_, rfl⟩
        rw [hd] at HDp ⊢
        rw [hn] at hR ⊢
        clear hs HR hW3 hM3 hC3 hb3 hb4 hG4 hw4 hG1 hZs
        by_cases hc : c = 0
        · subst hc
          obtain ⟨Y, hY⟩ : ∃ Y : World → Prop, (fun W : World => Below w.heap.size w W) = Y := ⟨_, rfl⟩
          have HYW := Lib.hid (fun (W : World) (h : OnW Y W) => show Below w.heap.size w W from onW_out hY h)
          have HYd := Lib.hid (fun (W : World) (h : OnW Y W) => show OnW Y W.drew from onW hY (Below.drew (onW_out hY h)))
          have hl3 : ∀ W : World, OnW Y W → (loadCells ⟨b, off + i * 3, none⟩ 3).run Tryd.prog W = .ok #[.string nm, .slice ra q rc, .string dt] W := fun W h => HL3.out W (HYW.out W h)
          have hY4 : OnW Y w4 := onW hY hR.b
          obtain ⟨E, hE⟩ : ∃ E : World → Prop, (fun W : World => ∃ s' v' ss', MAt w.heap.size x W s' v' ss') = E := ⟨_, rfl⟩
          have HE := Lib.hid (fun (W : World) (h : E W) => show ∃ s' v' ss', MAt w.heap.size x W s' v' ss' by
            rw [← hE] at h
            exact h)
          have HDo : Hid (∀ W : World, Below w4.heap.size w4 W → Calls Tryd.prog 8 #[.pointer (some ⟨x, 0, none⟩), .agg #[.string nm, .slice ra q rc, .string dt]] W fun e w' => e = .returned (.int .i64 0) ∧ OnW Y w' ∧ E w') := Lib.hid (fun W hW => by
            have hM := hR.m.below hW
            have hb := below_then hR.b hW hR.b.size
            refine (HD.out W hb hM).mono ?_
            rintro e w' ⟨s', v', ss', rfl, h1, h2, _⟩
            refine ⟨rfl, ?_, ?_⟩
            · exact onW hY (hM.far h2 hb (Nat.le_refl _))
            · rw [← hE]; exact ⟨s', v', ss', h1⟩)
          clear hY hE hR HD HDp HI hGs
          refine wp_region_held_drew (S := fun W => OnW Y W) (by kernel_rfl) (HYd.out _ hY4) (fun hHeld0 => ?_)
          obtain ⟨V0, hV0⟩ : ∃ U, w4.drew = U := ⟨_, rfl⟩
          have HV0 := Lib.hid hV0
          rw [hV0] at hHeld0 ⊢
          clear hV0
          refine wpAnyH_norm (l' := #[false, false, false, false, false, false, false, false, false, false, false, false, false, false, false, false, false, false, false, false]) (f' := 20) (by kernel_rfl) (by kernel_rfl) ?_
          refine wpAnyH_take' (i := 0) (d := 32) (v := ?v1) rfl (by kernel_rfl) (by kernel_rfl) (by kernel_rfl) (by kernel_rfl) (fun _ _ _ h => h) (Or.inl ⟨by kernel_rfl, ?hy1⟩) hHeld0 ?rest1
          case hy1 => (intro w hSw; go_simp; first | done | with_reducible rfl)
          case' rest1 =>
            try simp only [Act.put, List.setIfInBounds_toArray, List.set_cons_zero, List.set_cons_succ]
          refine wpAnyH_take' (i := 1) (d := 33) (v := ?v2) rfl (by kernel_rfl) (by kernel_rfl) (by kernel_rfl) (by kernel_rfl) (fun _ _ _ h => h) (Or.inl ⟨by kernel_rfl, ?hy2⟩) hHeld0 ?rest2
          case hy2 => (intro w hSw; go_simp; first | done | with_reducible rfl)
          case' rest2 =>
            try simp only [Act.put, List.setIfInBounds_toArray, List.set_cons_zero, List.set_cons_succ]
          refine wpAnyH_take' (i := 2) (d := 34) (v := ?v3) rfl (by kernel_rfl) (by kernel_rfl) (by kernel_rfl) (by kernel_rfl) (fun _ _ _ h => h) (Or.inl ⟨by kernel_rfl, ?hy3⟩) hHeld0 ?rest3
          case hy3 => (intro w hSw; go_simp; first | done | with_reducible rfl)
          case' rest3 =>
            try simp only [Act.put, List.setIfInBounds_toArray, List.set_cons_zero, List.set_cons_succ]
          refine wpAnyH_take' (i := 3) (d := 35) (v := ?v4) rfl (by kernel_rfl) (by kernel_rfl) (by kernel_rfl) (by kernel_rfl) (fun _ _ _ h => h) (Or.inl ⟨by kernel_rfl, ?hy4⟩) hHeld0 ?rest4
          case hy4 => (intro w hSw; go_simp; first | done | with_reducible rfl)
          case' rest4 =>
            try simp only [Act.put, List.setIfInBounds_toArray, List.set_cons_zero, List.set_cons_succ]
          refine wpAnyH_take' (i := 4) (d := 36) (v := ?v5) rfl (by kernel_rfl) (by kernel_rfl) (by kernel_rfl) (by kernel_rfl) (fun _ _ _ h => h) (Or.inl ⟨by kernel_rfl, ?hy5⟩) hHeld0 ?rest5
          case hy5 => (intro w hSw; go_simp; first | done | with_reducible rfl)
          case' rest5 =>
            try simp only [Act.put, List.setIfInBounds_toArray, List.set_cons_zero, List.set_cons_succ]
          refine wpAnyH_call (i := 5) (d := 37) (α := Unit) (fun _ => .int .i64 0) (fun _ w' => OnW Y w' ∧ E w') (by kernel_rfl) rfl (by kernel_rfl) (by kernel_rfl) ?y6 ?s6 ?r6
          case y6 => exact ⟨8, #[.pointer (some ⟨x, 0, none⟩), .agg #[.string nm, .slice ra q rc, .string dt]], by kernel_rfl, (HDo.out _ (by rw [← HV0.out]; exact (Below.refl _ _).drew)).mono (fun e w' h => ⟨(), h⟩)⟩
          case s6 => exact fun _ w' h => h.1
          case' r6 => intro xW5 W5 hRW5 hHeldW5
          try simp only [Act.put, List.setIfInBounds_toArray, List.set_cons_zero, List.set_cons_succ]
          refine wpAnyH_take' (i := 6) (d := 38) (v := .bool false) rfl (by kernel_rfl) (by kernel_rfl) (by kernel_rfl) (by kernel_rfl) (fun _ _ _ h => h) (Or.inl ⟨by kernel_rfl, ?hy7⟩) hHeldW5 ?rest7
          case hy7 => (intro w hSw; go_simp; first | done | with_reducible rfl)
          case' rest7 =>
            try simp only [Act.put, List.setIfInBounds_toArray, List.set_cons_zero, List.set_cons_succ]
          refine wpAnyH_take' (i := 7) (d := 39) (v := ?v8) rfl (by kernel_rfl) (by kernel_rfl) (by kernel_rfl) (by kernel_rfl) (fun _ _ _ h => h) (Or.inl ⟨by kernel_rfl, ?hy8⟩) hHeldW5 ?rest8
          case hy8 => (intro w hSw; go_simp; first | done | with_reducible rfl)
          case' rest8 =>
            try simp only [Act.put, List.setIfInBounds_toArray, List.set_cons_zero, List.set_cons_succ]
          refine wpAnyH_take' (i := 8) (d := 40) (v := undef) rfl (by kernel_rfl) (by kernel_rfl) (by kernel_rfl) (by kernel_rfl) (fun _ _ _ h => h) (Or.inr ⟨by kernel_rfl, rfl⟩) hHeldW5 ?rest9
          case' rest9 =>
            try simp only [Act.put, List.setIfInBounds_toArray, List.set_cons_zero, List.set_cons_succ]
          refine wpAnyH_take' (i := 9) (d := 41) (v := undef) rfl (by kernel_rfl) (by kernel_rfl) (by kernel_rfl) (by kernel_rfl) (fun _ _ _ h => h) (Or.inr ⟨by kernel_rfl, rfl⟩) hHeldW5 ?rest10
          case' rest10 =>
            try simp only [Act.put, List.setIfInBounds_toArray, List.set_cons_zero, List.set_cons_succ]
          refine wpAnyH_take' (i := 10) (d := 42) (v := undef) rfl (by kernel_rfl) (by kernel_rfl) (by kernel_rfl) (by kernel_rfl) (fun _ _ _ h => h) (Or.inr ⟨by kernel_rfl, rfl⟩) hHeldW5 ?rest11
          case' rest11 =>
            try simp only [Act.put, List.setIfInBounds_toArray, List.set_cons_zero, List.set_cons_succ]
          refine wpAnyH_take' (i := 11) (d := 43) (v := undef) rfl (by kernel_rfl) (by kernel_rfl) (by kernel_rfl) (by kernel_rfl) (fun _ _ _ h => h) (Or.inr ⟨by kernel_rfl, rfl⟩) hHeldW5 ?rest12
          case' rest12 =>
            try simp only [Act.put, List.setIfInBounds_toArray, List.set_cons_zero, List.set_cons_succ]
          refine wpAnyH_take' (i := 12) (d := 44) (v := undef) rfl (by kernel_rfl) (by kernel_rfl) (by kernel_rfl) (by kernel_rfl) (fun _ _ _ h => h) (Or.inr ⟨by kernel_rfl, rfl⟩) hHeldW5 ?rest13
          case' rest13 =>
            try simp only [Act.put, List.setIfInBounds_toArray, List.set_cons_zero, List.set_cons_succ]
          refine wpAnyH_take' (i := 13) (d := 45) (v := undef) rfl (by kernel_rfl) (by kernel_rfl) (by kernel_rfl) (by kernel_rfl) (fun _ _ _ h => h) (Or.inr ⟨by kernel_rfl, rfl⟩) hHeldW5 ?rest14
          case' rest14 =>
            try simp only [Act.put, List.setIfInBounds_toArray, List.set_cons_zero, List.set_cons_succ]
          refine wpAnyH_take' (i := 14) (d := 46) (v := undef) rfl (by kernel_rfl) (by kernel_rfl) (by kernel_rfl) (by kernel_rfl) (fun _ _ _ h => h) (Or.inr ⟨by kernel_rfl, rfl⟩) hHeldW5 ?rest15
          case' rest15 =>
            try simp only [Act.put, List.setIfInBounds_toArray, List.set_cons_zero, List.set_cons_succ]
          refine wpAnyH_take' (i := 15) (d := 47) (v := undef) rfl (by kernel_rfl) (by kernel_rfl) (by kernel_rfl) (by kernel_rfl) (fun _ _ _ h => h) (Or.inr ⟨by kernel_rfl, rfl⟩) hHeldW5 ?rest16
          case' rest16 =>
            try simp only [Act.put, List.setIfInBounds_toArray, List.set_cons_zero, List.set_cons_succ]
          refine wpAnyH_take' (i := 16) (d := 48) (v := undef) rfl (by kernel_rfl) (by kernel_rfl) (by kernel_rfl) (by kernel_rfl) (fun _ _ _ h => h) (Or.inr ⟨by kernel_rfl, rfl⟩) hHeldW5 ?rest17
          case' rest17 =>
            try simp only [Act.put, List.setIfInBounds_toArray, List.set_cons_zero, List.set_cons_succ]
          refine wpAnyH_take' (i := 17) (d := 49) (v := undef) rfl (by kernel_rfl) (by kernel_rfl) (by kernel_rfl) (by kernel_rfl) (fun _ _ _ h => h) (Or.inr ⟨by kernel_rfl, rfl⟩) hHeldW5 ?rest18
          case' rest18 =>
            try simp only [Act.put, List.setIfInBounds_toArray, List.set_cons_zero, List.set_cons_succ]
          refine wpAnyH_take' (i := 18) (d := 50) (v := undef) rfl (by kernel_rfl) (by kernel_rfl) (by kernel_rfl) (by kernel_rfl) (fun _ _ _ h => h) (Or.inr ⟨by kernel_rfl, rfl⟩) hHeldW5 ?rest19
          case' rest19 =>
            try simp only [Act.put, List.setIfInBounds_toArray, List.set_cons_zero, List.set_cons_succ]
          refine wpAnyH_take' (i := 19) (d := 51) (v := .bool false) rfl (by kernel_rfl) (by kernel_rfl) (by kernel_rfl) (by kernel_rfl) (fun _ _ _ h => h) (Or.inl ⟨by kernel_rfl, ?hy20⟩) hHeldW5 ?rest20
          case hy20 => (intro w hSw; go_simp; first | done | with_reducible rfl)
          case' rest20 =>
            try simp only [Act.put, List.setIfInBounds_toArray, List.set_cons_zero, List.set_cons_succ]
          refine wpAnyH_done (by kernel_rfl) ?_ _
          have HE5 := Lib.hid (And.intro (HYW.out _ hRW5.1) (HE.out _ hRW5.2))
          go_wp2_with fail
          obtain ⟨hb5, s', v', ss', hm5⟩ := HE5.out
          refine ⟨⟨i + 1, s', v', ss', by omega, by go_num, Lib.hid ⟨hb5, hm5⟩⟩, ?_⟩
          simp [intOf]
          omega
        · obtain ⟨Y, hY⟩ : ∃ Y : World → Prop, (fun W : World => RndAt w.heap.size x n s v ss G w W) = Y := ⟨_, rfl⟩
          have HYW := Lib.hid (fun (W : World) (h : OnW Y W) => show RndAt w.heap.size x n s v ss G w W from onW_out hY h)
          have HYb := Lib.hid (fun (W W' : World) (h : OnW Y W) (hb : Below W.heap.size W W') => show OnW Y W' from onW hY ((onW_out hY h : RndAt w.heap.size x n s v ss G w W).below hb (Nat.le_refl _)))
          have HYd := Lib.hid (fun (W : World) (h : OnW Y W) => HYb.out W W.drew h (Below.refl _ _).drew)
          have hl3 : ∀ W : World, OnW Y W → (loadCells ⟨b, off + i * 3, none⟩ 3).run Tryd.prog W = .ok #[.string nm, .slice ra q rc, .string dt] W := fun W h => HL3.out W (HYW.out W h).b
          have hlG : ∀ W : World, OnW Y W → (loadCells ⟨n, 0, none⟩ 30).run Tryd.prog W = .ok G W := fun W h => ldg hGs (HYW.out W h).w
          have hY4 : OnW Y w4 := onW hY hR
          obtain ⟨E, hE⟩ : ∃ E : World → Array Value → Prop, (fun (W : World) (G1 : Array Value) => CopyAt W x v s G1) = E := ⟨_, rfl⟩
          have HDo : Hid (∀ W : World, OnW Y W → Calls Tryd.prog 8 #[.pointer (some ⟨x, 0, none⟩), .agg #[.string nm, .slice ra q rc, .string dt]] W fun e w' => e = .returned (.int .i64 c) ∧ OnW Y w') := Lib.hid (fun W hW => by
            have hR := HYW.out W hW
            refine (HD.out W hR.b hR.m).mono ?_
            rintro e w' ⟨s', v', ss', rfl, h1, _, _, h4, _⟩
            obtain ⟨rfl, rfl, rfl, ht⟩ := h4 hc
            exact ⟨rfl, onW hY (hR.keep h1 (ht.none_any _) (Nat.le_refl _))⟩)
          have HSt : Hid (∀ W : World, OnW Y W → Calls Tryd.prog 9 #[.pointer (some ⟨x, 0, none⟩)] W fun e w' => ∃ G1, e = .returned (.agg G1) ∧ OnW Y w' ∧ E w' G1) := Lib.hid (fun W hW => by
            refine (state_at (HYW.out W hW).m).mono ?_
            rintro e w' ⟨t, rfl, h1, h2⟩
            exact ⟨_, rfl, HYb.out _ _ hW h2, by rw [← hE]; exact h1.at_⟩)
          have HRe : Hid (∀ (W : World) (G1 : Array Value), OnW Y W → E W G1 → Calls Tryd.prog 13 #[.agg G1, .agg G] W fun e w' => e = .returned (.bool true) ∧ OnW Y w') := Lib.hid (fun W G1 hW h1 => by
            rw [← hE] at h1
            refine (CopyAt.ref h1 (HYW.out W hW).c).mono ?_
            rintro e w' ⟨rfl, h2⟩
            exact ⟨rfl, HYb.out _ _ hW h2⟩)
          have HDe : Hid (∀ W : World, OnW Y W → Calls Tryd.prog 10 #[.pointer (some ⟨x, 0, none⟩)] W fun e w' => e = .returned (.int .i64 (d : Int)) ∧ OnW Y w') := Lib.hid (fun W hW => by
            refine (HDp.out W (HYW.out W hW).m).mono ?_
            rintro e w' ⟨rfl, rfl⟩
            exact ⟨rfl, hW⟩)
          clear hY hE hR HD HDp HI hGs
          refine wp_region_held_drew (S := fun W => OnW Y W) (by kernel_rfl) (HYd.out _ hY4) (fun hHeld0 => ?_)
          obtain ⟨V0, hV0⟩ : ∃ U, w4.drew = U := ⟨_, rfl⟩
          have HV0 := Lib.hid hV0
          rw [hV0] at hHeld0 ⊢
          clear hV0
          refine wpAnyH_norm (l' := #[false, false, false, false, false, false, false, false, false, false, false, false, false, false, false, false, false, false, false, false]) (f' := 20) (by kernel_rfl) (by kernel_rfl) ?_
          refine wpAnyH_take' (i := 0) (d := 32) (v := ?vn1) rfl (by kernel_rfl) (by kernel_rfl) (by kernel_rfl) (by kernel_rfl) (fun _ _ _ h => h) (Or.inl ⟨by kernel_rfl, ?hyn1⟩) hHeld0 ?restn1
          case hyn1 => (intro w hSw; go_simp; first | done | with_reducible rfl)
          case' restn1 =>
            try simp only [Act.put, List.setIfInBounds_toArray, List.set_cons_zero, List.set_cons_succ]
          refine wpAnyH_take' (i := 1) (d := 33) (v := ?vn2) rfl (by kernel_rfl) (by kernel_rfl) (by kernel_rfl) (by kernel_rfl) (fun _ _ _ h => h) (Or.inl ⟨by kernel_rfl, ?hyn2⟩) hHeld0 ?restn2
          case hyn2 => (intro w hSw; go_simp; first | done | with_reducible rfl)
          case' restn2 =>
            try simp only [Act.put, List.setIfInBounds_toArray, List.set_cons_zero, List.set_cons_succ]
          refine wpAnyH_take' (i := 2) (d := 34) (v := ?vn3) rfl (by kernel_rfl) (by kernel_rfl) (by kernel_rfl) (by kernel_rfl) (fun _ _ _ h => h) (Or.inl ⟨by kernel_rfl, ?hyn3⟩) hHeld0 ?restn3
          case hyn3 => (intro w hSw; go_simp; first | done | with_reducible rfl)
          case' restn3 =>
            try simp only [Act.put, List.setIfInBounds_toArray, List.set_cons_zero, List.set_cons_succ]
          refine wpAnyH_take' (i := 3) (d := 35) (v := ?vn4) rfl (by kernel_rfl) (by kernel_rfl) (by kernel_rfl) (by kernel_rfl) (fun _ _ _ h => h) (Or.inl ⟨by kernel_rfl, ?hyn4⟩) hHeld0 ?restn4
          case hyn4 => (intro w hSw; go_simp; first | done | with_reducible rfl)
          case' restn4 =>
            try simp only [Act.put, List.setIfInBounds_toArray, List.set_cons_zero, List.set_cons_succ]
          refine wpAnyH_take' (i := 4) (d := 36) (v := ?vn5) rfl (by kernel_rfl) (by kernel_rfl) (by kernel_rfl) (by kernel_rfl) (fun _ _ _ h => h) (Or.inl ⟨by kernel_rfl, ?hyn5⟩) hHeld0 ?restn5
          case hyn5 => (intro w hSw; go_simp; first | done | with_reducible rfl)
          case' restn5 =>
            try simp only [Act.put, List.setIfInBounds_toArray, List.set_cons_zero, List.set_cons_succ]
          refine wpAnyH_call (i := 5) (d := 37) (α := Unit) (fun _ => .int .i64 c) (fun _ w' => OnW Y w') (by kernel_rfl) rfl (by kernel_rfl) (by kernel_rfl) ?yn6 ?sn6 ?rn6
          case yn6 => exact ⟨8, #[.pointer (some ⟨x, 0, none⟩), .agg #[.string nm, .slice ra q rc, .string dt]], by kernel_rfl, (HDo.out _ hHeld0).mono (fun e w' h => ⟨(), h⟩)⟩
          case sn6 => exact fun _ w' h => h
          case' rn6 => intro xW5 W5 hRW5 hHeldW5
          try simp only [Act.put, List.setIfInBounds_toArray, List.set_cons_zero, List.set_cons_succ]
          refine wpAnyH_take' (i := 6) (d := 38) (v := .bool true) rfl (by kernel_rfl) (by kernel_rfl) (by kernel_rfl) (by kernel_rfl) (fun _ _ _ h => h) (Or.inl ⟨by kernel_rfl, ?hyn7⟩) hHeldW5 ?restn7
          case hyn7 => (intro w hSw; go_simp; first | done | with_reducible rfl)
          case' restn7 =>
            try simp only [Act.put, List.setIfInBounds_toArray, List.set_cons_zero, List.set_cons_succ]
          refine wpAnyH_take' (i := 7) (d := 39) (v := ?vn8) rfl (by kernel_rfl) (by kernel_rfl) (by kernel_rfl) (by kernel_rfl) (fun _ _ _ h => h) (Or.inl ⟨by kernel_rfl, ?hyn8⟩) hHeldW5 ?restn8
          case hyn8 => (intro w hSw; go_simp; first | done | with_reducible rfl)
          case' restn8 =>
            try simp only [Act.put, List.setIfInBounds_toArray, List.set_cons_zero, List.set_cons_succ]
          refine wpAnyH_take' (i := 8) (d := 40) (v := ?vn9) rfl (by kernel_rfl) (by kernel_rfl) (by kernel_rfl) (by kernel_rfl) (fun _ _ _ h => h) (Or.inl ⟨by kernel_rfl, ?hyn9⟩) hHeldW5 ?restn9
          case hyn9 => (intro w hSw; go_simp; first | done | with_reducible rfl)
          case' restn9 =>
            try simp only [Act.put, List.setIfInBounds_toArray, List.set_cons_zero, List.set_cons_succ]
          refine wpAnyH_take' (i := 10) (d := 42) (v := .agg G) rfl (by kernel_rfl) (by kernel_rfl) (by kernel_rfl) (by kernel_rfl) (fun _ _ _ h => h) (Or.inl ⟨by kernel_rfl, ?hyn10⟩) hHeldW5 ?restn10
          case hyn10 => (intro w hSw; go_simp; first | done | with_reducible rfl)
          case' restn10 =>
            try simp only [Act.put, List.setIfInBounds_toArray, List.set_cons_zero, List.set_cons_succ]
          refine wpAnyH_call (i := 9) (d := 41) (α := Array Value) (fun x => .agg x) (fun x w' => OnW Y w' ∧ E w' x) (by kernel_rfl) rfl (by kernel_rfl) (by kernel_rfl) ?yn11 ?sn11 ?rn11
          case yn11 => exact ⟨9, #[.pointer (some ⟨x, 0, none⟩)], by kernel_rfl, (HSt.out _ hHeldW5).mono (fun e w' ⟨G1, h1, h2, h3⟩ => ⟨G1, h1, h2, h3⟩)⟩
          case sn11 => exact fun _ w' h => h.1
          case' rn11 => intro xW6 W6 hRW6 hHeldW6
          try simp only [Act.put, List.setIfInBounds_toArray, List.set_cons_zero, List.set_cons_succ]
          refine wpAnyH_call (i := 11) (d := 43) (α := Unit) (fun _ => .bool true) (fun _ w' => OnW Y w') (by kernel_rfl) rfl (by kernel_rfl) (by kernel_rfl) ?yn12 ?sn12 ?rn12
          case yn12 => exact ⟨13, #[.agg xW6, .agg G], by kernel_rfl, (HRe.out _ _ hHeldW6 hRW6.2).mono (fun e w' h => ⟨(), h⟩)⟩
          case sn12 => exact fun _ w' h => h
          case' rn12 => intro xW7 W7 hRW7 hHeldW7
          try simp only [Act.put, List.setIfInBounds_toArray, List.set_cons_zero, List.set_cons_succ]
          refine wpAnyH_take' (i := 12) (d := 44) (v := .bool false) rfl (by kernel_rfl) (by kernel_rfl) (by kernel_rfl) (by kernel_rfl) (fun _ _ _ h => h) (Or.inl ⟨by kernel_rfl, ?hyn13⟩) hHeldW7 ?restn13
          case hyn13 => (intro w hSw; go_simp; first | done | with_reducible rfl)
          case' restn13 =>
            try simp only [Act.put, List.setIfInBounds_toArray, List.set_cons_zero, List.set_cons_succ]
          refine wpAnyH_take' (i := 13) (d := 45) (v := ?vn14) rfl (by kernel_rfl) (by kernel_rfl) (by kernel_rfl) (by kernel_rfl) (fun _ _ _ h => h) (Or.inl ⟨by kernel_rfl, ?hyn14⟩) hHeldW7 ?restn14
          case hyn14 => (intro w hSw; go_simp; first | done | with_reducible rfl)
          case' restn14 =>
            try simp only [Act.put, List.setIfInBounds_toArray, List.set_cons_zero, List.set_cons_succ]
          refine wpAnyH_take' (i := 14) (d := 46) (v := ?vn15) rfl (by kernel_rfl) (by kernel_rfl) (by kernel_rfl) (by kernel_rfl) (fun _ _ _ h => h) (Or.inl ⟨by kernel_rfl, ?hyn15⟩) hHeldW7 ?restn15
          case hyn15 => (intro w hSw; go_simp; first | done | with_reducible rfl)
          case' restn15 =>
            try simp only [Act.put, List.setIfInBounds_toArray, List.set_cons_zero, List.set_cons_succ]
          refine wpAnyH_take' (i := 16) (d := 48) (v := ?vn17) rfl (by kernel_rfl) (by kernel_rfl) (by kernel_rfl) (by kernel_rfl) (fun _ _ _ h => h) (Or.inl ⟨by kernel_rfl, ?hyn17⟩) hHeldW7 ?restn17
          case hyn17 => (intro w hSw; go_simp; first | done | with_reducible rfl)
          case' restn17 =>
            try simp only [Act.put, List.setIfInBounds_toArray, List.set_cons_zero, List.set_cons_succ]
          refine wpAnyH_call (i := 15) (d := 47) (α := Unit) (fun _ => .int .i64 (d : Int)) (fun _ w' => OnW Y w') (by kernel_rfl) rfl (by kernel_rfl) (by kernel_rfl) ?yn16 ?sn16 ?rn16
          case yn16 => exact ⟨10, #[.pointer (some ⟨x, 0, none⟩)], by kernel_rfl, (HDe.out _ hHeldW7).mono (fun e w' h => ⟨(), h⟩)⟩
          case sn16 => exact fun _ w' h => h
          case' rn16 => intro xW8 W8 hRW8 hHeldW8
          try simp only [Act.put, List.setIfInBounds_toArray, List.set_cons_zero, List.set_cons_succ]
          refine wpAnyH_take' (i := 17) (d := 49) (v := .bool false) rfl (by kernel_rfl) (by kernel_rfl) (by kernel_rfl) (by kernel_rfl) (fun _ _ _ h => h) (Or.inl ⟨by kernel_rfl, ?hyn18⟩) hHeldW8 ?restn18
          case hyn18 => (intro w hSw; go_simp; first | done | with_reducible rfl)
          case' restn18 =>
            try simp only [Act.put, List.setIfInBounds_toArray, List.set_cons_zero, List.set_cons_succ]
          refine wpAnyH_take' (i := 18) (d := 50) (v := .bool false) rfl (by kernel_rfl) (by kernel_rfl) (by kernel_rfl) (by kernel_rfl) (fun _ _ _ h => h) (Or.inl ⟨by kernel_rfl, ?hyn19⟩) hHeldW8 ?restn19
          case hyn19 => (intro w hSw; go_simp; first | done | with_reducible rfl)
          case' restn19 =>
            try simp only [Act.put, List.setIfInBounds_toArray, List.set_cons_zero, List.set_cons_succ]
          refine wpAnyH_take' (i := 19) (d := 51) (v := .bool false) rfl (by kernel_rfl) (by kernel_rfl) (by kernel_rfl) (by kernel_rfl) (fun _ _ _ h => h) (Or.inl ⟨by kernel_rfl, ?hyn20⟩) hHeldW8 ?restn20
          case hyn20 => (intro w hSw; go_simp; first | done | with_reducible rfl)
          case' restn20 =>
            try simp only [Act.put, List.setIfInBounds_toArray, List.set_cons_zero, List.set_cons_succ]
          refine wpAnyH_done (by kernel_rfl) ?_ _
          have HE8 := Lib.hid (HYW.out _ hRW8)
          go_wp2_with fail
          refine ⟨⟨i + 1, s, v, ss, by omega, by go_num, Lib.hid ⟨HE8.out.b, HE8.out.m⟩⟩, ?_⟩
          simp [intOf]
          omega
      · obtain rfl : i = p := by omega
        obtain ⟨Z, hZ⟩ : ∃ Z, zeroG = Z := ⟨_, rfl⟩
        have hZs : Z.size = 30 := by rw [← hZ]; rfl
        unfold zeroG at hZ
        clear HX2 HW2 HB1 HW1 HP HO
        obtain ⟨wm, hwm⟩ : ∃ v, v = wr := ⟨_, rfl⟩
        subst hwm
        go_wp2_with fail
        refine (state_at HI.out.2).mono ?_
        rintro e w3 ⟨⟨tg, tf, A1, tl, c1⟩, rfl, hcp, hb3⟩
        have hG1 := cells_all (⟨tg, tf, A1, tl, c1⟩ : St)
        have hGs := cells_size (⟨tg, tf, A1, tl, c1⟩ : St)
        obtain ⟨q, hq⟩ : ∃ q, tl.length = q := ⟨_, rfl⟩
        have hG10 : (⟨tg, tf, A1, tl, c1⟩ : St).cells.toArray[10]? = some (.slice A1 q c1) := by rw [← hq]; rfl
        have hrow := hcp.row
        replace hrow : w3.ownsRow wm.heap.size 2 1 (.slice A1 tl.length c1) tl.length (numC tl) := hrow
        rw [hq] at hrow
        have hqm : q ≤ 32 := by rw [← hq]; exact hcp.is.len
        generalize (⟨tg, tf, A1, tl, c1⟩ : St).cells.toArray = G at *
        have hs := stg_new hGs hG1 hZs w3
        obtain ⟨w4, hw4⟩ : ∃ w4, w3.alloc (.cells G 40) = w4 := ⟨_, rfl⟩
        have hb4 : Below wm.heap.size wm w4 := by rw [← hw4]; exact hb3.alloc hb3.size _
        have hG4 : Blk w4 w3.heap.size 40 G := by rw [← hw4]; exact Blk.new w3 _ _
        have hA1 : 0 < q → ∃ g cur, A1 = some ⟨g, 0, none⟩ ∧ wm.heap.size ≤ g ∧ g ≠ w3.heap.size ∧ Blk w4 g 2 cur ∧ q ≤ cur.size := fun hq0 => by
          rcases hrow.2 with ⟨_, h2⟩ | ⟨g, cap, cur, h1, h2, h3, h4, _, h5, _⟩
          · omega
          · injection h1 with h1
            have h3' : Blk w3 g 2 cur := h3
            exact ⟨g, cur, h1, h2, by have := h3'.lt; omega, by rw [← hw4]; exact h3'.alloc _, by omega⟩
        rw [hw4] at hs
        have HR := Lib.hid (And.intro hb4 (And.intro hG4 hA1))
        have hn0 : wm.heap.size ≤ w3.heap.size := hb3.size
        have HG10 := Lib.hid hG10
        clear hcp hb3 hrow hq hG10 hb4 hG4 hA1 hw4
        go_upto_region 13 with fail
        clear hs hG1 hGs
        obtain ⟨n, hn⟩ : ∃ n, w3.heap.size = n := ⟨_, rfl⟩
        rw [hn] at HR hn0 ⊢
        have HN := Lib.hid hn0
        clear hn hn0
        have hqI : (q : Int) ≤ 32 := by omega
        go_wp2_with fail
        go_loopw [10] (fun iv wx => ∃ j : Nat, j ≤ q ∧ iv = .int .i64 (j : Int) ∧ Hid (Below wm.heap.size wm wx ∧ Blk wx n 40 G ∧ (0 < q → ∃ g cur, A1 = some ⟨g, 0, none⟩ ∧ wm.heap.size ≤ g ∧ g ≠ n ∧ Blk wx g 2 cur ∧ q ≤ cur.size))) (fun iv _ => q - (intOf iv).toNat)
        case atStart => exact ⟨0, by omega, rfl, HR⟩
        case round =>
          obtain ⟨j, hj, rfl, HJ⟩ := hrel
          have c10 := (HJ.out.2.1.cell 10).trans HG10.out
          by_cases hjq : j < q
          · have hjk : (j : Int) < (q : Int) := by omega
            have hjk0 : (0 : Int) ≤ (j : Int) := by omega
            obtain ⟨g, cur, rfl, hg1, hg2, hg3, hg4⟩ := HJ.out.2.2 (by omega)
            obtain ⟨u, hu⟩ : ∃ u, cur[j]? = some u := ⟨_, Array.getElem?_eq_getElem (by omega)⟩
            have cj := (hg3.cell j).trans hu
            have fj := hg3.frozen j
            have HK := Lib.hid (show Below wm.heap.size wm _ ∧ Blk _ n 40 G ∧ (0 < q → ∃ g' cur', (some ⟨g, 0, none⟩ : Option Addr) = some ⟨g', 0, none⟩ ∧ wm.heap.size ≤ g' ∧ g' ≠ n ∧ Blk _ g' 2 cur' ∧ q ≤ cur'.size) from
              ⟨HJ.out.1.setCell (p := ⟨g, j, none⟩) hg1 (.int .i64 (-1)), HJ.out.2.1.far (p := ⟨g, j, none⟩) (fun e => hg2 e.symm) (.int .i64 (-1)), fun _ => ⟨g, _, rfl, hg1, hg2, hg3.set_ j (.int .i64 (-1)), by rw [Array.size_setIfInBounds]; exact hg4⟩⟩)
            clear hg1 hg2 hg3 hg4 hu HJ HR
            go_wp2_with fail
            go_roundw
            case rel => exact ⟨j + 1, by omega, by go_num, HK⟩
            case measure => simp [intOf]; omega
          · obtain rfl : j = q := by omega
            have hm5 := HI.out.2.below HJ.out.1
            have HW5 := Lib.hid (below_then HI.out.1 HJ.out.1 HI.out.1.size)
            clear HR
            go_wp2_with fail
            refine (state_at hm5).mono ?_
            rintro e w5 ⟨⟨ug, uf, A2, ul, c2⟩, rfl, hcp, hb5⟩
            have hG1 := cells_all (⟨ug, uf, A2, ul, c2⟩ : St)
            have hGs := cells_size (⟨ug, uf, A2, ul, c2⟩ : St)
            obtain ⟨r, hr⟩ : ∃ r, ul.length = r := ⟨_, rfl⟩
            have hG10 : (⟨ug, uf, A2, ul, c2⟩ : St).cells.toArray[10]? = some (.slice A2 r c2) := by rw [← hr]; rfl
            have hat : NAt w5 A2 ul := hcp.is.nat
            have hpos : ∀ z ∈ ul, 0 ≤ z := hcp.is.pos
            have hrm : r ≤ 32 := by rw [← hr]; exact hcp.is.len
            generalize (⟨ug, uf, A2, ul, c2⟩ : St).cells.toArray = G2 at *
            have hs := stg_new hGs hG1 hZs w5
            obtain ⟨w6, hw6⟩ : ∃ w6, w5.alloc (.cells G2 40) = w6 := ⟨_, rfl⟩
            have hb6 : Below w5.heap.size w5 w6 := by rw [← hw6]; exact (Below.refl _ w5).alloc (Nat.le_refl _) _
            have hG6 : Blk w6 w5.heap.size 40 G2 := by rw [← hw6]; exact Blk.new w5 _ _
            rw [hw6] at hs
            have HQ := Lib.hid (And.intro (below_then (below_then HW5.out hb5 HW5.out.size) hb6 (Nat.le_trans HW5.out.size hb5.size)) (And.intro hG6 (And.intro (hat.below hb6) (And.intro hG10 (And.intro hpos hr)))))
            clear hcp hb5 hat hpos hr hG10 hb6 hG6 hw6 hm5
            go_upto_region 18 with fail
            clear hs hG1 hGs c10
            obtain ⟨n2, hn2⟩ : ∃ n, w5.heap.size = n := ⟨_, rfl⟩
            rw [hn2] at HQ ⊢
            clear hn2
            have hrI : (r : Int) ≤ 32 := by omega
            go_wp2_with fail
            go_loopw [12] (fun iv wx => ∃ j : Nat, j ≤ r ∧ iv = .int .i64 (j : Int) ∧ Hid (Below w6.heap.size w6 wx)) (fun iv _ => r - (intOf iv).toNat)
            case atStart => exact ⟨0, by omega, rfl, Lib.hid (Below.refl _ _)⟩
            case round =>
              obtain ⟨k, hk, rfl, HK⟩ := hrel
              have c10 := ((HQ.out.2.1.below HK.out HQ.out.2.1.lt).cell 10).trans HQ.out.2.2.2.1
              by_cases hkr : k < r
              · have hkk : (k : Int) < (r : Int) := by omega
                have hkk0 : (0 : Int) ≤ (k : Int) := by omega
                have hkl : k < ul.length := by rw [HQ.out.2.2.2.2.2]; exact hkr
                obtain ⟨b2, o2, rfl, _, e0⟩ := (HQ.out.2.2.1.below HK.out) k hkl
                obtain ⟨z, hz⟩ : ∃ z, ul[k] = z := ⟨_, rfl⟩
                have hz0 : ¬ z < 0 := by rw [← hz]; exact Int.not_lt.2 (HQ.out.2.2.2.2.1 _ (List.getElem_mem hkl))
                rw [hz] at e0
                clear hz hkl
                go_wp2_with fail
                go_roundw
                case rel => exact ⟨k + 1, by omega, by go_num, HK⟩
                case measure => simp [intOf]; omega
              · obtain rfl : k = r := by omega
                have HW7 := Lib.hid (below_then HQ.out.1 HK.out HQ.out.1.size)
                clear HQ
                go_wp2_with fail
                refine (HL.out _ HW7.out).mono ?_
                rintro e w8 ⟨rfl, hb⟩
                go_wp2_with fail
                go_ret
                exact ⟨rfl, hb⟩
end Go.Proofs.YtbagmjedkcipgaaDoor
