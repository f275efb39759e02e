/-
  The law StateBack: behind q, operators that do not pop below it, and the missing Qs, a machine is in the state in which it was.
-/
import Derived.Test.YtbagmjedkcipgaaDoorMgSttSty
namespace Go.Proofs.YtbagmjedkcipgaaDoor
open Go.RowKit Mat
attribute [-go_sem] loadCells

/-- Behind q: the machine, and a copy of the state s0 in block n. -/
structure BkAt (H x n : Nat) (s0 s : St) (v : Value) (ss : List St) (G : Array Value) (W0 W : World) : Prop where
  m : MAt H x W s v ss
  b : Below H W0 W
  c : CopyAt W x v s0 G
  w : Blk W n 40 G
  nx : n ≠ x
  nv : v.ownBlock ≠ some n
section
variable {H x n : Nat} {s0 s s' : St} {v v' : Value} {ss ss' : List St} {G : Array Value} {W0 W W' : World}
theorem BkAt.keep (h : BkAt H x n s0 s v ss G W0 W) (hm : MAt H x W' s' v' ss') (ht : Two W W' x v.ownBlock) (hv : NewRow W v v') (hH : H ≤ W0.heap.size) : BkAt H x n s0 s' v' ss' G W0 W' :=
  ⟨hm, h.m.far ht h.b hH, h.c.two ht hv, ht.blk h.w h.nx (fun e => h.nv e.symm), h.nx, fun e => by
    rcases hv with hv | ⟨g, hv, hg⟩
    · exact h.nv (by rw [← hv, e])
    · rw [hv] at e
      injection e with e
      have := h.w.lt
      omega⟩
theorem BkAt.below (h : BkAt H x n s0 s v ss G W0 W) (hb : Below W.heap.size W W') (hH : H ≤ W0.heap.size) : BkAt H x n s0 s v ss G W0 W' :=
  h.keep (h.m.below hb) (belowTwo hb x _) (NewRow.refl _ _) hH
/-- What an operator leaves of the states that were saved. -/
theorem saved_keep {P : Prop} {ss rest ss' : List St} {s0 s1 s' : St} (h : ss' = ss ++ s0 :: rest ∨ ss' = (ss ++ s0 :: rest) ++ [s1] ∨ (P ∧ ss ++ s0 :: rest = ss' ++ [s'])) (hP : P → rest ≠ []) : ∃ r, ss' = ss ++ s0 :: r := by
  rcases h with h | h | ⟨hp, h⟩
  · exact ⟨_, h⟩
  · exact ⟨rest ++ [s1], by rw [h]; simp⟩
  · rcases List.eq_nil_or_concat rest with hr | ⟨r, t, hr⟩
    · exact absurd hr (hP hp)
    · rw [hr, List.concat_eq_append, ← List.cons_append, ← List.append_assoc] at h
      exact ⟨r, (List.append_inj' h rfl).1.symm⟩
/-- q, where there is no room. -/
theorem q_no (h : MAt H x W s v ss) (hsp : SpaceAt W) (hg : 0 < W.heap.size) (hk : ¬ ss.length < 28) :
    Calls Tryd.prog 8 #[.pointer (some ⟨x, 0, none⟩), .agg #[.string ⟨#[113]⟩, .slice none 0 0, .string ⟨#[]⟩]] W (DoIs H x W s v ss [113] 6) := by
  obtain ⟨A0, c0, hv0⟩ := own_form h.saved
  exact do_fail h hsp hg 28 (fun _ _ => by kernel_rfl) ⟨#[113]⟩ ⟨#[]⟩ none 0 [] change_q (fun _ hj => absurd hj (Nat.not_lt_zero _)) (by decide) 6 (by decide) chk_q
    (fun V N _ _ hVN => change1_no N (mst s v) A0 c0 ss.length V none 0 0 (by omega) (by rw [mst_v, hv0]) hVN)
end
/-- The states that were saved behind q, and the state at hand: where none is left, it is the one that q saved. -/
def Rest (s0 s : St) (rest : List St) : Prop := (rest = [] ∧ s = s0) ∨ ∃ r, rest = s0 :: r
theorem Rest.pop {s0 s t : St} {rest r : List St} (h : Rest s0 s rest) (hr : rest = r ++ [t]) : Rest s0 t r := by
  rcases h with ⟨h, _⟩ | ⟨r1, h⟩
  · rw [h] at hr
    simp at hr
  · rw [h] at hr
    cases r with
    | nil =>
      simp at hr
      exact Or.inl ⟨rfl, hr.1.symm⟩
    | cons a r2 =>
      injection hr with h1 h2
      exact Or.inr ⟨r2, by rw [h1]⟩

set_option maxRecDepth 100000 in
set_option maxHeartbeats 32000000 in
theorem stateBack_any (m : Mx) (A : Option Addr) (ca : Nat) (l : List OpT) (A2 : Option Addr) (ca2 : Nat) (l2 : List OpT) (w : World) (hO : OpsIs w A l) (hm : l.length ≤ maxLen) (hO2 : OpsIs w A2 l2) (hm2 : l2.length ≤ maxLen) (hsp : SpaceAt w) (hg : 0 < w.heap.size) :
    Calls Tryd.prog 3 #[mxV m, .slice A l.length ca, .slice A2 l2.length ca2] w fun e w' => e = .returned (.bool true) ∧ Below w.heap.size w w' := by
  obtain ⟨C, hC⟩ : ∃ C, mxC m = C := ⟨_, rfl⟩
  obtain ⟨V, hV⟩ : ∃ V, w.alloc (.cells C 23) = V := ⟨_, rfl⟩
  have hVm : Blk V w.heap.size 23 C := by rw [← hV]; exact Blk.new w _ _
  have hVb : Below w.heap.size w V := by rw [← hV]; exact (Below.refl _ w).alloc (Nat.le_refl _) _
  have hVs : V.heap.size = w.heap.size + 1 := by rw [← hV, World.size_alloc]
  have HSm := Lib.hid (small_any A ca l V (hO.below hVb) hm)
  have HSm2 := Lib.hid (fun (W : World) (hW : Below V.heap.size V W) => (small_any A2 ca2 l2 W (hO2.below (below_then hVb hW hVb.size)) hm2).mono fun e w' (h : ∃ z : Bool, _ ∧ _) => show ∃ z : Bool, e = .returned (.bool z) ∧ Below V.heap.size V w' from by
    obtain ⟨z, h1, h2⟩ := h
    exact ⟨z, h1, below_then hW h2 hW.size⟩)
  have HL := Lib.hid (fun (W : World) (hW : Below w.heap.size w W) => (lives_any W (hsp.below hW hg) (Nat.lt_of_lt_of_le hg hW.size)).mono fun e w' (h : _ ∧ _) => And.intro h.1 (below_then hW h.2 hW.size))
  have HL0 := Lib.hid (fun (W : World) (hW : Below w.heap.size w W) => lives_any W (hsp.below hW hg) (Nat.lt_of_lt_of_le hg hW.size))
  have HM : Hid (∀ W : World, Below V.heap.size V W → (loadCells ⟨w.heap.size, 0, none⟩ 6).run Tryd.prog W = .ok C W) := Lib.hid (fun W hW => by
    have hb := hVm.below hW (by omega)
    have := run_loadCells_list (P := Tryd.prog) W ⟨w.heap.size, 0, none⟩ C.toList (fun j u hu => by
      rw [Addr.add_mid, Nat.zero_add, hb.cell]
      simpa using hu)
    rw [← hC] at this ⊢
    exact this)
  have HN1 := Lib.hid (fun (W : World) (hW : w.heap.size ≤ W.heap.size) (h : okM m = true) => new_at m W h hW)
  have HN0 := Lib.hid (fun (W : World) (h : okM m = false) => new_none m W h)
  rw [show mxV m = .agg C by rw [← hC]; rfl] at HN1 HN0 ⊢
  have HS := Lib.hid (And.intro hsp hg)
  have HO := Lib.hid hO
  have HO2 := Lib.hid hO2
  obtain ⟨p, hp⟩ : ∃ p, l.length = p := ⟨_, rfl⟩
  have HP := Lib.hid hp
  obtain ⟨p2, hp2⟩ : ∃ p, l2.length = p := ⟨_, rfl⟩
  have HP2 := Lib.hid hp2
  rw [hp] at HSm hm ⊢
  rw [hp2] at HSm2 hm2 ⊢
  unfold maxLen at hm hm2
  have hpI : (p : Int) ≤ 9223372036854775807 := by omega
  have hpI2 : (p2 : Int) ≤ 9223372036854775807 := by omega
  have HV := Lib.hid (And.intro hV (And.intro hVm (And.intro hVb hVs)))
  clear hO hm hO2 hm2 hsp hg hV hVm hVb hVs hC hp hp2
  go_enter Tryd.func3, Tryd.ntmps3
  go_upto_region 1 with fail
  rw [HV.out.1]
  go_wp2_with fail
  refine HSm.out.mono ?_
  rintro e w1 ⟨z, rfl, hb1⟩
  have HB1 := Lib.hid hb1
  clear hb1 HSm
  cases z with
  | false =>
    have HW1 := Lib.hid (below_then HV.out.2.2.1 HB1.out HV.out.2.2.1.size)
    go_wp2_with fail
    refine (HL.out _ HW1.out).mono ?_
    rintro e w2 ⟨rfl, hb⟩
    go_wp2_with fail
    go_ret
    exact ⟨rfl, hb⟩
  | true =>
    go_wp2_with fail
    refine (HSm2.out w1 HB1.out).mono ?_
    rintro e w1' ⟨z2, rfl, hb1⟩
    have HB1 := Lib.hid hb1
    have hl1 := HM.out w1' hb1
    clear hb1 HSm2
    have HW1 := Lib.hid (below_then HV.out.2.2.1 HB1.out HV.out.2.2.1.size)
    cases z2 with
    | false =>
      go_wp2_with fail
      refine (HL.out _ HW1.out).mono ?_
      rintro e w2 ⟨rfl, hb⟩
      go_wp2_with fail
      go_ret
      exact ⟨rfl, hb⟩
    | true =>
      by_cases hok : okM m = true
      case neg =>
        have hok' := Bool.eq_false_iff.2 hok
        clear hok
        go_wp2_with fail
        refine (HN0.out _ hok').mono ?_
        rintro e w2 ⟨rfl, hb⟩
        have HW2 := Lib.hid (below_then HW1.out hb HW1.out.size)
        clear hb hl1
        go_wp2_with fail
        refine (HL.out _ HW2.out).mono ?_
        rintro e w3 ⟨rfl, hb⟩
        go_wp2_with fail
        go_ret
        exact ⟨rfl, hb⟩
      go_wp2_with fail
      refine (HN1.out _ HW1.out.size hok).mono ?_
      rintro e w2 ⟨x, rfl, hx, hX, hb⟩
      have HW2 := Lib.hid (below_then HW1.out hb HW1.out.size)
      have HX2 := Lib.hid hX
      clear hb hl1 hx hX hok HN1 HN0 HM HB1 HW1
      go_wp2_with fail
      go_loopw [8] (fun iv wr => ∃ (i : Nat) (s : St) (v : Value) (ss : List St), i ≤ p ∧ iv = .int .i64 (i : Int) ∧ Hid (Below w.heap.size w wr ∧ MAt w.heap.size x wr s v ss)) (fun iv _ => p - (intOf iv).toNat)
      case atStart => exact ⟨0, _, _, _, by omega, rfl, Lib.hid ⟨HW2.out, HX2.out⟩⟩
      case round =>
        obtain ⟨i, s, v, ss, hi, rfl, HI⟩ := hrel
        by_cases hlt : i < p
        · have hik : (i : Int) < (p : Int) := by omega
          have hik0 : (0 : Int) ≤ (i : Int) := by omega
          have hil : i < l.length := by rw [HP.out]; exact hlt
          obtain ⟨b, off, ra, rc, rfl, hb, c0, c1, c2, hk, hkm⟩ := HO.out i hil
          obtain ⟨nm, hnm⟩ : ∃ x, l[i].nm = x := ⟨_, rfl⟩
          obtain ⟨dt, hdt⟩ : ∃ x, l[i].data = x := ⟨_, rfl⟩
          obtain ⟨ts, hts⟩ : ∃ x, l[i].args = x := ⟨_, rfl⟩
          rw [hnm] at c0
          rw [hdt] at c2
          rw [hts] at c1 hk hkm
          obtain ⟨c, hD⟩ := do_any w.heap.size x s v ss nm dt ts ra rc hkm
          obtain ⟨q, hq⟩ : ∃ q, ts.length = q := ⟨_, rfl⟩
          rw [hq] at c1 hD
          have HDo := Lib.hid (hD wr HI.out.2 (HS.out.1.below HI.out.1 HS.out.2) (Nat.lt_of_lt_of_le HS.out.2 HI.out.1.size) HI.out.1.size (KidsIs.below HI.out.1 ra ts 0 hk))
          have hl3 : (loadCells ⟨b, off + i * 3, none⟩ 3).run Tryd.prog wr = .ok #[.string nm, .slice ra q rc, .string dt] wr := ld_op ((HI.out.1.cell (p := ⟨b, off + i * 3, none⟩) hb).trans c0) ((HI.out.1.cell (p := ⟨b, off + i * 3 + 1, none⟩) hb).trans c1) ((HI.out.1.cell (p := ⟨b, off + i * 3 + 2, none⟩) hb).trans c2)
          clear hD hnm hdt hts hq hk hkm c0 c1 c2 hb hil
          go_wp2_with fail
          refine HDo.out.mono ?_
          rintro e w3 ⟨s', v', ss', rfl, h1, h2, _⟩
          have HE := Lib.hid (And.intro (HI.out.2.far h2 HI.out.1 (Nat.le_refl _)) h1)
          clear h1 h2 hl3
          go_wp2_with fail
          go_roundw
          case rel => exact ⟨i + 1, s', v', ss', by omega, by go_num, HE⟩
          case measure => simp [intOf]; omega
        · obtain rfl : i = p := by omega
          obtain ⟨Z, hZ⟩ : ∃ Z, zeroG = Z := ⟨_, rfl⟩
          have hZs : Z.size = 30 := by rw [← hZ]; rfl
          unfold zeroG at hZ
          clear HX2 HW2 HP HO
          obtain ⟨wm, hwm⟩ : ∃ v, v = wr := ⟨_, rfl⟩
          subst hwm
          go_wp2_with fail
          refine (state_at HI.out.2).mono ?_
          rintro e w3 ⟨t, rfl, hcp, hb3⟩
          have hW3 := below_then HI.out.1 hb3 HI.out.1.size
          have hM3 := HI.out.2.below hb3
          have hC3 := hcp.at_
          have hGs := cells_size t
          have hG1 := cells_all t
          generalize t.cells.toArray = G at *
          clear hcp
          go_wp2_with fail
          refine (depth_at hM3).mono ?_
          rintro e w3' ⟨rfl, rfl⟩
          have hs := stg_new hGs hG1 hZs w3
          obtain ⟨w4, hw4⟩ : ∃ w4, w3.alloc (.cells G 40) = w4 := ⟨_, rfl⟩
          have hb4 : Below w3.heap.size w3 w4 := by rw [← hw4]; exact (Below.refl _ w3).alloc (Nat.le_refl _) _
          have hG4 : Blk w4 w3.heap.size 40 G := by rw [← hw4]; exact Blk.new w3 _ _
          rw [hw4] at hs
          have HR := Lib.hid (show BkAt w.heap.size x w3.heap.size s s v ss G w w4 from ⟨hM3.below hb4, below_then hW3 hb4 hW3.size, hC3.below hb4, hG4, by have := hM3.blk.lt; omega, fun e => by have := saved_lt hM3 e; omega⟩)
          clear hW3 hM3 hC3 hb3 hb4 hG4 hw4 hG1 hZs
          go_upto_region 11 with fail
          obtain ⟨n, hn⟩ : ∃ n, w3.heap.size = n := ⟨_, rfl⟩
          obtain ⟨d, hd⟩ : ∃ d : Nat, ss.length = d := ⟨_, rfl⟩
          have HD := Lib.hid hd
          rw [hn] at HR ⊢
          rw [hd]
          clear hs hn hd
          go_wp2_with fail
          refine (none_any ⟨#[113]⟩ _).mono ?_
          rintro e w5 ⟨rfl, hb5⟩
          have HR5 := Lib.hid (HR.out.below hb5 (Nat.le_refl _))
          clear hb5
          go_wp2_with fail
          by_cases hk : ss.length < 28
          case neg =>
            refine (q_no HR5.out.m (HS.out.1.below HR5.out.b HS.out.2) (Nat.lt_of_lt_of_le HS.out.2 HR5.out.b.size) hk).mono ?_
            rintro e w6 ⟨s', v', ss', rfl, h1, h2, _⟩
            have HW6 := Lib.hid (HR5.out.m.far h2 HR5.out.b (Nat.le_refl _))
            obtain rfl : d = 28 := by have := HR5.out.m.cnt; have := HD.out; omega
            clear h1 h2 hk
            go_wp2_with fail
            refine (HL.out _ HW6.out).mono ?_
            rintro e w7 ⟨rfl, hb⟩
            go_wp2_with fail
            go_ret
            exact ⟨rfl, hb⟩
          refine (q_ok HR5.out.m (HS.out.1.below HR5.out.b HS.out.2) (Nat.lt_of_lt_of_le HS.out.2 HR5.out.b.size) ⟨#[]⟩ none 0 HR5.out.b.size chk_q hk).mono ?_
          rintro e w6 ⟨rfl, v', h1, h2, h3⟩
          have HR6 := Lib.hid (HR5.out.keep h1 h2 h3 (Nat.le_refl _))
          clear h1 h2 h3 HR HR5 HI hi hlt
          have hdI : (d : Int) < 28 := by have := HD.out; omega
          have hdI0 : (0 : Int) ≤ (d : Int) := by omega
          clear hk
          go_wp2_with fail
          go_loopw [11] (fun iv wr => ∃ (j : Nat) (s1 : St) (v1 : Value) (rest : List St), j ≤ p2 ∧ iv = .int .i64 (j : Int) ∧ Hid (BkAt w.heap.size x n s s1 v1 (ss ++ s :: rest) G w wr)) (fun iv _ => p2 - (intOf iv).toNat)
          case atStart => exact ⟨0, _, _, [], by omega, rfl, HR6⟩
          case round =>
            obtain ⟨j, s1, v1, rest, hj, rfl, HJ⟩ := hrel
            by_cases hlt : j < p2
            · have hik : (j : Int) < (p2 : Int) := by omega
              have hik0 : (0 : Int) ≤ (j : Int) := by omega
              have hil : j < l2.length := by rw [HP2.out]; exact hlt
              obtain ⟨b, off, ra, rc, rfl, hb, c0, c1, c2, hk, hkm⟩ := HO2.out j hil
              obtain ⟨nm, hnm⟩ : ∃ x, l2[j].nm = x := ⟨_, rfl⟩
              obtain ⟨dt, hdt⟩ : ∃ x, l2[j].data = x := ⟨_, rfl⟩
              obtain ⟨ts, hts⟩ : ∃ x, l2[j].args = x := ⟨_, rfl⟩
              rw [hnm] at c0
              rw [hdt] at c2
              rw [hts] at c1 hk hkm
              obtain ⟨c, hD⟩ := do_any w.heap.size x s1 v1 (ss ++ s :: rest) nm dt ts ra rc hkm
              obtain ⟨q, hq⟩ : ∃ q, ts.length = q := ⟨_, rfl⟩
              rw [hq] at c1 hD
              have HDo := Lib.hid (hD wr HJ.out.m (HS.out.1.below HJ.out.b HS.out.2) (Nat.lt_of_lt_of_le HS.out.2 HJ.out.b.size) HJ.out.b.size (KidsIs.below HJ.out.b ra ts 0 hk))
              have hl3 : (loadCells ⟨b, off + j * 3, none⟩ 3).run Tryd.prog wr = .ok #[.string nm, .slice ra q rc, .string dt] wr := ld_op ((HJ.out.b.cell (p := ⟨b, off + j * 3, none⟩) hb).trans c0) ((HJ.out.b.cell (p := ⟨b, off + j * 3 + 1, none⟩) hb).trans c1) ((HJ.out.b.cell (p := ⟨b, off + j * 3 + 2, none⟩) hb).trans c2)
              have cn : wr.cell? ⟨b, off + j * 3, none⟩ = some (.string nm) := (HJ.out.b.cell (p := ⟨b, off + j * 3, none⟩) hb).trans c0
              clear hD hnm hdt hts hq hk hkm c0 c1 c2 hb hil
              have hDp := depth_at HJ.out.m
              have hcnt : d + 1 + rest.length ≤ 28 := by have := HJ.out.m.cnt; rw [List.length_append, HD.out, List.length_cons] at this; omega
              rw [show (ss ++ s :: rest).length = d + 1 + rest.length by rw [List.length_append, HD.out, List.length_cons]; omega] at hDp
              obtain ⟨D, hDD⟩ : ∃ D : Int, ((d + 1 + rest.length : Nat) : Int) = D := ⟨_, rfl⟩
              rw [hDD] at hDp
              have HDp := Lib.hid hDp
              have HStep : ∀ (P : Prop), (nm.data.toList = [81] → P) → (P → rest ≠ []) → Hid (Calls Tryd.prog 8 #[.pointer (some ⟨x, 0, none⟩), .agg #[.string nm, .slice ra q rc, .string dt]] wr fun e w' => e = .returned (.int .i64 c) ∧ ∃ s2 v2 r2, BkAt w.heap.size x n s s2 v2 (ss ++ s :: r2) G w w') := fun P h81 hP => Lib.hid (by
                refine HDo.out.mono ?_
                rintro e w3 ⟨s', v', ss', rfl, h1, h2, h3, _, h5⟩
                obtain ⟨r2, rfl⟩ := saved_keep (h5.imp_right (Or.imp_right (And.imp_left h81))) hP
                exact ⟨rfl, s', v', r2, HJ.out.keep h1 h2 h3 (Nat.le_refl _)⟩)
              clear hDp
              by_cases hn : nm.data.toList = [81]
              · by_cases hr : rest = []
                · have hDe : D = (d : Int) + 1 := by rw [← hDD, hr]; simp
                  subst hDe
                  have HJ' := Lib.hid HJ.out
                  clear hDD HStep HDo hl3 hcnt hr
                  obtain rfl := nm_eq (a := #[81]) hn
                  go_wp2_with fail
                  refine HDp.out.mono ?_
                  rintro e w3 ⟨rfl, rfl⟩
                  go_wp2_with fail
                  go_roundw
                  case rel => exact ⟨j + 1, s1, v1, rest, by omega, by go_num, HJ'⟩
                  case measure => simp [intOf]; omega
                · have hDe : (d : Int) + 1 < D := by
                    have : 0 < rest.length := List.length_pos_iff.2 hr
                    omega
                  have HDo2 := HStep (rest ≠ []) (fun _ => hr) (fun h => h)
                  clear hDD HStep HDo hcnt hr
                  obtain rfl := nm_eq (a := #[81]) hn
                  go_wp2_with fail
                  refine HDp.out.mono ?_
                  rintro e w3 ⟨rfl, rfl⟩
                  go_wp2_with fail
                  refine HDo2.out.mono ?_
                  rintro e w4 ⟨rfl, hE⟩
                  have HE := Lib.hid hE
                  clear hE
                  go_wp2_with fail
                  obtain ⟨s2, v2, r2, hE⟩ := HE.out
                  go_roundw
                  case rel => exact ⟨j + 1, s2, v2, r2, by omega, by go_num, Lib.hid hE⟩
                  case measure => simp [intOf]; omega
              · have HDo2 := HStep False (fun h => hn h) (fun h => h.elim)
                have q0 : (nm.toList == [81]) = false := by rw [ByteArray.toList_eq]; simpa using hn
                clear hDD HStep HDo hcnt hn HDp
                go_wp2_with fail
                refine HDo2.out.mono ?_
                rintro e w4 ⟨rfl, hE⟩
                have HE := Lib.hid hE
                clear hE
                go_wp2_with fail
                obtain ⟨s2, v2, r2, hE⟩ := HE.out
                go_roundw
                case rel => exact ⟨j + 1, s2, v2, r2, by omega, by go_num, Lib.hid hE⟩
                case measure => simp [intOf]; omega
            · obtain rfl : j = p2 := by omega
              clear HO2 HP2 HR6
              go_wp2_with fail
              go_loopw [12] (fun iv wr => ∃ (k : Nat) (s1 : St) (v1 : Value) (rest : List St), k + rest.length ≤ 28 ∧ iv = .int .i64 (k : Int) ∧ Hid (Rest s s1 rest ∧ BkAt w.heap.size x n s s1 v1 (ss ++ rest) G w wr)) (fun iv _ => 29 - (intOf iv).toNat)
              case atStart =>
                refine ⟨0, s1, v1, s :: rest, ?_, rfl, Lib.hid ⟨Or.inr ⟨_, rfl⟩, HJ.out⟩⟩
                have := HJ.out.m.cnt
                rw [List.length_append] at this
                omega
              case round =>
                obtain ⟨k, s1, v1, rest, hk, rfl, HJ⟩ := hrel
                have hkI : (k : Int) ≤ 28 := by omega
                have hkI0 : (0 : Int) ≤ (k : Int) := by omega
                by_cases hr : rest = []
                · subst hr
                  obtain rfl : s1 = s := by
                    rcases HJ.out.1 with ⟨_, h⟩ | ⟨r, h⟩
                    · exact h
                    · cases h
                  have hR : RndAt w.heap.size x n s1 v1 ss G w wr := ⟨by have := HJ.out.2.m; rwa [List.append_nil] at this, HJ.out.2.b, HJ.out.2.c, HJ.out.2.w, HJ.out.2.nx, HJ.out.2.nv⟩
                  have HR := Lib.hid hR
                  have hDp := depth_at hR.m
                  rw [HD.out] at hDp
                  have HDp := Lib.hid hDp
                  clear hDp hR HJ
                  go_wp2_with fail
                  refine HDp.out.mono ?_
                  rintro e w3 ⟨rfl, rfl⟩
                  go_upto_region 23 with fail
                  have hR := HR.out
                  have hGs : G.size = 30 := by
                    obtain ⟨t, h, _⟩ := hR.c
                    rw [h]
                    exact cells_size t
                  obtain ⟨Y, hY⟩ : ∃ Y : World → Prop, (fun W : World => RndAt w.heap.size x n s1 v1 ss G w W) = Y := ⟨_, rfl⟩
                  have HYW := Lib.hid (fun (W : World) (h : OnW Y W) => show RndAt w.heap.size x n s1 v1 ss G w W from onW_out hY h)
                  have HYb := Lib.hid (fun (W W' : World) (h : OnW Y W) (hb : Below W.heap.size W W') => show OnW Y W' from onW hY ((onW_out hY h : RndAt w.heap.size x n s1 v1 ss G w W).below hb (Nat.le_refl _)))
                  have HYd := Lib.hid (fun (W : World) (h : OnW Y W) => HYb.out W W.drew h (Below.refl _ _).drew)
                  have hlG : ∀ W : World, OnW Y W → (loadCells ⟨n, 0, none⟩ 30).run Tryd.prog W = .ok G W := fun W h => ldg hGs (HYW.out W h).w
                  have hY4 : OnW Y wr := onW hY hR
                  obtain ⟨E, hE⟩ : ∃ E : World → Array Value → Prop, (fun (W : World) (G1 : Array Value) => CopyAt W x v1 s1 G1) = E := ⟨_, rfl⟩
                  have HSt : Hid (∀ W : World, OnW Y W → Calls Tryd.prog 9 #[.pointer (some ⟨x, 0, none⟩)] W fun e w' => ∃ G1, e = .returned (.agg G1) ∧ OnW Y w' ∧ E w' G1) := Lib.hid (fun W hW => by
                    refine (state_at (HYW.out W hW).m).mono ?_
                    rintro e w' ⟨t, rfl, h1, h2⟩
                    exact ⟨_, rfl, HYb.out _ _ hW h2, by rw [← hE]; exact h1.at_⟩)
                  have HRe : Hid (∀ (W : World) (G1 : Array Value), OnW Y W → E W G1 → Calls Tryd.prog 13 #[.agg G1, .agg G] W fun e w' => e = .returned (.bool true) ∧ OnW Y w') := Lib.hid (fun W G1 hW h1 => by
                    rw [← hE] at h1
                    refine (CopyAt.ref h1 (HYW.out W hW).c).mono ?_
                    rintro e w' ⟨rfl, h2⟩
                    exact ⟨rfl, HYb.out _ _ hW h2⟩)
                  have HSa : Hid (∀ (W : World) (G1 : Array Value), OnW Y W → E W G1 → Calls Tryd.prog 12 #[.agg G1, .agg G] W fun e w' => e = .returned (.bool true) ∧ OnW Y w') := Lib.hid (fun W G1 hW h1 => by
                    rw [← hE] at h1
                    refine (CopyAt.same h1 (HYW.out W hW).c).mono ?_
                    rintro e w' ⟨rfl, h2⟩
                    exact ⟨rfl, HYb.out _ _ hW h2⟩)
                  have HLi : Hid (∀ W : World, OnW Y W → Calls Tryd.prog 6 #[] W fun e w' => e = .returned (.bool true) ∧ OnW Y w') := Lib.hid (fun W hW => by
                    refine (HL0.out W (HYW.out W hW).b).mono ?_
                    rintro e w' ⟨rfl, h2⟩
                    exact ⟨rfl, HYb.out _ _ hW h2⟩)
                  have HDe : Hid (∀ W : World, OnW Y W → Calls Tryd.prog 10 #[.pointer (some ⟨x, 0, none⟩)] W fun e w' => e = .returned (.int .i64 (d : Int)) ∧ OnW Y w') := Lib.hid (fun W hW => by
                    have h := depth_at (HYW.out W hW).m
                    rw [HD.out] at h
                    refine h.mono ?_
                    rintro e w' ⟨rfl, rfl⟩
                    exact ⟨rfl, hW⟩)
                  clear hY hE hR HR HDp hGs hkI hkI0 HL HL0
                  refine wp_region_held_drew (S := fun W => OnW Y W) (by kernel_rfl) (HYd.out _ hY4) (fun hHeld0 => ?_)
                  obtain ⟨V0, hV0⟩ : ∃ U, wr.drew = U := ⟨_, rfl⟩
                  have HV0 := Lib.hid hV0
                  rw [hV0] at hHeld0 ⊢
                  clear hV0
                  refine wpAnyH_norm (l' := #[false, false, false, false, false, false, false, false, false, false, false, false, false, false, false, false, false, false, false, false]) (f' := 20) (by kernel_rfl) (by kernel_rfl) ?_
                  refine wpAnyH_take' (i := 0) (d := 91) (v := ?v1) rfl (by kernel_rfl) (by kernel_rfl) (by kernel_rfl) (by kernel_rfl) (fun _ _ _ h => h) (Or.inl ⟨by kernel_rfl, ?hy1⟩) hHeld0 ?rest1
                  case hy1 => (intro w hSw; go_simp; first | done | with_reducible rfl)
                  case' rest1 =>
                    try simp only [Act.put, List.setIfInBounds_toArray, List.set_cons_zero, List.set_cons_succ]
                  refine wpAnyH_take' (i := 2) (d := 93) (v := ?v2) rfl (by kernel_rfl) (by kernel_rfl) (by kernel_rfl) (by kernel_rfl) (fun _ _ _ h => h) (Or.inl ⟨by kernel_rfl, ?hy2⟩) hHeld0 ?rest2
                  case hy2 => (intro w hSw; go_simp; first | done | with_reducible rfl)
                  case' rest2 =>
                    try simp only [Act.put, List.setIfInBounds_toArray, List.set_cons_zero, List.set_cons_succ]
                  refine wpAnyH_call (i := 1) (d := 92) (α := Unit) (fun _ => .int .i64 (d : Int)) (fun _ w' => OnW Y w') (by kernel_rfl) rfl (by kernel_rfl) (by kernel_rfl) ?y3 ?s3 ?r3
                  case y3 => exact ⟨10, #[.pointer (some ⟨x, 0, none⟩)], by kernel_rfl, (HDe.out _ hHeld0).mono (fun e w' h => ⟨(), h⟩)⟩
                  case s3 => exact fun _ w' h => h
                  case' r3 => intro xW1 W1 hRW1 hHeldW1
                  try simp only [Act.put, List.setIfInBounds_toArray, List.set_cons_zero, List.set_cons_succ]
                  refine wpAnyH_take' (i := 3) (d := 94) (v := .bool true) rfl (by kernel_rfl) (by kernel_rfl) (by kernel_rfl) (by kernel_rfl) (fun _ _ _ h => h) (Or.inl ⟨by kernel_rfl, ?hy4⟩) hHeldW1 ?rest4
                  case hy4 => (intro w hSw; go_simp; first | done | with_reducible rfl)
                  case' rest4 =>
                    try simp only [Act.put, List.setIfInBounds_toArray, List.set_cons_zero, List.set_cons_succ]
                  refine wpAnyH_take' (i := 4) (d := 95) (v := ?v5) rfl (by kernel_rfl) (by kernel_rfl) (by kernel_rfl) (by kernel_rfl) (fun _ _ _ h => h) (Or.inl ⟨by kernel_rfl, ?hy5⟩) hHeldW1 ?rest5
                  case hy5 => (intro w hSw; go_simp; first | done | with_reducible rfl)
                  case' rest5 =>
                    try simp only [Act.put, List.setIfInBounds_toArray, List.set_cons_zero, List.set_cons_succ]
                  refine wpAnyH_take' (i := 5) (d := 96) (v := ?v6) rfl (by kernel_rfl) (by kernel_rfl) (by kernel_rfl) (by kernel_rfl) (fun _ _ _ h => h) (Or.inl ⟨by kernel_rfl, ?hy6⟩) hHeldW1 ?rest6
                  case hy6 => (intro w hSw; go_simp; first | done | with_reducible rfl)
                  case' rest6 =>
                    try simp only [Act.put, List.setIfInBounds_toArray, List.set_cons_zero, List.set_cons_succ]
                  refine wpAnyH_take' (i := 7) (d := 98) (v := .agg G) rfl (by kernel_rfl) (by kernel_rfl) (by kernel_rfl) (by kernel_rfl) (fun _ _ _ h => h) (Or.inl ⟨by kernel_rfl, ?hy7⟩) hHeldW1 ?rest7
                  case hy7 => (intro w hSw; go_simp; first | done | with_reducible rfl)
                  case' rest7 =>
                    try simp only [Act.put, List.setIfInBounds_toArray, List.set_cons_zero, List.set_cons_succ]
                  refine wpAnyH_call (i := 6) (d := 97) (α := Array Value) (fun x => .agg x) (fun x w' => OnW Y w' ∧ E w' x) (by kernel_rfl) rfl (by kernel_rfl) (by kernel_rfl) ?y8 ?s8 ?r8
                  case y8 => exact ⟨9, #[.pointer (some ⟨x, 0, none⟩)], by kernel_rfl, (HSt.out _ hHeldW1).mono (fun e w' ⟨G1, h1, h2, h3⟩ => ⟨G1, h1, h2, h3⟩)⟩
                  case s8 => exact fun _ w' h => h.1
                  case' r8 => intro xW2 W2 hRW2 hHeldW2
                  try simp only [Act.put, List.setIfInBounds_toArray, List.set_cons_zero, List.set_cons_succ]
                  refine wpAnyH_call (i := 8) (d := 99) (α := Unit) (fun _ => .bool true) (fun _ w' => OnW Y w') (by kernel_rfl) rfl (by kernel_rfl) (by kernel_rfl) ?y9 ?s9 ?r9
                  case y9 => exact ⟨12, #[.agg xW2, .agg G], by kernel_rfl, (HSa.out _ _ hHeldW2 hRW2.2).mono (fun e w' h => ⟨(), h⟩)⟩
                  case s9 => exact fun _ w' h => h
                  case' r9 => intro xW3 W3 hRW3 hHeldW3
                  try simp only [Act.put, List.setIfInBounds_toArray, List.set_cons_zero, List.set_cons_succ]
                  refine wpAnyH_take' (i := 9) (d := 100) (v := .bool true) rfl (by kernel_rfl) (by kernel_rfl) (by kernel_rfl) (by kernel_rfl) (fun _ _ _ h => h) (Or.inl ⟨by kernel_rfl, ?hy10⟩) hHeldW3 ?rest10
                  case hy10 => (intro w hSw; go_simp; first | done | with_reducible rfl)
                  case' rest10 =>
                    try simp only [Act.put, List.setIfInBounds_toArray, List.set_cons_zero, List.set_cons_succ]
                  refine wpAnyH_take' (i := 10) (d := 101) (v := ?v11) rfl (by kernel_rfl) (by kernel_rfl) (by kernel_rfl) (by kernel_rfl) (fun _ _ _ h => h) (Or.inl ⟨by kernel_rfl, ?hy11⟩) hHeldW3 ?rest11
                  case hy11 => (intro w hSw; go_simp; first | done | with_reducible rfl)
                  case' rest11 =>
                    try simp only [Act.put, List.setIfInBounds_toArray, List.set_cons_zero, List.set_cons_succ]
                  refine wpAnyH_take' (i := 11) (d := 102) (v := ?v12) rfl (by kernel_rfl) (by kernel_rfl) (by kernel_rfl) (by kernel_rfl) (fun _ _ _ h => h) (Or.inl ⟨by kernel_rfl, ?hy12⟩) hHeldW3 ?rest12
                  case hy12 => (intro w hSw; go_simp; first | done | with_reducible rfl)
                  case' rest12 =>
                    try simp only [Act.put, List.setIfInBounds_toArray, List.set_cons_zero, List.set_cons_succ]
                  refine wpAnyH_take' (i := 13) (d := 104) (v := .agg G) rfl (by kernel_rfl) (by kernel_rfl) (by kernel_rfl) (by kernel_rfl) (fun _ _ _ h => h) (Or.inl ⟨by kernel_rfl, ?hy13⟩) hHeldW3 ?rest13
                  case hy13 => (intro w hSw; go_simp; first | done | with_reducible rfl)
                  case' rest13 =>
                    try simp only [Act.put, List.setIfInBounds_toArray, List.set_cons_zero, List.set_cons_succ]
                  refine wpAnyH_call (i := 12) (d := 103) (α := Array Value) (fun x => .agg x) (fun x w' => OnW Y w' ∧ E w' x) (by kernel_rfl) rfl (by kernel_rfl) (by kernel_rfl) ?y14 ?s14 ?r14
                  case y14 => exact ⟨9, #[.pointer (some ⟨x, 0, none⟩)], by kernel_rfl, (HSt.out _ hHeldW3).mono (fun e w' ⟨G1, h1, h2, h3⟩ => ⟨G1, h1, h2, h3⟩)⟩
                  case s14 => exact fun _ w' h => h.1
                  case' r14 => intro xW4 W4 hRW4 hHeldW4
                  try simp only [Act.put, List.setIfInBounds_toArray, List.set_cons_zero, List.set_cons_succ]
                  refine wpAnyH_call (i := 14) (d := 105) (α := Unit) (fun _ => .bool true) (fun _ w' => OnW Y w') (by kernel_rfl) rfl (by kernel_rfl) (by kernel_rfl) ?y15 ?s15 ?r15
                  case y15 => exact ⟨13, #[.agg xW4, .agg G], by kernel_rfl, (HRe.out _ _ hHeldW4 hRW4.2).mono (fun e w' h => ⟨(), h⟩)⟩
                  case s15 => exact fun _ w' h => h
                  case' r15 => intro xW5 W5 hRW5 hHeldW5
                  try simp only [Act.put, List.setIfInBounds_toArray, List.set_cons_zero, List.set_cons_succ]
                  refine wpAnyH_take' (i := 15) (d := 106) (v := .bool true) rfl (by kernel_rfl) (by kernel_rfl) (by kernel_rfl) (by kernel_rfl) (fun _ _ _ h => h) (Or.inl ⟨by kernel_rfl, ?hy16⟩) hHeldW5 ?rest16
                  case hy16 => (intro w hSw; go_simp; first | done | with_reducible rfl)
                  case' rest16 =>
                    try simp only [Act.put, List.setIfInBounds_toArray, List.set_cons_zero, List.set_cons_succ]
                  refine wpAnyH_take' (i := 16) (d := 107) (v := ?v17) rfl (by kernel_rfl) (by kernel_rfl) (by kernel_rfl) (by kernel_rfl) (fun _ _ _ h => h) (Or.inl ⟨by kernel_rfl, ?hy17⟩) hHeldW5 ?rest17
                  case hy17 => (intro w hSw; go_simp; first | done | with_reducible rfl)
                  case' rest17 =>
                    try simp only [Act.put, List.setIfInBounds_toArray, List.set_cons_zero, List.set_cons_succ]
                  refine wpAnyH_call (i := 17) (d := 108) (α := Unit) (fun _ => .bool true) (fun _ w' => OnW Y w') (by kernel_rfl) rfl (by kernel_rfl) (by kernel_rfl) ?y18 ?s18 ?r18
                  case y18 => exact ⟨6, #[], by kernel_rfl, (HLi.out _ hHeldW5).mono (fun e w' h => ⟨(), h⟩)⟩
                  case s18 => exact fun _ w' h => h
                  case' r18 => intro xW6 W6 hRW6 hHeldW6
                  try simp only [Act.put, List.setIfInBounds_toArray, List.set_cons_zero, List.set_cons_succ]
                  refine wpAnyH_take' (i := 18) (d := 109) (v := .bool true) rfl (by kernel_rfl) (by kernel_rfl) (by kernel_rfl) (by kernel_rfl) (fun _ _ _ h => h) (Or.inl ⟨by kernel_rfl, ?hy19⟩) hHeldW6 ?rest19
                  case hy19 => (intro w hSw; go_simp; first | done | with_reducible rfl)
                  case' rest19 =>
                    try simp only [Act.put, List.setIfInBounds_toArray, List.set_cons_zero, List.set_cons_succ]
                  refine wpAnyH_take' (i := 19) (d := 6) (v := ?v20) rfl (by kernel_rfl) (by kernel_rfl) (by kernel_rfl) (by kernel_rfl) (fun _ _ _ h => h) (Or.inl ⟨by kernel_rfl, ?hy20⟩) hHeldW6 ?rest20
                  case hy20 => (intro w hSw; go_simp; first | done | with_reducible rfl)
                  case' rest20 =>
                    try simp only [Act.put, List.setIfInBounds_toArray, List.set_cons_zero, List.set_cons_succ]
                  refine wpAnyH_done (by kernel_rfl) ?_ _
                  have HE6 := Lib.hid (HYW.out _ hRW6).b
                  go_wp2_with fail
                  go_ret
                  exact ⟨rfl, HE6.out⟩
                · have hrl := List.length_pos_iff.2 hr
                  have hDp := depth_at HJ.out.2.m
                  obtain ⟨D, hDD⟩ : ∃ D : Int, ((ss ++ rest).length : Int) = D := ⟨_, rfl⟩
                  rw [hDD] at hDp
                  have hDe : (d : Int) < D := by
                    rw [← hDD, List.length_append, HD.out]
                    omega
                  have HDp := Lib.hid hDp
                  have HK := Lib.hid (And.intro hk hr)
                  clear hDp hDD hk hr hrl
                  go_wp2_with fail
                  refine HDp.out.mono ?_
                  rintro e w3 ⟨rfl, rfl⟩
                  go_wp2_with fail
                  refine (none_any ⟨#[81]⟩ _).mono ?_
                  rintro e w4 ⟨rfl, hb4⟩
                  have HJ4 := Lib.hid (HJ.out.2.below hb4 (Nat.le_refl _))
                  clear hb4
                  go_wp2_with fail
                  obtain ⟨r, t, hrt⟩ : ∃ (r : List St) (t : St), rest = r ++ [t] := by
                    rcases List.eq_nil_or_concat rest with h | ⟨r, t, h⟩
                    · exact absurd h HK.out.2
                    · exact ⟨r, t, by rw [h, List.concat_eq_append]⟩
                  refine (Q_ok HJ4.out.m (HS.out.1.below HJ4.out.b HS.out.2) (Nat.lt_of_lt_of_le HS.out.2 HJ4.out.b.size) ⟨#[]⟩ none 0 (ss ++ r) t (by rw [hrt, List.append_assoc]) chk_Q).mono ?_
                  rintro e w5 ⟨rfl, v', h1, h2, h3⟩
                  have HE := Lib.hid (And.intro (HJ.out.1.pop hrt) (HJ4.out.keep h1 (h2.none_any _) h3 (Nat.le_refl _)))
                  have HK2 := Lib.hid (show (k + 1) + r.length ≤ 28 by have := HK.out.1; rw [hrt, List.length_append] at this; simp at this; omega)
                  clear h1 h2 h3 hrt
                  go_wp2_with fail
                  have hk2 := HK2.out
                  go_roundw
                  case rel => exact ⟨k + 1, t, v', r, hk2, by go_num, HE⟩
                  case measure => simp [intOf]; omega
end Go.Proofs.YtbagmjedkcipgaaDoor
