/-
  The state of a machine, with its dashes: the list is a copy.
-/
import Derived.Test.YtbagmjedkcipgaaDoorMgSttDs
import Derived.Test.YtbagmjedkcipgaaDoorMgSttQ
namespace Go.Proofs.YtbagmjedkcipgaaDoor
open Go.RowKit
attribute [-go_sem] Builtin.append_

set_option maxRecDepth 100000 in
set_option maxHeartbeats 4000000 in
theorem clone_any (A : Option Addr) (c : Nat) (l : List Int) (W : World) (h : NAt W A l) (hl : l.length ≤ 1000) (hA : A = none → c = 0 ∧ l = []) :
    Calls Tryd.prog 24 #[.slice A l.length c] W fun e w' => ∃ v, e = .returned v ∧ w'.ownsRow W.heap.size 2 1 v l.length (numC l) ∧ Below W.heap.size W w' := by
  cases A with
  | none =>
    obtain ⟨rfl, rfl⟩ := hA rfl
    refine (clone_nil W).mono ?_
    rintro e w' ⟨rfl, rfl⟩
    exact ⟨_, rfl, World.ownsRow_nil _ _ _ _, Below.refl _ _⟩
  | some a =>
    have hq : ∀ (n : Nat) (W : World), (binOp .eql 34 (.slice (some a) n c) (.slice none 0 0)).run Tryd.prog W = .ok (.bool false) W := fun _ _ => by kernel_rfl
    obtain ⟨i0, hi, hz0, hz1, hz2⟩ := info_parts infoI
    have hnews : ∀ j u, (numC l)[j]? = some u → W.cell? (a.add j) = some u := fun j u hu => by
      have hj : j < l.length := by have := (List.getElem?_eq_some_iff.1 hu).1; simpa [numC] using this
      obtain ⟨b, off, e, _, hc⟩ := h j hj
      injection e with e
      subst e
      rw [Addr.add_mid, hc]
      simpa [numC, hj] using hu
    have HNs := Lib.hid (fun j u hu => by
      have h1 := hnews j u hu
      have : a.block < W.heap.size := by
        have := World.block_lt_of_cell? W _ h1
        simpa [Addr.add] using (by unfold Addr.add at this; split at this <;> exact this)
      exact (show (W.alloc (.cells #[] 2)).cell? (a.add j) = some u by
        rw [World.cell?_alloc_lt _ _ _ (by unfold Addr.add; split <;> exact this)]; exact h1))
    have HL := Lib.hid hl
    have h1c : ∀ u ∈ numC l, u.oneCell' = true := fun u hu => by
      unfold numC at hu
      obtain ⟨x, _, rfl⟩ := List.mem_map.1 hu
      rfl
    obtain ⟨n, hn⟩ : ∃ n, l.length = n := ⟨_, rfl⟩
    have HN := Lib.hid hn
    rw [hn] at hl ⊢
    clear h hA hn hnews
    go_enter Tryd.func24, Tryd.ntmps24
    go_wp2_with (at_builtin; refine wpList_append_own _ rfl _ _ 34 rfl W.heap.size 2 i0 (.int .i64 0) 1 8 Tryd.underlying34 hi hz0 hz1 hz2 rfl (by decide) (.slice (some ⟨W.heap.size, 0, none⟩) 0 0) 0 [] rfl (World.ownsRow_lit W #[] 0 (Nat.le_refl _) (by unfold maxLen; omega) rfl) a n c (numC l) rfl (by rw [← HN.out]; simp [numC]) HNs.out h1c (by unfold maxLen; omega) (by omega) (by simp) ?_; intro v w3 hown hgrow _)
    have HO := Lib.hid (show w3.ownsRow W.heap.size 2 1 v n (numC l) by simpa using hown)
    have HB := Lib.hid (show Below W.heap.size W w3 from ((Below.refl _ W).alloc (Nat.le_refl _) _).grown hgrow (by simp) (fun r hr => by simp [Value.ownBlock] at hr; omega))
    clear hown hgrow
    go_wp2_with fail
    go_ret
    exact ⟨v, rfl, HO.out, HB.out⟩
attribute [-go_sem] loadCells storeCells

set_option maxRecDepth 100000 in
set_option maxHeartbeats 4000000 in
/-- The state of a machine. -/
theorem state_dash (x : Nat) (M : Array Value) (A : Option Addr) (c : Nat) (l : List Int) (w : World) (hx : Blk w x 57 M) (hM : MOk M) (hd : (gOf M)[10]? = some (.slice A l.length c)) (hA : NAt w A l) (hl : l.length ≤ 1000) (hn : A = none → c = 0 ∧ l = []) :
    Calls Tryd.prog 9 #[.pointer (some ⟨x, 0, none⟩)] w fun e w' => ∃ v, e = .returned (.agg ((gOf M).toArray.setIfInBounds 10 v)) ∧ v.oneCell' = true ∧ w'.ownsRow w.heap.size 2 1 v l.length (numC l) ∧ Below w.heap.size w w' := by
  have hxl := hx.lt
  have hGs : (gOf M).toArray.size = 30 := by simpa using gOf_len hM
  have hG1 : (gOf M).toArray.all (·.oneCell') = true := all_oneCell_toArray (gOf_one hM)
  have hlx : ∀ W : World, Blk W x 57 M → (loadCells ⟨x, 0, none⟩ 30).run Tryd.prog W = .ok (gOf M).toArray W := fun W hW => ld_g hM hW
  have hd' : (gOf M).toArray[10]? = some (.slice A l.length c) := by simpa using hd
  generalize (gOf M).toArray = G at *
  obtain ⟨Z, hZ⟩ : ∃ Z, zeroG = Z := ⟨_, rfl⟩
  have hZs : Z.size = 30 := by rw [← hZ]; rfl
  have hs1 := stg_new hGs hG1 hZs (w.alloc (.cells Z 40))
  rw [World.size_alloc] at hs1
  have hl1 := hlx _ (hx.alloc (.cells Z 40))
  obtain ⟨V, hV⟩ : ∃ V, (w.alloc (.cells Z 40)).alloc (.cells G 40) = V := ⟨_, rfl⟩
  have hVs : V.heap.size = w.heap.size + 2 := by rw [← hV, World.size_alloc, World.size_alloc]
  have hVz : Blk V w.heap.size 40 Z := by rw [← hV]; exact (Blk.new w _ _).alloc _
  have hVg : Blk V (w.heap.size + 1) 40 G := by
    rw [← hV]
    have := Blk.new (w.alloc (.cells Z 40)) 40 G
    rw [World.size_alloc] at this
    exact this
  have hVb : Below w.heap.size w V := by rw [← hV]; exact ((Below.refl _ w).alloc (Nat.le_refl _) _).alloc (by simp) _
  have HC := Lib.hid (clone_any A c l V (hA.below hVb) hl hn)
  have HV := Lib.hid (And.intro hV (And.intro hVz (And.intro hVg (And.intro hVb hVs))))
  have HG := Lib.hid (And.intro hGs (And.intro hG1 (And.intro hZs hd')))
  unfold zeroG at hZ
  obtain ⟨n, hnn⟩ : ∃ n, l.length = n := ⟨_, rfl⟩
  rw [hnn] at HC HG ⊢
  clear hlx hV hVz hVg hVb hd' hd hG1 hZs hx hM hA hl hn hVs hnn
  go_enter Tryd.func9, Tryd.ntmps9
  go_upto_region 4 with fail
  rw [HV.out.1]
  clear hs1 hl1
  have c10 := (HV.out.2.2.1.cell 10).trans HG.out.2.2.2
  go_wp2_with fail
  refine HC.out.mono ?_
  rintro e w1 ⟨v, rfl, hown, hb⟩
  obtain ⟨A1, c1, rfl⟩ := own_form hown
  have bg := HV.out.2.2.1.below hb HV.out.2.2.1.lt
  have bz := HV.out.2.1.below hb HV.out.2.1.lt
  have bw := HV.out.2.2.2.1.trans (hb.mono HV.out.2.2.2.1.size)
  have hs2 := run_st bg 10 [.slice A1 n c1] (by rw [HG.out.1]; exact Nat.le_of_ble_eq_true rfl) (by simp [Value.oneCell'])
  obtain ⟨V2, hV2⟩ : ∃ V2, w1.setCells (w.heap.size + 1) 10 [.slice A1 n c1] = V2 := ⟨_, rfl⟩
  obtain ⟨G2, hG2⟩ : ∃ G2, G.setIfInBounds 10 (.slice A1 n c1) = G2 := ⟨_, rfl⟩
  have hG2s : G2.size = 30 := by rw [← hG2, Array.size_setIfInBounds]; exact HG.out.1
  have hG21 : G2.all (·.oneCell') = true := by
    rw [← hG2]
    refine Array.all_eq_true_iff_forall_mem.2 fun z hz => ?_
    rcases Array.mem_or_eq_of_mem_setIfInBounds hz with h1 | h1
    · exact (Array.all_eq_true_iff_forall_mem.1 HG.out.2.1) z h1
    · rw [h1]; rfl
  have b2 : Blk V2 (w.heap.size + 1) 40 G2 := by rw [← hV2, ← hG2]; exact bg.set_ 10 _
  have z2 : Blk V2 w.heap.size 40 Z := by rw [← hV2]; exact bz.far (p := ⟨w.heap.size + 1, 10, none⟩) (by show w.heap.size ≠ w.heap.size + 1; omega) _
  have bb : Below w.heap.size w V2 := by rw [← hV2]; exact bw.setCell (p := ⟨w.heap.size + 1, 10, none⟩) (Nat.le_succ _) _
  have o2 : V2.ownsRow w.heap.size 2 1 (.slice A1 n c1) n (numC l) := by
    have hlo : ∀ g, (Value.slice A1 n c1).ownBlock = some g → w.heap.size + 2 ≤ g := fun g hg => by have := (hown.lt g hg).1; rw [HV.out.2.2.2.2] at this; exact this
    have h1 : V2.ownsRow V.heap.size 2 1 (.slice A1 n c1) n (numC l) := own_same hown fun g hg => by
      have := hlo g hg
      rw [← hV2]
      exact Below.heap_setCell _ _ _ _ (by show g ≠ w.heap.size + 1; omega)
    refine ⟨h1.1, ?_⟩
    rcases h1.2 with h | ⟨g, cap, cur, e1, e2, e3⟩
    · exact Or.inl h
    · exact Or.inr ⟨g, cap, cur, e1, by rw [HV.out.2.2.2.2] at e2; omega, e3⟩
  rw [hV2] at hs2
  have hl2 := ldg hG2s b2
  have hs3 : (storeCells ⟨w.heap.size, 0, none⟩ G2.toList).run Tryd.prog V2 = .ok () (V2.setRow w.heap.size G2) := by
    have h := run_storeCells_from (P := Tryd.prog) w.heap.size 40 G2.toList 0 Z V2 z2 (by simp [hG2s, HG.out.2.2.1]) (fun v hv => (Array.all_eq_true_iff_forall_mem.1 hG21) v (by simpa using hv))
    simpa using h
  have hlv := Lib.hid (ldvg hG2s (z2.setRow G2))
  have HB := Lib.hid (bel_setRow bb (Nat.le_refl _) G2)
  have HO := Lib.hid (show (V2.setRow w.heap.size G2).ownsRow w.heap.size 2 1 (.slice A1 n c1) n (numC l) from own_same o2 fun g hg => by
    have h1 := (hown.lt g hg).1
    rw [HV.out.2.2.2.2] at h1
    exact setRow_other _ _ _ _ (by omega))
  have HE := Lib.hid hG2
  clear b2 z2 bb hV2 c10 bg bz bw o2 hown hb hG21 hG2
  go_wp2_with fail
  exact bodyPost_ret (v := .agg G2) (by simp [results, Tryd.results9, asAddr, hlv.out]) rfl ⟨_, by rw [HE.out], rfl, HO.out, HB.out⟩
end Go.Proofs.YtbagmjedkcipgaaDoor
