/-
  First, New and State.
-/
import Derived.Test.YtbagmjedkcipgaaDoorMgSttO
import Derived.Test.YtbagmjedkcipgaaDoorMgSttH
namespace Go.Proofs.YtbagmjedkcipgaaDoor
open Go.RowKit Mat
attribute [-go_sem] loadCells storeCells

theorem bel_setRow {B g : Nat} {w0 w : World} (hb : Below B w0 w) (hBg : B ≤ g) (cs : Array Value) : Below B w0 (w.setRow g cs) :=
  ⟨hb.os, hb.tape, hb.output, by rw [setRow_size]; exact hb.size, fun k hk => (setRow_other w g k cs (by omega)).trans (hb.block k hk)⟩
theorem wpList_built {P : Program} {ops : Array Oper} {rest : List Oper} {o : Oper} {a : Act} {w : World} {Q : Exit → Act → World → Prop} (hg : o.guard = none) (t : TypeId) (parts : Array (Nat × Operand)) (ho : o.op = .build t parts) (cells : Array Value)
    (hf : P.built t (parts.map fun (i, x) => (i, a.eval x)).toList = some cells) (h : wpList P ops Q rest (a.put o.dst (.agg cells)) w) : wpList P ops Q (o :: rest) a w :=
  wpList_build hg t parts ho (by rw [hf]; rfl) (by rw [hf]; exact h)

set_option maxRecDepth 100000 in
set_option maxHeartbeats 4000000 in
theorem first_any (a b c d e f : Int) (w : World) : Calls Tryd.prog 17 #[mxV ⟨a, b, c, d, e, f⟩] w fun e' w' => e' = .returned (.agg (firstC ⟨a, b, c, d, e, f⟩).toArray) ∧ Below w.heap.size w w' := by
  obtain ⟨G, hG⟩ : ∃ G, (firstC ⟨a, b, c, d, e, f⟩).toArray = G := ⟨_, rfl⟩
  have hGs : G.size = 30 := by rw [← hG]; rfl
  have hG1 : G.all (·.oneCell') = true := by rw [← hG]; exact all_oneCell_toArray (first_all _)
  rw [hG]
  obtain ⟨V, hV⟩ : ∃ V, (w.alloc (.cells (mxC ⟨a, b, c, d, e, f⟩) 23)).alloc (.cells zeroG 40) = V := ⟨_, rfl⟩
  have hVm : Blk V w.heap.size 23 (mxC ⟨a, b, c, d, e, f⟩) := by rw [← hV]; exact (Blk.new w _ _).alloc _
  have hVg : Blk V (w.heap.size + 1) 40 zeroG := by
    rw [← hV]
    have := Blk.new (w.alloc (.cells (mxC ⟨a, b, c, d, e, f⟩) 23)) 40 zeroG
    rw [World.size_alloc] at this
    exact this
  have hVb : Below w.heap.size w V := by rw [← hV]; exact ((Below.refl _ w).alloc (Nat.le_refl _) _).alloc (by simp) _
  have HV := Lib.hid (And.intro hV (And.intro hVm (And.intro hVg hVb)))
  unfold mxV
  clear hV hVm hVg hVb
  go_enter Tryd.func17, Tryd.ntmps17
  go_upto_region 1 with fail
  have hV := HV.out.1
  unfold mxC zeroG at hV
  rw [hV]
  clear hV
  refine wp_region_lit ?_
  refine wpList_load_mid rfl 23 _ rfl w.heap.size 0 rfl (mxC ⟨a, b, c, d, e, f⟩).toList _ (fun j v hv => by rw [Nat.zero_add, HV.out.2.1.cell]; simpa using hv) Tryd.underlying23 rfl (by kernel_rfl) ?_
  refine wpList_built rfl 38 _ rfl #[.int .i64 0, .int .i64 0, .int .i64 1000000, .int .i64 0, .int .i64 0, .int .i64 0, .string ⟨#[]⟩, .int .i64 0] (by kernel_rfl) ?_
  refine wpList_built rfl 40 _ rfl G (by rw [← hG]; kernel_rfl) ?_
  refine wpList_store_row rfl _ _ _ rfl (w.heap.size + 1) G rfl rfl _ zeroG HV.out.2.2.1 (ginfo' hGs) (by rw [hGs]; rfl) hG1 ?_
  refine wpList_nil ?_
  have hlv := Lib.hid (ldvg hGs (HV.out.2.2.1.setRow G))
  have HB := Lib.hid (bel_setRow HV.out.2.2.2 (Nat.le_succ _) G)
  clear hG
  go_wp2_with fail
  exact bodyPost_ret (v := .agg G) (by simp [results, Tryd.results17, asAddr, Act.put, hlv.out]) rfl ⟨rfl, HB.out⟩
set_option maxRecDepth 100000 in
set_option maxHeartbeats 4000000 in
theorem refFirst_any (a b c d e f : Int) (w : World) : Calls Tryd.prog 18 #[mxV ⟨a, b, c, d, e, f⟩] w fun e' w' => e' = .returned (.agg (firstC ⟨a, b, c, d, e, f⟩).toArray) ∧ Below w.heap.size w w' := by
  obtain ⟨G, hG⟩ : ∃ G, (firstC ⟨a, b, c, d, e, f⟩).toArray = G := ⟨_, rfl⟩
  have hGs : G.size = 30 := by rw [← hG]; rfl
  have hG1 : G.all (·.oneCell') = true := by rw [← hG]; exact all_oneCell_toArray (first_all _)
  rw [hG]
  obtain ⟨V, hV⟩ : ∃ V, (w.alloc (.cells (mxC ⟨a, b, c, d, e, f⟩) 23)).alloc (.cells zeroG 40) = V := ⟨_, rfl⟩
  have hVm : Blk V w.heap.size 23 (mxC ⟨a, b, c, d, e, f⟩) := by rw [← hV]; exact (Blk.new w _ _).alloc _
  have hVg : Blk V (w.heap.size + 1) 40 zeroG := by
    rw [← hV]
    have := Blk.new (w.alloc (.cells (mxC ⟨a, b, c, d, e, f⟩) 23)) 40 zeroG
    rw [World.size_alloc] at this
    exact this
  have hVb : Below w.heap.size w V := by rw [← hV]; exact ((Below.refl _ w).alloc (Nat.le_refl _) _).alloc (by simp) _
  have HV := Lib.hid (And.intro hV (And.intro hVm (And.intro hVg hVb)))
  unfold mxV
  clear hV hVm hVg hVb
  go_enter Tryd.func18, Tryd.ntmps18
  go_upto_region 1 with fail
  have hV := HV.out.1
  unfold mxC zeroG at hV
  rw [hV]
  clear hV
  refine wp_region_lit ?_
  refine wpList_load_mid rfl 23 _ rfl w.heap.size 0 rfl (mxC ⟨a, b, c, d, e, f⟩).toList _ (fun j v hv => by rw [Nat.zero_add, HV.out.2.1.cell]; simpa using hv) Tryd.underlying23 rfl (by kernel_rfl) ?_
  refine wpList_built rfl 38 _ rfl #[.int .i64 0, .int .i64 0, .int .i64 1000000, .int .i64 0, .int .i64 0, .int .i64 0, .string ⟨#[]⟩, .int .i64 0] (by kernel_rfl) ?_
  refine wpList_built rfl 40 _ rfl G (by rw [← hG]; kernel_rfl) ?_
  refine wpList_store_row rfl _ _ _ rfl (w.heap.size + 1) G rfl rfl _ zeroG HV.out.2.2.1 (ginfo' hGs) (by rw [hGs]; rfl) hG1 ?_
  refine wpList_nil ?_
  have hlv := Lib.hid (ldvg hGs (HV.out.2.2.1.setRow G))
  have HB := Lib.hid (bel_setRow HV.out.2.2.2 (Nat.le_succ _) G)
  clear hG
  go_wp2_with fail
  exact bodyPost_ret (v := .agg G) (by simp [results, Tryd.results18, asAddr, Act.put, hlv.out]) rfl ⟨rfl, HB.out⟩

set_option maxRecDepth 100000 in
set_option maxHeartbeats 4000000 in
theorem new_ok (a b c d e f : Int) (w : World) (h : okM ⟨a, b, c, d, e, f⟩ = true) : Calls Tryd.prog 7 #[mxV ⟨a, b, c, d, e, f⟩] w fun e' w' => ∃ x, e' = .returned (.pointer (some ⟨x, 0, none⟩)) ∧ w.heap.size ≤ x ∧ Blk w' x 57 (mkM (firstC ⟨a, b, c, d, e, f⟩) (.slice none 0 0)) ∧ Below w.heap.size w w' := by
  obtain ⟨V, hV⟩ : ∃ V, w.alloc (.cells (mxC ⟨a, b, c, d, e, f⟩) 23) = V := ⟨_, rfl⟩
  have hVm : Blk V w.heap.size 23 (mxC ⟨a, b, c, d, e, f⟩) := by rw [← hV]; exact Blk.new w _ _
  have hVb : Below w.heap.size w V := by rw [← hV]; exact (Below.refl _ w).alloc (Nat.le_refl _) _
  have HC := Lib.hid (check_any ⟨a, b, c, d, e, f⟩ V)
  rw [show chkM ⟨a, b, c, d, e, f⟩ = 0 by unfold chkM; rw [if_pos h]] at HC
  have HF := Lib.hid (fun W : World => first_any a b c d e f W)
  have hM := Lib.hid (mkM_ok (G := firstC ⟨a, b, c, d, e, f⟩) rfl (first_all _) (v := .slice none 0 0) rfl)
  obtain ⟨G, hG⟩ : ∃ G, (firstC ⟨a, b, c, d, e, f⟩).toArray = G := ⟨_, rfl⟩
  obtain ⟨M, hMM⟩ : ∃ M, mkM (firstC ⟨a, b, c, d, e, f⟩) (.slice none 0 0) = M := ⟨_, rfl⟩
  rw [hG] at HF
  rw [hMM] at hM ⊢
  have HGM := Lib.hid (And.intro hG hMM)
  clear hG hMM
  have HV := Lib.hid (And.intro hV (And.intro hVm hVb))
  clear hV hVm hVb h
  unfold mxV at *
  have hl : ∀ W : World, Blk W w.heap.size 23 (mxC ⟨a, b, c, d, e, f⟩) → (loadCells ⟨w.heap.size, 0, none⟩ 6).run Tryd.prog W = .ok #[.int .i64 a, .int .i64 b, .int .i64 c, .int .i64 d, .int .i64 e, .int .i64 f] W := fun W hW =>
    run_loadCells_list (P := Tryd.prog) W ⟨w.heap.size, 0, none⟩ (mxC ⟨a, b, c, d, e, f⟩).toList (fun j u hu => by
      rw [Addr.add_mid, Nat.zero_add, hW.cell]
      simpa using hu)
  have HL := Lib.hid hl
  clear hl
  go_enter Tryd.func7, Tryd.ntmps7
  go_upto_region 1 with fail
  have hV := HV.out.1
  unfold mxC at hV
  rw [hV]
  clear hV
  have hl1 := HL.out V HV.out.2.1
  go_wp2_with fail
  refine HC.out.mono ?_
  rintro e' w1 ⟨rfl, hb⟩
  have hl2 := HL.out w1 (HV.out.2.1.below hb HV.out.2.1.lt)
  have HB1 := Lib.hid (HV.out.2.2.trans (hb.mono HV.out.2.2.size))
  clear hb hl1
  go_wp2_with fail
  refine (HF.out _).mono ?_
  rintro e' w2 ⟨rfl, hb⟩
  have HB2 := Lib.hid (HB1.out.trans (hb.mono HB1.out.size))
  clear hb hl2
  rename_i K hK
  refine hK _ _ ?_
  refine wpList_built rfl 57 _ rfl M (by rw [← HGM.out.1, ← HGM.out.2]; kernel_rfl) ?_
  have hM1 := hM.out.1
  go_wp2_with fail
  refine bodyPost_ret (v := .pointer (some ⟨w2.heap.size, 0, none⟩)) ?_ ?_ ?_
  · simp [results, Tryd.results7]
  · rfl
  · exact ⟨_, rfl, HB2.out.size, Blk.new w2 _ _, HB2.out.alloc HB2.out.size _⟩
set_option maxRecDepth 100000 in
theorem new_no (a b c d e f : Int) (w : World) (h : okM ⟨a, b, c, d, e, f⟩ = false) : Calls Tryd.prog 7 #[mxV ⟨a, b, c, d, e, f⟩] w fun e' w' => e' = .returned (.pointer none) ∧ Below w.heap.size w w' := by
  obtain ⟨V, hV⟩ : ∃ V, w.alloc (.cells (mxC ⟨a, b, c, d, e, f⟩) 23) = V := ⟨_, rfl⟩
  have hVm : Blk V w.heap.size 23 (mxC ⟨a, b, c, d, e, f⟩) := by rw [← hV]; exact Blk.new w _ _
  have hVb : Below w.heap.size w V := by rw [← hV]; exact (Below.refl _ w).alloc (Nat.le_refl _) _
  have HC := Lib.hid (check_any ⟨a, b, c, d, e, f⟩ V)
  rw [show chkM ⟨a, b, c, d, e, f⟩ = 2 by unfold chkM; rw [h]; rfl] at HC
  have HV := Lib.hid (And.intro hV (And.intro hVm hVb))
  clear hV hVm hVb h
  unfold mxV at *
  have hl1 : (loadCells ⟨w.heap.size, 0, none⟩ 6).run Tryd.prog V = .ok #[.int .i64 a, .int .i64 b, .int .i64 c, .int .i64 d, .int .i64 e, .int .i64 f] V :=
    run_loadCells_list (P := Tryd.prog) V ⟨w.heap.size, 0, none⟩ (mxC ⟨a, b, c, d, e, f⟩).toList (fun j u hu => by
      rw [Addr.add_mid, Nat.zero_add, HV.out.2.1.cell]
      simpa using hu)
  go_enter Tryd.func7, Tryd.ntmps7
  go_upto_region 1 with fail
  have hV := HV.out.1
  unfold mxC at hV
  rw [hV]
  clear hV
  go_wp2_with fail
  refine HC.out.mono ?_
  rintro e' w1 ⟨rfl, hb⟩
  have HB1 := Lib.hid (HV.out.2.2.trans (hb.mono HV.out.2.2.size))
  clear hb hl1
  go_wp2_with fail
  go_ret
  exact ⟨rfl, HB1.out⟩

set_option maxRecDepth 100000 in
set_option maxHeartbeats 4000000 in
/-- The state of a machine, where it has no dashes. -/
theorem state_any (x : Nat) (M : Array Value) (w : World) (hx : Blk w x 57 M) (hM : MOk M) (hd : (gOf M)[10]? = some (.slice none 0 0)) :
    Calls Tryd.prog 9 #[.pointer (some ⟨x, 0, none⟩)] w fun e w' => e = .returned (.agg (gOf M).toArray) ∧ Below w.heap.size w w' := by
  have hxl := hx.lt
  have hGs : (gOf M).toArray.size = 30 := by simpa using gOf_len hM
  have hG1 : (gOf M).toArray.all (·.oneCell') = true := all_oneCell_toArray (gOf_one hM)
  have hlx : ∀ W : World, Blk W x 57 M → (loadCells ⟨x, 0, none⟩ 30).run Tryd.prog W = .ok (gOf M).toArray W := fun W hW => ld_g hM hW
  have hd' : (gOf M).toArray[10]? = some (.slice none 0 0) := by simpa using hd
  generalize (gOf M).toArray = G at *
  obtain ⟨Z, hZ⟩ : ∃ Z, zeroG = Z := ⟨_, rfl⟩
  have hZs : Z.size = 30 := by rw [← hZ]; rfl
  have hs1 := stg_new hGs hG1 hZs (w.alloc (.cells Z 40))
  rw [World.size_alloc] at hs1
  have hl1 := hlx _ (hx.alloc (.cells Z 40))
  obtain ⟨V, hV⟩ : ∃ V, (w.alloc (.cells Z 40)).alloc (.cells G 40) = V := ⟨_, rfl⟩
  have hVz : Blk V w.heap.size 40 Z := by rw [← hV]; exact (Blk.new w _ _).alloc _
  have hVg : Blk V (w.heap.size + 1) 40 G := by
    rw [← hV]
    have := Blk.new (w.alloc (.cells Z 40)) 40 G
    rw [World.size_alloc] at this
    exact this
  have hVb : Below w.heap.size w V := by rw [← hV]; exact ((Below.refl _ w).alloc (Nat.le_refl _) _).alloc (by simp) _
  have HV := Lib.hid (And.intro hV (And.intro hVz (And.intro hVg hVb)))
  have HG := Lib.hid (And.intro hGs (And.intro hG1 (And.intro hZs hd')))
  unfold zeroG at hZ
  clear hlx hV hVz hVg hVb hd' hd hG1 hZs hx hM
  go_enter Tryd.func9, Tryd.ntmps9
  go_upto_region 4 with fail
  rw [HV.out.1]
  clear hs1 hl1
  have c10 := (HV.out.2.2.1.cell 10).trans HG.out.2.2.2
  go_wp2_with fail
  refine (clone_nil _).mono ?_
  rintro e w1 ⟨rfl, rfl⟩
  have f10 := HV.out.2.2.1.frozen 10
  have hs2 := run_st HV.out.2.2.1 10 [.slice none 0 0] (by rw [HG.out.1]; exact Nat.le_of_ble_eq_true rfl) (by simp [Value.oneCell'])
  obtain ⟨V2, hV2⟩ : ∃ V2, V.setCells (w.heap.size + 1) 10 [.slice none 0 0] = V2 := ⟨_, rfl⟩
  have b2 : Blk V2 (w.heap.size + 1) 40 G := by
    have h := HV.out.2.2.1.set_ 10 (.slice none 0 0)
    have e : G.setIfInBounds 10 (.slice none 0 0) = G := by
      refine Array.ext' ?_
      rw [Array.toList_setIfInBounds]
      refine List.ext_getElem? fun j => ?_
      rw [List.getElem?_set]
      split
      · rename_i hj
        subst hj
        rw [if_pos (by rw [Array.length_toList, HG.out.1]; decide)]
        simpa using HG.out.2.2.2.symm
      · rfl
    rw [e] at h
    rw [← hV2]
    exact h
  have z2 : Blk V2 w.heap.size 40 Z := by rw [← hV2]; exact HV.out.2.1.far (p := ⟨w.heap.size + 1, 10, none⟩) (by show w.heap.size ≠ w.heap.size + 1; omega) _
  have bb : Below w.heap.size w V2 := by rw [← hV2]; exact HV.out.2.2.2.setCell (p := ⟨w.heap.size + 1, 10, none⟩) (Nat.le_succ _) _
  rw [hV2] at hs2
  have hl2 := ldg HG.out.1 b2
  have hs3 : (storeCells ⟨w.heap.size, 0, none⟩ G.toList).run Tryd.prog V2 = .ok () (V2.setRow w.heap.size G) := by
    have h := run_storeCells_from (P := Tryd.prog) w.heap.size 40 G.toList 0 Z V2 z2 (by simp [HG.out.1, HG.out.2.2.1]) (fun v hv => (Array.all_eq_true_iff_forall_mem.1 HG.out.2.1) v (by simpa using hv))
    simpa using h
  have hlv := Lib.hid (ldvg HG.out.1 (z2.setRow G))
  have HB := Lib.hid (bel_setRow bb (Nat.le_refl _) G)
  clear b2 z2 bb hV2 c10 f10
  go_wp2_with fail
  exact bodyPost_ret (v := .agg G) (by simp [results, Tryd.results9, asAddr, hlv.out]) rfl ⟨rfl, HB.out⟩
set_option maxRecDepth 100000 in
theorem state_nil (w : World) : Calls Tryd.prog 9 #[.pointer none] w fun e w' => e = .returned (.agg zeroG) ∧ Below w.heap.size w w' := by
  obtain ⟨Z, hZ⟩ : ∃ Z, zeroG = Z := ⟨_, rfl⟩
  rw [hZ]
  have hZs : Z.size = 30 := by rw [← hZ]; rfl
  have hZ1 : Z.all (·.oneCell') = true := by rw [← hZ]; exact zeroG_all
  have hb : ∀ W : World, (Instr.build 40 #[]).run Tryd.prog W = .ok (.agg Z) W := fun W => by rw [← hZ]; exact run_build W _ _ _ (by kernel_rfl)
  have hs := stg_new hZs hZ1 hZs w
  have hlv := Lib.hid (ldvg hZs (Blk.new w 40 Z))
  unfold zeroG at hZ
  clear hZ1
  go_enter Tryd.func9, Tryd.ntmps9
  go_wp2_with fail
  exact bodyPost_ret (v := .agg Z) (by simp [results, Tryd.results9, asAddr, hlv.out]) rfl ⟨rfl, (Below.refl _ w).alloc (Nat.le_refl _) _⟩
end Go.Proofs.YtbagmjedkcipgaaDoor
