/-
  New, First, Depth, State; the operators of the law's own test as they are made.
-/
import Derived.Test.YtbagmjedkcipgaaDoorMgSttN
namespace Go.Proofs.YtbagmjedkcipgaaDoor
open Go.RowKit Mat

/-- The first state for a matrix. -/
def firstC (m : Mx) : List Value := [.int .i64 m.a, .int .i64 m.b, .int .i64 m.c, .int .i64 m.d, .int .i64 m.e, .int .i64 m.f, .int .i64 10000, .int .i64 0, .int .i64 0, .int .i64 100000, .slice none 0 0, .int .i64 0, .int .i64 0, .int .i64 0, .int .i64 0, .int .i64 0, .int .i64 0, .int .i64 0, .int .i64 0, .int .i64 0, .int .i64 0, .int .i64 0, .int .i64 0, .int .i64 0, .int .i64 1000000, .int .i64 0, .int .i64 0, .int .i64 0, .string ⟨#[]⟩, .int .i64 0]
theorem zeroG_all : zeroG.all (·.oneCell') = true := by kernel_rfl
theorem first_all (m : Mx) : ∀ u ∈ firstC m, u.oneCell' = true := by
  intro u hu
  simp only [firstC, List.mem_cons, List.not_mem_nil, or_false] at hu
  rcases hu with h | h | h | h | h | h | h | h | h | h | h | h | h | h | h | h | h | h | h | h | h | h | h | h | h | h | h | h | h | h <;> rw [h] <;> rfl
theorem ginfo' {G : Array Value} (h : G.size = 30) : (Tryd.prog.info? 40).map (·.size) = some G.size := by
  rw [h]; kernel_rfl
theorem stg_new {G Z : Array Value} (hG : G.size = 30) (h1 : G.all (·.oneCell') = true) (hZ : Z.size = 30) (W : World) : (storeCells ⟨W.heap.size, 0, none⟩ G.toList).run Tryd.prog (W.alloc (.cells Z 40)) = .ok () (W.alloc (.cells G 40)) :=
  run_storeCells_new W 40 Z G (ginfo' hG) (by rw [hG, hZ]) h1
theorem ldg {G : Array Value} {W : World} {n : Nat} {t : TypeId} (hG : G.size = 30) (hW : Blk W n t G) : (loadCells ⟨n, 0, none⟩ 30).run Tryd.prog W = .ok G W := by
  have := run_loadCells_list (P := Tryd.prog) W ⟨n, 0, none⟩ G.toList (fun j u hu => by
    rw [Addr.add_mid, Nat.zero_add, hW.cell]
    simpa using hu)
  rw [Array.length_toList, hG] at this
  simpa using this
theorem ldvg {G : Array Value} {W : World} {n : Nat} {t : TypeId} (hG : G.size = 30) (hW : Blk W n t G) : (loadVar 40 ⟨n, 0, none⟩).run Tryd.prog W = .ok (.agg G) W :=
  ldv_row hW _ _ Tryd.underlying40 rfl (ginfo' hG)

set_option maxRecDepth 100000 in
theorem plain_any (w : World) : Calls Tryd.prog 15 #[] w fun e w' => e = .returned (mxV ⟨10000, 0, 0, 10000, 0, 0⟩) ∧ Below w.heap.size w w' := by
  have hlv := Lib.hid (ldv_row (P := Tryd.prog) (Blk.new w 23 #[.int .i64 10000, .int .i64 0, .int .i64 0, .int .i64 10000, .int .i64 0, .int .i64 0]) 23 _ Tryd.underlying23 rfl (by kernel_rfl))
  go_enter Tryd.func15, Tryd.ntmps15
  go_wp2_with fail
  exact bodyPost_ret (v := mxV ⟨10000, 0, 0, 10000, 0, 0⟩) (by simp [results, Tryd.results15, asAddr, hlv.out, mxV]) rfl ⟨rfl, (Below.refl _ w).alloc (Nat.le_refl _) _⟩
theorem depth_any (x : Nat) (M : Array Value) (A : Option Addr) (k c : Nat) (w : World) (hx : Blk w x 57 M) (hv : M[30]? = some (.slice A k c)) :
    Calls Tryd.prog 10 #[.pointer (some ⟨x, 0, none⟩)] w fun e w' => e = .returned (.int .i64 (k : Int)) ∧ w = w' := by
  have c30 := (hx.cell 30).trans hv
  clear hx hv
  go_enter Tryd.func10, Tryd.ntmps10
  go_wp2_with fail
  go_ret
  exact ⟨rfl, rfl⟩
theorem depth_nil (w : World) : Calls Tryd.prog 10 #[.pointer none] w fun e w' => e = .returned (.int .i64 0) ∧ w = w' := by
  go_enter Tryd.func10, Tryd.ntmps10
  go_wp2_with fail
  go_ret
  exact ⟨rfl, rfl⟩
theorem none_any (nm : ByteArray) (w : World) : Calls Tryd.prog 11 #[.string nm] w fun e w' => e = .returned (.agg #[.string nm, .slice none 0 0, .string ⟨#[]⟩]) ∧ Below w.heap.size w w' := by
  have hlv := Lib.hid (ldv_row (P := Tryd.prog) (Blk.new w 33 #[.string nm, .slice none 0 0, .string ⟨#[]⟩]) 33 _ Tryd.underlying33 rfl (by kernel_rfl))
  go_enter Tryd.func11, Tryd.ntmps11
  go_wp2_with fail
  exact bodyPost_ret (v := .agg #[.string nm, .slice none 0 0, .string ⟨#[]⟩]) (by simp [results, Tryd.results11, asAddr, hlv.out]) rfl ⟨rfl, (Below.refl _ w).alloc (Nat.le_refl _) _⟩
/-- An integer's cells. -/
abbrev intC (y : Int) : Array Value := #[.int .i64 2, .int .i64 y, .int .i64 0, .string ⟨#[]⟩, .slice none 0 0, .slice none 0 0]
theorem int_any (y : Int) (w : World) : Calls Tryd.prog 26 #[.int .i64 y] w fun e w' => e = .returned (.agg (intC y)) ∧ Below w.heap.size w w' := by
  have hlv := Lib.hid (ldv_row (P := Tryd.prog) (Blk.new w 50 (intC y)) 50 _ Tryd.underlying50 rfl (by kernel_rfl))
  unfold intC at *
  go_enter Tryd.func26, Tryd.ntmps26
  go_wp2_with fail
  exact bodyPost_ret (v := .agg #[.int .i64 2, .int .i64 y, .int .i64 0, .string ⟨#[]⟩, .slice none 0 0, .slice none 0 0]) (by simp [results, Tryd.results26, asAddr, hlv.out]) rfl ⟨rfl, (Below.refl _ w).alloc (Nat.le_refl _) _⟩
set_option maxRecDepth 100000 in
theorem op_any (nm : ByteArray) (y : Int) (w : World) : Calls Tryd.prog 16 #[.string nm, .int .i64 y] w fun e w' => ∃ b, e = .returned (.agg #[.string nm, .slice (some ⟨b, 0, none⟩) 1 1, .string ⟨#[]⟩]) ∧ Blk w' b 50 (intC y) ∧ Below w.heap.size w w' := by
  have HI := Lib.hid (fun V : World => int_any y V)
  unfold intC at *
  go_enter Tryd.func16, Tryd.ntmps16
  go_wp2_with fail
  refine (HI.out _).mono ?_
  rintro e w1 ⟨rfl, hb⟩
  have hB := (Blk.new w 33 #[.string ⟨#[]⟩, .slice none 0 0, .string ⟨#[]⟩]).below hb (by simp)
  have c0 := hB.cell 0
  have c1 := hB.cell 1
  have c2 := hB.cell 2
  have f0 := hB.frozen 0
  have f1 := hB.frozen 1
  have f2 := hB.frozen 2
  have hlt := hB.lt
  have HB := Lib.hid (And.intro hB (((Below.refl _ w).alloc (Nat.le_refl _) _).trans (hb.mono (by simp))))
  clear hB hb
  go_wp2_with fail
  obtain ⟨V, hV⟩ : ∃ V, ((w1.setCell ⟨w.heap.size, 0, none⟩ (.string nm)).setCell ⟨w.heap.size, 1, none⟩ (.slice (some ⟨w1.heap.size, 0, none⟩) 1 1)).setCell ⟨w.heap.size, 2, none⟩ (.string ⟨#[]⟩) = V := ⟨_, rfl⟩
  have hVs : V.heap.size = w1.heap.size := by rw [← hV]; simp [World.setCell]
  have hf := ((HB.out.1.set_ 0 (.string nm)).set_ 1 (.slice (some ⟨w1.heap.size, 0, none⟩) 1 1)).set_ 2 (.string ⟨#[]⟩)
  have hb3 := ((HB.out.2.setCell (p := ⟨w.heap.size, 0, none⟩) (Nat.le_refl _) (.string nm)).setCell (p := ⟨w.heap.size, 1, none⟩) (Nat.le_refl _) (.slice (some ⟨w1.heap.size, 0, none⟩) 1 1)).setCell (p := ⟨w.heap.size, 2, none⟩) (Nat.le_refl _) (.string ⟨#[]⟩)
  rw [hV] at hf hb3 ⊢
  have hl := ldv_row (P := Tryd.prog) (hf.alloc (.cells #[.int .i64 2, .int .i64 y, .int .i64 0, .string ⟨#[]⟩, .slice none 0 0, .slice none 0 0] 50)) 33 _ Tryd.underlying33 rfl (by kernel_rfl)
  have hb2 := Blk.new V 50 #[.int .i64 2, .int .i64 y, .int .i64 0, .string ⟨#[]⟩, .slice none 0 0, .slice none 0 0]
  rw [hVs] at hb2
  exact bodyPost_ret (v := .agg #[.string nm, .slice (some ⟨w1.heap.size, 0, none⟩) 1 1, .string ⟨#[]⟩]) (by simp [results, Tryd.results16, asAddr, hl]) rfl ⟨_, rfl, hb2, hb3.alloc (by omega) _⟩
theorem clone_nil (w : World) : Calls Tryd.prog 24 #[.slice none 0 0] w fun e w' => e = .returned (.slice none 0 0) ∧ w = w' := by
  have hq : ∀ W : World, (binOp .eql 34 (.slice none 0 0) (.slice none 0 0)).run Tryd.prog W = .ok (.bool true) W := fun _ => by kernel_rfl
  go_enter Tryd.func24, Tryd.ntmps24
  go_wp2_with fail
  go_ret
  exact ⟨rfl, rfl⟩
end Go.Proofs.YtbagmjedkcipgaaDoor
