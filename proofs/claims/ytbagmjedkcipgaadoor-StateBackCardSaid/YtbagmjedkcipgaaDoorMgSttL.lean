/-
  The work that Machine.Do hands to give.Caught: a copy of the machine is changed.
-/
import Derived.Test.YtbagmjedkcipgaaDoorMgSttK
import Derived.Deep.WholeRow
namespace Go.Proofs.YtbagmjedkcipgaaDoor
open Go.RowKit
attribute [-go_sem] loadCells storeCells

theorem ld_m {M : Array Value} {W : World} {n : Nat} {t : TypeId} (hM : MOk M) (hW : Blk W n t M) : (loadCells ⟨n, 0, none⟩ 31).run Tryd.prog W = .ok M W := by
  have := run_loadCells_list (P := Tryd.prog) W ⟨n, 0, none⟩ M.toList (fun j u hu => by
    rw [Addr.add_mid, Nat.zero_add, hW.cell]
    simpa using hu)
  rw [Array.length_toList, hM.1] at this
  simpa using this
theorem st_new {M Z : Array Value} (hM : MOk M) (hZ : MOk Z) (W : World) : (storeCells ⟨W.heap.size, 0, none⟩ M.toList).run Tryd.prog (W.alloc (.cells Z 57)) = .ok () (W.alloc (.cells M 57)) :=
  run_storeCells_new W 57 Z M (mInfo hM) (by rw [hM.1, hZ.1]) hM.2
theorem st_m {M N : Array Value} {W : World} {n : Nat} {t : TypeId} (hM : MOk M) (hN : MOk N) (hW : Blk W n t M) : (storeCells ⟨n, 0, none⟩ N.toList).run Tryd.prog W = .ok () (W.setRow n N) := by
  have := run_storeCells_from (P := Tryd.prog) n t N.toList 0 M W hW (by simp [hM.1, hN.1]) (fun v hv => (Array.all_eq_true_iff_forall_mem.1 hN.2) v (by simpa using hv))
  simpa using this

set_option maxRecDepth 100000 in
set_option maxHeartbeats 4000000 in
theorem work_ok (F : FuncId) (x b0 b1 b2 : Nat) (M : Array Value) (nm data : ByteArray) (A : Option Addr) (al ac : Nat) (R : Array Value → World → Prop) (W : World) (henter : ∀ (args : Array Value) (V : World), (callFunc F args).run Tryd.prog V = .ok (.enter F args) V)
    (h0 : Blk W b0 27 #[.pointer (some ⟨x, 0, none⟩)]) (h1 : Blk W b1 59 #[.func (.func F) #[] #[]]) (h2 : Blk W b2 33 #[.string nm, .slice A al ac, .string data]) (hx : Blk W x 57 M) (hM : MOk M)
    (hk : ∀ M' w', R M' w' → MOk M' ∧ Blk w' W.heap.size 57 zeroM ∧ Blk w' (W.heap.size + 1) 57 M')
    (hwork : Calls Tryd.prog F #[.pointer (some ⟨W.heap.size + 1, 0, none⟩), .slice A al ac] ((W.alloc (.cells zeroM 57)).alloc (.cells M 57)) fun e w' => e = .returned (.tuple #[]) ∧ ∃ M', R M' w') :
    Calls Tryd.prog 23 #[.pointer (some ⟨b0, 0, none⟩), .pointer (some ⟨b1, 0, none⟩), .pointer (some ⟨b2, 0, none⟩)] W fun e w' => ∃ M', e = .returned (.agg M') ∧ MOk M' ∧ ∃ w1, R M' w1 ∧ w' = w1.setRow W.heap.size M' := by
  have HW := Lib.hid hwork
  have HK := Lib.hid hk
  obtain ⟨Z, hZ⟩ : ∃ Z, zeroM = Z := ⟨_, rfl⟩
  have HZ := Lib.hid (hZ ▸ zeroM_ok : MOk Z)
  rw [hZ] at HW HK
  rw [zeroM] at hZ
  have c0 := h0.cell 0
  have c1 := h1.cell 0
  have c2 := h2.cell 1
  have hl := ld_m hM (hx.alloc (.cells Z 57))
  have hs := st_new hM HZ.out (W.alloc (.cells Z 57))
  rw [World.size_alloc] at hs
  have hM1 := hM.1
  have l0 := h0.lt
  have l1 := h1.lt
  have l2 := h2.lt
  have lx := hx.lt
  clear hwork hk h0 h1 h2 hx hM
  go_enter Tryd.func23, Tryd.ntmps23
  go_wp2_with fail
  refine HW.out.mono ?_
  rintro e w1 ⟨rfl, M', hR⟩
  obtain ⟨hM', hB⟩ := HK.out M' w1 hR
  have HM := Lib.hid (And.intro hM' hM')
  have hl2 := ld_m HM.out.2 hB.2
  have hs2 := st_m HZ.out HM.out.2 hB.1
  have hM2 := HM.out.2.1
  have hl3 := m_ldv (hB.1.setRow M') HM.out.2
  have HR := Lib.hid hR
  have HL := Lib.hid hl3
  clear hB hR hl hs hl3 HW HK hM'
  go_wp2_with fail
  exact bodyPost_ret (v := .agg M') (by simp [results, Tryd.results23, asAddr, HL.out]) rfl ⟨M', rfl, HM.out.1, w1, HR.out, rfl⟩
set_option maxRecDepth 100000 in
set_option maxHeartbeats 4000000 in
theorem work_no (F : FuncId) (x b0 b1 b2 : Nat) (M : Array Value) (c : Int) (nm data : ByteArray) (A : Option Addr) (al ac : Nat) (R : World → Prop) (W : World) (henter : ∀ (args : Array Value) (V : World), (callFunc F args).run Tryd.prog V = .ok (.enter F args) V)
    (h0 : Blk W b0 27 #[.pointer (some ⟨x, 0, none⟩)]) (h1 : Blk W b1 59 #[.func (.func F) #[] #[]]) (h2 : Blk W b2 33 #[.string nm, .slice A al ac, .string data]) (hx : Blk W x 57 M) (hM : MOk M)
    (hwork : Calls Tryd.prog F #[.pointer (some ⟨W.heap.size + 1, 0, none⟩), .slice A al ac] ((W.alloc (.cells zeroM 57)).alloc (.cells M 57)) fun e w' => e = gUp c ∧ R w') :
    Calls Tryd.prog 23 #[.pointer (some ⟨b0, 0, none⟩), .pointer (some ⟨b1, 0, none⟩), .pointer (some ⟨b2, 0, none⟩)] W fun e w' => e = gUp c ∧ R w' := by
  have HW := Lib.hid hwork
  obtain ⟨Z, hZ⟩ : ∃ Z, zeroM = Z := ⟨_, rfl⟩
  have HZ := Lib.hid (hZ ▸ zeroM_ok : MOk Z)
  rw [hZ] at HW
  rw [zeroM] at hZ
  have c0 := h0.cell 0
  have c1 := h1.cell 0
  have c2 := h2.cell 1
  have hl := ld_m hM (hx.alloc (.cells Z 57))
  have hs := st_new hM HZ.out (W.alloc (.cells Z 57))
  rw [World.size_alloc] at hs
  have hM1 := hM.1
  have l0 := h0.lt
  have l1 := h1.lt
  have l2 := h2.lt
  have lx := hx.lt
  clear hwork h0 h1 h2 hx hM
  go_enter Tryd.func23, Tryd.ntmps23
  go_wp2_with fail
  refine HW.out.mono ?_
  rintro e w1 ⟨rfl, hR⟩
  exact ⟨rfl, rfl, hR⟩
end Go.Proofs.YtbagmjedkcipgaaDoor
