/-
  Whole rows: a struct that lies in a block of its own is loaded and stored at once, whatever its cells are. The package give at the machine of states.
-/
import Derived.Test.YtbagmjedkcipgaaDoorMgJFldT
import Derived.Test.YtbagmjedkcipgaaDoorMgMatGv
import Derived.Test.YtbagmjedkcipgaaDoorMgJBase0
import Derived.Deep.MidRow
namespace Go.Proofs.YtbagmjedkcipgaaDoor
open Go.RowKit

section
variable {P : Program} {w : World} {g : Nat} {t : TypeId} {cs : Array Value}
theorem ld_row (h : Blk w g t cs) (ty : TypeId) (d : TypeDesc) (hu : P.underlying ty = some d) (hd : d.isRow = true) (hi : (P.info? ty).map (·.size) = some cs.size) :
    (Instr.loadAt ty (.pointer (some ⟨g, 0, none⟩))).run P w = .ok (.agg cs) w := by
  have := run_loadAt_mid (P := P) w g 0 ty cs.toList d (fun j v hv => by rw [Nat.zero_add, h.cell]; simpa using hv) hu hd (by simpa using hi)
  simpa using this
theorem ldv_row (h : Blk w g t cs) (ty : TypeId) (d : TypeDesc) (hu : P.underlying ty = some d) (hd : d.isRow = true) (hi : (P.info? ty).map (·.size) = some cs.size) :
    (loadVar ty ⟨g, 0, none⟩).run P w = .ok (.agg cs) w := by
  have := run_loadVar_mid (P := P) w g 0 ty cs.toList d (fun j v hv => by rw [Nat.zero_add, h.cell]; simpa using hv) hu hd (by simpa using hi)
  simpa using this
theorem st_row (h : Blk w g t cs) (ty : TypeId) (new : Array Value) (hn : new.size = cs.size) (hi : (P.info? ty).map (·.size) = some new.size) (h1 : new.all (·.oneCell') = true) :
    (Instr.storeAt ty (.pointer (some ⟨g, 0, none⟩)) (.agg new)).run P w = .ok () (w.setRow g new) := by
  simp only [Instr.storeAt, Instr.sureAddr, Sem.run_bind, Sem.run_pure, Result.andThen_ok, run_storeVar_row w g t ty cs new h hi hn.symm h1]
theorem Blk.setRow (h : Blk w g t cs) (new : Array Value) : Blk (w.setRow g new) g t new := setRow_heap w g cs new t _ h
theorem Blk.farRow {k : Nat} (h : Blk w g t cs) (hk : g ≠ k) (new : Array Value) : Blk (w.setRow k new) g t cs := (setRow_other w k g new hk).trans h
end
theorem Two.setRow_ {a w : World} {g : Nat} {r : Option Nat} (h : Two a w g r) (cs : Array Value) : Two a (w.setRow g cs) g r :=
  h.trans ⟨rfl, rfl, rfl, by simp, fun k _ hne _ => setRow_other w g k cs hne⟩ (Or.inl rfl)
theorem grown_setRow {w w' : World} {row : Option Nat} (h : w.grownBy w' row) {g : Nat} (hg : w.heap.size ≤ g) (cs : Array Value) : w.grownBy (w'.setRow g cs) row :=
  ⟨h.os, h.tape, h.output, by rw [setRow_size]; exact h.size, fun k hk hne => (setRow_other w' g k cs (by omega)).trans (h.block k hk hne)⟩
theorem grown_setCell {w w' : World} {row : Option Nat} (h : w.grownBy w' row) {p : Addr} (hg : w.heap.size ≤ p.block) (u : Value) : w.grownBy (w'.setCell p u) row :=
  ⟨h.os, h.tape, h.output, by simp [World.setCell]; exact h.size, fun k hk hne => (Below.heap_setCell w' p u k (by omega)).trans (h.block k hk hne)⟩
theorem grown_alloc {w w' : World} {row : Option Nat} (h : w.grownBy w' row) (o : Obj) : w.grownBy (w'.alloc o) row :=
  ⟨h.os, h.tape, h.output, by rw [World.size_alloc]; have := h.size; omega, fun k hk hne => (Below.heap_alloc w' o k (Nat.lt_of_lt_of_le hk h.size)).trans (h.block k hk hne)⟩
theorem grown_trans {a b c : World} {row : Option Nat} (h : a.grownBy b row) (k : b.grownBy c row) : a.grownBy c row :=
  ⟨k.os.trans h.os, k.tape.trans h.tape, k.output.trans h.output, Nat.le_trans h.size k.size, fun i hi hne => (k.block i (Nat.lt_of_lt_of_le hi h.size) hne).trans (h.block i hi hne)⟩

/-- A machine's cells. -/
def MOk (M : Array Value) : Prop := M.size = 31 ∧ M.all (·.oneCell') = true
def zeroM : Array Value := #[.int .i64 0, .int .i64 0, .int .i64 0, .int .i64 0, .int .i64 0, .int .i64 0, .int .i64 0, .int .i64 0, .int .i64 0, .int .i64 0, .slice none 0 0, .int .i64 0, .int .i64 0, .int .i64 0, .int .i64 0, .int .i64 0, .int .i64 0, .int .i64 0, .int .i64 0, .int .i64 0, .int .i64 0, .int .i64 0, .int .i64 0, .int .i64 0, .int .i64 0, .int .i64 0, .int .i64 0, .int .i64 0, .string ⟨#[]⟩, .int .i64 0, .slice none 0 0]
theorem zeroM_ok : MOk zeroM := ⟨by kernel_rfl, by kernel_rfl⟩
theorem mInfo {M : Array Value} (h : MOk M) : (Tryd.prog.info? 57).map (·.size) = some M.size := by
  rw [h.1]; kernel_rfl
theorem m_ld {w : World} {g : Nat} {t : TypeId} {M : Array Value} (h : Blk w g t M) (hM : MOk M) : (Instr.loadAt 57 (.pointer (some ⟨g, 0, none⟩))).run Tryd.prog w = .ok (.agg M) w :=
  ld_row h _ _ Tryd.underlying57 rfl (mInfo hM)
theorem m_ldv {w : World} {g : Nat} {t : TypeId} {M : Array Value} (h : Blk w g t M) (hM : MOk M) : (loadVar 57 ⟨g, 0, none⟩).run Tryd.prog w = .ok (.agg M) w :=
  ldv_row h _ _ Tryd.underlying57 rfl (mInfo hM)
theorem m_st {w : World} {g : Nat} {t : TypeId} {M N : Array Value} (h : Blk w g t M) (hM : MOk M) (hN : MOk N) : (Instr.storeAt 57 (.pointer (some ⟨g, 0, none⟩)) (.agg N)).run Tryd.prog w = .ok () (w.setRow g N) :=
  st_row h _ N (by rw [hM.1, hN.1]) (mInfo hN) hN.2

theorem caughtS_panicking (p : Addr) (a x : Int) (older : List PanicEntry) (w : World) (hp : w.cell? p = some (.int .i64 a)) (hz : w.frozen? p = false) :
    CallsD Tryd.prog 55 #[.pointer (some p)] (.panicking ({ v := .iface 29 (.int .i64 x), recovered := false } :: older)) w fun e u' w' =>
      e = .returned (.tuple #[]) ∧ u' = .panicking ({ v := .iface 29 (.int .i64 x), recovered := true } :: older) ∧ w' = w.setCell p (.int .i64 x) := by
  have hta : ∀ w : World, (Instr.typeAssert (.iface 29 (.int .i64 x)) 20 29 true).run Tryd.prog w = .ok (.tuple #[.int .i64 x, .bool true]) w := fun _ => by kernel_rfl
  refine callsD_of_wpS Tryd.func55 rfl fun c₀ cs hu => ?_
  apply wpS_seq
  apply wpS_region
  simp [wpOpsS, go_sem, recoverD, hu, Tryd.ntmps55, Exit.thenS]
  refine wpS_of_wp ?_
  change Code.wp Tryd.prog _ _ { tmps := #[.pointer (some p), undef, undef, undef, .iface 29 (.int .i64 x), undef, undef, undef, undef, undef, undef], defers := [] } w
  go_wp2_with fail
  simp [bodyPostS, results, Tryd.results55]

theorem caughtS_idle (p : Addr) (w : World) :
    CallsD Tryd.prog 55 #[.pointer (some p)] .returning w fun e u' w' => e = .returned (.tuple #[]) ∧ u' = .returning ∧ w' = w := by
  refine callsD_of_wpS Tryd.func55 rfl fun c₀ cs hu => ?_
  apply wpS_seq
  apply wpS_region
  simp [wpOpsS, go_sem, recoverD, hu, Tryd.ntmps55, Exit.thenS]
  refine wpS_of_wp ?_
  change Code.wp Tryd.prog _ _ { tmps := #[.pointer (some p), undef, undef, undef, .nilIface, undef, undef, undef, undef, undef, undef], defers := [] } w
  go_wp2_with fail
  cases c₀
  simp_all [bodyPostS, results, Tryd.results55]

/-- Where Caught works: behind a machine's block and the error's. -/
def inCaught (w : World) : World := (w.alloc (.cells zeroM 57)).alloc (.cells #[.int .i64 0] 29)

set_option maxRecDepth 100000 in
set_option maxHeartbeats 4000000 in
/-- Caught, where the work returns the machine M. -/
theorem caughtS_ok (F : FuncId) (caps : Array Value) (R : Array Value → World → Prop) (w : World) (henter : ∀ W : World, (callFunc F caps).run Tryd.prog W = .ok (.enter F caps) W)
    (hk : ∀ M w', R M w' → Blk w' w.heap.size 57 zeroM ∧ Blk w' (w.heap.size + 1) 29 #[.int .i64 0])
    (hwork : Calls Tryd.prog F caps (inCaught w) fun e w' => ∃ M, e = .returned (.agg M) ∧ MOk M ∧ R M w') :
    Calls Tryd.prog 22 #[.func (.func F) #[] caps] w fun e w' => ∃ M, e = .returned (.tuple #[.agg M, .int .i64 0]) ∧ MOk M ∧ ∃ w1, R M w1 ∧ w' = (w1.setRow w.heap.size M).setCell ⟨w.heap.size + 1, 0, none⟩ (.int .i64 0) := by
  have hmf : ∀ (fn : Fn) (first cap : Array Value) (w : World), (Instr.makeFunc fn first cap).run Tryd.prog w = .ok (.func fn first cap) w := fun _ _ _ _ => rfl
  have HW := Lib.hid hwork
  have HK := Lib.hid hk
  have HZ := Lib.hid zeroM_ok
  unfold inCaught zeroM at *
  clear hwork hk
  go_enter_defers Tryd.func22, Tryd.ntmps22
  go_wp2_with fail
  refine HW.out.mono ?_
  rintro e w1 ⟨M, rfl, hM, hR⟩
  have HM := Lib.hid hM
  have hB := HK.out M w1 hR
  have hB0 := hB
  have bE := hB.2.farRow (k := w.heap.size) (by omega) M
  have ce : (w1.setRow w.heap.size M).cell? ⟨w.heap.size + 1, 0, none⟩ = some (.int .i64 0) := bE.cell 0
  have fe : (w1.setRow w.heap.size M).frozen? ⟨w.heap.size + 1, 0, none⟩ = false := bE.frozen 0
  have bM := ((hB.1.setRow M).far (p := ⟨w.heap.size + 1, 0, none⟩) (by simp) (.int .i64 0))
  have hld := m_ldv bM HM.out
  have HR := Lib.hid hR
  have HB := Lib.hid bE
  clear hB hR bE bM hM
  rename_i K hK
  refine hK _ _ ?_
  refine wpList_store_row rfl _ _ _ rfl w.heap.size M rfl rfl _ zeroM hB0.1 (mInfo HM.out) (by rw [HM.out.1, zeroM_ok.1]) HM.out.2 ?_
  go_wp2_with fail
  refine leaves_cons (f := 55) (args := #[.pointer (some ⟨w.heap.size + 1, 0, none⟩)]) (by simp) (by simp [go_sem]) ?_
  refine (caughtS_idle ⟨w.heap.size + 1, 0, none⟩ _).mono ?_
  rintro e u' w'' ⟨rfl, rfl, rfl⟩
  have bE := (HB.out.set_ 0 (.int .i64 0)).cell 0
  have hrE : (loadVar 29 ⟨w.heap.size + 1, 0, none⟩).run Tryd.prog ((w1.setRow w.heap.size M).setCell ⟨w.heap.size + 1, 0, none⟩ (.int .i64 0)) = .ok (.int .i64 0) ((w1.setRow w.heap.size M).setCell ⟨w.heap.size + 1, 0, none⟩ (.int .i64 0)) := by
    have bE' : ((w1.setRow w.heap.size M).setCell ⟨w.heap.size + 1, 0, none⟩ (.int .i64 0)).cell? ⟨w.heap.size + 1, 0, none⟩ = some (.int .i64 0) := bE
    go_simp
  simp [Leaves, settle, results, Tryd.results22, asAddr, hld, hrE]
  exact ⟨HM.out, w1, HR.out, rfl⟩
set_option maxRecDepth 100000 in
set_option maxHeartbeats 4000000 in
/-- Caught, where the work gives up with the error x. -/
theorem caughtS_no (F : FuncId) (caps : Array Value) (x : Int) (R : World → Prop) (w : World) (henter : ∀ W : World, (callFunc F caps).run Tryd.prog W = .ok (.enter F caps) W)
    (hk : ∀ w', R w' → Blk w' w.heap.size 57 zeroM ∧ Blk w' (w.heap.size + 1) 29 #[.int .i64 0])
    (hwork : Calls Tryd.prog F caps (inCaught w) fun e w' => e = gUp x ∧ R w') :
    Calls Tryd.prog 22 #[.func (.func F) #[] caps] w fun e w' => e = .returned (.tuple #[.agg zeroM, .int .i64 x]) ∧ ∃ w1, R w1 ∧ w' = w1.setCell ⟨w.heap.size + 1, 0, none⟩ (.int .i64 x) := by
  have hmf : ∀ (fn : Fn) (first cap : Array Value) (w : World), (Instr.makeFunc fn first cap).run Tryd.prog w = .ok (.func fn first cap) w := fun _ _ _ _ => rfl
  have HW := Lib.hid hwork
  have HK := Lib.hid hk
  have HZ := Lib.hid zeroM_ok
  have hwork' : Calls Tryd.prog F caps (inCaught w) fun e w' => e = gUp x ∧ (R w' ∧ Blk w' w.heap.size 57 zeroM ∧ Blk w' (w.heap.size + 1) 29 #[.int .i64 0]) := hwork.mono fun _ _ h => ⟨h.1, h.2, hk _ h.2⟩
  have HW := Lib.hid hwork'
  unfold inCaught at *
  clear hwork hk hwork' HK
  obtain ⟨Z, hZ⟩ : ∃ Z, zeroM = Z := ⟨_, rfl⟩
  rw [hZ] at HW HZ ⊢
  rw [zeroM] at hZ
  go_enter_defers Tryd.func22, Tryd.ntmps22
  go_wp2_with fail
  refine HW.out.mono ?_
  rintro e w1 ⟨rfl, hR, hB1, hB2⟩
  have ce : w1.cell? ⟨w.heap.size + 1, 0, none⟩ = some (.int .i64 0) := hB2.cell 0
  have fe : w1.frozen? ⟨w.heap.size + 1, 0, none⟩ = false := hB2.frozen 0
  have bM := (hB1.far (p := ⟨w.heap.size + 1, 0, none⟩) (by simp) (.int .i64 x))
  have hld := m_ldv bM HZ.out
  have bE := (hB2.set_ 0 (.int .i64 x)).cell 0
  have hrE : (loadVar 29 ⟨w.heap.size + 1, 0, none⟩).run Tryd.prog (w1.setCell ⟨w.heap.size + 1, 0, none⟩ (.int .i64 x)) = .ok (.int .i64 x) (w1.setCell ⟨w.heap.size + 1, 0, none⟩ (.int .i64 x)) := by
    have bE' : (w1.setCell ⟨w.heap.size + 1, 0, none⟩ (.int .i64 x)).cell? ⟨w.heap.size + 1, 0, none⟩ = some (.int .i64 x) := bE
    go_simp
  have HR := Lib.hid hR
  have HL := Lib.hid (And.intro hld hrE)
  clear hR hB1 hB2 bM bE hld hrE hZ
  unfold gUp
  go_wp2_with fail
  refine leaves_cons (f := 55) (args := #[.pointer (some ⟨w.heap.size + 1, 0, none⟩)]) (by simp) (by simp [go_sem]) ?_
  refine (caughtS_panicking ⟨w.heap.size + 1, 0, none⟩ 0 x [] _ ce fe).mono ?_
  rintro e u' w'' ⟨rfl, rfl, rfl⟩
  simp [Leaves, settle, results, Tryd.results22, asAddr, HL.out.1, HL.out.2]
  exact ⟨w1, HR.out, rfl⟩
end Go.Proofs.YtbagmjedkcipgaaDoor
