/-
  Machine.Do: an operator that is known and well formed is applied to a copy; where that gives up, the machine is as it was.
-/
import Derived.Test.YtbagmjedkcipgaaDoorMgSttL
namespace Go.Proofs.YtbagmjedkcipgaaDoor
open Go.RowKit
attribute [-go_sem] loadCells storeCells

theorem Two.new {a b c : World} {g n : Nat} {r : Option Nat} (h : Two a b g r) (k : Two b c n r) (hn : a.heap.size ≤ n) : Two a c g r :=
  ⟨k.os.trans h.os, k.tape.trans h.tape, k.output.trans h.output, Nat.le_trans h.size k.size, fun i hi h1 h2 => (k.block i (Nat.lt_of_lt_of_le hi h.size) (by omega) h2).trans (h.block i hi h1 h2)⟩
theorem Two.newRow {a w : World} {g k : Nat} {r : Option Nat} (h : Two a w g r) (hk : a.heap.size ≤ k) (cs : Array Value) : Two a (w.setRow k cs) g r :=
  h.new ((Two.refl w k r).setRow_ cs) hk
theorem Two.newCell {a w : World} {g k : Nat} {r : Option Nat} (h : Two a w g r) (hk : a.heap.size ≤ k) (i : Nat) (u : Value) : Two a (w.setCell ⟨k, i, none⟩ u) g r :=
  h.new ((Two.refl w k r).set_ i u) hk
theorem belowTwo {a b : World} (h : Below a.heap.size a b) (g : Nat) (r : Option Nat) : Two a b g r := ⟨h.os, h.tape, h.output, h.size, fun j hj _ _ => h.block j hj⟩

/-- A resource that lasts while only block x and the blocks from H to V are turned. -/
def Lasts (H x : Nat) (T : World → Array Value → World → Prop) : Prop :=
  ∀ (V : World) (M : Array Value) (a b : World), T V M a → a.heap.size ≤ b.heap.size → (∀ g, g < a.heap.size → g ≠ x → (g < H ∨ V.heap.size ≤ g) → b.heap[g]? = a.heap[g]?) → T V M b

set_option maxRecDepth 100000 in
set_option maxHeartbeats 4000000 in
theorem do_ok (F : FuncId) (x : Nat) (M : Array Value) (nm data : ByteArray) (A : Option Addr) (ac : Nat) (ks : List Int) (r : Option Nat) (T : World → Array Value → World → Prop) (w : World)
    (henter : ∀ (args : Array Value) (V : World), (callFunc F args).run Tryd.prog V = .ok (.enter F args) V)
    (hch : ∀ V : World, Calls Tryd.prog 20 #[.string nm] V fun e w' => e = .returned (.func (.func F) #[] #[]) ∧ V = w')
    (hks : chkOp nm.data.toList data.data.toList ks = 0) (hA : ArgsAt w A ks) (hkn : ks.length ≤ 9223372036854775807) (hsp : SpaceAt w) (hg : 0 < w.heap.size)
    (hx : Blk w x 57 M) (hM : MOk M) (hr : ∀ k, r = some k → k < w.heap.size ∧ k ≠ x) (hT : Lasts w.heap.size x T)
    (hF : ∀ (V : World) (N : Nat), Below w.heap.size w V → w.heap.size ≤ N → Blk V N 57 M →
      Calls Tryd.prog F #[.pointer (some ⟨N, 0, none⟩), .slice A ks.length ac] V fun e w' => e = .returned (.tuple #[]) ∧ ∃ M', MOk M' ∧ Blk w' N 57 M' ∧ Two V w' N r ∧ T V M' w') :
    Calls Tryd.prog 8 #[.pointer (some ⟨x, 0, none⟩), .agg #[.string nm, .slice A ks.length ac, .string data]] w fun e w' => e = .returned (.int .i64 0) ∧ ∃ V M', Blk w' x 57 M' ∧ MOk M' ∧ T V M' w' ∧ Two w w' x r := by
  have hxl := hx.lt
  obtain ⟨H, hH⟩ : ∃ H, w.heap.size = H := ⟨_, rfl⟩
  obtain ⟨n, hn⟩ : ∃ n, ks.length = n := ⟨_, rfl⟩
  obtain ⟨U, hU⟩ : ∃ U, ((w.alloc (.cells #[.pointer (some ⟨x, 0, none⟩)] 27)).alloc (.cells #[.string nm, .slice A n ac, .string data] 33)).alloc (.cells #[.func (.func F) #[] #[]] 59) = U := ⟨_, rfl⟩
  have hUs : U.heap.size = H + 3 := by rw [← hU, World.size_alloc, World.size_alloc, World.size_alloc, hH]
  have hwU : Below w.heap.size w U := by
    rw [← hU]
    exact (((Below.refl _ w).alloc (Nat.le_refl _) _).alloc (by simp) _).alloc (by simp; omega) _
  have u0 : Blk U H 27 #[.pointer (some ⟨x, 0, none⟩)] := by rw [← hU, ← hH]; exact ((Blk.new w _ _).alloc _).alloc _
  have u1 : Blk U (H + 1) 33 #[.string nm, .slice A n ac, .string data] := by
    rw [← hU, ← hH]
    have := Blk.new (w.alloc (.cells #[.pointer (some ⟨x, 0, none⟩)] 27)) 33 #[.string nm, .slice A n ac, .string data]
    rw [World.size_alloc] at this
    exact this.alloc _
  have u2 : Blk U (H + 2) 59 #[.func (.func F) #[] #[]] := by
    rw [← hU, ← hH]
    have := Blk.new ((w.alloc (.cells #[.pointer (some ⟨x, 0, none⟩)] 27)).alloc (.cells #[.string nm, .slice A n ac, .string data] 33)) 59 #[.func (.func F) #[] #[]]
    rw [World.size_alloc, World.size_alloc] at this
    exact this
  have HC := Lib.hid (opCheck_any nm data A ac ks U (hA.below hwU) hkn (hsp.below hwU hg) (Nat.lt_of_lt_of_le hg hwU.size))
  rw [hks, hn, hUs] at HC
  have HCh := Lib.hid hch
  have HU := Lib.hid (And.intro hU (And.intro hUs (And.intro hwU (And.intro u0 (And.intro u1 u2)))))
  have HX := Lib.hid (And.intro hx hM)
  have HR := Lib.hid hr
  have HT := Lib.hid hT
  rw [hn] at hF
  have HF := Lib.hid hF
  rw [hn]
  have HH := Lib.hid hH
  clear hch hks hA hkn hsp hg hx hM hr hT hF hU hUs hwU u0 u1 u2 hn
  go_enter Tryd.func8, Tryd.ntmps8
  go_wp2_with fail
  refine (HCh.out _).mono ?_
  rintro e w' ⟨rfl, rfl⟩
  have hs1 : (storeCells ⟨H + 2, 0, none⟩ [.func (.func F) #[] #[]]).run Tryd.prog (((w.alloc (.cells #[.pointer (some ⟨x, 0, none⟩)] 27)).alloc (.cells #[.string nm, .slice A n ac, .string data] 33)).alloc (.cells #[Value.nilFunc] 59)) = .ok () U := by
    have h := run_storeCells_new (P := Tryd.prog) ((w.alloc (.cells #[.pointer (some ⟨x, 0, none⟩)] 27)).alloc (.cells #[.string nm, .slice A n ac, .string data] 33)) 59 #[Value.nilFunc] #[.func (.func F) #[] #[]] (by kernel_rfl) rfl (by simp [Value.oneCell'])
    rw [World.size_alloc, World.size_alloc, HH.out, HU.out.1] at h
    exact h
  have c2 := HU.out.2.2.2.2.2.cell 0
  have hl3 : (loadCells ⟨H + 1, 0, none⟩ 3).run Tryd.prog U = .ok #[.string nm, .slice A n ac, .string data] U :=
    run_loadCells_list (P := Tryd.prog) U ⟨H + 1, 0, none⟩ [.string nm, .slice A n ac, .string data] (fun j u hu => by
      rw [Addr.add_mid, Nat.zero_add, HU.out.2.2.2.2.1.cell]
      simpa using hu)
  have hq : ∀ W : World, (binOp .eql 59 (.func (.func F) #[] #[]) Value.nilFunc).run Tryd.prog W = .ok (.bool false) W := fun _ => by kernel_rfl
  go_wp2_with fail
  refine HC.out.mono ?_
  rintro e w3 ⟨rfl, hb3⟩
  have hb3' := hb3
  have hs3 : H + 3 ≤ w3.heap.size := by rw [← HU.out.2.1]; exact hb3.size
  have hw3 : Below w.heap.size w w3 := HU.out.2.2.1.trans (hb3.mono (by rw [HH.out]; omega))
  have v0 := HU.out.2.2.2.1.below hb3 (by omega)
  have v1 := HU.out.2.2.2.2.1.below hb3 (by omega)
  have v2 := HU.out.2.2.2.2.2.below hb3 (by omega)
  have vx := HX.out.1.below hw3 hxl
  obtain ⟨W, hW⟩ : ∃ W, inCaught w3 = W := ⟨_, rfl⟩
  have hWs : W.heap.size = w3.heap.size + 2 := by rw [← hW]; unfold inCaught; rw [World.size_alloc, World.size_alloc]
  have hWa : ∀ (g : Nat) (t : TypeId) (cs : Array Value), Blk w3 g t cs → Blk W g t cs := fun g t cs h => by rw [← hW]; exact (h.alloc _).alloc _
  have hWz : Blk W w3.heap.size 57 zeroM ∧ Blk W (w3.heap.size + 1) 29 #[.int .i64 0] := by
    rw [← hW]
    refine ⟨(Blk.new w3 _ _).alloc _, ?_⟩
    have := Blk.new (w3.alloc (.cells zeroM 57)) 29 #[.int .i64 0]
    rw [World.size_alloc] at this
    exact this
  have hWt : Two w3 W w3.heap.size r := by rw [← hW]; exact ((Two.refl w3 _ r).alloc _).alloc _
  obtain ⟨V, hV⟩ : ∃ V, (W.alloc (.cells zeroM 57)).alloc (.cells M 57) = V := ⟨_, rfl⟩
  have hVs : V.heap.size = W.heap.size + 2 := by rw [← hV, World.size_alloc, World.size_alloc]
  have hVn : Blk V (W.heap.size + 1) 57 M := by
    rw [← hV]
    have := Blk.new (W.alloc (.cells zeroM 57)) 57 M
    rw [World.size_alloc] at this
    exact this
  have hVz : Blk V W.heap.size 57 zeroM := by rw [← hV]; exact (Blk.new W _ _).alloc _
  have hVt : Two W V w3.heap.size r := by rw [← hV]; exact ((Two.refl W _ r).alloc _).alloc _
  have hVw : Below w.heap.size w V := by
    rw [← hV, ← hW]
    exact (((hw3.alloc (by rw [HH.out]; omega) _).alloc (by rw [World.size_alloc, HH.out]; omega) _).alloc (by simp only [World.size_alloc]; rw [HH.out]; omega) _).alloc (by simp only [World.size_alloc]; rw [HH.out]; omega) _
  have hF1 := HF.out V (W.heap.size + 1) hVw (by rw [hWs]; omega) hVn
  have hno : ∀ k, w.heap.size ≤ k → some k ≠ r := fun k hk e => by have := (HR.out k e.symm).1; omega
  have hmk : ∀ (V' : World) (hVV : V = V'), Calls Tryd.prog F #[.pointer (some ⟨W.heap.size + 1, 0, none⟩), .slice A n ac] V' fun e w' => e = .returned (.tuple #[]) ∧ ∃ M', MOk M' ∧ Blk w' (W.heap.size + 1) 57 M' ∧ Two V w' (W.heap.size + 1) r ∧ T V M' w' := fun V' hVV => by subst hVV; exact hF1
  have hwk := work_ok F x H (H + 2) (H + 1) M nm data A n ac (fun M' w' => MOk M' ∧ Blk w' (W.heap.size + 1) 57 M' ∧ Two V w' (W.heap.size + 1) r ∧ T V M' w') W henter (hWa _ _ _ v0) (hWa _ _ _ v2) (hWa _ _ _ v1) (hWa _ _ _ vx) HX.out.2
    (fun M' w' h => ⟨h.1, h.2.2.1.blk hVz (by omega) (hno _ (by rw [hWs]; omega)), h.2.1⟩) (hmk _ hV.symm)
  have hcg := caughtS_ok 23 #[.pointer (some ⟨H, 0, none⟩), .pointer (some ⟨H + 2, 0, none⟩), .pointer (some ⟨H + 1, 0, none⟩)]
    (fun M' w' => ∃ w1, (MOk M' ∧ Blk w1 (W.heap.size + 1) 57 M' ∧ Two V w1 (W.heap.size + 1) r ∧ T V M' w1) ∧ w' = w1.setRow W.heap.size M') w3 (fun _ => by kernel_rfl)
    (fun M' w' h => by
      obtain ⟨w1, h, rfl⟩ := h
      have h1 : Two W w1 (W.heap.size + 1) r := (by rw [← hV]; exact ((Two.refl W _ r).alloc _).alloc _ : Two W V (W.heap.size + 1) r).trans h.2.2.1 (Or.inl rfl)
      exact ⟨(h1.blk hWz.1 (by rw [hWs]; omega) (hno _ (by rw [HH.out]; omega))).farRow (by rw [hWs]; omega) _, (h1.blk hWz.2 (by rw [hWs]; omega) (hno _ (by rw [HH.out]; omega))).farRow (by rw [hWs]; omega) _⟩)
    (by rw [hW]; exact hwk)
  have HCG := Lib.hid hcg
  clear hcg hwk hmk hF1 hb3 hb3' hVw hVt
  have HW3 := Lib.hid (And.intro hw3 (And.intro hWt (And.intro hWs (And.intro hVs (And.intro hV hs3)))))
  have HVX := Lib.hid (And.intro v0 vx)
  have HNo := Lib.hid hno
  clear v0 v1 v2 vx hw3 hWa hWz hWt hWs hVs hVn hVz hV hs3 hno hW HC HF hl3 hs1 c2
  go_wp2_with fail
  refine HCG.out.mono ?_
  rintro e w4 ⟨M', rfl, hM', w2, ⟨w1, ⟨_, hb1, ht1, hT1⟩, rfl⟩, hw4⟩
  have hs3 := HW3.out.2.2.2.2.2
  have hWs := HW3.out.2.2.1
  have hVs := HW3.out.2.2.2.1
  have hVt : Two w3 V w3.heap.size r := HW3.out.2.1.new ((by rw [← HW3.out.2.2.2.2.1]; exact ((Two.refl W _ r).alloc _).alloc _ : Two W V w3.heap.size r)) (Nat.le_refl _)
  have t1 : Two w3 w1 w3.heap.size r := hVt.new ht1 (by omega)
  have t4 : Two w3 w4 w3.heap.size r := by rw [hw4]; exact ((t1.newRow (by omega) _).newRow (Nat.le_refl _) _).newCell (by omega) _ _
  have v0 := t4.blk HVX.out.1 (by omega) (HNo.out _ (by rw [HH.out]; exact Nat.le_refl _))
  have vx := t4.blk HVX.out.2 (by omega) (fun e => by have := (HR.out x e.symm).2; omega)
  have w1s : w4.heap.size = w1.heap.size := by rw [hw4]; simp [World.setCell]
  have hVl : V.heap.size ≤ w1.heap.size := ht1.size
  have tx := ((belowTwo HW3.out.1 x r).new t4 (by rw [HH.out]; omega)).alloc (.cells M' 57)
  have hTw : ∀ b : World, w1.heap.size ≤ b.heap.size → (∀ g, g < w1.heap.size → g ≠ x → b.heap[g]? = (w4.alloc (.cells M' 57)).heap[g]?) → T V M' b := fun b hb h => HT.out V M' w1 b hT1 hb (fun g hg hgx hor => by
    rw [h g hg hgx, Below.heap_alloc w4 _ g (by rw [w1s]; exact hg), hw4, Below.heap_setCell _ _ _ _ (by show g ≠ w3.heap.size + 1; rcases hor with h | h <;> omega), setRow_other _ _ _ _ (by rcases hor with h | h <;> omega), setRow_other _ _ _ _ (by rcases hor with h | h <;> omega)])
  have HTW := Lib.hid (And.intro hTw (And.intro tx w1s))
  have c0 := v0.cell 0
  have l0 := v0.lt
  have lx := vx.lt
  have HVX2 := Lib.hid vx
  clear hTw tx t4 t1 hVt ht1 hb1 hT1 hw4 v0 vx HCG HW3 HVX HNo hWs hVs hs3 hVl w1s hq HT HR
  obtain ⟨Z, hZ⟩ : ∃ Z, zeroM = Z := ⟨_, rfl⟩
  have HZ := Lib.hid (hZ ▸ zeroM_ok : MOk Z)
  rw [zeroM] at hZ
  have hs5 := st_new hM' HZ.out w4
  have hl5 := ld_m hM' (Blk.new w4 57 M')
  have hs6 := st_m HX.out.2 hM' (HVX2.out.alloc (.cells M' 57))
  have hM1 := hM'.1
  have HM := Lib.hid hM'
  clear hM'
  go_wp2_with fail
  go_ret
  exact ⟨rfl, V, M', (HVX2.out.alloc _).setRow _, HM.out, HTW.out.1 _ (by rw [setRow_size, World.size_alloc, HTW.out.2.2]; omega) (fun g _ hgx => setRow_other _ _ _ _ hgx), HTW.out.2.1.setRow_ _⟩
set_option maxRecDepth 100000 in
set_option maxHeartbeats 4000000 in
theorem do_no (F : FuncId) (x : Nat) (M : Array Value) (nm data : ByteArray) (A : Option Addr) (ac : Nat) (ks : List Int) (c : Int) (hc : c ≠ 0) (w : World)
    (henter : ∀ (args : Array Value) (V : World), (callFunc F args).run Tryd.prog V = .ok (.enter F args) V)
    (hch : ∀ V : World, Calls Tryd.prog 20 #[.string nm] V fun e w' => e = .returned (.func (.func F) #[] #[]) ∧ V = w')
    (hks : chkOp nm.data.toList data.data.toList ks = 0) (hA : ArgsAt w A ks) (hkn : ks.length ≤ 9223372036854775807) (hsp : SpaceAt w) (hg : 0 < w.heap.size)
    (hx : Blk w x 57 M) (hM : MOk M)
    (hF : ∀ (V : World) (N : Nat), Below w.heap.size w V → w.heap.size ≤ N → Blk V N 57 M →
      Calls Tryd.prog F #[.pointer (some ⟨N, 0, none⟩), .slice A ks.length ac] V fun e w' => e = gUp c ∧ Two V w' N none) :
    Calls Tryd.prog 8 #[.pointer (some ⟨x, 0, none⟩), .agg #[.string nm, .slice A ks.length ac, .string data]] w fun e w' => e = .returned (.int .i64 c) ∧ Blk w' x 57 M ∧ Two w w' x none := by
  have hxl := hx.lt
  obtain ⟨H, hH⟩ : ∃ H, w.heap.size = H := ⟨_, rfl⟩
  obtain ⟨n, hn⟩ : ∃ n, ks.length = n := ⟨_, rfl⟩
  obtain ⟨U, hU⟩ : ∃ U, ((w.alloc (.cells #[.pointer (some ⟨x, 0, none⟩)] 27)).alloc (.cells #[.string nm, .slice A n ac, .string data] 33)).alloc (.cells #[.func (.func F) #[] #[]] 59) = U := ⟨_, rfl⟩
  have hUs : U.heap.size = H + 3 := by rw [← hU, World.size_alloc, World.size_alloc, World.size_alloc, hH]
  have hwU : Below w.heap.size w U := by
    rw [← hU]
    exact (((Below.refl _ w).alloc (Nat.le_refl _) _).alloc (by simp) _).alloc (by simp; omega) _
  have u0 : Blk U H 27 #[.pointer (some ⟨x, 0, none⟩)] := by rw [← hU, ← hH]; exact ((Blk.new w _ _).alloc _).alloc _
  have u1 : Blk U (H + 1) 33 #[.string nm, .slice A n ac, .string data] := by
    rw [← hU, ← hH]
    have := Blk.new (w.alloc (.cells #[.pointer (some ⟨x, 0, none⟩)] 27)) 33 #[.string nm, .slice A n ac, .string data]
    rw [World.size_alloc] at this
    exact this.alloc _
  have u2 : Blk U (H + 2) 59 #[.func (.func F) #[] #[]] := by
    rw [← hU, ← hH]
    have := Blk.new ((w.alloc (.cells #[.pointer (some ⟨x, 0, none⟩)] 27)).alloc (.cells #[.string nm, .slice A n ac, .string data] 33)) 59 #[.func (.func F) #[] #[]]
    rw [World.size_alloc, World.size_alloc] at this
    exact this
  have HC := Lib.hid (opCheck_any nm data A ac ks U (hA.below hwU) hkn (hsp.below hwU hg) (Nat.lt_of_lt_of_le hg hwU.size))
  rw [hks, hn, hUs] at HC
  have HCh := Lib.hid hch
  have HU := Lib.hid (And.intro hU (And.intro hUs (And.intro hwU (And.intro u0 (And.intro u1 u2)))))
  have HX := Lib.hid (And.intro hx hM)
  rw [hn] at hF
  have HF := Lib.hid hF
  rw [hn]
  have HH := Lib.hid hH
  clear hch hks hA hkn hsp hg hx hM hF hU hUs hwU u0 u1 u2 hn
  go_enter Tryd.func8, Tryd.ntmps8
  go_wp2_with fail
  refine (HCh.out _).mono ?_
  rintro e w' ⟨rfl, rfl⟩
  have hs1 : (storeCells ⟨H + 2, 0, none⟩ [.func (.func F) #[] #[]]).run Tryd.prog (((w.alloc (.cells #[.pointer (some ⟨x, 0, none⟩)] 27)).alloc (.cells #[.string nm, .slice A n ac, .string data] 33)).alloc (.cells #[Value.nilFunc] 59)) = .ok () U := by
    have h := run_storeCells_new (P := Tryd.prog) ((w.alloc (.cells #[.pointer (some ⟨x, 0, none⟩)] 27)).alloc (.cells #[.string nm, .slice A n ac, .string data] 33)) 59 #[Value.nilFunc] #[.func (.func F) #[] #[]] (by kernel_rfl) rfl (by simp [Value.oneCell'])
    rw [World.size_alloc, World.size_alloc, HH.out, HU.out.1] at h
    exact h
  have c2 := HU.out.2.2.2.2.2.cell 0
  have hl3 : (loadCells ⟨H + 1, 0, none⟩ 3).run Tryd.prog U = .ok #[.string nm, .slice A n ac, .string data] U :=
    run_loadCells_list (P := Tryd.prog) U ⟨H + 1, 0, none⟩ [.string nm, .slice A n ac, .string data] (fun j u hu => by
      rw [Addr.add_mid, Nat.zero_add, HU.out.2.2.2.2.1.cell]
      simpa using hu)
  have hq : ∀ W : World, (binOp .eql 59 (.func (.func F) #[] #[]) Value.nilFunc).run Tryd.prog W = .ok (.bool false) W := fun _ => by kernel_rfl
  go_wp2_with fail
  refine HC.out.mono ?_
  rintro e w3 ⟨rfl, hb3⟩
  have hb3' := hb3
  have hs3 : H + 3 ≤ w3.heap.size := by rw [← HU.out.2.1]; exact hb3.size
  have hw3 : Below w.heap.size w w3 := HU.out.2.2.1.trans (hb3.mono (by rw [HH.out]; omega))
  have v0 := HU.out.2.2.2.1.below hb3 (by omega)
  have v1 := HU.out.2.2.2.2.1.below hb3 (by omega)
  have v2 := HU.out.2.2.2.2.2.below hb3 (by omega)
  have vx := HX.out.1.below hw3 hxl
  obtain ⟨W, hW⟩ : ∃ W, inCaught w3 = W := ⟨_, rfl⟩
  have hWs : W.heap.size = w3.heap.size + 2 := by rw [← hW]; unfold inCaught; rw [World.size_alloc, World.size_alloc]
  have hWa : ∀ (g : Nat) (t : TypeId) (cs : Array Value), Blk w3 g t cs → Blk W g t cs := fun g t cs h => by rw [← hW]; exact (h.alloc _).alloc _
  have hWz : Blk W w3.heap.size 57 zeroM ∧ Blk W (w3.heap.size + 1) 29 #[.int .i64 0] := by
    rw [← hW]
    refine ⟨(Blk.new w3 _ _).alloc _, ?_⟩
    have := Blk.new (w3.alloc (.cells zeroM 57)) 29 #[.int .i64 0]
    rw [World.size_alloc] at this
    exact this
  have hWt : Two w3 W w3.heap.size none := by rw [← hW]; exact ((Two.refl w3 _ none).alloc _).alloc _
  obtain ⟨V, hV⟩ : ∃ V, (W.alloc (.cells zeroM 57)).alloc (.cells M 57) = V := ⟨_, rfl⟩
  have hVs : V.heap.size = W.heap.size + 2 := by rw [← hV, World.size_alloc, World.size_alloc]
  have hVn : Blk V (W.heap.size + 1) 57 M := by
    rw [← hV]
    have := Blk.new (W.alloc (.cells zeroM 57)) 57 M
    rw [World.size_alloc] at this
    exact this
  have hVz : Blk V W.heap.size 57 zeroM := by rw [← hV]; exact (Blk.new W _ _).alloc _
  have hVt : Two W V w3.heap.size none := by rw [← hV]; exact ((Two.refl W _ none).alloc _).alloc _
  have hVw : Below w.heap.size w V := by
    rw [← hV, ← hW]
    exact (((hw3.alloc (by rw [HH.out]; omega) _).alloc (by rw [World.size_alloc, HH.out]; omega) _).alloc (by simp only [World.size_alloc]; rw [HH.out]; omega) _).alloc (by simp only [World.size_alloc]; rw [HH.out]; omega) _
  have hF1 := HF.out V (W.heap.size + 1) hVw (by rw [hWs]; omega) hVn
  have hmk : ∀ (V' : World) (hVV : V = V'), Calls Tryd.prog F #[.pointer (some ⟨W.heap.size + 1, 0, none⟩), .slice A n ac] V' fun e w' => e = gUp c ∧ Two V w' (W.heap.size + 1) none := fun V' hVV => by subst hVV; exact hF1
  have hwk := work_no F x H (H + 2) (H + 1) M c nm data A n ac (fun w' => Two V w' (W.heap.size + 1) none) W henter (hWa _ _ _ v0) (hWa _ _ _ v2) (hWa _ _ _ v1) (hWa _ _ _ vx) HX.out.2 (hmk _ hV.symm)
  have hcg := caughtS_no 23 #[.pointer (some ⟨H, 0, none⟩), .pointer (some ⟨H + 2, 0, none⟩), .pointer (some ⟨H + 1, 0, none⟩)] c
    (fun w' => Two V w' (W.heap.size + 1) none) w3 (fun _ => by kernel_rfl)
    (fun w' h => by
      have h1 : Two W w' (W.heap.size + 1) none := (by rw [← hV]; exact ((Two.refl W _ none).alloc _).alloc _ : Two W V (W.heap.size + 1) none).trans h (Or.inl rfl)
      exact ⟨h1.blk hWz.1 (by rw [hWs]; omega) (by simp), h1.blk hWz.2 (by rw [hWs]; omega) (by simp)⟩)
    (by rw [hW]; exact hwk)
  have HCG := Lib.hid hcg
  clear hcg hwk hmk hF1 hb3 hb3' hVw hVt
  have HW3 := Lib.hid (And.intro hw3 (And.intro hWt (And.intro hWs (And.intro hVs (And.intro hV hs3)))))
  have HVX := Lib.hid (And.intro v0 vx)
  clear v0 v1 v2 vx hw3 hWa hWz hWt hWs hVs hVn hVz hV hs3 hW HC HF hl3 hs1 c2
  go_wp2_with fail
  refine HCG.out.mono ?_
  rintro e w4 ⟨rfl, w1, ht1, hw4⟩
  have hs3 := HW3.out.2.2.2.2.2
  have hWs := HW3.out.2.2.1
  have hVs := HW3.out.2.2.2.1
  have hVt : Two w3 V w3.heap.size none := HW3.out.2.1.new ((by rw [← HW3.out.2.2.2.2.1]; exact ((Two.refl W _ none).alloc _).alloc _ : Two W V w3.heap.size none)) (Nat.le_refl _)
  have t1 : Two w3 w1 w3.heap.size none := hVt.new ht1 (by omega)
  have t4 : Two w3 w4 w3.heap.size none := by rw [hw4]; exact t1.newCell (by omega) _ _
  have vx := t4.blk HVX.out.2 (by omega) (by simp)
  have tx := ((belowTwo HW3.out.1 x none).new t4 (by rw [HH.out]; omega)).alloc (.cells zeroM 57)
  have HTW := Lib.hid (And.intro (vx.alloc (.cells zeroM 57)) tx)
  clear tx t4 t1 hVt ht1 hw4 vx HCG HW3 HVX hWs hVs hs3 hq
  obtain ⟨Z, hZ⟩ : ∃ Z, zeroM = Z := ⟨_, rfl⟩
  have HZ := Lib.hid (hZ ▸ zeroM_ok : MOk Z)
  rw [hZ] at HTW ⊢
  rw [zeroM] at hZ
  have hs5 := st_new HZ.out HZ.out w4
  have hM1 := HZ.out.1
  go_wp2_with fail
  go_ret
  exact ⟨rfl, HTW.out⟩
/-- An operator that is none. -/
theorem do_none (x : Nat) (nm data : ByteArray) (A : Option Addr) (al ac : Nat) (w : World)
    (hch : ∀ V : World, Calls Tryd.prog 20 #[.string nm] V fun e w' => e = .returned Value.nilFunc ∧ V = w') :
    Calls Tryd.prog 8 #[.pointer (some ⟨x, 0, none⟩), .agg #[.string nm, .slice A al ac, .string data]] w fun e w' => e = .returned (.int .i64 8) ∧ Below w.heap.size w w' := by
  have HCh := Lib.hid hch
  clear hch
  obtain ⟨H, hH⟩ : ∃ H, w.heap.size = H := ⟨_, rfl⟩
  have HH := Lib.hid hH
  go_enter Tryd.func8, Tryd.ntmps8
  go_wp2_with fail
  refine (HCh.out _).mono ?_
  rintro e w' ⟨rfl, rfl⟩
  have hs1 : (storeCells ⟨H + 2, 0, none⟩ [Value.nilFunc]).run Tryd.prog (((w.alloc (.cells #[.pointer (some ⟨x, 0, none⟩)] 27)).alloc (.cells #[.string nm, .slice A al ac, .string data] 33)).alloc (.cells #[Value.nilFunc] 59)) = .ok () (((w.alloc (.cells #[.pointer (some ⟨x, 0, none⟩)] 27)).alloc (.cells #[.string nm, .slice A al ac, .string data] 33)).alloc (.cells #[Value.nilFunc] 59)) := by
    have h := run_storeCells_new (P := Tryd.prog) ((w.alloc (.cells #[.pointer (some ⟨x, 0, none⟩)] 27)).alloc (.cells #[.string nm, .slice A al ac, .string data] 33)) 59 #[Value.nilFunc] #[Value.nilFunc] (by kernel_rfl) rfl (by simp [Value.oneCell'])
    rw [World.size_alloc, World.size_alloc, HH.out] at h
    exact h
  have hq : ∀ W : World, (binOp .eql 59 Value.nilFunc Value.nilFunc).run Tryd.prog W = .ok (.bool true) W := fun _ => by kernel_rfl
  go_wp2_with fail
  go_ret
  exact ⟨rfl, (((Below.refl _ w).alloc (Nat.le_refl _) _).alloc (by simp only [World.size_alloc]; omega) _).alloc (by simp only [World.size_alloc]; omega) _⟩
/-- No machine. -/
theorem do_nil (nm data : ByteArray) (A : Option Addr) (al ac : Nat) (w : World) :
    Calls Tryd.prog 8 #[.pointer none, .agg #[.string nm, .slice A al ac, .string data]] w fun e w' => e = .returned (.int .i64 1) ∧ Below w.heap.size w w' := by
  go_enter Tryd.func8, Tryd.ntmps8
  go_wp2_with fail
  go_ret
  exact ⟨rfl, ((Below.refl _ w).alloc (Nat.le_refl _) _).alloc (by simp) _⟩
set_option maxRecDepth 100000 in
set_option maxHeartbeats 4000000 in
theorem do_bad (F : FuncId) (x : Nat) (nm data : ByteArray) (A : Option Addr) (ac : Nat) (ks : List Int) (c : Int) (hc : c ≠ 0) (w : World)
    (hch : ∀ V : World, Calls Tryd.prog 20 #[.string nm] V fun e w' => e = .returned (.func (.func F) #[] #[]) ∧ V = w')
    (hks : chkOp nm.data.toList data.data.toList ks = c) (hA : ArgsAt w A ks) (hkn : ks.length ≤ 9223372036854775807) (hsp : SpaceAt w) (hg : 0 < w.heap.size) :
    Calls Tryd.prog 8 #[.pointer (some ⟨x, 0, none⟩), .agg #[.string nm, .slice A ks.length ac, .string data]] w fun e w' => e = .returned (.int .i64 c) ∧ Below w.heap.size w w' := by
  obtain ⟨H, hH⟩ : ∃ H, w.heap.size = H := ⟨_, rfl⟩
  obtain ⟨n, hn⟩ : ∃ n, ks.length = n := ⟨_, rfl⟩
  obtain ⟨U, hU⟩ : ∃ U, ((w.alloc (.cells #[.pointer (some ⟨x, 0, none⟩)] 27)).alloc (.cells #[.string nm, .slice A n ac, .string data] 33)).alloc (.cells #[.func (.func F) #[] #[]] 59) = U := ⟨_, rfl⟩
  have hUs : U.heap.size = H + 3 := by rw [← hU, World.size_alloc, World.size_alloc, World.size_alloc, hH]
  have hwU : Below w.heap.size w U := by
    rw [← hU]
    exact (((Below.refl _ w).alloc (Nat.le_refl _) _).alloc (by simp) _).alloc (by simp; omega) _
  have u0 : Blk U H 27 #[.pointer (some ⟨x, 0, none⟩)] := by rw [← hU, ← hH]; exact ((Blk.new w _ _).alloc _).alloc _
  have u1 : Blk U (H + 1) 33 #[.string nm, .slice A n ac, .string data] := by
    rw [← hU, ← hH]
    have := Blk.new (w.alloc (.cells #[.pointer (some ⟨x, 0, none⟩)] 27)) 33 #[.string nm, .slice A n ac, .string data]
    rw [World.size_alloc] at this
    exact this.alloc _
  have u2 : Blk U (H + 2) 59 #[.func (.func F) #[] #[]] := by
    rw [← hU, ← hH]
    have := Blk.new ((w.alloc (.cells #[.pointer (some ⟨x, 0, none⟩)] 27)).alloc (.cells #[.string nm, .slice A n ac, .string data] 33)) 59 #[.func (.func F) #[] #[]]
    rw [World.size_alloc, World.size_alloc] at this
    exact this
  have HC := Lib.hid (opCheck_any nm data A ac ks U (hA.below hwU) hkn (hsp.below hwU hg) (Nat.lt_of_lt_of_le hg hwU.size))
  rw [hks, hn, hUs] at HC
  have HCh := Lib.hid hch
  have HU := Lib.hid (And.intro hU (And.intro hUs (And.intro hwU (And.intro u0 (And.intro u1 u2)))))
  rw [hn]
  have HH := Lib.hid hH
  clear hch hks hA hkn hsp hg hU hUs hwU u0 u1 u2 hn
  go_enter Tryd.func8, Tryd.ntmps8
  go_wp2_with fail
  refine (HCh.out _).mono ?_
  rintro e w' ⟨rfl, rfl⟩
  have hs1 : (storeCells ⟨H + 2, 0, none⟩ [.func (.func F) #[] #[]]).run Tryd.prog (((w.alloc (.cells #[.pointer (some ⟨x, 0, none⟩)] 27)).alloc (.cells #[.string nm, .slice A n ac, .string data] 33)).alloc (.cells #[Value.nilFunc] 59)) = .ok () U := by
    have h := run_storeCells_new (P := Tryd.prog) ((w.alloc (.cells #[.pointer (some ⟨x, 0, none⟩)] 27)).alloc (.cells #[.string nm, .slice A n ac, .string data] 33)) 59 #[Value.nilFunc] #[.func (.func F) #[] #[]] (by kernel_rfl) rfl (by simp [Value.oneCell'])
    rw [World.size_alloc, World.size_alloc, HH.out, HU.out.1] at h
    exact h
  have c2 := HU.out.2.2.2.2.2.cell 0
  have hl3 : (loadCells ⟨H + 1, 0, none⟩ 3).run Tryd.prog U = .ok #[.string nm, .slice A n ac, .string data] U :=
    run_loadCells_list (P := Tryd.prog) U ⟨H + 1, 0, none⟩ [.string nm, .slice A n ac, .string data] (fun j u hu => by
      rw [Addr.add_mid, Nat.zero_add, HU.out.2.2.2.2.1.cell]
      simpa using hu)
  have hq : ∀ W : World, (binOp .eql 59 (.func (.func F) #[] #[]) Value.nilFunc).run Tryd.prog W = .ok (.bool false) W := fun _ => by kernel_rfl
  go_wp2_with fail
  refine HC.out.mono ?_
  rintro e w3 ⟨rfl, hb3⟩
  have HB := Lib.hid (HU.out.2.2.1.trans (hb3.mono (by rw [HH.out]; omega)))
  clear hb3 HC hl3 hs1
  go_wp2_with fail
  go_ret
  exact ⟨rfl, by have h := HB.out; rwa [HH.out] at h⟩
end Go.Proofs.YtbagmjedkcipgaaDoor
