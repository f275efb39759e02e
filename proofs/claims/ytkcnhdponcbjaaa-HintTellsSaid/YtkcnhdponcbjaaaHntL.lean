/-
  hint's Read.
-/
import Derived.Test.YtkcnhdponcbjaaaHntK
import Derived.Test.YtkcnhdponcbjaaaHntH
import Derived.Test.YtkcnhdponcbjaaaHntM
import Derived.Defers
import Derived.Recover
namespace Go.Proofs.Ytkcnhdponcbjaaa
open Go.RowKit Bt Hnt

theorem caughtH_panicking (p : Addr) (a x : Int) (older : List PanicEntry) (w : World) (hp : w.cell? p = some (.int .i64 a)) (hz : w.frozen? p = false) :
    CallsD Try.prog 48 #[.pointer (some p)] (.panicking ({ v := .iface 24 (.int .i64 x), recovered := false } :: older)) w fun e u' w' =>
      e = .returned (.tuple #[]) ∧ u' = .panicking ({ v := .iface 24 (.int .i64 x), recovered := true } :: older) ∧ w' = w.setCell p (.int .i64 x) := by
  have hta : ∀ w : World, (Instr.typeAssert (.iface 24 (.int .i64 x)) 20 24 true).run Try.prog w = .ok (.tuple #[.int .i64 x, .bool true]) w := fun _ => by kernel_rfl
  refine callsD_of_wpS Try.func48 rfl fun c₀ cs hu => ?_
  apply wpS_seq
  apply wpS_region
  simp [wpOpsS, go_sem, recoverD, hu, Try.ntmps48, Exit.thenS]
  refine wpS_of_wp ?_
  change Code.wp Try.prog _ _ { tmps := #[.pointer (some p), undef, undef, undef, .iface 24 (.int .i64 x), undef, undef, undef, undef, undef, undef], defers := [] } w
  go_wp2_with fail
  simp [bodyPostS, results, Try.results48]

theorem caughtH_idle (p : Addr) (w : World) :
    CallsD Try.prog 48 #[.pointer (some p)] .returning w fun e u' w' => e = .returned (.tuple #[]) ∧ u' = .returning ∧ w' = w := by
  refine callsD_of_wpS Try.func48 rfl fun c₀ cs hu => ?_
  apply wpS_seq
  apply wpS_region
  simp [wpOpsS, go_sem, recoverD, hu, Try.ntmps48, Exit.thenS]
  refine wpS_of_wp ?_
  change Code.wp Try.prog _ _ { tmps := #[.pointer (some p), undef, undef, undef, .nilIface, undef, undef, undef, undef, undef, undef], defers := [] } w
  go_wp2_with fail
  cases c₀
  simp_all [bodyPostS, results, Try.results48]


theorem caughtH_ok (F : FuncId) (caps : Array Value) (R : Option Addr → Nat → Nat → World → Prop) (w : World) (henter : ∀ W : World, (callFunc F caps).run Try.prog W = .ok (.enter F caps) W)
    (hk : ∀ A n c w', R A n c w' → Blk w' w.heap.size 24 #[.int .i64 0])
    (hwork : Calls Try.prog F caps (w.alloc (.cells #[.int .i64 0] 24)) fun e w' => ∃ A n c, e = .returned (.slice A n c) ∧ R A n c w') :
    Calls Try.prog 29 #[.func (.func F) #[] caps] w fun e w' => ∃ A n c, e = .returned (.tuple #[.slice A n c, .int .i64 0]) ∧ ∃ w1, R A n c w1 ∧ w' = w1.setCell ⟨w.heap.size, 0, none⟩ (.int .i64 0) := by
  have hmf : ∀ (fn : Fn) (first cap : Array Value) (w : World), (Instr.makeFunc fn first cap).run Try.prog w = .ok (.func fn first cap) w := fun _ _ _ _ => rfl
  have HW := Lib.hid hwork
  have HK := Lib.hid hk
  clear hwork hk
  go_enter_defers Try.func29, Try.ntmps29
  go_wp2_with fail
  refine HW.out.mono ?_
  rintro e w1 ⟨A, n, c, rfl, hR⟩
  have hB := HK.out A n c w1 hR
  have c0 := hB.cell 0
  have f0 := hB.frozen 0
  simp only [List.getElem?_toArray, List.getElem?_cons_zero] at c0
  have HR := Lib.hid hR
  clear hB hR
  go_wp2_with fail
  refine leaves_cons (f := 48) (args := #[.pointer (some ⟨w.heap.size, 0, none⟩)]) (by simp) (by simp [go_sem]) ?_
  refine (caughtH_idle ⟨w.heap.size, 0, none⟩ _).mono ?_
  rintro e u' w'' ⟨rfl, rfl, rfl⟩
  simp [Leaves, settle, results, Try.results29, go_sem, c0]
  exact ⟨A, n, c, ⟨rfl, rfl, rfl⟩, w1, HR.out, rfl⟩

theorem caughtH_no (F : FuncId) (caps : Array Value) (R : World → Prop) (w : World) (henter : ∀ W : World, (callFunc F caps).run Try.prog W = .ok (.enter F caps) W)
    (hk : ∀ w', R w' → Blk w' w.heap.size 24 #[.int .i64 0])
    (hwork : Calls Try.prog F caps (w.alloc (.cells #[.int .i64 0] 24)) fun e w' => (∃ x, x ≠ 0 ∧ e = gUp x) ∧ R w') :
    Calls Try.prog 29 #[.func (.func F) #[] caps] w fun e w' => ∃ x : Int, x ≠ 0 ∧ e = .returned (.tuple #[.slice none 0 0, .int .i64 x]) ∧ ∃ w1, R w1 ∧ w' = w1.setCell ⟨w.heap.size, 0, none⟩ (.int .i64 x) := by
  have hmf : ∀ (fn : Fn) (first cap : Array Value) (w : World), (Instr.makeFunc fn first cap).run Try.prog w = .ok (.func fn first cap) w := fun _ _ _ _ => rfl
  have HW := Lib.hid hwork
  have HK := Lib.hid hk
  clear hwork hk
  go_enter_defers Try.func29, Try.ntmps29
  go_wp2_with fail
  refine HW.out.mono ?_
  rintro e w1 ⟨⟨x, hx, rfl⟩, hR⟩
  have hB := HK.out w1 hR
  have c0 := hB.cell 0
  have f0 := hB.frozen 0
  simp only [List.getElem?_toArray, List.getElem?_cons_zero] at c0
  have HR := Lib.hid hR
  have HX := Lib.hid hx
  clear hB hR hx
  unfold gUp
  go_wp2_with fail
  refine leaves_cons (f := 48) (args := #[.pointer (some ⟨w.heap.size, 0, none⟩)]) (by simp) (by simp [go_sem]) ?_
  refine (caughtH_panicking ⟨w.heap.size, 0, none⟩ 0 x [] _ c0 f0).mono ?_
  rintro e u' w'' ⟨rfl, rfl, rfl⟩
  simp [Leaves, settle, results, Try.results29, go_sem, c0]
  exact ⟨x, HX.out, rfl, w1, HR.out, rfl⟩

set_option maxRecDepth 100000 in
set_option maxHeartbeats 2000000 in
theorem read1_any (P : Nat) (s : ByteArray) (w : World) (hP : Blk w P 9 #[.string s]) (hs : s.size ≤ 1000000000) :
    Calls Try.prog 30 #[.pointer (some ⟨P, 0, none⟩)] w (DPost w.heap.size w (decH s)) := by
  have HD := Lib.hid (decoded_any s w hs)
  have p0 := hP.cell 0
  simp only [List.getElem?_toArray, List.getElem?_cons_zero] at p0
  clear hP hs
  go_enter Try.func30, Try.ntmps30
  go_wp2_with fail
  refine HD.out.mono ?_
  rintro e w1 ⟨hb, hor⟩
  have HB := Lib.hid hb
  clear hb
  rcases hor with ⟨hD, x, hx, rfl⟩ | ⟨rows, b, cap, hD, rfl, hA⟩
  · exact ⟨rfl, HB.out, Or.inl ⟨hD, x, hx, rfl⟩⟩
  · have HA := Lib.hid hA
    have HD2 := Lib.hid hD
    clear hA hD
    go_wp2_with fail
    go_ret
    exact ⟨HB.out, Or.inr ⟨rows, b, cap, HD2.out, rfl, HA.out⟩⟩

theorem HAt.far {w : World} {b : Nat} {l : List H3} (h : HAt w (some ⟨b, 0, none⟩) l) {p : Addr} (hp : b ≠ p.block) (u : Value) : HAt (w.setCell p u) (some ⟨b, 0, none⟩) l := fun j hj => by
  obtain ⟨b2, off, ha, h1, h2, h3, h4⟩ := h j hj
  injection ha with ha
  injection ha with e1 e2 e3
  subst e1 e2
  exact ⟨b, 0, rfl, by simpa [World.setCell] using h1, (World.cell?_of_block (a := ⟨b, _, none⟩) (Below.heap_setCell w p u b hp)).trans h2, (World.cell?_of_block (a := ⟨b, _, none⟩) (Below.heap_setCell w p u b hp)).trans h3, (World.cell?_of_block (a := ⟨b, _, none⟩) (Below.heap_setCell w p u b hp)).trans h4⟩
theorem HAt.nil (w : World) (A : Option Addr) : HAt w A [] := fun _ hj => absurd hj (Nat.not_lt_zero _)
theorem no_readE {s : ByteArray} (h : decH s = none) : readE s = 32 := by unfold readE; rw [h]
theorem some_readE {s : ByteArray} {l : List H3} (h : decH s = some l) (h1 : textE l ≠ 0) : readE s = 32 := by
  unfold readE
  rw [h]
  show (if textE l = 0 then _ else _) = _
  rw [if_neg h1]
theorem text_readE {s : ByteArray} {l : List H3} (h : decH s = some l) (h1 : textE l = 0) (h2 : textB l ≠ s.data.toList) : readE s = 32 := by
  unfold readE
  rw [h]
  show (if textE l = 0 then _ else _) = _
  rw [if_pos h1, if_neg h2]
theorem str_neqH {a b : ByteArray} (h : a.data.toList ≠ b.data.toList) : (a.toList == b.toList) = false := by
  rw [Lib.toList_data, Lib.toList_data]
  exact beq_eq_false_iff_ne.2 h
theorem bytes_of {l : List UInt8} {s : ByteArray} (h : (⟨l.toArray⟩ : ByteArray) = s) : s.data.toList = l := by subst h; rfl

set_option maxRecDepth 100000 in
set_option maxHeartbeats 4000000 in
theorem read_any (s : ByteArray) (w : World) (hs : s.size ≤ 1000000000) :
    Calls Try.prog 11 #[.string s] w fun e w' => (∃ A cap, e = .returned (.tuple #[.slice A (readL s).length cap, .int .i64 (readE s)]) ∧ HAt w' A (readL s)) ∧ Below w.heap.size w w' := by
  have hmf : ∀ (fn : Fn) (first cap : Array Value) (w : World), (Instr.makeFunc fn first cap).run Try.prog w = .ok (.func fn first cap) w := fun _ _ _ _ => rfl
  obtain ⟨N, hN⟩ : ∃ N, w.heap.size = N := ⟨_, rfl⟩
  obtain ⟨V, hV⟩ : ∃ V, w.alloc (.cells #[.string s] 9) = V := ⟨_, rfl⟩
  have hVs : V.heap.size = N + 1 := by rw [← hV, World.size_alloc, hN]
  have HVs := Lib.hid hVs
  have bP : Blk V N 9 #[.string s] := by rw [← hV, ← hN]; exact Blk.new w _ _
  have HP := Lib.hid bP
  have HB := Lib.hid (show Below N w V by rw [← hV, ← hN]; exact (Below.refl _ w).alloc (Nat.le_refl _) _)
  obtain ⟨U, hU⟩ : ∃ U, V.alloc (.cells #[.int .i64 0] 24) = U := ⟨_, rfl⟩
  have hUs : U.heap.size = N + 2 := by rw [← hU, World.size_alloc, hVs]
  have hVU : Below (N + 1) V U := by rw [← hU, ← hVs]; exact (Below.refl _ V).alloc (Nat.le_refl _) _
  have bE : Blk U (N + 1) 24 #[.int .i64 0] := by rw [← hU, ← hVs]; exact Blk.new V _ _
  have bPU : Blk U N 9 #[.string s] := bP.below hVU (by omega)
  have PW := read1_any N s U bPU hs
  rw [hN]
  cases hD : decH s with
  | none =>
    have PX := Lib.hid ((caughtH_no 30 #[.pointer (some ⟨N, 0, none⟩)] (fun w' => Below U.heap.size U w') V (enters_of Try.func30 (by kernel_rfl) rfl _) (fun w' h => by rw [hVs]; exact bE.below h bE.lt)
      (by rw [hU]; exact PW.mono (fun e w' h => by
        obtain ⟨hb, hor⟩ := h
        rcases hor with ⟨_, hx⟩ | ⟨rows, b, cap, h2, _⟩
        · exact ⟨hx, hb⟩
        · rw [hD] at h2; cases h2))).mono (fun e w' h => (show ∃ x : Int, x ≠ 0 ∧ e = .returned (.tuple #[.slice none 0 0, .int .i64 x]) ∧ Below N w w' from by
          obtain ⟨x, hx, he, w1, hb, rfl⟩ := h
          exact ⟨x, hx, he, (HB.out.trans ((hVU.mono (by omega)).trans (hb.mono (by omega)))).setCell (by show N ≤ V.heap.size; omega) _⟩)))
    have e1 := no_readE hD
    rw [readL_no (by rw [e1]; decide), e1]
    clear hD PW bPU bE hVU hUs hU bP hVs hs
    go_enter Try.func11, Try.ntmps11
    go_upto_region 1 with fail
    try rw [hV]
    try rw [hN]
    clear hV hN
    go_wp2_with fail
    refine PX.out.mono ?_
    rintro e w1 ⟨x, hx, rfl, hb⟩
    have HB1 := Lib.hid hb
    clear hb
    go_wp2_with fail
    go_ret2
    exact ⟨⟨none, 0, rfl, HAt.nil _ _⟩, HB1.out⟩
  | some l =>
    have PX := Lib.hid ((caughtH_ok 30 #[.pointer (some ⟨N, 0, none⟩)] (fun A n c w' => Below U.heap.size U w' ∧ n = l.length ∧ ∃ b, A = some ⟨b, 0, none⟩ ∧ U.heap.size ≤ b ∧ HAt w' A l) V (enters_of Try.func30 (by kernel_rfl) rfl _) (fun A n c w' h => by rw [hVs]; exact bE.below h.1 bE.lt)
      (by rw [hU]; exact PW.mono (fun e w' h => by
        obtain ⟨hb, hor⟩ := h
        rcases hor with ⟨h2, _⟩ | ⟨rows, b, cap, h2, he, hA, hbn⟩
        · rw [hD] at h2; cases h2
        · rw [hD] at h2
          injection h2 with h2
          subst h2
          exact ⟨_, _, _, he, hb, rfl, b, rfl, hbn, hA⟩))).mono (fun e w' h => (show ∃ b c, e = .returned (.tuple #[.slice (some ⟨b, 0, none⟩) l.length c, .int .i64 0]) ∧ HAt w' (some ⟨b, 0, none⟩) l ∧ Below (N + 1) V w' from by
          obtain ⟨A, n, c, he, w1, ⟨hb, rfl, b, rfl, hbn, hA⟩, rfl⟩ := h
          exact ⟨b, c, he, hA.far (by show b ≠ V.heap.size; omega) _, (hVU.trans (hb.mono (by omega))).setCell (by show N + 1 ≤ V.heap.size; omega) _⟩)))
    have hl := decH_len hD
    have PT := Lib.hid (fun (A : Option Addr) (c : Nat) (W : World) (h : HAt W A l) => text_any A c l W h (by omega))
    obtain ⟨E, hE⟩ : ∃ E, textE l = E := ⟨_, rfl⟩
    obtain ⟨R, hR⟩ : ∃ R : ByteArray, ⟨(textB l).toArray⟩ = R := ⟨_, rfl⟩
    obtain ⟨n, hn⟩ : ∃ n, l.length = n := ⟨_, rfl⟩
    rw [hE, hR] at PT
    rw [hn] at PT PX
    have hsl : (⟨s.data.toList.toArray⟩ : ByteArray) = s := rfl
    by_cases h0 : E = 0
    · by_cases h1 : textB l = s.data.toList
      · have e1 : readE s = 0 := by
            unfold readE; rw [hD]; show (if textE l = 0 then _ else _) = _; rw [if_pos (hE.trans h0), if_pos h1]
        have e2 : readL s = l := by unfold readL; rw [if_pos e1, hD]; rfl
        have hRs : R = s := by rw [← hR, h1]
        subst h0 hRs
        rw [e2, e1, hn]
        clear hE h1 e1 e2 hsl
        clear hD PW bPU bE hVU hUs hU bP hVs hs hl hR hn
        go_enter Try.func11, Try.ntmps11
        go_upto_region 1 with fail
        try rw [hV]
        try rw [hN]
        clear hV hN
        go_wp2_with fail
        refine PX.out.mono ?_
        rintro e w1 ⟨b, c, rfl, hA, hb⟩
        have HB1 := Lib.hid hb
        have HN1 := Lib.hid (show N + 1 ≤ w1.heap.size by have := hb.size; rw [HVs.out] at this; exact this)
        have HA1 := Lib.hid hA
        have PT1 := Lib.hid (PT.out (some ⟨b, 0, none⟩) c w1 hA)
        have p0 := (HP.out.below hb (by omega)).cell 0
        simp only [List.getElem?_toArray, List.getElem?_cons_zero] at p0
        clear hb hA
        go_wp2_with fail
        refine PT1.out.mono ?_
        rintro e w2 ⟨rfl, hb⟩
        have HA2 := Lib.hid (HA1.out.below hb)
        have HB2 := Lib.hid (HB1.out.trans (hb.mono HN1.out))
        clear hb p0
        have p0 := (HP.out.below HB2.out (by omega)).cell 0
        simp only [List.getElem?_toArray, List.getElem?_cons_zero] at p0
        go_wp2_with fail
        go_ret2
        exact ⟨⟨some ⟨b, 0, none⟩, c, rfl, HA2.out⟩, HB.out.trans (HB2.out.mono (by omega))⟩
      · have e1 := text_readE hD (hE.trans h0) h1
        have hRs : (R.toList == s.toList) = false := str_neqH <| by
            intro e
            exact h1 ((bytes_of hR).symm.trans e)
        subst h0
        rw [readL_no (by rw [e1]; decide), e1]
        clear hE h1 e1 hsl
        clear hD PW bPU bE hVU hUs hU bP hVs hs hl hR hn
        go_enter Try.func11, Try.ntmps11
        go_upto_region 1 with fail
        try rw [hV]
        try rw [hN]
        clear hV hN
        go_wp2_with fail
        refine PX.out.mono ?_
        rintro e w1 ⟨b, c, rfl, hA, hb⟩
        have HB1 := Lib.hid hb
        have HN1 := Lib.hid (show N + 1 ≤ w1.heap.size by have := hb.size; rw [HVs.out] at this; exact this)
        have HA1 := Lib.hid hA
        have PT1 := Lib.hid (PT.out (some ⟨b, 0, none⟩) c w1 hA)
        have p0 := (HP.out.below hb (by omega)).cell 0
        simp only [List.getElem?_toArray, List.getElem?_cons_zero] at p0
        clear hb hA
        go_wp2_with fail
        refine PT1.out.mono ?_
        rintro e w2 ⟨rfl, hb⟩
        have HA2 := Lib.hid (HA1.out.below hb)
        have HB2 := Lib.hid (HB1.out.trans (hb.mono HN1.out))
        clear hb p0
        have p0 := (HP.out.below HB2.out (by omega)).cell 0
        simp only [List.getElem?_toArray, List.getElem?_cons_zero] at p0
        go_wp2_with fail
        go_ret2
        exact ⟨⟨none, 0, rfl, HAt.nil _ _⟩, HB.out.trans (HB2.out.mono (by omega))⟩
    · have e1 := some_readE hD (by rw [hE]; exact h0)
      rw [readL_no (by rw [e1]; decide), e1]
      clear hE e1 hsl
      clear hD PW bPU bE hVU hUs hU bP hVs hs hl hR hn
      go_enter Try.func11, Try.ntmps11
      go_upto_region 1 with fail
      try rw [hV]
      try rw [hN]
      clear hV hN
      go_wp2_with fail
      refine PX.out.mono ?_
      rintro e w1 ⟨b, c, rfl, hA, hb⟩
      have HB1 := Lib.hid hb
      have HN1 := Lib.hid (show N + 1 ≤ w1.heap.size by have := hb.size; rw [HVs.out] at this; exact this)
      have HA1 := Lib.hid hA
      have PT1 := Lib.hid (PT.out (some ⟨b, 0, none⟩) c w1 hA)
      have p0 := (HP.out.below hb (by omega)).cell 0
      simp only [List.getElem?_toArray, List.getElem?_cons_zero] at p0
      clear hb hA
      go_wp2_with fail
      refine PT1.out.mono ?_
      rintro e w2 ⟨rfl, hb⟩
      have HA2 := Lib.hid (HA1.out.below hb)
      have HB2 := Lib.hid (HB1.out.trans (hb.mono HN1.out))
      clear hb p0
      have p0 := (HP.out.below HB2.out (by omega)).cell 0
      simp only [List.getElem?_toArray, List.getElem?_cons_zero] at p0
      go_wp2_with fail
      go_ret2
      exact ⟨⟨none, 0, rfl, HAt.nil _ _⟩, HB.out.trans (HB2.out.mono (by omega))⟩
end Go.Proofs.Ytkcnhdponcbjaaa
