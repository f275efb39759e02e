/-
  predict's decoder at a tag that is not known; encoder and decoder, made.
-/
import Derived.Test.YticliemmplefoaaPrdK
namespace Go.Proofs.Yticliemmplefoaa
open Go.RowKit Oct Prd
attribute [-go_sem] Builtin.append_

set_option maxRecDepth 100000 in
set_option maxHeartbeats 4000000 in
theorem decode1_bad (bp ba bn pr co cl T : Nat) (b o n2 : Nat) (pv : Value) (prev row : List UInt8) (w : World) (hC : Coder w bp ba bn pr co cl pv prev) (hr : IsRow w (.slice (some ⟨b, o, none⟩) n2 n2) row) (hl3 : 1 < row.length) (hn2 : row.length = n2) (h10 : ¬ pr < 10) (hT : (rAt row 0).toNat = T) (hT5 : 5 ≤ T) :
    Calls Try.prog 29 #[.slice (some ⟨b, o, none⟩) n2 n2, .pointer (some ⟨bp, 0, none⟩), .pointer (some ⟨ba, 0, none⟩), .pointer (some ⟨bn, 0, none⟩)] w fun e W' => e = gUp 3 ∧ Two w W' bn none := by
  have c0 := hC.parms.cell 0
  have c1 := hC.parms.cell 1
  have c2 := hC.parms.cell 2
  simp only [List.getElem?_toArray, List.getElem?_cons_zero, List.getElem?_cons_succ] at c0 c1 c2
  have HTg := Lib.hid (fun W : World => tags_any (pr : Int) (co : Int) (cl : Int) W)
  unfold parmsV at HTg
  have ht : tgsI (pr : Int) = 1 := by unfold tgsI; rw [if_neg (by omega)]
  rw [ht] at HTg
  obtain ⟨c, tl, hct⟩ := List.exists_cons_of_ne_nil (List.length_pos_iff.1 (show 0 < row.length by omega))
  have hcT : (c.toNat : Int) = (T : Int) := by
    rw [← hT, hct]
    rfl
  have hcc : w.cell? ⟨b, o, none⟩ = some (.int .u8 (T : Int)) := by
    obtain ⟨b', o', C', h1, h2⟩ := hr.at0 (by omega)
    injection h1 with h3 h4 h5
    injection h3 with h6
    injection h6 with h7 h8
    subst h7 h8
    have h9 := h2 0 (by omega)
    rw [Nat.add_zero] at h9
    rw [h9, ← hcT]
    simp only [hct, List.getElem_cons_zero]
  have i4 : (0 : Int) < (n2 : Int) := by omega
  have i5 : (0 : Int) ≤ (T : Int) := by omega
  have i6 : (T : Int) ≤ 1000 := by have := (rAt row 0).toNat_lt; omega
  have i7 : (5 : Int) ≤ (T : Int) := by omega
  have HCC := Lib.hid hcc
  have hup : ∀ W : World, Calls Try.prog 25 #[.int .i64 3] W fun e w' => e = gUp 3 ∧ W = w' := fun W => up_any 3 W
  have HUp := Lib.hid hup
  clear ht hct hcT hcc hT hC hr hl3 hn2 hup
  go_enter Try.func29, Try.ntmps29
  go_wp2_with fail
  refine (HTg.out _).mono ?_
  rintro e w1 ⟨rfl, hb⟩
  have HB1 := Lib.hid hb
  have hcc1 : w1.cell? ⟨b, o, none⟩ = some (.int .u8 (T : Int)) := (hb.cell (p := ⟨b, o, none⟩) (World.block_lt_of_cell? w _ HCC.out)).trans HCC.out
  clear hb c0 c1 c2
  go_wp2_with fail
  refine (HUp.out _).mono ?_
  rintro e w2 ⟨rfl, rfl⟩
  exact ⟨rfl, rfl, two_below HB1.out bn none⟩

set_option maxRecDepth 100000 in
set_option maxHeartbeats 4000000 in
theorem encoder_made (pr co cl : Int) (w : World) :
    Calls Try.prog 16 #[parmsV pr co cl] w fun e W' => ∃ bp ba bn, e = .returned (.func (.func 27) #[] #[.pointer (some ⟨bp, 0, none⟩), .pointer (some ⟨bn, 0, none⟩), .pointer (some ⟨ba, 0, none⟩)]) ∧ w.heap.size ≤ bp ∧ bp < ba ∧ ba < bn ∧ (Blk W' bp 23 #[.int .i64 pr, .int .i64 co, .int .i64 cl] ∧ Blk W' ba 45 #[.func (.func (filN 0)) #[] #[], .func (.func (filN 1)) #[] #[], .func (.func (filN 2)) #[] #[], .func (.func (filN 3)) #[] #[], .func (.func (filN 4)) #[] #[]] ∧ Blk W' bn 42 #[.slice none 0 0]) ∧ Below w.heap.size w W' := by
  have hmf : ∀ (fn : Fn) (first cap : Array Value) (w : World), (Instr.makeFunc fn first cap).run Try.prog w = .ok (.func fn first cap) w := fun _ _ _ _ => rfl
  have hB := parms_blk w (pr : Int) (co : Int) (cl : Int)
  have HB1 := Lib.hid ((Below.refl w.heap.size w).alloc (Nat.le_refl _) (.cells #[.int .i64 pr, .int .i64 co, .int .i64 cl] 23))
  obtain ⟨W0, hW⟩ : ∃ W, w.alloc (.cells #[.int .i64 pr, .int .i64 co, .int .i64 cl] 23) = W := ⟨_, rfl⟩
  obtain ⟨N, hN⟩ : ∃ N, w.heap.size = N := ⟨_, rfl⟩
  have hWs : W0.heap.size = N + 1 := by rw [← hW, World.size_alloc, hN]
  rw [hN, hW] at hB HB1
  rw [hN]
  have HBk := Lib.hid hB
  have HFi := Lib.hid (fun W : World => filters_any W)
  unfold parmsV
  clear hB
  go_enter Try.func16, Try.ntmps16
  go_wp2_with fail
  refine (HFi.out _).mono ?_
  rintro e w1 ⟨rfl, hb⟩
  have HB2 := Lib.hid (HB1.out.trans (hb.mono (by omega)))
  have HBk1 := Lib.hid (HBk.out.below hb HBk.out.lt)
  have HZ : Hid (N + 1 ≤ w1.heap.size) := Lib.hid (by have := hb.size; omega)
  obtain ⟨G, hG⟩ : ∃ G, w1.heap.size = G := ⟨_, rfl⟩
  have HG := Lib.hid hG
  obtain ⟨W, hW1⟩ : ∃ W, w1.alloc (.cells #[.nilFunc, .nilFunc, .nilFunc, .nilFunc, .nilFunc] 45) = W := ⟨_, rfl⟩
  have hB1 := Blk.new w1 45 #[.nilFunc, .nilFunc, .nilFunc, .nilFunc, .nilFunc]
  rw [hW1, hG] at hB1
  have HB1' := Lib.hid hB1
  have HLow : Hid (Below G w1 W) := Lib.hid (by rw [← hW1]; exact (show Below G w1 w1 by rw [← hG]; exact Below.refl _ _).alloc (by rw [hG]; exact Nat.le_refl _) _)
  have c0 := hB1.cell 0
  have c1 := hB1.cell 1
  have c2 := hB1.cell 2
  have c3 := hB1.cell 3
  have c4 := hB1.cell 4
  have f0 := hB1.frozen 0
  have f1 := hB1.frozen 1
  have f2 := hB1.frozen 2
  have f3 := hB1.frozen 3
  have f4 := hB1.frozen 4
  simp only [List.getElem?_toArray, List.getElem?_cons_zero, List.getElem?_cons_succ] at c0 c1 c2 c3 c4
  clear hb hB1 hWs hW hN
  go_wp2_with fail
  go_ret
  obtain ⟨S, hS⟩ : ∃ S, ((((W.setCell ⟨G, 0, none⟩ (.func (.func (filN 0)) #[] #[])).setCell ⟨G, 1, none⟩ (.func (.func (filN 1)) #[] #[])).setCell ⟨G, 2, none⟩ (.func (.func (filN 2)) #[] #[])).setCell ⟨G, 3, none⟩ (.func (.func (filN 3)) #[] #[])).setCell ⟨G, 4, none⟩ (.func (.func (filN 4)) #[] #[]) = S := ⟨_, rfl⟩
  have hNG : N + 1 ≤ G := by have := HZ.out; have := HG.out; omega
  have hSs : S.heap.size = W.heap.size := by rw [← hS]; simp [World.setCell]
  have hF : Blk S G 45 #[.func (.func (filN 0)) #[] #[], .func (.func (filN 1)) #[] #[], .func (.func (filN 2)) #[] #[], .func (.func (filN 3)) #[] #[], .func (.func (filN 4)) #[] #[]] := by
    rw [← hS]
    exact ((((HB1'.out.set_ 0 _).set_ 1 _).set_ 2 _).set_ 3 _).set_ 4 _
  have hP : Blk S N 23 #[.int .i64 (pr : Int), .int .i64 (co : Int), .int .i64 (cl : Int)] := by
    rw [← hS]
    have hN1 : ∀ i : Nat, N ≠ (⟨G, i, none⟩ : Addr).block := fun i => by show N ≠ G; omega
    exact (((((HBk1.out.below HLow.out (by omega)).far (hN1 0) _).far (hN1 1) _).far (hN1 2) _).far (hN1 3) _).far (hN1 4) _
  have hL : Below N w S := by
    rw [← hS]
    have h0 : Below N w W := HB2.out.trans (HLow.out.mono (by omega))
    exact prd_set (prd_set (prd_set (prd_set (prd_set h0 (by omega) _ _) (by omega) _ _) (by omega) _ _) (by omega) _ _) (by omega) _ _
  have hGW : G < W.heap.size := HB1'.out.lt
  rw [hS]
  have hBx := Blk.new S 42 #[.slice none 0 0]
  rw [hSs] at hBx
  exact ⟨N, G, W.heap.size, rfl, Nat.le_refl _, by omega, hGW, ⟨hP.alloc _, hF.alloc _, hBx⟩, hL.alloc (by omega) _⟩

set_option maxRecDepth 100000 in
set_option maxHeartbeats 4000000 in
theorem decoder_made (pr co cl : Int) (w : World) :
    Calls Try.prog 18 #[parmsV pr co cl] w fun e W' => ∃ bp ba bn, e = .returned (.func (.func 29) #[] #[.pointer (some ⟨bp, 0, none⟩), .pointer (some ⟨ba, 0, none⟩), .pointer (some ⟨bn, 0, none⟩)]) ∧ w.heap.size ≤ bp ∧ bp < ba ∧ ba < bn ∧ (Blk W' bp 23 #[.int .i64 pr, .int .i64 co, .int .i64 cl] ∧ Blk W' ba 45 #[.func (.func (filN 0)) #[] #[], .func (.func (filN 1)) #[] #[], .func (.func (filN 2)) #[] #[], .func (.func (filN 3)) #[] #[], .func (.func (filN 4)) #[] #[]] ∧ Blk W' bn 42 #[.slice none 0 0]) ∧ Below w.heap.size w W' := by
  have hmf : ∀ (fn : Fn) (first cap : Array Value) (w : World), (Instr.makeFunc fn first cap).run Try.prog w = .ok (.func fn first cap) w := fun _ _ _ _ => rfl
  have hB := parms_blk w (pr : Int) (co : Int) (cl : Int)
  have HB1 := Lib.hid ((Below.refl w.heap.size w).alloc (Nat.le_refl _) (.cells #[.int .i64 pr, .int .i64 co, .int .i64 cl] 23))
  obtain ⟨W0, hW⟩ : ∃ W, w.alloc (.cells #[.int .i64 pr, .int .i64 co, .int .i64 cl] 23) = W := ⟨_, rfl⟩
  obtain ⟨N, hN⟩ : ∃ N, w.heap.size = N := ⟨_, rfl⟩
  have hWs : W0.heap.size = N + 1 := by rw [← hW, World.size_alloc, hN]
  rw [hN, hW] at hB HB1
  rw [hN]
  have HBk := Lib.hid hB
  have HFi := Lib.hid (fun W : World => filters_any W)
  unfold parmsV
  clear hB
  go_enter Try.func18, Try.ntmps18
  go_wp2_with fail
  refine (HFi.out _).mono ?_
  rintro e w1 ⟨rfl, hb⟩
  have HB2 := Lib.hid (HB1.out.trans (hb.mono (by omega)))
  have HBk1 := Lib.hid (HBk.out.below hb HBk.out.lt)
  have HZ : Hid (N + 1 ≤ w1.heap.size) := Lib.hid (by have := hb.size; omega)
  obtain ⟨G, hG⟩ : ∃ G, w1.heap.size = G := ⟨_, rfl⟩
  have HG := Lib.hid hG
  obtain ⟨W, hW1⟩ : ∃ W, w1.alloc (.cells #[.nilFunc, .nilFunc, .nilFunc, .nilFunc, .nilFunc] 45) = W := ⟨_, rfl⟩
  have hB1 := Blk.new w1 45 #[.nilFunc, .nilFunc, .nilFunc, .nilFunc, .nilFunc]
  rw [hW1, hG] at hB1
  have HB1' := Lib.hid hB1
  have HLow : Hid (Below G w1 W) := Lib.hid (by rw [← hW1]; exact (show Below G w1 w1 by rw [← hG]; exact Below.refl _ _).alloc (by rw [hG]; exact Nat.le_refl _) _)
  have c0 := hB1.cell 0
  have c1 := hB1.cell 1
  have c2 := hB1.cell 2
  have c3 := hB1.cell 3
  have c4 := hB1.cell 4
  have f0 := hB1.frozen 0
  have f1 := hB1.frozen 1
  have f2 := hB1.frozen 2
  have f3 := hB1.frozen 3
  have f4 := hB1.frozen 4
  simp only [List.getElem?_toArray, List.getElem?_cons_zero, List.getElem?_cons_succ] at c0 c1 c2 c3 c4
  clear hb hB1 hWs hW hN
  go_wp2_with fail
  go_ret
  obtain ⟨S, hS⟩ : ∃ S, ((((W.setCell ⟨G, 0, none⟩ (.func (.func (filN 0)) #[] #[])).setCell ⟨G, 1, none⟩ (.func (.func (filN 1)) #[] #[])).setCell ⟨G, 2, none⟩ (.func (.func (filN 2)) #[] #[])).setCell ⟨G, 3, none⟩ (.func (.func (filN 3)) #[] #[])).setCell ⟨G, 4, none⟩ (.func (.func (filN 4)) #[] #[]) = S := ⟨_, rfl⟩
  have hNG : N + 1 ≤ G := by have := HZ.out; have := HG.out; omega
  have hSs : S.heap.size = W.heap.size := by rw [← hS]; simp [World.setCell]
  have hF : Blk S G 45 #[.func (.func (filN 0)) #[] #[], .func (.func (filN 1)) #[] #[], .func (.func (filN 2)) #[] #[], .func (.func (filN 3)) #[] #[], .func (.func (filN 4)) #[] #[]] := by
    rw [← hS]
    exact ((((HB1'.out.set_ 0 _).set_ 1 _).set_ 2 _).set_ 3 _).set_ 4 _
  have hP : Blk S N 23 #[.int .i64 (pr : Int), .int .i64 (co : Int), .int .i64 (cl : Int)] := by
    rw [← hS]
    have hN1 : ∀ i : Nat, N ≠ (⟨G, i, none⟩ : Addr).block := fun i => by show N ≠ G; omega
    exact (((((HBk1.out.below HLow.out (by omega)).far (hN1 0) _).far (hN1 1) _).far (hN1 2) _).far (hN1 3) _).far (hN1 4) _
  have hL : Below N w S := by
    rw [← hS]
    have h0 : Below N w W := HB2.out.trans (HLow.out.mono (by omega))
    exact prd_set (prd_set (prd_set (prd_set (prd_set h0 (by omega) _ _) (by omega) _ _) (by omega) _ _) (by omega) _ _) (by omega) _ _
  have hGW : G < W.heap.size := HB1'.out.lt
  rw [hS]
  have hBx := Blk.new S 42 #[.slice none 0 0]
  rw [hSs] at hBx
  exact ⟨N, G, W.heap.size, rfl, Nat.le_refl _, by omega, hGW, ⟨hP.alloc _, hF.alloc _, hBx⟩, hL.alloc (by omega) _⟩
end Go.Proofs.Yticliemmplefoaa
