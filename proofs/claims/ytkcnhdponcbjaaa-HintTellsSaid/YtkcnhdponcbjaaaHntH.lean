/-
  hint's Text.
-/
import Derived.Test.YtkcnhdponcbjaaaHntG
import Derived.Lib.SmallJoins
import Derived.Shelf.Abstract
namespace Go.Proofs.Ytkcnhdponcbjaaa
open Go.RowKit Bt Hnt

set_option maxRecDepth 100000 in
set_option maxHeartbeats 2000000 in
theorem text2_any (P : Nat) (A : Option Addr) (cap : Nat) (l : List H3) (w : World) (hP : Blk w P 22 #[.slice A l.length cap]) (h : HAt w A l) (hne : l ≠ []) (hl : l.length ≤ 2048) (hok : allOk l) :
    Calls Try.prog 20 #[.pointer (some ⟨P, 0, none⟩)] w fun e w' => e = .returned (.string ⟨(textS l).toArray⟩) ∧ Below w.heap.size w w' := by
  have HE := Lib.hid (encoded_any A cap l w h hne hl hok)
  obtain ⟨n, hn⟩ : ∃ n, l.length = n := ⟨_, rfl⟩
  obtain ⟨R, hR⟩ : ∃ R : ByteArray, ⟨(textS l).toArray⟩ = R := ⟨_, rfl⟩
  have p0 := hP.cell 0
  simp only [List.getElem?_toArray, List.getElem?_cons_zero] at p0
  rw [hR] at HE ⊢
  rw [hn] at HE p0
  clear hR hn hP h hne hl hok
  go_enter Try.func20, Try.ntmps20
  go_wp2_with fail
  refine HE.out.mono ?_
  rintro e w1 ⟨rfl, hb⟩
  have HB := Lib.hid hb
  clear hb
  go_wp2_with fail
  go_ret
  exact ⟨rfl, HB.out⟩

theorem textE_nil : textE [] = 1 := rfl
theorem textE_many {l : List H3} (h : 2048 < l.length) : textE l = 6 := by
  unfold textE
  rw [if_neg (by intro e; subst e; simp at h), if_pos h]
theorem textE_range {l : List H3} (h0 : l ≠ []) (h : ¬ 2048 < l.length) (hb : l.all okH = false) : textE l = 2 := by
  unfold textE
  rw [if_neg h0, if_neg h, hb]
  rfl
theorem textE_ok {l : List H3} (h0 : l ≠ []) (h : ¬ 2048 < l.length) (hb : l.all okH = true) : textE l = 0 := by
  unfold textE
  rw [if_neg h0, if_neg h, hb]
  rfl
theorem textB_no {l : List H3} (h : textE l ≠ 0) : textB l = [] := by unfold textB; rw [if_neg h]
theorem textB_ok {l : List H3} (h : textE l = 0) : textB l = textS l := by unfold textB; rw [if_pos h]

set_option maxRecDepth 100000 in
set_option maxHeartbeats 4000000 in
theorem text_any (A : Option Addr) (cap : Nat) (l : List H3) (w : World) (h : HAt w A l) (hl : l.length ≤ 1000000000) :
    Calls Try.prog 9 #[.slice A l.length cap] w fun e w' => e = .returned (.tuple #[.string ⟨(textB l).toArray⟩, .int .i64 (textE l)]) ∧ Below w.heap.size w w' := by
  have hmf : ∀ (fn : Fn) (first cap : Array Value) (w : World), (Instr.makeFunc fn first cap).run Try.prog w = .ok (.func fn first cap) w := fun _ _ _ _ => rfl
  obtain ⟨N, hN⟩ : ∃ N, w.heap.size = N := ⟨_, rfl⟩
  obtain ⟨n, hn⟩ : ∃ n, l.length = n := ⟨_, rfl⟩
  obtain ⟨V, hV⟩ : ∃ V, w.alloc (.cells #[.slice A n cap] 22) = V := ⟨_, rfl⟩
  have hVs : V.heap.size = N + 1 := by rw [← hV, World.size_alloc, hN]
  have HVs := Lib.hid hVs
  have bP : Blk V N 22 #[.slice A n cap] := by rw [← hV, ← hN]; exact Blk.new w _ _
  have HB := Lib.hid (show Below N w V by rw [← hV, ← hN]; exact (Below.refl _ w).alloc (Nat.le_refl _) _)
  have HA := Lib.hid (h.below (hN ▸ HB.out))
  have p0 := bP.cell 0
  simp only [List.getElem?_toArray, List.getElem?_cons_zero] at p0
  have HP := Lib.hid bP
  have HLn := Lib.hid hn
  have hnb : (n : Int) ≤ 1000000000 := by omega
  obtain ⟨E, hE⟩ : ∃ E, textE l = E := ⟨_, rfl⟩
  obtain ⟨R, hR⟩ : ∃ R : ByteArray, ⟨(textB l).toArray⟩ = R := ⟨_, rfl⟩
  rw [hN, hn, hE, hR]
  by_cases h0 : l = []
  · have n0 : (n : Int) = 0 := by rw [← hn, h0]; rfl
    have hE2 : E = 1 := by rw [← hE, h0]; rfl
    have hR2 : R = ⟨#[]⟩ := by rw [← hR, textB_no (by rw [hE, hE2]; decide)]
    subst hE2 hR2
    clear h h0 hR hE bP hn
    go_enter Try.func9, Try.ntmps9
    go_upto_region 1 with fail
    try rw [hV]
    clear hV hN
    go_wp2_with fail
    go_ret2
    exact ⟨rfl, HB.out⟩
  · have n0 : ¬ (n : Int) = 0 := by
      have := List.length_pos_iff.2 h0
      omega
    by_cases h1 : 2048 < l.length
    · have n1 : (2048 : Int) < (n : Int) := by omega
      have hE2 : E = 6 := by rw [← hE, textE_many h1]
      have hR2 : R = ⟨#[]⟩ := by rw [← hR, textB_no (by rw [hE, hE2]; decide)]
      subst hE2 hR2
      clear h h0 h1 hR hE bP hn
      go_enter Try.func9, Try.ntmps9
      go_upto_region 1 with fail
      try rw [hV]
      clear hV hN
      go_wp2_with fail
      go_ret2
      exact ⟨rfl, HB.out⟩
    · have n1 : ¬ (2048 : Int) < (n : Int) := by omega
      have PC := Lib.hid (contains_any A cap l V HA.out hl)
      rw [hn, HVs.out] at PC
      by_cases h2 : l.all okH = false
      · have hE2 : E = 2 := by rw [← hE, textE_range h0 h1 h2]
        have hR2 : R = ⟨#[]⟩ := by rw [← hR, textB_no (by rw [hE, hE2]; decide)]
        rw [h2] at PC
        subst hE2 hR2
        clear h h0 h1 h2 hR hE bP hn
        go_enter Try.func9, Try.ntmps9
        go_upto_region 1 with fail
        try rw [hV]
        clear hV hN
        go_wp2_with fail
        refine PC.out.mono ?_
        rintro e w1 ⟨rfl, hb⟩
        have HB1 := Lib.hid (HB.out.trans (hb.mono (by omega)))
        clear hb
        go_wp2_with fail
        go_ret2
        exact ⟨rfl, HB1.out⟩
      · have h3 : l.all okH = true := by simpa using h2
        have hE2 : E = 0 := by rw [← hE, textE_ok h0 h1 h3]
        have hR2 : ⟨(textS l).toArray⟩ = R := by rw [← hR, textB_ok (by rw [hE, hE2])]
        have hok : allOk l := fun x hx => List.all_eq_true.1 h3 x hx
        rw [h3] at PC
        have PX := Lib.hid (fun (W : World) (hb : Below (N + 1) V W) => (show Calls Try.prog 19 #[.func (.func 20) #[] #[.pointer (some ⟨N, 0, none⟩)]] W fun e w' => e = .returned (.tuple #[.string R, .int .i64 0]) ∧ Below (N + 1) V w' from by
          obtain ⟨U, hU⟩ : ∃ U, W.alloc (.cells #[.int .i64 0] 24) = U := ⟨_, rfl⟩
          have hUs : U.heap.size = W.heap.size + 1 := by rw [← hU, World.size_alloc]
          have hWs : N + 1 ≤ W.heap.size := by have := hb.size; rw [hVs] at this; exact this
          have hWU : Below W.heap.size W U := by rw [← hU]; exact (Below.refl _ W).alloc (Nat.le_refl _) _
          have bE : Blk U W.heap.size 24 #[.int .i64 0] := by rw [← hU]; exact Blk.new W _ _
          have bPU : Blk U N 22 #[.slice A l.length cap] := by
            rw [hn]
            exact Blk.below (HP.out.below hb (by omega)) hWU (by omega)
          have hAU : HAt U A l := (HA.out.below (hb.mono (by rw [hVs]; exact Nat.le_refl _))).below hWU
          refine (caught_ok 20 _ R (fun w' => Below U.heap.size U w') W (enters_of Try.func20 (by kernel_rfl) rfl _) (fun w' h => bE.below h bE.lt) (by rw [hU, ← hR2]; exact text2_any N A cap l U bPU hAU h0 (by omega) hok)).mono ?_
          rintro e w' ⟨rfl, w1, hb1, rfl⟩
          exact ⟨rfl, (hb.trans ((hWU.mono hWs).trans (hb1.mono (by omega)))).setCell (by show N + 1 ≤ W.heap.size; omega) _⟩))
        subst hE2
        clear h h0 h1 h2 h3 hR hR2 hE bP hn hok hVs
        go_enter Try.func9, Try.ntmps9
        go_upto_region 1 with fail
        try rw [hV]
        clear hV hN
        go_wp2_with fail
        refine PC.out.mono ?_
        rintro e w1 ⟨rfl, hb⟩
        have HB1 := Lib.hid hb
        have p0 := (HP.out.below HB1.out (by omega)).cell 0
        simp only [List.getElem?_toArray, List.getElem?_cons_zero] at p0
        clear hb
        go_wp2_with fail
        refine (PX.out w1 HB1.out).mono ?_
        rintro e w2 ⟨rfl, hb⟩
        have HB2 := Lib.hid (HB.out.trans (hb.mono (by omega)))
        clear hb p0
        go_wp2_with fail
        go_ret2
        exact ⟨rfl, HB2.out⟩
end Go.Proofs.Ytkcnhdponcbjaaa
