/-
  predict's decoder, called for a row with its tag.
-/
import Derived.Test.YticliemmplefoaaPrdK
namespace Go.Proofs.Yticliemmplefoaa
open Go.RowKit Oct Prd
attribute [-go_sem] Builtin.append_

set_option maxRecDepth 100000 in
set_option maxHeartbeats 4000000 in
theorem decode1_tag (bp ba bn pr co cl T n3 : Nat) (b o n2 : Nat) (pv : Value) (prev row : List UInt8) (w : World) (hco : 1 ≤ co) (hco2 : co ≤ 8192) (_hne : bp ≠ bn ∧ ba ≠ bn) (hC : Coder w bp ba bn pr co cl pv prev) (hr : IsRow w (.slice (some ⟨b, o, none⟩) n2 n2) row) (hl2 : row.length ≤ 10000) (hl3 : 1 < row.length) (hn2 : row.length = n2) (h10 : ¬ pr < 10) (hT : (rAt row 0).toNat = T) (hT5 : T < 5) (hn3 : n2 - 1 = n3) :
    Calls Try.prog 29 #[.slice (some ⟨b, o, none⟩) n2 n2, .pointer (some ⟨bp, 0, none⟩), .pointer (some ⟨ba, 0, none⟩), .pointer (some ⟨bn, 0, none⟩)] w (CoderEnd w bn (backR T prev co [] (row.drop 1)) (PrevEnd w bn (backR T prev co [] (row.drop 1)))) := by
  have HC := Lib.hid hC
  have HR := Lib.hid hr
  have hbp := hC.parms.lt
  have hbn := hC.box.lt
  have hba := hC.fils.lt
  have c0 := hC.parms.cell 0
  have c1 := hC.parms.cell 1
  have c2 := hC.parms.cell 2
  have c3 := hC.box.cell 0
  simp only [List.getElem?_toArray, List.getElem?_cons_zero, List.getElem?_cons_succ] at c0 c1 c2 c3
  obtain ⟨A1, C1, hpv⟩ := row_slice hC.row
  obtain ⟨n1, hn1⟩ : ∃ n, prev.length = n := ⟨_, rfl⟩
  rw [hn1] at hpv
  subst hpv
  have HTg := Lib.hid (fun W : World => tags_any (pr : Int) (co : Int) (cl : Int) W)
  unfold parmsV at HTg
  have ht : tgsI (pr : Int) = 1 := by unfold tgsI; rw [if_neg (by omega)]
  rw [ht] at HTg
  have HN2 := Lib.hid hn2
  obtain ⟨x, hx⟩ : ∃ x, backR T prev co [] (row.drop 1) = x := ⟨_, rfl⟩
  rw [hx]
  obtain ⟨c, tl, hct⟩ := List.exists_cons_of_ne_nil (List.length_pos_iff.1 (show 0 < row.length by omega))
  have hd1 : row.drop 1 = tl := by rw [hct]; rfl
  have htl : tl.length = n3 := by rw [hct] at hn2; simp at hn2; omega
  have hcT : (c.toNat : Int) = (T : Int) := by
    rw [← hT, hct]
    rfl
  have hcc : w.cell? ⟨b, o, none⟩ = some (.int .u8 (T : Int)) := by
    obtain ⟨b', o', C', h1, h2⟩ := hr.at0 (by omega)
    injection h1 with h3 h4 h5
    injection h3 with h6
    injection h6 with h7 h8
    subst h7 h8
    have h9 := h2 0 (by omega)
    rw [Nat.add_zero] at h9
    rw [h9, ← hcT]
    simp only [hct, List.getElem_cons_zero]
  have hr3 : IsRow w (.slice (some ⟨b, o + 1, none⟩) n3 n3) tl := by
    rw [hct] at hr
    have := hr.tail n3
    rw [htl] at this
    exact this
  have HR3 := Lib.hid hr3
  have i1 : (1 : Int) ≤ (n2 : Int) := by omega
  have i2 : 1 < n2 := by omega
  have i3 : 0 < n3 := by omega
  have hne1 : ¬ n2 = 1 := by omega
  have hne0 : ¬ n3 = 0 := by omega
  have i4 : (0 : Int) < (n2 : Int) := by omega
  have i5 : (0 : Int) ≤ (T : Int) := by omega
  have i6 : (T : Int) < 5 := by omega
  have i7 : decide ((5 : Int) ≤ (T : Int)) = false := decide_eq_false (by omega)
  have HCC := Lib.hid hcc
  rw [hd1] at hx
  clear ht hct hcT hr3 hcc hT hd1
  go_enter Try.func29, Try.ntmps29
  go_wp2_with fail
  refine (HTg.out _).mono ?_
  rintro e w1 ⟨rfl, hb⟩
  have HB1 := Lib.hid hb
  have HC1 := Lib.hid (HC.out.below hb)
  have hcc1 : w1.cell? ⟨b, o, none⟩ = some (.int .u8 (T : Int)) := (hb.cell (p := ⟨b, o, none⟩) (World.block_lt_of_cell? w _ HCC.out)).trans HCC.out
  clear hb c0 c1 c2 c3
  have c0 := HC1.out.parms.cell 0
  have c1 := HC1.out.parms.cell 1
  have c2 := HC1.out.parms.cell 2
  have c3 := HC1.out.box.cell 0
  have c4 := HC1.out.fil T hT5
  simp only [List.getElem?_toArray, List.getElem?_cons_zero, List.getElem?_cons_succ] at c0 c1 c2 c3
  have hxl : x.length = n3 := by rw [← hx, backR_len]; simp [htl]
  have HRv : Hid (∀ W : World, Below w1.heap.size w1 W → Calls Try.prog 30 #[.func (.func (filN T)) #[] #[], .slice A1 n1 C1, .slice (some ⟨b, o + 1, none⟩) n3 n3, .int .i64 (co : Int)] W fun e w' => ∃ G, e = .returned (.slice (some ⟨G, 0, none⟩) n3 n3) ∧ w'.ownsRow W.heap.size 5 1 (.slice (some ⟨G, 0, none⟩) n3 n3) n3 (bC x) ∧ Below W.heap.size W w') := Lib.hid (fun W hW => by
    have h := reverse_any (filN T) T (filN_is T hT5) (.slice A1 n1 C1) (.slice (some ⟨b, o + 1, none⟩) n3 n3) prev tl co W ((HC1.out.below hW).row) ((HR3.out.below (Nat.le_refl _) HB1.out).below (Nat.le_refl _) hW) (by omega) (by omega) hco
    rw [hx] at h
    unfold RowEnd' at h
    rw [hxl] at h
    exact h)
  have HBn : Hid (∀ W : World, Below w1.heap.size w1 W → W.cell? ⟨bn, 0, none⟩ = some (.slice A1 n1 C1) ∧ W.frozen? ⟨bn, 0, none⟩ = false ∧ W.cell? ⟨bp, 0, none⟩ = some (.int .i64 (pr : Int)) ∧ W.cell? ⟨bp, 1, none⟩ = some (.int .i64 (co : Int)) ∧ W.cell? ⟨bp, 2, none⟩ = some (.int .i64 (cl : Int)) ∧ W.cell? ⟨ba, T, none⟩ = some (.func (.func (filN T)) #[] #[])) := Lib.hid (fun W hW => by
    have h := HC1.out.below hW
    exact ⟨h.box.cell 0, h.box.frozen 0, h.parms.cell 0, h.parms.cell 1, h.parms.cell 2, h.fil T hT5⟩)
  obtain ⟨H1, hH1⟩ : ∃ H1, w1.heap.size = H1 := ⟨_, rfl⟩
  have HH1 := Lib.hid hH1
  rw [hH1] at HRv HBn
  have HE : Hid (∀ (G : Nat) (w5 : World) (Hx : Nat), Below H1 w1 w5 → H1 ≤ Hx → w5.ownsRow Hx 5 1 (.slice (some ⟨G, 0, none⟩) n3 n3) n3 (bC x) → CoderEnd w bn x (PrevEnd w bn x) (.returned (.slice (some ⟨G, 0, none⟩) n3 n3)) (w5.setCell ⟨bn, 0, none⟩ (.slice (some ⟨G, 0, none⟩) n3 n3))) := Lib.hid (fun G w5 Hx hb hHx hown => by
    have hb' : Below w1.heap.size w1 w5 := by rw [HH1.out]; exact hb
    have hG := hown.lt G rfl
    have hbn1 : bn < H1 := by rw [← HH1.out]; exact HC1.out.box.lt
    have hr5 : IsRow (w5.setCell ⟨bn, 0, none⟩ (.slice (some ⟨G, 0, none⟩) n3 n3)) (.slice (some ⟨G, 0, none⟩) n3 n3) x := (IsRow.own hown).set_far (k := bn) (fun A n C e => by injection e with e; injection e with e; rw [← e]; show G ≠ bn; omega) 0 _
    have hwG : w.heap.size ≤ G := by have := HB1.out.size; have := HH1.out; omega
    exact ⟨G, 0, n3, by rw [hxl], hwG, by simpa [World.setCell] using hG.2, by rw [hxl]; exact hr5, (((two_below HB1.out bn none).trans (two_below hb' bn none) (.inl rfl)).set_ 0 _), _, (HC1.out.box.below hb' HC1.out.box.lt).set_ 0 _, hr5, fun A n C e => by injection e with e; injection e with e; rw [← e]; exact hwG⟩)
  have hD0 : Below H1 w1 w1.drew := (Below.refl _ w1).drew
  clear hx hxl HR HC HB1 HC1 hC hr hbp hbn hba hl2 hl3 hn1 hn2 HN2 HR3 HCC h10 htl hco hco2 _hne hH1
  go_wp2_with fail
  go_region_with (first | (go_at_call 15; refine (HTg.out _).mono ?_; rintro e w2 ⟨rfl, hb2⟩; obtain ⟨d1, d2, d3, d4, d5, d6⟩ := HBn.out w2 (hD0.trans (hb2.mono (by rw [← HH1.out]; exact Nat.le_refl _)))) | (go_at_call 30; refine (HRv.out _ (hD0.trans (hb2.mono (by rw [← HH1.out]; exact Nat.le_refl _)))).mono ?_; rintro e w5 ⟨G, rfl, hown5, hb5⟩; have hL5 : Below H1 w1 w5 := (hD0.trans (hb2.mono (by rw [← HH1.out]; exact Nat.le_refl _))).trans (hb5.mono (by rw [← HH1.out]; exact hb2.size)); obtain ⟨g1, g2, g3, g4, g5, g6⟩ := HBn.out w5 hL5))
  all_goals
    go_wp2_with fail
    go_ret
    exact HE.out G w5 _ hL5 (by rw [← HH1.out]; exact hb2.size) hown5
end Go.Proofs.Yticliemmplefoaa
