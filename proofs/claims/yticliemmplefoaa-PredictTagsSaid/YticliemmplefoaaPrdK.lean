/-
  predict's choice, encoder and decoder: what is called for each row.
-/
import Derived.Test.YticliemmplefoaaPrdJ
namespace Go.Proofs.Yticliemmplefoaa
open Go.RowKit Oct Prd
attribute [-go_sem] Builtin.append_

theorem conv_row {W : World} {v : Value} {l : List UInt8} (h : IsRow W v l) : Sem.run Try.prog (convert 42 9 v) W = .ok (.string ⟨l.toArray⟩) W := by
  obtain ⟨A, C, rfl, h2⟩ := h
  cases A with
  | none =>
    have hl : l = [] := by
      cases l with
      | nil => rfl
      | cons c t =>
        obtain ⟨b, o, h3, _⟩ := h2 0 (by simp)
        cases h3
    subst hl
    exact Lib.run_convert_nil_bytes W _ _ _ C Try.underlying42 Try.underlying5 Try.underlying9
  | some A =>
    refine run_convert_bytes_back W _ _ _ A C l Try.underlying42 Try.underlying5 Try.underlying9 fun j hj => ?_
    obtain ⟨b, o, h3, h4⟩ := h2 j hj
    injection h3 with h3
    subst h3
    rw [addr_add]
    exact h4

set_option maxRecDepth 100000 in
set_option maxHeartbeats 4000000 in
theorem choice_any (pr co cl : Nat) (pv rv : Value) (prev row : List UInt8) (w : World) (hpr : pr = 2 ∨ 10 ≤ pr ∧ pr ≤ 15) (hco : 1 ≤ co) (hco2 : co ≤ 8192) (hp : IsRow w pv prev) (hr : IsRow w rv row) (hl1 : prev.length ≤ 100000) (hl2 : row.length ≤ 100000) :
    Calls Try.prog 28 #[parmsV pr co cl, pv, rv] w fun e w' => e = .returned (.int .i64 (tagOf pr prev row co : Nat)) ∧ Below w.heap.size w w' := by
  have hB := parms_blk w (pr : Int) (co : Int) (cl : Int)
  have HB1 := Lib.hid ((Below.refl w.heap.size w).alloc (Nat.le_refl _) (.cells #[.int .i64 pr, .int .i64 co, .int .i64 cl] 23))
  obtain ⟨W0, hW⟩ : ∃ W, w.alloc (.cells #[.int .i64 pr, .int .i64 co, .int .i64 cl] 23) = W := ⟨_, rfl⟩
  obtain ⟨N, hN⟩ : ∃ N, w.heap.size = N := ⟨_, rfl⟩
  have hWs : W0.heap.size = N + 1 := by rw [← hW, World.size_alloc, hN]
  rw [hN, hW] at hB HB1
  rw [hN]
  have c0 := hB.cell 0
  have c1 := hB.cell 1
  simp only [List.getElem?_toArray, List.getElem?_cons_zero, List.getElem?_cons_succ] at c0 c1
  have hp1 := conv_row (hp.below (by rw [hN]; exact Nat.le_refl _) HB1.out)
  have hr1 := conv_row (hr.below (by rw [hN]; exact Nat.le_refl _) HB1.out)
  obtain ⟨Ps, hPs⟩ : ∃ Ps : ByteArray, (⟨prev.toArray⟩ : ByteArray) = Ps := ⟨_, rfl⟩
  obtain ⟨Rs, hRs⟩ : ∃ Rs : ByteArray, (⟨row.toArray⟩ : ByteArray) = Rs := ⟨_, rfl⟩
  rw [hPs] at hp1
  rw [hRs] at hr1
  obtain ⟨T, hT⟩ : ∃ T, tagOf pr prev row co = T := ⟨_, rfl⟩
  have HT := Lib.hid hT
  rw [hT]
  obtain ⟨A1, C1, hpv⟩ := row_slice hp
  obtain ⟨A2, C2, hrv⟩ := row_slice hr
  obtain ⟨n1, hn1⟩ : ∃ n, prev.length = n := ⟨_, rfl⟩
  obtain ⟨n2, hn2⟩ : ∃ n, row.length = n := ⟨_, rfl⟩
  have HBe : Hid (∀ W : World, Calls Try.prog 9 #[.string Ps, .string Rs, .int .i64 (co : Int)] W fun e w' => e = .returned (.int .i64 (bestR prev row co : Nat)) ∧ Below W.heap.size W w') := Lib.hid (fun W => by
    have hps : Ps.size = n1 := by rw [← hPs, ← hn1]; simp [ByteArray.size]
    have hrs : Rs.size = n2 := by rw [← hRs, ← hn2]; simp [ByteArray.size]
    have h := bestP_any Ps Rs (co : Int) W (by omega) (by omega) (by omega)
    rw [show (max (co : Int) 1).toNat = co by omega, show Ps.data.toList = prev by rw [← hPs], show Rs.data.toList = row by rw [← hRs]] at h
    exact h)
  rw [hn1] at hpv
  rw [hn2] at hrv
  subst hpv hrv
  unfold parmsV
  clear hB hT hPs hRs hp hr hn1 hn2
  rcases (show pr = 2 ∨ (10 ≤ pr ∧ pr ≤ 14) ∨ pr = 15 by omega) with hc | hc | hc
  · have b1 : ((pr : Int) == 2) = true := by rw [hc]; rfl
    have HE : Hid (T = 1) := Lib.hid (by rw [← HT.out]; unfold tagOf; rw [if_pos hc])
    clear hc hpr
    go_enter Try.func28, Try.ntmps28
    go_wp2_with fail
    go_ret
    exact ⟨by rw [HE.out]; rfl, HB1.out⟩
  · have b1 : ((pr : Int) == 2) = false := beq_eq_false_iff_ne.2 (by omega)
    have b2 : ((pr : Int) == 15) = false := beq_eq_false_iff_ne.2 (by omega)
    obtain ⟨tg, htg⟩ : ∃ tg, pr - 10 = tg := ⟨_, rfl⟩
    have htg2 : (pr : Int) - 10 = (tg : Int) := by omega
    have htg3 : (tg : Int) ≤ 1000 := by omega
    have htg4 : (0 : Int) ≤ (tg : Int) := by omega
    have HE : Hid (T = tg) := Lib.hid (by rw [← HT.out]; unfold tagOf; rw [if_neg (by omega), if_neg (by omega), htg])
    clear hc hpr htg
    go_enter Try.func28, Try.ntmps28
    go_wp2_with fail
    go_ret
    exact ⟨by rw [HE.out]; rfl, HB1.out⟩
  · have b1 : ((pr : Int) == 2) = false := beq_eq_false_iff_ne.2 (by omega)
    have b2 : ((pr : Int) == 15) = true := by rw [hc]; rfl
    have HE : Hid (T = bestR prev row co) := Lib.hid (by rw [← HT.out]; unfold tagOf; rw [if_neg (by omega), if_pos hc])
    clear hc hpr
    go_enter Try.func28, Try.ntmps28
    go_wp2_with fail
    refine (HBe.out _).mono ?_
    rintro e w2 ⟨rfl, hb⟩
    have HB2 := Lib.hid (HB1.out.trans (hb.mono (by omega)))
    clear hb
    go_wp2_with fail
    go_ret
    exact ⟨by rw [HE.out]; rfl, HB2.out⟩

/-! ### The encoder, called for a row. -/
/-- What a coder holds: the parameters, the filters, the row before. -/
structure Coder (W : World) (bp ba bn pr co cl : Nat) (pv : Value) (prev : List UInt8) : Prop where
  parms : Blk W bp 23 #[.int .i64 (pr : Int), .int .i64 (co : Int), .int .i64 (cl : Int)]
  fils : Blk W ba 45 #[.func (.func (filN 0)) #[] #[], .func (.func (filN 1)) #[] #[], .func (.func (filN 2)) #[] #[], .func (.func (filN 3)) #[] #[], .func (.func (filN 4)) #[] #[]]
  box : Blk W bn 42 #[pv]
  row : IsRow W pv prev
theorem Coder.below {W W' : World} {bp ba bn pr co cl : Nat} {pv : Value} {prev : List UInt8} (h : Coder W bp ba bn pr co cl pv prev) (hb : Below W.heap.size W W') : Coder W' bp ba bn pr co cl pv prev :=
  ⟨h.parms.below hb h.parms.lt, h.fils.below hb h.fils.lt, h.box.below hb h.box.lt, h.row.below (Nat.le_refl _) hb⟩
theorem Coder.fil {W : World} {bp ba bn pr co cl : Nat} {pv : Value} {prev : List UInt8} (h : Coder W bp ba bn pr co cl pv prev) (k : Nat) (hk : k < 5) : W.cell? ⟨ba, k, none⟩ = some (.func (.func (filN k)) #[] #[]) := by
  rw [h.fils.cell]
  rcases k with _ | _ | _ | _ | _ | k
  · rfl
  · rfl
  · rfl
  · rfl
  · rfl
  · omega
/-- What the encoder or decoder answers for a row: bytes that lie in memory of the call's own. -/
def CoderEnd (W : World) (bn : Nat) (out : List UInt8) (Q : World → Prop) (e : Ending) (W' : World) : Prop :=
  ∃ G o C, e = .returned (.slice (some ⟨G, o, none⟩) out.length C) ∧ W.heap.size ≤ G ∧ G < W'.heap.size ∧ IsRow W' (.slice (some ⟨G, o, none⟩) out.length C) out ∧ Two W W' bn none ∧ Q W'

/-- The row before, behind a decoder's call: made by the call. -/
def PrevEnd (w : World) (bn : Nat) (x : List UInt8) (W' : World) : Prop := ∃ v, Blk W' bn 42 #[v] ∧ IsRow W' v x ∧ ∀ A n C, v = .slice (some A) n C → w.heap.size ≤ A.block
theorem own_below {W W' : World} {N : Nat} {e : TypeId} {sz : Nat} {v : Value} {n : Nat} {xs : List Value} (h : W.ownsRow N e sz v n xs) (hb : Below W.heap.size W W') : W'.ownsRow N e sz v n xs :=
  h.kept (row := none) ⟨hb.os, hb.tape, hb.output, hb.size, fun k hk _ => hb.block k hk⟩ (by cases v.ownBlock <;> simp)
theorem lit_own (W : World) (x : UInt8) (N : Nat) (hN : N ≤ W.heap.size) : (W.alloc (.cells #[.int .u8 (x.toNat : Int)] 5)).ownsRow N 5 1 (.slice (some ⟨W.heap.size, 0, none⟩) 1 1) 1 (bC [x]) :=
  World.ownsRow_lit W #[.int .u8 (x.toNat : Int)] 1 hN (by unfold maxLen; omega) rfl
theorem bC_one {l : List UInt8} : ∀ u ∈ bC l, u.oneCell' = true := fun u hu => by
  unfold bC at hu
  obtain ⟨x, _, rfl⟩ := List.mem_map.1 hu
  rfl
theorem two_below {W W' : World} (hb : Below W.heap.size W W') (g : Nat) (r : Option Nat) : Two W W' g r := ⟨hb.os, hb.tape, hb.output, hb.size, fun k hk _ _ => hb.block k hk⟩
theorem IsRow.tail {W : World} {b o n C : Nat} {c : UInt8} {l : List UInt8} (h : IsRow W (.slice (some ⟨b, o, none⟩) n C) (c :: l)) (C' : Nat) : IsRow W (.slice (some ⟨b, o + 1, none⟩) l.length C') l := by
  obtain ⟨A, C2, h1, h2⟩ := h
  injection h1 with h3 h4 h5
  subst h3
  refine ⟨_, C', rfl, fun j hj => ?_⟩
  obtain ⟨b', o', h6, h7⟩ := h2 (j + 1) (by simpa using hj)
  injection h6 with h6
  injection h6 with h8 h9
  subst h8 h9
  refine ⟨b, o + 1, rfl, ?_⟩
  rw [show o + 1 + j = o + (j + 1) by omega, h7]
  rfl
theorem IsRow.set_far {W : World} {v : Value} {l : List UInt8} {k : Nat} (h : IsRow W v l) (hk : ∀ A n C, v = .slice (some A) n C → A.block ≠ k) (i : Nat) (u : Value) : IsRow (W.setCell ⟨k, i, none⟩ u) v l := by
  obtain ⟨A, C, rfl, h2⟩ := h
  refine ⟨A, C, rfl, fun j hj => ?_⟩
  obtain ⟨b, o, h3, h4⟩ := h2 j hj
  have hb : b ≠ k := hk ⟨b, o, none⟩ l.length C (by rw [h3])
  refine ⟨b, o, h3, ?_⟩
  rw [← h4]
  exact World.cell?_of_block (Below.heap_setCell W ⟨k, i, none⟩ u b hb)
set_option maxRecDepth 100000 in
set_option maxHeartbeats 4000000 in
theorem encode1_any (bp ba bn pr co cl : Nat) (pv rv : Value) (prev row : List UInt8) (w : World) (hpr : pr = 2 ∨ 10 ≤ pr ∧ pr ≤ 15) (hco : 1 ≤ co) (hco2 : co ≤ 8192) (hne : bp ≠ bn ∧ ba ≠ bn) (hC : Coder w bp ba bn pr co cl pv prev) (hr : IsRow w rv row) (hl1 : prev.length ≤ 10000) (hl2 : row.length ≤ 10000) (hl3 : 1 ≤ row.length) :
    Calls Try.prog 27 #[rv, .pointer (some ⟨bp, 0, none⟩), .pointer (some ⟨bn, 0, none⟩), .pointer (some ⟨ba, 0, none⟩)] w (CoderEnd w bn (encOne pr co prev row) fun W' => Blk W' bn 42 #[rv]) := by
  obtain ⟨T, hT⟩ : ∃ T, tagOf pr prev row co = T := ⟨_, rfl⟩
  have hT5 : T < 5 := by rw [← hT]; exact tagOf_lt hpr _ _ _
  have HCh := Lib.hid (choice_any pr co cl pv rv prev row w hpr hco hco2 hC.row hr (by omega) (by omega))
  rw [hT] at HCh
  have HT := Lib.hid hT
  have HC := Lib.hid hC
  have HR := Lib.hid hr
  have c0 := hC.parms.cell 0
  have c1 := hC.parms.cell 1
  have c2 := hC.parms.cell 2
  have c3 := hC.box.cell 0
  simp only [List.getElem?_toArray, List.getElem?_cons_zero, List.getElem?_cons_succ] at c0 c1 c2 c3
  obtain ⟨A1, C1, hpv⟩ := row_slice hC.row
  obtain ⟨A2, C2, hrv⟩ := row_slice hr
  obtain ⟨n1, hn1⟩ : ∃ n, prev.length = n := ⟨_, rfl⟩
  obtain ⟨n2, hn2⟩ : ∃ n, row.length = n := ⟨_, rfl⟩
  have HN1 := Lib.hid hn1
  have HN2 := Lib.hid hn2
  rw [hn1] at hpv
  rw [hn2] at hrv
  subst hpv hrv
  unfold parmsV at HCh
  clear hT hC hr hn1 hn2
  go_enter Try.func27, Try.ntmps27
  go_wp2_with fail
  refine HCh.out.mono ?_
  rintro e w1 ⟨rfl, hb⟩
  have HB1 := Lib.hid hb
  have HC1 := Lib.hid (HC.out.below hb)
  have hR1 := HR.out.below (Nat.le_refl _) hb
  clear hb c0 c1 c2 c3
  have HFil := Lib.hid (HC1.out.fil T hT5)
  have hbp := HC1.out.parms.lt
  have hbn := HC1.out.box.lt
  have hba := HC1.out.fils.lt
  obtain ⟨H1, hH1⟩ : ∃ H1, w1.heap.size = H1 := ⟨_, rfl⟩
  have HH1 := Lib.hid hH1
  have HS : Hid (∀ W : World, Below H1 w1 W → W.cell? ⟨ba, T, none⟩ = some (.func (.func (filN T)) #[] #[]) ∧ W.cell? ⟨bn, 0, none⟩ = some (.slice A1 n1 C1) ∧ W.cell? ⟨bp, 1, none⟩ = some (.int .i64 (co : Int))) := Lib.hid (fun W hW => by
    have hC2 := HC1.out.below (by rw [HH1.out]; exact hW)
    exact ⟨hC2.fil T hT5, hC2.box.cell 0, hC2.parms.cell 1⟩)
  obtain ⟨x, hx⟩ : ∃ x, lessR T prev row co = x := ⟨_, rfl⟩
  have hxl : x.length = n2 := by rw [← hx, lessR_len]; exact HN2.out
  have HAp : Hid (∀ W : World, Below H1 w1 W → Calls Try.prog 22 #[.func (.func (filN T)) #[] #[], .slice A1 n1 C1, .slice A2 n2 C2, .int .i64 (co : Int)] W fun e w' => ∃ G, e = .returned (.slice (some ⟨G, 0, none⟩) n2 n2) ∧ w'.ownsRow W.heap.size 5 1 (.slice (some ⟨G, 0, none⟩) n2 n2) n2 (bC x) ∧ Below W.heap.size W w') := Lib.hid (fun W hW => by
    have h := apply_any (filN T) T (filN_is T hT5) (.slice A1 n1 C1) (.slice A2 n2 C2) prev row co W ((HC1.out.below (by rw [HH1.out]; exact hW)).row) (hR1.below (by rw [HH1.out]; exact Nat.le_refl _) hW) (by omega) (by omega)
    rw [hx] at h
    unfold RowEnd' at h
    rw [hxl] at h
    exact h)
  obtain ⟨i5, hi, hz0, hz1, hz2⟩ := info_parts binfo
  obtain ⟨tb, htb⟩ : ∃ tb : UInt8, UInt8.ofNat T = tb := ⟨_, rfl⟩
  have HTbe := Lib.hid htb
  have htbi : (tb.toNat : Int) = (T : Int) := by rw [← htb, UInt8.toNat_ofNat']; omega
  have hconvT : IntKind.u8.wrap (T : Int) = (tb.toNat : Int) := by rw [htbi, IntKind.wrap_u8]; omega
  have hT0 : (0 : Int) ≤ (T : Int) := by omega
  have hT1 : (T : Int) < 5 := by omega
  have HX := Lib.hid hx
  have HXl := Lib.hid hxl
  have hn2b : 1 ≤ n2 := by have := HN2.out; omega
  have hn2c : n2 ≤ 10000 := by have := HN2.out; omega
  clear hR1 hx hH1 htb htbi hxl
  obtain ⟨s1, s2, s3⟩ := HS.out w1 (Below.refl _ _)
  go_upto_region 2 with fail
  go_region_held3 (fun W => W.cell? ⟨ba, T, none⟩ = some (.func (.func (filN T)) #[] #[]) ∧ W.cell? ⟨bn, 0, none⟩ = some (.slice A1 n1 C1) ∧ W.cell? ⟨bp, 1, none⟩ = some (.int .i64 (co : Int))) (first | exact ⟨s1, s2, s3⟩ | exact HS.out _ (((Below.refl _ w1).alloc (by rw [HH1.out]; exact Nat.le_refl _) _).drew) | exact HS.out _ HB5.out | exact HS.out _ HB7.out | exact HS.out _ (HB5.out.alloc (by have := HB5.out.size; rw [HH1.out] at this; exact this) _)) (first | (go_at_call 22; refine (HAp.out _ (by first | exact Below.refl _ _ | exact (Below.refl _ w1).drew | exact ((Below.refl _ w1).alloc (by rw [HH1.out]; exact Nat.le_refl _) _).drew)).mono ?_; rintro e w5 ⟨G, rfl, hown5, hb5⟩; have HB5 : Hid (Below H1 w1 w5) := Lib.hid (by first | exact (((Below.refl _ w1).alloc (by rw [HH1.out]; exact Nat.le_refl _) _).drew).trans (hb5.mono (by show H1 ≤ (w1.alloc _).heap.size; rw [World.size_alloc, HH1.out]; omega)) | exact ((Below.refl _ w1).drew).trans (hb5.mono (by show H1 ≤ w1.heap.size; rw [HH1.out]; exact Nat.le_refl _)))) | (refine step_append_lies _ (by rfl) _ _ _ (by rfl) H1 5 i5 (.int .u8 0) 1 1 Try.underlying42 hi hz0 hz1 hz2 rfl (by decide) (.slice (some ⟨w1.heap.size, 0, none⟩) 1 1) 1 (bC [tb]) (by rfl) (own_below ((lit_own w1 tb H1 (by rw [HH1.out]; exact Nat.le_refl _)).drew) (by exact hb5)) ⟨G, 0, none⟩ n2 n2 (bC x) (by rfl) (by rw [bC_len, HXl.out]; omega) (hown5.cells (g := G) rfl) bC_one (by omega) (by unfold maxLen; omega) (by omega) (by have := HB5.out.size; rw [HH1.out] at this; exact this) _ rfl ?_; intro gg cap w7 hown7 hgrow7 hat7 hlt7; have HB7 : Hid (Below H1 w1 w7) := Lib.hid (HB5.out.grown hgrow7 (by have := HB5.out.size; rw [HH1.out] at this; exact this) (fun k hk => by injection hk with hk; show H1 ≤ k; rw [← hk, ← HH1.out]; exact Nat.le_refl _))) | (refine step_append_lies _ (by rfl) _ _ _ (by rfl) H1 5 i5 (.int .u8 0) 1 1 Try.underlying42 hi hz0 hz1 hz2 rfl (by decide) (.slice (some ⟨w5.heap.size, 0, none⟩) 1 1) 1 (bC [tb]) (by rfl) (by exact lit_own w5 tb H1 (by have := HB5.out.size; rw [HH1.out] at this; exact this)) ⟨G, 0, none⟩ n2 n2 (bC x) (by rfl) (by rw [bC_len, HXl.out]; omega) (by exact (hown5.alloc _).cells (g := G) rfl) bC_one (by omega) (by unfold maxLen; omega) (by omega) (by have := HB5.out.size; rw [HH1.out] at this; rw [World.size_alloc]; omega) _ rfl ?_; intro gg cap w7 hown7 hgrow7 hat7 hlt7; have HB7 : Hid (Below H1 w1 w7) := Lib.hid ((HB5.out.alloc (by have := HB5.out.size; rw [HH1.out] at this; exact this) _).grown hgrow7 (by have := HB5.out.size; rw [HH1.out] at this; rw [World.size_alloc]; omega) (fun k hk => by injection hk with hk; have := HB5.out.size; rw [HH1.out] at this; show H1 ≤ k; rw [← hk]; exact this))))
  all_goals
    have hbx := HC1.out.box.below HB7.out (by rw [← HH1.out]; exact hbn)
    have hpm := HC1.out.parms.below HB7.out (by rw [← HH1.out]; exact hbp)
    have hr7 : IsRow w7 (.slice (some ⟨gg, 0, none⟩) (1 + n2) cap) (tb :: x) := IsRow.own (N := H1) (n := 1 + n2) (by
      have e : bC (tb :: x) = bC [tb] ++ bC x := rfl
      rw [e]
      exact hown7)
    have hgg : H1 ≤ gg := (hown7.lt gg rfl).1
    have hcap : 1 + n2 ≤ cap := by
      rcases hown7.2 with ⟨h, _⟩ | ⟨g', cap', cur, h, _, _, h3, _⟩
      · cases h
      · injection h with h1 h2 h3'
        omega
    have hcap1 : 1 < cap := by omega
    have hcap2 : 0 < cap - 1 := by omega
    have HHB := Lib.hid (show Two w (w7.setCell ⟨bn, 0, none⟩ (.slice A2 n2 C2)) bn none from ((two_below HB1.out bn none).trans (two_below (by rw [HH1.out]; exact HB7.out) bn none) (.inl rfl)).set_ 0 _)
    have HRow := Lib.hid (hr7.set_far (k := bn) (fun A n C e => by injection e with e; injection e with e; rw [← e]; show gg ≠ bn; have := HH1.out; omega) 0 (.slice A2 n2 C2))
    have HBx := Lib.hid (hbx.set_ 0 (.slice A2 n2 C2))
    have HSz := Lib.hid (show gg < (w7.setCell ⟨bn, 0, none⟩ (.slice A2 n2 C2)).heap.size by simpa [World.setCell] using hlt7)
    have HGG := Lib.hid (show w.heap.size ≤ gg by have := HB1.out.size; have := HH1.out; omega)
    have g0 := hbx.cell 0
    have g1 := hbx.frozen 0
    have p0 := hpm.cell 0
    have p1 := hpm.cell 1
    have p2 := hpm.cell 2
    have hnep : bp ≠ bn := hne.1
    simp only [List.getElem?_toArray, List.getElem?_cons_zero, List.getElem?_cons_succ] at g0 p0 p1 p2
    have HTg := Lib.hid (fun W : World => tags_any (pr : Int) (co : Int) (cl : Int) W)
    unfold parmsV at HTg
    clear hown7 hgrow7 hat7 hbx hpm hr7 hlt7
    by_cases h10 : pr < 10
    · have ht : tgsI (pr : Int) = 0 := by unfold tgsI; rw [if_pos (by omega)]
      rw [ht] at HTg
      have HO : Hid (encOne pr co prev row = x) := Lib.hid (by unfold encOne; rw [if_pos h10, HT.out, HX.out]; rfl)
      clear ht
      go_wp2_with fail
      refine (HTg.out _).mono ?_
      rintro e w9 ⟨rfl, hb9⟩
      have HB9 := Lib.hid hb9
      clear hb9
      go_wp2_with fail
      go_ret
      refine ⟨gg, 1, cap - 1, ?_, HGG.out, Nat.lt_of_lt_of_le HSz.out HB9.out.size, ?_, HHB.out.trans (two_below HB9.out bn none) (.inl rfl), HBx.out.below HB9.out HBx.out.lt⟩
      · rw [HO.out, HXl.out]
        rfl
      · rw [HO.out]
        exact (HRow.out.below (Nat.le_refl _) HB9.out).tail (cap - 1)
    · have ht : tgsI (pr : Int) = 1 := by unfold tgsI; rw [if_neg (by omega)]
      rw [ht] at HTg
      have HO : Hid (encOne pr co prev row = tb :: x) := Lib.hid (by unfold encOne; rw [if_neg h10, HT.out, HX.out, HTbe.out]; rfl)
      clear ht
      go_wp2_with fail
      refine (HTg.out _).mono ?_
      rintro e w9 ⟨rfl, hb9⟩
      have HB9 := Lib.hid hb9
      clear hb9
      go_wp2_with fail
      go_ret
      refine ⟨gg, 0, cap, ?_, HGG.out, Nat.lt_of_lt_of_le HSz.out HB9.out.size, ?_, HHB.out.trans (two_below HB9.out bn none) (.inl rfl), HBx.out.below HB9.out HBx.out.lt⟩
      · rw [HO.out, List.length_cons, HXl.out, Nat.add_comm]
        rfl
      · rw [HO.out, List.length_cons, HXl.out, Nat.add_comm]
        exact HRow.out.below (Nat.le_refl _) HB9.out
end Go.Proofs.Yticliemmplefoaa
