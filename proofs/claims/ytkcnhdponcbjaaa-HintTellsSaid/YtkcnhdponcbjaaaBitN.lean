/-
  The walks of the document's writer: put.
-/
import Derived.Test.YtkcnhdponcbjaaaBitM
namespace Go.Proofs.Ytkcnhdponcbjaaa
open Go.RowKit Bt

theorem put_val1 (x V m k p : Nat) (hp : p < 8) (_hV : V < 16777216) (hs : x + bitO 1 V m k * 2 ^ plc 1 p < 256) :
    ((x : Int) + wrap64 (((V : Int) / 2 ^ k).tmod 2 * 2 ^ p)) % 256 = ((x + bitO 1 V m k * 2 ^ plc 1 p : Nat) : Int) := by
  have hpl : plc 1 p = p := by unfold plc; rw [if_neg (by decide)]; omega
  rw [hpl] at hs ⊢
  have hb : bitO 1 V m k = V / 2 ^ k % 2 := by unfold bitO; rw [if_neg (by decide)]
  rw [hb] at hs ⊢
  have e : ((V : Int) / 2 ^ k) = ((V / 2 ^ k : Nat) : Int) := by rw [Int.natCast_ediv]; congr 1
  rw [e]
  generalize V / 2 ^ k = y at *
  have e2 : ((y : Int).tmod 2 * 2 ^ p) = ((y % 2 * 2 ^ p : Nat) : Int) := by
    rw [Int.tmod_eq_emod_of_nonneg (by omega), Int.natCast_mul]; congr 1
  rw [e2]
  generalize y % 2 * 2 ^ p = z at *
  rw [IntWalk.wrap64_in _ (by omega)]
  omega
theorem put_val2 (x V m k p j : Nat) (hp : p < 8) (hj : m - 1 - k = j) (hs : x + bitO 2 V m k * 2 ^ plc 2 p < 256) :
    ((x : Int) + wrap64 (((V : Int) / 2 ^ j).tmod 2 * 2 ^ (7 - p))) % 256 = ((x + bitO 2 V m k * 2 ^ plc 2 p : Nat) : Int) := by
  have hpl : plc 2 p = 7 - p := by unfold plc; rw [if_pos rfl]; omega
  rw [hpl] at hs ⊢
  have hb : bitO 2 V m k = V / 2 ^ j % 2 := by unfold bitO; rw [if_pos rfl, hj]
  rw [hb] at hs ⊢
  have e : ((V : Int) / 2 ^ j) = ((V / 2 ^ j : Nat) : Int) := by rw [Int.natCast_ediv]; congr 1
  rw [e]
  generalize V / 2 ^ j = y at *
  have e2 : ((y : Int).tmod 2 * 2 ^ (7 - p)) = ((y % 2 * 2 ^ (7 - p) : Nat) : Int) := by
    rw [Int.tmod_eq_emod_of_nonneg (by omega), Int.natCast_mul]; congr 1
  rw [e2]
  generalize y % 2 * 2 ^ (7 - p) = z at *
  rw [IntWalk.wrap64_in _ (by omega)]
  omega

set_option maxRecDepth 100000 in
set_option maxHeartbeats 4000000 in
theorem put1_any (B g : Nat) (r : Option Nat) (l : List UInt8) (p : Nat) (ord v n : Int) (w : World) (hll : l.length ≤ 900000) (hBw : B ≤ w.heap.size) (h : Wr 71 B w g r l p ord) (hf : Fit ord l p) :
    Calls Try.prog 47 #[.pointer (some ⟨g, 0, none⟩), .int .i64 v, .int .i64 n, .int .i64 1] w (Put 71 B w g r l p ord v n 1) := by
  obtain ⟨i5, hi, hz0, hz1, hz2⟩ := info_parts info_u8
  obtain ⟨v0, hB0⟩ : ∃ val, Blk w g 71 #[val, .int .i64 (p : Int), .int .i64 ord] := ⟨_, h.choose_spec.1⟩
  have c2 : w.cell? ⟨g, 2, none⟩ = some (.int .i64 ord) := (hB0.cell 2).trans rfl
  have H := Lib.hid h
  have HF := Lib.hid hf
  clear h hf hB0
  by_cases hn0 : n < 0
  · have R := Lib.hid (wr_bad (v := v) (ord := ord) (n := n) (o := 1) (by unfold wbad bad; rw [decide_eq_true hn0]; rfl) l p)
    go_enter Try.func47, Try.ntmps47
    go_wp2
    go_ret
    exact put_of R.out.1 R.out.2.1 R.out.2.2.1 R.out.2.2.2 (Wrote.same H.out)
  by_cases hn1 : 24 < n
  · have R := Lib.hid (wr_bad (v := v) (ord := ord) (n := n) (o := 1) (by unfold wbad bad; rw [decide_eq_true hn1]; simp) l p)
    go_enter Try.func47, Try.ntmps47
    go_wp2
    go_ret
    exact put_of R.out.1 R.out.2.1 R.out.2.2.1 R.out.2.2.2 (Wrote.same H.out)
  by_cases hv0 : v < 0
  · have R := Lib.hid (wr_bad (v := v) (ord := ord) (n := n) (o := 1) (by unfold wbad; rw [decide_eq_true hv0]; simp) l p)
    go_enter Try.func47, Try.ntmps47
    go_wp2
    go_ret
    exact put_of R.out.1 R.out.2.1 R.out.2.2.1 R.out.2.2.2 (Wrote.same H.out)
  obtain ⟨m, rfl⟩ := Int.eq_ofNat_of_zero_le (show 0 ≤ n by omega)
  obtain ⟨V, rfl⟩ := Int.eq_ofNat_of_zero_le (show 0 ≤ v by omega)
  have h2p := two_pow_le (m := m) (by omega)
  obtain ⟨X, hX⟩ : ∃ X : Int, 2 ^ m = X := ⟨_, rfl⟩
  rw [hX] at h2p
  have hw64 : wrap64 ((2 : Int) ^ m) = X := by rw [hX]; exact IntWalk.wrap64_in _ (by omega)
  have hi64 : IntKind.i64.wrap ((2 : Int) ^ m) = X := by rw [hX]; exact IntWalk.i64_in _ (by omega)
  have HX := Lib.hid hX
  clear hX
  by_cases hl : X ≤ (V : Nat)
  · have R := Lib.hid (wr_bad (v := (V : Nat)) (ord := ord) (n := (m : Nat)) (o := 1) (by unfold wbad; rw [show (2 : Int) ^ ((m : Nat) : Int).toNat = X from HX.out, decide_eq_true hl]; simp) l p)
    go_enter Try.func47, Try.ntmps47
    go_wp2
    go_ret
    exact put_of R.out.1 R.out.2.1 R.out.2.2.1 R.out.2.2.2 (Wrote.same H.out)
  by_cases ho : ord ≠ 0 ∧ ord ≠ 1
  · have R := Lib.hid (wr_bad (v := (V : Nat)) (ord := ord) (n := (m : Nat)) (o := 1) (by unfold wbad bad; rw [decide_eq_true ho.1, decide_eq_true ho.2]; simp) l p)
    have b0 : (ord != 0) = true := by rw [bne_iff_ne]; exact ho.1
    have b1 : (ord != 1) = true := by rw [bne_iff_ne]; exact ho.2
    clear ho
    go_enter Try.func47, Try.ntmps47
    go_wp2
    go_ret
    exact put_of R.out.1 R.out.2.1 R.out.2.2.1 R.out.2.2.2 (Wrote.same H.out)
  have hor : ord = 0 ∨ ord = 1 := by omega
  have hbd : bad ord (m : Nat) 1 = false := by unfold bad; simp; omega
  have R := Lib.hid (wr_ok (v := (V : Nat)) (ord := ord) (n := (m : Nat)) (o := 1) (by unfold wbad; rw [hbd, show (2 : Int) ^ ((m : Nat) : Int).toNat = X from HX.out, decide_eq_false hl, decide_eq_false hv0]; rfl) l p)
  have hV : V < 16777216 := by omega
  have HO := Lib.hid hor
  have HOp : Hid (0 < p → ord = 1) := Lib.hid (fun hp => by rcases (HF.out.2 hp).2.1 with e | e <;> omega)
  clear ho hor hbd h2p
  rcases HO.out with hc | hc <;> subst hc
  · go_enter Try.func47, Try.ntmps47
    go_wp2_with fail
    go_loopw [9] (fun i wr => ∃ (k : Nat) (r2 : Option Nat) (q : Int), k ≤ m ∧ i = .int .i64 k ∧ (q = if 0 < k then 1 else 0) ∧ (r2 = r ∨ ∃ j, r2 = some j ∧ w.heap.size ≤ j) ∧ Two w wr g r ∧ Wr 71 B wr g r2 (puts 1 l p (bitO 1 V m) k) ((p + k) % 8) q) (fun i _ => m - (intOf i).toNat)
    case atStart => exact ⟨0, r, _, Nat.zero_le _, rfl, rfl, Or.inl rfl, Two.refl _ _ _, by rw [Nat.add_zero, Nat.mod_eq_of_lt HF.out.1]; exact H.out⟩
    case round =>
      obtain ⟨k, r2, q, hk, rfl, hq, hr2, ht2, hw2⟩ := hrel
      have HQ := Lib.hid hq
      have HR2 := Lib.hid hr2
      have HT2 := Lib.hid ht2
      clear hq hr2 ht2 c2
      by_cases hlt : k < m
      · have HL : Hid ((puts 1 l p (bitO 1 V m) k).length ≤ 1000000) := Lib.hid (by have := puts_le (o := 1) (l := l) (p := p) (f := bitO 1 V m) k; omega)
        have HFk := Lib.hid (fit_puts0 (f := bitO 1 V m) HF.out HOp.out (Or.inl rfl) (fun _ => bitO_lt _ _ _ _) k)
        have HOk : Hid (0 < (p + k) % 8 → (if k = 0 then 0 else 1) = (1 : Int)) := Lib.hid (fun hp => by
          split
          · rename_i h0; subst h0; exact HOp.out (by omega)
          · rfl)
        obtain ⟨l2, hl2⟩ : ∃ l2, puts 1 l p (bitO 1 V m) k = l2 := ⟨_, rfl⟩
        obtain ⟨p2, hp2⟩ : ∃ p2, (p + k) % 8 = p2 := ⟨_, rfl⟩
        have HBw : Hid (B ≤ wr.heap.size) := Lib.hid (Nat.le_trans hBw HT2.out.size)
        rw [hl2, hp2] at hw2 HFk
        rw [hl2] at HL
        rw [hp2] at HOk
        have HL2 := Lib.hid hl2
        have HP2 := Lib.hid hp2
        have HW2 := Lib.hid hw2
        have h8 : p2 < 8 := HFk.out.1
        clear hl2 hp2 hw2
        by_cases hz : 0 < p2
        · have hl0 : 0 < l2.length := List.length_pos_iff.2 (HFk.out.ne_ hz)
          obtain ⟨kb, cap, hrk, hne, hcap, hcm, h1, h2, h5⟩ := HW2.out.form hl0
          obtain ⟨nn, hnn⟩ : ∃ nn, l2.length = nn := ⟨_, rfl⟩
          rw [hnn] at h1 h2 hcap hl0
          have hx : wr.cell? ⟨kb, nn - 1, none⟩ = some (.int .u8 (lastN l2 : Int)) := by
            have := h2.cellAt (j := nn - 1) (by omega)
            rw [this, byteCells_at l2 (nn - 1) (by omega)]
            unfold lastN
            rw [hnn]
          have hfz : wr.frozen? ⟨kb, nn - 1, none⟩ = false := h2.frozenAt _
          unfold maxLen at hcm
          have c0 : wr.cell? ⟨g, 0, none⟩ = some (.slice (some ⟨kb, 0, none⟩) nn cap) := (h1.cell 0).trans rfl
          have c1 : wr.cell? ⟨g, 1, none⟩ = some (.int .i64 (p2 : Int)) := (h1.cell 1).trans rfl
          have c2 : wr.cell? ⟨g, 2, none⟩ = some (.int .i64 q) := (h1.cell 2).trans rfl
          have f1 : wr.frozen? ⟨g, 1, none⟩ = false := h1.frozen 1
          have f2 : wr.frozen? ⟨g, 2, none⟩ = false := h1.frozen 2
          have hz0' : ((p2 : Int) == 0) = false := by simp; omega
          have d0 : IntKind.i64.wrap ((nn : Int) - 1) = (nn : Int) - 1 := IntWalk.i64_in _ (by omega)
          have d1 : (0 : Int) ≤ (nn : Int) - 1 := by omega
          have d1' : (1 : Int) ≤ (nn : Int) := by omega
          have d2 : (nn : Int) - 1 < (nn : Int) := by omega
          have d3 : ((nn : Int) - 1).toNat = nn - 1 := by omega
          have HH1 := Lib.hid h1
          have HH2 := Lib.hid h2
          have HRk := Lib.hid hrk
          have HNn := Lib.hid hnn
          clear h1 h2 hrk hnn
          go_wp2_with fail
          go_still_tail 24, (by kernel_rfl)
          try refine wpStill_nil ?_
          go_wp2
          have hsum : lastN l2 + bitO 1 V m k * 2 ^ plc 1 p2 < 256 := (step_all (Or.inl rfl) h8 (bitO_lt 1 V m k) (lastN_lt l2) (by have h := HFk.out.zeros HOk.out; unfold grow0 at h; rw [if_neg (by omega)] at h; exact h)).2.1
          rw [put_val1 (lastN l2) V m k p2 h8 hV hsum, show (((p2 : Nat) : Int) + 1) % 8 = (((p2 + 1) % 8 : Nat) : Int) by omega]
          have hG : grow0 l2 p2 = l2 := by unfold grow0; rw [if_neg (by omega)]
          have hw := wr_bit (l := l2) (p := p2) (o := 1) (q := q) (b := bitO 1 V m k) hne h5 (by rw [hG, HNn.out]; exact HH1.out) (by rw [hG, HNn.out]; exact HH2.out) (by rw [hG]; exact hsum)
          rw [hG, HNn.out, ← HL2.out, ← HP2.out] at hw
          have hfin := Wrote.drewN (n := 1) (Wrote.ord (Wrote.part ⟨some kb, Or.inl rfl, hw, (Two.refl _ _ _).row (Or.inl rfl) _ _⟩ (((p + k) % 8 + 1) % 8)) 1)
          rw [← HRk.out] at hfin
          obtain ⟨r3, hr3, ht3, hw3⟩ := puts_next (f := bitO 1 V m) HR2.out HT2.out rfl hfin
          rw [HL2.out, HP2.out] at hw3 ht3
          go_roundw
          case rel => exact ⟨k + 1, r3, 1, by omega, by go_num, by rw [if_pos (by omega)], hr3, ht3, hw3⟩
          case measure => simp [intOf]; omega
        · obtain rfl : p2 = 0 := by omega
          obtain ⟨v1, h1, h2, hvr, h4, h5⟩ := HW2.out
          obtain ⟨nn, hnn⟩ : ∃ nn, l2.length = nn := ⟨_, rfl⟩
          rw [hnn] at h2
          have hnl : nn ≤ 1000000 := by rw [← hnn]; exact HL.out
          have c0 : wr.cell? ⟨g, 0, none⟩ = some v1 := (h1.cell 0).trans rfl
          have c1 : wr.cell? ⟨g, 1, none⟩ = some (.int .i64 0) := (h1.cell 1).trans rfl
          have hgl := h1.lt
          have hBw2 := HBw.out
          have HH1 := Lib.hid h1
          have HH2 := Lib.hid h2
          have HVr := Lib.hid hvr
          have HNn := Lib.hid hnn
          have hvg : v1.ownBlock ≠ some g := by rw [hvr]; exact h4
          clear h1 h2 hvr hnn h4
          go_wp2_with (at_builtin; refine wpList_append_lies _ rfl _ _ _ rfl B 5 i5 (.int .u8 0) 1 1 Try.underlying37 hi hz0 hz1 hz2 rfl (by omega) v1 nn (byteCells l2) rfl (HH2.out.alloc _) ⟨wr.heap.size, 0, none⟩ 1 1 [.int .u8 0] rfl rfl (World.news_of_block (heap_alloc_new wr _)) (by simp [Value.oneCell']) (by omega) (by unfold maxLen; omega) (by omega) (by simp; omega) (wr.heap.size + 1) (by simp) ?_; intro kb cap w1 hown1 hgrow hat hlt1; have h1 := (HH1.out.alloc (.cells #[.int .u8 0] 5)).grown hgrow (fun e => hvg e.symm); have f0 : w1.frozen? ⟨g, 0, none⟩ = false := h1.frozen 0; have c10 : w1.cell? ⟨g, 0, none⟩ = some v1 := (h1.cell 0).trans rfl)
          have hkg : kb ≠ g := by
            rcases hat with e | e
            · intro e2; rw [e2] at e; exact hvg e
            · omega
          have hkw : some kb = r2 ∨ wr.heap.size ≤ kb := by
            rcases hat with e | e
            · exact Or.inl (by rw [← HVr.out]; exact e.symm)
            · exact Or.inr (by omega)
          have hcap : nn + 1 ≤ cap ∧ cap ≤ maxLen := by
            rcases hown1.2 with ⟨e, _⟩ | ⟨k', cap', cur, e, _, _, hc, hm, _⟩
            · cases e
            · injection e with _ _ e3; rw [e3]; exact ⟨hc, hm⟩
          obtain ⟨w2, hw2⟩ : ∃ w2, w1.setCell ⟨g, 0, none⟩ (.slice (some ⟨kb, 0, none⟩) (nn + 1) cap) = w2 := ⟨_, rfl⟩
          have h2 : Blk w2 g 71 #[.slice (some ⟨kb, 0, none⟩) (nn + 1) cap, .int .i64 ((0 : Nat) : Int), .int .i64 q] := by rw [← hw2]; exact h1.set_ 0 _
          have hown2 : w2.ownsRow B 5 1 (.slice (some ⟨kb, 0, none⟩) (nn + 1) cap) (nn + 1) (byteCells (l2 ++ [0])) := by
            rw [← hw2, byteCells_append]
            exact ownsRow_setCell_other hown1 (fun e => hkg (by simpa [Value.ownBlock] using e)) _
          have ht2 : Two wr w2 g r2 := by
            rw [← hw2, ← HVr.out]
            exact (((Two.refl wr g v1.ownBlock).alloc _).grown hgrow (Or.inl rfl)).set_ 0 _
          rw [hw2]
          have HL1 := Lib.hid (show (l2 ++ [0]).length = nn + 1 by rw [List.length_append, HNn.out]; rfl)
          have HG : Hid (grow0 l2 0 = l2 ++ [0]) := Lib.hid (by unfold grow0; rw [if_pos rfl])
          have hx : w2.cell? ⟨kb, nn, none⟩ = some (.int .u8 0) := by
            have := hown2.cellAt (j := nn) (by omega)
            rw [this, byteCells_at _ nn (by rw [HL1.out]; omega)]
            have := lastN_grow l2
            rw [HG.out] at this
            unfold lastN at this
            rw [HL1.out] at this
            rw [show nn + 1 - 1 = nn by omega] at this
            rw [this]
            rfl
          have hfz : w2.frozen? ⟨kb, nn, none⟩ = false := hown2.frozenAt _
          have g0 : w2.cell? ⟨g, 0, none⟩ = some (.slice (some ⟨kb, 0, none⟩) (nn + 1) cap) := (h2.cell 0).trans rfl
          have g1 : w2.cell? ⟨g, 1, none⟩ = some (.int .i64 0) := (h2.cell 1).trans rfl
          have g2 : w2.cell? ⟨g, 2, none⟩ = some (.int .i64 q) := (h2.cell 2).trans rfl
          have e1 : w2.frozen? ⟨g, 1, none⟩ = false := h2.frozen 1
          have e2 : w2.frozen? ⟨g, 2, none⟩ = false := h2.frozen 2
          obtain ⟨hcap1, hcap2⟩ := hcap
          unfold maxLen at hcap2
          have HTT := Lib.hid ht2
          have HBB := Lib.hid h2
          have HOO := Lib.hid hown2
          have HA := Lib.hid hkw
          clear hown1 hgrow hat hlt1 h1 f0 c10 hw2 h2 hown2 ht2 hkw c0 c1
          have d1 : (0 : Int) ≤ (nn : Int) := by omega
          have d2 : (nn : Int) < (nn : Int) + 1 := by omega
          go_still_tail 24, (by kernel_rfl)
          try refine wpStill_nil ?_
          go_wp2
          have hsum : lastN (grow0 l2 0) + bitO 1 V m k * 2 ^ plc 1 0 < 256 := (step_all (Or.inl rfl) (by decide) (bitO_lt 1 V m k) (lastN_lt _) (HFk.out.zeros HOk.out)).2.1
          have hval : wrap64 (((V : Int) / 2 ^ k).tmod 2) % 256 = ((lastN (grow0 l2 0) + bitO 1 V m k * 2 ^ plc 1 0 : Nat) : Int) := by
            have h0 := lastN_grow l2
            rw [h0] at hsum ⊢
            have := put_val1 0 V m k 0 (by decide) hV hsum
            simpa using this
          have hlen : (grow0 l2 0).length - 1 = nn := by rw [HG.out, HL1.out]; rfl
          have hw := wr_bit (l := l2) (p := 0) (o := 1) (q := q) (b := bitO 1 V m k) hkg h5 (by rw [HG.out, HL1.out]; exact HBB.out) (by rw [HG.out, HL1.out]; exact HOO.out) hsum
          rw [hlen] at hw
          rw [hval]
          have hfin := Wrote.drewN (n := 1) (Wrote.ord (Wrote.part ⟨some kb, HA.out.imp id (fun e => ⟨kb, rfl, e⟩), hw, HTT.out.row HA.out _ _⟩ 1) 1)
          obtain ⟨r3, hr3, ht3, hw3⟩ := puts_next (f := bitO 1 V m) HR2.out HT2.out rfl (by rw [HL2.out, HP2.out]; exact hfin)
          go_roundw
          case rel => exact ⟨k + 1, r3, 1, by omega, by go_num, by rw [if_pos (by omega)], hr3, ht3, hw3⟩
          case measure => simp [intOf]; omega
      · obtain rfl : k = m := by omega
        go_wp2
        go_ret
        exact put_of R.out.1 R.out.2.1 R.out.2.2.1 (R.out.2.2.2.trans (by rw [HQ.out]; split <;> split <;> omega)) ⟨r2, HR2.out, hw2, HT2.out⟩
  · go_enter Try.func47, Try.ntmps47
    go_wp2_with fail
    go_loopw [9] (fun i wr => ∃ (k : Nat) (r2 : Option Nat) (q : Int), k ≤ m ∧ i = .int .i64 k ∧ (q = if 0 < k then 1 else 1) ∧ (r2 = r ∨ ∃ j, r2 = some j ∧ w.heap.size ≤ j) ∧ Two w wr g r ∧ Wr 71 B wr g r2 (puts 1 l p (bitO 1 V m) k) ((p + k) % 8) q) (fun i _ => m - (intOf i).toNat)
    case atStart => exact ⟨0, r, _, Nat.zero_le _, rfl, rfl, Or.inl rfl, Two.refl _ _ _, by rw [Nat.add_zero, Nat.mod_eq_of_lt HF.out.1]; exact H.out⟩
    case round =>
      obtain ⟨k, r2, q, hk, rfl, hq, hr2, ht2, hw2⟩ := hrel
      have HQ := Lib.hid hq
      have HR2 := Lib.hid hr2
      have HT2 := Lib.hid ht2
      clear hq hr2 ht2 c2
      by_cases hlt : k < m
      · have HL : Hid ((puts 1 l p (bitO 1 V m) k).length ≤ 1000000) := Lib.hid (by have := puts_le (o := 1) (l := l) (p := p) (f := bitO 1 V m) k; omega)
        have HFk := Lib.hid (fit_puts0 (o' := 1) (f := bitO 1 V m) HF.out (fun _ => rfl) (Or.inl rfl) (fun _ => bitO_lt _ _ _ _) k)
        have HOk : Hid (0 < (p + k) % 8 → (if k = 0 then 1 else 1) = (1 : Int)) := Lib.hid (fun hp => by
          split
          · rfl
          · rfl)
        obtain ⟨l2, hl2⟩ : ∃ l2, puts 1 l p (bitO 1 V m) k = l2 := ⟨_, rfl⟩
        obtain ⟨p2, hp2⟩ : ∃ p2, (p + k) % 8 = p2 := ⟨_, rfl⟩
        have HBw : Hid (B ≤ wr.heap.size) := Lib.hid (Nat.le_trans hBw HT2.out.size)
        rw [hl2, hp2] at hw2 HFk
        rw [hl2] at HL
        rw [hp2] at HOk
        have HL2 := Lib.hid hl2
        have HP2 := Lib.hid hp2
        have HW2 := Lib.hid hw2
        have h8 : p2 < 8 := HFk.out.1
        clear hl2 hp2 hw2
        by_cases hz : 0 < p2
        · have hl0 : 0 < l2.length := List.length_pos_iff.2 (HFk.out.ne_ hz)
          obtain ⟨kb, cap, hrk, hne, hcap, hcm, h1, h2, h5⟩ := HW2.out.form hl0
          obtain ⟨nn, hnn⟩ : ∃ nn, l2.length = nn := ⟨_, rfl⟩
          rw [hnn] at h1 h2 hcap hl0
          have hx : wr.cell? ⟨kb, nn - 1, none⟩ = some (.int .u8 (lastN l2 : Int)) := by
            have := h2.cellAt (j := nn - 1) (by omega)
            rw [this, byteCells_at l2 (nn - 1) (by omega)]
            unfold lastN
            rw [hnn]
          have hfz : wr.frozen? ⟨kb, nn - 1, none⟩ = false := h2.frozenAt _
          unfold maxLen at hcm
          have c0 : wr.cell? ⟨g, 0, none⟩ = some (.slice (some ⟨kb, 0, none⟩) nn cap) := (h1.cell 0).trans rfl
          have c1 : wr.cell? ⟨g, 1, none⟩ = some (.int .i64 (p2 : Int)) := (h1.cell 1).trans rfl
          have c2 : wr.cell? ⟨g, 2, none⟩ = some (.int .i64 q) := (h1.cell 2).trans rfl
          have f1 : wr.frozen? ⟨g, 1, none⟩ = false := h1.frozen 1
          have f2 : wr.frozen? ⟨g, 2, none⟩ = false := h1.frozen 2
          have hz0' : ((p2 : Int) == 0) = false := by simp; omega
          have d0 : IntKind.i64.wrap ((nn : Int) - 1) = (nn : Int) - 1 := IntWalk.i64_in _ (by omega)
          have d1 : (0 : Int) ≤ (nn : Int) - 1 := by omega
          have d1' : (1 : Int) ≤ (nn : Int) := by omega
          have d2 : (nn : Int) - 1 < (nn : Int) := by omega
          have d3 : ((nn : Int) - 1).toNat = nn - 1 := by omega
          have HH1 := Lib.hid h1
          have HH2 := Lib.hid h2
          have HRk := Lib.hid hrk
          have HNn := Lib.hid hnn
          clear h1 h2 hrk hnn
          go_wp2_with fail
          go_still_tail 24, (by kernel_rfl)
          try refine wpStill_nil ?_
          go_wp2
          have hsum : lastN l2 + bitO 1 V m k * 2 ^ plc 1 p2 < 256 := (step_all (Or.inl rfl) h8 (bitO_lt 1 V m k) (lastN_lt l2) (by have h := HFk.out.zeros HOk.out; unfold grow0 at h; rw [if_neg (by omega)] at h; exact h)).2.1
          rw [put_val1 (lastN l2) V m k p2 h8 hV hsum, show (((p2 : Nat) : Int) + 1) % 8 = (((p2 + 1) % 8 : Nat) : Int) by omega]
          have hG : grow0 l2 p2 = l2 := by unfold grow0; rw [if_neg (by omega)]
          have hw := wr_bit (l := l2) (p := p2) (o := 1) (q := q) (b := bitO 1 V m k) hne h5 (by rw [hG, HNn.out]; exact HH1.out) (by rw [hG, HNn.out]; exact HH2.out) (by rw [hG]; exact hsum)
          rw [hG, HNn.out, ← HL2.out, ← HP2.out] at hw
          have hfin := Wrote.drewN (n := 1) (Wrote.ord (Wrote.part ⟨some kb, Or.inl rfl, hw, (Two.refl _ _ _).row (Or.inl rfl) _ _⟩ (((p + k) % 8 + 1) % 8)) 1)
          rw [← HRk.out] at hfin
          obtain ⟨r3, hr3, ht3, hw3⟩ := puts_next (f := bitO 1 V m) HR2.out HT2.out rfl hfin
          rw [HL2.out, HP2.out] at hw3 ht3
          go_roundw
          case rel => exact ⟨k + 1, r3, 1, by omega, by go_num, by rw [if_pos (by omega)], hr3, ht3, hw3⟩
          case measure => simp [intOf]; omega
        · obtain rfl : p2 = 0 := by omega
          obtain ⟨v1, h1, h2, hvr, h4, h5⟩ := HW2.out
          obtain ⟨nn, hnn⟩ : ∃ nn, l2.length = nn := ⟨_, rfl⟩
          rw [hnn] at h2
          have hnl : nn ≤ 1000000 := by rw [← hnn]; exact HL.out
          have c0 : wr.cell? ⟨g, 0, none⟩ = some v1 := (h1.cell 0).trans rfl
          have c1 : wr.cell? ⟨g, 1, none⟩ = some (.int .i64 0) := (h1.cell 1).trans rfl
          have hgl := h1.lt
          have hBw2 := HBw.out
          have HH1 := Lib.hid h1
          have HH2 := Lib.hid h2
          have HVr := Lib.hid hvr
          have HNn := Lib.hid hnn
          have hvg : v1.ownBlock ≠ some g := by rw [hvr]; exact h4
          clear h1 h2 hvr hnn h4
          go_wp2_with (at_builtin; refine wpList_append_lies _ rfl _ _ _ rfl B 5 i5 (.int .u8 0) 1 1 Try.underlying37 hi hz0 hz1 hz2 rfl (by omega) v1 nn (byteCells l2) rfl (HH2.out.alloc _) ⟨wr.heap.size, 0, none⟩ 1 1 [.int .u8 0] rfl rfl (World.news_of_block (heap_alloc_new wr _)) (by simp [Value.oneCell']) (by omega) (by unfold maxLen; omega) (by omega) (by simp; omega) (wr.heap.size + 1) (by simp) ?_; intro kb cap w1 hown1 hgrow hat hlt1; have h1 := (HH1.out.alloc (.cells #[.int .u8 0] 5)).grown hgrow (fun e => hvg e.symm); have f0 : w1.frozen? ⟨g, 0, none⟩ = false := h1.frozen 0; have c10 : w1.cell? ⟨g, 0, none⟩ = some v1 := (h1.cell 0).trans rfl)
          have hkg : kb ≠ g := by
            rcases hat with e | e
            · intro e2; rw [e2] at e; exact hvg e
            · omega
          have hkw : some kb = r2 ∨ wr.heap.size ≤ kb := by
            rcases hat with e | e
            · exact Or.inl (by rw [← HVr.out]; exact e.symm)
            · exact Or.inr (by omega)
          have hcap : nn + 1 ≤ cap ∧ cap ≤ maxLen := by
            rcases hown1.2 with ⟨e, _⟩ | ⟨k', cap', cur, e, _, _, hc, hm, _⟩
            · cases e
            · injection e with _ _ e3; rw [e3]; exact ⟨hc, hm⟩
          obtain ⟨w2, hw2⟩ : ∃ w2, w1.setCell ⟨g, 0, none⟩ (.slice (some ⟨kb, 0, none⟩) (nn + 1) cap) = w2 := ⟨_, rfl⟩
          have h2 : Blk w2 g 71 #[.slice (some ⟨kb, 0, none⟩) (nn + 1) cap, .int .i64 ((0 : Nat) : Int), .int .i64 q] := by rw [← hw2]; exact h1.set_ 0 _
          have hown2 : w2.ownsRow B 5 1 (.slice (some ⟨kb, 0, none⟩) (nn + 1) cap) (nn + 1) (byteCells (l2 ++ [0])) := by
            rw [← hw2, byteCells_append]
            exact ownsRow_setCell_other hown1 (fun e => hkg (by simpa [Value.ownBlock] using e)) _
          have ht2 : Two wr w2 g r2 := by
            rw [← hw2, ← HVr.out]
            exact (((Two.refl wr g v1.ownBlock).alloc _).grown hgrow (Or.inl rfl)).set_ 0 _
          rw [hw2]
          have HL1 := Lib.hid (show (l2 ++ [0]).length = nn + 1 by rw [List.length_append, HNn.out]; rfl)
          have HG : Hid (grow0 l2 0 = l2 ++ [0]) := Lib.hid (by unfold grow0; rw [if_pos rfl])
          have hx : w2.cell? ⟨kb, nn, none⟩ = some (.int .u8 0) := by
            have := hown2.cellAt (j := nn) (by omega)
            rw [this, byteCells_at _ nn (by rw [HL1.out]; omega)]
            have := lastN_grow l2
            rw [HG.out] at this
            unfold lastN at this
            rw [HL1.out] at this
            rw [show nn + 1 - 1 = nn by omega] at this
            rw [this]
            rfl
          have hfz : w2.frozen? ⟨kb, nn, none⟩ = false := hown2.frozenAt _
          have g0 : w2.cell? ⟨g, 0, none⟩ = some (.slice (some ⟨kb, 0, none⟩) (nn + 1) cap) := (h2.cell 0).trans rfl
          have g1 : w2.cell? ⟨g, 1, none⟩ = some (.int .i64 0) := (h2.cell 1).trans rfl
          have g2 : w2.cell? ⟨g, 2, none⟩ = some (.int .i64 q) := (h2.cell 2).trans rfl
          have e1 : w2.frozen? ⟨g, 1, none⟩ = false := h2.frozen 1
          have e2 : w2.frozen? ⟨g, 2, none⟩ = false := h2.frozen 2
          obtain ⟨hcap1, hcap2⟩ := hcap
          unfold maxLen at hcap2
          have HTT := Lib.hid ht2
          have HBB := Lib.hid h2
          have HOO := Lib.hid hown2
          have HA := Lib.hid hkw
          clear hown1 hgrow hat hlt1 h1 f0 c10 hw2 h2 hown2 ht2 hkw c0 c1
          have d1 : (0 : Int) ≤ (nn : Int) := by omega
          have d2 : (nn : Int) < (nn : Int) + 1 := by omega
          go_still_tail 24, (by kernel_rfl)
          try refine wpStill_nil ?_
          go_wp2
          have hsum : lastN (grow0 l2 0) + bitO 1 V m k * 2 ^ plc 1 0 < 256 := (step_all (Or.inl rfl) (by decide) (bitO_lt 1 V m k) (lastN_lt _) (HFk.out.zeros HOk.out)).2.1
          have hval : wrap64 (((V : Int) / 2 ^ k).tmod 2) % 256 = ((lastN (grow0 l2 0) + bitO 1 V m k * 2 ^ plc 1 0 : Nat) : Int) := by
            have h0 := lastN_grow l2
            rw [h0] at hsum ⊢
            have := put_val1 0 V m k 0 (by decide) hV hsum
            simpa using this
          have hlen : (grow0 l2 0).length - 1 = nn := by rw [HG.out, HL1.out]; rfl
          have hw := wr_bit (l := l2) (p := 0) (o := 1) (q := q) (b := bitO 1 V m k) hkg h5 (by rw [HG.out, HL1.out]; exact HBB.out) (by rw [HG.out, HL1.out]; exact HOO.out) hsum
          rw [hlen] at hw
          rw [hval]
          have hfin := Wrote.drewN (n := 1) (Wrote.ord (Wrote.part ⟨some kb, HA.out.imp id (fun e => ⟨kb, rfl, e⟩), hw, HTT.out.row HA.out _ _⟩ 1) 1)
          obtain ⟨r3, hr3, ht3, hw3⟩ := puts_next (f := bitO 1 V m) HR2.out HT2.out rfl (by rw [HL2.out, HP2.out]; exact hfin)
          go_roundw
          case rel => exact ⟨k + 1, r3, 1, by omega, by go_num, by rw [if_pos (by omega)], hr3, ht3, hw3⟩
          case measure => simp [intOf]; omega
      · obtain rfl : k = m := by omega
        go_wp2
        go_ret
        exact put_of R.out.1 R.out.2.1 R.out.2.2.1 (R.out.2.2.2.trans (by rw [HQ.out]; split <;> split <;> omega)) ⟨r2, HR2.out, hw2, HT2.out⟩
end Go.Proofs.Ytkcnhdponcbjaaa
