/-
  predict's recoded over its rows.
-/
import Derived.Test.YticliemmplefoaaPrdR
namespace Go.Proofs.Yticliemmplefoaa
open Go.RowKit Oct Prd Go.Shelf
attribute [local go_sem] Oper.semAt_some
attribute [-go_sem] Builtin.append_

set_option maxRecDepth 100000 in
set_option maxHeartbeats 8000000 in
theorem recoded_rows (s : ByteArray) (l : List UInt8) (pr co cl n q m bf af : Nat) (F : FuncId) (caps : Array Value) (bp ba bn : Nat) (st : Nat → Option (List UInt8 × List UInt8)) (w : World) (hl : s.data.toList = l) (hpr : pr = 2 ∨ 10 ≤ pr ∧ pr ≤ 15) (hok : okP pr co cl = true) (hn : co * cl = n) (hq : bf + n = q) (haf : af ≤ 1) (hbf : bf ≤ 1) (hs : s.size = q * m) (hs2 : s.size ≤ 4000) (hco : co ≤ 8192) (hcl : cl ≤ 8192)
    (hC : Coder w bp ba bn pr co cl (.slice none 0 0) []) (hne : bp ≠ bn ∧ ba ≠ bn) (hin : ∀ (args : Array Value) (W : World), (callFunc F args).run Try.prog W = .ok (.enter F args) W) (h0 : st 0 = some ([], [])) (hR : RowSpec F caps bp ba bn pr co cl q m l st) :
    Calls Try.prog 14 #[parmsV pr co cl, .string s, .int .i64 (bf : Int), .int .i64 (af : Int), .func (.func F) #[] caps] w fun e W' =>
      ((∃ prev all, st m = some (prev, all) ∧ e = .returned (.string ⟨all.toArray⟩)) ∨ ((∃ k, k < m ∧ st (k + 1) = none) ∧ e = gUp 3)) ∧ Two w W' bn none := by
  obtain ⟨_, k1, k2, k3⟩ := okP_iff.1 hok
  have hn1 : 1 ≤ n := by rw [← hn]; exact Nat.mul_pos (by omega) (by omega)
  have hnn : ((co : Int) * (cl : Int)) = (n : Int) := by rw [← hn]; push_cast; rfl
  have hn2 : n ≤ 8192 := by omega
  have hq1 : 1 ≤ q := by omega
  have hmb : m ≤ 4000 := by
    have : 1 * m ≤ q * m := Nat.mul_le_mul_right m hq1
    omega
  have hll : l.length = q * m := by rw [← hl, ← hs]; simp
  obtain ⟨z, hz⟩ : ∃ z, m * (af + n) = z := ⟨_, rfl⟩
  have hzb : z ≤ 8000 := by
    have h1 : n * m ≤ q * m := Nat.mul_le_mul_right m (by omega)
    have h2 : m * (af + n) = m * af + n * m := by rw [Nat.mul_add, Nat.mul_comm m n]
    have h3 : m * af ≤ m * 1 := Nat.mul_le_mul_left m haf
    omega
  have HC := Lib.hid (fun (j : Nat) (W' : World) => callsIn_wide (n := j) |>.2 (checkP_any pr co cl W' (by unfold I64; omega) (by unfold I64; omega) (by unfold I64; omega)))
  rw [chk_yes hok] at HC
  have HRo := Lib.hid (fun (j : Nat) (W' : World) => callsIn_wide (n := j) |>.2 (rowP_any pr co cl W' (by unfold I64; omega) (by unfold I64; omega) (by unfold I64; omega)))
  have hrow : rowN pr co cl = (n : Int) := by unfold rowN; rw [if_pos hok, hnn]
  rw [hrow] at HRo
  have HUp := Lib.hid (fun (j : Nat) (W' : World) => callsIn_wide (n := j) |>.2 (upOn_ok W'))
  unfold parmsV at HC HRo ⊢
  have hp1 : ((pr : Int) == 1) = false := beq_eq_false_iff_ne.2 (by omega)
  have hrem : (s.size : Int).tmod (q : Int) = 0 := by rw [hs]; push_cast; exact Int.mul_tmod_right _ _
  have hquo : (s.size : Int).tdiv (q : Int) = (m : Int) := by rw [hs]; push_cast; exact Int.mul_tdiv_cancel_left _ (by omega)
  have hn0' : ¬ (q : Int) = 0 := by omega
  have hqi : (bf : Int) + (n : Int) = (q : Int) := by omega
  have hzi : (m : Int) * ((af : Int) + (n : Int)) = (z : Int) := by rw [← hz]; push_cast; rfl
  obtain ⟨N, hN⟩ : ∃ N, w.heap.size = N := ⟨_, rfl⟩
  have HLl := Lib.hid hll
  have HLs := Lib.hid hl
  have HS := Lib.hid hs
  have HCo := Lib.hid hC
  have H0 := Lib.hid h0
  have HSp := Lib.hid hR
  have HNE := Lib.hid hne
  clear hok hrow hnn hn hpr k1 k2 k3 hll hl hs hz hC h0 hR hne
  refine (callsIn_wide (n := 6)).1 ?_
  refine calls_at Try.func14 rfl ?_
  simp only [Try.ntmps14, List.size_toArray, List.length_cons, List.length_nil, Nat.reduceAdd, Nat.reduceSub, Array.replicate_succ, Array.replicate_zero, List.push_toArray, List.append_toArray, List.nil_append, List.cons_append]
  obtain ⟨V, hV⟩ : ∃ V, (w.alloc (.cells #[.int .i64 (pr : Int), .int .i64 (co : Int), .int .i64 (cl : Int)] 23)).alloc (.cells #[.func (.func F) #[] caps] 37) = V := ⟨_, rfl⟩
  have hVs : V.heap.size = N + 2 := by rw [← hV, World.size_alloc, World.size_alloc, hN]
  have bV0 : Blk V N 23 #[.int .i64 (pr : Int), .int .i64 (co : Int), .int .i64 (cl : Int)] := by
    rw [← hV, ← hN]
    exact (Blk.new w _ _).alloc _
  have bV1 : Blk V (N + 1) 37 #[.func (.func F) #[] caps] := by
    rw [← hV]
    have := Blk.new (w.alloc (.cells #[.int .i64 (pr : Int), .int .i64 (co : Int), .int .i64 (cl : Int)] 23)) 37 #[.func (.func F) #[] caps]
    rw [World.size_alloc, hN] at this
    exact this
  have HBV := Lib.hid (show Below N w V by rw [← hV, ← hN]; exact ((Below.refl _ w).alloc (Nat.le_refl _) _).alloc (by simp) _)
  have B0 := Lib.hid bV0
  have B1 := Lib.hid bV1
  have v0 := bV0.cell 0
  have v1 := bV0.cell 1
  have v2 := bV0.cell 2
  simp only [List.getElem?_toArray, List.getElem?_cons_zero, List.getElem?_cons_succ] at v0 v1 v2
  clear bV0 bV1
  have hmx : Try.prog.follows .mixedOrders = true := by kernel_rfl
  refine wpAt_seq fun K hK => wpAt_of ?_
  gi_wp2
  refine wpAt_seq fun K hK => wpAt_of ?_
  gi_wp2
  refine ⟨trivial, (HC.out _ _).mono ?_⟩
  rintro e w1 ⟨rfl, hb⟩
  have HB1 := Lib.hid (HBV.out.trans (hb.mono (by omega)))
  have HS1 := Lib.hid (show N + 2 ≤ w1.heap.size by have := hb.size; omega)
  have C0 := Lib.hid (B0.out.below hb B0.out.lt)
  have C1 := Lib.hid (B1.out.below hb B1.out.lt)
  have u0 := C0.out.cell 0
  have u1 := C0.out.cell 1
  have u2 := C0.out.cell 2
  simp only [List.getElem?_toArray, List.getElem?_cons_zero, List.getElem?_cons_succ] at u0 u1 u2
  clear hb v0 v1 v2 hV hVs
  gi_wp2
  refine ⟨trivial, (HUp.out _ _).mono ?_⟩
  rintro e w2 ⟨rfl, rfl⟩
  gi_wp2
  refine wpAt_seq fun K hK => wpAt_of ?_
  gi_wp2
  refine wpAt_seq fun K hK => wpAt_of ?_
  gi_wp2
  refine wpAt_seq fun K hK => wpAt_of ?_
  gi_wp2
  refine ⟨trivial, (HRo.out _ _).mono ?_⟩
  rintro e w2 ⟨rfl, hb⟩
  have HB2 := Lib.hid (HB1.out.trans (hb.mono (by have := HS1.out; omega)))
  have HS2 := Lib.hid (show N + 2 ≤ w2.heap.size by have := hb.size; have := HS1.out; omega)
  have D0 := Lib.hid (C0.out.below hb C0.out.lt)
  have D1 := Lib.hid (C1.out.below hb C1.out.lt)
  have v0 := D0.out.cell 0
  have v1 := D0.out.cell 1
  have v2 := D0.out.cell 2
  simp only [List.getElem?_toArray, List.getElem?_cons_zero, List.getElem?_cons_succ] at v0 v1 v2
  clear hb u0 u1 u2
  obtain ⟨y, hy⟩ : ∃ y, af + n = y := ⟨_, rfl⟩
  have hw1 : IntKind.i64.wrap ((af : Int) + (n : Int)) = (y : Int) := by rw [show (af : Int) + (n : Int) = (y : Int) by omega]; exact IntWalk.i64_in _ (by omega)
  have hw2 : IntKind.i64.wrap ((m : Int) * (y : Int)) = (z : Int) := by
    rw [show (m : Int) * (y : Int) = (z : Int) by rw [← hzi, ← hy]; push_cast; rfl]
    exact IntWalk.i64_in _ (by omega)
  have hz2 : ¬ (1048576 : Int) < (z : Int) := by omega
  clear hy hzi
  gi_wp2
  refine wpAt_seq fun K hK => wpAt_of ?_
  gi_wp2
  refine wpAt_seq fun K hK => wpAt_of ?_
  gi_cut [12] from 36 (fun v wc => v = .int .i64 (z : Int) ∧ Hid (Below w2.heap.size w2 wc))
  case first =>
    as_aux_lemma =>
      refine wpIn_calm ?_
      gi_region_with_o (refine ⟨trivial, ?_⟩; gi_at_call 10; refine (HRo.out _ _).mono ?_; rintro e w3 ⟨rfl, hb⟩)
      all_goals
        have HX := Lib.hid (((Below.refl _ w2).drew).trans hb)
        clear hb
        gi_wp2
        gi_meet
        exact ⟨rfl, HX⟩
  case rest =>
    obtain ⟨rfl, HB3'⟩ := hcut
    gi_wp2
    refine wpAt_seq fun K hK => wpAt_of ?_
    gi_wp2
    refine wpAt_seq fun K hK => wpAt_of ?_
    obtain ⟨X, hX⟩ : ∃ X, wc.heap.size = X := ⟨_, rfl⟩
    obtain ⟨i5, hi, hz0, hz1, hzz2⟩ := info_parts binfo
    have hmk := run_make (P := Try.prog) wc 42 5 i5 (.int .u8 0) Try.underlying42 hi hz0 .i64 .i64 0 (z : Int) (by omega) (by omega) (by rw [hzz2]; omega) (by omega)
    rw [hX, Int.toNat_natCast, Int.toNat_zero] at hmk
    obtain ⟨M0, hM0⟩ : ∃ M0 : Array Value, madeCells (Value.int .u8 0).cells (z * i5.size) = M0 := ⟨_, rfl⟩
    have hM0s : M0.size = z := by rw [← hM0, size_madeCells, hz1, Nat.mul_one]
    rw [hM0] at hmk
    gi_wp2
    refine wpAt_seq fun K hK => ?_
    refine wpAt_seq fun K2 hK2 => wpAt_of ?_
    obtain ⟨W3, hW3⟩ : ∃ W3, (wc.alloc (.cells M0 5)).alloc (.cells #[.slice (some ⟨X, 0, none⟩) 0 z] 42) = W3 := ⟨_, rfl⟩
    have hs3 : W3.heap.size = X + 2 := by rw [← hW3, World.size_alloc, World.size_alloc, hX]
    obtain ⟨cap, fr, hcap, hcv⟩ := conv_at2 s W3
    rw [hs3] at hcv
    have hq1' := hq1
    have HCH := Lib.hid (fun (j : Nat) (sv : Value) (W' : World) (hv : ∃ A N C, sv = .slice A N C) => chunk_in j sv q W' hq1 hv)
    rw [hW3]
    clear hmk
    gi_wp2
    refine ⟨trivial, (HCH.out _ _ _ ⟨_, _, _, rfl⟩).mono ?_⟩
    rintro e w4 ⟨rfl, rfl⟩
    gi_wp2
    refine wpAt_block (fun _ _ _ h => h) (fun _ _ _ h => h) ?_
    refine range_at2 (gf := 36) rfl (enters_of Try.func36 (by kernel_rfl) rfl) ?_
    obtain ⟨W5, hW5⟩ : ∃ W5, (((W3.alloc (.cells (bytesRow s cap) 5 fr)).alloc (.cells #[.slice (some ⟨X + 2, 0, none⟩) s.size cap] 42)).alloc (.cells #[.int .i64 (q : Int)] 3)).drew = W5 := ⟨_, rfl⟩
    have hs5 : W5.heap.size = X + 5 := by
      rw [← hW5]
      show (((W3.alloc (.cells (bytesRow s cap) 5 fr)).alloc (.cells #[.slice (some ⟨X + 2, 0, none⟩) s.size cap] 42)).alloc (.cells #[.int .i64 (q : Int)] 3)).heap.size = _
      rw [World.size_alloc, World.size_alloc, World.size_alloc, hs3]
    have HRS : ∀ o, RecSt w ((W5.alloc (.deferred (some []))).alloc o) F caps bp ba bn pr co cl q m X cap s 0 (.slice none 0 0) (.slice (some ⟨X, 0, none⟩) 0 z) [] [] := fun o => by
      have := RecSt.start (w := w) (wc := wc) (z := z) (cap := cap) (s := s) (M0 := M0) (fr := fr) (q := q) (m := m) o (by rw [hN]; exact HB2.out.trans (HB3'.out.mono (by have := HS2.out; omega))) HCo.out HNE.out (by rw [hN]; exact D1.out.below HB3'.out D1.out.lt) hM0s (by omega) HS.out
      rw [hX] at this
      rw [← hW5, ← hW3]
      exact this
    rw [hW5, hs5]
    clear hcv hW5 hW3 hM0 hw1 hw2 v0 v1 v2
    intro rc hRc
    have hrc0 : ((W5.alloc (.deferred (some []))).alloc (.loop rc)).heap[X + 6]? = some (.loop rc) := by
      have h6 := alloc_at (W5.alloc (.deferred (some []))) (.loop rc)
      rw [World.size_alloc, hs5] at h6
      exact h6
    have hqm : q * m ≤ cap := by rw [← HS.out]; exact hcap
    show CallsIn Fence.wide 5 Try.prog _ #[.func (.yield (X + 6)) #[] #[], .pointer (some ⟨X + 3, 0, none⟩), .pointer (some ⟨X + 4, 0, none⟩)] _ _
    refine (chunks_in 5 (by omega) (X + 6) (X + 3) (X + 4) (X + 2) cap q m hq1 hqm (by have := HS.out; omega)
      (fun k W => ∃ pv ov prev all, st k = some (prev, all) ∧ RecSt w W F caps bp ba bn pr co cl q m X cap s k pv ov prev all ∧ W.heap[X + 6]? = some (.loop rc))
      (fun ch W => gUp 3 = .panicked ch ∧ (∃ k, k < m ∧ st (k + 1) = none) ∧ Two w W bn none ∧ W.heap[X + 5]? = some (.deferred (some []))) _ ?cell ?draw ?yield ⟨_, _, _, _, H0.out, HRS _, hrc0⟩).mono ?_
    case cell =>
      rintro k W ⟨pv, ov, prev, all, _, hR, _⟩
      exact ⟨hR.bs.cell 0, hR.bq.cell 0⟩
    case draw =>
      rintro k W d ⟨pv, ov, prev, all, h1, hR, h2⟩
      exact ⟨pv, ov, prev, all, h1, hR.drewN d, h2⟩
    case yield =>
      rintro k W hk ⟨pv, ov, prev, all, hst, hR, hrec⟩
      have HR := Lib.hid hR
      have HST := Lib.hid hst
      have HREC := Lib.hid hrec
      have HRW := Lib.hid (show IsRow W (.slice (some ⟨X + 2, q * k, none⟩) q q) (rowR q l k) by
        obtain ⟨fr2, hd⟩ := hR.data
        exact row_chunk hd HLs.out HLl.out hk)
      obtain ⟨qk, hqk⟩ : ∃ qk, q * k = qk := ⟨_, rfl⟩
      rw [hqk] at HRW ⊢
      have HQK := Lib.hid hqk
      clear hR hst hqk
      refine yield_pan3 trivial Try.func14 hRc hrec rfl fun rb => ?_
      clear hrec hRc
      simp only [List.zip_toArray, List.zip_cons_cons, List.zip_nil_left]
      gi_wp2
      refine ⟨trivial, wpIn_block ?_⟩
      have hR := HR.out
      have hrec := HREC.out
      obtain ⟨Wb, hWb⟩ : ∃ Wb, W.putObj (X + 6) (.loop rb) = Wb := ⟨_, rfl⟩
      have hRb := hR.putObj hrec (.loop rb)
      have hrb := put_at hrec (.loop rb)
      have hRWb := HRW.out.putObj hrec (.loop rb)
      rw [hWb] at hRb hrb hRWb ⊢
      have cO := hRb.box.cell 0
      have cF := hRb.fn.cell 0
      rw [hN] at cF
      simp only [List.getElem?_toArray, List.getElem?_cons_zero] at cO cF
      have hspec := HSp.out (X + 2) k prev all pv Wb.drew hk HST.out (hRb.drewN 1).coder (by rw [HQK.out]; exact hRWb.drewN 1)
      rw [HQK.out] at hspec
      have hfew : all.length ≤ 8000 := by
        have h1 := hRb.few
        have h2 : (q + 1) * k ≤ (q + 1) * m := Nat.mul_le_mul_left _ (by omega)
        have h3 : (q + 1) * m = q * m + m := by rw [Nat.add_mul, Nat.one_mul]
        have := HS.out
        omega
      have hq9 : q ≤ 8193 := by omega
      clear hR hrec hWb hRWb HR HREC HRW
      by_cases hst1 : st (k + 1) = none
      · have HCALL := Lib.hid (show Calls Try.prog F (#[.slice (some ⟨X + 2, qk, none⟩) q q] ++ caps) Wb.drew fun e w5 => e = gUp 3 ∧ Two w w5 bn none ∧ w5.heap[X + 5]? = some (.deferred (some [])) from by
          refine hspec.mono ?_
          rintro e w5 (⟨prev', x, pv', h1, _⟩ | ⟨_, rfl, hT⟩)
          · rw [hst1] at h1
            cases h1
          · have hT0 : Two w Wb.drew bn none := hRb.frame.drewN 1
            have hl5 := hRb.low
            have hsz := hRb.size
            have h5 : Wb.drew.heap[X + 5]? = some (.deferred (some [])) := hRb.dd
            exact ⟨rfl, hT0.trans hT (.inl rfl), (hT.block (X + 5) (by show X + 5 < Wb.heap.size; omega) (by omega) (by simp)).trans h5⟩)
        clear hspec hRb hrb
        refine wpIn_region_any hmx ?_
        refine wpAnyIn_ready (rs := [0, 1, 2]) (by decide +kernel) (by simp) ?_
        refine AllReadyIn.cons rfl (fun K hK => ?_) (AllReadyIn.cons rfl (fun K hK => ?_) (AllReadyIn.cons rfl (fun K hK => ?_) AllReadyIn.nil))
        · go_simp
          refine hK _ _ ?_
          clear hK
          refine wpAnyIn_ready (rs := [1, 2]) (by decide +kernel) (by simp) ?_
          refine AllReadyIn.cons rfl (fun K hK => ?_) (AllReadyIn.cons rfl (fun K hK => ?_) AllReadyIn.nil)
          · go_simp
            refine hK _ _ ?_
            clear hK
            refine wpAnyIn_ready (rs := [2]) (by decide +kernel) (by simp) ?_
            refine AllReadyIn.cons rfl (fun K hK => ?_) AllReadyIn.nil
            · go_simp
              refine hK _ _ ?_
              clear hK
              refine wpAnyIn_ready (rs := [3]) (by decide +kernel) (by simp) ?_
              refine AllReadyIn.cons rfl (fun K hK => ?_) AllReadyIn.nil
              · go_simp
                refine ⟨trivial, (CallsIn.inRound (X + 6) (callsIn_wide.2 HCALL.out)).mono ?_⟩
                rintro e w5 ⟨rfl, h1, h2⟩
                exact ⟨rfl, ⟨k, hk, hst1⟩, h1, h2⟩
          · go_simp
            refine hK _ _ ?_
            clear hK
            refine wpAnyIn_ready (rs := [1]) (by decide +kernel) (by simp) ?_
            refine AllReadyIn.cons rfl (fun K hK => ?_) AllReadyIn.nil
            · go_simp
              refine hK _ _ ?_
              clear hK
              refine wpAnyIn_ready (rs := [3]) (by decide +kernel) (by simp) ?_
              refine AllReadyIn.cons rfl (fun K hK => ?_) AllReadyIn.nil
              · go_simp
                refine ⟨trivial, (CallsIn.inRound (X + 6) (callsIn_wide.2 HCALL.out)).mono ?_⟩
                rintro e w5 ⟨rfl, h1, h2⟩
                exact ⟨rfl, ⟨k, hk, hst1⟩, h1, h2⟩
        · go_simp
          refine hK _ _ ?_
          clear hK
          refine wpAnyIn_ready (rs := [0, 2]) (by decide +kernel) (by simp) ?_
          refine AllReadyIn.cons rfl (fun K hK => ?_) (AllReadyIn.cons rfl (fun K hK => ?_) AllReadyIn.nil)
          · go_simp
            refine hK _ _ ?_
            clear hK
            refine wpAnyIn_ready (rs := [2]) (by decide +kernel) (by simp) ?_
            refine AllReadyIn.cons rfl (fun K hK => ?_) AllReadyIn.nil
            · go_simp
              refine hK _ _ ?_
              clear hK
              refine wpAnyIn_ready (rs := [3]) (by decide +kernel) (by simp) ?_
              refine AllReadyIn.cons rfl (fun K hK => ?_) AllReadyIn.nil
              · go_simp
                refine ⟨trivial, (CallsIn.inRound (X + 6) (callsIn_wide.2 HCALL.out)).mono ?_⟩
                rintro e w5 ⟨rfl, h1, h2⟩
                exact ⟨rfl, ⟨k, hk, hst1⟩, h1, h2⟩
          · go_simp
            refine hK _ _ ?_
            clear hK
            refine wpAnyIn_ready (rs := [0, 3]) (by decide +kernel) (by simp) ?_
            refine AllReadyIn.cons rfl (fun K hK => ?_) (AllReadyIn.cons rfl (fun K hK => ?_) AllReadyIn.nil)
            · go_simp
              refine hK _ _ ?_
              clear hK
              refine wpAnyIn_ready (rs := [3]) (by decide +kernel) (by simp) ?_
              refine AllReadyIn.cons rfl (fun K hK => ?_) AllReadyIn.nil
              · go_simp
                refine ⟨trivial, (CallsIn.inRound (X + 6) (callsIn_wide.2 HCALL.out)).mono ?_⟩
                rintro e w5 ⟨rfl, h1, h2⟩
                exact ⟨rfl, ⟨k, hk, hst1⟩, h1, h2⟩
            · go_simp
              refine ⟨trivial, (CallsIn.inRound (X + 6) (callsIn_wide.2 HCALL.out)).mono ?_⟩
              rintro e w5 ⟨rfl, h1, h2⟩
              exact ⟨rfl, ⟨k, hk, hst1⟩, h1, h2⟩
        · go_simp
          refine hK _ _ ?_
          clear hK
          refine wpAnyIn_ready (rs := [0, 1]) (by decide +kernel) (by simp) ?_
          refine AllReadyIn.cons rfl (fun K hK => ?_) (AllReadyIn.cons rfl (fun K hK => ?_) AllReadyIn.nil)
          · go_simp
            refine hK _ _ ?_
            clear hK
            refine wpAnyIn_ready (rs := [1]) (by decide +kernel) (by simp) ?_
            refine AllReadyIn.cons rfl (fun K hK => ?_) AllReadyIn.nil
            · go_simp
              refine hK _ _ ?_
              clear hK
              refine wpAnyIn_ready (rs := [3]) (by decide +kernel) (by simp) ?_
              refine AllReadyIn.cons rfl (fun K hK => ?_) AllReadyIn.nil
              · go_simp
                refine ⟨trivial, (CallsIn.inRound (X + 6) (callsIn_wide.2 HCALL.out)).mono ?_⟩
                rintro e w5 ⟨rfl, h1, h2⟩
                exact ⟨rfl, ⟨k, hk, hst1⟩, h1, h2⟩
          · go_simp
            refine hK _ _ ?_
            clear hK
            refine wpAnyIn_ready (rs := [0, 3]) (by decide +kernel) (by simp) ?_
            refine AllReadyIn.cons rfl (fun K hK => ?_) (AllReadyIn.cons rfl (fun K hK => ?_) AllReadyIn.nil)
            · go_simp
              refine hK _ _ ?_
              clear hK
              refine wpAnyIn_ready (rs := [3]) (by decide +kernel) (by simp) ?_
              refine AllReadyIn.cons rfl (fun K hK => ?_) AllReadyIn.nil
              · go_simp
                refine ⟨trivial, (CallsIn.inRound (X + 6) (callsIn_wide.2 HCALL.out)).mono ?_⟩
                rintro e w5 ⟨rfl, h1, h2⟩
                exact ⟨rfl, ⟨k, hk, hst1⟩, h1, h2⟩
            · go_simp
              refine ⟨trivial, (CallsIn.inRound (X + 6) (callsIn_wide.2 HCALL.out)).mono ?_⟩
              rintro e w5 ⟨rfl, h1, h2⟩
              exact ⟨rfl, ⟨k, hk, hst1⟩, h1, h2⟩
      · have HCALL := Lib.hid (show Calls Try.prog F (#[.slice (some ⟨X + 2, qk, none⟩) q q] ++ caps) Wb.drew fun e w5 => ∃ xv g cap' W6 prev' x pv', e = .returned xv ∧ Hid (st (k + 1) = some (prev', all ++ x)) ∧ Sem.run Try.prog (Builtin.append_ #[42, 42] 42 #[ov, xv]) w5 = .ok (.slice (some ⟨g, 0, none⟩) (all ++ x).length cap') W6 ∧ w5.cell? ⟨X + 1, 0, none⟩ = some ov ∧ W6.cell? ⟨X + 1, 0, none⟩ = some ov ∧ W6.frozen? ⟨X + 1, 0, none⟩ = false ∧
              Hid (RecSt w (W6.setCell ⟨X + 1, 0, none⟩ (.slice (some ⟨g, 0, none⟩) (all ++ x).length cap')) F caps bp ba bn pr co cl q m X cap s (k + 1) pv' (.slice (some ⟨g, 0, none⟩) (all ++ x).length cap') prev' (all ++ x)) ∧ Hid ((W6.setCell ⟨X + 1, 0, none⟩ (.slice (some ⟨g, 0, none⟩) (all ++ x).length cap')).heap[X + 6]? = some (.loop rb)) from by
          refine hspec.mono ?_
          rintro e w5 (⟨prev', x, pv', h1, h2, h3, G, o, C, rfl, _, _, hxr, hT, hbx, hp, hpa⟩ | ⟨h1, _⟩)
          · obtain ⟨g, cap', W6, r1, r2, r3, r4, r5, r6⟩ := (hRb.drewN 1).step (x := x) hT hxr hbx hp (fun A n C e => hpa A n C e) h2 h3 (by omega)
            exact ⟨_, g, cap', W6, prev', x, pv', rfl, Lib.hid h1, r1, r2, r3, r4, Lib.hid r5, Lib.hid (r6 rb hrb)⟩
          · exact absurd h1 hst1)
        clear hspec hRb hrb hst1
        refine wpIn_mono (Q := Exit.then (fun _ w2 => w2.heap[X + 6]? = some (.loop rb) ∧ ∃ pv ov prev all, st (k + 1) = some (prev, all) ∧ RecSt w (w2.putObj (X + 6) (.loop rc)) F caps bp ba bn pr co cl q m X cap s (k + 1) pv ov prev all) (fun _ _ _ => False)) ?_ ?_
        · obtain ⟨fargs, hfa⟩ : ∃ fargs, (#[.slice (some ⟨X + 2, qk, none⟩) q q] ++ caps : Array Value) = fargs := ⟨_, rfl⟩
          rw [hfa] at HCALL
          gi_region_with_o (refine ⟨trivial, ?_⟩; refine (CallsIn.inRound (X + 6) (callsIn_wide.2 HCALL.out)).mono ?_; rintro e w5 ⟨xv, g, cap', W6, prev', x, pv', rfl, hst', hrun, hc5, hc6, hf6, HRS, HRL⟩)
          all_goals gi_wp2
          all_goals
            have hla : (all ++ x).length = all.length + x.length := List.length_append
            have h1 := HRS.out
            have h2 := HRL.out
            rw [hla] at h1 h2
            exact ⟨h2, pv', _, prev', _, hst'.out, h1.putObj h2 _⟩
        · intro e a w2 h
          cases e with
          | normal => exact ⟨h.1, .inl ⟨trivial, by
              obtain ⟨pv, ov, prev, all, h1, h2⟩ := h.2
              exact ⟨pv, ov, prev, all, h1, h2, put_at h.1 _⟩⟩⟩
          | ret => exact h.elim
          | exit id => exact h.elim
          | goto t => exact h.elim
          | panic c => exact h.elim
          | outgrown => exact h.elim
    rintro e w3 (⟨v, rfl, pv, ov, prev, all, hst, hR, hrec⟩ | ⟨ch, rfl, hch, hbad, htwo, hd⟩)
    · refine .inl ⟨v, rfl, hrec, fun o => hK _ _ (wpAt_of ?_)⟩
      have HRz := Lib.hid (hR.putObj hrec o)
      obtain ⟨Wz, hWz⟩ : ∃ Wz, w3.putObj (X + 6) o = Wz := ⟨_, rfl⟩
      show Code.wpIn _ _ _ _ _ _ (w3.putObj (X + 6) o)
      rw [hWz] at HRz ⊢
      have hc := HRz.out.box.cell 0
      simp only [List.getElem?_toArray, List.getElem?_cons_zero] at hc
      have hcv2 := conv_back HRz.out.own
      clear hRc hrec hR
      gi_wp2
      refine ⟨by simp, .inl ⟨X + 5, _, rfl, run_takeDeferred HRz.out.dd, ?_⟩⟩
      exact ⟨_, results_tmp rfl _ _ _, .inl ⟨prev, all, hst, rfl⟩, two_put HRz.out.frame (by have := HRz.out.low; omega)⟩
    · refine .inr ⟨ch, rfl, ?_⟩
      refine ⟨by simp, .inl ⟨X + 5, _, rfl, run_takeDeferred hd, ?_⟩⟩
      exact ⟨.inr ⟨hbad, hch.symm⟩, two_put htwo (by have := (HRS (.loop rc)).low; omega)⟩
end Go.Proofs.Yticliemmplefoaa
