/-
  The document's Decode, walked over its rows.
-/
import Derived.Test.YthdjocbpnmjbgaaPrdH
namespace Go.Proofs.Ythdjocbpnmjbgaa
open Go.RowKit Oct Prd
attribute [-go_sem] Builtin.append_

/-- Appending a row that a call has made, which is then the row before. -/
theorem EncSt.more2 {M n2 : Nat} {W wx wy : World} {pv rv ov lv : Value} {prev row o x : List UInt8} (h : EncSt M W wx pv rv ov prev row o) (hb : Below wx.heap.size wx wy) (hx : wy.ownsRow wx.heap.size 5 1 lv n2 (bC x)) (hx0 : 0 < x.length) (ho : o.length + x.length ≤ 1000000) :
    ∃ g cap wz, Sem.run Try.prog (Builtin.append_ #[43, 43] 43 #[ov, lv]) wy = .ok (.slice (some ⟨g, 0, none⟩) (o ++ x).length cap) wz ∧
      EncSt M W wz lv lv (.slice (some ⟨g, 0, none⟩) (o ++ x).length cap) x x (o ++ x) := by
  have h2 := h.then_below hb
  have hap : Apart wy lv ov := fun A n C e => by
    subst e
    have h3 := hx.lt A.block rfl
    refine ⟨h3.2, fun e2 => ?_⟩
    have := (h.out.lt _ e2).2
    omega
  have h4 : EncSt M W wy lv lv ov x x o := ⟨h2.low, h2.base, h2.out, IsRow.own hx, IsRow.own hx, hap, hap⟩
  obtain ⟨g, cap, wz, h5, h6, h7, h8⟩ := app_row wy M ov lv o x h4.out (IsRow.own hx) hx0 (by omega) h4.base
  exact ⟨g, cap, wz, h5, h4.then_append h7 h6 h8⟩
/-- Appending one byte to a row of the call's own: behind the byte's making. -/
theorem app_byte (W : World) (M : Nat) (v : Value) (o : List UInt8) (b : UInt8) (ho : W.ownsRow M 5 1 v o.length (bC o)) (hb : o.length ≤ 1000000) (hM : M ≤ W.heap.size) :
    ∃ g cap W', Sem.run Try.prog (Builtin.append_ #[43, 43] 43 #[v, .slice (some ⟨W.heap.size, 0, none⟩) 1 1]) (W.alloc (.cells #[.int .u8 (b.toNat : Int)] 5)).drew = .ok (.slice (some ⟨g, 0, none⟩) (o ++ [b]).length cap) W' ∧
      W'.ownsRow M 5 1 (.slice (some ⟨g, 0, none⟩) (o ++ [b]).length cap) (o ++ [b]).length (bC (o ++ [b])) ∧ (∀ w, Below M w W → Below M w W') := by
  have hr : IsRow (W.alloc (.cells #[.int .u8 (b.toNat : Int)] 5)).drew (.slice (some ⟨W.heap.size, 0, none⟩) 1 1) [b] := by
    refine ⟨some ⟨W.heap.size, 0, none⟩, 1, rfl, fun j hj => ⟨W.heap.size, 0, rfl, ?_⟩⟩
    obtain rfl : j = 0 := by simpa using hj
    exact (Blk.new W 5 #[.int .u8 (b.toNat : Int)]).cell 0
  have hs : W.heap.size ≤ (W.alloc (.cells #[.int .u8 (b.toNat : Int)] 5)).drew.heap.size := by
    show W.heap.size ≤ (W.alloc _).heap.size
    rw [World.size_alloc]
    omega
  obtain ⟨g, cap, W', h1, h2, h3, h4⟩ := app_row (W.alloc (.cells #[.int .u8 (b.toNat : Int)] 5)).drew M v _ o [b] ((ho.alloc _).drew) hr (by simp) (by simp; omega) (by omega)
  exact ⟨g, cap, W', h1, h2, fun w hw => ((hw.alloc hM _).drew).grown h3 (by omega) (fun k hk => (ho.lt k hk).1)⟩
theorem dec_next {pr co q : Nat} {l prev o : List UInt8} {j T : Nat} {d : List UInt8} (h : decR pr co q l j = some (prev, o)) (hT : tagIn pr (rowR q l j) = T) (hT5 : T < 5) (hd : (rowR q l j).drop (tgs pr) = d) : decR pr co q l (j + 1) = some (backR T prev co [] d, o ++ backR T prev co [] d) := by
  rw [decR, h]
  simp only [hT, hd]
  rw [if_neg (by omega)]
theorem dec_stop {pr co q : Nat} {l prev o : List UInt8} {j m T : Nat} (h : decR pr co q l j = some (prev, o)) (hT : tagIn pr (rowR q l j) = T) (hT5 : 4 < T) (hj : j < m) : decR pr co q l m = none := by
  refine decR_none (k := j + 1) ?_ m hj
  rw [decR, h]
  simp only [hT]
  rw [if_pos hT5]

set_option maxRecDepth 100000 in
set_option maxHeartbeats 8000000 in
theorem decD_rows (s : ByteArray) (l : List UInt8) (pr co cl n q m : Nat) (x : Int) (r : List UInt8) (w : World) (hl : s.data.toList = l) (hpr : pr = 2 ∨ 10 ≤ pr ∧ pr ≤ 15) (hok : okP pr co cl = true) (hn : co * cl = n) (hq : n + tgs pr = q) (hs : s.size = q * m) (hs2 : s.size ≤ 4000) (hco : co ≤ 8192) (hcl : cl ≤ 8192) (hF : decRes (decR pr co q l m) = (x, r)) :
    Calls Try.prog 11 #[parmsV pr co cl, .string s] w fun e w' => e = .returned (.tuple #[.string ⟨r.toArray⟩, .int .i64 x]) ∧ Below w.heap.size w w' := by
  obtain ⟨_, k1, k2, k3⟩ := okP_iff.1 hok
  have hn1 : 1 ≤ n := by rw [← hn]; exact Nat.mul_pos (by omega) (by omega)
  have hc1 : 1 ≤ co := by omega
  have hnn : ((co : Int) * (cl : Int)) = (n : Int) := by rw [← hn]; push_cast; rfl
  have hn2 : n ≤ 8192 := by omega
  have hq1 : 1 ≤ q := by omega
  have hmb : m ≤ 4000 := by
    have : 1 * m ≤ q * m := Nat.mul_le_mul_right m hq1
    omega
  have hll : l.length = q * m := by rw [← hl, ← hs]; simp
  have hB := parms_blk w (pr : Int) (co : Int) (cl : Int)
  have HB1 := Lib.hid ((Below.refl w.heap.size w).alloc (Nat.le_refl _) (.cells #[.int .i64 pr, .int .i64 co, .int .i64 cl] 23))
  obtain ⟨W0, hW⟩ : ∃ W, w.alloc (.cells #[.int .i64 pr, .int .i64 co, .int .i64 cl] 23) = W := ⟨_, rfl⟩
  obtain ⟨N, hN⟩ : ∃ N, w.heap.size = N := ⟨_, rfl⟩
  have hWs : W0.heap.size = N + 1 := by rw [← hW, World.size_alloc, hN]
  have HN := Lib.hid hN
  rw [hN, hW] at hB HB1
  rw [hN]
  have HBk := Lib.hid hB
  have c0 := hB.cell 0
  have c1 := hB.cell 1
  have c2 := hB.cell 2
  simp only [List.getElem?_toArray, List.getElem?_cons_zero, List.getElem?_cons_succ] at c0 c1 c2
  have HC := Lib.hid (fun W' : World => checkD_any pr co cl W' (by unfold I64; omega) (by unfold I64; omega) (by unfold I64; omega))
  rw [chk_yes hok] at HC
  have HRo := Lib.hid (fun W' : World => rowD_any pr co cl W' (by unfold I64; omega) (by unfold I64; omega) (by unfold I64; omega))
  have hrow : rowN pr co cl = (n : Int) := by unfold rowN; rw [if_pos hok, hnn]
  rw [hrow] at HRo
  unfold parmsV at HC HRo ⊢
  have hp1 : ((pr : Int) == 1) = false := beq_eq_false_iff_ne.2 (by omega)
  have hrem : (s.size : Int).tmod (q : Int) = 0 := by rw [hs]; push_cast; exact Int.mul_tmod_right _ _
  have hn0' : ¬ (q : Int) = 0 := by omega
  have HLl := Lib.hid hll
  have HLs := Lib.hid hl
  have HS := Lib.hid hs
  have HF := Lib.hid hF
  have hcase : (pr = 2 ∧ tgs pr = 0) ∨ (¬ pr = 2 ∧ tgs pr = 1) := by unfold tgs; split <;> omega
  clear hB hok hrow hnn hn k1 k2 k3 hll hl hs hF
  rcases hcase with ⟨hc, htg⟩ | ⟨hc, htg⟩
  · have p1 : ¬ (2 : Int) < (pr : Int) := by omega
    have hpr10 : pr < 10 := by omega
    obtain rfl : n = q := by omega
    have HTg := Lib.hid htg
    have HP10 := Lib.hid hpr10
    have htg2 : tgs pr ≤ 1 := by omega
    clear hc hpr hq hpr10
    go_enter Try.func11, Try.ntmps11
    go_wp2_with fail
    refine (HC.out _).mono ?_
    rintro e w1 ⟨rfl, hb⟩
    have HB2 := Lib.hid (HB1.out.trans (hb.mono (by omega)))
    have hBk1 := HBk.out.below hb HBk.out.lt
    have HBk1 := Lib.hid hBk1
    have d0 := hBk1.cell 0
    have d1 := hBk1.cell 1
    have d2 := hBk1.cell 2
    simp only [List.getElem?_toArray, List.getElem?_cons_zero, List.getElem?_cons_succ] at d0 d1 d2
    have HZ1 : Hid (N + 1 ≤ w1.heap.size) := Lib.hid (by have := hb.size; omega)
    clear hb hBk1 hW
    go_wp2_with fail
    refine (HRo.out _).mono ?_
    rintro e w2 ⟨rfl, hb⟩
    have HB3 := Lib.hid (HB2.out.trans (hb.mono (by have := HZ1.out; omega)))
    have HBk2 := Lib.hid (HBk1.out.below hb HBk1.out.lt)
    have HZ2 : Hid (N + 1 ≤ w2.heap.size) := Lib.hid (by have := hb.size; have := HZ1.out; omega)
    have e0 := HBk2.out.cell 0
    simp only [List.getElem?_toArray, List.getElem?_cons_zero] at e0
    clear hb d0 d1 d2
    go_wp2_with fail
    clear e0
    go_loopw [8, 9, 10] (fun pv ov av wr => ∃ (j a : Nat) (prev o : List UInt8), j ≤ m ∧ av = .int .i64 (a : Int) ∧ Hid (n * j = a) ∧ Hid (decR pr co n l j = some (prev, o)) ∧ Hid (o.length = n * j) ∧ Hid (EncSt (N + 1) w2 wr pv pv ov prev prev o) ∧ (∃ A C, pv = .slice A prev.length C) ∧ ∃ A C, ov = .slice A o.length C) (fun _ _ av _ => s.size - (intOf av).toNat)
    case atStart => exact ⟨0, 0, [], [], by omega, rfl, Lib.hid rfl, Lib.hid rfl, Lib.hid rfl, Lib.hid (EncSt.start HZ2.out), ⟨none, 0, rfl⟩, ⟨none, 0, rfl⟩⟩
    case round =>
      obtain ⟨j, a, prev, o, hj, rfl, HA, HD, HOl, HE, ⟨A1, C1, rfl⟩, ⟨A2, C2, rfl⟩⟩ := hrel
      have HBw := Lib.hid (HBk2.out.below HE.out.low (by have := HZ2.out; omega))
      have e1 := HBw.out.cell 1
      simp only [List.getElem?_toArray, List.getElem?_cons_zero, List.getElem?_cons_succ] at e1
      obtain ⟨np, hnp⟩ : ∃ x, prev.length = x := ⟨_, rfl⟩
      obtain ⟨no, hno⟩ : ∃ x, o.length = x := ⟨_, rfl⟩
      have hnob : no ≤ 4000 := by
        rw [← hno, HOl.out]
        have h1 : n * j ≤ n * m := Nat.mul_le_mul (by omega) hj
        have h2 := HS.out
        omega
      rw [hnp, hno]
      rw [hnp, hno] at HE
      by_cases hjm : j < m
      · have hfit : a + n ≤ s.size := by
          have h1 : n * (j + 1) ≤ n * m := Nat.mul_le_mul_left n hjm
          rw [Nat.mul_add, Nat.mul_one, HA.out] at h1
          have := HS.out
          omega
        have i1 : (a : Int) < (s.size : Int) := by omega
        have i2 : (0 : Int) ≤ (a : Int) := by omega
        have i3 : a < s.size := by omega
        have htgx := HTg.out
        obtain ⟨d, hd⟩ : ∃ d, (rowR n l j).drop (tgs pr) = d := ⟨_, rfl⟩
        have hrl : (rowR n l j).length = n := rowR_len HLl.out hjm
        have hdl : d.length = n := by rw [← hd, List.length_drop, hrl]; omega
        have hbyte : ∀ i, i < n → ∀ b2, a + 0 + i = b2 → ∃ (h : b2 < s.size) (h2 : i < d.length), s[b2] = d[i] := fun i hi b2 hb2 => by
          subst hb2
          have g1 : a + 0 + i < s.size := by omega
          have g2 : i < d.length := by omega
          refine ⟨g1, g2, ?_⟩
          have h1 : d[i]? = s.data.toList[a + 0 + i]? := by
            rw [← hd, List.getElem?_drop]
            unfold rowR
            rw [List.getElem?_take, if_pos (by omega), List.getElem?_drop, HA.out, HLs.out]
            congr 1
            all_goals omega
          rw [List.getElem?_eq_getElem g2, List.getElem?_eq_getElem (by simp; exact g1)] at h1
          injection h1 with h1
          exact h1.symm
        have HBy := Lib.hid hbyte
        have HDl := Lib.hid hdl
        have HDd := Lib.hid hd
        have hA2 : n * (j + 1) = a + n := by rw [Nat.mul_add, Nat.mul_one, HA.out]
        have HA2 := Lib.hid hA2
        have HOl2 := Lib.hid (show no = n * j by rw [← hno]; exact HOl.out)
        have HNp := Lib.hid hnp
        have HNo := Lib.hid hno
        have HTi : Hid (tagIn pr (rowR n l j) = 1) := Lib.hid (by unfold tagIn; rw [if_pos HP10.out])
        clear hbyte hdl hd hA2 hrl hnp hno htgx
        obtain ⟨wo, rfl⟩ : ∃ wo, wo = wr := ⟨_, rfl⟩
        obtain ⟨M2, hM2⟩ : ∃ M2, wo.heap.size = M2 := ⟨_, rfl⟩
        have HM2 := Lib.hid hM2
        have HPrv := Lib.hid (fun (W : World) (h : Below M2 wo W) => HE.out.prv.below (by rw [HM2.out]; exact Nat.le_refl _) h)
        have HCo := Lib.hid (fun (W : World) (h : Below M2 wo W) => show W.cell? ⟨N, 1, none⟩ = some (.int .i64 (co : Int)) from by
          have h5 := (HBw.out.below h (by have := HE.out.base; rw [← HM2.out]; omega)).cell 1
          simp only [List.getElem?_toArray, List.getElem?_cons_zero, List.getElem?_cons_succ] at h5
          exact h5)
        clear e1 hM2
        go_wp2_with fail
        go_loopw [12, 13] (fun rv iv wy => ∃ i : Nat, i ≤ n ∧ iv = .int .i64 (i : Int) ∧ Hid (wy.ownsRow M2 5 1 rv (backR 1 prev co [] (d.take i)).length (bC (backR 1 prev co [] (d.take i)))) ∧ Hid (Below M2 wo wy)) (fun _ iv _ => n - (intOf iv).toNat)
        case atStart => exact ⟨0, by omega, rfl, Lib.hid (World.ownsRow_nil _ _ _ _), Lib.hid (Below.refl _ _)⟩
        case round =>
          obtain ⟨i, hi, rfl, HOw, HBy2⟩ := hrel
          obtain ⟨A3, C3, hv3⟩ := own_form HOw.out
          have hpl : (backR 1 prev co [] (d.take i)).length = i := by rw [backR_len, List.length_take, HDl.out]; simp; omega
          obtain ⟨part, hpart⟩ : ∃ p, backR 1 prev co [] (d.take i) = p := ⟨_, rfl⟩
          rw [hpart] at hpl HOw hv3
          rw [hpl] at HOw hv3
          subst hv3
          by_cases hin : i < n
          · obtain ⟨b2, hb2e⟩ : ∃ b2, a + 0 + i = b2 := ⟨_, rfl⟩
            obtain ⟨hb1, hdi, hb2⟩ := HBy.out i hin b2 hb2e
            obtain ⟨dd, hdd⟩ : ∃ dd : UInt8, d[i] = dd := ⟨_, rfl⟩
            rw [hdd] at hb2
            have j0 : (0 : Int) ≤ (b2 : Int) := by omega
            have j1 : (b2 : Int) < (s.size : Int) := by omega
            have HOff := Lib.hid (fun (W : World) (h : W.heap = wr.heap) => off_any 1 (.slice A1 np C1) (.slice A3 i C3) prev part i co W (by decide) ((HPrv.out wr HBy2.out).heap h) ((IsRow.own HOw.out).heap h) (by omega) (by omega))
            obtain ⟨oq, hoq⟩ : ∃ oq, offR 1 prev part i co = oq := ⟨_, rfl⟩
            rw [hoq] at HOff
            have hwr := add8_wrap dd oq
            obtain ⟨y, hy⟩ : ∃ y : UInt8, dd + oq = y := ⟨_, rfl⟩
            rw [hy] at hwr
            obtain ⟨g4, cap4, w4, hrun4, hown4, hlow4⟩ := app_byte wr M2 (.slice A3 i C3) part y (by rw [hpl]; exact HOw.out) (by omega) (by have := HBy2.out.size; rw [HM2.out] at this; exact this)
            have HB4 := Lib.hid (hlow4 wo HBy2.out)
            have hp4 : part ++ [y] = backR 1 prev co [] (d.take (i + 1)) := by
              rw [List.take_succ_eq_append_getElem hdi, backR_app, hpart, backR, backR, hpl, hoq, hdd, hy]
            have hl4 : (part ++ [y]).length = i + 1 := by rw [List.length_append, hpl]; rfl
            rw [hl4] at hrun4
            have HO4 : Hid (w4.ownsRow M2 5 1 (.slice (some ⟨g4, 0, none⟩) (i + 1) cap4) (backR 1 prev co [] (d.take (i + 1))).length (bC (backR 1 prev co [] (d.take (i + 1))))) := Lib.hid (by rw [← hp4, hl4]; rw [hl4] at hown4; exact hown4)
            have s1 := HCo.out wr HBy2.out
            have s2 := HCo.out _ ((HBy2.out.alloc (by have := HBy2.out.size; rw [HM2.out] at this; exact this) (.cells #[.int .u8 (y.toNat : Int)] 5)).drew)
            have s3 := HCo.out _ HB4.out
            have z1 : IntKind.i64.wrap (a : Int) = (a : Int) := IntWalk.i64_in _ (by omega)
            have z2 : IntKind.i64.wrap ((a : Int) + (i : Int)) = (b2 : Int) := by rw [show (a : Int) + (i : Int) = (b2 : Int) by omega]; exact IntWalk.i64_in _ (by omega)
            clear hown4 hlow4 hp4 hl4 hpart hoq hy hdd hdi hb2e hpl
            go_wp2_with fail
            go_region_held3 (fun w' => w'.cell? ⟨N, 1, none⟩ = some (.int .i64 (co : Int))) (first | exact s1 | exact s2 | exact s3) ((go_at_call 30; refine (HOff.out _ (by rfl)).mono ?_; rintro e w5 ⟨rfl, rfl⟩))
            all_goals
              go_wp2_with fail
              go_roundw
              case rel => exact ⟨i + 1, by omega, by go_num, HO4, HB4⟩
              case measure => simp [intOf]; omega
          · obtain rfl : i = n := by omega
            have hpd : part = backR 1 prev co [] d := by rw [← hpart, List.take_of_length_le (by rw [HDl.out]; exact Nat.le_refl _)]
            have hown : wr.ownsRow wo.heap.size 5 1 (.slice A3 i C3) i (bC part) := by rw [HM2.out]; exact HOw.out
            obtain ⟨g6, cap6, w6, hrun6, hE6⟩ := HE.out.more2 (by rw [HM2.out]; exact HBy2.out) hown (by rw [hpl]; omega) (by rw [hpl, HNo.out]; omega)
            have HD2 := Lib.hid (dec_next HD.out HTi.out (by decide) HDd.out)
            rw [← hpd] at HD2
            have hl6 : (o ++ part).length = no + i := by rw [List.length_append, HNo.out, hpl]
            have HL6 : Hid ((o ++ part).length = i * (j + 1)) := Lib.hid (by rw [hl6, HOl2.out, Nat.mul_add, Nat.mul_one])
            have HPl := Lib.hid hpl
            rw [hl6] at hrun6
            have HE6 : Hid (EncSt (N + 1) w2 w6 (.slice A3 i C3) (.slice A3 i C3) (.slice (some ⟨g6, 0, none⟩) (no + i) cap6) part part (o ++ part)) := Lib.hid (by rw [← hl6]; exact hE6)
            have HL7 := Lib.hid hl6
            clear hpd hown hE6 hl6 hpl hpart
            go_wp2_with fail
            go_roundw
            case rel => exact ⟨j + 1, a + i, part, o ++ part, by omega, by go_num, HA2, HD2, HL6, HE6, ⟨A3, C3, by rw [HPl.out]⟩, ⟨_, cap6, by rw [HL7.out]⟩⟩
            case measure => simp [intOf]; omega

      · obtain rfl : j = m := by omega
        have hsz : a = s.size := by rw [← HA.out]; exact HS.out.symm
        subst hsz
        have hcb := conv_back (v := .slice A2 no C2) (l := o) (by have := HE.out.out; rw [hno] at this ⊢; exact this)
        have HX : Hid (x = 0 ∧ r = o) := Lib.hid (by
          have h := HF.out
          rw [HD.out] at h
          unfold decRes at h
          injection h with h1 h2
          exact ⟨h1.symm, h2.symm⟩)
        have HBf := Lib.hid (HB3.out.trans (HE.out.low.mono (by omega)))
        clear hnp hno
        go_wp2_with fail
        go_ret2
        exact ⟨by rw [HX.out.1, HX.out.2]; rfl, HBf.out⟩
  · have p1 : (2 : Int) < (pr : Int) := by omega
    have hpr10 : ¬ pr < 10 := by omega
    obtain rfl : n + 1 = q := by omega
    push_cast at hrem hn0'
    have HTg := Lib.hid htg
    have HP10 := Lib.hid hpr10
    have htg2 : tgs pr ≤ 1 := by omega
    clear hc hpr hq hpr10
    go_enter Try.func11, Try.ntmps11
    go_wp2_with fail
    refine (HC.out _).mono ?_
    rintro e w1 ⟨rfl, hb⟩
    have HB2 := Lib.hid (HB1.out.trans (hb.mono (by omega)))
    have hBk1 := HBk.out.below hb HBk.out.lt
    have HBk1 := Lib.hid hBk1
    have d0 := hBk1.cell 0
    have d1 := hBk1.cell 1
    have d2 := hBk1.cell 2
    simp only [List.getElem?_toArray, List.getElem?_cons_zero, List.getElem?_cons_succ] at d0 d1 d2
    have HZ1 : Hid (N + 1 ≤ w1.heap.size) := Lib.hid (by have := hb.size; omega)
    clear hb hBk1 hW
    go_wp2_with fail
    refine (HRo.out _).mono ?_
    rintro e w2 ⟨rfl, hb⟩
    have HB3 := Lib.hid (HB2.out.trans (hb.mono (by have := HZ1.out; omega)))
    have HBk2 := Lib.hid (HBk1.out.below hb HBk1.out.lt)
    have HZ2 : Hid (N + 1 ≤ w2.heap.size) := Lib.hid (by have := hb.size; have := HZ1.out; omega)
    have e0 := HBk2.out.cell 0
    simp only [List.getElem?_toArray, List.getElem?_cons_zero] at e0
    clear hb d0 d1 d2
    go_wp2_with fail
    clear e0
    go_loopw [8, 9, 10] (fun pv ov av wr => ∃ (j a : Nat) (prev o : List UInt8), j ≤ m ∧ av = .int .i64 (a : Int) ∧ Hid ((n + 1) * j = a) ∧ Hid (decR pr co (n + 1) l j = some (prev, o)) ∧ Hid (o.length = n * j) ∧ Hid (EncSt (N + 1) w2 wr pv pv ov prev prev o) ∧ (∃ A C, pv = .slice A prev.length C) ∧ ∃ A C, ov = .slice A o.length C) (fun _ _ av _ => s.size - (intOf av).toNat)
    case atStart => exact ⟨0, 0, [], [], by omega, rfl, Lib.hid rfl, Lib.hid rfl, Lib.hid rfl, Lib.hid (EncSt.start HZ2.out), ⟨none, 0, rfl⟩, ⟨none, 0, rfl⟩⟩
    case round =>
      obtain ⟨j, a, prev, o, hj, rfl, HA, HD, HOl, HE, ⟨A1, C1, rfl⟩, ⟨A2, C2, rfl⟩⟩ := hrel
      have HBw := Lib.hid (HBk2.out.below HE.out.low (by have := HZ2.out; omega))
      have e1 := HBw.out.cell 1
      simp only [List.getElem?_toArray, List.getElem?_cons_zero, List.getElem?_cons_succ] at e1
      obtain ⟨np, hnp⟩ : ∃ x, prev.length = x := ⟨_, rfl⟩
      obtain ⟨no, hno⟩ : ∃ x, o.length = x := ⟨_, rfl⟩
      have hnob : no ≤ 4000 := by
        rw [← hno, HOl.out]
        have h1 : n * j ≤ (n + 1) * m := Nat.mul_le_mul (by omega) hj
        have h2 := HS.out
        omega
      rw [hnp, hno]
      rw [hnp, hno] at HE
      by_cases hjm : j < m
      · have hfit : a + (n + 1) ≤ s.size := by
          have h1 : (n + 1) * (j + 1) ≤ (n + 1) * m := Nat.mul_le_mul_left (n + 1) hjm
          rw [Nat.mul_add, Nat.mul_one, HA.out] at h1
          have := HS.out
          omega
        have i1 : (a : Int) < (s.size : Int) := by omega
        have i2 : (0 : Int) ≤ (a : Int) := by omega
        have i3 : a < s.size := by omega
        have htgx := HTg.out
        obtain ⟨d, hd⟩ : ∃ d, (rowR (n + 1) l j).drop (tgs pr) = d := ⟨_, rfl⟩
        have hrl : (rowR (n + 1) l j).length = (n + 1) := rowR_len HLl.out hjm
        have hdl : d.length = n := by rw [← hd, List.length_drop, hrl]; omega
        have hbyte : ∀ i, i < n → ∀ b2, a + 1 + i = b2 → ∃ (h : b2 < s.size) (h2 : i < d.length), s[b2] = d[i] := fun i hi b2 hb2 => by
          subst hb2
          have g1 : a + 1 + i < s.size := by omega
          have g2 : i < d.length := by omega
          refine ⟨g1, g2, ?_⟩
          have h1 : d[i]? = s.data.toList[a + 1 + i]? := by
            rw [← hd, List.getElem?_drop]
            unfold rowR
            rw [List.getElem?_take, if_pos (by omega), List.getElem?_drop, HA.out, HLs.out]
            congr 1
            all_goals omega
          rw [List.getElem?_eq_getElem g2, List.getElem?_eq_getElem (by simp; exact g1)] at h1
          injection h1 with h1
          exact h1.symm
        have HBy := Lib.hid hbyte
        have HDl := Lib.hid hdl
        have HDd := Lib.hid hd
        have hA2 : (n + 1) * (j + 1) = a + (n + 1) := by rw [Nat.mul_add, Nat.mul_one, HA.out]
        have HA2 := Lib.hid hA2
        have HOl2 := Lib.hid (show no = n * j by rw [← hno]; exact HOl.out)
        have HNp := Lib.hid hnp
        have HNo := Lib.hid hno
        obtain ⟨T, hT⟩ : ∃ T : UInt8, s[a] = T := ⟨_, rfl⟩
        have HTi : Hid (tagIn pr (rowR (n + 1) l j) = T.toNat) := Lib.hid (by
          unfold tagIn
          rw [if_neg HP10.out]
          have h4 : (rowR (n + 1) l j)[0]? = some T := by
            unfold rowR
            rw [List.getElem?_take, if_pos (by omega), List.getElem?_drop, HA.out, ← HLs.out, List.getElem?_eq_getElem (by simp; omega)]
            exact congrArg some hT
          have h1 : rAt (rowR (n + 1) l j) ((0 : Nat) : Int) = T := by
            rw [List.getElem?_eq_getElem (by omega)] at h4
            rw [rAt_in _ (by omega)]
            injection h4
          exact congrArg UInt8.toNat h1)
        have t0 : (0 : Int) ≤ (T.toNat : Int) := by omega
        have t1 : (T.toNat : Int) < 256 := (byteR T).2
        obtain ⟨tn, htn⟩ : ∃ tn, T.toNat = tn := ⟨_, rfl⟩
        rw [htn] at HTi
        clear hbyte hdl hd hA2 hrl hnp hno htgx
        by_cases htag : tn < 5
        · have u1 : ¬ (4 : Int) < (tn : Int) := by omega
          obtain ⟨wo, rfl⟩ : ∃ wo, wo = wr := ⟨_, rfl⟩
          obtain ⟨M2, hM2⟩ : ∃ M2, wo.heap.size = M2 := ⟨_, rfl⟩
          have HM2 := Lib.hid hM2
          have HPrv := Lib.hid (fun (W : World) (h : Below M2 wo W) => HE.out.prv.below (by rw [HM2.out]; exact Nat.le_refl _) h)
          have HCo := Lib.hid (fun (W : World) (h : Below M2 wo W) => show W.cell? ⟨N, 1, none⟩ = some (.int .i64 (co : Int)) from by
            have h5 := (HBw.out.below h (by have := HE.out.base; rw [← HM2.out]; omega)).cell 1
            simp only [List.getElem?_toArray, List.getElem?_cons_zero, List.getElem?_cons_succ] at h5
            exact h5)
          clear e1 hM2
          go_wp2_with fail
          go_loopw [12, 13] (fun rv iv wy => ∃ i : Nat, i ≤ n ∧ iv = .int .i64 (i : Int) ∧ Hid (wy.ownsRow M2 5 1 rv (backR tn prev co [] (d.take i)).length (bC (backR tn prev co [] (d.take i)))) ∧ Hid (Below M2 wo wy)) (fun _ iv _ => n - (intOf iv).toNat)
          case atStart => exact ⟨0, by omega, rfl, Lib.hid (World.ownsRow_nil _ _ _ _), Lib.hid (Below.refl _ _)⟩
          case round =>
            obtain ⟨i, hi, rfl, HOw, HBy2⟩ := hrel
            obtain ⟨A3, C3, hv3⟩ := own_form HOw.out
            have hpl : (backR tn prev co [] (d.take i)).length = i := by rw [backR_len, List.length_take, HDl.out]; simp; omega
            obtain ⟨part, hpart⟩ : ∃ p, backR tn prev co [] (d.take i) = p := ⟨_, rfl⟩
            rw [hpart] at hpl HOw hv3
            rw [hpl] at HOw hv3
            subst hv3
            by_cases hin : i < n
            · obtain ⟨b2, hb2e⟩ : ∃ b2, a + 1 + i = b2 := ⟨_, rfl⟩
              obtain ⟨hb1, hdi, hb2⟩ := HBy.out i hin b2 hb2e
              obtain ⟨dd, hdd⟩ : ∃ dd : UInt8, d[i] = dd := ⟨_, rfl⟩
              rw [hdd] at hb2
              have j0 : (0 : Int) ≤ (b2 : Int) := by omega
              have j1 : (b2 : Int) < (s.size : Int) := by omega
              have HOff := Lib.hid (fun (W : World) (h : W.heap = wr.heap) => off_any tn (.slice A1 np C1) (.slice A3 i C3) prev part i co W htag ((HPrv.out wr HBy2.out).heap h) ((IsRow.own HOw.out).heap h) (by omega) (by omega))
              obtain ⟨oq, hoq⟩ : ∃ oq, offR tn prev part i co = oq := ⟨_, rfl⟩
              rw [hoq] at HOff
              have hwr := add8_wrap dd oq
              obtain ⟨y, hy⟩ : ∃ y : UInt8, dd + oq = y := ⟨_, rfl⟩
              rw [hy] at hwr
              obtain ⟨g4, cap4, w4, hrun4, hown4, hlow4⟩ := app_byte wr M2 (.slice A3 i C3) part y (by rw [hpl]; exact HOw.out) (by omega) (by have := HBy2.out.size; rw [HM2.out] at this; exact this)
              have HB4 := Lib.hid (hlow4 wo HBy2.out)
              have hp4 : part ++ [y] = backR tn prev co [] (d.take (i + 1)) := by
                rw [List.take_succ_eq_append_getElem hdi, backR_app, hpart, backR, backR, hpl, hoq, hdd, hy]
              have hl4 : (part ++ [y]).length = i + 1 := by rw [List.length_append, hpl]; rfl
              rw [hl4] at hrun4
              have HO4 : Hid (w4.ownsRow M2 5 1 (.slice (some ⟨g4, 0, none⟩) (i + 1) cap4) (backR tn prev co [] (d.take (i + 1))).length (bC (backR tn prev co [] (d.take (i + 1))))) := Lib.hid (by rw [← hp4, hl4]; rw [hl4] at hown4; exact hown4)
              have s1 := HCo.out wr HBy2.out
              have s2 := HCo.out _ ((HBy2.out.alloc (by have := HBy2.out.size; rw [HM2.out] at this; exact this) (.cells #[.int .u8 (y.toNat : Int)] 5)).drew)
              have s3 := HCo.out _ HB4.out
              obtain ⟨b1, hb1e⟩ : ∃ b1, a + 1 = b1 := ⟨_, rfl⟩
              have z1 : IntKind.i64.wrap ((a : Int) + 1) = (b1 : Int) := by rw [show (a : Int) + 1 = (b1 : Int) by omega]; exact IntWalk.i64_in _ (by omega)
              have z2 : IntKind.i64.wrap ((b1 : Int) + (i : Int)) = (b2 : Int) := by rw [show (b1 : Int) + (i : Int) = (b2 : Int) by omega]; exact IntWalk.i64_in _ (by omega)
              clear hb1e
              clear hown4 hlow4 hp4 hl4 hpart hoq hy hdd hdi hb2e hpl
              go_wp2_with fail
              go_region_held3 (fun w' => w'.cell? ⟨N, 1, none⟩ = some (.int .i64 (co : Int))) (first | exact s1 | exact s2 | exact s3) ((go_at_call 30; refine (HOff.out _ (by rfl)).mono ?_; rintro e w5 ⟨rfl, rfl⟩))
              all_goals
                go_wp2_with fail
                go_roundw
                case rel => exact ⟨i + 1, by omega, by go_num, HO4, HB4⟩
                case measure => simp [intOf]; omega
            · obtain rfl : i = n := by omega
              have hpd : part = backR tn prev co [] d := by rw [← hpart, List.take_of_length_le (by rw [HDl.out]; exact Nat.le_refl _)]
              have hown : wr.ownsRow wo.heap.size 5 1 (.slice A3 i C3) i (bC part) := by rw [HM2.out]; exact HOw.out
              obtain ⟨g6, cap6, w6, hrun6, hE6⟩ := HE.out.more2 (by rw [HM2.out]; exact HBy2.out) hown (by rw [hpl]; omega) (by rw [hpl, HNo.out]; omega)
              have HD2 := Lib.hid (dec_next HD.out HTi.out htag HDd.out)
              rw [← hpd] at HD2
              have hl6 : (o ++ part).length = no + i := by rw [List.length_append, HNo.out, hpl]
              have HL6 : Hid ((o ++ part).length = i * (j + 1)) := Lib.hid (by rw [hl6, HOl2.out, Nat.mul_add, Nat.mul_one])
              have HPl := Lib.hid hpl
              rw [hl6] at hrun6
              have HE6 : Hid (EncSt (N + 1) w2 w6 (.slice A3 i C3) (.slice A3 i C3) (.slice (some ⟨g6, 0, none⟩) (no + i) cap6) part part (o ++ part)) := Lib.hid (by rw [← hl6]; exact hE6)
              have HL7 := Lib.hid hl6
              clear hpd hown hE6 hl6 hpl hpart
              go_wp2_with fail
              go_roundw
              case rel => exact ⟨j + 1, a + (i + 1), part, o ++ part, by omega, by go_num, HA2, HD2, HL6, HE6, ⟨A3, C3, by rw [HPl.out]⟩, ⟨_, cap6, by rw [HL7.out]⟩⟩
              case measure => simp [intOf]; omega
        · have u1 : (4 : Int) < (tn : Int) := by omega
          have HX : Hid (x = 3 ∧ r = []) := Lib.hid (by
            have h := HF.out
            rw [dec_stop HD.out HTi.out (by omega) hjm] at h
            unfold decRes at h
            injection h with h1 h2
            exact ⟨h1.symm, h2.symm⟩)
          have HBf := Lib.hid (HB3.out.trans (HE.out.low.mono (by omega)))
          go_wp2_with fail
          go_ret2
          exact ⟨by rw [HX.out.1, HX.out.2]; rfl, HBf.out⟩

      · obtain rfl : j = m := by omega
        have hsz : a = s.size := by rw [← HA.out]; exact HS.out.symm
        subst hsz
        have hcb := conv_back (v := .slice A2 no C2) (l := o) (by have := HE.out.out; rw [hno] at this ⊢; exact this)
        have HX : Hid (x = 0 ∧ r = o) := Lib.hid (by
          have h := HF.out
          rw [HD.out] at h
          unfold decRes at h
          injection h with h1 h2
          exact ⟨h1.symm, h2.symm⟩)
        have HBf := Lib.hid (HB3.out.trans (HE.out.low.mono (by omega)))
        clear hnp hno
        go_wp2_with fail
        go_ret2
        exact ⟨by rw [HX.out.1, HX.out.2]; rfl, HBf.out⟩
end Go.Proofs.Ythdjocbpnmjbgaa
