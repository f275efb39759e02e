/-
  HintLong: adding constants to all entries changes the first sixteen bytes alone, and a page more like one that is there adds at most the bits of one row, whatever the list and the numbers are.
-/
import Derived.Test.YtkcnhdponcbjaaaHntRow
namespace Go.Proofs.Ytkcnhdponcbjaaa
attribute [-go_sem] Builtin.append_
open Go.ChangeShapes Go.WideShapes Go.ChangeAt Go.RowKit Go.Deep Bt Hnt

theorem take_map {l : List H3} {f : H3 → H3} {k p : Nat} (hp : l.length = p) (hk : k < l.length) (v : H3) (hv : f l[k] = v) : ((l.map f).take k ++ List.replicate (p - k) ((0, 0, 0) : H3)).set k v = (l.map f).take (k + 1) ++ List.replicate (p - (k + 1)) (0, 0, 0) :=
  take_set (by rw [List.length_map]; exact hp) (by rw [List.length_map]; exact hk) v (by rw [List.getElem_map]; exact hv)

theorem hat_far {w : World} {A : Option Addr} {l : List H3} (h : HAt w A l) {p : Addr} (hp : ∀ b o, A = some ⟨b, o, none⟩ → b ≠ p.block) (u : Value) : HAt (w.setCell p u) A l := fun j hj => by
  obtain ⟨b, off, ha, h1, h2, h3, h4⟩ := h j hj
  have hb := hp b off ha
  exact ⟨b, off, ha, by simpa [World.setCell] using h1, (World.cell?_of_block (a := ⟨b, _, none⟩) (Below.heap_setCell w p u b hb)).trans h2, (World.cell?_of_block (a := ⟨b, _, none⟩) (Below.heap_setCell w p u b hb)).trans h3, (World.cell?_of_block (a := ⟨b, _, none⟩) (Below.heap_setCell w p u b hb)).trans h4⟩

theorem drop_app {x z : List UInt8} {s : ByteArray} (hx : x.length = 16) (hs : s.data.toList = x ++ z) : (s.extract 16 s.size).data.toList = z ∧ s.size = 16 + z.length := by
  have e : s.size = 16 + z.length := by rw [← size_list, hs, List.length_append, hx]
  refine ⟨?_, e⟩
  rw [ByteArray.data_extract, Array.toList_extract, hs]
  show ((x ++ z).drop 16).take (s.size - 16) = z
  rw [List.drop_append_of_le_length (by omega), List.drop_of_length_le (by omega), List.nil_append, List.take_of_length_le (by omega)]
theorem tail_same (a b c : Int) {l : List H3} {R R2 : ByteArray} (h : textE l = 0) (h' : textE (l.map (sh a b c)) = 0) (hR : R.data.toList = textB l) (hR2 : R2.data.toList = textB (l.map (sh a b c))) : R2.size = R.size ∧ R2.extract 16 R2.size = R.extract 16 R.size := by
  obtain ⟨x, y, z, hx, hy, e1, e2⟩ := text_sh a b c h h'
  obtain ⟨d1, d2⟩ := drop_app hx (hR.trans e1)
  obtain ⟨d3, d4⟩ := drop_app hy (hR2.trans e2)
  exact ⟨by omega, ByteArray.ext (Array.toList_inj.1 (d3.trans d1.symm))⟩

theorem byte_at {x z : List UInt8} {s : ByteArray} {v : UInt8} {i : Nat} (hs : s.data.toList = x ++ v :: z) (hx : x.length = i) (h : i < s.size) : s[i] = v := by
  have h1 : s.data.toList[i]? = some v := by rw [hs, List.getElem?_append_right (by omega), hx, Nat.sub_self]; rfl
  have h2 : s.data.toList[i]? = some s[i] := by
    rw [List.getElem?_eq_getElem (by rw [size_list]; exact h)]
    rfl
  rw [h1] at h2
  injection h2 with h2
  exact h2.symm
theorem last_of {l : List H3} {x y z : Int} {g : H3} {R R3 : ByteArray} (hE : textE l = 0) (hl : l.length ≤ 300) (hg : g ∈ l) (he : g = (x, y, z)) (hR : R.data.toList = textB l) (hR3 : R3.data.toList = textB (l ++ [(x, y, z)])) :
    ∃ p0 p1 p2 d : Nat, R3.size * 8 = R.size * 8 + d ∧ d ≤ p0 + p1 + p2 + 21 ∧ (p0 + p1 + p2 = 0 → d = 0) ∧ (22 ≤ R.size ∧ R.size ≤ 20000 ∧ p0 ≤ 21 ∧ p1 ≤ 21 ∧ p2 ≤ 21) ∧
      (∀ h : 16 < R.size, (R[16].toNat : Int) = 0) ∧ (∀ h : 17 < R.size, (R[17].toNat : Int) = p0) ∧ (∀ h : 18 < R.size, (R[18].toNat : Int) = 0) ∧ (∀ h : 19 < R.size, (R[19].toNat : Int) = p1) ∧ (∀ h : 20 < R.size, (R[20].toNat : Int) = 0) ∧ ∀ h : 21 < R.size, (R[21].toNat : Int) = p2 := by
  subst he
  obtain ⟨d, d1, d2, d3⟩ := text_app hg hE hl
  obtain ⟨b, c, hb, hc, w0, w1, w2⟩ := text_wd hE
  have hs := textB_len hE
  have z1 : R.size = (textB l).length := by rw [← size_list, hR]
  have z3 : R3.size = (textB (l ++ [(x, y, z)])).length := by rw [← size_list, hR3]
  have hR' : R.data.toList = b ++ ([0, UInt8.ofNat (wdt 0 l), 0, UInt8.ofNat (wdt 1 l), 0, UInt8.ofNat (wdt 2 l)] ++ c) := hR.trans hc
  have num : ∀ n, n ≤ 21 → ((UInt8.ofNat n).toNat : Int) = n := fun n hn => by rw [UInt8.toNat_ofNat']; omega
  refine ⟨wdt 0 l, wdt 1 l, wdt 2 l, d, by omega, d2, d3, ⟨by omega, by omega, w0, w1, w2⟩, fun h => ?_, fun h => ?_, fun h => ?_, fun h => ?_, fun h => ?_, fun h => ?_⟩
  · rw [byte_at (x := b) (z := UInt8.ofNat (wdt 0 l) :: 0 :: UInt8.ofNat (wdt 1 l) :: 0 :: UInt8.ofNat (wdt 2 l) :: c) (v := 0) hR' hb h]; rfl
  · rw [byte_at (x := b ++ [0]) (z := 0 :: UInt8.ofNat (wdt 1 l) :: 0 :: UInt8.ofNat (wdt 2 l) :: c) (v := UInt8.ofNat (wdt 0 l)) (by rw [hR']; simp) (by rw [List.length_append, hb]; rfl) h]; exact num _ w0
  · rw [byte_at (x := b ++ [0, UInt8.ofNat (wdt 0 l)]) (z := UInt8.ofNat (wdt 1 l) :: 0 :: UInt8.ofNat (wdt 2 l) :: c) (v := 0) (by rw [hR']; simp) (by rw [List.length_append, hb]; rfl) h]; rfl
  · rw [byte_at (x := b ++ [0, UInt8.ofNat (wdt 0 l), 0]) (z := 0 :: UInt8.ofNat (wdt 2 l) :: c) (v := UInt8.ofNat (wdt 1 l)) (by rw [hR']; simp) (by rw [List.length_append, hb]; rfl) h]; exact num _ w1
  · rw [byte_at (x := b ++ [0, UInt8.ofNat (wdt 0 l), 0, UInt8.ofNat (wdt 1 l)]) (z := UInt8.ofNat (wdt 2 l) :: c) (v := 0) (by rw [hR']; simp) (by rw [List.length_append, hb]; rfl) h]; rfl
  · rw [byte_at (x := b ++ [0, UInt8.ofNat (wdt 0 l), 0, UInt8.ofNat (wdt 1 l), 0]) (z := c) (v := UInt8.ofNat (wdt 2 l)) (by rw [hR']; simp) (by rw [List.length_append, hb]; rfl) h]; exact num _ w2

/-- The tests on the arguments. -/
structure Fine (n : Nat) (a b c q : Int) : Prop where
  n0 : ((n : Int) == 0) = false
  n1 : decide ((300 : Int) < (n : Int)) = false
  q0 : decide (q < 0) = false
  a0 : decide (a < 0) = false
  a1 : decide (8191 < a) = false
  b0 : decide (b < 0) = false
  b1 : decide (1048576 < b) = false
  c0 : decide (c < 0) = false
  c1 : decide (1048576 < c) = false

set_option maxRecDepth 100000 in
set_option maxHeartbeats 4000000 in
theorem long_fine (A : Option Addr) (cap : Nat) (l : List H3) (a b c q : Int) (w : World) (h : HAt w A l) (hF : Fine l.length a b c q) (hq2 : q ≤ 9223372036854775807) :
    Calls Try.prog 6 #[.slice A l.length cap, .int .i64 a, .int .i64 b, .int .i64 c, .int .i64 q] w fun e w' => e = .returned (.bool true) ∧ Below w.heap.size w w' := by
  obtain ⟨N, hN⟩ : ∃ N, w.heap.size = N := ⟨_, rfl⟩
  have HL := Lib.hid (hlives_any w)
  rw [hN] at HL ⊢
  have HS := Lib.hid hN
  have HA := Lib.hid h
  obtain ⟨n, hn⟩ : ∃ n, l.length = n := ⟨_, rfl⟩
  have HNl := Lib.hid hn
  rw [hn] at hF ⊢
  obtain ⟨n0, n1, q0, a0, a1, b0, b1, c0, c1⟩ := hF
  have HB0 := Lib.hid (show Below N w w ∧ N ≤ w.heap.size from ⟨Below.refl _ _, by rw [HS.out]; exact Nat.le_refl _⟩)
  have hn300 : n ≤ 300 := by have := of_decide_eq_false n1; omega
  obtain ⟨E, hE⟩ : ∃ E, textE l = E := ⟨_, rfl⟩
  obtain ⟨R, hR⟩ : ∃ R : ByteArray, ⟨(textB l).toArray⟩ = R := ⟨_, rfl⟩
  have PT := Lib.hid (fun (W : World) (h : HAt W A l) => text_c A cap l E R n W h HNl.out (by omega) hE hR)
  by_cases h0 : E = 0
  · subst h0
    clear hn h hN
    go_enter Try.func6, Try.ntmps6
    go_wp2_with fail
    refine HL.out.mono ?_
    rintro e w1 ⟨rfl, hb⟩
    have HB1 := Lib.hid (show Below N w w1 ∧ N ≤ w1.heap.size from ⟨hb, by have := hb.size; rw [HS.out] at this; exact this⟩)
    have HA1 := Lib.hid (HA.out.below (HS.out ▸ hb))
    clear hb
    go_wp2_with fail
    refine (PT.out w1 HA1.out).mono ?_
    rintro e w2 ⟨rfl, hb⟩
    have HB2 := Lib.hid (step_no HB1.out.1 HB1.out.2 hb)
    have HA2 := Lib.hid (HA1.out.below hb)
    clear hb
    have mk := make_hints n (by omega)
    obtain ⟨h, hh⟩ : ∃ h, w2.heap.size = h := ⟨_, rfl⟩
    obtain ⟨U3, hU3⟩ : ∃ U3, w2.alloc (.cells (madeCells #[.int .i64 0, .int .i64 0, .int .i64 0] (n * 3)) 35) = U3 := ⟨_, rfl⟩
    have HB3 := Lib.hid (show Below N w U3 by rw [← hU3]; exact HB2.out.1.alloc HB2.out.2 _)
    have HA3 := Lib.hid (show HAt U3 A l by rw [← hU3]; exact HA2.out.below ((Below.refl _ w2).alloc (Nat.le_refl _) _))
    have HO3 := Lib.hid (show RAt U3 h 35 ((l.map (sh a b c)).take 0 ++ List.replicate (n - 0) (0, 0, 0)) by rw [← hU3, ← hh]; exact RAt.new (Blk.new _ _ _))
    have HNh := Lib.hid (show N ≤ h by rw [← hh]; exact HB2.out.2)
    have HAh := Lib.hid (show ∀ b o, A = some ⟨b, o, none⟩ → n ≠ 0 → b < h from fun b o e hn0 => by
      have hp : 0 < l.length := by rw [HNl.out]; omega
      obtain ⟨b2, o2, e2, hlt, _⟩ := HA2.out 0 hp
      rw [e] at e2
      injection e2 with e2
      injection e2 with e2
      rw [e2, ← hh]
      exact hlt)
    have ha0 := of_decide_eq_false a0
    have ha1 := of_decide_eq_false a1
    have hb0 := of_decide_eq_false b0
    have hb1 := of_decide_eq_false b1
    have hc0 := of_decide_eq_false c0
    have hc1 := of_decide_eq_false c1
    have hOk := Lib.hid (textE_zero hE).2.2
    go_upto_region 20 with fail
    try rw [hU3]
    try rw [hh]
    clear hU3 hh mk a0 a1 b0 b1 c0 c1 HA2 HB2
    go_loopw [72] (fun i wr => ∃ (k : Nat), k ≤ n ∧ i = .int .i64 (k : Int) ∧ Hid (Below N w wr) ∧ Hid (HAt wr A l) ∧ Hid (RAt wr h 35 ((l.map (sh a b c)).take k ++ List.replicate (n - k) (0, 0, 0)))) (fun i _ => n - (intOf i).toNat)
    case atStart => exact ⟨0, by omega, rfl, HB3, HA3, HO3⟩
    case round =>
      clear HB3 HA3 HO3
      obtain ⟨k, hk, rfl, HB, HAr, HO⟩ := hrel
      by_cases hlt : k < n
      · have hkl : k < l.length := by rw [HNl.out]; exact hlt
        have hik : (k : Int) < (n : Int) := by omega
        obtain ⟨ba, off, hAe, hbl, x0, x1, x2⟩ := HAr.out k hkl
        subst hAe
        have Hbh := Lib.hid (HAh.out ba off rfl (by omega))
        have hin := (okH_iff l[k]).1 (hOk.out l[k] (List.getElem_mem hkl))
        obtain ⟨x, hx⟩ : ∃ x, l[k].1 = x := ⟨_, rfl⟩
        obtain ⟨y, hy⟩ : ∃ x, l[k].2.1 = x := ⟨_, rfl⟩
        obtain ⟨z, hz⟩ : ∃ x, l[k].2.2 = x := ⟨_, rfl⟩
        have hx0 : 0 ≤ x ∧ x ≤ 8191 := by rw [← hx]; exact hin 0 (by omega)
        have hy0 : 0 ≤ y ∧ y ≤ 1048576 := by rw [← hy]; exact hin 1 (by omega)
        have hz0 : 0 ≤ z ∧ z ≤ 1048576 := by rw [← hz]; exact hin 2 (by omega)
        obtain ⟨hx1, hx2⟩ := hx0
        obtain ⟨hy1, hy2⟩ := hy0
        obtain ⟨hz1, hz2⟩ := hz0
        rw [hx] at x0
        rw [hy] at x1
        rw [hz] at x2
        have HT := Lib.hid (take_map (f := sh a b c) HNl.out hkl (x + a, y + b, z + c) (by rw [← hx, ← hy, ← hz]; rfl))
        clear hx hy hz hin hbl
        obtain ⟨g, hg⟩ : ∃ g, wr.heap.size = g := ⟨_, rfl⟩
        obtain ⟨W4, hW4⟩ : ∃ W4, wr.alloc (.cells #[.int .i64 x, .int .i64 y, .int .i64 z] 35) = W4 := ⟨_, rfl⟩
        have hbg : Below wr.heap.size wr W4 := by rw [← hW4]; exact (Below.refl _ _).alloc (Nat.le_refl _) _
        have HNw := Lib.hid (show N ≤ wr.heap.size by have h1 := HO.out.lt; have h2 := HNh.out; omega)
        have HB4 := Lib.hid (HB.out.trans (hbg.mono HNw.out))
        have HA4 := Lib.hid (HAr.out.below hbg)
        have HO4 := Lib.hid (HO.out.below hbg HO.out.lt)
        have HG4 := Lib.hid (show Blk W4 g 35 #[.int .i64 x, .int .i64 y, .int .i64 z] by rw [← hW4, ← hg]; exact Blk.new _ _ _)
        have Hhg := Lib.hid (show h < g by rw [← hg]; exact HO.out.lt)
        go_upto_region 12 with fail
        try rw [hW4]
        try rw [hg]
        clear hbg hW4 hg x0 x1 x2
        have d0 := HG4.out.cell 0
        have d1 := HG4.out.cell 1
        have d2 := HG4.out.cell 2
        simp only [List.getElem?_toArray, List.getElem?_cons_zero, List.getElem?_cons_succ] at d0 d1 d2
        have hkO : k < ((l.map (sh a b c)).take k ++ List.replicate (n - k) ((0, 0, 0) : H3)).length := by rw [List.length_append, List.length_take, List.length_replicate, List.length_map]; have := HNl.out; omega
        obtain ⟨q0, q1, q2⟩ := HO4.out.cells hkO
        have f0 := HO4.out.free (k * 3)
        have f1 := HO4.out.free (k * 3 + 1)
        have f2 := HO4.out.free (k * 3 + 2)
        have S1 := HO4.out.set (c := 0) (by omega) hkO (x + a)
        have k1 : k < (((l.map (sh a b c)).take k ++ List.replicate (n - k) ((0, 0, 0) : H3)).set k (setC 0 (x + a) ((l.map (sh a b c)).take k ++ List.replicate (n - k) ((0, 0, 0) : H3))[k])).length := by rw [List.length_set]; exact hkO
        have S2 := S1.set (c := 1) (by omega) k1 (y + b)
        have S3 := Lib.hid (S2.set (c := 2) (by omega) (by rw [List.length_set]; exact k1) (z + c))
        rw [set3, HT.out] at S3
        have HA6 := Lib.hid (hat_far (hat_far (hat_far HA4.out (p := ⟨h, k * 3, none⟩) (fun b o e => by injection e with e; injection e with e; rw [← e]; exact Nat.ne_of_lt Hbh.out) (.int .i64 (x + a))) (p := ⟨h, k * 3 + 1, none⟩) (fun b o e => by injection e with e; injection e with e; rw [← e]; exact Nat.ne_of_lt Hbh.out) (.int .i64 (y + b))) (p := ⟨h, k * 3 + 2, none⟩) (fun b o e => by injection e with e; injection e with e; rw [← e]; exact Nat.ne_of_lt Hbh.out) (.int .i64 (z + c)))
        have hNh := HNh.out
        have HB6 := Lib.hid (((HB4.out.setCell (p := ⟨h, k * 3, none⟩) hNh (.int .i64 (x + a))).setCell (p := ⟨h, k * 3 + 1, none⟩) hNh (.int .i64 (y + b))).setCell (p := ⟨h, k * 3 + 2, none⟩) hNh (.int .i64 (z + c)))
        clear S1 S2 k1 hNh
        go_wp2_with fail
        go_roundw
        case rel => exact ⟨k + 1, by omega, by go_num, HB6, HA6, S3⟩
        case measure => simp [intOf]; omega
      · obtain rfl : k = n := by omega
        have HZ := Lib.hid (show RAt wr h 35 (l.map (sh a b c)) by
          have e : (l.map (sh a b c)).take k ++ List.replicate (k - k) ((0, 0, 0) : H3) = l.map (sh a b c) := by rw [Nat.sub_self, List.replicate_zero, List.append_nil, List.take_of_length_le (by rw [List.length_map, HNl.out]; exact Nat.le_refl _)]
          rw [e] at HO
          exact HO.out)
        obtain ⟨E2, hE2⟩ : ∃ E, textE (l.map (sh a b c)) = E := ⟨_, rfl⟩
        obtain ⟨R2, hR2⟩ : ∃ R : ByteArray, ⟨(textB (l.map (sh a b c))).toArray⟩ = R := ⟨_, rfl⟩
        have PT2 := Lib.hid (text_c (some ⟨h, 0, none⟩) k (l.map (sh a b c)) E2 R2 k wr HZ.out.hat (by rw [List.length_map]; exact HNl.out) (by omega) hE2 hR2)
        have hs := textB_len hE
        have hsz : R.size = (textB l).length := by rw [← size_list, bytes_of hR]
        have r16 : (16 : Int) ≤ (R.size : Int) := by omega
        have HSw := Lib.hid (show Below N w wr ∧ N ≤ wr.heap.size from ⟨HB.out, by have h1 := HZ.out.lt; have h2 := HNh.out; omega⟩)
        obtain ⟨Z, hZ⟩ : ∃ Z, R.extract 16 R.size = Z := ⟨_, rfl⟩
        have tail : E2 = 0 → R2.size = R.size ∧ R2.extract 16 R2.size = Z := fun e => by
          subst e
          rw [← hZ]
          exact tail_same a b c hE hE2 (bytes_of hR) (bytes_of hR2)
        by_cases h2 : E2 = 0
        · obtain ⟨t1, t2⟩ := tail h2
          subst h2
          rw [t1] at t2
          have t3 : (R2.size : Int) = (R.size : Int) := by omega
          have t4 : (16 : Int) ≤ (R2.size : Int) := by omega
          clear hE2 hR2 tail hs hsz
          go_wp2_with fail
          refine PT2.out.mono ?_
          rintro e w4 ⟨rfl, hb⟩
          have HB4 := Lib.hid (step_no HSw.out.1 HSw.out.2 hb)
          have HA4 := Lib.hid (HAr.out.below hb)
          clear hb
          go_wp2_with fail
          go_quiet (fail)
          obtain ⟨W5, hW5⟩ : ∃ W5, w4.drewN nq = W5 := ⟨_, rfl⟩
          have HB5 := Lib.hid (show Below N w W5 ∧ N ≤ W5.heap.size by rw [← hW5]; exact ⟨⟨HB4.out.1.os, HB4.out.1.tape, HB4.out.1.output, HB4.out.1.size, HB4.out.1.block⟩, HB4.out.2⟩)
          have HA5 := Lib.hid (show HAt W5 A l by rw [← hW5]; exact HA4.out)
          try rw [hW5]
          clear hW5 HB4 HA4
          go_upto_region 17 with fail
          obtain ⟨K, hK, hK2⟩ : ∃ K : Nat, q.tmod (k : Int) = (K : Int) ∧ K < k := by
            have hq0 := of_decide_eq_false q0
            have hk0 : ¬ (k : Int) = 0 := by simpa using n0
            refine ⟨(q.tmod (k : Int)).toNat, ?_, ?_⟩
            · have := Int.tmod_nonneg (k : Int) (show 0 ≤ q by omega)
              omega
            · have h1 := Int.tmod_lt_of_pos q (show (0 : Int) < (k : Int) by omega)
              have := Int.tmod_nonneg (k : Int) (show 0 ≤ q by omega)
              omega
          have hKl : K < l.length := by rw [HNl.out]; exact hK2
          obtain ⟨ba, off, hAe, hbl, x0, x1, x2⟩ := HA5.out K hKl
          subst hAe
          have HT5 := Lib.hid (show ∀ W, Below W5.heap.size W5 W → W.cell? ⟨ba, off + K * 3, none⟩ = some (.int .i64 l[K].1) ∧ W.cell? ⟨ba, off + K * 3 + 1, none⟩ = some (.int .i64 l[K].2.1) ∧ W.cell? ⟨ba, off + K * 3 + 2, none⟩ = some (.int .i64 l[K].2.2) from fun W hW => ⟨(hW.cell (p := ⟨ba, _, none⟩) hbl).trans x0, (hW.cell (p := ⟨ba, _, none⟩) hbl).trans x1, (hW.cell (p := ⟨ba, _, none⟩) hbl).trans x2⟩)
          obtain ⟨x, hx⟩ : ∃ x, l[K].1 = x := ⟨_, rfl⟩
          obtain ⟨y, hy⟩ : ∃ x, l[K].2.1 = x := ⟨_, rfl⟩
          obtain ⟨z, hz⟩ : ∃ x, l[K].2.2 = x := ⟨_, rfl⟩
          rw [hx, hy, hz] at HT5
          rw [hx] at x0
          rw [hy] at x1
          rw [hz] at x2
          have HLK := Lib.hid (show l[K] = (x, y, z) by rw [← hx, ← hy, ← hz])
          have k0 : (0 : Int) ≤ (K : Int) := by omega
          have k1 : (K : Int) < (k : Int) := by omega
          have kz : ¬ (k : Int) = 0 := by omega
          have kp : 0 < k := by omega
          have kn : ¬ k = 0 := by omega
          have H0K := Lib.hid hKl
          clear hx hy hz
          obtain ⟨H1, hH1⟩ : ∃ H, W5.heap.size = H := ⟨_, rfl⟩
          have HH1 := Lib.hid hH1
          rw [hH1] at HT5
          have HTk := Lib.hid HT5.out
          have HKeep := Lib.hid (fun W (hW : Below H1 W5 W) => HA5.out.below (by rw [HH1.out]; exact hW))
          have hle : H1 ≤ W5.heap.size := by rw [HH1.out]; exact Nat.le_refl _
          have hW1 : Below H1 W5 (W5.alloc (.cells #[] 35)).drew := ((Below.refl H1 W5).alloc hle _).drew
          have hS1 : H1 ≤ (W5.alloc (.cells #[] 35)).drew.heap.size := by have := hW1.size; omega
          have hW2 : Below H1 W5 ((W5.alloc (.cells #[] 35)).drew.alloc (.cells #[.int .i64 x, .int .i64 y, .int .i64 z] 35)) := hW1.alloc hS1 _
          have hS2 : H1 ≤ ((W5.alloc (.cells #[] 35)).drew.alloc (.cells #[.int .i64 x, .int .i64 y, .int .i64 z] 35)).heap.size := by have := hW2.size; omega
          have hW5 : Below H1 W5 (W5.alloc (.cells #[.int .i64 x, .int .i64 y, .int .i64 z] 35)).drew := ((Below.refl H1 W5).alloc hle _).drew
          have hS5 : H1 ≤ (W5.alloc (.cells #[.int .i64 x, .int .i64 y, .int .i64 z] 35)).drew.heap.size := by have := hW5.size; omega
          have hW6 : Below H1 W5 ((W5.alloc (.cells #[.int .i64 x, .int .i64 y, .int .i64 z] 35)).drew.alloc (.cells #[] 35)) := hW5.alloc hS5 _
          have hS6 : H1 ≤ ((W5.alloc (.cells #[.int .i64 x, .int .i64 y, .int .i64 z] 35)).drew.alloc (.cells #[] 35)).heap.size := by have := hW6.size; omega
          have hx2 : HAt ((W5.alloc (.cells #[] 35)).drew.alloc (.cells #[.int .i64 x, .int .i64 y, .int .i64 z] 35)) (some ⟨W5.heap.size + 1, 0, none⟩) [(x, y, z)] := by
            have h := hlit1 (W5.alloc (.cells #[] 35)).drew x y z
            rwa [show (W5.alloc (.cells #[] 35)).drew.heap.size = W5.heap.size + 1 from World.size_alloc ..] at h
          have hl3 : ((W5.alloc (.cells #[.int .i64 x, .int .i64 y, .int .i64 z] 35)).drew.alloc (.cells #[] 35)).ownsRow H1 35 3 (.slice (some ⟨W5.heap.size + 1, 0, none⟩) 0 0) 0 (hC []) := by
            have h := hlit0 (W5.alloc (.cells #[.int .i64 x, .int .i64 y, .int .i64 z] 35)).drew H1 hS5
            rwa [show (W5.alloc (.cells #[.int .i64 x, .int .i64 y, .int .i64 z] 35)).drew.heap.size = W5.heap.size + 1 from World.size_alloc ..] at h
          have hx3 : HAt ((W5.alloc (.cells #[.int .i64 x, .int .i64 y, .int .i64 z] 35)).drew.alloc (.cells #[] 35)) (some ⟨W5.heap.size, 0, none⟩) [(x, y, z)] := by
            have hb : Below (W5.alloc (.cells #[.int .i64 x, .int .i64 y, .int .i64 z] 35)).heap.size (W5.alloc (.cells #[.int .i64 x, .int .i64 y, .int .i64 z] 35)) ((W5.alloc (.cells #[.int .i64 x, .int .i64 y, .int .i64 z] 35)).drew.alloc (.cells #[] 35)) := (Below.refl _ (W5.alloc (.cells #[.int .i64 x, .int .i64 y, .int .i64 z] 35))).drew.alloc (Nat.le_refl _) _
            exact (hlit1 W5 x y z).below hb
          obtain ⟨i5, hi, he5⟩ := Option.map_eq_some_iff.1 info_hint
          injection he5 with hz0 h2
          injection h2 with hz1 hz2
          obtain ⟨R3, hR3⟩ : ∃ R : ByteArray, ⟨(textB (l ++ [(x, y, z)])).toArray⟩ = R := ⟨_, rfl⟩
          have hE3 : textE (l ++ [(x, y, z)]) = 0 := textE_app (by rw [← HLK.out]; exact List.getElem_mem _) hE (by rw [HNl.out]; exact hn300)
          have PT3 := Lib.hid (fun (m : Nat) (hm : m = k + 1) (A : Option Addr) (cp : Nat) (W : World) (h : HAt W A (l ++ [(x, y, z)])) => text_c A cp (l ++ [(x, y, z)]) 0 R3 m W h (by rw [List.length_append, HNl.out, hm]; rfl) (by omega) hE3 hR3)
          have LAST := Lib.hid (last_of hE (by rw [HNl.out]; exact hn300) (List.getElem_mem hKl) HLK.out (bytes_of hR) (bytes_of hR3))
          clear hH1 HT5
          go_region_held3 (fun W => W.cell? ⟨ba, off + K * 3, none⟩ = some (.int .i64 x) ∧ W.cell? ⟨ba, off + K * 3 + 1, none⟩ = some (.int .i64 y) ∧ W.cell? ⟨ba, off + K * 3 + 2, none⟩ = some (.int .i64 z)) (first | exact ⟨x0, x1, x2⟩ | exact HTk.out _ hW1 | exact HTk.out _ hW2 | exact HTk.out _ hW5 | exact HTk.out _ hW6 | exact HTk.out _ HB8.out | exact HTk.out _ HB7.out | exact HTk.out _ (HB7.out.alloc hS7.out _) | exact HTk.out _ HB9.out) (first | (refine step_append_lies _ (by rfl) _ _ _ (by rfl) H1 35 i5 (.agg #[.int .i64 0, .int .i64 0, .int .i64 0]) 3 24 Try.underlying22 hi hz0 hz1 hz2 rfl (by decide) (.slice (some ⟨W5.heap.size, 0, none⟩) 0 0) 0 (hC []) (by rfl) (by exact ((hlit0 W5 H1 hle).drew)) ⟨ba, off, none⟩ k cap (hC l) (by rfl) (by rw [hC_len, HNl.out]) (by exact (HKeep.out _ hW1).news) hC_one kp (by unfold maxLen; omega) (by omega) (by first | exact hS1 | exact hS2 | exact hS3 | exact hS5 | exact hS6 | exact hS7.out | exact Nat.le_trans hS7.out (by rw [World.size_alloc]; omega)) _ rfl ?_; intro g7 cap7 w7 hown7r hgrow7 hat7 hlt7; have hown7 : w7.ownsRow H1 35 3 (.slice (some ⟨g7, 0, none⟩) k cap7) k (hC l) := (by rw [Nat.zero_add] at hown7r; exact hown7r); have HB7 : Hid (Below H1 W5 w7) := Lib.hid ((hW1).grown hgrow7 (hS1) (fun k hk => by injection hk with hk; show H1 ≤ k; rw [← hk]; exact hle)); have hS7 : Hid (H1 ≤ w7.heap.size) := Lib.hid (by have := HB7.out.size; rw [HH1.out] at this; exact this)) | (refine step_append_lies _ (by rfl) _ _ _ (by rfl) H1 35 i5 (.agg #[.int .i64 0, .int .i64 0, .int .i64 0]) 3 24 Try.underlying22 hi hz0 hz1 hz2 rfl (by decide) (.slice (some ⟨W5.heap.size, 0, none⟩) 0 0) 0 (hC []) (by rfl) (by exact (((hlit0 W5 H1 hle).drew).alloc _)) ⟨ba, off, none⟩ k cap (hC l) (by rfl) (by rw [hC_len, HNl.out]) (by exact (HKeep.out _ hW2).news) hC_one kp (by unfold maxLen; omega) (by omega) (by first | exact hS1 | exact hS2 | exact hS3 | exact hS5 | exact hS6 | exact hS7.out | exact Nat.le_trans hS7.out (by rw [World.size_alloc]; omega)) _ rfl ?_; intro g7 cap7 w7 hown7r hgrow7 hat7 hlt7; have hown7 : w7.ownsRow H1 35 3 (.slice (some ⟨g7, 0, none⟩) k cap7) k (hC l) := (by rw [Nat.zero_add] at hown7r; exact hown7r); have HB7 : Hid (Below H1 W5 w7) := Lib.hid ((hW2).grown hgrow7 (hS2) (fun k hk => by injection hk with hk; show H1 ≤ k; rw [← hk]; exact hle)); have hS7 : Hid (H1 ≤ w7.heap.size) := Lib.hid (by have := HB7.out.size; rw [HH1.out] at this; exact this)) | (refine step_append_lies _ (by rfl) _ _ _ (by rfl) H1 35 i5 (.agg #[.int .i64 0, .int .i64 0, .int .i64 0]) 3 24 Try.underlying22 hi hz0 hz1 hz2 rfl (by decide) (.slice (some ⟨W5.heap.size + 1, 0, none⟩) 0 0) 0 (hC []) (by rfl) (by exact hl3) ⟨ba, off, none⟩ k cap (hC l) (by rfl) (by rw [hC_len, HNl.out]) (by exact (HKeep.out _ hW6).news) hC_one kp (by unfold maxLen; omega) (by omega) (by first | exact hS1 | exact hS2 | exact hS3 | exact hS5 | exact hS6 | exact hS7.out | exact Nat.le_trans hS7.out (by rw [World.size_alloc]; omega)) _ rfl ?_; intro g7 cap7 w7 hown7r hgrow7 hat7 hlt7; have hown7 : w7.ownsRow H1 35 3 (.slice (some ⟨g7, 0, none⟩) k cap7) k (hC l) := (by rw [Nat.zero_add] at hown7r; exact hown7r); have HB7 : Hid (Below H1 W5 w7) := Lib.hid ((hW6).grown hgrow7 (hS6) (fun k hk => by injection hk with hk; show H1 ≤ k; rw [← hk]; show H1 ≤ W5.heap.size + 1; omega)); have hS7 : Hid (H1 ≤ w7.heap.size) := Lib.hid (by have := HB7.out.size; rw [HH1.out] at this; exact this)) | (refine step_append_lies _ (by rfl) _ _ _ (by rfl) H1 35 i5 (.agg #[.int .i64 0, .int .i64 0, .int .i64 0]) 3 24 Try.underlying22 hi hz0 hz1 hz2 rfl (by decide) (.slice (some ⟨g7, 0, none⟩) k cap7) k (hC l) (by rfl) (by exact (hown7.alloc _)) ⟨w7.heap.size, 0, none⟩ 1 1 (hC [(x, y, z)]) (by rfl) (by rfl) (by exact (hlit1 w7 x y z).news) hC_one (by omega) (by unfold maxLen; omega) (by omega) (by first | exact hS1 | exact hS2 | exact hS3 | exact hS5 | exact hS6 | exact hS7.out | exact Nat.le_trans hS7.out (by rw [World.size_alloc]; omega)) _ rfl ?_; intro g8 cap8 w8 hown8 hgrow8 hat8 hlt8; have HB8 : Hid (Below H1 W5 w8) := Lib.hid ((HB7.out.alloc hS7.out _).grown hgrow8 (Nat.le_trans hS7.out (by rw [World.size_alloc]; omega)) (fun k hk => by injection hk with hk; show H1 ≤ k; rw [← hk]; exact (hown7.lt g7 rfl).1))) | (refine step_append_lies _ (by rfl) _ _ _ (by rfl) H1 35 i5 (.agg #[.int .i64 0, .int .i64 0, .int .i64 0]) 3 24 Try.underlying22 hi hz0 hz1 hz2 rfl (by decide) (.slice (some ⟨g7, 0, none⟩) k cap7) k (hC l) (by rfl) (by exact hown7) ⟨W5.heap.size + 1, 0, none⟩ 1 1 (hC [(x, y, z)]) (by rfl) (by rfl) (by exact (hat_grown hx2 hgrow7 (by intro e; injection e with e; have e : W5.heap.size + 1 = W5.heap.size := e; omega) hgrow7.size).news) hC_one (by omega) (by unfold maxLen; omega) (by omega) (by first | exact hS1 | exact hS2 | exact hS3 | exact hS5 | exact hS6 | exact hS7.out | exact Nat.le_trans hS7.out (by rw [World.size_alloc]; omega)) _ rfl ?_; intro g8 cap8 w8 hown8 hgrow8 hat8 hlt8; have HB8 : Hid (Below H1 W5 w8) := Lib.hid ((HB7.out).grown hgrow8 (hS7.out) (fun k hk => by injection hk with hk; show H1 ≤ k; rw [← hk]; exact (hown7.lt g7 rfl).1))) | (refine step_append_lies _ (by rfl) _ _ _ (by rfl) H1 35 i5 (.agg #[.int .i64 0, .int .i64 0, .int .i64 0]) 3 24 Try.underlying22 hi hz0 hz1 hz2 rfl (by decide) (.slice (some ⟨g7, 0, none⟩) k cap7) k (hC l) (by rfl) (by exact hown7) ⟨W5.heap.size, 0, none⟩ 1 1 (hC [(x, y, z)]) (by rfl) (by rfl) (by exact (hat_grown hx3 hgrow7 (by intro e; injection e with e; have e : W5.heap.size = W5.heap.size + 1 := e; omega) hgrow7.size).news) hC_one (by omega) (by unfold maxLen; omega) (by omega) (by first | exact hS1 | exact hS2 | exact hS3 | exact hS5 | exact hS6 | exact hS7.out | exact Nat.le_trans hS7.out (by rw [World.size_alloc]; omega)) _ rfl ?_; intro g8 cap8 w8 hown8 hgrow8 hat8 hlt8; have HB8 : Hid (Below H1 W5 w8) := Lib.hid ((HB7.out).grown hgrow8 (hS7.out) (fun k hk => by injection hk with hk; show H1 ≤ k; rw [← hk]; exact (hown7.lt g7 rfl).1))) | (refine step_append_lies _ (by rfl) _ _ _ (by rfl) H1 35 i5 (.agg #[.int .i64 0, .int .i64 0, .int .i64 0]) 3 24 Try.underlying22 hi hz0 hz1 hz2 rfl (by decide) (.slice (some ⟨g7, 0, none⟩) (0 + k) cap7) (0 + k) (hC l) (by rfl) (by exact hown7r) ⟨W5.heap.size + 1, 0, none⟩ 1 1 (hC [(x, y, z)]) (by rfl) (by rfl) (by exact (hat_grown hx2 hgrow7 (by intro e; injection e with e; have e : W5.heap.size + 1 = W5.heap.size := e; omega) hgrow7.size).news) hC_one (by omega) (by unfold maxLen; omega) (by omega) (by first | exact hS1 | exact hS2 | exact hS3 | exact hS5 | exact hS6 | exact hS7.out | exact Nat.le_trans hS7.out (by rw [World.size_alloc]; omega)) _ rfl ?_; intro g8 cap8 w8 hown8 hgrow8 hat8 hlt8; have HB8 : Hid (Below H1 W5 w8) := Lib.hid ((HB7.out).grown hgrow8 (hS7.out) (fun k hk => by injection hk with hk; show H1 ≤ k; rw [← hk]; exact (hown7.lt g7 rfl).1))) | (refine step_append_lies _ (by rfl) _ _ _ (by rfl) H1 35 i5 (.agg #[.int .i64 0, .int .i64 0, .int .i64 0]) 3 24 Try.underlying22 hi hz0 hz1 hz2 rfl (by decide) (.slice (some ⟨g7, 0, none⟩) (0 + k) cap7) (0 + k) (hC l) (by rfl) (by exact hown7r) ⟨(W5.alloc (.cells #[] 35)).drew.heap.size, 0, none⟩ 1 1 (hC [(x, y, z)]) (by rfl) (by rfl) (by exact (hat_grown (hlit1 (W5.alloc (.cells #[] 35)).drew x y z) hgrow7 (by intro e; injection e with e; have e : (W5.alloc (.cells #[] 35)).heap.size = W5.heap.size := e; have e2 : (W5.alloc (.cells #[] 35)).heap.size = W5.heap.size + 1 := World.size_alloc ..; omega) hgrow7.size).news) hC_one (by omega) (by unfold maxLen; omega) (by omega) (by first | exact hS1 | exact hS2 | exact hS3 | exact hS5 | exact hS6 | exact hS7.out | exact Nat.le_trans hS7.out (by rw [World.size_alloc]; omega)) _ rfl ?_; intro g8 cap8 w8 hown8 hgrow8 hat8 hlt8; have HB8 : Hid (Below H1 W5 w8) := Lib.hid ((HB7.out).grown hgrow8 (hS7.out) (fun k hk => by injection hk with hk; show H1 ≤ k; rw [← hk]; exact (hown7.lt g7 rfl).1))) | (refine step_append_lies _ (by rfl) _ _ _ (by rfl) H1 35 i5 (.agg #[.int .i64 0, .int .i64 0, .int .i64 0]) 3 24 Try.underlying22 hi hz0 hz1 hz2 rfl (by decide) (.slice (some ⟨g7, 0, none⟩) (0 + k) cap7) (0 + k) (hC l) (by rfl) (by exact hown7r) ⟨W5.heap.size, 0, none⟩ 1 1 (hC [(x, y, z)]) (by rfl) (by rfl) (by exact (hat_grown hx3 hgrow7 (by intro e; injection e with e; have e : W5.heap.size = W5.heap.size + 1 := e; omega) hgrow7.size).news) hC_one (by omega) (by unfold maxLen; omega) (by omega) (by first | exact hS1 | exact hS2 | exact hS3 | exact hS5 | exact hS6 | exact hS7.out | exact Nat.le_trans hS7.out (by rw [World.size_alloc]; omega)) _ rfl ?_; intro g8 cap8 w8 hown8 hgrow8 hat8 hlt8; have HB8 : Hid (Below H1 W5 w8) := Lib.hid ((HB7.out).grown hgrow8 (hS7.out) (fun k hk => by injection hk with hk; show H1 ≤ k; rw [← hk]; exact (hown7.lt g7 rfl).1))) | (go_at_call 9; refine (PT3.out _ (by omega) _ _ _ (own_hat (l := l ++ [(x, y, z)]) (by rw [hC_app]; exact hown8) (by rw [List.length_append, HNl.out]; show k + 1 = _; omega))).mono ?_; rintro e w9 ⟨rfl, hb9⟩; have HB9 : Hid (Below H1 W5 w9) := Lib.hid (HB8.out.trans (hb9.mono (by have := HB8.out.size; rw [HH1.out] at this; exact this)))))
          all_goals
            clear hW1 hS1 hW2 hS2 hW5 hS5 hW6 hS6 hx2 hx3 hl3 x0 x1 x2 hi hz0 hz1 hz2 hown7r hown7 hgrow7 hat7 hlt7 hown8 hgrow8 hat8 hlt8 k0 k1 kz kp kn
            have HB10 := Lib.hid (show Below N w w9 from HB5.out.1.trans (HB9.out.mono (by rw [← HH1.out]; exact HB5.out.2)))
            obtain ⟨p0, p1, p2, d, e1, e2, e3, e4, g0, g1, g2, g3, g4, g5⟩ := LAST.out
            clear HB5 HB7 HB8 HB9 hS7 HA5 HTk HKeep HNh HSw HZ
            obtain ⟨rs1, rs2, pb0, pb1, pb2⟩ := e4
            have q16 := g0 (by omega)
            have q17 := g1 (by omega)
            have q18 := g2 (by omega)
            have q19 := g3 (by omega)
            have q20 := g4 (by omega)
            have q21 := g5 (by omega)
            have b16 : (16 : Int) < (R.size : Int) := by omega
            have b17 : (17 : Int) < (R.size : Int) := by omega
            have b18 : (18 : Int) < (R.size : Int) := by omega
            have b19 : (19 : Int) < (R.size : Int) := by omega
            have b20 : (20 : Int) < (R.size : Int) := by omega
            have b21 : (21 : Int) < (R.size : Int) := by omega
            have n20 : 8 * (R3.size : Int) - 8 * (R.size : Int) = (d : Int) := by omega
            have m3 : R3.size ≤ 30000 := by omega
            clear g0 g1 g2 g3 g4 g5 e1
            go_wp2_with fail
            go_quiet (fail)
            clear q16 q17 q18 q19 q20 q21
            have dle : (d : Int) ≤ (p0 : Int) + (p1 : Int) + (p2 : Int) + 21 := by omega
            have HB11 := Lib.hid (fun m => (show Below N w (w9.drewN m) from ⟨HB10.out.os, HB10.out.tape, HB10.out.output, HB10.out.size, HB10.out.block⟩))
            by_cases hz : p0 + p1 + p2 = 0
            · have d0 := e3 hz
              subst d0
              have hz0 : (p0 : Int) + (p1 : Int) + (p2 : Int) = 0 := by omega
              go_wp2_with fail
              go_ret
              exact ⟨rfl, HB11.out _⟩
            · have hz0 : ¬ (p0 : Int) + (p1 : Int) + (p2 : Int) = 0 := by omega
              go_wp2_with fail
              go_ret
              exact ⟨rfl, HB11.out _⟩
        · skip
          clear hE2 hR2 tail hs hsz
          go_wp2_with fail
          refine PT2.out.mono ?_
          rintro e w4 ⟨rfl, hb⟩
          have HB4 := Lib.hid (step_no HSw.out.1 HSw.out.2 hb)
          have HA4 := Lib.hid (HAr.out.below hb)
          clear hb
          go_wp2_with fail
          go_quiet (fail)
          obtain ⟨W5, hW5⟩ : ∃ W5, w4.drewN nq = W5 := ⟨_, rfl⟩
          have HB5 := Lib.hid (show Below N w W5 ∧ N ≤ W5.heap.size by rw [← hW5]; exact ⟨⟨HB4.out.1.os, HB4.out.1.tape, HB4.out.1.output, HB4.out.1.size, HB4.out.1.block⟩, HB4.out.2⟩)
          have HA5 := Lib.hid (show HAt W5 A l by rw [← hW5]; exact HA4.out)
          try rw [hW5]
          clear hW5 HB4 HA4
          go_upto_region 17 with fail
          obtain ⟨K, hK, hK2⟩ : ∃ K : Nat, q.tmod (k : Int) = (K : Int) ∧ K < k := by
            have hq0 := of_decide_eq_false q0
            have hk0 : ¬ (k : Int) = 0 := by simpa using n0
            refine ⟨(q.tmod (k : Int)).toNat, ?_, ?_⟩
            · have := Int.tmod_nonneg (k : Int) (show 0 ≤ q by omega)
              omega
            · have h1 := Int.tmod_lt_of_pos q (show (0 : Int) < (k : Int) by omega)
              have := Int.tmod_nonneg (k : Int) (show 0 ≤ q by omega)
              omega
          have hKl : K < l.length := by rw [HNl.out]; exact hK2
          obtain ⟨ba, off, hAe, hbl, x0, x1, x2⟩ := HA5.out K hKl
          subst hAe
          have HT5 := Lib.hid (show ∀ W, Below W5.heap.size W5 W → W.cell? ⟨ba, off + K * 3, none⟩ = some (.int .i64 l[K].1) ∧ W.cell? ⟨ba, off + K * 3 + 1, none⟩ = some (.int .i64 l[K].2.1) ∧ W.cell? ⟨ba, off + K * 3 + 2, none⟩ = some (.int .i64 l[K].2.2) from fun W hW => ⟨(hW.cell (p := ⟨ba, _, none⟩) hbl).trans x0, (hW.cell (p := ⟨ba, _, none⟩) hbl).trans x1, (hW.cell (p := ⟨ba, _, none⟩) hbl).trans x2⟩)
          obtain ⟨x, hx⟩ : ∃ x, l[K].1 = x := ⟨_, rfl⟩
          obtain ⟨y, hy⟩ : ∃ x, l[K].2.1 = x := ⟨_, rfl⟩
          obtain ⟨z, hz⟩ : ∃ x, l[K].2.2 = x := ⟨_, rfl⟩
          rw [hx, hy, hz] at HT5
          rw [hx] at x0
          rw [hy] at x1
          rw [hz] at x2
          have HLK := Lib.hid (show l[K] = (x, y, z) by rw [← hx, ← hy, ← hz])
          have k0 : (0 : Int) ≤ (K : Int) := by omega
          have k1 : (K : Int) < (k : Int) := by omega
          have kz : ¬ (k : Int) = 0 := by omega
          have kp : 0 < k := by omega
          have kn : ¬ k = 0 := by omega
          have H0K := Lib.hid hKl
          clear hx hy hz
          obtain ⟨H1, hH1⟩ : ∃ H, W5.heap.size = H := ⟨_, rfl⟩
          have HH1 := Lib.hid hH1
          rw [hH1] at HT5
          have HTk := Lib.hid HT5.out
          have HKeep := Lib.hid (fun W (hW : Below H1 W5 W) => HA5.out.below (by rw [HH1.out]; exact hW))
          have hle : H1 ≤ W5.heap.size := by rw [HH1.out]; exact Nat.le_refl _
          have hW1 : Below H1 W5 (W5.alloc (.cells #[] 35)).drew := ((Below.refl H1 W5).alloc hle _).drew
          have hS1 : H1 ≤ (W5.alloc (.cells #[] 35)).drew.heap.size := by have := hW1.size; omega
          have hW2 : Below H1 W5 ((W5.alloc (.cells #[] 35)).drew.alloc (.cells #[.int .i64 x, .int .i64 y, .int .i64 z] 35)) := hW1.alloc hS1 _
          have hS2 : H1 ≤ ((W5.alloc (.cells #[] 35)).drew.alloc (.cells #[.int .i64 x, .int .i64 y, .int .i64 z] 35)).heap.size := by have := hW2.size; omega
          have hW5 : Below H1 W5 (W5.alloc (.cells #[.int .i64 x, .int .i64 y, .int .i64 z] 35)).drew := ((Below.refl H1 W5).alloc hle _).drew
          have hS5 : H1 ≤ (W5.alloc (.cells #[.int .i64 x, .int .i64 y, .int .i64 z] 35)).drew.heap.size := by have := hW5.size; omega
          have hW6 : Below H1 W5 ((W5.alloc (.cells #[.int .i64 x, .int .i64 y, .int .i64 z] 35)).drew.alloc (.cells #[] 35)) := hW5.alloc hS5 _
          have hS6 : H1 ≤ ((W5.alloc (.cells #[.int .i64 x, .int .i64 y, .int .i64 z] 35)).drew.alloc (.cells #[] 35)).heap.size := by have := hW6.size; omega
          have hx2 : HAt ((W5.alloc (.cells #[] 35)).drew.alloc (.cells #[.int .i64 x, .int .i64 y, .int .i64 z] 35)) (some ⟨W5.heap.size + 1, 0, none⟩) [(x, y, z)] := by
            have h := hlit1 (W5.alloc (.cells #[] 35)).drew x y z
            rwa [show (W5.alloc (.cells #[] 35)).drew.heap.size = W5.heap.size + 1 from World.size_alloc ..] at h
          have hl3 : ((W5.alloc (.cells #[.int .i64 x, .int .i64 y, .int .i64 z] 35)).drew.alloc (.cells #[] 35)).ownsRow H1 35 3 (.slice (some ⟨W5.heap.size + 1, 0, none⟩) 0 0) 0 (hC []) := by
            have h := hlit0 (W5.alloc (.cells #[.int .i64 x, .int .i64 y, .int .i64 z] 35)).drew H1 hS5
            rwa [show (W5.alloc (.cells #[.int .i64 x, .int .i64 y, .int .i64 z] 35)).drew.heap.size = W5.heap.size + 1 from World.size_alloc ..] at h
          have hx3 : HAt ((W5.alloc (.cells #[.int .i64 x, .int .i64 y, .int .i64 z] 35)).drew.alloc (.cells #[] 35)) (some ⟨W5.heap.size, 0, none⟩) [(x, y, z)] := by
            have hb : Below (W5.alloc (.cells #[.int .i64 x, .int .i64 y, .int .i64 z] 35)).heap.size (W5.alloc (.cells #[.int .i64 x, .int .i64 y, .int .i64 z] 35)) ((W5.alloc (.cells #[.int .i64 x, .int .i64 y, .int .i64 z] 35)).drew.alloc (.cells #[] 35)) := (Below.refl _ (W5.alloc (.cells #[.int .i64 x, .int .i64 y, .int .i64 z] 35))).drew.alloc (Nat.le_refl _) _
            exact (hlit1 W5 x y z).below hb
          obtain ⟨i5, hi, he5⟩ := Option.map_eq_some_iff.1 info_hint
          injection he5 with hz0 h2
          injection h2 with hz1 hz2
          obtain ⟨R3, hR3⟩ : ∃ R : ByteArray, ⟨(textB (l ++ [(x, y, z)])).toArray⟩ = R := ⟨_, rfl⟩
          have hE3 : textE (l ++ [(x, y, z)]) = 0 := textE_app (by rw [← HLK.out]; exact List.getElem_mem _) hE (by rw [HNl.out]; exact hn300)
          have PT3 := Lib.hid (fun (m : Nat) (hm : m = k + 1) (A : Option Addr) (cp : Nat) (W : World) (h : HAt W A (l ++ [(x, y, z)])) => text_c A cp (l ++ [(x, y, z)]) 0 R3 m W h (by rw [List.length_append, HNl.out, hm]; rfl) (by omega) hE3 hR3)
          have LAST := Lib.hid (last_of hE (by rw [HNl.out]; exact hn300) (List.getElem_mem hKl) HLK.out (bytes_of hR) (bytes_of hR3))
          clear hH1 HT5
          go_region_held3 (fun W => W.cell? ⟨ba, off + K * 3, none⟩ = some (.int .i64 x) ∧ W.cell? ⟨ba, off + K * 3 + 1, none⟩ = some (.int .i64 y) ∧ W.cell? ⟨ba, off + K * 3 + 2, none⟩ = some (.int .i64 z)) (first | exact ⟨x0, x1, x2⟩ | exact HTk.out _ hW1 | exact HTk.out _ hW2 | exact HTk.out _ hW5 | exact HTk.out _ hW6 | exact HTk.out _ HB8.out | exact HTk.out _ HB7.out | exact HTk.out _ (HB7.out.alloc hS7.out _) | exact HTk.out _ HB9.out) (first | (refine step_append_lies _ (by rfl) _ _ _ (by rfl) H1 35 i5 (.agg #[.int .i64 0, .int .i64 0, .int .i64 0]) 3 24 Try.underlying22 hi hz0 hz1 hz2 rfl (by decide) (.slice (some ⟨W5.heap.size, 0, none⟩) 0 0) 0 (hC []) (by rfl) (by exact ((hlit0 W5 H1 hle).drew)) ⟨ba, off, none⟩ k cap (hC l) (by rfl) (by rw [hC_len, HNl.out]) (by exact (HKeep.out _ hW1).news) hC_one kp (by unfold maxLen; omega) (by omega) (by first | exact hS1 | exact hS2 | exact hS3 | exact hS5 | exact hS6 | exact hS7.out | exact Nat.le_trans hS7.out (by rw [World.size_alloc]; omega)) _ rfl ?_; intro g7 cap7 w7 hown7r hgrow7 hat7 hlt7; have hown7 : w7.ownsRow H1 35 3 (.slice (some ⟨g7, 0, none⟩) k cap7) k (hC l) := (by rw [Nat.zero_add] at hown7r; exact hown7r); have HB7 : Hid (Below H1 W5 w7) := Lib.hid ((hW1).grown hgrow7 (hS1) (fun k hk => by injection hk with hk; show H1 ≤ k; rw [← hk]; exact hle)); have hS7 : Hid (H1 ≤ w7.heap.size) := Lib.hid (by have := HB7.out.size; rw [HH1.out] at this; exact this)) | (refine step_append_lies _ (by rfl) _ _ _ (by rfl) H1 35 i5 (.agg #[.int .i64 0, .int .i64 0, .int .i64 0]) 3 24 Try.underlying22 hi hz0 hz1 hz2 rfl (by decide) (.slice (some ⟨W5.heap.size, 0, none⟩) 0 0) 0 (hC []) (by rfl) (by exact (((hlit0 W5 H1 hle).drew).alloc _)) ⟨ba, off, none⟩ k cap (hC l) (by rfl) (by rw [hC_len, HNl.out]) (by exact (HKeep.out _ hW2).news) hC_one kp (by unfold maxLen; omega) (by omega) (by first | exact hS1 | exact hS2 | exact hS3 | exact hS5 | exact hS6 | exact hS7.out | exact Nat.le_trans hS7.out (by rw [World.size_alloc]; omega)) _ rfl ?_; intro g7 cap7 w7 hown7r hgrow7 hat7 hlt7; have hown7 : w7.ownsRow H1 35 3 (.slice (some ⟨g7, 0, none⟩) k cap7) k (hC l) := (by rw [Nat.zero_add] at hown7r; exact hown7r); have HB7 : Hid (Below H1 W5 w7) := Lib.hid ((hW2).grown hgrow7 (hS2) (fun k hk => by injection hk with hk; show H1 ≤ k; rw [← hk]; exact hle)); have hS7 : Hid (H1 ≤ w7.heap.size) := Lib.hid (by have := HB7.out.size; rw [HH1.out] at this; exact this)) | (refine step_append_lies _ (by rfl) _ _ _ (by rfl) H1 35 i5 (.agg #[.int .i64 0, .int .i64 0, .int .i64 0]) 3 24 Try.underlying22 hi hz0 hz1 hz2 rfl (by decide) (.slice (some ⟨W5.heap.size + 1, 0, none⟩) 0 0) 0 (hC []) (by rfl) (by exact hl3) ⟨ba, off, none⟩ k cap (hC l) (by rfl) (by rw [hC_len, HNl.out]) (by exact (HKeep.out _ hW6).news) hC_one kp (by unfold maxLen; omega) (by omega) (by first | exact hS1 | exact hS2 | exact hS3 | exact hS5 | exact hS6 | exact hS7.out | exact Nat.le_trans hS7.out (by rw [World.size_alloc]; omega)) _ rfl ?_; intro g7 cap7 w7 hown7r hgrow7 hat7 hlt7; have hown7 : w7.ownsRow H1 35 3 (.slice (some ⟨g7, 0, none⟩) k cap7) k (hC l) := (by rw [Nat.zero_add] at hown7r; exact hown7r); have HB7 : Hid (Below H1 W5 w7) := Lib.hid ((hW6).grown hgrow7 (hS6) (fun k hk => by injection hk with hk; show H1 ≤ k; rw [← hk]; show H1 ≤ W5.heap.size + 1; omega)); have hS7 : Hid (H1 ≤ w7.heap.size) := Lib.hid (by have := HB7.out.size; rw [HH1.out] at this; exact this)) | (refine step_append_lies _ (by rfl) _ _ _ (by rfl) H1 35 i5 (.agg #[.int .i64 0, .int .i64 0, .int .i64 0]) 3 24 Try.underlying22 hi hz0 hz1 hz2 rfl (by decide) (.slice (some ⟨g7, 0, none⟩) k cap7) k (hC l) (by rfl) (by exact (hown7.alloc _)) ⟨w7.heap.size, 0, none⟩ 1 1 (hC [(x, y, z)]) (by rfl) (by rfl) (by exact (hlit1 w7 x y z).news) hC_one (by omega) (by unfold maxLen; omega) (by omega) (by first | exact hS1 | exact hS2 | exact hS3 | exact hS5 | exact hS6 | exact hS7.out | exact Nat.le_trans hS7.out (by rw [World.size_alloc]; omega)) _ rfl ?_; intro g8 cap8 w8 hown8 hgrow8 hat8 hlt8; have HB8 : Hid (Below H1 W5 w8) := Lib.hid ((HB7.out.alloc hS7.out _).grown hgrow8 (Nat.le_trans hS7.out (by rw [World.size_alloc]; omega)) (fun k hk => by injection hk with hk; show H1 ≤ k; rw [← hk]; exact (hown7.lt g7 rfl).1))) | (refine step_append_lies _ (by rfl) _ _ _ (by rfl) H1 35 i5 (.agg #[.int .i64 0, .int .i64 0, .int .i64 0]) 3 24 Try.underlying22 hi hz0 hz1 hz2 rfl (by decide) (.slice (some ⟨g7, 0, none⟩) k cap7) k (hC l) (by rfl) (by exact hown7) ⟨W5.heap.size + 1, 0, none⟩ 1 1 (hC [(x, y, z)]) (by rfl) (by rfl) (by exact (hat_grown hx2 hgrow7 (by intro e; injection e with e; have e : W5.heap.size + 1 = W5.heap.size := e; omega) hgrow7.size).news) hC_one (by omega) (by unfold maxLen; omega) (by omega) (by first | exact hS1 | exact hS2 | exact hS3 | exact hS5 | exact hS6 | exact hS7.out | exact Nat.le_trans hS7.out (by rw [World.size_alloc]; omega)) _ rfl ?_; intro g8 cap8 w8 hown8 hgrow8 hat8 hlt8; have HB8 : Hid (Below H1 W5 w8) := Lib.hid ((HB7.out).grown hgrow8 (hS7.out) (fun k hk => by injection hk with hk; show H1 ≤ k; rw [← hk]; exact (hown7.lt g7 rfl).1))) | (refine step_append_lies _ (by rfl) _ _ _ (by rfl) H1 35 i5 (.agg #[.int .i64 0, .int .i64 0, .int .i64 0]) 3 24 Try.underlying22 hi hz0 hz1 hz2 rfl (by decide) (.slice (some ⟨g7, 0, none⟩) k cap7) k (hC l) (by rfl) (by exact hown7) ⟨W5.heap.size, 0, none⟩ 1 1 (hC [(x, y, z)]) (by rfl) (by rfl) (by exact (hat_grown hx3 hgrow7 (by intro e; injection e with e; have e : W5.heap.size = W5.heap.size + 1 := e; omega) hgrow7.size).news) hC_one (by omega) (by unfold maxLen; omega) (by omega) (by first | exact hS1 | exact hS2 | exact hS3 | exact hS5 | exact hS6 | exact hS7.out | exact Nat.le_trans hS7.out (by rw [World.size_alloc]; omega)) _ rfl ?_; intro g8 cap8 w8 hown8 hgrow8 hat8 hlt8; have HB8 : Hid (Below H1 W5 w8) := Lib.hid ((HB7.out).grown hgrow8 (hS7.out) (fun k hk => by injection hk with hk; show H1 ≤ k; rw [← hk]; exact (hown7.lt g7 rfl).1))) | (refine step_append_lies _ (by rfl) _ _ _ (by rfl) H1 35 i5 (.agg #[.int .i64 0, .int .i64 0, .int .i64 0]) 3 24 Try.underlying22 hi hz0 hz1 hz2 rfl (by decide) (.slice (some ⟨g7, 0, none⟩) (0 + k) cap7) (0 + k) (hC l) (by rfl) (by exact hown7r) ⟨W5.heap.size + 1, 0, none⟩ 1 1 (hC [(x, y, z)]) (by rfl) (by rfl) (by exact (hat_grown hx2 hgrow7 (by intro e; injection e with e; have e : W5.heap.size + 1 = W5.heap.size := e; omega) hgrow7.size).news) hC_one (by omega) (by unfold maxLen; omega) (by omega) (by first | exact hS1 | exact hS2 | exact hS3 | exact hS5 | exact hS6 | exact hS7.out | exact Nat.le_trans hS7.out (by rw [World.size_alloc]; omega)) _ rfl ?_; intro g8 cap8 w8 hown8 hgrow8 hat8 hlt8; have HB8 : Hid (Below H1 W5 w8) := Lib.hid ((HB7.out).grown hgrow8 (hS7.out) (fun k hk => by injection hk with hk; show H1 ≤ k; rw [← hk]; exact (hown7.lt g7 rfl).1))) | (refine step_append_lies _ (by rfl) _ _ _ (by rfl) H1 35 i5 (.agg #[.int .i64 0, .int .i64 0, .int .i64 0]) 3 24 Try.underlying22 hi hz0 hz1 hz2 rfl (by decide) (.slice (some ⟨g7, 0, none⟩) (0 + k) cap7) (0 + k) (hC l) (by rfl) (by exact hown7r) ⟨(W5.alloc (.cells #[] 35)).drew.heap.size, 0, none⟩ 1 1 (hC [(x, y, z)]) (by rfl) (by rfl) (by exact (hat_grown (hlit1 (W5.alloc (.cells #[] 35)).drew x y z) hgrow7 (by intro e; injection e with e; have e : (W5.alloc (.cells #[] 35)).heap.size = W5.heap.size := e; have e2 : (W5.alloc (.cells #[] 35)).heap.size = W5.heap.size + 1 := World.size_alloc ..; omega) hgrow7.size).news) hC_one (by omega) (by unfold maxLen; omega) (by omega) (by first | exact hS1 | exact hS2 | exact hS3 | exact hS5 | exact hS6 | exact hS7.out | exact Nat.le_trans hS7.out (by rw [World.size_alloc]; omega)) _ rfl ?_; intro g8 cap8 w8 hown8 hgrow8 hat8 hlt8; have HB8 : Hid (Below H1 W5 w8) := Lib.hid ((HB7.out).grown hgrow8 (hS7.out) (fun k hk => by injection hk with hk; show H1 ≤ k; rw [← hk]; exact (hown7.lt g7 rfl).1))) | (refine step_append_lies _ (by rfl) _ _ _ (by rfl) H1 35 i5 (.agg #[.int .i64 0, .int .i64 0, .int .i64 0]) 3 24 Try.underlying22 hi hz0 hz1 hz2 rfl (by decide) (.slice (some ⟨g7, 0, none⟩) (0 + k) cap7) (0 + k) (hC l) (by rfl) (by exact hown7r) ⟨W5.heap.size, 0, none⟩ 1 1 (hC [(x, y, z)]) (by rfl) (by rfl) (by exact (hat_grown hx3 hgrow7 (by intro e; injection e with e; have e : W5.heap.size = W5.heap.size + 1 := e; omega) hgrow7.size).news) hC_one (by omega) (by unfold maxLen; omega) (by omega) (by first | exact hS1 | exact hS2 | exact hS3 | exact hS5 | exact hS6 | exact hS7.out | exact Nat.le_trans hS7.out (by rw [World.size_alloc]; omega)) _ rfl ?_; intro g8 cap8 w8 hown8 hgrow8 hat8 hlt8; have HB8 : Hid (Below H1 W5 w8) := Lib.hid ((HB7.out).grown hgrow8 (hS7.out) (fun k hk => by injection hk with hk; show H1 ≤ k; rw [← hk]; exact (hown7.lt g7 rfl).1))) | (go_at_call 9; refine (PT3.out _ (by omega) _ _ _ (own_hat (l := l ++ [(x, y, z)]) (by rw [hC_app]; exact hown8) (by rw [List.length_append, HNl.out]; show k + 1 = _; omega))).mono ?_; rintro e w9 ⟨rfl, hb9⟩; have HB9 : Hid (Below H1 W5 w9) := Lib.hid (HB8.out.trans (hb9.mono (by have := HB8.out.size; rw [HH1.out] at this; exact this)))))
          all_goals
            clear hW1 hS1 hW2 hS2 hW5 hS5 hW6 hS6 hx2 hx3 hl3 x0 x1 x2 hi hz0 hz1 hz2 hown7r hown7 hgrow7 hat7 hlt7 hown8 hgrow8 hat8 hlt8 k0 k1 kz kp kn
            have HB10 := Lib.hid (show Below N w w9 from HB5.out.1.trans (HB9.out.mono (by rw [← HH1.out]; exact HB5.out.2)))
            obtain ⟨p0, p1, p2, d, e1, e2, e3, e4, g0, g1, g2, g3, g4, g5⟩ := LAST.out
            clear HB5 HB7 HB8 HB9 hS7 HA5 HTk HKeep HNh HSw HZ
            obtain ⟨rs1, rs2, pb0, pb1, pb2⟩ := e4
            have q16 := g0 (by omega)
            have q17 := g1 (by omega)
            have q18 := g2 (by omega)
            have q19 := g3 (by omega)
            have q20 := g4 (by omega)
            have q21 := g5 (by omega)
            have b16 : (16 : Int) < (R.size : Int) := by omega
            have b17 : (17 : Int) < (R.size : Int) := by omega
            have b18 : (18 : Int) < (R.size : Int) := by omega
            have b19 : (19 : Int) < (R.size : Int) := by omega
            have b20 : (20 : Int) < (R.size : Int) := by omega
            have b21 : (21 : Int) < (R.size : Int) := by omega
            have n20 : 8 * (R3.size : Int) - 8 * (R.size : Int) = (d : Int) := by omega
            have m3 : R3.size ≤ 30000 := by omega
            clear g0 g1 g2 g3 g4 g5 e1
            go_wp2_with fail
            go_quiet (fail)
            clear q16 q17 q18 q19 q20 q21
            have dle : (d : Int) ≤ (p0 : Int) + (p1 : Int) + (p2 : Int) + 21 := by omega
            have HB11 := Lib.hid (fun m => (show Below N w (w9.drewN m) from ⟨HB10.out.os, HB10.out.tape, HB10.out.output, HB10.out.size, HB10.out.block⟩))
            by_cases hz : p0 + p1 + p2 = 0
            · have d0 := e3 hz
              subst d0
              have hz0 : (p0 : Int) + (p1 : Int) + (p2 : Int) = 0 := by omega
              go_wp2_with fail
              go_ret
              exact ⟨rfl, HB11.out _⟩
            · have hz0 : ¬ (p0 : Int) + (p1 : Int) + (p2 : Int) = 0 := by omega
              go_wp2_with fail
              go_ret
              exact ⟨rfl, HB11.out _⟩
  · clear hn h hN hE hR
    go_enter Try.func6, Try.ntmps6
    go_wp2_with fail
    refine HL.out.mono ?_
    rintro e w1 ⟨rfl, hb⟩
    have HB1 := Lib.hid (show Below N w w1 ∧ N ≤ w1.heap.size from ⟨hb, by have := hb.size; rw [HS.out] at this; exact this⟩)
    have HA1 := Lib.hid (HA.out.below (HS.out ▸ hb))
    clear hb
    go_wp2_with fail
    refine (PT.out w1 HA1.out).mono ?_
    rintro e w2 ⟨rfl, hb⟩
    have HB2 := Lib.hid (step_no HB1.out.1 HB1.out.2 hb)
    have HA2 := Lib.hid (HA1.out.below hb)
    clear hb
    go_wp2_with fail
    go_ret
    exact ⟨rfl, HB2.out.1⟩
end Go.Proofs.Ytkcnhdponcbjaaa
