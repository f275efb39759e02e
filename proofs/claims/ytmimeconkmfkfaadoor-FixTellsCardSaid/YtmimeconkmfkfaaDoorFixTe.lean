/-
  For every s, n and by FixTells returns true: Read, Text, Near, Whole and Root answer as the reference does (no condition on s, n and by; the library's tables hold what their text lays, as the card ties).
-/
import Derived.Test.YtmimeconkmfkfaaDoorFixRow
namespace Go.Proofs.YtmimeconkmfkfaaDoor
open Go.ChangeShapes Go.WideShapes Go.ChangeAt Go.RowKit Fix

theorem readR_c (s : ByteArray) (n e : Int) (w : World) (hn : readN s.data.toList = n) (he : readE s.data.toList = e) :
    Calls Tryd.prog 10 #[.string s] w fun en w' => en = .returned (.tuple #[.int .i64 n, .int .i64 e]) ∧ w = w' := hn ▸ he ▸ readR_any s w
theorem nearR_c (n d r e : Int) (w : World) (hd : d ≤ 9223372036854775807) (hr : nearN n d = r) (he : nearE n d = e) :
    Calls Tryd.prog 12 #[.int .i64 n, .int .i64 d] w fun en w' => en = .returned (.tuple #[.int .i64 r, .int .i64 e]) ∧ w = w' := hr ▸ he ▸ nearR_all n d w hd
theorem rootR_c (a r e : Int) (w : World) (hr : rootN a = r) (he : rootE a = e) :
    Calls Tryd.prog 14 #[.int .i64 a] w fun en w' => en = .returned (.tuple #[.int .i64 r, .int .i64 e]) ∧ w = w' := hr ▸ he ▸ rootR_any a w
theorem textR_c (n : Int) (t : ByteArray) (w : World) (ht : textL n = t.data.toList) :
    Calls Tryd.prog 16 #[.int .i64 n] w fun en w' => en = .returned (.string t) ∧ Below w.heap.size w w' :=
  (textR_any n w).mono fun _ _ ⟨h1, h2⟩ => ⟨by rw [h1, ht], h2⟩
theorem whole_c (n r : Int) (w : World) (h : nearS n 10000 = r) (h1 : -9223372036854775808 ≤ n) (h2 : n ≤ 9223372036854775807) :
    Calls Tryd.prog 17 #[.int .i64 n] w fun e w' => e = .returned (.int .i64 r) ∧ Below w.heap.size w w' :=
  (whole_any n w h1 h2).mono fun _ _ ⟨e1, k, e2⟩ => ⟨by rw [e1, h], by rw [e2]; exact below_drewN (Below.refl _ _) k⟩
theorem wholeR_c (n r : Int) (w : World) (h : nearS n 10000 = r) (h1 : -9223372036854775808 ≤ n) (h2 : n ≤ 9223372036854775807) :
    Calls Tryd.prog 18 #[.int .i64 n] w fun e w' => e = .returned (.int .i64 r) ∧ w = w' := h ▸ wholeR_any n w h1 h2

theorem tells_long (s : ByteArray) (n d : Int) (w : World) (hl : Live w) (h : 3000 < s.size) :
    Calls Tryd.prog 3 #[.string s, .int .i64 n, .int .i64 d] w fun e w' => e = .returned (.bool true) ∧ Below w.heap.size w w' := by
  have HL := Lib.hid hl
  have h' : (3000 : Int) < (s.size : Int) := by omega
  clear hl
  go_enter Tryd.func3, Tryd.ntmps3
  go_wp2_with fail
  refine (lives_any _ HL.out).mono ?_
  rintro e w2 ⟨rfl, hb⟩
  go_wp2_with fail
  go_ret
  exact ⟨rfl, hb⟩

set_option maxRecDepth 100000 in
set_option maxHeartbeats 4000000 in
theorem tells_short (s : ByteArray) (n d : Int) (w0 : World) (hl : Live w0) (h : s.size ≤ 3000) (n1 : -9223372036854775808 ≤ n) (n2 : n ≤ 9223372036854775807) (d2 : d ≤ 9223372036854775807) :
    Calls Tryd.prog 3 #[.string s, .int .i64 n, .int .i64 d] w0 fun e w' => e = .returned (.bool true) ∧ Below w0.heap.size w0 w' := by
  have HL0 := Lib.hid hl
  have h' : ¬ (3000 : Int) < (s.size : Int) := by omega
  obtain ⟨a, ha⟩ : ∃ a, readN s.data.toList = a := ⟨_, rfl⟩
  obtain ⟨u, hu⟩ : ∃ u, readE s.data.toList = u := ⟨_, rfl⟩
  obtain ⟨c, hc⟩ : ∃ c, nearN n d = c := ⟨_, rfl⟩
  obtain ⟨v, hv⟩ : ∃ v, nearE n d = v := ⟨_, rfl⟩
  obtain ⟨r, hr⟩ : ∃ r, rootN n = r := ⟨_, rfl⟩
  obtain ⟨x, hx⟩ : ∃ x, rootE n = x := ⟨_, rfl⟩
  obtain ⟨t, ht⟩ := mk_bytes (textL n)
  obtain ⟨q, hq⟩ : ∃ q, nearS n 10000 = q := ⟨_, rfl⟩
  have HA := Lib.hid (And.intro ha (And.intro hu (And.intro hc (And.intro hv (And.intro hr (And.intro hx (And.intro ht.symm hq)))))))
  clear hl ha hu hc hv hr hx ht hq
  go_enter Tryd.func3, Tryd.ntmps3
  go_wp2_with fail
  refine (read_c s a u w0 (by omega) HL0.out HA.out.1 HA.out.2.1).mono ?_
  rintro e w1 ⟨rfl, hb⟩
  have HB1 := Lib.hid hb
  have HL1 : Hid (Live w1) := Lib.hid (HL0.out.below hb (Nat.le_refl _))
  clear hb
  go_wp2_with fail
  refine (readR_c s a u w1 HA.out.1 HA.out.2.1).mono ?_
  rintro e w' ⟨rfl, rfl⟩
  go_wp2_with fail
  refine (near_c n d c v w1 d2 HA.out.2.2.1 HA.out.2.2.2.1).mono ?_
  rintro e w2 ⟨rfl, hb⟩
  have HB2 := Lib.hid (HB1.out.trans (hb.mono HB1.out.size))
  have HL2 : Hid (Live w2) := Lib.hid (HL1.out.below hb (Nat.le_refl _))
  clear hb
  go_wp2_with fail
  refine (nearR_c n d c v w2 d2 HA.out.2.2.1 HA.out.2.2.2.1).mono ?_
  rintro e w' ⟨rfl, rfl⟩
  go_wp2_with fail
  refine (root_c n r x w2 HA.out.2.2.2.2.1 HA.out.2.2.2.2.2.1).mono ?_
  rintro e w3 ⟨rfl, hb⟩
  have HB3 := Lib.hid (HB2.out.trans (hb.mono HB2.out.size))
  have HL3 : Hid (Live w3) := Lib.hid (HL2.out.below hb (Nat.le_refl _))
  clear hb
  go_wp2_with fail
  refine (rootR_c n r x w3 HA.out.2.2.2.2.1 HA.out.2.2.2.2.2.1).mono ?_
  rintro e w' ⟨rfl, rfl⟩
  go_wp2_with fail
  refine (text_c n t w3 HL3.out HA.out.2.2.2.2.2.2.1).mono ?_
  rintro e w4 ⟨rfl, hb⟩
  have HB4 := Lib.hid (HB3.out.trans (hb.mono HB3.out.size))
  have HL4 : Hid (Live w4) := Lib.hid (HL3.out.below hb (Nat.le_refl _))
  clear hb
  go_wp2_with fail
  refine (textR_c n t w4 HA.out.2.2.2.2.2.2.1).mono ?_
  rintro e w5 ⟨rfl, hb⟩
  have HB5 := Lib.hid (HB4.out.trans (hb.mono HB4.out.size))
  have HL5 : Hid (Live w5) := Lib.hid (HL4.out.below hb (Nat.le_refl _))
  clear hb
  go_wp2_with fail
  refine (whole_c n q w5 HA.out.2.2.2.2.2.2.2 n1 n2).mono ?_
  rintro e w6 ⟨rfl, hb⟩
  have HB6 := Lib.hid (HB5.out.trans (hb.mono HB5.out.size))
  have HL6 : Hid (Live w6) := Lib.hid (HL5.out.below hb (Nat.le_refl _))
  clear hb
  go_wp2_with fail
  refine (wholeR_c n q w6 HA.out.2.2.2.2.2.2.2 n1 n2).mono ?_
  rintro e w' ⟨rfl, rfl⟩
  go_wp2_with fail
  refine (lives_any w6 HL6.out).mono ?_
  rintro e w7 ⟨rfl, hb⟩
  go_wp2_with fail
  go_ret
  exact ⟨rfl, HB6.out.trans (hb.mono HB6.out.size)⟩

theorem tellsLaw (s : ByteArray) (n d : Int) (w : World) (hl : Live w) (hn : (Lit.int .i64 n).wf = true) (hd : (Lit.int .i64 d).wf = true) :
    Calls Tryd.prog 3 #[.string s, .int .i64 n, .int .i64 d] w fun e w' => e = .returned (.bool true) ∧ Below w.heap.size w w' := by
  by_cases h : 3000 < s.size
  · exact tells_long s n d w hl h
  · exact tells_short s n d w hl (by omega) (bounds_i64 hn).1 (bounds_i64 hn).2 (bounds_i64 hd).2

/-! ### The row, and its card. -/
theorem fixTells_contract (H : Type) (enc : TypeId × Value → H) (W : World) (base : Nat) (args : Array Value) (ds gs : List (DataW H)) (before : List MemPlace)
    (hval : ∀ (j : Nat) t v, Tryd.f3.params[j]? = some t → args[j]? = some v → Value.okWide Tryd.prog W .any base t v)
    (hW : DataW.Whole enc Tryd.prog Tryd.f3.params.toList Rows.fixTellsSpec.vars false W args.toList ds gs before) (hL : laidMetH Tryd.prog Rows.fixTellsRow.laid W) (hsh : W.ShapedOpen Tryd.prog) :
    Calls Tryd.prog 3 args W fun e W' => ∃ v, e = .returned v ∧ Rows.fixTellsSpec.post enc Tryd.prog Tryd.f3 false true false false W args v W' := by
  have hW' := hW
  obtain ⟨p, q, hA0, hV, rfl, hfz, hnd⟩ := hW
  have hA : DataW.TrodAll enc Tryd.prog W 0 (fun _ => true) true Tryd.f3.params.toList args.toList ds p := hA0
  rw [Tryd.params3] at hA hval
  obtain ⟨v0, vs0, d0, ds0, p0, q0, hargs, rfl, rfl, h0, r0⟩ := trodAll_cons hA
  obtain ⟨v1, vs1, d1, ds1, p1, q1, rfl, rfl, rfl, h1, r1⟩ := trodAll_cons r0
  obtain ⟨v2, vs2, d2, ds2, p2, q2, rfl, rfl, rfl, h2, r2⟩ := trodAll_cons r1
  obtain ⟨rfl, rfl, rfl⟩ := trodAll_nil r2
  obtain rfl : args = #[v0, v1, v2] := by cases args; simp_all
  obtain ⟨rfl, rfl⟩ := trodVars_none hV
  obtain ⟨a0, rfl, rfl, rfl, w0⟩ := Go.ChangeMaps.open_string Tryd.underlying9 (hval 0 9 v0 rfl rfl) h0
  obtain ⟨a1, rfl, rfl, rfl, w1⟩ := open_int Tryd.underlying2 (hval 1 2 v1 rfl rfl) h1
  obtain ⟨a2, rfl, rfl, rfl, w2⟩ := open_int Tryd.underlying2 (hval 2 2 v2 rfl rfl) h2
  clear hA0
  simp only [List.append_nil] at hW'
  refine (tellsLaw a0 a1 a2 W (live_of hL hsh) w1 w2).mono fun e W' ⟨he, hb⟩ => ?_
  subst he
  exact ⟨_, rfl, post_new hW' (fun _ _ _ => trodAll_cons_mk (shut_bool Tryd.underlying4 _) trodAll_mk0) (fun _ => (trodAll_cons_mk (Go.ChangeMaps.shut_string Tryd.underlying9 w0) (trodAll_cons_mk (shut_int Tryd.underlying2 w1) (trodAll_cons_mk (shut_int Tryd.underlying2 w2) trodAll_mk0)))) (fun _ => rfl) hb (ok_one (by kernel_rfl) rfl (okWide_bool_mk Tryd.underlying4 _))⟩

theorem fixTells_reads (os : Os) {H : Type} (enc : TypeId × Value → H) : ∃ places, DataW.whole enc Tryd.prog ((laidWorld os).forCall (fun _ _ => 0) ⟨#[], #[.string ⟨#[]⟩, .int .i64 0, .int .i64 0], []⟩).memory Tryd.f3.params.toList Rows.fixTellsSpec.vars false #[(.string ⟨#[]⟩ : Value), .int .i64 0, .int .i64 0].toList 8 = some ([.lit (.string []), .lit (.int .i64 0), .lit (.int .i64 0)], [], places) :=
  ⟨[], by kernel_rfl⟩

set_option maxRecDepth 100000 in
theorem fixTells_lifted (os : Os) (started : os.Started) (H : Type) (enc : TypeId × Value → H) (F : Stop.Interp) :
    ReturnsInHanded {} Tryd.checked os 3 .any ((OpenSpec.ofChange Rows.fixTellsSpec).preRow enc Tryd.prog Tryd.f3 Rows.fixTellsRow.domain false Rows.fixTellsRow.laid) (((OpenSpec.ofChange Rows.fixTellsSpec).at F).post enc Tryd.prog Tryd.f3 false true false false) := by
  obtain ⟨places, hx⟩ := fixTells_reads os enc
  refine returnsInHanded_of_row (C := Tryd.checked) (s := OpenSpec.ofChange Rows.fixTellsSpec) own started (by kernel_rfl) Tryd.func3
    (witness_row_at (enc := enc) (C := Tryd.checked) false (laidWorld os) #[.string ⟨#[]⟩, .int .i64 0, .int .i64 0] (World.laidAll_os _ _ _) (by kernel_rfl) (by kernel_rfl) (by kernel_rfl)
      (OpenSpec.preRow_of_cond 8 hx (by kernel_rfl) (fun k hk => by cases hk) (by kernel_rfl) (laid_met os _))) ?_
  intro W base args ds gs before hval hW _ _ _ hL hsh _
  exact fixTells_contract H enc W base args ds gs before hval hW hL hsh

theorem fixTells_said : Rows.FixTellsSaid :=
  OpenClaim.holds_of_cond 3 Tryd.f3 rfl rfl rfl rfl rfl rfl rfl ⟨rfl, rfl, rfl, rfl, rfl⟩ rfl rfl rfl rfl rfl (by kernel_rfl) Tryd.func3 (by kernel_rfl)
    (of_decide_eq_true (by kernel_rfl)) (by unfold Func.isWrapper; first | (rw [if_pos (by decide +kernel)]; kernel_rfl) | (rw [if_neg (by decide +kernel)]; exact ⟨rfl, rfl⟩))
    (fun os started H enc _ F => by rw [OpenClaim.pre_eq_preRow]; exact fixTells_lifted os started H enc F)

/-- No parameter wants a stand-in; the program's own looks are off. -/
theorem fixTells_plain (f : FuncId) (fn : Func) (hf : Tryd.pinned.checked.prog.funcNamed "foliant/foliantlaw02.FixTells" = some f) (hfn : Tryd.pinned.checked.prog.funcs[f]? = some fn) :
    true = Tryd.pinned.checked.prog.looks [] ∧ ∀ (j : Nat) t, fn.params[j]? = some t → Tryd.pinned.checked.prog.wantsStandIn t = false := by
  obtain rfl : f = 3 := Option.some.inj ((show Tryd.prog.funcNamed "foliant/foliantlaw02.FixTells" = some 3 by kernel_rfl).symm.trans hf) |>.symm
  obtain rfl : fn = Tryd.f3 := (Option.some.inj (Tryd.func3.symm.trans hfn)).symm
  refine ⟨by kernel_rfl, fun j t ht => ?_⟩
  rw [Tryd.params3] at ht
  have hm := Array.mem_of_getElem? ht
  simp only [List.mem_toArray, List.mem_cons, List.not_mem_nil, or_false] at hm
  rcases hm with rfl | rfl | rfl
  · exact (show Tryd.prog.wantsStandIn 9 = false by kernel_rfl)
  · exact (show Tryd.prog.wantsStandIn 2 = false by kernel_rfl)
  · exact (show Tryd.prog.wantsStandIn 2 = false by kernel_rfl)

theorem fixTells_holds : Rows.FixTellsCardSaid :=
  Claim7.holds_tied_plain_at .later [] _ _ _ _ fixTells_said (fun _ h => by cases h) (by kernel_rfl) (fun _ h => by cases h) fixTells_row_tie rfl ⟨rfl, rfl⟩ (by kernel_rfl) rfl fixTells_plain (by kernel_rfl)
end Go.Proofs.YtmimeconkmfkfaaDoor
