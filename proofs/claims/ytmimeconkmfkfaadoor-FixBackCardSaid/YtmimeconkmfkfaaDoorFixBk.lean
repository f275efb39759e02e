/-
  For every n FixBack returns true: Read reverses Text, and zeros behind or a plus sign and a zero ahead change nothing (no condition on n; the library's tables hold what their text lays, as the card ties).
-/
import Derived.Test.YtmimeconkmfkfaaDoorFixRow
import Derived.Test.YtmimeconkmfkfaaDoorFixBm
namespace Go.Proofs.YtmimeconkmfkfaaDoor
open Go.ChangeShapes Go.WideShapes Go.ChangeAt Go.RowKit Fix

theorem backLaw_out (n : Int) (w : World) (hl : Live w) (h : n < -1073741824 ∨ 1073741824 < n) :
    Calls Tryd.prog 5 #[.int .i64 n] w fun e w' => e = .returned (.bool true) ∧ Below w.heap.size w w' := by
  have HL := Lib.hid hl
  have HT := Lib.hid (show textL n = (⟨#[]⟩ : ByteArray).data.toList by unfold textL; rcases h with h | h; rw [if_pos h]; rw [if_neg (by omega), if_pos h])
  clear hl
  by_cases h1 : n < -1073741824
  · clear h
    go_enter Tryd.func5, Tryd.ntmps5
    go_wp2_with fail
    refine (text_c n ⟨#[]⟩ w HL.out HT.out).mono ?_
    rintro e w1 ⟨rfl, hb1⟩
    have HB1 := Lib.hid hb1
    clear hb1
    go_wp2_with fail
    refine (lives_any _ (HL.out.below HB1.out (Nat.le_refl _))).mono ?_
    rintro e w2 ⟨rfl, hb⟩
    go_wp2_with fail
    go_ret
    exact ⟨rfl, HB1.out.trans (hb.mono HB1.out.size)⟩
  · have h2 : 1073741824 < n := by omega
    clear h
    go_enter Tryd.func5, Tryd.ntmps5
    go_wp2_with fail
    refine (text_c n ⟨#[]⟩ w HL.out HT.out).mono ?_
    rintro e w1 ⟨rfl, hb1⟩
    have HB1 := Lib.hid hb1
    clear hb1
    go_wp2_with fail
    refine (lives_any _ (HL.out.below HB1.out (Nat.le_refl _))).mono ?_
    rintro e w2 ⟨rfl, hb⟩
    go_wp2_with fail
    go_ret
    exact ⟨rfl, HB1.out.trans (hb.mono HB1.out.size)⟩

set_option maxHeartbeats 1600000 in
theorem backLaw_in (n : Int) (w0 : World) (hl : Live w0) (h1 : -1073741824 ≤ n) (h2 : n ≤ 1073741824) :
    Calls Tryd.prog 5 #[.int .i64 n] w0 fun e w' => e = .returned (.bool true) ∧ Below w0.heap.size w0 w' := by
  have HL0 := Lib.hid hl
  clear hl
  obtain ⟨t, ht⟩ := mk_bytes (textL n)
  have hts : t.size ≤ 40 := by
    have hf := frac_length (n.natAbs % 10000) (by omega)
    have hd := dec_len (n.natAbs / 10000) (by omega)
    rw [← size_list, ht, textL_in n h1 h2]
    split <;> simp <;> omega
  have b0 := text_back n 0 (by decide) h1 h2
  have b3 := text_back n 3 (by decide) h1 h2
  rw [List.replicate_zero, List.append_nil] at b0
  have e3 : (t ++ ⟨#[48, 48, 48]⟩ : ByteArray).data.toList = textL n ++ List.replicate 3 48 := by simp [ht]
  have ep : (⟨#[43, 48]⟩ ++ t : ByteArray).data.toList = [43, 48] ++ textL n := by simp [ht]
  have HT := Lib.hid (And.intro ht (And.intro b0 (And.intro (show readN (t ++ ⟨#[48, 48, 48]⟩ : ByteArray).data.toList = n ∧ readE (t ++ ⟨#[48, 48, 48]⟩ : ByteArray).data.toList = 0 by rw [e3]; exact b3) ep)))
  clear ht b0 b3 e3 ep
  by_cases h0 : 0 ≤ n
  · have bp := text_plus n h0 h2
    rw [← HT.out.2.2.2] at bp
    have HP := Lib.hid bp
    clear bp
    go_enter Tryd.func5, Tryd.ntmps5
    go_wp2_with fail
    refine (text_c n t w0 HL0.out HT.out.1.symm).mono ?_
    rintro e w1 ⟨rfl, hb⟩
    have HB1 := Lib.hid hb
    have HL1 : Hid (Live w1) := Lib.hid (HL0.out.below hb (Nat.le_refl _))
    clear hb
    go_wp2_with fail
    refine (read_c _ n 0 w1 (by omega) HL1.out (by rw [HT.out.1]; exact HT.out.2.1.1) (by rw [HT.out.1]; exact HT.out.2.1.2)).mono ?_
    rintro e w2 ⟨rfl, hb⟩
    have HB2 := Lib.hid (HB1.out.trans (hb.mono HB1.out.size))
    have HL2 : Hid (Live w2) := Lib.hid (HL1.out.below hb (Nat.le_refl _))
    clear hb
    go_wp2_with fail
    refine (read_c _ n 0 w2 (by rw [ByteArray.size_append]; show t.size + 3 ≤ _; omega) HL2.out HT.out.2.2.1.1 HT.out.2.2.1.2).mono ?_
    rintro e w3 ⟨rfl, hb⟩
    have HB3 := Lib.hid (HB2.out.trans (hb.mono HB2.out.size))
    have HL3 : Hid (Live w3) := Lib.hid (HL2.out.below hb (Nat.le_refl _))
    clear hb
    go_wp2_with fail
    refine (read_c _ n 0 w3 (by rw [ByteArray.size_append]; show 2 + t.size ≤ _; omega) HL3.out HP.out.1 HP.out.2).mono ?_
    rintro e w4 ⟨rfl, hb⟩
    have HB4 := Lib.hid (HB3.out.trans (hb.mono HB3.out.size))
    have HL4 : Hid (Live w4) := Lib.hid (HL3.out.below hb (Nat.le_refl _))
    clear hb
    go_wp2_with fail
    refine (lives_any w4 HL4.out).mono ?_
    rintro e w5 ⟨rfl, hb⟩
    go_wp2_with fail
    go_ret
    exact ⟨rfl, HB4.out.trans (hb.mono HB4.out.size)⟩
  · go_enter Tryd.func5, Tryd.ntmps5
    go_wp2_with fail
    refine (text_c n t w0 HL0.out HT.out.1.symm).mono ?_
    rintro e w1 ⟨rfl, hb⟩
    have HB1 := Lib.hid hb
    have HL1 : Hid (Live w1) := Lib.hid (HL0.out.below hb (Nat.le_refl _))
    clear hb
    go_wp2_with fail
    refine (read_c _ n 0 w1 (by omega) HL1.out (by rw [HT.out.1]; exact HT.out.2.1.1) (by rw [HT.out.1]; exact HT.out.2.1.2)).mono ?_
    rintro e w2 ⟨rfl, hb⟩
    have HB2 := Lib.hid (HB1.out.trans (hb.mono HB1.out.size))
    have HL2 : Hid (Live w2) := Lib.hid (HL1.out.below hb (Nat.le_refl _))
    clear hb
    go_wp2_with fail
    refine (read_c _ n 0 w2 (by rw [ByteArray.size_append]; show t.size + 3 ≤ _; omega) HL2.out HT.out.2.2.1.1 HT.out.2.2.1.2).mono ?_
    rintro e w3 ⟨rfl, hb⟩
    have HB3 := Lib.hid (HB2.out.trans (hb.mono HB2.out.size))
    have HL3 : Hid (Live w3) := Lib.hid (HL2.out.below hb (Nat.le_refl _))
    clear hb
    go_wp2_with fail
    refine (lives_any w3 HL3.out).mono ?_
    rintro e w5 ⟨rfl, hb⟩
    go_wp2_with fail
    go_ret
    exact ⟨rfl, HB3.out.trans (hb.mono HB3.out.size)⟩

theorem backLaw (n : Int) (w : World) (hl : Live w) :
    Calls Tryd.prog 5 #[.int .i64 n] w fun e w' => e = .returned (.bool true) ∧ Below w.heap.size w w' := by
  by_cases h : n < -1073741824 ∨ 1073741824 < n
  · exact backLaw_out n w hl h
  · exact backLaw_in n w hl (by omega) (by omega)

/-! ### The row, and its card. -/
theorem fixBack_contract (H : Type) (enc : TypeId × Value → H) (W : World) (base : Nat) (args : Array Value) (ds gs : List (DataW H)) (before : List MemPlace)
    (hval : ∀ (j : Nat) t v, Tryd.f5.params[j]? = some t → args[j]? = some v → Value.okWide Tryd.prog W .any base t v)
    (hW : DataW.Whole enc Tryd.prog Tryd.f5.params.toList Rows.fixBackSpec.vars false W args.toList ds gs before) (hL : laidMetH Tryd.prog Rows.fixBackRow.laid W) (hsh : W.ShapedOpen Tryd.prog) :
    Calls Tryd.prog 5 args W fun e W' => ∃ v, e = .returned v ∧ Rows.fixBackSpec.post enc Tryd.prog Tryd.f5 false true false false W args v W' := by
  have hW' := hW
  obtain ⟨p, q, hA0, hV, rfl, hfz, hnd⟩ := hW
  have hA : DataW.TrodAll enc Tryd.prog W 0 (fun _ => true) true Tryd.f5.params.toList args.toList ds p := hA0
  rw [Tryd.params5] at hA hval
  obtain ⟨v0, vs0, d0, ds0, p0, q0, hargs, rfl, rfl, h0, r0⟩ := trodAll_cons hA
  obtain ⟨rfl, rfl, rfl⟩ := trodAll_nil r0
  obtain rfl : args = #[v0] := by cases args; simp_all
  obtain ⟨rfl, rfl⟩ := trodVars_none hV
  obtain ⟨a0, rfl, rfl, rfl, w0⟩ := open_int Tryd.underlying2 (hval 0 2 v0 rfl rfl) h0
  clear hA0
  simp only [List.append_nil] at hW'
  refine (backLaw a0 W (live_of hL hsh)).mono fun e W' ⟨he, hb⟩ => ?_
  subst he
  exact ⟨_, rfl, post_new hW' (fun _ _ _ => trodAll_cons_mk (shut_bool Tryd.underlying4 _) trodAll_mk0) (fun _ => (trodAll_cons_mk (shut_int Tryd.underlying2 w0) trodAll_mk0)) (fun _ => rfl) hb (ok_one (by kernel_rfl) rfl (okWide_bool_mk Tryd.underlying4 _))⟩

theorem fixBack_reads (os : Os) {H : Type} (enc : TypeId × Value → H) : ∃ places, DataW.whole enc Tryd.prog ((laidWorld os).forCall (fun _ _ => 0) ⟨#[], #[.int .i64 0], []⟩).memory Tryd.f5.params.toList Rows.fixBackSpec.vars false #[(.int .i64 0 : Value)].toList 8 = some ([.lit (.int .i64 0)], [], places) :=
  ⟨[], by kernel_rfl⟩

set_option maxRecDepth 100000 in
theorem fixBack_lifted (os : Os) (started : os.Started) (H : Type) (enc : TypeId × Value → H) (F : Stop.Interp) :
    ReturnsInHanded {} Tryd.checked os 5 .any ((OpenSpec.ofChange Rows.fixBackSpec).preRow enc Tryd.prog Tryd.f5 Rows.fixBackRow.domain false Rows.fixBackRow.laid) (((OpenSpec.ofChange Rows.fixBackSpec).at F).post enc Tryd.prog Tryd.f5 false true false false) := by
  obtain ⟨places, hx⟩ := fixBack_reads os enc
  refine returnsInHanded_of_row (C := Tryd.checked) (s := OpenSpec.ofChange Rows.fixBackSpec) own started (by kernel_rfl) Tryd.func5
    (witness_row_at (enc := enc) (C := Tryd.checked) false (laidWorld os) #[.int .i64 0] (World.laidAll_os _ _ _) (by kernel_rfl) (by kernel_rfl) (by kernel_rfl)
      (OpenSpec.preRow_of_cond 8 hx (by kernel_rfl) (fun k hk => by cases hk) (by kernel_rfl) (laid_met os _))) ?_
  intro W base args ds gs before hval hW _ _ _ hL hsh _
  exact fixBack_contract H enc W base args ds gs before hval hW hL hsh

theorem fixBack_said : Rows.FixBackSaid :=
  OpenClaim.holds_of_cond 5 Tryd.f5 rfl rfl rfl rfl rfl rfl rfl ⟨rfl, rfl, rfl, rfl, rfl⟩ rfl rfl rfl rfl rfl (by kernel_rfl) Tryd.func5 (by kernel_rfl)
    (of_decide_eq_true (by kernel_rfl)) (by unfold Func.isWrapper; first | (rw [if_pos (by decide +kernel)]; kernel_rfl) | (rw [if_neg (by decide +kernel)]; exact ⟨rfl, rfl⟩))
    (fun os started H enc _ F => by rw [OpenClaim.pre_eq_preRow]; exact fixBack_lifted os started H enc F)

/-- No parameter wants a stand-in; the program's own looks are off. -/
theorem fixBack_plain (f : FuncId) (fn : Func) (hf : Tryd.pinned.checked.prog.funcNamed "foliant/foliantlaw02.FixBack" = some f) (hfn : Tryd.pinned.checked.prog.funcs[f]? = some fn) :
    true = Tryd.pinned.checked.prog.looks [] ∧ ∀ (j : Nat) t, fn.params[j]? = some t → Tryd.pinned.checked.prog.wantsStandIn t = false := by
  obtain rfl : f = 5 := Option.some.inj ((show Tryd.prog.funcNamed "foliant/foliantlaw02.FixBack" = some 5 by kernel_rfl).symm.trans hf) |>.symm
  obtain rfl : fn = Tryd.f5 := (Option.some.inj (Tryd.func5.symm.trans hfn)).symm
  refine ⟨by kernel_rfl, fun j t ht => ?_⟩
  rw [Tryd.params5] at ht
  have hm := Array.mem_of_getElem? ht
  simp only [List.mem_toArray, List.mem_cons, List.not_mem_nil, or_false] at hm
  subst hm
  exact (show Tryd.prog.wantsStandIn 2 = false by kernel_rfl)

theorem fixBack_holds : Rows.FixBackCardSaid :=
  Claim7.holds_tied_plain_at .later [] _ _ _ _ fixBack_said (fun _ h => by cases h) (by kernel_rfl) (fun _ h => by cases h) fixBack_row_tie rfl ⟨rfl, rfl⟩ (by kernel_rfl) rfl fixBack_plain (by kernel_rfl)
end Go.Proofs.YtmimeconkmfkfaaDoor
