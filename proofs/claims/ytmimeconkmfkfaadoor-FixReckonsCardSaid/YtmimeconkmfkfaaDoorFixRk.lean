/-
  For every a, b and l FixReckons returns true: Mul, Div, Dot and Sum answer as the reference does (no condition on a, b and l; the library's tables hold what their text lays, as the card ties).
-/
import Derived.Test.YtmimeconkmfkfaaDoorFixRow
import Derived.Test.YtmimeconkmfkfaaDoorRowKeep
namespace Go.Proofs.YtmimeconkmfkfaaDoor
open Go.ChangeShapes Go.WideShapes Go.ChangeAt Go.RowKit Fix

theorem mulR_c (a b r e : Int) (w : World) (hr : mulN a b = r) (he : mulE a b = e) :
    Calls Tryd.prog 20 #[.int .i64 a, .int .i64 b] w fun en w' => en = .returned (.tuple #[.int .i64 r, .int .i64 e]) ∧ w = w' := hr ▸ he ▸ mulR_any a b w
theorem divR_c (a b r e : Int) (w : World) (hr : divN a b = r) (he : divE a b = e) :
    Calls Tryd.prog 22 #[.int .i64 a, .int .i64 b] w fun en w' => en = .returned (.tuple #[.int .i64 r, .int .i64 e]) ∧ w = w' := hr ▸ he ▸ divR_any a b w
theorem sumR_c (a : Option Addr) (cap : Nat) (xs : List Int) (r e : Int) (w : World) (hlen : xs.length ≤ 1000000) (hc : ReadsInts w a xs) (hr : sumN xs = r) (he : sumE xs = e) :
    Calls Tryd.prog 26 #[.slice a xs.length cap] w fun en w' => en = .returned (.tuple #[.int .i64 r, .int .i64 e]) ∧ w = w' :=
  (sumR_any a cap xs w hlen hc).mono fun _ _ ⟨h1, h2⟩ => ⟨by rw [h1, hr, he], h2.symm⟩
theorem dotR_c (a : Option Addr) (cap : Nat) (xs : List Int) (r e : Int) (w : World) (hlen : xs.length ≤ 1000000) (hc : ReadsInts w a xs) (hr : dotN xs = r) (he : dotE xs = e) :
    Calls Tryd.prog 24 #[.slice a xs.length cap] w fun en w' => en = .returned (.tuple #[.int .i64 r, .int .i64 e]) ∧ Below w.heap.size w w' :=
  (dotR_any a cap xs w hlen hc).mono fun _ _ ⟨h1, k, h2⟩ => ⟨by rw [h1, hr, he], by rw [h2]; exact below_drewN (Below.refl _ _) k⟩
theorem reads_keep {B : Nat} {w w' : World} {a : Option Addr} {xs : List Int} (h : ReadsInts w a xs) (hb : Below B w w') (hB : w.heap.size ≤ B) : ReadsInts w' a xs := reads_below h (hb.mono hB)

theorem reckons_long (a b : Int) (p : Option Addr) (cap : Nat) (xs : List Int) (w : World) (hl : Live w) (h : 300 < xs.length) :
    Calls Tryd.prog 4 #[.int .i64 a, .int .i64 b, .slice p xs.length cap] w fun e w' => e = .returned (.bool true) ∧ Below w.heap.size w w' := by
  have HL := Lib.hid hl
  have h' : (300 : Int) < (xs.length : Int) := by omega
  clear hl
  go_enter Tryd.func4, Tryd.ntmps4
  go_wp2_with fail
  refine (lives_any _ HL.out).mono ?_
  rintro e w2 ⟨rfl, hb⟩
  go_wp2_with fail
  go_ret
  exact ⟨rfl, hb⟩

set_option maxRecDepth 100000 in
set_option maxHeartbeats 4000000 in
theorem reckons_short (a b : Int) (l : Option Addr) (cap : Nat) (xs : List Int) (w0 : World) (hl : Live w0) (h : xs.length ≤ 300) (hc : ReadsInts w0 l xs) :
    Calls Tryd.prog 4 #[.int .i64 a, .int .i64 b, .slice l xs.length cap] w0 fun e w' => e = .returned (.bool true) ∧ Below w0.heap.size w0 w' := by
  have HL0 := Lib.hid hl
  have HB0 := Lib.hid (Below.refl w0.heap.size w0)
  have HR0 := Lib.hid hc
  have h' : ¬ (300 : Int) < (xs.length : Int) := by omega
  obtain ⟨p, hp⟩ : ∃ p, mulN a b = p := ⟨_, rfl⟩
  obtain ⟨u, hu⟩ : ∃ u, mulE a b = u := ⟨_, rfl⟩
  obtain ⟨q, hq⟩ : ∃ q, divN a b = q := ⟨_, rfl⟩
  obtain ⟨v, hv⟩ : ∃ v, divE a b = v := ⟨_, rfl⟩
  obtain ⟨d, hd⟩ : ∃ d, dotN xs = d := ⟨_, rfl⟩
  obtain ⟨x, hx⟩ : ∃ x, dotE xs = x := ⟨_, rfl⟩
  obtain ⟨f, hf⟩ : ∃ f, sumN xs = f := ⟨_, rfl⟩
  obtain ⟨y, hy⟩ : ∃ y, sumE xs = y := ⟨_, rfl⟩
  have HA := Lib.hid (And.intro hp (And.intro hu (And.intro hq (And.intro hv (And.intro hd (And.intro hx (And.intro hf hy)))))))
  clear hl hc hp hu hq hv hd hx hf hy
  go_enter Tryd.func4, Tryd.ntmps4
  go_wp2_with fail
  refine (mul_c a b p u w0 HA.out.1 HA.out.2.1).mono ?_
  rintro e w1 ⟨rfl, hb⟩
  have HB1 := Lib.hid (HB0.out.trans (hb.mono HB0.out.size))
  have HL1 : Hid (Live w1) := Lib.hid (HL0.out.below hb (Nat.le_refl _))
  have HR1 : Hid (ReadsInts w1 l xs) := Lib.hid (reads_keep HR0.out hb (Nat.le_refl _))
  clear hb
  go_wp2_with fail
  refine (mulR_c a b p u w1 HA.out.1 HA.out.2.1).mono ?_
  rintro e w' ⟨rfl, rfl⟩
  go_wp2_with fail
  refine (div_c a b q v w1 HA.out.2.2.1 HA.out.2.2.2.1).mono ?_
  rintro e w2 ⟨rfl, hb⟩
  have HB2 := Lib.hid (HB1.out.trans (hb.mono HB1.out.size))
  have HL2 : Hid (Live w2) := Lib.hid (HL1.out.below hb (Nat.le_refl _))
  have HR2 : Hid (ReadsInts w2 l xs) := Lib.hid (reads_keep HR1.out hb (Nat.le_refl _))
  clear hb
  go_wp2_with fail
  refine (divR_c a b q v w2 HA.out.2.2.1 HA.out.2.2.2.1).mono ?_
  rintro e w' ⟨rfl, rfl⟩
  go_wp2_with fail
  refine (dot_c l cap xs d x w2 (by omega) HR2.out HA.out.2.2.2.2.1 HA.out.2.2.2.2.2.1).mono ?_
  rintro e w3 ⟨rfl, hb⟩
  have HB3 := Lib.hid (HB2.out.trans (hb.mono HB2.out.size))
  have HL3 : Hid (Live w3) := Lib.hid (HL2.out.below hb (Nat.le_refl _))
  have HR3 : Hid (ReadsInts w3 l xs) := Lib.hid (reads_keep HR2.out hb (Nat.le_refl _))
  clear hb
  go_wp2_with fail
  refine (dotR_c l cap xs d x w3 (by omega) HR3.out HA.out.2.2.2.2.1 HA.out.2.2.2.2.2.1).mono ?_
  rintro e w4 ⟨rfl, hb⟩
  have HB4 := Lib.hid (HB3.out.trans (hb.mono HB3.out.size))
  have HL4 : Hid (Live w4) := Lib.hid (HL3.out.below hb (Nat.le_refl _))
  have HR4 : Hid (ReadsInts w4 l xs) := Lib.hid (reads_keep HR3.out hb (Nat.le_refl _))
  clear hb
  go_wp2_with fail
  refine (sum_c l cap xs f y w4 (by omega) HR4.out HA.out.2.2.2.2.2.2.1 HA.out.2.2.2.2.2.2.2).mono ?_
  rintro e w5 ⟨rfl, hb⟩
  have HB5 := Lib.hid (HB4.out.trans (hb.mono HB4.out.size))
  have HL5 : Hid (Live w5) := Lib.hid (HL4.out.below hb (Nat.le_refl _))
  have HR5 : Hid (ReadsInts w5 l xs) := Lib.hid (reads_keep HR4.out hb (Nat.le_refl _))
  clear hb
  go_wp2_with fail
  refine (sumR_c l cap xs f y w5 (by omega) HR5.out HA.out.2.2.2.2.2.2.1 HA.out.2.2.2.2.2.2.2).mono ?_
  rintro e w' ⟨rfl, rfl⟩
  go_wp2_with fail
  refine (lives_any w5 HL5.out).mono ?_
  rintro e w6 ⟨rfl, hb⟩
  go_wp2_with fail
  go_ret
  exact ⟨rfl, HB5.out.trans (hb.mono HB5.out.size)⟩

theorem reckonsLaw (a b : Int) (l : Option Addr) (cap : Nat) (xs : List Int) (w : World) (hl : Live w) (hc : ReadsInts w l xs) :
    Calls Tryd.prog 4 #[.int .i64 a, .int .i64 b, .slice l xs.length cap] w fun e w' => e = .returned (.bool true) ∧ Below w.heap.size w w' := by
  by_cases h : 300 < xs.length
  · exact reckons_long a b l cap xs w hl h
  · exact reckons_short a b l cap xs w hl (by omega) hc

theorem reads_open {w : World} {a : Addr} {zs : List Int} (len : Nat) (hcell : ∀ i, i < zs.length → w.cell? (a.add i) = some (.int .i64 (zs.getD i 0))) : ReadsInts w (some a) (zs.take len) := by
  intro j hj
  rw [List.length_take] at hj
  obtain ⟨b, off, rfl, hc⟩ := ints_at hcell (by omega)
  refine ⟨b, off, rfl, ?_⟩
  rw [hc j (by omega), List.getElem_take, List.getD_eq_getElem?_getD, List.getElem?_eq_getElem (by omega)]
  rfl

/-! ### The row, and its card. -/
theorem laidOut : laidOutB Tryd.prog = true := by kernel_rfl
theorem fixReckons_types (t : TypeId) (ht : t ∈ Tryd.f4.params.toList) : Tryd.prog.readableRec t = true ∧ t < Tryd.prog.types.size := by
  rw [Tryd.params4] at ht
  simp only [List.mem_cons, List.not_mem_nil, or_false] at ht
  rcases ht with rfl | rfl | rfl
  · exact ⟨by kernel_rfl, of_decide_eq_true (by kernel_rfl)⟩
  · exact ⟨by kernel_rfl, of_decide_eq_true (by kernel_rfl)⟩
  · exact ⟨by kernel_rfl, of_decide_eq_true (by kernel_rfl)⟩
theorem fixReckons_fn {H : Type} (ds' : List (DataW H)) (h : ds'.length = Tryd.f4.params.size) : Rows.fixReckonsSpec.fn H ds' = { results := [.lit (.bool true)], args := ds' } := by
  have h' : ds'.length = 3 := h.trans (by kernel_rfl)
  match ds', h' with
  | [_, _, _], _ => rfl
theorem fixReckons_contract (H : Type) (enc : TypeId × Value → H) (W : World) (base : Nat) (args : Array Value) (ds gs : List (DataW H)) (before : List MemPlace)
    (hval : ∀ (j : Nat) t v, Tryd.f4.params[j]? = some t → args[j]? = some v → Value.okWide Tryd.prog W .any base t v)
    (hW : DataW.Whole enc Tryd.prog Tryd.f4.params.toList Rows.fixReckonsSpec.vars false W args.toList ds gs before) (hL : laidMetH Tryd.prog Rows.fixReckonsRow.laid W) (hsh : W.ShapedOpen Tryd.prog) :
    Calls Tryd.prog 4 args W fun e W' => ∃ v, e = .returned v ∧ Rows.fixReckonsSpec.post enc Tryd.prog Tryd.f4 false true false false W args v W' := by
  have hW' := hW
  obtain ⟨p, q, hA0, hV, rfl, hfz, hnd⟩ := hW
  have hA : DataW.TrodAll enc Tryd.prog W 0 (fun _ => true) true Tryd.f4.params.toList args.toList ds p := hA0
  rw [Tryd.params4] at hA hval
  obtain ⟨v0, vs0, d0, ds0, p0, q0, hargs, rfl, rfl, h0, r0⟩ := trodAll_cons hA
  obtain ⟨v1, vs1, d1, ds1, p1, q1, rfl, rfl, rfl, h1, r1⟩ := trodAll_cons r0
  obtain ⟨v2, vs2, d2, ds2, p2, q2, rfl, rfl, rfl, h2, r2⟩ := trodAll_cons r1
  obtain ⟨rfl, rfl, rfl⟩ := trodAll_nil r2
  obtain rfl : args = #[v0, v1, v2] := by cases args; simp_all
  obtain ⟨rfl, rfl⟩ := trodVars_none hV
  obtain ⟨a0, rfl, rfl, rfl, w0⟩ := open_int Tryd.underlying2 (hval 0 2 v0 rfl rfl) h0
  obtain ⟨a1, rfl, rfl, rfl, w1⟩ := open_int Tryd.underlying2 (hval 1 2 v1 rfl rfl) h1
  obtain ⟨a2, len2, cap2, rfl⟩ := okWide_slice Tryd.underlying31 (hval 2 31 v2 rfl rfl)
  obtain ⟨xs2, rfl, rd2⟩ : ∃ xs : List Int, xs.length = len2 ∧ ReadsInts W a2 xs := by
    obtain ⟨fu, hf⟩ := h2
    rcases open_ints Tryd.underlying31 Tryd.underlying2 (show Tryd.prog.cellsOf 2 = 1 by kernel_rfl) hf with ⟨hcs, hx⟩ | ⟨a, len', cap', zs, hcs, _, hl, hm, hz, hx, hcell, hwz⟩
    · simp [Value.cells] at hcs
      obtain ⟨rfl, rfl, rfl⟩ := hcs
      exact ⟨[], rfl, fun j hj => absurd hj (Nat.not_lt_zero _)⟩
    · simp [Value.cells] at hcs
      obtain ⟨rfl, rfl, rfl⟩ := hcs
      have hz' : zs.length = cap2 := hz
      exact ⟨zs.take len2, by rw [List.length_take]; omega, reads_open _ hcell⟩
  clear hA0
  refine (reckonsLaw a0 a1 a2 cap2 xs2 W (live_of hL hsh) rd2).mono fun e W' ⟨he, hb⟩ => ?_
  subst he
  exact ⟨_, rfl, post_keep laidOut (fun t ht => fixReckons_types t ht) rfl hW' (fun ds' hds => fixReckons_fn ds' hds) (by kernel_rfl) Tryd.underlying4 hb⟩

theorem fixReckons_reads (os : Os) {H : Type} (enc : TypeId × Value → H) : ∃ places, DataW.whole enc Tryd.prog ((laidWorld os).forCall (fun _ _ => 0) ⟨#[], #[.int .i64 0, .int .i64 0, .slice none 0 0], []⟩).memory Tryd.f4.params.toList Rows.fixReckonsSpec.vars false #[(.int .i64 0 : Value), .int .i64 0, .slice none 0 0].toList 8 = some ([.lit (.int .i64 0), .lit (.int .i64 0), .nil], [], places) :=
  ⟨[], by kernel_rfl⟩

set_option maxRecDepth 100000 in
theorem fixReckons_lifted (os : Os) (started : os.Started) (H : Type) (enc : TypeId × Value → H) (F : Stop.Interp) :
    ReturnsInHanded {} Tryd.checked os 4 .any ((OpenSpec.ofChange Rows.fixReckonsSpec).preRow enc Tryd.prog Tryd.f4 Rows.fixReckonsRow.domain false Rows.fixReckonsRow.laid) (((OpenSpec.ofChange Rows.fixReckonsSpec).at F).post enc Tryd.prog Tryd.f4 false true false false) := by
  obtain ⟨places, hx⟩ := fixReckons_reads os enc
  refine returnsInHanded_of_row (C := Tryd.checked) (s := OpenSpec.ofChange Rows.fixReckonsSpec) own started (by kernel_rfl) Tryd.func4
    (witness_row_at (enc := enc) (C := Tryd.checked) false (laidWorld os) #[.int .i64 0, .int .i64 0, .slice none 0 0] (World.laidAll_os _ _ _) (by kernel_rfl) (by kernel_rfl) (by kernel_rfl)
      (OpenSpec.preRow_of_cond 8 hx (by kernel_rfl) (fun k hk => by cases hk) (by kernel_rfl) (laid_met os _))) ?_
  intro W base args ds gs before hval hW _ _ _ hL hsh _
  exact fixReckons_contract H enc W base args ds gs before hval hW hL hsh

theorem fixReckons_said : Rows.FixReckonsSaid :=
  OpenClaim.holds_of_cond 4 Tryd.f4 rfl rfl rfl rfl rfl rfl rfl ⟨rfl, rfl, rfl, rfl, rfl⟩ rfl rfl rfl rfl rfl (by kernel_rfl) Tryd.func4 (by kernel_rfl)
    (of_decide_eq_true (by kernel_rfl)) (by unfold Func.isWrapper; first | (rw [if_pos (by decide +kernel)]; kernel_rfl) | (rw [if_neg (by decide +kernel)]; exact ⟨rfl, rfl⟩))
    (fun os started H enc _ F => by rw [OpenClaim.pre_eq_preRow]; exact fixReckons_lifted os started H enc F)

/-- No parameter wants a stand-in; the program's own looks are off. -/
theorem fixReckons_plain (f : FuncId) (fn : Func) (hf : Tryd.pinned.checked.prog.funcNamed "foliant/foliantlaw02.FixReckons" = some f) (hfn : Tryd.pinned.checked.prog.funcs[f]? = some fn) :
    true = Tryd.pinned.checked.prog.looks [] ∧ ∀ (j : Nat) t, fn.params[j]? = some t → Tryd.pinned.checked.prog.wantsStandIn t = false := by
  obtain rfl : f = 4 := Option.some.inj ((show Tryd.prog.funcNamed "foliant/foliantlaw02.FixReckons" = some 4 by kernel_rfl).symm.trans hf) |>.symm
  obtain rfl : fn = Tryd.f4 := (Option.some.inj (Tryd.func4.symm.trans hfn)).symm
  refine ⟨by kernel_rfl, fun j t ht => ?_⟩
  rw [Tryd.params4] at ht
  have hm := Array.mem_of_getElem? ht
  simp only [List.mem_toArray, List.mem_cons, List.not_mem_nil, or_false] at hm
  rcases hm with rfl | rfl | rfl
  · exact (show Tryd.prog.wantsStandIn 2 = false by kernel_rfl)
  · exact (show Tryd.prog.wantsStandIn 2 = false by kernel_rfl)
  · exact (show Tryd.prog.wantsStandIn 31 = false by kernel_rfl)

theorem fixReckons_holds : Rows.FixReckonsCardSaid :=
  Claim7.holds_tied_plain_at .later [] _ _ _ _ fixReckons_said (fun _ h => by cases h) (by kernel_rfl) (fun _ h => by cases h) fixReckons_row_tie rfl ⟨rfl, rfl⟩ (by kernel_rfl) rfl fixReckons_plain (by kernel_rfl)
end Go.Proofs.YtmimeconkmfkfaaDoor
