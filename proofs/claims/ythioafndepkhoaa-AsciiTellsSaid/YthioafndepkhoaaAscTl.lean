/-
  For all arguments AsciiTells returns true: the three encoders and the three decoders answer what the document's do (no condition on the arguments).
-/
import Derived.Test.YthioafndepkhoaaAscLv
import Derived.Test.YthioafndepkhoaaAscW
import Derived.Test.YthioafndepkhoaaRowKeep
import Derived.HandedShaped
import Derived.OpenShut
import Derived.ChangeMaps5
namespace Go.Proofs.Ythioafndepkhoaa
open Go.ChangeShapes Go.WideShapes Go.ChangeAt Go.RowKit Oct Asc Go.Shelf

set_option maxRecDepth 100000 in
set_option maxHeartbeats 16000000 in
theorem ascTells_in (s : ByteArray) (n : Int) (w : World) (hs : s.size ≤ 3000) :
    Calls Try.prog 3 #[.string s, .int .i64 n] w fun e w' => e = .returned (.bool true) ∧ Below w.heap.size w w' := by
  have HB0 := Lib.hid (Below.refl w.heap.size w)
  obtain ⟨S1, hS1⟩ : ∃ S, decS (unhexF s n) = S := ⟨_, rfl⟩
  obtain ⟨x1, hx1⟩ : ∃ x, (unhexF s n).1 = x := ⟨_, rfl⟩
  have P1 := Lib.hid (fun W : World => aunhex_any s n W (by omega))
  have R1 := Lib.hid (fun W : World => unhexR_all s n W (by omega))
  unfold DecodedIs at P1 R1
  rw [hS1, hx1] at P1 R1
  obtain ⟨S2, hS2⟩ : ∃ S, decS (unfiveF s n) = S := ⟨_, rfl⟩
  obtain ⟨x2, hx2⟩ : ∃ x, (unfiveF s n).1 = x := ⟨_, rfl⟩
  have P2 := Lib.hid (fun W : World => aunfive_any s n W (by omega))
  have R2 := Lib.hid (fun W : World => unfiveR_all s n W (by omega))
  unfold DecodedIs at P2 R2
  rw [hS2, hx2] at P2 R2
  obtain ⟨S3, hS3⟩ : ∃ S, decS (unrunF s n) = S := ⟨_, rfl⟩
  obtain ⟨x3, hx3⟩ : ∃ x, (unrunF s n).1 = x := ⟨_, rfl⟩
  have P3 := Lib.hid (fun W : World => aunrun_any s n W (by omega))
  have R3 := Lib.hid (fun W : World => unrunR_all s n W (by omega))
  unfold DecodedIs at P3 R3
  rw [hS3, hx3] at P3 R3
  obtain ⟨H, hH⟩ : ∃ X : ByteArray, (hexB s ++ ⟨#[62]⟩ : ByteArray) = X := ⟨_, rfl⟩
  have CH := Lib.hid (fun W : World => aschex_any s W (by omega))
  have DH := Lib.hid (fun W : World => aschexR_any s W (by omega))
  rw [hH] at CH DH
  obtain ⟨F, hF⟩ : ∃ X : ByteArray, (⟨(fiveE s.data.toList).toArray⟩ ++ ⟨#[126, 62]⟩ : ByteArray) = X := ⟨_, rfl⟩
  have CF := Lib.hid (fun W : World => five_any s W (by omega))
  have DF := Lib.hid (fun W : World => fiveR_any s W (by omega))
  rw [hF] at CF DF
  obtain ⟨R, hR⟩ : ∃ X : ByteArray, (⟨(runE s.data.toList ++ [128]).toArray⟩ : ByteArray) = X := ⟨_, rfl⟩
  have CR := Lib.hid (fun W : World => run_any s W (by omega))
  have DR := Lib.hid (fun W : World => runR_any s W (by omega))
  rw [hR] at CR DR
  have f1 : ¬ (3000 : Int) < (s.size : Int) := by omega
  clear hS1 hS2 hS3 hx1 hx2 hx3 hH hF hR
  go_enter Try.func3, Try.ntmps3
  go_wp2_with fail
  refine (P1.out _).mono ?_
  rintro e w1 ⟨rfl, hb⟩
  have HB1 := Lib.hid (HB0.out.trans (hb.mono HB0.out.size))
  clear hb
  go_wp2_with fail
  refine (R1.out _).mono ?_
  rintro e w2 ⟨rfl, hb⟩
  have HB2 := Lib.hid (HB1.out.trans (hb.mono HB1.out.size))
  clear hb
  go_wp2_with fail
  refine (P2.out _).mono ?_
  rintro e w3 ⟨rfl, hb⟩
  have HB3 := Lib.hid (HB2.out.trans (hb.mono HB2.out.size))
  clear hb
  go_wp2_with fail
  refine (R2.out _).mono ?_
  rintro e w4 ⟨rfl, hb⟩
  have HB4 := Lib.hid (HB3.out.trans (hb.mono HB3.out.size))
  clear hb
  go_wp2_with fail
  refine (P3.out _).mono ?_
  rintro e w5 ⟨rfl, hb⟩
  have HB5 := Lib.hid (HB4.out.trans (hb.mono HB4.out.size))
  clear hb
  go_wp2_with fail
  refine (R3.out _).mono ?_
  rintro e w6 ⟨rfl, hb⟩
  have HB6 := Lib.hid (HB5.out.trans (hb.mono HB5.out.size))
  clear hb
  go_wp2_with fail
  refine (CH.out _).mono ?_
  rintro e w7 ⟨rfl, hb⟩
  have HB7 := Lib.hid (HB6.out.trans (hb.mono HB6.out.size))
  clear hb
  go_wp2_with fail
  refine (DH.out _).mono ?_
  rintro e w8 ⟨rfl, hb⟩
  have HB8 := Lib.hid (HB7.out.trans (hb.mono HB7.out.size))
  clear hb
  go_wp2_with fail
  refine (CF.out _).mono ?_
  rintro e w9 ⟨rfl, hb⟩
  have HB9 := Lib.hid (HB8.out.trans (hb.mono HB8.out.size))
  clear hb
  go_wp2_with fail
  refine (DF.out _).mono ?_
  rintro e w10 ⟨rfl, hb⟩
  have HB10 := Lib.hid (HB9.out.trans (hb.mono HB9.out.size))
  clear hb
  go_wp2_with fail
  refine (CR.out _).mono ?_
  rintro e w11 ⟨rfl, hb⟩
  have HB11 := Lib.hid (HB10.out.trans (hb.mono HB10.out.size))
  clear hb
  go_wp2_with fail
  refine (DR.out _).mono ?_
  rintro e w12 ⟨rfl, hb⟩
  have HB12 := Lib.hid (HB11.out.trans (hb.mono HB11.out.size))
  clear hb
  go_wp2_with fail
  refine (ascLives_any _).mono ?_
  rintro e w13 ⟨rfl, hb⟩
  have HB13 := Lib.hid (HB12.out.trans (hb.mono HB12.out.size))
  clear hb
  go_wp2_with fail
  go_ret
  exact ⟨rfl, HB13.out⟩

set_option maxRecDepth 100000 in
set_option maxHeartbeats 4000000 in
theorem ascTells_any (s : ByteArray) (n : Int) (w : World) :
    Calls Try.prog 3 #[.string s, .int .i64 n] w fun e w' => e = .returned (.bool true) ∧ Below w.heap.size w w' := by
  by_cases hb : s.size ≤ 3000
  · exact ascTells_in s n w hb
  · have hp : (3000 : Int) < (s.size : Int) := by omega
    clear hb
    go_enter Try.func3, Try.ntmps3
    go_wp2_with fail
    refine (ascLives_any _).mono ?_
    rintro e w1 ⟨rfl, hb⟩
    go_wp2_with fail
    go_ret
    exact ⟨rfl, hb⟩

/-! ### The row. -/
theorem asciiTells_laidOut : laidOutB Try.prog = true := by kernel_rfl
theorem asciiTells_own : ownKnob Try.prog.godebug = none := by kernel_rfl
theorem asciiTells_types (t : TypeId) (ht : t ∈ Try.f3.params.toList) : Try.prog.readableRec t = true ∧ t < Try.prog.types.size := by
  rw [Try.params3] at ht
  simp only [List.mem_cons, List.not_mem_nil, or_false] at ht
  rcases ht with rfl | rfl
  · exact ⟨by kernel_rfl, of_decide_eq_true (by kernel_rfl)⟩
  · exact ⟨by kernel_rfl, of_decide_eq_true (by kernel_rfl)⟩
theorem asciiTells_fn {H : Type} (ds' : List (DataW H)) (h : ds'.length = Try.f3.params.size) : Rows.asciiTellsSpec.fn H ds' = { results := [.lit (.bool true)], args := ds' } := by
  have h' : ds'.length = 2 := h.trans (by kernel_rfl)
  match ds', h' with
  | [_, _], _ => rfl

set_option maxRecDepth 100000 in
theorem asciiTells_lifted (os : Os) (started : os.Started) (H : Type) (enc : TypeId × Value → H) :
    ReturnsInHanded {} Try.checked os 3 .any (Rows.asciiTellsSpec.pre6 enc Try.prog Try.f3 Rows.asciiTellsRow.domain false) (Rows.asciiTellsSpec.post enc Try.prog Try.f3 false true false false) := by
  refine returnsInHanded_of_change_shaped (C := Try.checked) asciiTells_own started (by kernel_rfl) Try.func3
    (ChangeSpec.witness6 (enc := enc) (C := Try.checked) false ⟨#[], #[.string ⟨#[]⟩, .int .i64 0], []⟩ 8 (by kernel_rfl) (by kernel_rfl) (by kernel_rfl) (by kernel_rfl)) ?_
  intro W base args ds gs before hval0 hW hcnd0 _ hsh _
  have hval : ∀ (j : Nat) t v, Try.f3.params[j]? = some t → args[j]? = some v → Value.okWide Try.prog W .any base t v := hval0
  have hW' := hW
  obtain ⟨p, q, hA0, hV, rfl, hfz, hnd⟩ := hW
  have hA : DataW.TrodAll enc Try.prog W 0 (fun _ => true) true Try.f3.params.toList args.toList ds p := hA0
  rw [Try.params3] at hA hval
  obtain ⟨v0, vs0, d0, ds0, p0, q0, hargs, rfl, rfl, h0, r0⟩ := trodAll_cons hA
  obtain ⟨v1, vs1, d1, ds1, p1, q1, rfl, rfl, rfl, h1, r1⟩ := trodAll_cons r0
  obtain ⟨rfl, rfl, rfl⟩ := trodAll_nil r1
  obtain rfl : args = #[v0, v1] := by cases args; simp_all
  obtain ⟨rfl, rfl⟩ := trodVars_none hV
  obtain ⟨a0, rfl, rfl, rfl, w0⟩ := Go.ChangeMaps.open_string Try.underlying9 (hval 0 9 v0 rfl rfl) h0
  obtain ⟨a1, rfl, rfl, rfl, w1⟩ := open_int Try.underlying3 (hval 1 3 v1 rfl rfl) h1
  clear hA0 hval0
  refine (ascTells_any a0 a1 W).mono fun e W' ⟨he, hb⟩ => ?_
  subst he
  exact ⟨_, rfl, post_keep asciiTells_laidOut (fun t ht => asciiTells_types t ht) rfl hW' (fun ds' hds => asciiTells_fn ds' hds) (by kernel_rfl) Try.underlying4 hb⟩

theorem asciiTells_holds : Rows.AsciiTellsSaid :=
  OpenClaim.holds_of_wide 3 Try.f3 rfl rfl rfl rfl rfl rfl rfl ⟨rfl, rfl, rfl, rfl, rfl⟩ rfl rfl rfl rfl rfl (by kernel_rfl) Try.func3 (by kernel_rfl)
    (of_decide_eq_true (by kernel_rfl)) (by unfold Func.isWrapper; first | (rw [if_pos (by decide +kernel)]; kernel_rfl) | (rw [if_neg (by decide +kernel)]; exact ⟨rfl, rfl⟩))
    (fun os started H enc _ => asciiTells_lifted os started H enc)
end Go.Proofs.Ythioafndepkhoaa
