/-
  HintOne: a string that Read accepts is the encoding of its result, whatever the string is.
-/
import Derived.Test.YtkcnhdponcbjaaaHntLv
import Derived.Test.YtkcnhdponcbjaaaRowKeep
import Derived.HandedShaped
import Derived.OpenShut
import Derived.ChangeMaps5
namespace Go.Proofs.Ytkcnhdponcbjaaa
open Go.ChangeShapes Go.WideShapes Go.ChangeAt Go.RowKit Go.Deep Bt Hnt

set_option maxRecDepth 100000 in
set_option maxHeartbeats 4000000 in
theorem one_any (s : ByteArray) (w : World) : Calls Try.prog 5 #[.string s] w fun e w' => e = .returned (.bool true) ∧ Below w.heap.size w w' := by
  obtain ⟨N, hN⟩ : ∃ N, w.heap.size = N := ⟨_, rfl⟩
  have HL := Lib.hid (hlives_any w)
  rw [hN] at HL ⊢
  have HS := Lib.hid hN
  clear hN
  by_cases hz : 3000 < s.size
  · have hz' : (3000 : Int) < (s.size : Int) := by omega
    clear hz
    go_enter Try.func5, Try.ntmps5
    go_wp2_with fail
    refine HL.out.mono ?_
    rintro e w1 ⟨rfl, hb⟩
    have HB := Lib.hid hb
    clear hb
    go_wp2_with fail
    go_ret
    exact ⟨rfl, HB.out⟩
  · have hz' : ¬ (3000 : Int) < (s.size : Int) := by omega
    have hsz : s.size ≤ 1000000000 := by omega
    by_cases he : readE s = 0
    · obtain ⟨h1, h2, h3⟩ := read_text he
      have hln := decH_len h1
      obtain ⟨l, hl⟩ : ∃ l, readL s = l := ⟨_, rfl⟩
      rw [hl] at h2 h3 hln
      obtain ⟨n, hn⟩ : ∃ n, l.length = n := ⟨_, rfl⟩
      rw [hn] at hln
      have PR := Lib.hid (fun W : World => read_c s 0 l n W hsz he hl hn)
      have PT := Lib.hid (fun (A : Option Addr) (cap : Nat) (W : World) (h : HAt W A l) => text_c A cap l 0 s n W h hn (by omega) h2 (by rw [h3]))
      clear hz he h1 h2 h3 hl hln hn hsz
      go_enter Try.func5, Try.ntmps5
      go_wp2_with fail
      refine HL.out.mono ?_
      rintro e w1 ⟨rfl, hb⟩
      have HB := Lib.hid hb
      have HS1 := Lib.hid (show N ≤ w1.heap.size by have := hb.size; rw [HS.out] at this; exact this)
      clear hb
      go_wp2_with fail
      refine (PR.out _).mono ?_
      rintro e w2 ⟨⟨A, cap, rfl, hA⟩, hb⟩
      have HB2 := Lib.hid (HB.out.trans (hb.mono HS1.out))
      have HS2 := Lib.hid (show N ≤ w2.heap.size from Nat.le_trans HS1.out hb.size)
      have PT2 := Lib.hid (PT.out A cap w2 hA)
      clear hb hA
      go_wp2_with fail
      refine PT2.out.mono ?_
      rintro e w3 ⟨rfl, hb⟩
      have HB3 := Lib.hid (HB2.out.trans (hb.mono HS2.out))
      clear hb
      go_wp2_with fail
      go_ret
      exact ⟨rfl, HB3.out⟩
    · have he' : readE s = 32 := (readE_in s).resolve_left he
      have PR := Lib.hid (fun W : World => read_c s 32 [] 0 W hsz he' (no_L he') rfl)
      clear hz he he' hsz
      go_enter Try.func5, Try.ntmps5
      go_wp2_with fail
      refine HL.out.mono ?_
      rintro e w1 ⟨rfl, hb⟩
      have HB := Lib.hid hb
      have HS1 := Lib.hid (show N ≤ w1.heap.size by have := hb.size; rw [HS.out] at this; exact this)
      clear hb
      go_wp2_with fail
      refine (PR.out _).mono ?_
      rintro e w2 ⟨⟨A, cap, rfl, hA⟩, hb⟩
      have HB2 := Lib.hid (HB.out.trans (hb.mono HS1.out))
      clear hb hA
      go_wp2_with fail
      go_ret
      exact ⟨rfl, HB2.out⟩

/-! ### The row. -/
theorem hintOne_laidOut : laidOutB Try.prog = true := by kernel_rfl
theorem hintOne_own : ownKnob Try.prog.godebug = none := by kernel_rfl
theorem hintOne_types (t : TypeId) (ht : t ∈ Try.f5.params.toList) : Try.prog.readableRec t = true ∧ t < Try.prog.types.size := by
  rw [Try.params5] at ht
  simp only [List.mem_cons, List.not_mem_nil, or_false] at ht
  subst ht
  exact ⟨by kernel_rfl, of_decide_eq_true (by kernel_rfl)⟩
theorem hintOne_fn {H : Type} (ds' : List (DataW H)) (h : ds'.length = Try.f5.params.size) : Rows.hintOneSpec.fn H ds' = { results := [.lit (.bool true)], args := ds' } := by
  have h' : ds'.length = 1 := h.trans (by kernel_rfl)
  match ds', h' with
  | [_], _ => rfl

set_option maxRecDepth 100000 in
theorem hintOne_lifted (os : Os) (started : os.Started) (H : Type) (enc : TypeId × Value → H) :
    ReturnsInHanded {} Try.checked os 5 .any (Rows.hintOneSpec.pre6 enc Try.prog Try.f5 Rows.hintOneRow.domain false) (Rows.hintOneSpec.post enc Try.prog Try.f5 false true false false) := by
  refine returnsInHanded_of_change_shaped (C := Try.checked) hintOne_own started (by kernel_rfl) Try.func5
    (ChangeSpec.witness6 (enc := enc) (C := Try.checked) false ⟨#[], #[.string ⟨#[]⟩], []⟩ 8 (by kernel_rfl) (by kernel_rfl) (by kernel_rfl) (by kernel_rfl)) ?_
  intro W base args ds gs before hval0 hW hcnd0 _ hsh _
  have hval : ∀ (j : Nat) t v, Try.f5.params[j]? = some t → args[j]? = some v → Value.okWide Try.prog W .any base t v := hval0
  have hW' := hW
  obtain ⟨p, q, hA0, hV, rfl, hfz, hnd⟩ := hW
  have hA : DataW.TrodAll enc Try.prog W 0 (fun _ => true) true Try.f5.params.toList args.toList ds p := hA0
  rw [Try.params5] at hA hval
  obtain ⟨v0, vs0, d0, ds0, p0, q0, hargs, rfl, rfl, h0, r0⟩ := trodAll_cons hA
  obtain ⟨rfl, rfl, rfl⟩ := trodAll_nil r0
  obtain rfl : args = #[v0] := by cases args; simp_all
  obtain ⟨rfl, rfl⟩ := trodVars_none hV
  obtain ⟨a0, rfl, rfl, rfl, w0⟩ := Go.ChangeMaps.open_string Try.underlying9 (hval 0 9 v0 rfl rfl) h0
  clear hA0 hval0
  refine (one_any a0 W).mono fun e W' ⟨he, hb⟩ => ?_
  subst he
  exact ⟨_, rfl, post_keep hintOne_laidOut (fun t ht => hintOne_types t ht) rfl hW' (fun ds' hds => hintOne_fn ds' hds) (by kernel_rfl) Try.underlying4 hb⟩

theorem hintOne_holds : Rows.HintOneSaid :=
  OpenClaim.holds_of_wide 5 Try.f5 rfl rfl rfl rfl rfl rfl rfl ⟨rfl, rfl, rfl, rfl, rfl⟩ rfl rfl rfl rfl rfl (by kernel_rfl) Try.func5 (by kernel_rfl)
    (of_decide_eq_true (by kernel_rfl)) (by unfold Func.isWrapper; first | (rw [if_pos (by decide +kernel)]; kernel_rfl) | (rw [if_neg (by decide +kernel)]; exact ⟨rfl, rfl⟩))
    (fun os started H enc _ => hintOne_lifted os started H enc)
end Go.Proofs.Ytkcnhdponcbjaaa
