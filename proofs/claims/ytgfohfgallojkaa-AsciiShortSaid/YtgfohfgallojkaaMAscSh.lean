/-
  For all arguments AsciiShort returns true: the encodings of a text are as short as the document says (no condition on the arguments).
-/
import Derived.Test.YtgfohfgallojkaaM12
import Derived.Test.YtgfohfgallojkaaM13
import Derived.HandedShaped
import Derived.OpenShut
import Derived.ChangeMaps5
namespace Go.Proofs.Ytgfohfgallojkaa
open Go.ChangeShapes Go.WideShapes Go.ChangeAt Go.RowKit Oct Asc Go.Shelf

theorem bytes_size (l : List UInt8) : (⟨l.toArray⟩ : ByteArray).size = l.length := by simp [ByteArray.size]
theorem hex_size (s : ByteArray) : (hexB s ++ ⟨#[62]⟩ : ByteArray).size = 2 * s.size + 1 := by
  have e : s.data.toList.length = s.size := by simp
  rw [ByteArray.size_append]
  show (hexS s.data.toList).toArray.size + 1 = _
  rw [List.size_toArray, hexS_length, e]
theorem cells_set1 (l : List UInt8) (i : Nat) (b : UInt8) : (cellsOf l).set i (.int .u8 (b.toNat : Int)) = cellsOf (l.set i b) := by
  unfold cellsOf
  rw [List.map_set]
theorem rep_set (m k : Nat) (c : UInt8) (h : k < m) : (List.replicate k c ++ List.replicate (m - k) 0).set k c = List.replicate (k + 1) c ++ List.replicate (m - (k + 1)) 0 := by
  rw [List.set_append_right _ _ (by simp), List.length_replicate, Nat.sub_self, show m - k = (m - (k + 1)) + 1 by omega, List.replicate_succ, List.set_cons_zero, List.replicate_succ' (n := k)]
  simp

theorem made_zero (m : Nat) : madeCells (Value.int .u8 0).cells m = (cellsOf (List.replicate m 0)).toArray := by
  have hc : (Value.int .u8 0).cells = #[.int .u8 0] := rfl
  unfold madeCells cellsOf
  rw [hc, List.map_replicate]
  apply Array.ext
  · simp
  · intro i h1 h2
    simp [Nat.mod_one]

set_option maxRecDepth 100000 in
set_option maxHeartbeats 16000000 in
theorem short_in (s : ByteArray) (c : UInt8) (m : Nat) (w : World) (hs : s.size ≤ 3000) (hm : m ≤ 3000) :
    Calls Try.prog 6 #[.string s, .int .u8 (c.toNat : Int), .int .i64 (m : Int)] w fun e w' => e = .returned (.bool true) ∧ Below w.heap.size w w' := by
  obtain ⟨i5, hi, hz0, hz1, hz2⟩ := info_parts info5
  have HB0 := Lib.hid (Below.refl w.heap.size w)
  obtain ⟨n, hn⟩ : ∃ n, s.size = n := ⟨_, rfl⟩
  obtain ⟨H, hH⟩ : ∃ H : ByteArray, (hexB s ++ ⟨#[62]⟩ : ByteArray) = H := ⟨_, rfl⟩
  obtain ⟨F, hF⟩ : ∃ F : ByteArray, (⟨(fiveE s.data.toList).toArray⟩ ++ ⟨#[126, 62]⟩ : ByteArray) = F := ⟨_, rfl⟩
  obtain ⟨R, hR⟩ : ∃ R : ByteArray, (⟨(runE s.data.toList ++ [128]).toArray⟩ : ByteArray) = R := ⟨_, rfl⟩
  obtain ⟨Q, hQ⟩ : ∃ Q : ByteArray, (⟨(runE (List.replicate m c) ++ [128]).toArray⟩ : ByteArray) = Q := ⟨_, rfl⟩
  have e : s.data.toList.length = n := by simp [hn]
  have zH : H.size = 2 * n + 1 := by rw [← hH, hex_size, hn]
  have zF : F.size ≤ 5 * ((n + 3) / 4) + 2 := by
    have := fiveE_len s.data.toList
    rw [← hF, ByteArray.size_append, bytes_size]
    rw [e] at this
    show _ + 2 ≤ _
    omega
  have zR : R.size ≤ n + (n + 127) / 128 + 1 := by
    have := (runE_len n s.data.toList (by omega)).1
    rw [← hR, bytes_size, List.length_append]
    rw [e] at this
    show _ + 1 ≤ _
    omega
  have zQ : Q.size ≤ 2 * ((m + 127) / 128) + 2 := by
    have := runE_same c m m (Nat.le_refl _)
    rw [← hQ, bytes_size, List.length_append]
    show _ + 1 ≤ _
    omega
  have HH := Lib.hid (fun W : World => hH ▸ aschex_any s W (by omega))
  have HF := Lib.hid (fun W : World => hF ▸ five_any s W (by omega))
  have HR := Lib.hid (fun W : World => hR ▸ run_any s W (by omega))
  obtain ⟨X, hX⟩ : ∃ X : ByteArray, (⟨(List.replicate m c).toArray⟩ : ByteArray) = X := ⟨_, rfl⟩
  have hXl : X.data.toList = List.replicate m c := by rw [← hX]
  have hXs : X.size = m := by rw [← hX, bytes_size, List.length_replicate]
  have HQ := Lib.hid (show ∀ W : World, Calls Try.prog 18 #[.string X] W fun e w' => e = .returned (.string Q) ∧ Below W.heap.size W w' from fun W => by
    have := run_any X W (by omega)
    rw [hXl, hQ] at this
    exact this)
  have HX := Lib.hid hX
  have f0 : ¬ (3000 : Int) < (n : Int) := by omega
  have f1 : ¬ (m : Int) < 0 := by omega
  have f2 : ¬ (3000 : Int) < (m : Int) := by omega
  have k1 : ((H.size : Int) == 2 * (n : Int) + 1) = true := by rw [zH]; simp
  clear hH hF hR hQ hX hXl hXs e
  go_enter Try.func6, Try.ntmps6
  go_wp2_with fail
  refine (ascLives_any _).mono ?_
  rintro e w1 ⟨rfl, hb⟩
  have HB1 := Lib.hid (HB0.out.trans (hb.mono HB0.out.size))
  clear hb
  go_wp2_with fail
  refine (HH.out _).mono ?_
  rintro e w2 ⟨rfl, hb⟩
  have HB2 := Lib.hid (HB1.out.trans (hb.mono HB1.out.size))
  clear hb
  go_wp2_with fail
  refine (HF.out _).mono ?_
  rintro e w3 ⟨rfl, hb⟩
  have HB3 := Lib.hid (HB2.out.trans (hb.mono HB2.out.size))
  clear hb
  have k2 : ¬ 5 * (((n : Int) + 3) / 4) + 2 < (F.size : Int) := by omega
  have k3 : ¬ (n : Int) + ((n : Int) + 127) / 128 + 1 < (R.size : Int) := by omega
  have hn3 : n ≤ 3000 := by omega
  go_wp2_with fail
  refine (HR.out _).mono ?_
  rintro e w4 ⟨rfl, hb⟩
  have HB4 := Lib.hid (HB3.out.trans (hb.mono HB3.out.size))
  clear hb
  have hmk0 := run_make (P := Try.prog) w4 29 5 i5 (.int .u8 0) Try.underlying29 hi hz0 .i64 .i64 (m : Int) (m : Int) (by omega) (Int.le_refl _) (by rw [hz2]; omega) (by omega)
  rw [Int.toNat_natCast, hz1, Nat.mul_one, made_zero] at hmk0
  obtain ⟨W, hW⟩ : ∃ W, w4.alloc (.cells (cellsOf (List.replicate m 0)).toArray 5) = W := ⟨_, rfl⟩
  rw [hW] at hmk0
  obtain ⟨K, hK⟩ : ∃ K, w4.heap.size = K := ⟨_, rfl⟩
  have hX : Blk W K 5 (cellsOf (List.replicate 0 c ++ List.replicate (m - 0) 0)).toArray := by rw [← hW, ← hK]; exact Blk.new w4 _ _
  have hBW : Below w.heap.size w W := by rw [← hW]; exact HB4.out.alloc HB4.out.size _
  have hKw : w.heap.size ≤ K := by rw [← hK]; exact HB4.out.size
  rw [hK] at hmk0
  have HX0 := Lib.hid hX
  have HBW := Lib.hid hBW
  have HK := Lib.hid hKw
  clear hX hBW hKw hW hK
  go_wp2_with fail
  go_loopw [59] (fun i wr => ∃ k : Nat, k ≤ m ∧ i = .int .i64 (k : Int) ∧ Hid (Blk wr K 5 (cellsOf (List.replicate k c ++ List.replicate (m - k) 0)).toArray) ∧ Hid (Below w.heap.size w wr)) (fun i _ => m - (intOf i).toNat)
  case atStart => exact ⟨0, by omega, rfl, HX0, HBW⟩
  case round =>
    clear HX0 HBW
    obtain ⟨k, hk, rfl, HX1, HBr⟩ := hrel
    by_cases hlt : k < m
    · have i0 : (0 : Int) ≤ (k : Int) := by omega
      have i1 : (k : Int) < (m : Int) := by omega
      obtain ⟨y, x⟩ : ∃ y : Int, wr.cell? ⟨K, k, none⟩ = some (.int .u8 y) := by
        have hl : k < (List.replicate k c ++ List.replicate (m - k) 0 : List UInt8).length := by simp; omega
        refine ⟨((List.replicate k c ++ List.replicate (m - k) 0 : List UInt8)[k].toNat : Int), ?_⟩
        rw [HX1.out.cell]
        unfold cellsOf
        rw [List.getElem?_toArray, List.getElem?_map, List.getElem?_eq_getElem hl]
        rfl
      have f := HX1.out.frozen k
      have hX2 := HX1.out.set_ k (.int .u8 (c.toNat : Int))
      rw [cells_set, rep_set m k c hlt] at hX2
      have HX2 := Lib.hid hX2
      have HB2 := Lib.hid (set_low HBr.out HK.out k (.int .u8 (c.toNat : Int)))
      clear hX2
      go_wp2_with fail
      go_roundw
      case rel => exact ⟨k + 1, by omega, by go_num, HX2, HB2⟩
      case measure => simp [intOf]; omega
    · obtain rfl : k = m := by omega
      have hX2 : Blk wr K 5 (cellsOf (List.replicate k c)).toArray := by
        have := HX1.out
        rw [Nat.sub_self, List.replicate_zero, List.append_nil] at this
        exact this
      have hconv : (convert 29 9 (.slice (some ⟨K, 0, none⟩) k k)).run Try.prog wr = .ok (.string X) wr := by
        have := run_convert_bytes_back wr 29 9 5 ⟨K, 0, none⟩ k (List.replicate k c) Try.underlying29 Try.underlying5 Try.underlying9 fun j hj => ?_
        · rw [List.length_replicate, HX.out] at this
          exact this
        · have := (World.news_of_block hX2) j (.int .u8 ((List.replicate k c)[j].toNat : Int)) (by unfold cellsOf; rw [List.getElem?_map, List.getElem?_eq_getElem hj]; rfl)
          exact this
      have k4 : (Q.size : Int) ≤ 2 * (((k : Int) + 127) / 128) + 2 := by omega
      clear hX2
      go_wp2_with fail
      refine (HQ.out _).mono ?_
      rintro e w6 ⟨rfl, hb⟩
      have HB6 := Lib.hid (HBr.out.trans (hb.mono HBr.out.size))
      clear hb
      go_wp2_with fail
      go_ret
      exact ⟨rfl, HB6.out⟩

theorem ascbyte {c : Int} (h : (Lit.int .u8 c).wf = true) : ∃ b : UInt8, c = (b.toNat : Int) := by
  simp [Lit.wf, IntKind.min, IntKind.max, IntKind.signed, IntKind.bits] at h
  exact ⟨UInt8.ofNat c.toNat, by rw [UInt8.toNat_ofNat']; omega⟩
set_option maxRecDepth 100000 in
set_option maxHeartbeats 16000000 in
theorem short_any (s : ByteArray) (c m : Int) (w : World) (hc : (Lit.int .u8 c).wf = true) :
    Calls Try.prog 6 #[.string s, .int .u8 c, .int .i64 m] w fun e w' => e = .returned (.bool true) ∧ Below w.heap.size w w' := by
  obtain ⟨b, rfl⟩ := ascbyte hc
  by_cases hb : s.size ≤ 3000 ∧ 0 ≤ m ∧ m ≤ 3000
  · obtain ⟨h1, h2, h3⟩ := hb
    obtain ⟨k, rfl⟩ : ∃ k : Nat, m = (k : Int) := ⟨m.toNat, by omega⟩
    exact short_in s b k w h1 (by omega)
  · have hp : (decide ((3000 : Int) < (s.size : Int)) || decide (m < 0) || decide ((3000 : Int) < m)) = true := by
      simp only [Bool.or_eq_true, decide_eq_true_eq]
      omega
    clear hb
    go_enter Try.func6, Try.ntmps6
    go_wp2_with fail
    refine (ascLives_any _).mono ?_
    rintro e w1 ⟨rfl, hb⟩
    go_wp2_with fail
    all_goals (go_ret; exact ⟨rfl, hb⟩)


/-! ### The row. -/
theorem asciiShort_laidOut : laidOutB Try.prog = true := by kernel_rfl
theorem asciiShort_own : ownKnob Try.prog.godebug = none := by kernel_rfl
theorem asciiShort_types (t : TypeId) (ht : t ∈ Try.f6.params.toList) : Try.prog.readableRec t = true ∧ t < Try.prog.types.size := by
  rw [Try.params6] at ht
  simp only [List.mem_cons, List.not_mem_nil, or_false] at ht
  rcases ht with rfl | rfl | rfl
  · exact ⟨by kernel_rfl, of_decide_eq_true (by kernel_rfl)⟩
  · exact ⟨by kernel_rfl, of_decide_eq_true (by kernel_rfl)⟩
  · exact ⟨by kernel_rfl, of_decide_eq_true (by kernel_rfl)⟩
theorem asciiShort_fn {H : Type} (ds' : List (DataW H)) (h : ds'.length = Try.f6.params.size) : Rows.asciiShortSpec.fn H ds' = { results := [.lit (.bool true)], args := ds' } := by
  have h' : ds'.length = 3 := h.trans (by kernel_rfl)
  match ds', h' with
  | [_, _, _], _ => rfl

set_option maxRecDepth 100000 in
theorem asciiShort_lifted (os : Os) (started : os.Started) (H : Type) (enc : TypeId × Value → H) :
    ReturnsInHanded {} Try.checked os 6 .any (Rows.asciiShortSpec.pre6 enc Try.prog Try.f6 Rows.asciiShortRow.domain false) (Rows.asciiShortSpec.post enc Try.prog Try.f6 false true false false) := by
  refine returnsInHanded_of_change_shaped (C := Try.checked) asciiShort_own started (by kernel_rfl) Try.func6
    (ChangeSpec.witness6 (enc := enc) (C := Try.checked) false ⟨#[], #[.string ⟨#[]⟩, .int .u8 0, .int .i64 0], []⟩ 8 (by kernel_rfl) (by kernel_rfl) (by kernel_rfl) (by kernel_rfl)) ?_
  intro W base args ds gs before hval0 hW hcnd0 _ hsh _
  have hval : ∀ (j : Nat) t v, Try.f6.params[j]? = some t → args[j]? = some v → Value.okWide Try.prog W .any base t v := hval0
  have hW' := hW
  obtain ⟨p, q, hA0, hV, rfl, hfz, hnd⟩ := hW
  have hA : DataW.TrodAll enc Try.prog W 0 (fun _ => true) true Try.f6.params.toList args.toList ds p := hA0
  rw [Try.params6] at hA hval
  obtain ⟨v0, vs0, d0, ds0, p0, q0, hargs, rfl, rfl, h0, r0⟩ := trodAll_cons hA
  obtain ⟨v1, vs1, d1, ds1, p1, q1, rfl, rfl, rfl, h1, r1⟩ := trodAll_cons r0
  obtain ⟨v2, vs2, d2, ds2, p2, q2, rfl, rfl, rfl, h2, r2⟩ := trodAll_cons r1
  obtain ⟨rfl, rfl, rfl⟩ := trodAll_nil r2
  obtain rfl : args = #[v0, v1, v2] := by cases args; simp_all
  obtain ⟨rfl, rfl⟩ := trodVars_none hV
  obtain ⟨a0, rfl, rfl, rfl, w0⟩ := Go.ChangeMaps.open_string Try.underlying9 (hval 0 9 v0 rfl rfl) h0
  obtain ⟨a1, rfl, rfl, rfl, w1⟩ := open_int Try.underlying5 (hval 1 5 v1 rfl rfl) h1
  obtain ⟨a2, rfl, rfl, rfl, w2⟩ := open_int Try.underlying3 (hval 2 3 v2 rfl rfl) h2
  clear hA0 hval0
  refine (short_any a0 a1 a2 W w1).mono fun e W' ⟨he, hb⟩ => ?_
  subst he
  exact ⟨_, rfl, post_keep asciiShort_laidOut (fun t ht => asciiShort_types t ht) rfl hW' (fun ds' hds => asciiShort_fn ds' hds) (by kernel_rfl) Try.underlying4 hb⟩

theorem asciiShort_holds : Rows.AsciiShortSaid :=
  OpenClaim.holds_of_wide 6 Try.f6 rfl rfl rfl rfl rfl rfl rfl ⟨rfl, rfl, rfl, rfl, rfl⟩ rfl rfl rfl rfl rfl (by kernel_rfl) Try.func6 (by kernel_rfl)
    (of_decide_eq_true (by kernel_rfl)) (by unfold Func.isWrapper; first | (rw [if_pos (by decide +kernel)]; kernel_rfl) | (rw [if_neg (by decide +kernel)]; exact ⟨rfl, rfl⟩))
    (fun os started H enc _ => asciiShort_lifted os started H enc)
end Go.Proofs.Ytgfohfgallojkaa
