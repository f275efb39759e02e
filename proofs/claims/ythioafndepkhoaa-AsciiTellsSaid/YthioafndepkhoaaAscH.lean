/-
  ascii's unrun.
-/
import Derived.Test.YthioafndepkhoaaAscG
import Derived.Test.YthioafndepkhoaaShelf
import Derived.Laws.IdiomStrings
namespace Go.Proofs.Ythioafndepkhoaa
open Go.RowKit Oct Asc Go.Shelf

theorem ext_many {R : ByteArray} {l : List UInt8} (h : R.data.toList = l) (n : Nat) : (R.extract 0 n).data.toList = l.take n ∧ (R.extract n R.size).data.toList = l.drop n := by
  have hs := len_size h
  constructor
  · rw [ByteArray.data_extract, Array.toList_extract, h, List.extract_eq_take_drop]
    simp
  · rw [ByteArray.data_extract, Array.toList_extract, h, List.extract_eq_take_drop, hs]
    rw [List.take_of_length_le (by rw [List.length_drop]; exact Nat.le_refl _)]
theorem dtake_many (B g : Nat) (r : Option Nat) (rest o : List UInt8) (m n : Nat) (P : ByteArray) (hn : n ≤ rest.length) (hP : P.data.toList = rest.take n) (w : World) (h : Dec B w g r rest o m) :
    Calls Try.prog 39 #[.pointer (some ⟨g, 0, none⟩), .int .i64 (n : Int)] w fun e w' => e = .returned (.string P) ∧ Read1 B w g r (rest.drop n) o m w' := by
  obtain ⟨R, v, h1, h2, h3, h4, h5, h6, h7⟩ := h
  obtain ⟨e1, e2⟩ := ext_many h1 n
  have hs := len_size h1
  refine (take_ok n g R v m w h2 (by omega) h3).mono ?_
  rintro e w' ⟨he, hX, hg⟩
  have hPe : R.extract 0 n = P := by
    apply ByteArray.ext
    apply Array.ext'
    rw [e1, hP]
  rw [hPe] at he
  exact ⟨he, Dec.grown h4 h5 h6 h7 hg e2 (by rw [ByteArray.size_extract]; omega) hX, two_of_grown hg⟩
theorem dtake_few (B g : Nat) (r : Option Nat) (rest o : List UInt8) (m : Nat) (n : Int) (hn : (rest.length : Int) < n) (w : World) (h : Dec B w g r rest o m) :
    Calls Try.prog 39 #[.pointer (some ⟨g, 0, none⟩), .int .i64 n] w fun e w' => e = gUp 4 ∧ w = w' := by
  obtain ⟨R, v, h1, h2, h3, h4, h5, h6, h7⟩ := h
  have hs := len_size h1
  exact take_no n g R v m w h2 (by omega) h3

theorem dtake_c (B g : Nat) (r : Option Nat) (c : UInt8) (t o : List UInt8) (m : Nat) (P : ByteArray) (hP : (⟨#[c]⟩ : ByteArray) = P) (w : World) (h : Dec B w g r (c :: t) o m) :
    Calls Try.prog 39 #[.pointer (some ⟨g, 0, none⟩), .int .i64 1] w fun e w' => e = .returned (.string P) ∧ Read1 B w g r t o m w' := hP ▸ dtake_one B g r c t o m w h
theorem one_byte (c : UInt8) : ∃ P : ByteArray, (⟨#[c]⟩ : ByteArray) = P ∧ ∃ h : 0 < P.size, P[0] = c := ⟨⟨#[c]⟩, rfl, (by decide : 0 < 1), rfl⟩
theorem bytes_of (l : List UInt8) : ∃ s : ByteArray, s.data.toList = l := ⟨⟨l.toArray⟩, rfl⟩
theorem bytesRow_at {P : ByteArray} {l : List UInt8} (hP : P.data.toList = l) (cap : Nat) : ∀ (j : Nat) u, (cellsOf l)[j]? = some u → (bytesRow P cap).toList[j]? = some u := by
  intro j u hu
  unfold bytesRow
  rw [Array.toList_append, Array.toList_map, hP]
  unfold cellsOf at hu
  have hj : j < (l.map fun b => Value.int .u8 (b.toNat : Int)).length := by
    rcases Nat.lt_or_ge j (l.map fun b => Value.int .u8 (b.toNat : Int)).length with h | h
    · exact h
    · rw [List.getElem?_eq_none h] at hu; cases hu
  rw [List.getElem?_append_left hj]
  exact hu
theorem put_conv_no {B g : Nat} {r : Option Nat} {rest o : List UInt8} {m : Nat} {x : Obj} {n cap : Nat} {w : World} (hm : m ≤ 1048576) (hol : o.length ≤ m) (h : Dec B w g r rest o m) (hn : m < o.length + n) :
    Calls Try.prog 37 #[.pointer (some ⟨g, 0, none⟩), .slice (some ⟨w.heap.size, 0, none⟩) n cap] (w.alloc x).drew fun e w' => e = gUp 5 ∧ Two w w' g r := by
  refine (put_no B g r rest o m _ n cap _ hm hol ((h.alloc x).drewN 1) hn).mono ?_
  rintro e w' ⟨rfl, q, rfl⟩
  exact ⟨rfl, (((Two.refl w g r).alloc x).drewN 1).drewN q⟩
theorem put_conv_ok {B g : Nat} {r : Option Nat} {rest o l : List UInt8} {m : Nat} {P : ByteArray} {n cap c2 : Nat} {fr : Nat × Nat} {w : World} (hB : B ≤ w.heap.size) (hm : m ≤ 1048576) (h : Dec B w g r rest o m) (hP : P.data.toList = l) (hPs : P.size = n) (hn : ¬ m < o.length + n) (hp : 0 < n) :
    Calls Try.prog 37 #[.pointer (some ⟨g, 0, none⟩), .slice (some ⟨w.heap.size, 0, none⟩) n c2] (w.alloc (.cells (bytesRow P cap) 5 fr)).drew fun e w' => e = .returned (.tuple #[]) ∧ Put B w g r rest (o ++ l) m w' := by
  have hX : (w.alloc (.cells (bytesRow P cap) 5 fr)).drew.heap[w.heap.size]? = some (.cells (bytesRow P cap) 5 fr) := heap_alloc_new w _
  refine (put_ok B g r rest o l m ⟨w.heap.size, 0, none⟩ n c2 _ (by simp [World.drew]; omega) hm (by omega) ((h.alloc _).drewN 1) (by rw [← len_size hP, hPs]) hp ?_).mono ?_
  · intro W hW j u hu
    exact World.news_of_block ((hW w.heap.size (by simp [World.drew])).trans hX) j u (bytesRow_at hP cap j u hu)
  · rintro e w' ⟨rfl, hp⟩
    exact ⟨rfl, Put.then (.inl rfl) (((Two.refl w g r).alloc _).drewN 1) hp⟩
theorem rep_c (d : UInt8) (q : Nat) (P : ByteArray) (hq : q ≤ 300) (hP : (⟨(Lib.repeatL (⟨#[d]⟩ : ByteArray).data.toList q).toArray⟩ : ByteArray) = P) (W : World) :
    Calls Try.prog 42 #[.string ⟨#[d]⟩, .int .i64 (q : Int)] W fun e w' => e = .returned (.string P) ∧ Below W.heap.size W w' := by
  subst hP
  exact Try.strings_Repeat ⟨#[d]⟩ q W (by omega) (by show 1 * q ≤ _; omega)
theorem rep_list (d : UInt8) (q : Nat) : Lib.repeatL [d] q = List.replicate q d := by
  induction q with
  | zero => rfl
  | succ q ih => show [d] ++ Lib.repeatL [d] q = _; rw [ih, List.replicate_succ]; rfl
theorem byte_conv (c : UInt8) : wrap64 (c.toNat : Int) = (c.toNat : Int) := IntWalk.wrap64_in _ (by have := c.toNat_lt; omega)

set_option maxRecDepth 100000 in
set_option maxHeartbeats 4000000 in
theorem unrun_in (B g : Nat) (r : Option Nat) (rest : List UInt8) (m : Nat) (w : World) (hB : B ≤ w.heap.size) (hm : m ≤ 1048576) (F : Int × List UInt8) (hF : F = runD m [] rest) (h : Dec B w g r rest [] m) :
    Calls Try.prog 25 #[.pointer (some ⟨g, 0, none⟩)] w (DecEnd B w g r m F) := by
  have HF := Lib.hid hF
  have H := Lib.hid h
  have hcv := fun (P : ByteArray) (W : World) => run_bytes_of_string (P := Try.prog) W 9 30 5 P Try.underlying9 Try.underlying30 Try.underlying5
  clear hF h
  go_enter Try.func25, Try.ntmps25
  go_wp2_with fail
  go_loopw [] (fun wr => ∃ (r' : Option Nat) (rest o : List UInt8), (r' = r ∨ ∃ k, r' = some k ∧ w.heap.size ≤ k) ∧ Dec B wr g r' rest o m ∧ Two w wr g r ∧ o.length ≤ m ∧ F = runD m o rest) (fun wr => restAt wr g)
  case atStart => exact ⟨r, rest, [], .inl rfl, H.out, Two.refl _ _ _, by simp, HF.out⟩
  case round =>
    clear H HF
    obtain ⟨r1, rest1, o, hr, hD, hT, ho, hF⟩ := hrel
    have HM := Lib.hid (dec_rest hD)
    have HR := Lib.hid hr
    have HT := Lib.hid hT
    have HD := Lib.hid hD
    have HO := Lib.hid ho
    clear hr hT hD ho
    rcases rest1 with _ | ⟨c, t⟩
    · rw [runD_nil] at hF
      have HF := Lib.hid hF
      clear hF
      go_wp2_with fail
      refine (dtake_no B g r1 o m _ HD.out).mono ?_
      rintro e w1 ⟨rfl, rfl⟩
      refine ⟨rfl, ?_⟩
      exact end_no HR.out HT.out (Two.refl _ _ _) HF.out (by decide)
    · obtain ⟨S, hS, s0, s1⟩ := one_byte c
      have HS := Lib.hid hS
      have hc255 : (c.toNat : Int) ≤ 255 := by have := c.toNat_lt; omega
      have hc0 : (0 : Int) ≤ (c.toNat : Int) := by omega
      clear hS
      by_cases h128 : c = 128
      · subst h128
        rw [runD_end] at hF
        have HF := Lib.hid hF
        clear hF
        go_wp2_with fail
        refine (dtake_c B g r1 128 t o m S HS.out _ HD.out).mono ?_
        rintro e w1 ⟨rfl, hd1, ht⟩
        have HD1 := Lib.hid hd1
        have HT1 := Lib.hid ht
        clear hd1 ht
        go_wp2_with fail
        go_end0
        exact end_ok HR.out HT.out (read_put ⟨HD1.out, HT1.out⟩) HF.out
      · have h128' : ((c.toNat : Int) == 128) = false := asc_ne h128
        have hc128 : c.toNat ≠ 128 := fun e => h128 (by apply UInt8.toNat_inj.1; exact e)
        by_cases hlt : c.toNat < 128
        · have hlt' : (c.toNat : Int) < 128 := by omega
          rw [runD_lit _ _ _ hlt] at hF
          have HF := Lib.hid hF
          clear hF
          by_cases hfew : t.length < c.toNat + 1
          · have HF2 := Lib.hid (HF.out.trans (if_pos hfew))
            go_wp2_with fail
            refine (dtake_c B g r1 c t o m S HS.out _ HD.out).mono ?_
            rintro e w1 ⟨rfl, hd1, ht⟩
            have HD1 := Lib.hid hd1
            have HT1 := Lib.hid ht
            clear hd1 ht
            go_wp2_with fail
            refine (dtake_few B g r1 t o m ((c.toNat : Int) + 1) (by omega) _ HD1.out).mono ?_
            rintro e w2 ⟨rfl, rfl⟩
            refine ⟨rfl, ?_⟩
            exact end_no HR.out HT.out HT1.out HF2.out (by decide)
          · have HF2 := Lib.hid (HF.out.trans (if_neg hfew))
            obtain ⟨P, hP⟩ : ∃ P : ByteArray, P.data.toList = t.take (c.toNat + 1) := bytes_of _
            have HP := Lib.hid hP
            have hPs : P.size = c.toNat + 1 := by rw [len_size hP, List.length_take]; omega
            clear hP
            go_wp2_with fail
            refine (dtake_c B g r1 c t o m S HS.out _ HD.out).mono ?_
            rintro e w1 ⟨rfl, hd1, ht⟩
            have HD1 := Lib.hid hd1
            have HT1 := Lib.hid ht
            clear hd1 ht
            go_wp2_with fail
            refine (dtake_many B g r1 t o m (c.toNat + 1) P (by omega) HP.out _ HD1.out).mono ?_
            rintro e w2 ⟨rfl, hd1, ht⟩
            have HD2 := Lib.hid hd1
            have HT2 := Lib.hid (HT1.out.trans ht (.inl rfl))
            clear hd1 ht
            go_wp2_with fail
            by_cases hfull : m < o.length + (c.toNat + 1)
            · have HF3 := Lib.hid (HF2.out.trans (if_pos hfull))
              refine (put_conv_no hm HO.out HD2.out hfull).mono ?_
              rintro e w3 ⟨rfl, ht⟩
              refine ⟨rfl, ?_⟩
              exact end_no HR.out HT.out (HT2.out.trans ht (.inl rfl)) HF3.out (by decide)
            · have HF3 := Lib.hid (HF2.out.trans (if_neg hfull))
              refine (put_conv_ok (Nat.le_trans hB (Nat.le_trans HT.out.size HT2.out.size)) hm HD2.out HP.out hPs hfull (by omega)).mono ?_
              rintro e w3 ⟨rfl, hp⟩
              obtain ⟨r2, hr2, hd2, ht2⟩ := Put.then HR.out HT.out (Put.then (.inl rfl) HT2.out hp)
              have HD3 := Lib.hid hd2
              have HT3 := Lib.hid ht2
              have HR3 := Lib.hid hr2
              clear hp hd2 ht2 hr2
              go_wp2_with fail
              go_roundw
              case rel => exact ⟨r2, t.drop (c.toNat + 1), _, HR3.out, HD3.out, HT3.out, by rw [List.length_append, ← len_size HP.out]; omega, HF3.out⟩
              case measure => rw [HM.out, dec_rest HD3.out, List.length_drop, List.length_cons]; omega
        · have hge : ¬ (c.toNat : Int) < 128 := by omega
          have hgt : 128 < c.toNat := by omega
          rcases t with _ | ⟨d, u⟩
          · rw [runD_cut _ _ hgt] at hF
            have HF := Lib.hid hF
            clear hF
            go_wp2_with fail
            refine (dtake_c B g r1 c [] o m S HS.out _ HD.out).mono ?_
            rintro e w1 ⟨rfl, hd1, ht⟩
            have HD1 := Lib.hid hd1
            have HT1 := Lib.hid ht
            clear hd1 ht
            go_wp2_with fail
            refine (dtake_no B g r1 o m _ HD1.out).mono ?_
            rintro e w2 ⟨rfl, rfl⟩
            refine ⟨rfl, ?_⟩
            exact end_no HR.out HT.out HT1.out HF.out (by decide)
          · rw [runD_run _ _ _ _ hgt] at hF
            have HF := Lib.hid hF
            clear hF
            obtain ⟨q, hq⟩ : ∃ q, 257 - c.toNat = q := ⟨_, rfl⟩
            have hqi : 257 - (c.toNat : Int) = (q : Int) := by omega
            obtain ⟨P, hP⟩ : ∃ P : ByteArray, (⟨(Lib.repeatL (⟨#[d]⟩ : ByteArray).data.toList q).toArray⟩ : ByteArray) = P := ⟨_, rfl⟩
            have hPl : P.data.toList = List.replicate q d := by
              rw [← hP]
              exact rep_list d q
            have hPs : P.size = q := by rw [len_size hPl, List.length_replicate]
            have HP := Lib.hid hPl
            have HRp := Lib.hid (rep_c d q P (by omega) hP)
            have hq1 : 1 ≤ q := by have := c.toNat_lt; omega
            rw [hq] at HF
            clear hP hPl
            go_wp2_with fail
            refine (dtake_c B g r1 c (d :: u) o m S HS.out _ HD.out).mono ?_
            rintro e w1 ⟨rfl, hd1, ht⟩
            have HD1 := Lib.hid hd1
            have HT1 := Lib.hid ht
            clear hd1 ht
            go_wp2_with fail
            refine (dtake_one B g r1 d u o m _ HD1.out).mono ?_
            rintro e w2 ⟨rfl, hd1, ht⟩
            have HD2 := Lib.hid hd1
            have HT2 := Lib.hid (HT1.out.trans ht (.inl rfl))
            clear hd1 ht
            go_wp2_with fail
            refine (HRp.out _).mono ?_
            rintro e w3 ⟨rfl, hb⟩
            have HD3 := Lib.hid (Dec.below HD2.out hb)
            have HT3 := Lib.hid (HT2.out.trans (below_two hb) (.inl rfl))
            clear hb
            by_cases hfull : m < o.length + q
            · have HF3 := Lib.hid (HF.out.trans (if_pos hfull))
              go_wp2_with fail
              refine (put_conv_no hm HO.out HD3.out hfull).mono ?_
              rintro e w4 ⟨rfl, ht⟩
              refine ⟨rfl, ?_⟩
              exact end_no HR.out HT.out (HT3.out.trans ht (.inl rfl)) HF3.out (by decide)
            · have HF3 := Lib.hid (HF.out.trans (if_neg hfull))
              go_wp2_with fail
              refine (put_conv_ok (Nat.le_trans hB (Nat.le_trans HT.out.size HT3.out.size)) hm HD3.out HP.out hPs hfull (by omega)).mono ?_
              rintro e w4 ⟨rfl, hp⟩
              obtain ⟨r2, hr2, hd2, ht2⟩ := Put.then HR.out HT.out (Put.then (.inl rfl) HT3.out hp)
              have HD4 := Lib.hid hd2
              have HT4 := Lib.hid ht2
              have HR4 := Lib.hid hr2
              clear hp hd2 ht2 hr2
              go_wp2_with fail
              go_roundw
              case rel => exact ⟨r2, u, _, HR4.out, HD4.out, HT4.out, by rw [List.length_append, List.length_replicate]; omega, HF3.out⟩
              case measure => rw [HM.out, dec_rest HD4.out, List.length_cons, List.length_cons]; omega
end Go.Proofs.Ythioafndepkhoaa
